import Derived.Test.YtpmagndofiaooaaTub
namespace Go.Proofs.Ytpmagndofiaooaa
open Go.RowKit
set_option linter.unusedVariables false
set_option linter.unusedSimpArgs false
set_option maxRecDepth 100000

theorem chunksF_more {α : Type} : ∀ (f f' : Nat) (l : List α), l.length ≤ f → l.length ≤ f' → chunksF f l = chunksF f' l
  | 0, 0, l, _, _ => rfl
  | 0, f' + 1, l, h, _ => by
    have : l = [] := List.length_eq_zero_iff.1 (by omega)
    subst this; simp [chunksF]
  | f + 1, 0, l, _, h => by
    have : l = [] := List.length_eq_zero_iff.1 (by omega)
    subst this; simp [chunksF]
  | f + 1, f' + 1, l, h, h' => by
    simp only [chunksF]
    split
    · rfl
    · rename_i hne
      have hl : 0 < l.length := List.length_pos_iff.2 hne
      have := shareN_le hl
      rw [chunksF_more f f' _ (by rw [List.length_drop]; omega) (by rw [List.length_drop]; omega)]
theorem chunks_step {α : Type} {l : List α} (h : 0 < l.length) : chunks l = l.take (shareN l.length) :: chunks (l.drop (shareN l.length)) := by
  have hs := shareN_le h
  have hne : l ≠ [] := List.length_pos_iff.1 h
  unfold chunks
  obtain ⟨m, hm⟩ : ∃ m, l.length = m + 1 := ⟨l.length - 1, by omega⟩
  rw [hm, chunksF, if_neg hne, hm]
  rw [hm] at hs
  rw [chunksF_more m _ (l.drop (shareN (m + 1))) (by rw [List.length_drop]; omega) (Nat.le_refl _)]
theorem chunks_nil {α : Type} : chunks ([] : List α) = [] := rfl
theorem cell_three_newU (w : World) (a b c : Value) (t : TypeId) : ∀ j u, [a, b, c][j]? = some u → (w.alloc (.cells #[a, b, c] t)).cell? ((⟨w.heap.size, 0, none⟩ : Addr).add j) = some u := by
  intro j u h
  match j, h with
  | 0, h => simpa [Addr.add] using h
  | 1, h => simpa [Addr.add] using h
  | 2, h => simpa [Addr.add] using h
/-- The shares in a row that nobody writes. -/
def ShAt (W : World) (sa : Option Addr) (xs : List Int) : Prop := ∀ k, k < xs.length → ∃ g, sa = some ⟨g, 0, none⟩ ∧ g < W.heap.size ∧ W.cell? ⟨g, k, none⟩ = some (.int .i64 (xs.getD k 0))
theorem ShAt.of {w : World} {base n c : Nat} {sa : Option Addr} {xs : List Int} (h : w.ownsRow base 3 1 (.slice sa n c) n (rowsOf intCells xs)) (hn : n = xs.length) : ShAt w sa xs := fun k hk => by
  rcases h.2 with ⟨e, e2⟩ | ⟨g, cap, cur, e, hg1, hg2, h1, h2, _⟩
  · omega
  · have e9 := e
    simp only [Value.slice.injEq] at e
    obtain ⟨rfl, _, rfl⟩ := e
    refine ⟨g, rfl, (h.lt g rfl).2, ?_⟩
    have e3 := rowsOf_get ic1 0 xs k 0 hk (by omega)
    rw [Nat.mul_one, Nat.add_zero] at e3
    rw [h.cellAt k (by omega), e3]
    rfl
theorem ShAt.below {w W : World} {sa : Option Addr} {xs : List Int} (h : ShAt w sa xs) (hb : Below w.heap.size w W) : ShAt W sa xs := fun k hk => by
  obtain ⟨g, e, hl, hc⟩ := h k hk
  exact ⟨g, e, Nat.lt_of_lt_of_le hl hb.size, (hb.cell (p := ⟨g, k, none⟩) hl).trans hc⟩
theorem LvSt.lower {w0 w1 wr : World} {lo m c : Nat} {a : Option Addr} {ts : List T} {us : List Value} (h : LvSt w1 wr lo m c a ts us) (hb : Below w0.heap.size w0 w1) (hlo : w0.heap.size ≤ lo) : LvSt w0 wr w0.heap.size m c a ts us :=
  ⟨own_lowerT h.row hlo, h.len, fun i t hi => by
    obtain ⟨u, e, hG⟩ := h.node i t hi
    exact ⟨u, e, GIs.keep (fun b hp => rfl) (fun b hp => ⟨Nat.le_trans hlo hp.1, hp.2⟩) t u hG⟩, hb.trans (h.bel.mono hlo)⟩
theorem LvSt.nil (w : World) : LvSt w w w.heap.size 0 0 none [] [] :=
  ⟨World.ownsRow_nil _ _ _ _, rfl, fun i t hi => by simp at hi, Below.refl _ _⟩
set_option maxHeartbeats 8000000 in
theorem bulkLeaves_any (a : Option Addr) (n c : Nat) (zs : List (ByteArray × ByteArray)) (w : World) (B : Nat) (hB : B ≤ w.heap.size) (hp : PrAt w B a n c zs) (hn : n ≤ 1048576) :
    Calls Try.prog 35 #[.slice a n c] w fun e w' => ∃ la lm lc us, e = .returned (.slice la lm lc) ∧ LvSt w w' w.heap.size lm lc la ((chunks zs).map leafB) us := by
  have HZ : Hid (zs.length = n) := hp.1
  have hcc := hp.2.1
  have hcm := hp.2.2.1
  unfold maxLen at hcm
  have HP : Hid (∀ W, Below w.heap.size w W → PrAt W B a n c zs) := fun W hW => hp.below (hW.mono hB)
  obtain ⟨i0, hi0, hz0, hz1, hz2⟩ := info_parts info_slotU
  obtain ⟨i1, hi1, hy0, hy1, hy2⟩ := info_parts info_nodeU
  clear hp
  go_enter Try.func35, Try.ntmps35
  go_wp2_with (first | (refine (shares_any n (by omega) _).mono ?_; rintro e w1 ⟨sa, sc, rfl, hrow, hbel⟩))
  have HB1 : Hid (Below w.heap.size w w1) := hbel
  have hsz1 := hbel.size
  have HS1 : Hid (ShAt w1 sa (sharesL n)) := ShAt.of hrow rfl
  have HSN : Hid ((sharesL n).length ≤ n) := sharesL_len n
  obtain ⟨sn, hsn⟩ : ∃ sn, sn = (sharesL n).length := ⟨_, rfl⟩
  rw [← hsn]
  have HN : Hid (sn = (sharesL n).length) := hsn
  have hsn2 : sn ≤ n := by rw [hsn]; exact HSN.out
  clear hrow hbel hsn HSN
  go_wp2_with fail
  go_loopw [3, 4, 6, 7, 9, 14] (fun lv av _ _ _ i wr => ∃ (k at' lc : Nat) (la : Option Addr) (us : List Value) (dn : List (List (ByteArray × ByteArray))), k ≤ sn ∧ at' ≤ n ∧ i = .int .i64 k ∧ av = .int .i64 at' ∧ lv = .slice la k lc ∧ Hid (dn ++ chunks (zs.drop at') = chunks zs ∧ (sharesL n).drop k = sharesL (n - at')) ∧ Hid (LvSt w1 wr w1.heap.size k lc la (dn.map leafB) us)) (fun _ _ _ _ _ i _ => sn - (intOf i).toNat)
  case atStart => exact ⟨0, 0, 0, none, [], [], Nat.zero_le _, Nat.zero_le _, rfl, rfl, rfl, ⟨rfl, rfl⟩, LvSt.nil w1⟩
  case round =>
    rename World => wo
    obtain ⟨k, at', lc, la, us, dn, hk, hat, rfl, rfl, rfl, HD, HL⟩ := hrel
    have hsz := HL.out.bel.size
    by_cases hlt : k < sn
    · have hat2 : at' < n := by
        rcases Nat.lt_or_ge at' n with h | h
        · exact h
        · exfalso
          have e := HD.out.2
          rw [show n - at' = 0 by omega, sharesL_zero, List.drop_eq_nil_iff] at e
          have := HN.out; omega
      obtain ⟨s, hs⟩ : ∃ s, s = shareN (n - at') := ⟨_, rfl⟩
      have hsl := shareN_le (n := n - at') (by omega)
      rw [← hs] at hsl
      obtain ⟨hs1, hs2, hs3⟩ := hsl
      have hgd : (sharesL n).getD k 0 = (s : Int) := by
        have e := HD.out.2
        rw [sharesL_step (n := n - at') (by omega), ← hs] at e
        have e2 : ((sharesL n).drop k)[0]? = some (s : Int) := by rw [e]; rfl
        rw [List.getElem?_drop, Nat.add_zero] at e2
        simp [List.getD, e2]
      have HD2 : Hid ((dn ++ [(zs.drop at').take s]) ++ chunks (zs.drop (at' + s)) = chunks zs ∧ (sharesL n).drop (k + 1) = sharesL (n - (at' + s))) := by
        have hzl : (zs.drop at').length = n - at' := by rw [List.length_drop, HZ.out]
        constructor
        · have e := HD.out.1
          rw [chunks_step (by omega), hzl, ← hs, List.drop_drop] at e
          rw [← e]; simp
        · have e := HD.out.2
          rw [sharesL_step (n := n - at') (by omega), ← hs] at e
          rw [← List.drop_drop, e, Nat.sub_sub]; rfl
      have HCL : Hid (((zs.drop at').take s).length = s) := by
        show _ = _
        rw [List.length_take, List.length_drop, HZ.out]; omega
      obtain ⟨ch, hch⟩ : ∃ ch, ch = (zs.drop at').take s := ⟨_, rfl⟩
      rw [← hch] at HD2 HCL
      have HCH : Hid (∀ j, j < s → ch.getD j (ByteArray.empty, ByteArray.empty) = zs.getD (at' + j) (ByteArray.empty, ByteArray.empty)) := fun j hj => by
        rw [hch]
        simp [List.getD, List.getElem?_take, hj, List.getElem?_drop]
      obtain ⟨b, off, rfl, hbB, HPC⟩ : ∃ b off, a = some ⟨b, off, none⟩ ∧ b < B ∧ Hid (∀ W, Below wo.heap.size wo W → ∀ j, j < s → b < W.heap.size ∧ W.cell? ⟨b, off + at' * 2 + j * 2, none⟩ = some (.string (ch.getD j (ByteArray.empty, ByteArray.empty)).1) ∧ W.cell? ⟨b, off + at' * 2 + j * 2 + 1, none⟩ = some (.string (ch.getD j (ByteArray.empty, ByteArray.empty)).2)) := by
        have hb2 : Below w.heap.size w wo := HB1.out.trans (HL.out.bel.mono hsz1)
        obtain ⟨b, off, e, hbB, hc⟩ := (HP.out wo hb2).2.2.2 (by omega)
        refine ⟨b, off, e, hbB, fun W hW j hj => ?_⟩
        have hbw : b < wo.heap.size := by have := hb2.size; omega
        have := hc (at' + j) (by omega)
        rw [HCH.out j hj]
        rw [show off + (at' + j) * 2 = off + at' * 2 + j * 2 by omega] at this
        exact ⟨Nat.lt_of_lt_of_le hbw hW.size, (hW.cell (p := ⟨b, off + at' * 2 + j * 2, none⟩) hbw).trans this.1, (hW.cell (p := ⟨b, off + at' * 2 + j * 2 + 1, none⟩) hbw).trans this.2⟩
      obtain ⟨g, rfl, hgl, hgc⟩ := (HS1.out.below HL.out.bel) k (by have := HN.out; omega)
      rw [hgd] at hgc
      clear hgd hch hs
      have k1 := heap_alloc_new wo (.cells #[.int .i64 0, .slice none 0 0] 98)
      have HF0 : Hid (FlSt wo (wo.alloc (.cells #[.int .i64 0, .slice none 0 0] 98)) wo.heap.size 0 none 0 (slB [])) := ⟨k1, World.ownsRow_nil _ _ _ _, rfl, (Below.refl _ _).alloc (Nat.le_refl _) _⟩
      clear k1
      obtain ⟨L, hL⟩ : ∃ L, L = wo.heap.size := ⟨_, rfl⟩
      rw [← hL] at HF0
      have hWs : wo.heap.size < (wo.alloc (.cells #[.int .i64 0, .slice none 0 0] 98)).heap.size := by simp
      go_upto_region 7 with fail
      rw [← hL]
      have HLW : Hid (L = wo.heap.size) := hL
      generalize wo.alloc (.cells #[.int .i64 0, .slice none 0 0] 98) = W0 at HF0 hWs ⊢
      clear hL hgc hgl
      go_wp2_with fail
      rw [show at' + s - at' = s by omega]
      go_loopw [9, 27] (fun _ i wx => ∃ (j hc : Nat) (ha : Option Addr), j ≤ s ∧ i = .int .i64 j ∧ Hid (FlSt wo wx L j ha hc (slB (ch.take j)))) (fun _ i _ => s - (intOf i).toNat)
      case atStart => exact ⟨0, 0, none, Nat.zero_le _, rfl, HF0⟩
      case round =>
        clear HF0
        obtain ⟨j, hc, ha, hj, rfl, HF⟩ := hrel
        by_cases hjs : j < s
        · obtain ⟨hbl, p0, p1⟩ := HPC.out wr (by have h9 := HF.out.bel; rw [HLW.out] at h9; exact h9) j hjs
          obtain ⟨z, hz⟩ : ∃ z, z = ch.getD j (ByteArray.empty, ByteArray.empty) := ⟨_, rfl⟩
          rw [← hz] at p0 p1
          have HTK : Hid (slB (ch.take (j + 1)) = slB (ch.take j) ++ [(z.1, z.2, 0)]) := by rw [hz]; exact sl_snoc ch s j hjs (by rw [HCL.out]; exact Nat.le_refl _)
          clear hz
          obtain ⟨ky, vl⟩ := z
          replace p0 : wr.cell? ⟨b, off + at' * 2 + j * 2, none⟩ = some (.string ky) := p0
          replace p1 : wr.cell? ⟨b, off + at' * 2 + j * 2 + 1, none⟩ = some (.string vl) := p1
          have hba : Below wr.heap.size wr (wr.alloc (.cells #[.string ky, .string vl] 53)) := (Below.refl _ _).alloc (Nat.le_refl _) _
          have SB := heap_alloc_new wr (.cells #[.string ky, .string vl] 53)
          have FA := HF.out.below hba
          have hLl := (Array.getElem?_eq_some_iff.1 HF.out.box).1
          have HNE : Hid (∀ b, (Value.slice ha j hc).ownBlock = some b → b ≠ L ∧ b ≠ wr.heap.size) := fun b e => by
            have := HF.out.row.lt b e
            constructor <;> omega
          obtain ⟨S, hS⟩ : ∃ S, S = wr.heap.size := ⟨_, rfl⟩
          rw [← hS] at SB HNE
          have hLS : L < S := by omega
          go_upto_region 10 with fail
          rw [← hS]
          clear hS HF
          generalize wr.alloc (.cells #[.string ky, .string vl] 53) = W1 at SB FA hba ⊢
          obtain ⟨V, hV⟩ : ∃ V, V = W1.drew := ⟨_, rfl⟩
          have HV : Hid (V = W1.drew) := hV
          have hVb : Below W1.heap.size W1 V := by rw [hV]; exact (Below.refl _ _).drew
          have FV := FA.below hVb
          have SBV := boxT_below SB hVb
          obtain ⟨sV0, sV1⟩ := box_twoG SBV
          obtain ⟨_, cV⟩ := box_twoG FV.box
          have SV := (Array.getElem?_eq_some_iff.1 SBV).1
          have LV := (Array.getElem?_eq_some_iff.1 FV.box).1
          clear hV hVb FA SB SBV hba hbl p0 p1
          refine wp_region_noPanic ?_
          refine wp_region_held_drew (S := (fun W : World => W.cell? ⟨S, 0, none⟩ = some (.string ky) ∧ W.cell? ⟨S, 1, none⟩ = some (.string vl))) (by kernel_rfl) (by rw [← HV.out]; exact ⟨sV0, sV1⟩) (fun hHeld => ?_)
          rw [← HV.out] at hHeld ⊢
          refine wpAnyH_take (i := 0) (oi := { dst := some 31, op := Op.move (Operand.tmp 7), type := 94, pos := "l3_tree.go:168", after := #[], guard := none }) (v := .pointer (some ⟨L, 0, none⟩)) rfl (by kernel_rfl) (by kernel_rfl) (by kernel_rfl) (fun _ _ _ h => h) (Or.inl ⟨by rfl, ?_⟩) (by assumption) ?_
          · intro wq hSw; (try dsimp only at hSw); go_simp
          try simp only [Act.put, List.setIfInBounds_toArray, List.set_cons_zero, List.set_cons_succ]
          refine wpAnyH_take (i := 1) (oi := { dst := some 32, op := Op.move (Operand.tmp 7), type := 94, pos := "l3_tree.go:168", after := #[], guard := none }) (v := .pointer (some ⟨L, 0, none⟩)) rfl (by kernel_rfl) (by kernel_rfl) (by kernel_rfl) (fun _ _ _ h => h) (Or.inl ⟨by rfl, ?_⟩) (by assumption) ?_
          · intro wq hSw; (try dsimp only at hSw); go_simp
          try simp only [Act.put, List.setIfInBounds_toArray, List.set_cons_zero, List.set_cons_succ]
          refine wpAnyH_take (i := 2) (oi := { dst := some 33, op := Op.nilCheck (Operand.tmp 32), type := 0, pos := "l3_tree.go:168", after := #[{ on := 1, ground := Ground.data }], guard := none }) (v := .pointer (some ⟨L, 0, none⟩)) rfl (by kernel_rfl) (by kernel_rfl) (by kernel_rfl) (fun _ _ _ h => h) (Or.inl ⟨by rfl, ?_⟩) (by assumption) ?_
          · intro wq hSw; (try dsimp only at hSw); go_simp; (try (intro hx; exfalso; omega))
          try simp only [Act.put, List.setIfInBounds_toArray, List.set_cons_zero, List.set_cons_succ]
          refine wpAnyH_take (i := 3) (oi := { dst := some 34, op := Op.fieldAddr 98 (Operand.tmp 33) 1, type := 0, pos := "l3_tree.go:168", after := #[{ on := 2, ground := Ground.data }], guard := none }) (v := .pointer (some ⟨L, 1, none⟩)) rfl (by kernel_rfl) (by kernel_rfl) (by kernel_rfl) (fun _ _ _ h => h) (Or.inl ⟨by rfl, ?_⟩) (by assumption) ?_
          · intro wq hSw; (try dsimp only at hSw); go_simp
          try simp only [Act.put, List.setIfInBounds_toArray, List.set_cons_zero, List.set_cons_succ]
          refine wpAnyH_take (i := 5) (oi := { dst := some 36, op := Op.fieldAddr 53 (Operand.tmp 9) 0, type := 0, pos := "l3_tree.go:168", after := #[], guard := none }) (v := .pointer (some ⟨S, 0, none⟩)) rfl (by kernel_rfl) (by kernel_rfl) (by kernel_rfl) (fun _ _ _ h => h) (Or.inl ⟨by rfl, ?_⟩) (by assumption) ?_
          · intro wq hSw; (try dsimp only at hSw); go_simp
          try simp only [Act.put, List.setIfInBounds_toArray, List.set_cons_zero, List.set_cons_succ]
          refine wpAnyH_take (i := 7) (oi := { dst := some 38, op := Op.fieldAddr 53 (Operand.tmp 9) 1, type := 0, pos := "l3_tree.go:168", after := #[], guard := none }) (v := .pointer (some ⟨S, 1, none⟩)) rfl (by kernel_rfl) (by kernel_rfl) (by kernel_rfl) (fun _ _ _ h => h) (Or.inl ⟨by rfl, ?_⟩) (by assumption) ?_
          · intro wq hSw; (try dsimp only at hSw); go_simp
          try simp only [Act.put, List.setIfInBounds_toArray, List.set_cons_zero, List.set_cons_succ]
          refine wpAnyH_take (i := 6) (oi := { dst := some 37, op := Op.load 9 (Operand.tmp 36), type := 9, pos := "l3_tree.go:168", after := #[{ on := 5, ground := Ground.data }], guard := none }) (v := .string ky) rfl (by kernel_rfl) (by kernel_rfl) (by kernel_rfl) (fun _ _ _ h => h) (Or.inl ⟨by rfl, ?_⟩) (by assumption) ?_
          · intro wq hSw; (try dsimp only at hSw); obtain ⟨q0, q1⟩ := hSw; go_simp
          try simp only [Act.put, List.setIfInBounds_toArray, List.set_cons_zero, List.set_cons_succ]
          refine wpAnyH_take (i := 8) (oi := { dst := some 39, op := Op.load 9 (Operand.tmp 38), type := 9, pos := "l3_tree.go:168", after := #[{ on := 7, ground := Ground.data }], guard := none }) (v := .string vl) rfl (by kernel_rfl) (by kernel_rfl) (by kernel_rfl) (fun _ _ _ h => h) (Or.inl ⟨by rfl, ?_⟩) (by assumption) ?_
          · intro wq hSw; (try dsimp only at hSw); obtain ⟨q0, q1⟩ := hSw; go_simp
          try simp only [Act.put, List.setIfInBounds_toArray, List.set_cons_zero, List.set_cons_succ]
          refine wpAnyH_take (i := 9) (oi := { dst := some 40, op := Op.build 86 #[(0, Operand.tmp 37), (1, Operand.tmp 39)], type := 86, pos := "l3_tree.go:168", after := #[{ on := 6, ground := Ground.data }, { on := 8, ground := Ground.data }], guard := none }) (v := .agg #[.string ky, .string vl, .int .i64 0]) rfl (by kernel_rfl) (by kernel_rfl) (by kernel_rfl) (fun _ _ _ h => h) (Or.inl ⟨by rfl, ?_⟩) (by assumption) ?_
          · intro wq hSw; (try dsimp only at hSw); go_simp
          try simp only [Act.put, List.setIfInBounds_toArray, List.set_cons_zero, List.set_cons_succ]
          refine wpAnyH_ready (rs := [4, 10]) (by kernel_rfl) (by simp) ?_
          refine AllReadyH.cons (o := { dst := some 35, op := Op.load 89 (Operand.tmp 34), type := 89, pos := "l3_tree.go:168", after := #[{ on := 3, ground := Ground.data }], guard := none }) rfl (fun K hK => ?_) ?_
          rotate_left 1
          refine AllReadyH.cons (o := { dst := some 41, op := Op.buildSlice 89 1 #[(0, Operand.tmp 40)], type := 89, pos := "l3_tree.go:168", after := #[{ on := 9, ground := Ground.data }], guard := none }) rfl (fun K hK => ?_) ?_
          rotate_left 1
          exact AllReadyH.nil
          · go_simp
            refine hK.out _ _ (⟨sV0, sV1⟩) (fun hHeld => ?_)
            clear hK K
            try simp only [Act.put, List.setIfInBounds_toArray, List.set_cons_zero, List.set_cons_succ]
            refine wpAnyH_ready (rs := [10]) (by kernel_rfl) (by simp) ?_
            refine AllReadyH.cons (o := { dst := some 41, op := Op.buildSlice 89 1 #[(0, Operand.tmp 40)], type := 89, pos := "l3_tree.go:168", after := #[{ on := 9, ground := Ground.data }], guard := none }) rfl (fun K hK => ?_) AllReadyH.nil
            go_simp
            have hb6 : Below V.heap.size V (V.alloc (.cells #[.string ky, .string vl, .int .i64 0] 86)) := (Below.refl _ _).alloc (Nat.le_refl _) _
            have F6 := FV.below hb6
            have t0 : (V.alloc (.cells #[.string ky, .string vl, .int .i64 0] 86)).cell? ⟨S, 0, none⟩ = some (.string ky) := (hb6.cell (p := ⟨S, 0, none⟩) SV).trans sV0
            have t1 : (V.alloc (.cells #[.string ky, .string vl, .int .i64 0] 86)).cell? ⟨S, 1, none⟩ = some (.string vl) := (hb6.cell (p := ⟨S, 1, none⟩) SV).trans sV1
            have c6 : (V.alloc (.cells #[.string ky, .string vl, .int .i64 0] 86)).cell? ⟨L, 1, none⟩ = some (.slice ha j hc) := (hb6.cell (p := ⟨L, 1, none⟩) LV).trans cV
            have gl6 : L < (V.alloc (.cells #[.string ky, .string vl, .int .i64 0] 86)).heap.size := Nat.lt_of_lt_of_le LV hb6.size
            have gS6 : S < (V.alloc (.cells #[.string ky, .string vl, .int .i64 0] 86)).heap.size := Nat.lt_of_lt_of_le SV hb6.size
            refine hK.out _ _ (⟨t0, t1⟩) (fun hHeld => ?_)
            clear hK K
            try simp only [Act.put, List.setIfInBounds_toArray, List.set_cons_zero, List.set_cons_succ]
            refine wpAnyH_ready (rs := [11]) (by kernel_rfl) (by simp) ?_
            refine AllReadyH.cons (o := { dst := some 42, op := Op.call { callee := Callee.builtin Builtin.append, args := #[Operand.tmp 35, Operand.tmp 41], argTypes := #[89, 89] }, type := 89, pos := "l3_tree.go:168", after := #[{ on := 4, ground := Ground.data }, { on := 10, ground := Ground.data }], guard := none }) rfl (fun K hK => ?_) AllReadyH.nil
            refine step_append_Y rfl _ _ 89 rfl (L + 1) 86 i0 _ 3 40 Try.underlying89 hi0 hz0 hz1 hz2 rfl (by decide) (.slice ha j hc) j (rowsOf slCells (slB (ch.take j))) (by simp [Act.eval]) F6.row ⟨V.heap.size, 0, none⟩ 1 1 [.string ky, .string vl, .int .i64 0] (by simp [Act.eval]) rfl (cell_three_newU _ _ _ _ _) (by simp [Value.oneCell']) (by unfold maxLen; omega) (by omega) (by omega) ?_
            intro u7 w7 hown7 hgr7 hat7
            obtain ⟨g7, e7, rfl⟩ := rowSuccT hown7
            have HFN : Hid (FlSt wo (w7.setCell ⟨L, 1, none⟩ (.slice (some ⟨g7, 0, none⟩) (j + 1) e7)) L (j + 1) (some ⟨g7, 0, none⟩) e7 (slB (ch.take (j + 1)))) := by rw [HTK.out]; exact F6.app (z := (ky, vl, 0)) hown7 hgr7
            have F7 : Fr (fun b => (Value.slice ha j hc).ownBlock = some b) (V.alloc (.cells #[.string ky, .string vl, .int .i64 0] 86)) w7 := Fr.of_grown hgr7 (fun b e => e)
            have hne : ∀ b, (Value.slice ha j hc).ownBlock = some b → b ≠ L ∧ b ≠ S := fun b e => HNE.out b e
            have cl7 : w7.cell? ⟨L, 1, none⟩ = some (.slice ha j hc) := (World.cell?_of_block (w := V.alloc (.cells #[.string ky, .string vl, .int .i64 0] 86)) (a := ⟨L, 1, none⟩) (F7.block L gl6 (fun e => (hne L e).1 rfl))).trans c6
            have fz7 : w7.frozen? ⟨L, 1, none⟩ = false := box_fz (boxT_fr F6.box F7 (fun e => (hne L e).1 rfl)) 1
            have x0 : w7.cell? ⟨S, 0, none⟩ = some (.string ky) := (World.cell?_of_block (w := V.alloc (.cells #[.string ky, .string vl, .int .i64 0] 86)) (a := ⟨S, 0, none⟩) (F7.block S gS6 (fun e => (hne S e).2 rfl))).trans t0
            have x1 : w7.cell? ⟨S, 1, none⟩ = some (.string vl) := (World.cell?_of_block (w := V.alloc (.cells #[.string ky, .string vl, .int .i64 0] 86)) (a := ⟨S, 1, none⟩) (F7.block S gS6 (fun e => (hne S e).2 rfl))).trans t1
            have gl7 : L < w7.heap.size := Nat.lt_of_lt_of_le gl6 F7.size
            have F8 := fr_setT w7 L 1 (.slice (some ⟨g7, 0, none⟩) (j + 1) e7)
            have y0 : (w7.setCell ⟨L, 1, none⟩ (.slice (some ⟨g7, 0, none⟩) (j + 1) e7)).cell? ⟨S, 0, none⟩ = some (.string ky) := (World.cell?_of_block (w := w7) (a := ⟨S, 0, none⟩) (F8.block S (Nat.lt_of_lt_of_le gS6 F7.size) (fun e => by omega))).trans x0
            have y1 : (w7.setCell ⟨L, 1, none⟩ (.slice (some ⟨g7, 0, none⟩) (j + 1) e7)).cell? ⟨S, 1, none⟩ = some (.string vl) := (World.cell?_of_block (w := w7) (a := ⟨S, 1, none⟩) (F8.block S (Nat.lt_of_lt_of_le gS6 F7.size) (fun e => by omega))).trans x1
            clear F8 hown7 hgr7 hat7 hne F7
            refine hK.out _ _ (⟨x0, x1⟩) (fun hHeld => ?_)
            clear hK K
            try simp only [Act.put, List.setIfInBounds_toArray, List.set_cons_zero, List.set_cons_succ]
            refine wpAnyH_take (i := 12) (oi := { dst := some 43, op := Op.nilCheck (Operand.tmp 31), type := 0, pos := "l3_tree.go:168", after := #[{ on := 0, ground := Ground.data }, { on := 0, ground := Ground.phase }, { on := 1, ground := Ground.phase }, { on := 2, ground := Ground.phase }, { on := 3, ground := Ground.phase }, { on := 4, ground := Ground.phase }, { on := 5, ground := Ground.phase }, { on := 6, ground := Ground.phase }, { on := 7, ground := Ground.phase }, { on := 8, ground := Ground.phase }, { on := 9, ground := Ground.phase }, { on := 10, ground := Ground.phase }, { on := 11, ground := Ground.phase }], guard := none }) (v := .pointer (some ⟨L, 0, none⟩)) rfl (by kernel_rfl) (by kernel_rfl) (by kernel_rfl) (fun _ _ _ h => h) (Or.inl ⟨by rfl, ?_⟩) (by assumption) ?_
            · intro wq hSw; (try dsimp only at hSw); go_simp; (try (intro hx; exfalso; omega))
            try simp only [Act.put, List.setIfInBounds_toArray, List.set_cons_zero, List.set_cons_succ]
            refine wpAnyH_take (i := 13) (oi := { dst := some 44, op := Op.fieldAddr 98 (Operand.tmp 43) 1, type := 0, pos := "l3_tree.go:168", after := #[{ on := 12, ground := Ground.data }, { on := 0, ground := Ground.phase }, { on := 1, ground := Ground.phase }, { on := 2, ground := Ground.phase }, { on := 3, ground := Ground.phase }, { on := 4, ground := Ground.phase }, { on := 5, ground := Ground.phase }, { on := 6, ground := Ground.phase }, { on := 7, ground := Ground.phase }, { on := 8, ground := Ground.phase }, { on := 9, ground := Ground.phase }, { on := 10, ground := Ground.phase }, { on := 11, ground := Ground.phase }], guard := none }) (v := .pointer (some ⟨L, 1, none⟩)) rfl (by kernel_rfl) (by kernel_rfl) (by kernel_rfl) (fun _ _ _ h => h) (Or.inl ⟨by rfl, ?_⟩) (by assumption) ?_
            · intro wq hSw; (try dsimp only at hSw); go_simp
            try simp only [Act.put, List.setIfInBounds_toArray, List.set_cons_zero, List.set_cons_succ]
            refine wpAnyH_ready (rs := [14]) (by kernel_rfl) (by simp) ?_
            refine AllReadyH.cons (o := { dst := none, op := Op.store 89 (Operand.tmp 44) (Operand.tmp 42), type := 0, pos := "l3_tree.go:168", after := #[{ on := 13, ground := Ground.data }, { on := 11, ground := Ground.data }, { on := 11, ground := Ground.chain }, { on := 0, ground := Ground.phase }, { on := 1, ground := Ground.phase }, { on := 2, ground := Ground.phase }, { on := 3, ground := Ground.phase }, { on := 4, ground := Ground.phase }, { on := 5, ground := Ground.phase }, { on := 6, ground := Ground.phase }, { on := 7, ground := Ground.phase }, { on := 8, ground := Ground.phase }, { on := 9, ground := Ground.phase }, { on := 10, ground := Ground.phase }, { on := 11, ground := Ground.phase }], guard := none }) rfl (fun K hK => ?_) AllReadyH.nil
            go_simp
            refine hK.out _ _ (⟨y0, y1⟩) (fun hHeld => ?_)
            clear hK K
            try simp only [Act.put, List.setIfInBounds_toArray, List.set_cons_zero, List.set_cons_succ]
            refine wpAnyH_done (by kernel_rfl) ?_ _
            refine NoPanic.normal ?_
            clear hHeld cl7 fz7 x0 x1 y0 y1 gl7
            go_wp2_with fail
            go_roundw
            case rel => exact ⟨j + 1, e7, some ⟨g7, 0, none⟩, by omega, by go_num, HFN⟩
            case measure => simp [intOf]; omega
          · go_simp
            have hb6 : Below V.heap.size V (V.alloc (.cells #[.string ky, .string vl, .int .i64 0] 86)) := (Below.refl _ _).alloc (Nat.le_refl _) _
            have F6 := FV.below hb6
            have t0 : (V.alloc (.cells #[.string ky, .string vl, .int .i64 0] 86)).cell? ⟨S, 0, none⟩ = some (.string ky) := (hb6.cell (p := ⟨S, 0, none⟩) SV).trans sV0
            have t1 : (V.alloc (.cells #[.string ky, .string vl, .int .i64 0] 86)).cell? ⟨S, 1, none⟩ = some (.string vl) := (hb6.cell (p := ⟨S, 1, none⟩) SV).trans sV1
            have c6 : (V.alloc (.cells #[.string ky, .string vl, .int .i64 0] 86)).cell? ⟨L, 1, none⟩ = some (.slice ha j hc) := (hb6.cell (p := ⟨L, 1, none⟩) LV).trans cV
            have gl6 : L < (V.alloc (.cells #[.string ky, .string vl, .int .i64 0] 86)).heap.size := Nat.lt_of_lt_of_le LV hb6.size
            have gS6 : S < (V.alloc (.cells #[.string ky, .string vl, .int .i64 0] 86)).heap.size := Nat.lt_of_lt_of_le SV hb6.size
            refine hK.out _ _ (⟨t0, t1⟩) (fun hHeld => ?_)
            clear hK K
            try simp only [Act.put, List.setIfInBounds_toArray, List.set_cons_zero, List.set_cons_succ]
            refine wpAnyH_ready (rs := [4]) (by kernel_rfl) (by simp) ?_
            refine AllReadyH.cons (o := { dst := some 35, op := Op.load 89 (Operand.tmp 34), type := 89, pos := "l3_tree.go:168", after := #[{ on := 3, ground := Ground.data }], guard := none }) rfl (fun K hK => ?_) AllReadyH.nil
            go_simp
            refine hK.out _ _ (⟨t0, t1⟩) (fun hHeld => ?_)
            clear hK K
            try simp only [Act.put, List.setIfInBounds_toArray, List.set_cons_zero, List.set_cons_succ]
            refine wpAnyH_ready (rs := [11]) (by kernel_rfl) (by simp) ?_
            refine AllReadyH.cons (o := { dst := some 42, op := Op.call { callee := Callee.builtin Builtin.append, args := #[Operand.tmp 35, Operand.tmp 41], argTypes := #[89, 89] }, type := 89, pos := "l3_tree.go:168", after := #[{ on := 4, ground := Ground.data }, { on := 10, ground := Ground.data }], guard := none }) rfl (fun K hK => ?_) AllReadyH.nil
            refine step_append_Y rfl _ _ 89 rfl (L + 1) 86 i0 _ 3 40 Try.underlying89 hi0 hz0 hz1 hz2 rfl (by decide) (.slice ha j hc) j (rowsOf slCells (slB (ch.take j))) (by simp [Act.eval]) F6.row ⟨V.heap.size, 0, none⟩ 1 1 [.string ky, .string vl, .int .i64 0] (by simp [Act.eval]) rfl (cell_three_newU _ _ _ _ _) (by simp [Value.oneCell']) (by unfold maxLen; omega) (by omega) (by omega) ?_
            intro u7 w7 hown7 hgr7 hat7
            obtain ⟨g7, e7, rfl⟩ := rowSuccT hown7
            have HFN : Hid (FlSt wo (w7.setCell ⟨L, 1, none⟩ (.slice (some ⟨g7, 0, none⟩) (j + 1) e7)) L (j + 1) (some ⟨g7, 0, none⟩) e7 (slB (ch.take (j + 1)))) := by rw [HTK.out]; exact F6.app (z := (ky, vl, 0)) hown7 hgr7
            have F7 : Fr (fun b => (Value.slice ha j hc).ownBlock = some b) (V.alloc (.cells #[.string ky, .string vl, .int .i64 0] 86)) w7 := Fr.of_grown hgr7 (fun b e => e)
            have hne : ∀ b, (Value.slice ha j hc).ownBlock = some b → b ≠ L ∧ b ≠ S := fun b e => HNE.out b e
            have cl7 : w7.cell? ⟨L, 1, none⟩ = some (.slice ha j hc) := (World.cell?_of_block (w := V.alloc (.cells #[.string ky, .string vl, .int .i64 0] 86)) (a := ⟨L, 1, none⟩) (F7.block L gl6 (fun e => (hne L e).1 rfl))).trans c6
            have fz7 : w7.frozen? ⟨L, 1, none⟩ = false := box_fz (boxT_fr F6.box F7 (fun e => (hne L e).1 rfl)) 1
            have x0 : w7.cell? ⟨S, 0, none⟩ = some (.string ky) := (World.cell?_of_block (w := V.alloc (.cells #[.string ky, .string vl, .int .i64 0] 86)) (a := ⟨S, 0, none⟩) (F7.block S gS6 (fun e => (hne S e).2 rfl))).trans t0
            have x1 : w7.cell? ⟨S, 1, none⟩ = some (.string vl) := (World.cell?_of_block (w := V.alloc (.cells #[.string ky, .string vl, .int .i64 0] 86)) (a := ⟨S, 1, none⟩) (F7.block S gS6 (fun e => (hne S e).2 rfl))).trans t1
            have gl7 : L < w7.heap.size := Nat.lt_of_lt_of_le gl6 F7.size
            have F8 := fr_setT w7 L 1 (.slice (some ⟨g7, 0, none⟩) (j + 1) e7)
            have y0 : (w7.setCell ⟨L, 1, none⟩ (.slice (some ⟨g7, 0, none⟩) (j + 1) e7)).cell? ⟨S, 0, none⟩ = some (.string ky) := (World.cell?_of_block (w := w7) (a := ⟨S, 0, none⟩) (F8.block S (Nat.lt_of_lt_of_le gS6 F7.size) (fun e => by omega))).trans x0
            have y1 : (w7.setCell ⟨L, 1, none⟩ (.slice (some ⟨g7, 0, none⟩) (j + 1) e7)).cell? ⟨S, 1, none⟩ = some (.string vl) := (World.cell?_of_block (w := w7) (a := ⟨S, 1, none⟩) (F8.block S (Nat.lt_of_lt_of_le gS6 F7.size) (fun e => by omega))).trans x1
            clear F8 hown7 hgr7 hat7 hne F7
            refine hK.out _ _ (⟨x0, x1⟩) (fun hHeld => ?_)
            clear hK K
            try simp only [Act.put, List.setIfInBounds_toArray, List.set_cons_zero, List.set_cons_succ]
            refine wpAnyH_take (i := 12) (oi := { dst := some 43, op := Op.nilCheck (Operand.tmp 31), type := 0, pos := "l3_tree.go:168", after := #[{ on := 0, ground := Ground.data }, { on := 0, ground := Ground.phase }, { on := 1, ground := Ground.phase }, { on := 2, ground := Ground.phase }, { on := 3, ground := Ground.phase }, { on := 4, ground := Ground.phase }, { on := 5, ground := Ground.phase }, { on := 6, ground := Ground.phase }, { on := 7, ground := Ground.phase }, { on := 8, ground := Ground.phase }, { on := 9, ground := Ground.phase }, { on := 10, ground := Ground.phase }, { on := 11, ground := Ground.phase }], guard := none }) (v := .pointer (some ⟨L, 0, none⟩)) rfl (by kernel_rfl) (by kernel_rfl) (by kernel_rfl) (fun _ _ _ h => h) (Or.inl ⟨by rfl, ?_⟩) (by assumption) ?_
            · intro wq hSw; (try dsimp only at hSw); go_simp; (try (intro hx; exfalso; omega))
            try simp only [Act.put, List.setIfInBounds_toArray, List.set_cons_zero, List.set_cons_succ]
            refine wpAnyH_take (i := 13) (oi := { dst := some 44, op := Op.fieldAddr 98 (Operand.tmp 43) 1, type := 0, pos := "l3_tree.go:168", after := #[{ on := 12, ground := Ground.data }, { on := 0, ground := Ground.phase }, { on := 1, ground := Ground.phase }, { on := 2, ground := Ground.phase }, { on := 3, ground := Ground.phase }, { on := 4, ground := Ground.phase }, { on := 5, ground := Ground.phase }, { on := 6, ground := Ground.phase }, { on := 7, ground := Ground.phase }, { on := 8, ground := Ground.phase }, { on := 9, ground := Ground.phase }, { on := 10, ground := Ground.phase }, { on := 11, ground := Ground.phase }], guard := none }) (v := .pointer (some ⟨L, 1, none⟩)) rfl (by kernel_rfl) (by kernel_rfl) (by kernel_rfl) (fun _ _ _ h => h) (Or.inl ⟨by rfl, ?_⟩) (by assumption) ?_
            · intro wq hSw; (try dsimp only at hSw); go_simp
            try simp only [Act.put, List.setIfInBounds_toArray, List.set_cons_zero, List.set_cons_succ]
            refine wpAnyH_ready (rs := [14]) (by kernel_rfl) (by simp) ?_
            refine AllReadyH.cons (o := { dst := none, op := Op.store 89 (Operand.tmp 44) (Operand.tmp 42), type := 0, pos := "l3_tree.go:168", after := #[{ on := 13, ground := Ground.data }, { on := 11, ground := Ground.data }, { on := 11, ground := Ground.chain }, { on := 0, ground := Ground.phase }, { on := 1, ground := Ground.phase }, { on := 2, ground := Ground.phase }, { on := 3, ground := Ground.phase }, { on := 4, ground := Ground.phase }, { on := 5, ground := Ground.phase }, { on := 6, ground := Ground.phase }, { on := 7, ground := Ground.phase }, { on := 8, ground := Ground.phase }, { on := 9, ground := Ground.phase }, { on := 10, ground := Ground.phase }, { on := 11, ground := Ground.phase }], guard := none }) rfl (fun K hK => ?_) AllReadyH.nil
            go_simp
            refine hK.out _ _ (⟨y0, y1⟩) (fun hHeld => ?_)
            clear hK K
            try simp only [Act.put, List.setIfInBounds_toArray, List.set_cons_zero, List.set_cons_succ]
            refine wpAnyH_done (by kernel_rfl) ?_ _
            refine NoPanic.normal ?_
            clear hHeld cl7 fz7 x0 x1 y0 y1 gl7
            go_wp2_with fail
            go_roundw
            case rel => exact ⟨j + 1, e7, some ⟨g7, 0, none⟩, by omega, by go_num, HFN⟩
            case measure => simp [intOf]; omega
        · obtain rfl : j = s := by omega
          have hchl : ch.take j = ch := List.take_of_length_le (by rw [HCL.out]; exact Nat.le_refl _)
          have FC := HF.out
          rw [hchl] at FC
          have hFL := FC.len
          have hcl := HCL.out
          have hba : Below wr.heap.size wr (wr.alloc (.cells #[.iface 94 (.pointer (some ⟨L, 0, none⟩))] 70)) := (Below.refl _ _).alloc (Nat.le_refl _) _
          have FD := FC.below hba
          have hb2 : Below wo.heap.size wo (wr.alloc (.cells #[.iface 94 (.pointer (some ⟨L, 0, none⟩))] 70)) := FD.bel.mono (Nat.le_of_eq HLW.out.symm)
          have hLv := HL.out.below hsz hb2
          have hGL : GIs (wr.alloc (.cells #[.iface 94 (.pointer (some ⟨L, 0, none⟩))] 70)) (fun b => wo.heap.size ≤ b ∧ b < (wr.alloc (.cells #[.iface 94 (.pointer (some ⟨L, 0, none⟩))] 70)).heap.size) (leafB ch) (.iface 94 (.pointer (some ⟨L, 0, none⟩))) := by
            refine FlSt.leaf (zs := ch) (ha := ha) (hc := hc) (W := wo) ?_ (fun b h1 h2 => ⟨by rw [← HLW.out]; exact h1, h2⟩)
            rw [hcl]; exact FD
          have hcell := cell_one_new wr (.iface 94 (.pointer (some ⟨L, 0, none⟩))) 70
          have hrow := hLv.row
          have hszb : w1.heap.size ≤ (wr.alloc (.cells #[.iface 94 (.pointer (some ⟨L, 0, none⟩))] 70)).heap.size := Nat.le_trans hsz hb2.size
          have HB2 : Hid (Below wo.heap.size wo (wr.alloc (.cells #[.iface 94 (.pointer (some ⟨L, 0, none⟩))] 70))) := hb2
          have HGL : Hid (GIs (wr.alloc (.cells #[.iface 94 (.pointer (some ⟨L, 0, none⟩))] 70)) (fun b => wo.heap.size ≤ b ∧ b < (wr.alloc (.cells #[.iface 94 (.pointer (some ⟨L, 0, none⟩))] 70)).heap.size) (leafB ch) (.iface 94 (.pointer (some ⟨L, 0, none⟩)))) := hGL
          clear hchl FC hFL hcl hba FD hb2 hLv hGL HF
          go_wp2_with (at_builtin; refine wpList_append_ownD _ rfl _ _ 65 rfl w1.heap.size 70 i1 _ 1 16 Try.underlying65 hi1 hy0 hy1 hy2 rfl (by decide) _ _ _ rfl hrow ⟨wr.heap.size, 0, none⟩ 1 1 [.iface 94 (.pointer (some ⟨L, 0, none⟩))] rfl rfl hcell (by simp [Value.oneCell']) (by unfold maxLen; omega) (by omega) hszb ?_; intro v' w5 hown' hgr' hat'; obtain ⟨g5, e5, rfl⟩ := rowSuccT hown')
          have HNL : Hid (LvSt w1 w5 w1.heap.size (k + 1) e5 (some ⟨g5, 0, none⟩) ((dn ++ [ch]).map leafB) (us ++ [.iface 94 (.pointer (some ⟨L, 0, none⟩))])) := by
            rw [List.map_append]
            exact LvSt.push HL.out hsz HB2.out HGL.out hown' hgr' hat'
          clear hown' hgr' hat' hcell hrow HB2 HGL hszb
          go_roundw
          case rel => exact ⟨k + 1, at' + j, e5, some ⟨g5, 0, none⟩, us ++ [.iface 94 (.pointer (some ⟨L, 0, none⟩))], dn ++ [ch], by omega, by omega, by go_num, by go_num, rfl, HD2, HNL⟩
          case measure => simp [intOf]; omega
    · have hke : k = sn := by omega
      have hfin : dn = chunks zs := by
        have e := HD.out.1
        have e2 := HD.out.2
        rw [List.drop_eq_nil_of_le (by have := HN.out; omega)] at e2
        have hz : n - at' = 0 := by
          rcases Nat.eq_zero_or_pos (n - at') with h | h
          · exact h
          · rw [sharesL_step h] at e2; cases e2
        rw [List.drop_eq_nil_of_le (by rw [HZ.out]; omega), chunks_nil, List.append_nil] at e
        exact e
      have HFI : Hid (dn = chunks zs) := hfin
      clear hfin hke
      go_wp2_with fail
      go_ret
      exact ⟨la, k, lc, us, rfl, by rw [← HFI.out]; exact HL.out.lower HB1.out hsz1⟩
end Go.Proofs.Ytpmagndofiaooaa
