import Derived.Test.YtpmagndofiaooaaTlr
import Derived.Laws.Cover1
namespace Go.Proofs.Ytpmagndofiaooaa
open Go.RowKit
set_option linter.unusedVariables false
set_option linter.unusedSimpArgs false
set_option maxRecDepth 100000

/-- Whether a key lies between the two. -/
def scanB (lo hi k : ByteArray) : Bool := (Op.bytesLess lo.toList k.toList || lo.toList == k.toList) && (hi.toList.isEmpty || Op.bytesLess k.toList hi.toList)
def scanL (lo hi : ByteArray) (zs : List (ByteArray × ByteArray × Int)) : List (ByteArray × ByteArray × Int) := zs.filter (fun s => scanB lo hi s.1)
theorem scan_snoc (lo hi : ByteArray) (zs : List (ByteArray × ByteArray × Int)) (j : Nat) (hj : j < zs.length) (d : ByteArray × ByteArray × Int) : scanL lo hi (zs.take (j + 1)) = scanL lo hi (zs.take j) ++ (if scanB lo hi (zs.getD j d).1 then [zs.getD j d] else []) := by
  unfold scanL
  rw [List.take_succ_eq_append_getElem hj, List.filter_append]
  congr 1
  simp only [List.getD, List.getElem?_eq_getElem hj, Option.getD_some]
  cases h : scanB lo hi zs[j].1 <;> simp [h]
/-- What a scan answers: the list of the pairs, of one's own. -/
def ScanAns (zs : List (ByteArray × ByteArray × Int)) (w : World) (e : Ending) (w' : World) : Prop := ∃ a c, e = .returned (.slice a zs.length c) ∧ w'.ownsRow w.heap.size 53 2 (.slice a zs.length c) zs.length (rowsOf prCells zs) ∧ Below w.heap.size w w'
/-- What the document's scan answers. -/
def specScan (ts : List TN) (lo hi : ByteArray) (zs : List (ByteArray × ByteArray × Int)) : Prop := (¬ SpecOk ts → zs = []) ∧ (SpecOk ts → zs = scanL lo hi (rd ts (ts.length + 1) 0).1.slots)
set_option maxHeartbeats 4000000 in
theorem specScan_any (ts : List TN) (lo hi : ByteArray) (a : Option Addr) (n c A B : Nat) (w : World) (hB : B ≤ w.heap.size) (hT : NodesAt w A B a n c ts) :
    Calls Try.prog 23 #[.agg #[.slice a n c], .string lo, .string hi] w fun e w' => ∃ zs, specScan ts lo hi zs ∧ ScanAns zs w e w' := by
  obtain ⟨N, hN⟩ : ∃ N, w.heap.size = N := ⟨_, rfl⟩
  have k0 := heap_alloc_new w (.cells #[.slice a n c] 26)
  have b0 := (Below.refl w.heap.size w).alloc (Nat.le_refl _) (.cells #[.slice a n c] 26)
  have z0 : (w.alloc (.cells #[.slice a n c] 26)).heap.size = N + 1 := by simp [hN]
  rw [hN] at k0
  have HL : Hid (ts.length = n) := hT.1
  have hT0 := hT.below (b0.mono hB)
  clear hT
  obtain ⟨ip, hip, hp0, hp1, hp2⟩ := info_parts info_Pair
  go_enter Try.func23, Try.ntmps23
  go_upto_region 1 with fail
  generalize w.alloc (.cells #[.slice a n c] 26) = W0 at k0 b0 z0 hT0 ⊢
  have ab := (Below.refl W0.heap.size W0).alloc (Nat.le_refl _) (.cells #[] 53)
  have e1 := owns_empty W0 53 2
  have z1 : (W0.alloc (.cells #[] 53)).heap.size = N + 2 := by simp [z0]
  rw [z0] at e1
  have k1 := (ab.block N (by omega)).trans k0
  have hT1 := hT0.below (ab.mono (by omega))
  have b1 := b0.trans (ab.mono (by omega))
  go_upto_region 2 with fail
  generalize W0.alloc (.cells #[] 53) = W1 at ab e1 z1 k1 hT1 b1 ⊢
  clear ab k0 b0 z0 hT0
  have x0 := cell_one_at k1
  have l0 : N < W1.heap.size := by omega
  have hsp := specValidT_any ts a n c A B W1 (by omega) hT1
  go_wp2_with fail
  refine hsp.mono ?_
  rintro e w2 ⟨r, rfl, hr, hb2⟩
  have b2 := b1.trans (hb2.mono (by omega))
  have e2 := owns_below e1 hb2
  have k2 := (hb2.block N l0).trans k1
  have hT2 := hT1.below (hb2.mono (by omega))
  have hs2 := hb2.size
  clear hsp x0 k1 hT1 e1 b1 hb2
  cases r
  · have HNO : Hid (¬ SpecOk ts) := fun h => by simpa using hr.2 h
    clear hr
    go_wp2_with fail
    go_ret
    exact ⟨[], ⟨fun _ => rfl, fun h => absurd h HNO.out⟩, _, _, rfl, by rw [hN]; exact owns_base e2 (by omega), b2⟩
  · have HOK : Hid (SpecOk ts) := hr.1 rfl
    clear hr
    have x0 := cell_one_at k2
    have l2 : N < w2.heap.size := by omega
    have hn3 : ts.length ≤ 1000 := HOK.out.1.2
    have hdeep := l3Deep_any ts hn3 a n c A B w2 (by omega) hT2
    go_upto_region 5 with (go_at_call 44; refine hdeep.mono ?_; rintro e w3 ⟨ka, kn, kc, va, vn, vc, oa, on, oc, ya, yc, css, rfl, hX3, hb3⟩)
    clear hdeep x0 k2 hT2
    obtain ⟨t, ht⟩ : ∃ t, (rd ts (ts.length + 1) 0).1 = t := ⟨_, rfl⟩
    have HT : Hid ((rd ts (ts.length + 1) 0).1 = t) := ht
    rw [ht] at hX3 ⊢
    clear ht
    generalize (!(rd ts (ts.length + 1) 0).2.2 && decide ((rd ts (ts.length + 1) 0).2.1 = n)) = okb
    obtain ⟨_, t', hrd, hg, hky, _, hnd, _⟩ := HOK.out
    have e' : t' = t := by have := HT.out; rw [hrd] at this; exact this
    subst e'
    obtain ⟨hsh, _, _⟩ := rd_some ts _ _ _ _ hrd
    have hsl := slots_len t' ⟨true, hg⟩
    have hpr := l3Pairs_any w3.heap.size t' hsh ⟨true, hg⟩ (by omega)
    have HM : Hid (t'.slots.length ≤ 4000) := by show _ ≤ _; omega
    obtain ⟨M, hM⟩ : ∃ M, w3.heap.size = M := ⟨_, rfl⟩
    have ab := (Below.refl w3.heap.size w3).alloc (Nat.le_refl _) (.cells #[.bool t'.leaf, .int .i64 t'.page, .slice ka kn kc, .slice va vn vc, .slice oa on oc, .slice ya t'.kids.length yc] 61)
    have kM := heap_alloc_new w3 (.cells #[.bool t'.leaf, .int .i64 t'.page, .slice ka kn kc, .slice va vn vc, .slice oa on oc, .slice ya t'.kids.length yc] 61)
    rw [hM] at kM hpr
    have hs3 := hb3.size
    have hX4 : NodeX (w3.alloc (.cells #[.bool t'.leaf, .int .i64 t'.page, .slice ka kn kc, .slice va vn vc, .slice oa on oc, .slice ya t'.kids.length yc] 61)) 0 M (fun b => b < M) t' ka kn kc va vn vc oa on oc ya yc css :=
      hX3.wide (fun k h1 h2 => ab.block k (by omega)) (fun b hb => ab.block b hb.2) (fun b hb => by omega) (Nat.zero_le _) (by omega)
    have e4 := owns_below (owns_below e2 hb3) ab
    have b4 := (b2.trans (hb3.mono (by omega))).trans (ab.mono (by omega))
    have hpc := hpr _ ka kn kc va vn vc oa on oc ya yc css (by rw [← hM]; exact ab.size) hX4
    obtain ⟨q0, q1, q2, q3, q4, q5⟩ := box6 kM
    have lM := (Array.getElem?_eq_some_iff.1 kM).1
    obtain ⟨S, hS⟩ : ∃ S, t'.slots = S := ⟨_, rfl⟩
    have HS : Hid (t'.slots = S) := hS
    unfold PairsAns at hpc
    rw [hS] at hpc HM
    clear hpr hX3 hX4 hsl hS hg hky hsh hrd hnd hn3
    have hsz4 : N < (w3.alloc (.cells #[.bool t'.leaf, .int .i64 t'.page, .slice ka kn kc, .slice va vn vc, .slice oa on oc, .slice ya t'.kids.length yc] 61)).heap.size := by omega
    generalize (w3.alloc (.cells #[.bool t'.leaf, .int .i64 t'.page, .slice ka kn kc, .slice va vn vc, .slice oa on oc, .slice ya t'.kids.length yc] 61)) = W4 at *
    go_wp2_with fail
    refine hpc.mono ?_
    rintro e w5 ⟨gp, cp, rfl, hownP, hb5⟩
    clear hpc q0 q1 q2 q3 q4 q5
    have e5 := owns_below e4 hb5
    have b5 := b4.trans (hb5.mono b4.size)
    have hgp := hownP.lt gp rfl
    have HGP : Hid (∀ wr, Fr (fun k => N + 1 ≤ k ∧ k < W4.heap.size ∨ w5.heap.size ≤ k) w5 wr → ∀ j, j < S.length → wr.cell? ⟨gp, j * 2, none⟩ = some (.string (S.getD j (ByteArray.empty, ByteArray.empty, 0)).1) ∧ wr.cell? ⟨gp, j * 2 + 1, none⟩ = some (.string (S.getD j (ByteArray.empty, ByteArray.empty, 0)).2.1)) := fun wr hf j hj => by
      have hc : ∀ r, r < 2 → wr.cell? ⟨gp, j * 2 + r, none⟩ = (prCells (S.getD j (ByteArray.empty, ByteArray.empty, 0)))[r]? := fun r hr => by
        rw [World.cell?_of_block (w := w5) (a := ⟨gp, j * 2 + r, none⟩) (hf.block gp hgp.2 (by omega)), hownP.cellAt (j * 2 + r) (by omega)]
        exact rowsOf_get pr2 _ S j r hj hr
      exact ⟨by simpa [prCells] using hc 0 (by omega), by simpa [prCells] using hc 1 (by omega)⟩
    clear hownP e4 e2 b4 b2 hb3 ab kM hb5
    obtain ⟨sl, hsl⟩ : ∃ sl, S.length = sl := ⟨_, rfl⟩
    have HSL : Hid (S.length = sl) := hsl
    rw [hsl] at HGP HM ⊢
    have hsl4 : sl ≤ 4000 := HM.out
    clear hsl
    have hW4 : N + 1 < W4.heap.size := by omega
    have hw5 : W4.heap.size ≤ w5.heap.size := by omega
    have lgp : gp < w5.heap.size := hgp.2
    go_wp2_with fail
    go_loopw [7, 11] (fun o i wr => ∃ (j m g cc : Nat), j ≤ sl ∧ i = .int .i64 j ∧ o = .slice (some ⟨g, 0, none⟩) m cc ∧ m ≤ j ∧ Hid (m = (scanL lo hi (S.take j)).length) ∧ wr.ownsRow (N + 1) 53 2 (.slice (some ⟨g, 0, none⟩) m cc) m (rowsOf prCells (scanL lo hi (S.take j))) ∧ Fr (fun k => N + 1 ≤ k ∧ k < W4.heap.size ∨ w5.heap.size ≤ k) w5 wr ∧ (g < W4.heap.size ∨ w5.heap.size ≤ g)) (fun _ i _ => sl - (intOf i).toNat)
    case atStart => exact ⟨0, 0, N + 1, 0, Nat.zero_le _, rfl, rfl, Nat.le_refl _, by show _ = _; simp [scanL], by simpa [scanL, rowsOf] using e5, Fr.refl _ _, .inl hW4⟩
    case round =>
      clear e5
      obtain ⟨j, m, g, cc, hj, rfl, rfl, hmj, HMM, hown, hfr, hg⟩ := hrel
      have hgl := hown.lt g rfl
      have hszr := hfr.size
      by_cases hlt : j < sl
      · obtain ⟨c0, c1⟩ := HGP.out wr hfr j hlt
        have lgr : gp < wr.heap.size := by omega
        have hsn := scan_snoc lo hi S j (by have := HSL.out; omega) (ByteArray.empty, ByteArray.empty, 0)
        obtain ⟨s, hs⟩ : ∃ s, S.getD j (ByteArray.empty, ByteArray.empty, 0) = s := ⟨_, rfl⟩
        rw [hs] at c0 c1 hsn
        clear hs
        obtain ⟨sk, sv, so⟩ := s
        simp only at c0 c1 hsn
        obtain ⟨sb, hsb⟩ : ∃ sb, scanB lo hi sk = sb := ⟨_, rfl⟩
        rw [hsb] at hsn
        have HSKIP : Hid (sb = false → Hid (m = (scanL lo hi (S.take (j + 1))).length) ∧ wr.ownsRow (N + 1) 53 2 (.slice (some ⟨g, 0, none⟩) m cc) m (rowsOf prCells (scanL lo hi (S.take (j + 1))))) := fun h => by
          rw [h] at hsn
          simp at hsn
          rw [hsn]
          exact ⟨HMM, hown⟩
        have ab := (Below.refl wr.heap.size wr).alloc (Nat.le_refl _) (.cells #[.string sk, .string sv] 53)
        have HRW : Hid ((wr.alloc (.cells #[.string sk, .string sv] 53)).ownsRow (N + 1) 53 2 (.slice (some ⟨g, 0, none⟩) m cc) m (rowsOf prCells (scanL lo hi (S.take j)))) := owns_below hown ab
        have hNs : N + 1 ≤ (wr.alloc (.cells #[.string sk, .string sv] 53)).heap.size := by have := ab.size; omega
        have HPU0 : Hid (sb = true → ∀ g' c' w6, w6.ownsRow (N + 1) 53 2 (.slice (some ⟨g', 0, none⟩) (m + 1) c') (m + 1) (rowsOf prCells (scanL lo hi (S.take j)) ++ [.string sk, .string sv]) → (wr.alloc (.cells #[.string sk, .string sv] 53)).grownBy w6 (some g) → (g' = g ∨ (wr.alloc (.cells #[.string sk, .string sv] 53)).heap.size ≤ g') → w6.ownsRow (N + 1) 53 2 (.slice (some ⟨g', 0, none⟩) (m + 1) c') (m + 1) (rowsOf prCells (scanL lo hi (S.take (j + 1)))) ∧ Fr (fun k => N + 1 ≤ k ∧ k < W4.heap.size ∨ w5.heap.size ≤ k) w5 w6 ∧ (g' < W4.heap.size ∨ w5.heap.size ≤ g') ∧ Hid (m + 1 = (scanL lo hi (S.take (j + 1))).length)) := fun h g' c' w6 h1 h2 h3 => by
          rw [h] at hsn
          simp only [if_true] at hsn
          rw [hsn]
          refine ⟨by rw [rowsOf_append]; exact h1, ?_, ?_, ?_⟩
          · refine (hfr.trans (Fr.of_below ab)).trans (Fr.of_grown h2 (fun k e => ?_))
            cases e
            omega
          · have := ab.size
            rcases h3 with e | e <;> omega
          · show _ = _
            rw [List.length_append, ← HMM.out]
            rfl
        unfold scanB at hsb
        have HSB : Hid (((Op.bytesLess lo.toList sk.toList || lo.toList == sk.toList) && (hi.toList.isEmpty || Op.bytesLess sk.toList hi.toList)) = sb) := hsb
        clear hsn hsb ab hown HMM
        by_cases t1 : (Op.bytesLess lo.toList sk.toList || lo.toList == sk.toList) = true
        · by_cases t2 : hi.toList = []
          · have hsb : sb = true := by rw [← HSB.out, t1, t2]; rfl
            have HPU : Hid _ := HPU0.out hsb
            clear HPU0 HSKIP HSB hsb
            go_wp2_with (at_builtin; refine wpList_append_nodeT _ rfl _ _ 28 rfl (N + 1) 53 ip _ 2 32 Try.underlying28 hip hp0 hp1 hp2 rfl (by decide) g m cc _ rfl HRW.out ⟨wr.heap.size, 0, none⟩ 1 [.string sk, .string sv] rfl rfl (cell_two_newT _ _ _ _) (by simp [Value.oneCell']) (by unfold maxLen; omega) (by omega) hNs ?_; intro g' c' w6 h1 h2 h3; obtain ⟨R1, R2, R3, R4⟩ := HPU.out g' c' w6 h1 h2 h3; clear h1 h2 h3 HPU HRW)
            go_roundw
            case rel => exact ⟨j + 1, m + 1, g', c', by omega, by go_num, rfl, by omega, R4, R1, R2, R3⟩
            case measure => simp [intOf]; omega
          · by_cases t3 : Op.bytesLess sk.toList hi.toList = true
            · have hsb : sb = true := by rw [← HSB.out, t1, t3]; simp
              have HPU : Hid _ := HPU0.out hsb
              clear HPU0 HSKIP HSB hsb
              go_wp2_with (at_builtin; refine wpList_append_nodeT _ rfl _ _ 28 rfl (N + 1) 53 ip _ 2 32 Try.underlying28 hip hp0 hp1 hp2 rfl (by decide) g m cc _ rfl HRW.out ⟨wr.heap.size, 0, none⟩ 1 [.string sk, .string sv] rfl rfl (cell_two_newT _ _ _ _) (by simp [Value.oneCell']) (by unfold maxLen; omega) (by omega) hNs ?_; intro g' c' w6 h1 h2 h3; obtain ⟨R1, R2, R3, R4⟩ := HPU.out g' c' w6 h1 h2 h3; clear h1 h2 h3 HPU HRW)
              go_roundw
              case rel => exact ⟨j + 1, m + 1, g', c', by omega, by go_num, rfl, by omega, R4, R1, R2, R3⟩
              case measure => simp [intOf]; omega
            · have t3' : Op.bytesLess sk.toList hi.toList = false := by simpa using t3
              have hsb : sb = false := by rw [← HSB.out, t1, t3']; simpa using t2
              have t2' : hi.toList.isEmpty = false := by simpa using t2
              subst hsb
              clear HPU0 HSB HRW t3
              go_wp2_with fail
              go_roundw
              case rel => exact ⟨j + 1, m, g, cc, by omega, by go_num, rfl, by omega, (HSKIP.out rfl).1, (HSKIP.out rfl).2, hfr, hg⟩
              case measure => simp [intOf]; omega
        · have t1' : (Op.bytesLess lo.toList sk.toList || lo.toList == sk.toList) = false := by simpa using t1
          have hsb : sb = false := by rw [← HSB.out, t1']; rfl
          subst hsb
          clear HPU0 HSB HRW t1
          go_wp2_with fail
          go_roundw
          case rel => exact ⟨j + 1, m, g, cc, by omega, by go_num, rfl, by omega, (HSKIP.out rfl).1, (HSKIP.out rfl).2, hfr, hg⟩
          case measure => simp [intOf]; omega
      · have hjs : j = sl := by omega
        have HALL : Hid (scanL lo hi (S.take j) = scanL lo hi S) := by
          show _ = _
          rw [List.take_of_length_le (by have := HSL.out; omega)]
        rw [HALL.out] at hown HMM
        have hm2 : m = (scanL lo hi S).length := HMM.out
        have hb6 : Below w.heap.size w wr := b5.trans (hfr.below (by omega) (fun k hk => by omega))
        have HFIN : Hid (ScanAns (scanL lo hi S) w (.returned (.slice (some ⟨g, 0, none⟩) m cc)) wr) := ⟨some ⟨g, 0, none⟩, cc, by rw [hm2], by rw [hN, ← hm2]; exact owns_base hown (by omega), hb6⟩
        clear hown HMM hm2 HALL
        go_wp2_with fail
        go_ret
        exact ⟨scanL lo hi S, ⟨fun h => absurd HOK.out h, fun _ => by rw [HT.out, HS.out]⟩, HFIN.out⟩
end Go.Proofs.Ytpmagndofiaooaa
