import Derived.Test.YtdieplpegkiolaaGAW
import Derived.Test.YtdieplpegkiolaaGBC
namespace Go.Proofs.Ytdieplpegkiolaa
open Go.RowKit
set_option linter.unusedVariables false
set_option linter.unusedSimpArgs false
set_option maxRecDepth 100000

/-- Whether a stream with this base and stamp may hold a page. -/
def holdB (base tx : Int) (bs : List Int) : Bool := (New.decR bs).1 && decide ((New.decR bs).2.kind ≠ 1) && decide (base < (New.decR bs).2.tx) && decide ((New.decR bs).2.tx ≤ tx)
theorem box_tenP {w : World} {N : Nat} {v0 v1 v2 v3 v4 v5 v6 v7 v8 v9 : Value} {t : TypeId} (h : w.heap[N]? = some (.cells #[v0, v1, v2, v3, v4, v5, v6, v7, v8, v9] t)) : w.cell? ⟨N, 0, none⟩ = some v0 ∧ w.cell? ⟨N, 1, none⟩ = some v1 ∧ w.cell? ⟨N, 2, none⟩ = some v2 := by
  refine ⟨?_, ?_, ?_⟩ <;> simp [World.cell?, h]
set_option maxHeartbeats 1600000 in
theorem mayHold_any (id tx base root : Int) (pa : Option Addr) (pn pc : Nat) (a : Option Addr) (c : Nat) (bs : List Int) (w : World) (A B : Nat) (hB : B ≤ w.heap.size) (hb : BytesAt w A B a 128 c bs) :
    Calls Try.prog 43 #[.agg #[.int .i64 id, .int .i64 tx, .int .i64 base, .int .i64 root, .slice pa pn pc], .slice a 128 c] w fun e w' => e = .returned (.bool (holdB base tx bs)) ∧ Below w.heap.size w w' := by
  have hb0 : Below w.heap.size w (w.alloc (.cells #[.int .i64 id, .int .i64 tx, .int .i64 base, .int .i64 root, .slice pa pn pc] 25)) := (Below.refl _ _).alloc (Nat.le_refl _) _
  have k0 := heap_alloc_new w (.cells #[.int .i64 id, .int .i64 tx, .int .i64 base, .int .i64 root, .slice pa pn pc] 25)
  have HB : Hid (BytesAt w A B a 128 c bs) := hb
  clear hb
  go_enter Try.func43, Try.ntmps43
  go_wp2_with fail
  generalize w.alloc (.cells #[.int .i64 id, .int .i64 tx, .int .i64 base, .int .i64 root, .slice pa pn pc] 25) = W0 at hb0 k0 ⊢
  obtain ⟨D, hD⟩ : ∃ D, D = New.decR bs := ⟨_, rfl⟩
  have himp := New.dec_impl a 128 c bs W0 A B (Nat.le_trans hB hb0.size) (HB.out.below (hb0.mono hB))
  rw [← hD] at himp
  have HH : Hid (holdB base tx bs = (D.1 && decide (D.2.kind ≠ 1) && decide (base < D.2.tx) && decide (D.2.tx ≤ tx))) := by show _ = _; rw [hD]; rfl
  clear hD
  obtain ⟨ok, kd, px, di, rt, ct, kl, el, nx, da⟩ := D
  simp only at himp HH
  refine himp.mono ?_
  rintro e w1 ⟨ka, kc, ea, ec, rfl, _, _, _, hb1⟩
  have bel1 : Below w.heap.size w w1 := hb0.trans (hb1.mono hb0.size)
  have X0 := box_below k0 hb1
  have l0 : w.heap.size < w1.heap.size := (Array.getElem?_eq_some_iff.1 X0).1
  have hb2 : Below w1.heap.size w1 (w1.alloc (.cells #[.bool ok, .int .i64 kd, .int .i64 px, .int .i64 di, .int .i64 rt, .int .i64 ct, .slice ka kl.length kc, .slice ea el.length ec, .int .i64 nx, .string da] 58)) := (Below.refl _ _).alloc (Nat.le_refl _) _
  have X2 := heap_alloc_new w1 (.cells #[.bool ok, .int .i64 kd, .int .i64 px, .int .i64 di, .int .i64 rt, .int .i64 ct, .slice ka kl.length kc, .slice ea el.length ec, .int .i64 nx, .string da] 58)
  obtain ⟨x0, x1, x2, x3, x4⟩ := box_fiveC (box_below X0 hb2)
  obtain ⟨y0, y1, y2⟩ := box_tenP X2
  have HBW : Hid (Below w.heap.size w (w1.alloc (.cells #[.bool ok, .int .i64 kd, .int .i64 px, .int .i64 di, .int .i64 rt, .int .i64 ct, .slice ka kl.length kc, .slice ea el.length ec, .int .i64 nx, .string da] 58))) := bel1.trans (hb2.mono bel1.size)
  clear himp k0 hb0 hb1 X0 X2 hb2 bel1 HB
  go_upto_region 2 with fail
  generalize w1.alloc (.cells #[.bool ok, .int .i64 kd, .int .i64 px, .int .i64 di, .int .i64 rt, .int .i64 ct, .slice ka kl.length kc, .slice ea el.length ec, .int .i64 nx, .string da] 58) = w2 at x0 x1 x2 x3 x4 y0 y1 y2 HBW ⊢
  cases ok
  · go_wp2_with fail
    go_ret
    exact ⟨by rw [HH.out]; rfl, HBW.out⟩
  · by_cases t1 : kd = 1
    · have d1 : (kd != 1) = false := by simp [t1]
      have HR : Hid (holdB base tx bs = false) := by show _ = _; rw [HH.out, t1]; simp
      go_wp2_with fail
      go_ret
      exact ⟨by rw [HR.out]; rfl, HBW.out⟩
    · have d1 : (kd != 1) = true := by simp [t1]
      by_cases t2 : base < px
      · have d2 : decide (base < px) = true := by simpa using t2
        have HR : Hid (holdB base tx bs = decide (px ≤ tx)) := by show _ = _; rw [HH.out]; simp [t1, t2]
        go_wp2_with fail
        go_ret
        exact ⟨by rw [HR.out]; rfl, HBW.out⟩
      · have d2 : decide (base < px) = false := by simpa using t2
        have HR : Hid (holdB base tx bs = false) := by show _ = _; rw [HH.out]; simp [t1, t2]
        go_wp2_with fail
        go_ret
        exact ⟨by rw [HR.out]; rfl, HBW.out⟩
/-- A page's frame as it is read. -/
structure Fm where
  num : Int
  data : List Int
  st : Rs
def pageS (bs : List Int) (base tx last : Int) (s : Rs) : Fm :=
  let s1 := markS bs 4 [80] s
  let body := takeV bs 132 s1
  let s2 := takeS bs.length 132 s1
  let sum := leN (takeV bs 4 s2)
  let s3 := takeS bs.length 4 s2
  let num := leN (body.take 4)
  ⟨num, body.drop 4, wantS (crcOf body == sum && holdB base tx (body.drop 4)) 4 (wantS (inB 2 999 num && decide (last < num)) 4 s3)⟩
theorem box_twoP {w : World} {N : Nat} {v0 v1 : Value} {t : TypeId} (h : w.heap[N]? = some (.cells #[v0, v1] t)) : w.cell? ⟨N, 0, none⟩ = some v0 ∧ w.cell? ⟨N, 1, none⟩ = some v1 ∧ ∀ j, w.frozen? ⟨N, j, none⟩ = false := by
  refine ⟨by simp [World.cell?, h], by simp [World.cell?, h], fun j => by simp [World.frozen?, h]⟩
theorem two_set {w : World} {N t : Nat} {v0 v1 : Value} (h : w.heap[N]? = some (.cells #[v0, v1] t)) (u0 u1 : Value) : ((w.setCell ⟨N, 0, none⟩ u0).setCell ⟨N, 1, none⟩ u1).heap[N]? = some (.cells #[u0, u1] t) ∧ Fr (fun x => x = N) w ((w.setCell ⟨N, 0, none⟩ u0).setCell ⟨N, 1, none⟩ u1) :=
  ⟨by simp [World.setCell, Array.getElem?_modify, h], (fr_setCell _ _ _ _).trans (fr_setCell _ _ _ _)⟩
theorem two_allocsP {w : World} {x0 x1 : Obj} {W0 : World} (h : W0 = (w.alloc x0).alloc x1) : W0.heap.size = w.heap.size + 2 ∧ Below w.heap.size w W0 ∧ W0.heap[w.heap.size]? = some x0 ∧ W0.heap[w.heap.size + 1]? = some x1 := by
  subst h
  have z : ∀ (X : World) (x : Obj), (X.alloc x).heap.size = X.heap.size + 1 := fun X x => by simp
  refine ⟨by simp, ((Below.refl _ _).alloc (Nat.le_refl _) _).alloc (by simp only [z]; omega) _, ?_, ?_⟩
  · rw [heap_alloc_old _ _ (by simp only [z]; omega)]; exact heap_alloc_new _ _
  · have := heap_alloc_new (w.alloc x0) x1; rwa [z] at this
/-- The page that was read, in a box of its own. -/
def Fin2 (V W : World) (Z : Nat) (va : Option Addr) (vc : Nat) (num : Int) (data : List Int) : Prop :=
  V.heap.size ≤ Z ∧ W.heap[Z]? = some (.cells #[.int .i64 num, .slice va 128 vc] 41) ∧ W.ownsRow V.heap.size 5 1 (.slice va 128 vc) 128 (u8s data) ∧ (∀ g, (Value.slice va 128 vc).ownBlock = some g → g ≠ Z) ∧ Below V.heap.size V W
theorem fin2_store {V W : World} {Z : Nat} {va : Option Addr} {vc : Nat} {num : Int} {data : List Int} (h0 : V.heap.size ≤ Z) (h1 : W.heap[Z]? = some (.cells #[.int .i64 0, .slice none 0 0] 41)) (h2 : W.ownsRow V.heap.size 5 1 (.slice va 128 vc) 128 (u8s data)) (h3 : ∀ g, (Value.slice va 128 vc).ownBlock = some g → g ≠ Z) (h4 : Below V.heap.size V W) :
    Fin2 V ((W.setCell ⟨Z, 0, none⟩ (.int .i64 num)).setCell ⟨Z, 1, none⟩ (.slice va 128 vc)) Z va vc num data := by
  obtain ⟨k1, k2⟩ := two_set h1 (.int .i64 num) (.slice va 128 vc)
  exact ⟨h0, k1, owns_fr h2 k2 h3, h3, h4.trans (k2.below h4.size (fun g e => by omega))⟩
set_option maxHeartbeats 8000000 in
theorem rPage_any (R : Nat) (a : Option Addr) (n c A B : Nat) (bs : List Int) (s : Rs) (id tx base root last : Int) (pa : Option Addr) (pn pc : Nat) (w : World) (h : RSt w R a n c A B bs s) :
    Calls Try.prog 25 #[.pointer (some ⟨R, 0, none⟩), .agg #[.int .i64 id, .int .i64 tx, .int .i64 base, .int .i64 root, .slice pa pn pc], .int .i64 last] w fun e w' => ∃ va vc, e = .returned (.agg #[.int .i64 (pageS bs base tx last s).num, .slice va 128 vc]) ∧ w'.ownsRow w.heap.size 5 1 (.slice va 128 vc) 128 (u8s (pageS bs base tx last s).data) ∧ RSt w' R a n c A B bs (pageS bs base tx last s).st ∧ Fr (fun x => x = R) w w' := by
  have hbl : Hid (bs.length = n) := h.by_.1
  have hby := h.by_.2.2.2.1
  have hRl := h.lt
  obtain ⟨H, hH⟩ : ∃ H, H = pageS bs base tx last s := ⟨_, rfl⟩
  rw [← hH]
  have HH : Hid (H = pageS bs base tx last s) := hH
  clear hH
  obtain ⟨W0, hW0⟩ : ∃ W0, W0 = (w.alloc (.cells #[.int .i64 id, .int .i64 tx, .int .i64 base, .int .i64 root, .slice pa pn pc] 25)).alloc (.cells #[.int .i64 0, .slice none 0 0] 41) := ⟨_, rfl⟩
  obtain ⟨hs0, hb0, k0, k1⟩ := two_allocsP hW0
  have HW0 : Hid (W0 = (w.alloc (.cells #[.int .i64 id, .int .i64 tx, .int .i64 base, .int .i64 root, .slice pa pn pc] 25)).alloc (.cells #[.int .i64 0, .slice none 0 0] 41)) := hW0
  clear hW0
  go_enter Try.func25, Try.ntmps25
  go_wp2_with fail
  rw [← HW0.out]
  clear HW0
  have H0 := h.below hb0
  clear h
  refine (rMark_any R a n c A B bs s ⟨#[80]⟩ (by decide) 4 W0 H0).mono ?_
  rintro e w1 ⟨rfl, H1, hF1⟩
  have e1 : markS bs 4 (ByteArray.mk #[80]).data.toList s = markS bs 4 [80] s := rfl
  rw [e1] at H1
  clear e1
  obtain ⟨s1, hs1'⟩ : ∃ x, x = markS bs 4 [80] s := ⟨_, rfl⟩
  rw [← hs1'] at H1
  have hs1 : Hid (s1 = markS bs 4 [80] s) := hs1'
  clear hs1'
  go_wp2_with fail
  refine (rTake_any R a n c A B bs s1 132 (by omega) (by omega) w1 H1).mono ?_
  rintro e w2 ⟨bb, bo, bc, rfl, hBO2, H2, hF2⟩
  obtain ⟨s2, hs2'⟩ : ∃ x, x = takeS n 132 s1 := ⟨_, rfl⟩
  rw [← hs2'] at H2
  have hs2 : Hid (s2 = takeS n 132 s1) := hs2'
  clear hs2'
  obtain ⟨body, hbo'⟩ : ∃ x, x = takeV bs 132 s1 := ⟨_, rfl⟩
  rw [← hbo'] at hBO2
  have hbody : Hid (body = takeV bs 132 s1) := hbo'
  clear hbo'
  go_wp2_with fail
  refine (rNum_any R a n c A B bs s2 w2 H2).mono ?_
  rintro e V ⟨rfl, H3, hF3⟩
  have hBO3 := hBO2.fr hF3
  have F3 : Fr (fun x => x = R) W0 V := (hF1.trans hF2).trans hF3
  have K0 := box_fr k0 F3 (by omega)
  have K1 := box_fr k1 F3 (by omega)
  obtain ⟨s3, hs3'⟩ : ∃ x, x = takeS n 4 s2 := ⟨_, rfl⟩
  rw [← hs3'] at H3
  have hs3 : Hid (s3 = takeS n 4 s2) := hs3'
  clear hs3'
  have r5 := num_range hby s2
  obtain ⟨sum, hsum⟩ : ∃ x, x = leN (takeV bs 4 s2) := ⟨_, rfl⟩
  rw [← hsum] at r5 ⊢
  replace hsum : Hid (sum = leN (takeV bs 4 s2)) := hsum
  obtain ⟨A', B', q1, q2, q3⟩ := hBO3
  have HBY : Hid (∀ W, Below V.heap.size V W → BytesAt W A' B' (some ⟨bb, bo, none⟩) 132 bc body) := fun W hW => q3.below (hW.mono q1)
  have hbc : 132 ≤ bc ∧ bc ≤ maxLen := ⟨q3.2.1, q3.2.2.1⟩
  have hbl2 : Hid (body.length = 132) := q3.1
  have HBR : Hid (∀ x ∈ body, 0 ≤ x ∧ x ≤ 255) := q3.2.2.2.1
  have HV : Hid (RSt V R a n c A B bs s3 ∧ Fr (fun x => x = R) w V ∧ V.heap[w.heap.size]? = some (.cells #[.int .i64 id, .int .i64 tx, .int .i64 base, .int .i64 root, .slice pa pn pc] 25) ∧ V.heap[w.heap.size + 1]? = some (.cells #[.int .i64 0, .slice none 0 0] 41) ∧ w.heap.size + 2 ≤ V.heap.size ∧ R < V.heap.size) := ⟨H3, (Fr.of_below hb0).trans F3, K0, K1, by have := F3.size; omega, H3.lt⟩
  obtain ⟨num, hnum⟩ : ∃ x, x = leN (body.take 4) := ⟨_, rfl⟩
  have HN : Hid (num = leN (body.take 4)) := hnum
  have rn : 0 ≤ num ∧ num < 4294967296 := by
    have := leN_range (body.take 4) (fun x hx => HBR.out x (List.mem_of_mem_take hx))
    have e4 : (256 : Int) ^ 4 = 4294967296 := by decide
    have e5 : (body.take 4).length = 4 := by have := hbl2.out; simp; omega
    rw [e5, e4] at this
    rw [hnum]; exact this
  have HD : Hid (∀ W, Below V.heap.size V W → BytesAt W A' B' (some ⟨bb, bo + 4, none⟩) 128 (bc - 4) (body.drop 4)) := fun W hW => by
    have := bytesAt_sub (HBY.out W hW) 4 128 (by omega) (by omega)
    rwa [List.take_of_length_le (by have := hbl2.out; simp; omega)] at this
  have HE : Hid (H = ⟨num, body.drop 4, wantS (crcOf body == sum && holdB base tx (body.drop 4)) 4 (wantS (inB 2 999 num && decide (last < num)) 4 s3)⟩) := by
    show _ = _
    rw [HH.out, hnum, hsum.out, hbody.out, hs3.out, hs2.out, hs1.out, ← hbl.out]; rfl
  have HQ1 : Hid (B' ≤ V.heap.size) := q1
  have HQ2 : Hid (B' ≤ R ∨ R < A') := q2
  obtain ⟨data, hdata⟩ : ∃ x, x = body.drop 4 := ⟨_, rfl⟩
  rw [← hdata] at HD HE
  have HDT : Hid (data = body.drop 4) := hdata
  clear hF1 hF2 hF3 hBO2 H0 H1 H2 H3 F3 K0 K1 q1 q2 q3 hnum hdata HH hs1 hs2 hs3 hsum hbody k0 k1 hb0
  have hbc4 : ¬ bc = 4 := by omega
  unfold maxLen at hbc
  go_upto_region 4 with fail
  go_cut [9] (fun p wx => ∃ (Z : Nat) (va : Option Addr) (vc : Nat), p = .pointer (some ⟨Z, 0, none⟩) ∧ Hid (Fin2 V wx Z va vc num data))
  case first =>
    go_wp2_with fail
    have hbc_ : Below V.heap.size V V.drew := (Below.refl _ _).drew
    refine wp_region_noPanic ?_
    refine wp_region_held_drew (S := (fun w' : World => Below V.heap.size V w')) (by kernel_rfl) (hbc_) (fun hHeld => ?_)
    clear hHeld
    generalize V.drew = V1 at hbc_ ⊢
    have hHeld := hbc_
    refine wpAnyH_take (i := 0) (oi := { dst := some 16, op := Op.move (Operand.tmp 7), type := 22, pos := "l7_restore.go:196", after := #[], guard := none }) (v := .slice (some ⟨bb, bo, none⟩) 132 bc) rfl (by kernel_rfl) (by kernel_rfl) (by kernel_rfl) (fun _ _ _ h => h) (Or.inl ⟨by rfl, ?_⟩) (by assumption) ?_
    · intro wq hSw; (try dsimp only at hSw); go_simp
    try simp only [Act.put, List.setIfInBounds_toArray, List.set_cons_zero, List.set_cons_succ]
    refine wpAnyH_take (i := 6) (oi := { dst := some 22, op := Op.move (Operand.tmp 7), type := 22, pos := "l7_restore.go:196", after := #[], guard := none }) (v := .slice (some ⟨bb, bo, none⟩) 132 bc) rfl (by kernel_rfl) (by kernel_rfl) (by kernel_rfl) (fun _ _ _ h => h) (Or.inl ⟨by rfl, ?_⟩) (by assumption) ?_
    · intro wq hSw; (try dsimp only at hSw); go_simp
    try simp only [Act.put, List.setIfInBounds_toArray, List.set_cons_zero, List.set_cons_succ]
    refine wpAnyH_take (i := 7) (oi := { dst := some 23, op := Op.slice 22 (Operand.tmp 22) (some (Operand.const (Value.int IntKind.i64 4))) none none, type := 22, pos := "l7_restore.go:196", after := #[{ on := 6, ground := Ground.data }], guard := none }) (v := .slice (some ⟨bb, bo + 4, none⟩) 128 (bc - 4)) rfl (by kernel_rfl) (by kernel_rfl) (by kernel_rfl) (fun _ _ _ h => h) (Or.inl ⟨by rfl, ?_⟩) (by assumption) ?_
    · intro wq hSw; (try dsimp only at hSw); go_simp; (try omega)
    try simp only [Act.put, List.setIfInBounds_toArray, List.set_cons_zero, List.set_cons_succ]
    refine wpAnyH_ready (rs := [1, 10]) (by kernel_rfl) (by simp) ?_
    refine AllReadyH.cons (o := { dst := some 17, op := Op.call { callee := Callee.value (Operand.func 40), args := #[Operand.tmp 16], argTypes := #[22] }, type := 83, pos := "l7_restore.go:196", after := #[{ on := 0, ground := Ground.data }], guard := none }) rfl (fun K hK => ?_) ?_
    rotate_left 1
    refine AllReadyH.cons (o := { dst := some 9, op := Op.alloc 41, type := 0, pos := "l7_restore.go:196", after := #[], guard := none }) rfl (fun K hK => ?_) ?_
    rotate_left 1
    exact AllReadyH.nil
    · go_simp
      refine (lCursor_any bb bo 132 bc V1).mono ?_
      rintro e v1 ⟨rfl, hLC, hb1⟩
      go_wp2_with fail
      have hCV : V.heap.size ≤ V1.heap.size := hbc_.size
      have hCl := (Array.getElem?_eq_some_iff.1 hLC).1
      replace hbc_ := hbc_.trans (hb1.mono hbc_.size)
      obtain ⟨C, hCe⟩ : ∃ C, C = V1.heap.size := ⟨_, rfl⟩
      rw [← hCe] at hLC hCV hCl ⊢
      clear hCe hb1
      refine hK.out _ _ (hbc_) (fun hHeld => ?_)
      clear hK K
      try simp only [Act.put, List.setIfInBounds_toArray, List.set_cons_zero, List.set_cons_succ]
      refine wpAnyH_take (i := 2) (oi := { dst := some 18, op := Op.nilCheck (Operand.tmp 17), type := 0, pos := "l7_restore.go:196", after := #[{ on := 1, ground := Ground.data }], guard := none }) (v := .pointer (some ⟨C, 0, none⟩)) rfl (by kernel_rfl) (by kernel_rfl) (by kernel_rfl) (fun _ _ _ h => h) (Or.inl ⟨by rfl, ?_⟩) (by assumption) ?_
      · intro wq hSw; (try dsimp only at hSw); go_simp
      try simp only [Act.put, List.setIfInBounds_toArray, List.set_cons_zero, List.set_cons_succ]
      refine wpAnyH_take (i := 3) (oi := { dst := some 19, op := Op.fieldAddr 82 (Operand.tmp 18) 4, type := 0, pos := "l7_restore.go:196", after := #[{ on := 2, ground := Ground.data }], guard := none }) (v := .pointer (some ⟨C, 4, none⟩)) rfl (by kernel_rfl) (by kernel_rfl) (by kernel_rfl) (fun _ _ _ h => h) (Or.inl ⟨by rfl, ?_⟩) (by assumption) ?_
      · intro wq hSw; (try dsimp only at hSw); go_simp
      try simp only [Act.put, List.setIfInBounds_toArray, List.set_cons_zero, List.set_cons_succ]
      refine wpAnyH_ready (rs := [4, 10]) (by kernel_rfl) (by simp) ?_
      refine AllReadyH.cons (o := { dst := some 20, op := Op.load 80 (Operand.tmp 19), type := 80, pos := "l7_restore.go:196", after := #[{ on := 3, ground := Ground.data }], guard := none }) rfl (fun K hK => ?_) ?_
      rotate_left 1
      refine AllReadyH.cons (o := { dst := some 9, op := Op.alloc 41, type := 0, pos := "l7_restore.go:196", after := #[], guard := none }) rfl (fun K hK => ?_) ?_
      rotate_left 1
      exact AllReadyH.nil
      · obtain ⟨_, _, _, _, c4, _⟩ := LCur.cells hLC
        go_simp
        refine hK.out _ _ (hbc_) (fun hHeld => ?_)
        clear hK K
        try simp only [Act.put, List.setIfInBounds_toArray, List.set_cons_zero, List.set_cons_succ]
        refine wpAnyH_ready (rs := [5, 10]) (by kernel_rfl) (by simp) ?_
        refine AllReadyH.cons (o := { dst := some 21, op := Op.call { callee := Callee.value (Operand.tmp 20), args := #[Operand.const (Value.int IntKind.i64 4)], argTypes := #[3] }, type := 2, pos := "l7_restore.go:196", after := #[{ on := 4, ground := Ground.data }, { on := 1, ground := Ground.chain }], guard := none }) rfl (fun K hK => ?_) ?_
        rotate_left 1
        refine AllReadyH.cons (o := { dst := some 9, op := Op.alloc 41, type := 0, pos := "l7_restore.go:196", after := #[], guard := none }) rfl (fun K hK => ?_) ?_
        rotate_left 1
        exact AllReadyH.nil
        · go_simp
          refine (lGet_any C bb bo 132 bc (by omega) body A' B' v1 (HBY.out _ hbc_) (Nat.le_trans HQ1.out hCV) (Nat.le_of_lt hCl) hLC).mono ?_
          rintro e v3 ⟨rfl, hf5⟩
          rw [← HN.out]
          go_wp2_with fail
          clear hLC
          replace hbc_ := hbc_.trans (hf5.below hbc_.size (fun g e => by omega))
          replace hCl := Nat.lt_of_lt_of_le hCl hf5.size
          clear hf5
          refine hK.out _ _ (hbc_) (fun hHeld => ?_)
          clear hK K
          try simp only [Act.put, List.setIfInBounds_toArray, List.set_cons_zero, List.set_cons_succ]
          refine wpAnyH_ready (rs := [8, 10]) (by kernel_rfl) (by simp) ?_
          refine AllReadyH.cons (o := { dst := some 24, op := Op.call { callee := Callee.value (Operand.func 41), args := #[Operand.tmp 23], argTypes := #[22] }, type := 22, pos := "l7_restore.go:196", after := #[{ on := 7, ground := Ground.data }, { on := 5, ground := Ground.chain }], guard := none }) rfl (fun K hK => ?_) ?_
          rotate_left 1
          refine AllReadyH.cons (o := { dst := some 9, op := Op.alloc 41, type := 0, pos := "l7_restore.go:196", after := #[], guard := none }) rfl (fun K hK => ?_) ?_
          rotate_left 1
          exact AllReadyH.nil
          · go_simp
            refine (clone_any (some ⟨bb, bo + 4, none⟩) 128 (bc - 4) data v3 A' B' (Nat.le_trans HQ1.out hbc_.size) (HD.out _ hbc_) (by omega)).mono ?_
            rintro e v4 ⟨va, vc, rfl, hO8, hb8⟩
            go_wp2_with fail
            have hOwn : v4.ownsRow V.heap.size 5 1 (.slice va 128 vc) 128 (u8s data) := own_lower hO8 hbc_.size
            replace hbc_ := hbc_.trans (hb8.mono hbc_.size)
            replace hCl := Nat.lt_of_lt_of_le hCl hb8.size
            clear hO8 hb8
            refine hK.out _ _ (hbc_) (fun hHeld => ?_)
            clear hK K
            try simp only [Act.put, List.setIfInBounds_toArray, List.set_cons_zero, List.set_cons_succ]
            refine wpAnyH_take (i := 9) (oi := { dst := some 25, op := Op.build 41 #[(0, Operand.tmp 21), (1, Operand.tmp 24)], type := 41, pos := "l7_restore.go:196", after := #[{ on := 5, ground := Ground.data }, { on := 8, ground := Ground.data }], guard := none }) (v := .agg #[.int .i64 num, .slice va 128 vc]) rfl (by kernel_rfl) (by kernel_rfl) (by kernel_rfl) (fun _ _ _ h => h) (Or.inl ⟨by rfl, ?_⟩) (by assumption) ?_
            · intro wq hSw; (try dsimp only at hSw); go_simp
            try simp only [Act.put, List.setIfInBounds_toArray, List.set_cons_zero, List.set_cons_succ]
            refine wpAnyH_ready (rs := [10]) (by kernel_rfl) (by simp) ?_
            refine AllReadyH.cons (o := { dst := some 9, op := Op.alloc 41, type := 0, pos := "l7_restore.go:196", after := #[], guard := none }) rfl (fun K hK => ?_) AllReadyH.nil
            go_simp
            have hZ := heap_alloc_new v4 (.cells #[.int .i64 0, .slice none 0 0] 41)
            have hbz : Below v4.heap.size v4 (v4.alloc (.cells #[.int .i64 0, .slice none 0 0] 41)) := (Below.refl _ _).alloc (Nat.le_refl _) _
            have hZs : v4.heap.size < (v4.alloc (.cells #[.int .i64 0, .slice none 0 0] 41)).heap.size := by simp
            have hVZ : V.heap.size ≤ v4.heap.size := hbc_.size
            have hCZ : C ≠ v4.heap.size := by omega
            have hne : ∀ g, (Value.slice va 128 vc).ownBlock = some g → g ≠ v4.heap.size := fun g hg => by have := (hOwn.lt g hg).2; omega
            obtain ⟨Z, hZe⟩ : ∃ Z, Z = v4.heap.size := ⟨_, rfl⟩
            rw [← hZe] at hZ hVZ hZs hCZ hne ⊢
            generalize v4.alloc (.cells #[.int .i64 0, .slice none 0 0] 41) = z4 at hZ hbz hZs ⊢
            replace hbc_ := hbc_.trans (hbz.mono hbc_.size)
            replace hOwn := owns_below hOwn hbz
            replace hCl : C < z4.heap.size := by omega
            clear hZe hbz
            refine hK.out _ _ (hbc_) (fun hHeld => ?_)
            clear hK K
            try simp only [Act.put, List.setIfInBounds_toArray, List.set_cons_zero, List.set_cons_succ]
            refine wpAnyH_ready (rs := [11]) (by kernel_rfl) (by simp) ?_
            refine AllReadyH.cons (o := { dst := none, op := Op.store 41 (Operand.tmp 9) (Operand.tmp 25), type := 0, pos := "l7_restore.go:196", after := #[{ on := 10, ground := Ground.data }, { on := 9, ground := Ground.data }, { on := 8, ground := Ground.chain }, { on := 0, ground := Ground.phase }, { on := 1, ground := Ground.phase }, { on := 2, ground := Ground.phase }, { on := 3, ground := Ground.phase }, { on := 4, ground := Ground.phase }, { on := 5, ground := Ground.phase }, { on := 6, ground := Ground.phase }, { on := 7, ground := Ground.phase }, { on := 8, ground := Ground.phase }, { on := 9, ground := Ground.phase }, { on := 10, ground := Ground.phase }], guard := none }) rfl (fun K hK => ?_) AllReadyH.nil
            obtain ⟨z0, z1, zf⟩ := box_twoP hZ
            have zl := (Array.getElem?_eq_some_iff.1 hZ).1
            have zf0 := zf 0
            have zf1 := zf 1
            go_simp
            have HFIN : Hid (Fin2 V _ Z va vc num data) := fin2_store (num := num) hVZ hZ hOwn hne hbc_
            refine hK.out _ _ (HFIN.out.2.2.2.2) (fun hHeld => ?_)
            clear hK K
            try simp only [Act.put, List.setIfInBounds_toArray, List.set_cons_zero, List.set_cons_succ]
            refine wpAnyH_done (by kernel_rfl) ?_ _
            refine NoPanic.normal ?_
            clear hHeld hZ hOwn hne hbc_ z0 z1 zf zl zf0 zf1
            go_wp2_with fail
            go_meet
            exact ⟨Z, va, vc, rfl, HFIN⟩
          · go_simp
            have hZ := heap_alloc_new v3 (.cells #[.int .i64 0, .slice none 0 0] 41)
            have hbz : Below v3.heap.size v3 (v3.alloc (.cells #[.int .i64 0, .slice none 0 0] 41)) := (Below.refl _ _).alloc (Nat.le_refl _) _
            have hZs : v3.heap.size < (v3.alloc (.cells #[.int .i64 0, .slice none 0 0] 41)).heap.size := by simp
            have hVZ : V.heap.size ≤ v3.heap.size := hbc_.size
            have hCZ : C ≠ v3.heap.size := by omega
            obtain ⟨Z, hZe⟩ : ∃ Z, Z = v3.heap.size := ⟨_, rfl⟩
            rw [← hZe] at hZ hVZ hZs hCZ ⊢
            generalize v3.alloc (.cells #[.int .i64 0, .slice none 0 0] 41) = z3 at hZ hbz hZs ⊢
            replace hbc_ := hbc_.trans (hbz.mono hbc_.size)
            replace hCl : C < z3.heap.size := by omega
            clear hZe hbz
            refine hK.out _ _ (hbc_) (fun hHeld => ?_)
            clear hK K
            try simp only [Act.put, List.setIfInBounds_toArray, List.set_cons_zero, List.set_cons_succ]
            refine wpAnyH_ready (rs := [8]) (by kernel_rfl) (by simp) ?_
            refine AllReadyH.cons (o := { dst := some 24, op := Op.call { callee := Callee.value (Operand.func 41), args := #[Operand.tmp 23], argTypes := #[22] }, type := 22, pos := "l7_restore.go:196", after := #[{ on := 7, ground := Ground.data }, { on := 5, ground := Ground.chain }], guard := none }) rfl (fun K hK => ?_) AllReadyH.nil
            go_simp
            refine (clone_any (some ⟨bb, bo + 4, none⟩) 128 (bc - 4) data z3 A' B' (Nat.le_trans HQ1.out hbc_.size) (HD.out _ hbc_) (by omega)).mono ?_
            rintro e v4a ⟨va, vc, rfl, hO8, hb8⟩
            go_wp2_with fail
            have hOwn : v4a.ownsRow V.heap.size 5 1 (.slice va 128 vc) 128 (u8s data) := own_lower hO8 hbc_.size
            have hne : ∀ g, (Value.slice va 128 vc).ownBlock = some g → g ≠ Z := fun g hg => by have := (hO8.lt g hg).1; omega
            replace hZ := box_below hZ hb8
            replace hZs := (Array.getElem?_eq_some_iff.1 hZ).1
            replace hbc_ := hbc_.trans (hb8.mono hbc_.size)
            replace hCl := Nat.lt_of_lt_of_le hCl hb8.size
            clear hO8 hb8
            refine hK.out _ _ (hbc_) (fun hHeld => ?_)
            clear hK K
            try simp only [Act.put, List.setIfInBounds_toArray, List.set_cons_zero, List.set_cons_succ]
            refine wpAnyH_take (i := 9) (oi := { dst := some 25, op := Op.build 41 #[(0, Operand.tmp 21), (1, Operand.tmp 24)], type := 41, pos := "l7_restore.go:196", after := #[{ on := 5, ground := Ground.data }, { on := 8, ground := Ground.data }], guard := none }) (v := .agg #[.int .i64 num, .slice va 128 vc]) rfl (by kernel_rfl) (by kernel_rfl) (by kernel_rfl) (fun _ _ _ h => h) (Or.inl ⟨by rfl, ?_⟩) (by assumption) ?_
            · intro wq hSw; (try dsimp only at hSw); go_simp
            try simp only [Act.put, List.setIfInBounds_toArray, List.set_cons_zero, List.set_cons_succ]
            refine wpAnyH_ready (rs := [11]) (by kernel_rfl) (by simp) ?_
            refine AllReadyH.cons (o := { dst := none, op := Op.store 41 (Operand.tmp 9) (Operand.tmp 25), type := 0, pos := "l7_restore.go:196", after := #[{ on := 10, ground := Ground.data }, { on := 9, ground := Ground.data }, { on := 8, ground := Ground.chain }, { on := 0, ground := Ground.phase }, { on := 1, ground := Ground.phase }, { on := 2, ground := Ground.phase }, { on := 3, ground := Ground.phase }, { on := 4, ground := Ground.phase }, { on := 5, ground := Ground.phase }, { on := 6, ground := Ground.phase }, { on := 7, ground := Ground.phase }, { on := 8, ground := Ground.phase }, { on := 9, ground := Ground.phase }, { on := 10, ground := Ground.phase }], guard := none }) rfl (fun K hK => ?_) AllReadyH.nil
            obtain ⟨z0, z1, zf⟩ := box_twoP hZ
            have zl := (Array.getElem?_eq_some_iff.1 hZ).1
            have zf0 := zf 0
            have zf1 := zf 1
            go_simp
            have HFIN : Hid (Fin2 V _ Z va vc num data) := fin2_store (num := num) hVZ hZ hOwn hne hbc_
            refine hK.out _ _ (HFIN.out.2.2.2.2) (fun hHeld => ?_)
            clear hK K
            try simp only [Act.put, List.setIfInBounds_toArray, List.set_cons_zero, List.set_cons_succ]
            refine wpAnyH_done (by kernel_rfl) ?_ _
            refine NoPanic.normal ?_
            clear hHeld hZ hOwn hne hbc_ z0 z1 zf zl zf0 zf1
            go_wp2_with fail
            go_meet
            exact ⟨Z, va, vc, rfl, HFIN⟩
        · go_simp
          have hZ := heap_alloc_new v1 (.cells #[.int .i64 0, .slice none 0 0] 41)
          have hbz : Below v1.heap.size v1 (v1.alloc (.cells #[.int .i64 0, .slice none 0 0] 41)) := (Below.refl _ _).alloc (Nat.le_refl _) _
          have hZs : v1.heap.size < (v1.alloc (.cells #[.int .i64 0, .slice none 0 0] 41)).heap.size := by simp
          have hVZ : V.heap.size ≤ v1.heap.size := hbc_.size
          have hCZ : C ≠ v1.heap.size := by omega
          replace hLC := box_below hLC hbz
          obtain ⟨Z, hZe⟩ : ∃ Z, Z = v1.heap.size := ⟨_, rfl⟩
          rw [← hZe] at hZ hVZ hZs hCZ ⊢
          generalize v1.alloc (.cells #[.int .i64 0, .slice none 0 0] 41) = z2 at hZ hbz hZs hLC ⊢
          replace hbc_ := hbc_.trans (hbz.mono hbc_.size)
          replace hCl : C < z2.heap.size := by omega
          clear hZe hbz
          refine hK.out _ _ (hbc_) (fun hHeld => ?_)
          clear hK K
          try simp only [Act.put, List.setIfInBounds_toArray, List.set_cons_zero, List.set_cons_succ]
          refine wpAnyH_ready (rs := [5]) (by kernel_rfl) (by simp) ?_
          refine AllReadyH.cons (o := { dst := some 21, op := Op.call { callee := Callee.value (Operand.tmp 20), args := #[Operand.const (Value.int IntKind.i64 4)], argTypes := #[3] }, type := 2, pos := "l7_restore.go:196", after := #[{ on := 4, ground := Ground.data }, { on := 1, ground := Ground.chain }], guard := none }) rfl (fun K hK => ?_) AllReadyH.nil
          go_simp
          refine (lGet_any C bb bo 132 bc (by omega) body A' B' z2 (HBY.out _ hbc_) (Nat.le_trans HQ1.out hCV) (Nat.le_of_lt hCl) hLC).mono ?_
          rintro e v3a ⟨rfl, hf5⟩
          rw [← HN.out]
          go_wp2_with fail
          clear hLC
          replace hZ := box_fr hZ hf5 (by omega)
          replace hZs := (Array.getElem?_eq_some_iff.1 hZ).1
          replace hbc_ := hbc_.trans (hf5.below hbc_.size (fun g e => by omega))
          replace hCl := Nat.lt_of_lt_of_le hCl hf5.size
          clear hf5
          refine hK.out _ _ (hbc_) (fun hHeld => ?_)
          clear hK K
          try simp only [Act.put, List.setIfInBounds_toArray, List.set_cons_zero, List.set_cons_succ]
          refine wpAnyH_ready (rs := [8]) (by kernel_rfl) (by simp) ?_
          refine AllReadyH.cons (o := { dst := some 24, op := Op.call { callee := Callee.value (Operand.func 41), args := #[Operand.tmp 23], argTypes := #[22] }, type := 22, pos := "l7_restore.go:196", after := #[{ on := 7, ground := Ground.data }, { on := 5, ground := Ground.chain }], guard := none }) rfl (fun K hK => ?_) AllReadyH.nil
          go_simp
          refine (clone_any (some ⟨bb, bo + 4, none⟩) 128 (bc - 4) data v3a A' B' (Nat.le_trans HQ1.out hbc_.size) (HD.out _ hbc_) (by omega)).mono ?_
          rintro e v4a ⟨va, vc, rfl, hO8, hb8⟩
          go_wp2_with fail
          have hOwn : v4a.ownsRow V.heap.size 5 1 (.slice va 128 vc) 128 (u8s data) := own_lower hO8 hbc_.size
          have hne : ∀ g, (Value.slice va 128 vc).ownBlock = some g → g ≠ Z := fun g hg => by have := (hO8.lt g hg).1; omega
          replace hZ := box_below hZ hb8
          replace hZs := (Array.getElem?_eq_some_iff.1 hZ).1
          replace hbc_ := hbc_.trans (hb8.mono hbc_.size)
          replace hCl := Nat.lt_of_lt_of_le hCl hb8.size
          clear hO8 hb8
          refine hK.out _ _ (hbc_) (fun hHeld => ?_)
          clear hK K
          try simp only [Act.put, List.setIfInBounds_toArray, List.set_cons_zero, List.set_cons_succ]
          refine wpAnyH_take (i := 9) (oi := { dst := some 25, op := Op.build 41 #[(0, Operand.tmp 21), (1, Operand.tmp 24)], type := 41, pos := "l7_restore.go:196", after := #[{ on := 5, ground := Ground.data }, { on := 8, ground := Ground.data }], guard := none }) (v := .agg #[.int .i64 num, .slice va 128 vc]) rfl (by kernel_rfl) (by kernel_rfl) (by kernel_rfl) (fun _ _ _ h => h) (Or.inl ⟨by rfl, ?_⟩) (by assumption) ?_
          · intro wq hSw; (try dsimp only at hSw); go_simp
          try simp only [Act.put, List.setIfInBounds_toArray, List.set_cons_zero, List.set_cons_succ]
          refine wpAnyH_ready (rs := [11]) (by kernel_rfl) (by simp) ?_
          refine AllReadyH.cons (o := { dst := none, op := Op.store 41 (Operand.tmp 9) (Operand.tmp 25), type := 0, pos := "l7_restore.go:196", after := #[{ on := 10, ground := Ground.data }, { on := 9, ground := Ground.data }, { on := 8, ground := Ground.chain }, { on := 0, ground := Ground.phase }, { on := 1, ground := Ground.phase }, { on := 2, ground := Ground.phase }, { on := 3, ground := Ground.phase }, { on := 4, ground := Ground.phase }, { on := 5, ground := Ground.phase }, { on := 6, ground := Ground.phase }, { on := 7, ground := Ground.phase }, { on := 8, ground := Ground.phase }, { on := 9, ground := Ground.phase }, { on := 10, ground := Ground.phase }], guard := none }) rfl (fun K hK => ?_) AllReadyH.nil
          obtain ⟨z0, z1, zf⟩ := box_twoP hZ
          have zl := (Array.getElem?_eq_some_iff.1 hZ).1
          have zf0 := zf 0
          have zf1 := zf 1
          go_simp
          have HFIN : Hid (Fin2 V _ Z va vc num data) := fin2_store (num := num) hVZ hZ hOwn hne hbc_
          refine hK.out _ _ (HFIN.out.2.2.2.2) (fun hHeld => ?_)
          clear hK K
          try simp only [Act.put, List.setIfInBounds_toArray, List.set_cons_zero, List.set_cons_succ]
          refine wpAnyH_done (by kernel_rfl) ?_ _
          refine NoPanic.normal ?_
          clear hHeld hZ hOwn hne hbc_ z0 z1 zf zl zf0 zf1
          go_wp2_with fail
          go_meet
          exact ⟨Z, va, vc, rfl, HFIN⟩
      · go_simp
        have hZ := heap_alloc_new v1 (.cells #[.int .i64 0, .slice none 0 0] 41)
        have hbz : Below v1.heap.size v1 (v1.alloc (.cells #[.int .i64 0, .slice none 0 0] 41)) := (Below.refl _ _).alloc (Nat.le_refl _) _
        have hZs : v1.heap.size < (v1.alloc (.cells #[.int .i64 0, .slice none 0 0] 41)).heap.size := by simp
        have hVZ : V.heap.size ≤ v1.heap.size := hbc_.size
        have hCZ : C ≠ v1.heap.size := by omega
        replace hLC := box_below hLC hbz
        obtain ⟨Z, hZe⟩ : ∃ Z, Z = v1.heap.size := ⟨_, rfl⟩
        rw [← hZe] at hZ hVZ hZs hCZ ⊢
        generalize v1.alloc (.cells #[.int .i64 0, .slice none 0 0] 41) = z1 at hZ hbz hZs hLC ⊢
        replace hbc_ := hbc_.trans (hbz.mono hbc_.size)
        replace hCl : C < z1.heap.size := by omega
        clear hZe hbz
        refine hK.out _ _ (hbc_) (fun hHeld => ?_)
        clear hK K
        try simp only [Act.put, List.setIfInBounds_toArray, List.set_cons_zero, List.set_cons_succ]
        refine wpAnyH_ready (rs := [4]) (by kernel_rfl) (by simp) ?_
        refine AllReadyH.cons (o := { dst := some 20, op := Op.load 80 (Operand.tmp 19), type := 80, pos := "l7_restore.go:196", after := #[{ on := 3, ground := Ground.data }], guard := none }) rfl (fun K hK => ?_) AllReadyH.nil
        obtain ⟨_, _, _, _, c4, _⟩ := LCur.cells hLC
        go_simp
        refine hK.out _ _ (hbc_) (fun hHeld => ?_)
        clear hK K
        try simp only [Act.put, List.setIfInBounds_toArray, List.set_cons_zero, List.set_cons_succ]
        refine wpAnyH_ready (rs := [5]) (by kernel_rfl) (by simp) ?_
        refine AllReadyH.cons (o := { dst := some 21, op := Op.call { callee := Callee.value (Operand.tmp 20), args := #[Operand.const (Value.int IntKind.i64 4)], argTypes := #[3] }, type := 2, pos := "l7_restore.go:196", after := #[{ on := 4, ground := Ground.data }, { on := 1, ground := Ground.chain }], guard := none }) rfl (fun K hK => ?_) AllReadyH.nil
        go_simp
        refine (lGet_any C bb bo 132 bc (by omega) body A' B' z1 (HBY.out _ hbc_) (Nat.le_trans HQ1.out hCV) (Nat.le_of_lt hCl) hLC).mono ?_
        rintro e v3a ⟨rfl, hf5⟩
        rw [← HN.out]
        go_wp2_with fail
        clear hLC
        replace hZ := box_fr hZ hf5 (by omega)
        replace hZs := (Array.getElem?_eq_some_iff.1 hZ).1
        replace hbc_ := hbc_.trans (hf5.below hbc_.size (fun g e => by omega))
        replace hCl := Nat.lt_of_lt_of_le hCl hf5.size
        clear hf5
        refine hK.out _ _ (hbc_) (fun hHeld => ?_)
        clear hK K
        try simp only [Act.put, List.setIfInBounds_toArray, List.set_cons_zero, List.set_cons_succ]
        refine wpAnyH_ready (rs := [8]) (by kernel_rfl) (by simp) ?_
        refine AllReadyH.cons (o := { dst := some 24, op := Op.call { callee := Callee.value (Operand.func 41), args := #[Operand.tmp 23], argTypes := #[22] }, type := 22, pos := "l7_restore.go:196", after := #[{ on := 7, ground := Ground.data }, { on := 5, ground := Ground.chain }], guard := none }) rfl (fun K hK => ?_) AllReadyH.nil
        go_simp
        refine (clone_any (some ⟨bb, bo + 4, none⟩) 128 (bc - 4) data v3a A' B' (Nat.le_trans HQ1.out hbc_.size) (HD.out _ hbc_) (by omega)).mono ?_
        rintro e v4a ⟨va, vc, rfl, hO8, hb8⟩
        go_wp2_with fail
        have hOwn : v4a.ownsRow V.heap.size 5 1 (.slice va 128 vc) 128 (u8s data) := own_lower hO8 hbc_.size
        have hne : ∀ g, (Value.slice va 128 vc).ownBlock = some g → g ≠ Z := fun g hg => by have := (hO8.lt g hg).1; omega
        replace hZ := box_below hZ hb8
        replace hZs := (Array.getElem?_eq_some_iff.1 hZ).1
        replace hbc_ := hbc_.trans (hb8.mono hbc_.size)
        replace hCl := Nat.lt_of_lt_of_le hCl hb8.size
        clear hO8 hb8
        refine hK.out _ _ (hbc_) (fun hHeld => ?_)
        clear hK K
        try simp only [Act.put, List.setIfInBounds_toArray, List.set_cons_zero, List.set_cons_succ]
        refine wpAnyH_take (i := 9) (oi := { dst := some 25, op := Op.build 41 #[(0, Operand.tmp 21), (1, Operand.tmp 24)], type := 41, pos := "l7_restore.go:196", after := #[{ on := 5, ground := Ground.data }, { on := 8, ground := Ground.data }], guard := none }) (v := .agg #[.int .i64 num, .slice va 128 vc]) rfl (by kernel_rfl) (by kernel_rfl) (by kernel_rfl) (fun _ _ _ h => h) (Or.inl ⟨by rfl, ?_⟩) (by assumption) ?_
        · intro wq hSw; (try dsimp only at hSw); go_simp
        try simp only [Act.put, List.setIfInBounds_toArray, List.set_cons_zero, List.set_cons_succ]
        refine wpAnyH_ready (rs := [11]) (by kernel_rfl) (by simp) ?_
        refine AllReadyH.cons (o := { dst := none, op := Op.store 41 (Operand.tmp 9) (Operand.tmp 25), type := 0, pos := "l7_restore.go:196", after := #[{ on := 10, ground := Ground.data }, { on := 9, ground := Ground.data }, { on := 8, ground := Ground.chain }, { on := 0, ground := Ground.phase }, { on := 1, ground := Ground.phase }, { on := 2, ground := Ground.phase }, { on := 3, ground := Ground.phase }, { on := 4, ground := Ground.phase }, { on := 5, ground := Ground.phase }, { on := 6, ground := Ground.phase }, { on := 7, ground := Ground.phase }, { on := 8, ground := Ground.phase }, { on := 9, ground := Ground.phase }, { on := 10, ground := Ground.phase }], guard := none }) rfl (fun K hK => ?_) AllReadyH.nil
        obtain ⟨z0, z1, zf⟩ := box_twoP hZ
        have zl := (Array.getElem?_eq_some_iff.1 hZ).1
        have zf0 := zf 0
        have zf1 := zf 1
        go_simp
        have HFIN : Hid (Fin2 V _ Z va vc num data) := fin2_store (num := num) hVZ hZ hOwn hne hbc_
        refine hK.out _ _ (HFIN.out.2.2.2.2) (fun hHeld => ?_)
        clear hK K
        try simp only [Act.put, List.setIfInBounds_toArray, List.set_cons_zero, List.set_cons_succ]
        refine wpAnyH_done (by kernel_rfl) ?_ _
        refine NoPanic.normal ?_
        clear hHeld hZ hOwn hne hbc_ z0 z1 zf zl zf0 zf1
        go_wp2_with fail
        go_meet
        exact ⟨Z, va, vc, rfl, HFIN⟩
    · go_simp
      have hZ := heap_alloc_new V1 (.cells #[.int .i64 0, .slice none 0 0] 41)
      have hbz : Below V1.heap.size V1 (V1.alloc (.cells #[.int .i64 0, .slice none 0 0] 41)) := (Below.refl _ _).alloc (Nat.le_refl _) _
      have hZs : V1.heap.size < (V1.alloc (.cells #[.int .i64 0, .slice none 0 0] 41)).heap.size := by simp
      have hVZ : V.heap.size ≤ V1.heap.size := hbc_.size
      obtain ⟨Z, hZe⟩ : ∃ Z, Z = V1.heap.size := ⟨_, rfl⟩
      rw [← hZe] at hZ hVZ hZs ⊢
      generalize V1.alloc (.cells #[.int .i64 0, .slice none 0 0] 41) = z0 at hZ hbz hZs ⊢
      replace hbc_ := hbc_.trans (hbz.mono hbc_.size)
      clear hZe hbz
      refine hK.out _ _ (hbc_) (fun hHeld => ?_)
      clear hK K
      try simp only [Act.put, List.setIfInBounds_toArray, List.set_cons_zero, List.set_cons_succ]
      refine wpAnyH_ready (rs := [1]) (by kernel_rfl) (by simp) ?_
      refine AllReadyH.cons (o := { dst := some 17, op := Op.call { callee := Callee.value (Operand.func 40), args := #[Operand.tmp 16], argTypes := #[22] }, type := 83, pos := "l7_restore.go:196", after := #[{ on := 0, ground := Ground.data }], guard := none }) rfl (fun K hK => ?_) AllReadyH.nil
      go_simp
      refine (lCursor_any bb bo 132 bc z0).mono ?_
      rintro e v1a ⟨rfl, hLC, hb1⟩
      go_wp2_with fail
      have hCV : V.heap.size ≤ z0.heap.size := hbc_.size
      have hCl := (Array.getElem?_eq_some_iff.1 hLC).1
      have hCZ : z0.heap.size ≠ Z := by omega
      replace hZ := box_below hZ hb1
      replace hZs := (Array.getElem?_eq_some_iff.1 hZ).1
      replace hbc_ := hbc_.trans (hb1.mono hbc_.size)
      obtain ⟨C, hCe⟩ : ∃ C, C = z0.heap.size := ⟨_, rfl⟩
      rw [← hCe] at hLC hCV hCl hCZ ⊢
      clear hCe hb1
      refine hK.out _ _ (hbc_) (fun hHeld => ?_)
      clear hK K
      try simp only [Act.put, List.setIfInBounds_toArray, List.set_cons_zero, List.set_cons_succ]
      refine wpAnyH_take (i := 2) (oi := { dst := some 18, op := Op.nilCheck (Operand.tmp 17), type := 0, pos := "l7_restore.go:196", after := #[{ on := 1, ground := Ground.data }], guard := none }) (v := .pointer (some ⟨C, 0, none⟩)) rfl (by kernel_rfl) (by kernel_rfl) (by kernel_rfl) (fun _ _ _ h => h) (Or.inl ⟨by rfl, ?_⟩) (by assumption) ?_
      · intro wq hSw; (try dsimp only at hSw); go_simp
      try simp only [Act.put, List.setIfInBounds_toArray, List.set_cons_zero, List.set_cons_succ]
      refine wpAnyH_take (i := 3) (oi := { dst := some 19, op := Op.fieldAddr 82 (Operand.tmp 18) 4, type := 0, pos := "l7_restore.go:196", after := #[{ on := 2, ground := Ground.data }], guard := none }) (v := .pointer (some ⟨C, 4, none⟩)) rfl (by kernel_rfl) (by kernel_rfl) (by kernel_rfl) (fun _ _ _ h => h) (Or.inl ⟨by rfl, ?_⟩) (by assumption) ?_
      · intro wq hSw; (try dsimp only at hSw); go_simp
      try simp only [Act.put, List.setIfInBounds_toArray, List.set_cons_zero, List.set_cons_succ]
      refine wpAnyH_ready (rs := [4]) (by kernel_rfl) (by simp) ?_
      refine AllReadyH.cons (o := { dst := some 20, op := Op.load 80 (Operand.tmp 19), type := 80, pos := "l7_restore.go:196", after := #[{ on := 3, ground := Ground.data }], guard := none }) rfl (fun K hK => ?_) AllReadyH.nil
      obtain ⟨_, _, _, _, c4, _⟩ := LCur.cells hLC
      go_simp
      refine hK.out _ _ (hbc_) (fun hHeld => ?_)
      clear hK K
      try simp only [Act.put, List.setIfInBounds_toArray, List.set_cons_zero, List.set_cons_succ]
      refine wpAnyH_ready (rs := [5]) (by kernel_rfl) (by simp) ?_
      refine AllReadyH.cons (o := { dst := some 21, op := Op.call { callee := Callee.value (Operand.tmp 20), args := #[Operand.const (Value.int IntKind.i64 4)], argTypes := #[3] }, type := 2, pos := "l7_restore.go:196", after := #[{ on := 4, ground := Ground.data }, { on := 1, ground := Ground.chain }], guard := none }) rfl (fun K hK => ?_) AllReadyH.nil
      go_simp
      refine (lGet_any C bb bo 132 bc (by omega) body A' B' v1a (HBY.out _ hbc_) (Nat.le_trans HQ1.out hCV) (Nat.le_of_lt hCl) hLC).mono ?_
      rintro e v3a ⟨rfl, hf5⟩
      rw [← HN.out]
      go_wp2_with fail
      clear hLC
      replace hZ := box_fr hZ hf5 (by omega)
      replace hZs := (Array.getElem?_eq_some_iff.1 hZ).1
      replace hbc_ := hbc_.trans (hf5.below hbc_.size (fun g e => by omega))
      replace hCl := Nat.lt_of_lt_of_le hCl hf5.size
      clear hf5
      refine hK.out _ _ (hbc_) (fun hHeld => ?_)
      clear hK K
      try simp only [Act.put, List.setIfInBounds_toArray, List.set_cons_zero, List.set_cons_succ]
      refine wpAnyH_ready (rs := [8]) (by kernel_rfl) (by simp) ?_
      refine AllReadyH.cons (o := { dst := some 24, op := Op.call { callee := Callee.value (Operand.func 41), args := #[Operand.tmp 23], argTypes := #[22] }, type := 22, pos := "l7_restore.go:196", after := #[{ on := 7, ground := Ground.data }, { on := 5, ground := Ground.chain }], guard := none }) rfl (fun K hK => ?_) AllReadyH.nil
      go_simp
      refine (clone_any (some ⟨bb, bo + 4, none⟩) 128 (bc - 4) data v3a A' B' (Nat.le_trans HQ1.out hbc_.size) (HD.out _ hbc_) (by omega)).mono ?_
      rintro e v4a ⟨va, vc, rfl, hO8, hb8⟩
      go_wp2_with fail
      have hOwn : v4a.ownsRow V.heap.size 5 1 (.slice va 128 vc) 128 (u8s data) := own_lower hO8 hbc_.size
      have hne : ∀ g, (Value.slice va 128 vc).ownBlock = some g → g ≠ Z := fun g hg => by have := (hO8.lt g hg).1; omega
      replace hZ := box_below hZ hb8
      replace hZs := (Array.getElem?_eq_some_iff.1 hZ).1
      replace hbc_ := hbc_.trans (hb8.mono hbc_.size)
      replace hCl := Nat.lt_of_lt_of_le hCl hb8.size
      clear hO8 hb8
      refine hK.out _ _ (hbc_) (fun hHeld => ?_)
      clear hK K
      try simp only [Act.put, List.setIfInBounds_toArray, List.set_cons_zero, List.set_cons_succ]
      refine wpAnyH_take (i := 9) (oi := { dst := some 25, op := Op.build 41 #[(0, Operand.tmp 21), (1, Operand.tmp 24)], type := 41, pos := "l7_restore.go:196", after := #[{ on := 5, ground := Ground.data }, { on := 8, ground := Ground.data }], guard := none }) (v := .agg #[.int .i64 num, .slice va 128 vc]) rfl (by kernel_rfl) (by kernel_rfl) (by kernel_rfl) (fun _ _ _ h => h) (Or.inl ⟨by rfl, ?_⟩) (by assumption) ?_
      · intro wq hSw; (try dsimp only at hSw); go_simp
      try simp only [Act.put, List.setIfInBounds_toArray, List.set_cons_zero, List.set_cons_succ]
      refine wpAnyH_ready (rs := [11]) (by kernel_rfl) (by simp) ?_
      refine AllReadyH.cons (o := { dst := none, op := Op.store 41 (Operand.tmp 9) (Operand.tmp 25), type := 0, pos := "l7_restore.go:196", after := #[{ on := 10, ground := Ground.data }, { on := 9, ground := Ground.data }, { on := 8, ground := Ground.chain }, { on := 0, ground := Ground.phase }, { on := 1, ground := Ground.phase }, { on := 2, ground := Ground.phase }, { on := 3, ground := Ground.phase }, { on := 4, ground := Ground.phase }, { on := 5, ground := Ground.phase }, { on := 6, ground := Ground.phase }, { on := 7, ground := Ground.phase }, { on := 8, ground := Ground.phase }, { on := 9, ground := Ground.phase }, { on := 10, ground := Ground.phase }], guard := none }) rfl (fun K hK => ?_) AllReadyH.nil
      obtain ⟨z0, z1, zf⟩ := box_twoP hZ
      have zl := (Array.getElem?_eq_some_iff.1 hZ).1
      have zf0 := zf 0
      have zf1 := zf 1
      go_simp
      have HFIN : Hid (Fin2 V _ Z va vc num data) := fin2_store (num := num) hVZ hZ hOwn hne hbc_
      refine hK.out _ _ (HFIN.out.2.2.2.2) (fun hHeld => ?_)
      clear hK K
      try simp only [Act.put, List.setIfInBounds_toArray, List.set_cons_zero, List.set_cons_succ]
      refine wpAnyH_done (by kernel_rfl) ?_ _
      refine NoPanic.normal ?_
      clear hHeld hZ hOwn hne hbc_ z0 z1 zf zl zf0 zf1
      go_wp2_with fail
      go_meet
      exact ⟨Z, va, vc, rfl, HFIN⟩
  case rest =>
    obtain ⟨Z, va, vc, rfl, HC⟩ := hcut
    obtain ⟨z1, KZ, XO, XNE, HBL⟩ := HC.out
    obtain ⟨v1, v2, v3, v4, v5, v6⟩ := HV.out
    have H4 : Hid (RSt wc R a n c A B bs s3) := v1.below HBL
    have HZR : Hid (R < Z) := by show R < Z; omega
    have HZL : Hid (Z < wc.heap.size) := (Array.getElem?_eq_some_iff.1 KZ).1
    have HK : Hid (∀ W, Fr (fun x => x = R) wc W → W.heap[w.heap.size]? = some (.cells #[.int .i64 id, .int .i64 tx, .int .i64 base, .int .i64 root, .slice pa pn pc] 25) ∧ W.heap[w.heap.size + 1]? = some (.cells #[.int .i64 0, .slice none 0 0] 41) ∧ W.heap[Z]? = some (.cells #[.int .i64 num, .slice va 128 vc] 41) ∧ W.ownsRow V.heap.size 5 1 (.slice va 128 vc) 128 (u8s data) ∧ Fr (fun x => x = R) w W) := fun W hW =>
      ⟨box_fr (box_below v3 HBL) hW (by omega), box_fr (box_below v4 HBL) hW (by omega), box_fr KZ hW (by omega), owns_fr XO hW (fun g hg e => by have := (XO.lt g hg).1; omega), (v2.trans (Fr.of_below HBL)).trans hW⟩
    have HBY2 : Hid (∀ W, Fr (fun x => x = R) wc W → BOff W R (some ⟨bb, bo, none⟩) 132 bc body) := fun W hW => by
      have : BOff wc R (some ⟨bb, bo, none⟩) 132 bc body := ⟨A', B', Nat.le_trans HQ1.out HBL.size, HQ2.out, HBY.out _ HBL⟩
      exact this.fr hW
    obtain ⟨z0, _, _⟩ := box_twoP KZ
    clear HC v1 v2 v3 v4 v5 v6 KZ XO XNE HBL
    generalize wc = U at H4 HZL HK HBY2 z0 ⊢
    go_upto_region 5 with fail
    go_cut [9] (fun p wx => p = .pointer (some ⟨Z, 0, none⟩) ∧ Hid (RSt wx R a n c A B bs (wantS (inB 2 999 num && decide (last < num)) 4 s3) ∧ Fr (fun x => x = R) U wx))
    case first =>
      go_wp2_with fail
      cases t5 : inB 2 999 num
      · have HG : Hid ((inB 2 999 num && decide (last < num)) = false) := by show _ = _; rw [t5]; rfl
        refine wp_region_noPanic ?_
        refine wp_region_held_drew (S := (fun w' : World => w'.cell? ⟨Z, 0, none⟩ = some (.int .i64 num))) (by kernel_rfl) (z0) (fun hHeld => ?_)
        refine wpAnyH_take (i := 0) (oi := { dst := some 26, op := Op.move (Operand.tmp 0), type := 44, pos := "l7_restore.go:197", after := #[], guard := none }) (v := .pointer (some ⟨R, 0, none⟩)) rfl (by kernel_rfl) (by kernel_rfl) (by kernel_rfl) (fun _ _ _ h => h) (Or.inl ⟨by rfl, ?_⟩) (by assumption) ?_
        · intro wq hSw; (try dsimp only at hSw); go_simp
        try simp only [Act.put, List.setIfInBounds_toArray, List.set_cons_zero, List.set_cons_succ]
        refine wpAnyH_take (i := 2) (oi := { dst := some 28, op := Op.fieldAddr 41 (Operand.tmp 9) 0, type := 0, pos := "l7_restore.go:197", after := #[], guard := none }) (v := .pointer (some ⟨Z, 0, none⟩)) rfl (by kernel_rfl) (by kernel_rfl) (by kernel_rfl) (fun _ _ _ h => h) (Or.inl ⟨by rfl, ?_⟩) (by assumption) ?_
        · intro wq hSw; (try dsimp only at hSw); go_simp
        try simp only [Act.put, List.setIfInBounds_toArray, List.set_cons_zero, List.set_cons_succ]
        refine wpAnyH_take (i := 3) (oi := { dst := some 29, op := Op.load 2 (Operand.tmp 28), type := 2, pos := "l7_restore.go:197", after := #[{ on := 2, ground := Ground.data }], guard := none }) (v := .int .i64 num) rfl (by kernel_rfl) (by kernel_rfl) (by kernel_rfl) (fun _ _ _ h => h) (Or.inl ⟨by rfl, ?_⟩) (by assumption) ?_
        · intro wq hSw; (try dsimp only at hSw); go_simp
        try simp only [Act.put, List.setIfInBounds_toArray, List.set_cons_zero, List.set_cons_succ]
        refine wpAnyH_ready (rs := [1]) (by kernel_rfl) (by simp) ?_
        refine AllReadyH.cons (o := { dst := some 27, op := Op.call { callee := Callee.value (Operand.func 37), args := #[], argTypes := #[] }, type := 76, pos := "l7_restore.go:197", after := #[], guard := none }) rfl (fun K hK => ?_) AllReadyH.nil
        go_simp
        refine (New.newPages_any U.drew).mono ?_
        rintro e w9 ⟨rfl, hb9⟩
        have y3 : w9.cell? ⟨Z, 0, none⟩ = some (.int .i64 num) := (hb9.cell (p := ⟨Z, 0, none⟩) HZL.out).trans z0
        go_wp2_with fail
        refine hK.out _ _ (y3) (fun hHeld => ?_)
        clear hK K
        try simp only [Act.put, List.setIfInBounds_toArray, List.set_cons_zero, List.set_cons_succ]
        refine wpAnyH_ready (rs := [4]) (by kernel_rfl) (by simp) ?_
        refine AllReadyH.cons (o := { dst := some 30, op := Op.call { callee := Callee.value (Operand.func 38), args := #[Operand.tmp 27, Operand.tmp 29], argTypes := #[76, 2] }, type := 4, pos := "l7_restore.go:197", after := #[{ on := 1, ground := Ground.data }, { on := 3, ground := Ground.data }, { on := 1, ground := Ground.chain }], guard := none }) rfl (fun K hK => ?_) AllReadyH.nil
        go_simp
        have HA9 := has_any 2 999 num w9
        rw [t5] at HA9
        refine HA9.mono ?_
        rintro e w10 ⟨rfl, hb10⟩
        have y4 : w10.cell? ⟨Z, 0, none⟩ = some (.int .i64 num) := (hb10.cell (p := ⟨Z, 0, none⟩) (Nat.lt_of_lt_of_le HZL.out hb9.size)).trans y3
        go_wp2_with fail
        refine hK.out _ _ (y4) (fun hHeld => ?_)
        clear hK K
        try simp only [Act.put, List.setIfInBounds_toArray, List.set_cons_zero, List.set_cons_succ]
        refine wpAnyH_take (i := 5) (oi := { dst := some 31, op := Op.move (Operand.tmp 30), type := 4, pos := "l7_restore.go:197", after := #[{ on := 4, ground := Ground.data }, { on := 4, ground := Ground.chain }], guard := none }) (v := .bool false) rfl (by kernel_rfl) (by kernel_rfl) (by kernel_rfl) (fun _ _ _ h => h) (Or.inl ⟨by rfl, ?_⟩) (by assumption) ?_
        · intro wq hSw; (try dsimp only at hSw); go_simp
        try simp only [Act.put, List.setIfInBounds_toArray, List.set_cons_zero, List.set_cons_succ]
        refine wpAnyH_take (i := 6) (oi := { dst := some 32, op := Op.fieldAddr 41 (Operand.tmp 9) 0, type := 0, pos := "l7_restore.go:197", after := #[{ on := 5, ground := Ground.guard }], guard := some (5, true) }) (v := undef) rfl (by kernel_rfl) (by kernel_rfl) (by kernel_rfl) (fun _ _ _ h => h) (Or.inr ⟨by rfl, rfl⟩) (by assumption) ?_
        try simp only [Act.put, List.setIfInBounds_toArray, List.set_cons_zero, List.set_cons_succ]
        refine wpAnyH_take (i := 7) (oi := { dst := some 33, op := Op.load 2 (Operand.tmp 32), type := 2, pos := "l7_restore.go:197", after := #[{ on := 6, ground := Ground.data }, { on := 5, ground := Ground.guard }], guard := some (5, true) }) (v := undef) rfl (by kernel_rfl) (by kernel_rfl) (by kernel_rfl) (fun _ _ _ h => h) (Or.inr ⟨by rfl, rfl⟩) (by assumption) ?_
        try simp only [Act.put, List.setIfInBounds_toArray, List.set_cons_zero, List.set_cons_succ]
        refine wpAnyH_take (i := 8) (oi := { dst := some 34, op := Op.move (Operand.tmp 2), type := 2, pos := "l7_restore.go:197", after := #[{ on := 5, ground := Ground.guard }], guard := some (5, true) }) (v := undef) rfl (by kernel_rfl) (by kernel_rfl) (by kernel_rfl) (fun _ _ _ h => h) (Or.inr ⟨by rfl, rfl⟩) (by assumption) ?_
        try simp only [Act.put, List.setIfInBounds_toArray, List.set_cons_zero, List.set_cons_succ]
        refine wpAnyH_take (i := 9) (oi := { dst := some 35, op := Op.binOp BinOp.gtr 2 (Operand.tmp 33) (Operand.tmp 34) 2, type := 4, pos := "l7_restore.go:197", after := #[{ on := 7, ground := Ground.data }, { on := 8, ground := Ground.data }, { on := 5, ground := Ground.guard }], guard := some (5, true) }) (v := undef) rfl (by kernel_rfl) (by kernel_rfl) (by kernel_rfl) (fun _ _ _ h => h) (Or.inr ⟨by rfl, rfl⟩) (by assumption) ?_
        try simp only [Act.put, List.setIfInBounds_toArray, List.set_cons_zero, List.set_cons_succ]
        refine wpAnyH_take (i := 10) (oi := { dst := some 36, op := Op.pick (Operand.tmp 31) (Operand.tmp 35) (Operand.const (Value.bool false)), type := 4, pos := "l7_restore.go:197", after := #[{ on := 5, ground := Ground.data }, { on := 9, ground := Ground.data }], guard := none }) (v := .bool false) rfl (by kernel_rfl) (by kernel_rfl) (by kernel_rfl) (fun _ _ _ h => h) (Or.inl ⟨by rfl, ?_⟩) (by assumption) ?_
        · intro wq hSw; (try dsimp only at hSw); go_simp
        try simp only [Act.put, List.setIfInBounds_toArray, List.set_cons_zero, List.set_cons_succ]
        refine wpAnyH_ready (rs := [11]) (by kernel_rfl) (by simp) ?_
        refine AllReadyH.cons (o := { dst := some 37, op := Op.call { callee := Callee.value (Operand.func 35), args := #[Operand.tmp 26, Operand.tmp 36, Operand.const (Value.int IntKind.i64 4)], argTypes := #[44, 4, 2] }, type := 0, pos := "l7_restore.go:197", after := #[{ on := 0, ground := Ground.data }, { on := 10, ground := Ground.data }, { on := 5, ground := Ground.chain }], guard := none }) rfl (fun K hK => ?_) AllReadyH.nil
        go_simp
        refine (rWant_any R a n c A B bs s3 false 4 w10 ((H4.out.drew.below hb9).below hb10)).mono ?_
        rintro e w11 ⟨rfl, H11, hF11⟩
        have y5 : w11.cell? ⟨Z, 0, none⟩ = some (.int .i64 num) := (World.cell?_of_block (w := w10) (a := ⟨Z, 0, none⟩) (hF11.block Z (Nat.lt_of_lt_of_le HZL.out (Nat.le_trans hb9.size hb10.size)) (by have := HZR.out; omega))).trans y4
        go_wp2_with fail
        refine hK.out _ _ (y5) (fun hHeld => ?_)
        clear hK K
        try simp only [Act.put, List.setIfInBounds_toArray, List.set_cons_zero, List.set_cons_succ]
        refine wpAnyH_done (by kernel_rfl) ?_ _
        refine NoPanic.normal ?_
        clear hHeld
        have HA : Hid (RSt w11 R a n c A B bs (wantS (inB 2 999 num && decide (last < num)) 4 s3) ∧ Fr (fun x => x = R) U w11) := by
          rw [HG.out]
          exact ⟨H11, Fr.trans (Fr.of_below ((Below.refl _ _).drew.trans (hb9.trans (hb10.mono hb9.size)))) hF11⟩
        clear H11 hF11 hb9 hb10 y3 y4 y5
        go_wp2_with fail
        go_meet
        exact ⟨rfl, HA⟩
      · by_cases t6 : last < num
        · have d6 : decide (last < num) = true := by simpa using t6
          have HG : Hid ((inB 2 999 num && decide (last < num)) = true) := by show _ = _; rw [t5, d6]; rfl
          refine wp_region_noPanic ?_
          refine wp_region_held_drew (S := (fun w' : World => w'.cell? ⟨Z, 0, none⟩ = some (.int .i64 num))) (by kernel_rfl) (z0) (fun hHeld => ?_)
          refine wpAnyH_take (i := 0) (oi := { dst := some 26, op := Op.move (Operand.tmp 0), type := 44, pos := "l7_restore.go:197", after := #[], guard := none }) (v := .pointer (some ⟨R, 0, none⟩)) rfl (by kernel_rfl) (by kernel_rfl) (by kernel_rfl) (fun _ _ _ h => h) (Or.inl ⟨by rfl, ?_⟩) (by assumption) ?_
          · intro wq hSw; (try dsimp only at hSw); go_simp
          try simp only [Act.put, List.setIfInBounds_toArray, List.set_cons_zero, List.set_cons_succ]
          refine wpAnyH_take (i := 2) (oi := { dst := some 28, op := Op.fieldAddr 41 (Operand.tmp 9) 0, type := 0, pos := "l7_restore.go:197", after := #[], guard := none }) (v := .pointer (some ⟨Z, 0, none⟩)) rfl (by kernel_rfl) (by kernel_rfl) (by kernel_rfl) (fun _ _ _ h => h) (Or.inl ⟨by rfl, ?_⟩) (by assumption) ?_
          · intro wq hSw; (try dsimp only at hSw); go_simp
          try simp only [Act.put, List.setIfInBounds_toArray, List.set_cons_zero, List.set_cons_succ]
          refine wpAnyH_take (i := 3) (oi := { dst := some 29, op := Op.load 2 (Operand.tmp 28), type := 2, pos := "l7_restore.go:197", after := #[{ on := 2, ground := Ground.data }], guard := none }) (v := .int .i64 num) rfl (by kernel_rfl) (by kernel_rfl) (by kernel_rfl) (fun _ _ _ h => h) (Or.inl ⟨by rfl, ?_⟩) (by assumption) ?_
          · intro wq hSw; (try dsimp only at hSw); go_simp
          try simp only [Act.put, List.setIfInBounds_toArray, List.set_cons_zero, List.set_cons_succ]
          refine wpAnyH_ready (rs := [1]) (by kernel_rfl) (by simp) ?_
          refine AllReadyH.cons (o := { dst := some 27, op := Op.call { callee := Callee.value (Operand.func 37), args := #[], argTypes := #[] }, type := 76, pos := "l7_restore.go:197", after := #[], guard := none }) rfl (fun K hK => ?_) AllReadyH.nil
          go_simp
          refine (New.newPages_any U.drew).mono ?_
          rintro e w9 ⟨rfl, hb9⟩
          have y3 : w9.cell? ⟨Z, 0, none⟩ = some (.int .i64 num) := (hb9.cell (p := ⟨Z, 0, none⟩) HZL.out).trans z0
          go_wp2_with fail
          refine hK.out _ _ (y3) (fun hHeld => ?_)
          clear hK K
          try simp only [Act.put, List.setIfInBounds_toArray, List.set_cons_zero, List.set_cons_succ]
          refine wpAnyH_ready (rs := [4]) (by kernel_rfl) (by simp) ?_
          refine AllReadyH.cons (o := { dst := some 30, op := Op.call { callee := Callee.value (Operand.func 38), args := #[Operand.tmp 27, Operand.tmp 29], argTypes := #[76, 2] }, type := 4, pos := "l7_restore.go:197", after := #[{ on := 1, ground := Ground.data }, { on := 3, ground := Ground.data }, { on := 1, ground := Ground.chain }], guard := none }) rfl (fun K hK => ?_) AllReadyH.nil
          go_simp
          have HA9 := has_any 2 999 num w9
          rw [t5] at HA9
          refine HA9.mono ?_
          rintro e w10 ⟨rfl, hb10⟩
          have y4 : w10.cell? ⟨Z, 0, none⟩ = some (.int .i64 num) := (hb10.cell (p := ⟨Z, 0, none⟩) (Nat.lt_of_lt_of_le HZL.out hb9.size)).trans y3
          go_wp2_with fail
          refine hK.out _ _ (y4) (fun hHeld => ?_)
          clear hK K
          try simp only [Act.put, List.setIfInBounds_toArray, List.set_cons_zero, List.set_cons_succ]
          refine wpAnyH_take (i := 5) (oi := { dst := some 31, op := Op.move (Operand.tmp 30), type := 4, pos := "l7_restore.go:197", after := #[{ on := 4, ground := Ground.data }, { on := 4, ground := Ground.chain }], guard := none }) (v := .bool true) rfl (by kernel_rfl) (by kernel_rfl) (by kernel_rfl) (fun _ _ _ h => h) (Or.inl ⟨by rfl, ?_⟩) (by assumption) ?_
          · intro wq hSw; (try dsimp only at hSw); go_simp
          try simp only [Act.put, List.setIfInBounds_toArray, List.set_cons_zero, List.set_cons_succ]
          refine wpAnyH_take (i := 6) (oi := { dst := some 32, op := Op.fieldAddr 41 (Operand.tmp 9) 0, type := 0, pos := "l7_restore.go:197", after := #[{ on := 5, ground := Ground.guard }], guard := some (5, true) }) (v := .pointer (some ⟨Z, 0, none⟩)) rfl (by kernel_rfl) (by kernel_rfl) (by kernel_rfl) (fun _ _ _ h => h) (Or.inl ⟨by rfl, ?_⟩) (by assumption) ?_
          · intro wq hSw; (try dsimp only at hSw); go_simp
          try simp only [Act.put, List.setIfInBounds_toArray, List.set_cons_zero, List.set_cons_succ]
          refine wpAnyH_take (i := 7) (oi := { dst := some 33, op := Op.load 2 (Operand.tmp 32), type := 2, pos := "l7_restore.go:197", after := #[{ on := 6, ground := Ground.data }, { on := 5, ground := Ground.guard }], guard := some (5, true) }) (v := .int .i64 num) rfl (by kernel_rfl) (by kernel_rfl) (by kernel_rfl) (fun _ _ _ h => h) (Or.inl ⟨by rfl, ?_⟩) (by assumption) ?_
          · intro wq hSw; (try dsimp only at hSw); go_simp
          try simp only [Act.put, List.setIfInBounds_toArray, List.set_cons_zero, List.set_cons_succ]
          refine wpAnyH_take (i := 8) (oi := { dst := some 34, op := Op.move (Operand.tmp 2), type := 2, pos := "l7_restore.go:197", after := #[{ on := 5, ground := Ground.guard }], guard := some (5, true) }) (v := .int .i64 last) rfl (by kernel_rfl) (by kernel_rfl) (by kernel_rfl) (fun _ _ _ h => h) (Or.inl ⟨by rfl, ?_⟩) (by assumption) ?_
          · intro wq hSw; (try dsimp only at hSw); go_simp
          try simp only [Act.put, List.setIfInBounds_toArray, List.set_cons_zero, List.set_cons_succ]
          refine wpAnyH_take (i := 9) (oi := { dst := some 35, op := Op.binOp BinOp.gtr 2 (Operand.tmp 33) (Operand.tmp 34) 2, type := 4, pos := "l7_restore.go:197", after := #[{ on := 7, ground := Ground.data }, { on := 8, ground := Ground.data }, { on := 5, ground := Ground.guard }], guard := some (5, true) }) (v := .bool true) rfl (by kernel_rfl) (by kernel_rfl) (by kernel_rfl) (fun _ _ _ h => h) (Or.inl ⟨by rfl, ?_⟩) (by assumption) ?_
          · intro wq hSw; (try dsimp only at hSw); go_simp
          try simp only [Act.put, List.setIfInBounds_toArray, List.set_cons_zero, List.set_cons_succ]
          refine wpAnyH_take (i := 10) (oi := { dst := some 36, op := Op.pick (Operand.tmp 31) (Operand.tmp 35) (Operand.const (Value.bool false)), type := 4, pos := "l7_restore.go:197", after := #[{ on := 5, ground := Ground.data }, { on := 9, ground := Ground.data }], guard := none }) (v := .bool true) rfl (by kernel_rfl) (by kernel_rfl) (by kernel_rfl) (fun _ _ _ h => h) (Or.inl ⟨by rfl, ?_⟩) (by assumption) ?_
          · intro wq hSw; (try dsimp only at hSw); go_simp
          try simp only [Act.put, List.setIfInBounds_toArray, List.set_cons_zero, List.set_cons_succ]
          refine wpAnyH_ready (rs := [11]) (by kernel_rfl) (by simp) ?_
          refine AllReadyH.cons (o := { dst := some 37, op := Op.call { callee := Callee.value (Operand.func 35), args := #[Operand.tmp 26, Operand.tmp 36, Operand.const (Value.int IntKind.i64 4)], argTypes := #[44, 4, 2] }, type := 0, pos := "l7_restore.go:197", after := #[{ on := 0, ground := Ground.data }, { on := 10, ground := Ground.data }, { on := 5, ground := Ground.chain }], guard := none }) rfl (fun K hK => ?_) AllReadyH.nil
          go_simp
          refine (rWant_any R a n c A B bs s3 true 4 w10 ((H4.out.drew.below hb9).below hb10)).mono ?_
          rintro e w11 ⟨rfl, H11, hF11⟩
          have y5 : w11.cell? ⟨Z, 0, none⟩ = some (.int .i64 num) := (World.cell?_of_block (w := w10) (a := ⟨Z, 0, none⟩) (hF11.block Z (Nat.lt_of_lt_of_le HZL.out (Nat.le_trans hb9.size hb10.size)) (by have := HZR.out; omega))).trans y4
          go_wp2_with fail
          refine hK.out _ _ (y5) (fun hHeld => ?_)
          clear hK K
          try simp only [Act.put, List.setIfInBounds_toArray, List.set_cons_zero, List.set_cons_succ]
          refine wpAnyH_done (by kernel_rfl) ?_ _
          refine NoPanic.normal ?_
          clear hHeld
          have HA : Hid (RSt w11 R a n c A B bs (wantS (inB 2 999 num && decide (last < num)) 4 s3) ∧ Fr (fun x => x = R) U w11) := by
            rw [HG.out]
            exact ⟨H11, Fr.trans (Fr.of_below ((Below.refl _ _).drew.trans (hb9.trans (hb10.mono hb9.size)))) hF11⟩
          clear H11 hF11 hb9 hb10 y3 y4 y5
          go_wp2_with fail
          go_meet
          exact ⟨rfl, HA⟩
        · have d6 : decide (last < num) = false := by simpa using t6
          have HG : Hid ((inB 2 999 num && decide (last < num)) = false) := by show _ = _; rw [t5, d6]; rfl
          refine wp_region_noPanic ?_
          refine wp_region_held_drew (S := (fun w' : World => w'.cell? ⟨Z, 0, none⟩ = some (.int .i64 num))) (by kernel_rfl) (z0) (fun hHeld => ?_)
          refine wpAnyH_take (i := 0) (oi := { dst := some 26, op := Op.move (Operand.tmp 0), type := 44, pos := "l7_restore.go:197", after := #[], guard := none }) (v := .pointer (some ⟨R, 0, none⟩)) rfl (by kernel_rfl) (by kernel_rfl) (by kernel_rfl) (fun _ _ _ h => h) (Or.inl ⟨by rfl, ?_⟩) (by assumption) ?_
          · intro wq hSw; (try dsimp only at hSw); go_simp
          try simp only [Act.put, List.setIfInBounds_toArray, List.set_cons_zero, List.set_cons_succ]
          refine wpAnyH_take (i := 2) (oi := { dst := some 28, op := Op.fieldAddr 41 (Operand.tmp 9) 0, type := 0, pos := "l7_restore.go:197", after := #[], guard := none }) (v := .pointer (some ⟨Z, 0, none⟩)) rfl (by kernel_rfl) (by kernel_rfl) (by kernel_rfl) (fun _ _ _ h => h) (Or.inl ⟨by rfl, ?_⟩) (by assumption) ?_
          · intro wq hSw; (try dsimp only at hSw); go_simp
          try simp only [Act.put, List.setIfInBounds_toArray, List.set_cons_zero, List.set_cons_succ]
          refine wpAnyH_take (i := 3) (oi := { dst := some 29, op := Op.load 2 (Operand.tmp 28), type := 2, pos := "l7_restore.go:197", after := #[{ on := 2, ground := Ground.data }], guard := none }) (v := .int .i64 num) rfl (by kernel_rfl) (by kernel_rfl) (by kernel_rfl) (fun _ _ _ h => h) (Or.inl ⟨by rfl, ?_⟩) (by assumption) ?_
          · intro wq hSw; (try dsimp only at hSw); go_simp
          try simp only [Act.put, List.setIfInBounds_toArray, List.set_cons_zero, List.set_cons_succ]
          refine wpAnyH_ready (rs := [1]) (by kernel_rfl) (by simp) ?_
          refine AllReadyH.cons (o := { dst := some 27, op := Op.call { callee := Callee.value (Operand.func 37), args := #[], argTypes := #[] }, type := 76, pos := "l7_restore.go:197", after := #[], guard := none }) rfl (fun K hK => ?_) AllReadyH.nil
          go_simp
          refine (New.newPages_any U.drew).mono ?_
          rintro e w9 ⟨rfl, hb9⟩
          have y3 : w9.cell? ⟨Z, 0, none⟩ = some (.int .i64 num) := (hb9.cell (p := ⟨Z, 0, none⟩) HZL.out).trans z0
          go_wp2_with fail
          refine hK.out _ _ (y3) (fun hHeld => ?_)
          clear hK K
          try simp only [Act.put, List.setIfInBounds_toArray, List.set_cons_zero, List.set_cons_succ]
          refine wpAnyH_ready (rs := [4]) (by kernel_rfl) (by simp) ?_
          refine AllReadyH.cons (o := { dst := some 30, op := Op.call { callee := Callee.value (Operand.func 38), args := #[Operand.tmp 27, Operand.tmp 29], argTypes := #[76, 2] }, type := 4, pos := "l7_restore.go:197", after := #[{ on := 1, ground := Ground.data }, { on := 3, ground := Ground.data }, { on := 1, ground := Ground.chain }], guard := none }) rfl (fun K hK => ?_) AllReadyH.nil
          go_simp
          have HA9 := has_any 2 999 num w9
          rw [t5] at HA9
          refine HA9.mono ?_
          rintro e w10 ⟨rfl, hb10⟩
          have y4 : w10.cell? ⟨Z, 0, none⟩ = some (.int .i64 num) := (hb10.cell (p := ⟨Z, 0, none⟩) (Nat.lt_of_lt_of_le HZL.out hb9.size)).trans y3
          go_wp2_with fail
          refine hK.out _ _ (y4) (fun hHeld => ?_)
          clear hK K
          try simp only [Act.put, List.setIfInBounds_toArray, List.set_cons_zero, List.set_cons_succ]
          refine wpAnyH_take (i := 5) (oi := { dst := some 31, op := Op.move (Operand.tmp 30), type := 4, pos := "l7_restore.go:197", after := #[{ on := 4, ground := Ground.data }, { on := 4, ground := Ground.chain }], guard := none }) (v := .bool true) rfl (by kernel_rfl) (by kernel_rfl) (by kernel_rfl) (fun _ _ _ h => h) (Or.inl ⟨by rfl, ?_⟩) (by assumption) ?_
          · intro wq hSw; (try dsimp only at hSw); go_simp
          try simp only [Act.put, List.setIfInBounds_toArray, List.set_cons_zero, List.set_cons_succ]
          refine wpAnyH_take (i := 6) (oi := { dst := some 32, op := Op.fieldAddr 41 (Operand.tmp 9) 0, type := 0, pos := "l7_restore.go:197", after := #[{ on := 5, ground := Ground.guard }], guard := some (5, true) }) (v := .pointer (some ⟨Z, 0, none⟩)) rfl (by kernel_rfl) (by kernel_rfl) (by kernel_rfl) (fun _ _ _ h => h) (Or.inl ⟨by rfl, ?_⟩) (by assumption) ?_
          · intro wq hSw; (try dsimp only at hSw); go_simp
          try simp only [Act.put, List.setIfInBounds_toArray, List.set_cons_zero, List.set_cons_succ]
          refine wpAnyH_take (i := 7) (oi := { dst := some 33, op := Op.load 2 (Operand.tmp 32), type := 2, pos := "l7_restore.go:197", after := #[{ on := 6, ground := Ground.data }, { on := 5, ground := Ground.guard }], guard := some (5, true) }) (v := .int .i64 num) rfl (by kernel_rfl) (by kernel_rfl) (by kernel_rfl) (fun _ _ _ h => h) (Or.inl ⟨by rfl, ?_⟩) (by assumption) ?_
          · intro wq hSw; (try dsimp only at hSw); go_simp
          try simp only [Act.put, List.setIfInBounds_toArray, List.set_cons_zero, List.set_cons_succ]
          refine wpAnyH_take (i := 8) (oi := { dst := some 34, op := Op.move (Operand.tmp 2), type := 2, pos := "l7_restore.go:197", after := #[{ on := 5, ground := Ground.guard }], guard := some (5, true) }) (v := .int .i64 last) rfl (by kernel_rfl) (by kernel_rfl) (by kernel_rfl) (fun _ _ _ h => h) (Or.inl ⟨by rfl, ?_⟩) (by assumption) ?_
          · intro wq hSw; (try dsimp only at hSw); go_simp
          try simp only [Act.put, List.setIfInBounds_toArray, List.set_cons_zero, List.set_cons_succ]
          refine wpAnyH_take (i := 9) (oi := { dst := some 35, op := Op.binOp BinOp.gtr 2 (Operand.tmp 33) (Operand.tmp 34) 2, type := 4, pos := "l7_restore.go:197", after := #[{ on := 7, ground := Ground.data }, { on := 8, ground := Ground.data }, { on := 5, ground := Ground.guard }], guard := some (5, true) }) (v := .bool false) rfl (by kernel_rfl) (by kernel_rfl) (by kernel_rfl) (fun _ _ _ h => h) (Or.inl ⟨by rfl, ?_⟩) (by assumption) ?_
          · intro wq hSw; (try dsimp only at hSw); go_simp
          try simp only [Act.put, List.setIfInBounds_toArray, List.set_cons_zero, List.set_cons_succ]
          refine wpAnyH_take (i := 10) (oi := { dst := some 36, op := Op.pick (Operand.tmp 31) (Operand.tmp 35) (Operand.const (Value.bool false)), type := 4, pos := "l7_restore.go:197", after := #[{ on := 5, ground := Ground.data }, { on := 9, ground := Ground.data }], guard := none }) (v := .bool false) rfl (by kernel_rfl) (by kernel_rfl) (by kernel_rfl) (fun _ _ _ h => h) (Or.inl ⟨by rfl, ?_⟩) (by assumption) ?_
          · intro wq hSw; (try dsimp only at hSw); go_simp
          try simp only [Act.put, List.setIfInBounds_toArray, List.set_cons_zero, List.set_cons_succ]
          refine wpAnyH_ready (rs := [11]) (by kernel_rfl) (by simp) ?_
          refine AllReadyH.cons (o := { dst := some 37, op := Op.call { callee := Callee.value (Operand.func 35), args := #[Operand.tmp 26, Operand.tmp 36, Operand.const (Value.int IntKind.i64 4)], argTypes := #[44, 4, 2] }, type := 0, pos := "l7_restore.go:197", after := #[{ on := 0, ground := Ground.data }, { on := 10, ground := Ground.data }, { on := 5, ground := Ground.chain }], guard := none }) rfl (fun K hK => ?_) AllReadyH.nil
          go_simp
          refine (rWant_any R a n c A B bs s3 false 4 w10 ((H4.out.drew.below hb9).below hb10)).mono ?_
          rintro e w11 ⟨rfl, H11, hF11⟩
          have y5 : w11.cell? ⟨Z, 0, none⟩ = some (.int .i64 num) := (World.cell?_of_block (w := w10) (a := ⟨Z, 0, none⟩) (hF11.block Z (Nat.lt_of_lt_of_le HZL.out (Nat.le_trans hb9.size hb10.size)) (by have := HZR.out; omega))).trans y4
          go_wp2_with fail
          refine hK.out _ _ (y5) (fun hHeld => ?_)
          clear hK K
          try simp only [Act.put, List.setIfInBounds_toArray, List.set_cons_zero, List.set_cons_succ]
          refine wpAnyH_done (by kernel_rfl) ?_ _
          refine NoPanic.normal ?_
          clear hHeld
          have HA : Hid (RSt w11 R a n c A B bs (wantS (inB 2 999 num && decide (last < num)) 4 s3) ∧ Fr (fun x => x = R) U w11) := by
            rw [HG.out]
            exact ⟨H11, Fr.trans (Fr.of_below ((Below.refl _ _).drew.trans (hb9.trans (hb10.mono hb9.size)))) hF11⟩
          clear H11 hF11 hb9 hb10 y3 y4 y5
          go_wp2_with fail
          go_meet
          exact ⟨rfl, HA⟩
    case rest =>
      obtain ⟨rfl, HC⟩ := hcut
      obtain ⟨s4, hs4⟩ : ∃ s4, s4 = wantS (inB 2 999 num && decide (last < num)) 4 s3 := ⟨_, rfl⟩
      rw [← hs4] at HC HE
      clear hs4 z0 H4 HZL
      have H6 : Hid (RSt wc R a n c A B bs s4) := HC.out.1
      have F6 : Hid (Fr (fun x => x = R) U wc) := HC.out.2
      clear HC
      obtain ⟨XS, _, XZ, _, _⟩ := HK.out wc F6.out
      obtain ⟨x0, x1, x2, x3, x4⟩ := box_fiveC XS
      obtain ⟨q0, q1, _⟩ := box_twoP XZ
      have lS : w.heap.size < wc.heap.size := (Array.getElem?_eq_some_iff.1 XS).1
      have lZ : Z < wc.heap.size := (Array.getElem?_eq_some_iff.1 XZ).1
      clear XS XZ
      obtain ⟨A2, B2, o1, o2, o3⟩ := HBY2.out wc F6.out
      have HCR : Hid (0 ≤ crcOf body ∧ crcOf body < 4294967296) := crcOf_range body
      have hcr := HCR.out
      go_wp2_with fail
      refine (New.implCrc0 _ _ _ body wc A2 B2 o3).mono ?_
      rintro e wd ⟨rfl, e9⟩
      subst e9
      obtain ⟨cr, hcr'⟩ : ∃ cr, cr = crcOf body := ⟨_, rfl⟩
      rw [← hcr'] at HE hcr ⊢
      clear hcr' HCR o1 o2 o3 HBY2
      by_cases t7 : cr = sum
      · have d7 : (cr == sum) = true := by simpa using t7
        obtain ⟨A3, N3, C3, e3, hby3⟩ := bytesAt_of_own (bs := data) (by rw [show data.length = 128 by rw [HDT.out]; have := hbl2.out; simp; omega]; exact (HK.out wd F6.out).2.2.2.1) (fun x hx => by rw [HDT.out] at hx; exact HBR.out x (List.mem_of_mem_drop hx))
        simp only [Value.slice.injEq] at e3
        obtain ⟨rfl, rfl, rfl⟩ := e3
        have HB3 : Hid (BytesAt wd V.heap.size wd.heap.size va 128 vc data) := hby3
        clear hby3
        go_wp2_with fail
        refine (mayHold_any id tx base root pa pn pc va vc data wd _ _ (Nat.le_refl _) HB3.out).mono ?_
        rintro e w6 ⟨rfl, hb6⟩
        go_wp2_with fail
        refine (rWant_any R a n c A B bs s4 (holdB base tx data) 4 w6 (H6.out.below hb6)).mono ?_
        rintro e w7 ⟨rfl, H7', hF7⟩
        rw [d7, Bool.true_and] at HE
        have H7 : Hid (RSt w7 R a n c A B bs (wantS (holdB base tx data) 4 s4)) := H7'
        have F7 : Hid (Fr (fun x => x = R) U w7) := (F6.out.trans (Fr.of_below hb6)).trans hF7
        clear H7' hF7 hb6 HB3 x0 x1 x2 x3 x4 q0 q1 lS lZ H6 F6
        obtain ⟨XS, XN, XZ, XO, FW⟩ := HK.out w7 F7.out
        have HX : Hid (RSt w7 R a n c A B bs H.st) := by rw [HE.out]; exact H7.out
        have HO : Hid (w7.ownsRow w.heap.size 5 1 (.slice va 128 vc) 128 (u8s H.data)) := by rw [HE.out]; exact own_lower XO (by have := HV.out.2.2.2.2.1; omega)
        have HNM : Hid (H.num = num) := by rw [HE.out]; rfl
        have HNE : Hid (∀ g, (Value.slice va 128 vc).ownBlock = some g → g ≠ w.heap.size + 1) := fun g hg => by have := (XO.lt g hg).1; have := HV.out.2.2.2.2.1; omega
        obtain ⟨p0, p1, pf⟩ := box_twoP XN
        obtain ⟨q0, q1, _⟩ := box_twoP XZ
        have pf0 := pf 0
        have pf1 := pf 1
        have lN : w.heap.size + 1 < w7.heap.size := (Array.getElem?_eq_some_iff.1 XN).1
        have lZ : Z < w7.heap.size := (Array.getElem?_eq_some_iff.1 XZ).1
        obtain ⟨k1, k2⟩ := two_set XN (.int .i64 num) (.slice va 128 vc)
        have HR9 : Hid (RSt ((w7.setCell ⟨w.heap.size + 1, 0, none⟩ (.int .i64 num)).setCell ⟨w.heap.size + 1, 1, none⟩ (.slice va 128 vc)) R a n c A B bs H.st) := HX.out.other k2 (by omega)
        have HO9 : Hid (((w7.setCell ⟨w.heap.size + 1, 0, none⟩ (.int .i64 num)).setCell ⟨w.heap.size + 1, 1, none⟩ (.slice va 128 vc)).ownsRow w.heap.size 5 1 (.slice va 128 vc) 128 (u8s H.data)) := owns_fr HO.out k2 HNE.out
        have HF9 : Hid (Fr (fun x => x = R) w ((w7.setCell ⟨w.heap.size + 1, 0, none⟩ (.int .i64 num)).setCell ⟨w.heap.size + 1, 1, none⟩ (.slice va 128 vc))) := ⟨k2.os.trans FW.os, k2.tape.trans FW.tape, k2.output.trans FW.output, Nat.le_trans FW.size k2.size, fun k hk hn => (k2.block k (Nat.lt_of_lt_of_le hk FW.size) (by omega)).trans (FW.block k hk hn)⟩
        clear XS XN XZ XO FW HX HO HNE pf k2 HK F7 H7 HV
        go_wp2_with fail
        show bodyPost _ _ _ _ _ ((w7.setCell ⟨w.heap.size + 1, 0, none⟩ (.int .i64 num)).setCell ⟨w.heap.size + 1, 1, none⟩ (.slice va 128 vc))
        clear p0 p1 pf0 pf1
        obtain ⟨p0, p1, _⟩ := box_twoP k1
        rw [HNM.out]
        exact bodyPost_ret (v := .agg #[.int .i64 num, .slice va 128 vc]) (by simp [results, Try.results25, go_sem, p0, p1]) rfl ⟨va, vc, rfl, HO9.out, HR9.out, HF9.out⟩
      · have d7 : (cr == sum) = false := by simpa using t7
        go_wp2_with fail
        refine (rWant_any R a n c A B bs s4 false 4 wd H6.out).mono ?_
        rintro e w7 ⟨rfl, H7', hF7⟩
        rw [d7, Bool.false_and] at HE
        have H7 : Hid (RSt w7 R a n c A B bs (wantS false 4 s4)) := H7'
        have F7 : Hid (Fr (fun x => x = R) U w7) := F6.out.trans hF7
        clear H7' hF7 x0 x1 x2 x3 x4 q0 q1 lS lZ H6 F6
        obtain ⟨XS, XN, XZ, XO, FW⟩ := HK.out w7 F7.out
        have HX : Hid (RSt w7 R a n c A B bs H.st) := by rw [HE.out]; exact H7.out
        have HO : Hid (w7.ownsRow w.heap.size 5 1 (.slice va 128 vc) 128 (u8s H.data)) := by rw [HE.out]; exact own_lower XO (by have := HV.out.2.2.2.2.1; omega)
        have HNM : Hid (H.num = num) := by rw [HE.out]; rfl
        have HNE : Hid (∀ g, (Value.slice va 128 vc).ownBlock = some g → g ≠ w.heap.size + 1) := fun g hg => by have := (XO.lt g hg).1; have := HV.out.2.2.2.2.1; omega
        obtain ⟨p0, p1, pf⟩ := box_twoP XN
        obtain ⟨q0, q1, _⟩ := box_twoP XZ
        have pf0 := pf 0
        have pf1 := pf 1
        have lN : w.heap.size + 1 < w7.heap.size := (Array.getElem?_eq_some_iff.1 XN).1
        have lZ : Z < w7.heap.size := (Array.getElem?_eq_some_iff.1 XZ).1
        obtain ⟨k1, k2⟩ := two_set XN (.int .i64 num) (.slice va 128 vc)
        have HR9 : Hid (RSt ((w7.setCell ⟨w.heap.size + 1, 0, none⟩ (.int .i64 num)).setCell ⟨w.heap.size + 1, 1, none⟩ (.slice va 128 vc)) R a n c A B bs H.st) := HX.out.other k2 (by omega)
        have HO9 : Hid (((w7.setCell ⟨w.heap.size + 1, 0, none⟩ (.int .i64 num)).setCell ⟨w.heap.size + 1, 1, none⟩ (.slice va 128 vc)).ownsRow w.heap.size 5 1 (.slice va 128 vc) 128 (u8s H.data)) := owns_fr HO.out k2 HNE.out
        have HF9 : Hid (Fr (fun x => x = R) w ((w7.setCell ⟨w.heap.size + 1, 0, none⟩ (.int .i64 num)).setCell ⟨w.heap.size + 1, 1, none⟩ (.slice va 128 vc))) := ⟨k2.os.trans FW.os, k2.tape.trans FW.tape, k2.output.trans FW.output, Nat.le_trans FW.size k2.size, fun k hk hn => (k2.block k (Nat.lt_of_lt_of_le hk FW.size) (by omega)).trans (FW.block k hk hn)⟩
        clear XS XN XZ XO FW HX HO HNE pf k2 HK F7 H7 HV
        go_wp2_with fail
        show bodyPost _ _ _ _ _ ((w7.setCell ⟨w.heap.size + 1, 0, none⟩ (.int .i64 num)).setCell ⟨w.heap.size + 1, 1, none⟩ (.slice va 128 vc))
        clear p0 p1 pf0 pf1
        obtain ⟨p0, p1, _⟩ := box_twoP k1
        rw [HNM.out]
        exact bodyPost_ret (v := .agg #[.int .i64 num, .slice va 128 vc]) (by simp [results, Try.results25, go_sem, p0, p1]) rfl ⟨va, vc, rfl, HO9.out, HR9.out, HF9.out⟩

end Go.Proofs.Ytdieplpegkiolaa
