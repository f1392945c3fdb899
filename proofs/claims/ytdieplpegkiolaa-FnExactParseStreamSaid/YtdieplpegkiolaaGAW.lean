import Derived.Test.YtdieplpegkiolaaGAA
import Derived.Test.YtdieplpegkiolaaGAM
import Derived.Test.YtdieplpegkiolaaGAS
import Derived.Test.YtdieplpegkiolaaGAV
import Derived.Deep.DeepCutAuto
namespace Go.Proofs.Ytdieplpegkiolaa
open Go.RowKit
set_option linter.unusedVariables false
set_option linter.unusedSimpArgs false
set_option maxRecDepth 100000

/-- What the head tells. -/
structure Hd where
  id : Int
  tx : Int
  base : Int
  root : Int
  cnt : Int
  st : Rs
def hdOk1 (id tx base : Int) : Bool := decide (1 ≤ id) && decide (id ≤ 2000000000) && inB 1 2000000000 tx && decide (base < tx)
def hdOk2 (root cnt : Int) : Bool := inB 2 999 root && decide (cnt ≤ 1000)
def headS (bs : List Int) (s : Rs) : Hd :=
  let s1 := markS bs 2 [66, 75] s
  let s2 := takeS bs.length 4 s1
  let s3 := takeS bs.length 4 s2
  let s4 := takeS bs.length 4 s3
  let s5 := takeS bs.length 4 s4
  let s6 := takeS bs.length 4 s5
  let id := leN (takeV bs 4 s1)
  let tx := leN (takeV bs 4 s2)
  let base := leN (takeV bs 4 s3)
  let root := leN (takeV bs 4 s4)
  let cnt := leN (takeV bs 4 s5)
  ⟨id, tx, base, root, cnt, wantS (hdOk2 root cnt) 2 (wantS (hdOk1 id tx base) 2 s6)⟩
theorem num_range {bs : List Int} (h : ∀ x ∈ bs, 0 ≤ x ∧ x ≤ 255) (s : Rs) : 0 ≤ leN (takeV bs 4 s) ∧ leN (takeV bs 4 s) < 4294967296 := by
  have := leN_range (takeV bs 4 s) (takeV_byte h 4 s)
  rw [takeV_len] at this
  have e : (256 : Int) ^ 4 = 4294967296 := by decide
  omega
set_option maxHeartbeats 4000000 in
theorem rHead_any (R : Nat) (a : Option Addr) (n c A B : Nat) (bs : List Int) (s : Rs) (w : World) (h : RSt w R a n c A B bs s) :
    Calls Try.prog 24 #[.pointer (some ⟨R, 0, none⟩)] w fun e w' => e = .returned (.tuple #[.agg #[.int .i64 (headS bs s).id, .int .i64 (headS bs s).tx, .int .i64 (headS bs s).base, .int .i64 (headS bs s).root, .slice none 0 0], .int .i64 (headS bs s).cnt]) ∧ RSt w' R a n c A B bs (headS bs s).st ∧ Fr (fun x => x = R) w w' := by
  have hbl : Hid (bs.length = n) := h.by_.1
  have hby := h.by_.2.2.2.1
  have hRl := h.lt
  obtain ⟨H, hH⟩ : ∃ H, H = headS bs s := ⟨_, rfl⟩
  rw [← hH]
  have HH : Hid (H = headS bs s) := hH
  clear hH
  have hb0 : Below w.heap.size w (w.alloc (.cells #[.int .i64 0, .int .i64 0, .int .i64 0, .int .i64 0, .slice none 0 0] 25)) := (Below.refl _ _).alloc (Nat.le_refl _) _
  have k0 := heap_alloc_new w (.cells #[.int .i64 0, .int .i64 0, .int .i64 0, .int .i64 0, .slice none 0 0] 25)
  go_enter Try.func24, Try.ntmps24
  go_wp2_with fail
  generalize w.alloc (.cells #[.int .i64 0, .int .i64 0, .int .i64 0, .int .i64 0, .slice none 0 0] 25) = W0 at hb0 k0 ⊢
  have H0 := h.below hb0
  have l0 : w.heap.size < W0.heap.size := (Array.getElem?_eq_some_iff.1 k0).1
  refine (rMark_any R a n c A B bs s ⟨#[66, 75]⟩ (by decide) 2 W0 H0).mono ?_
  rintro e w1 ⟨rfl, H1, hF1⟩
  have K1 := box_fr k0 hF1 (by omega)
  have F1 : Fr (fun x => x = R) w w1 := (Fr.of_below hb0).trans hF1
  clear H0 hF1 k0 hb0
  have e1 : markS bs 2 (ByteArray.mk #[66, 75]).data.toList s = markS bs 2 [66, 75] s := rfl
  rw [e1] at H1
  clear e1
  obtain ⟨s1, hs1'⟩ : ∃ x, x = markS bs 2 [66, 75] s := ⟨_, rfl⟩
  rw [← hs1'] at H1
  have hs1 : Hid (s1 = markS bs 2 [66, 75] s) := hs1'
  clear hs1'
  go_wp2_with fail
  refine (rNum_any R a n c A B bs s1 w1 H1).mono ?_
  rintro e w2 ⟨rfl, H2, hF2⟩
  obtain ⟨s2, hs2'⟩ : ∃ x, x = takeS n 4 s1 := ⟨_, rfl⟩
  rw [← hs2'] at H2
  have hs2 : Hid (s2 = takeS n 4 s1) := hs2'
  clear hs2'
  go_wp2_with fail
  refine (rNum_any R a n c A B bs s2 w2 H2).mono ?_
  rintro e w3 ⟨rfl, H3, hF3⟩
  obtain ⟨s3, hs3'⟩ : ∃ x, x = takeS n 4 s2 := ⟨_, rfl⟩
  rw [← hs3'] at H3
  have hs3 : Hid (s3 = takeS n 4 s2) := hs3'
  clear hs3'
  go_wp2_with fail
  refine (rNum_any R a n c A B bs s3 w3 H3).mono ?_
  rintro e w4 ⟨rfl, H4, hF4⟩
  obtain ⟨s4, hs4'⟩ : ∃ x, x = takeS n 4 s3 := ⟨_, rfl⟩
  rw [← hs4'] at H4
  have hs4 : Hid (s4 = takeS n 4 s3) := hs4'
  clear hs4'
  go_wp2_with fail
  refine (rNum_any R a n c A B bs s4 w4 H4).mono ?_
  rintro e w5 ⟨rfl, H5, hF5⟩
  obtain ⟨s5, hs5'⟩ : ∃ x, x = takeS n 4 s4 := ⟨_, rfl⟩
  rw [← hs5'] at H5
  have hs5 : Hid (s5 = takeS n 4 s4) := hs5'
  clear hs5'
  have F5 : Fr (fun x => x = R) w w5 := F1.trans (hF2.trans (hF3.trans (hF4.trans hF5)))
  have K5 := box_fr K1 (hF2.trans (hF3.trans (hF4.trans hF5))) (by omega)
  clear H1 H2 H3 H4 hF2 hF3 hF4 hF5 F1 K1
  obtain ⟨id, hid⟩ : ∃ x, x = leN (takeV bs 4 s1) := ⟨_, rfl⟩
  obtain ⟨tx, htx⟩ : ∃ x, x = leN (takeV bs 4 s2) := ⟨_, rfl⟩
  obtain ⟨ba, hba⟩ : ∃ x, x = leN (takeV bs 4 s3) := ⟨_, rfl⟩
  obtain ⟨rt, hrt⟩ : ∃ x, x = leN (takeV bs 4 s4) := ⟨_, rfl⟩
  have r1 := num_range hby s1
  have r2 := num_range hby s2
  have r3 := num_range hby s3
  have r4 := num_range hby s4
  have r5 := num_range hby s5
  rw [← hid] at r1 ⊢
  replace hid : Hid (id = leN (takeV bs 4 s1)) := hid
  rw [← htx] at r2 ⊢
  replace htx : Hid (tx = leN (takeV bs 4 s2)) := htx
  rw [← hba] at r3 ⊢
  replace hba : Hid (ba = leN (takeV bs 4 s3)) := hba
  rw [← hrt] at r4 ⊢
  replace hrt : Hid (rt = leN (takeV bs 4 s4)) := hrt
  have hb6 : Below w5.heap.size w5 (w5.alloc (.cells #[.int .i64 id, .int .i64 tx, .int .i64 ba, .int .i64 rt, .slice none 0 0] 25)) := (Below.refl _ _).alloc (Nat.le_refl _) _
  have S6 := heap_alloc_new w5 (.cells #[.int .i64 id, .int .i64 tx, .int .i64 ba, .int .i64 rt, .slice none 0 0] 25)
  have Z0 : R < w5.heap.size := H5.lt
  have Z1 : w.heap.size < w5.heap.size := (Array.getElem?_eq_some_iff.1 K5).1
  obtain ⟨N, hN⟩ : ∃ N, N = w5.heap.size := ⟨_, rfl⟩
  rw [← hN] at S6 Z0 Z1
  go_wp2_with fail
  rw [← hN]
  clear hN
  generalize w5.alloc (.cells #[.int .i64 id, .int .i64 tx, .int .i64 ba, .int .i64 rt, .slice none 0 0] 25) = W6 at hb6 S6 ⊢
  have H6 := H5.below hb6
  have K6 := box_below K5 hb6
  have F6 : Fr (fun x => x = R) w W6 := F5.trans (Fr.of_below hb6)
  clear H5 K5 F5 hb6
  refine (rNum_any R a n c A B bs s5 W6 H6).mono ?_
  rintro e w7 ⟨rfl, H7, hF7⟩
  obtain ⟨ct, hct⟩ : ∃ x, x = leN (takeV bs 4 s5) := ⟨_, rfl⟩
  rw [← hct] at r5 ⊢
  replace hct : Hid (ct = leN (takeV bs 4 s5)) := hct
  have K7 := box_fr K6 hF7 (by omega)
  have S7 := box_fr S6 hF7 (by omega)
  have F7 := F6.trans hF7
  obtain ⟨s6, hs6'⟩ : ∃ x, x = takeS n 4 s5 := ⟨_, rfl⟩
  rw [← hs6'] at H7
  have hs6 : Hid (s6 = takeS n 4 s5) := hs6'
  clear hs6'
  have HE : Hid (H = ⟨id, tx, ba, rt, ct, wantS (hdOk2 rt ct) 2 (wantS (hdOk1 id tx ba) 2 s6)⟩) := by
    show _ = _
    rw [HH.out, hs6.out, hct.out, hrt.out, hba.out, htx.out, hid.out, hs5.out, hs4.out, hs3.out, hs2.out, hs1.out, ← hbl.out]; rfl
  clear H6 K6 S6 F6 hF7 hs1 hs2 hs3 hs4 hs5 hs6 hid htx hba hrt hct HH
  have HK : Hid (∀ W, Fr (fun x => x = R) w7 W → W.heap[w.heap.size]? = some (.cells #[.int .i64 0, .int .i64 0, .int .i64 0, .int .i64 0, .slice none 0 0] 25) ∧ W.heap[N]? = some (.cells #[.int .i64 id, .int .i64 tx, .int .i64 ba, .int .i64 rt, .slice none 0 0] 25) ∧ Fr (fun x => x = R) w W) := fun W hW => ⟨box_fr K7 hW (by omega), box_fr S7 hW (by omega), F7.trans hW⟩
  have H7h : Hid (RSt w7 R a n c A B bs s6) := H7
  obtain ⟨z0, z1, z2, z3, z4⟩ := box_fiveC S7
  clear H7 K7 S7 F7 h
  go_upto_region 4 with fail
  go_cut [5] (fun cv wx => cv = .int .i64 ct ∧ Hid (RSt wx R a n c A B bs (wantS (hdOk1 id tx ba) 2 s6) ∧ Fr (fun x => x = R) w7 wx))
  case first =>
    by_cases t1 : 1 ≤ id
    · have d1 : decide (1 ≤ id) = true := by simpa using t1
      by_cases t2 : id ≤ 2000000000
      · have d2 : decide (id ≤ 2000000000) = true := by simpa using t2
        cases t3 : inB 1 2000000000 tx
        · have HG : Hid (hdOk1 id tx ba = false) := by show _ = _; simp [hdOk1, t3]
          go_wp2_with fail
          have hi := New.isStamp_any tx w7
          rw [t3] at hi
          refine hi.mono ?_
          rintro e w8 ⟨rfl, e8⟩
          subst e8
          go_wp2_with fail
          refine (rWant_any R a n c A B bs s6 false 2 w8 H7h.out).mono ?_
          rintro e w9 ⟨rfl, H9, hF9⟩
          go_wp2_with fail
          go_meet
          exact ⟨rfl, by rw [HG.out]; exact ⟨H9, hF9⟩⟩
        · by_cases t4 : ba < tx
          · have HG : Hid (hdOk1 id tx ba = true) := by show _ = _; simp [hdOk1, t1, t2, t3, t4]
            have d4 : decide (ba < tx) = true := by simpa using t4
            go_wp2_with fail
            have hi := New.isStamp_any tx w7
            rw [t3] at hi
            refine hi.mono ?_
            rintro e w8 ⟨rfl, e8⟩
            subst e8
            go_wp2_with fail
            refine (rWant_any R a n c A B bs s6 true 2 w8 H7h.out).mono ?_
            rintro e w9 ⟨rfl, H9, hF9⟩
            go_wp2_with fail
            go_meet
            exact ⟨rfl, by rw [HG.out]; exact ⟨H9, hF9⟩⟩
          · have HG : Hid (hdOk1 id tx ba = false) := by show _ = _; simp [hdOk1, t4]
            have d4 : decide (ba < tx) = false := by simpa using t4
            go_wp2_with fail
            have hi := New.isStamp_any tx w7
            rw [t3] at hi
            refine hi.mono ?_
            rintro e w8 ⟨rfl, e8⟩
            subst e8
            go_wp2_with fail
            refine (rWant_any R a n c A B bs s6 false 2 w8 H7h.out).mono ?_
            rintro e w9 ⟨rfl, H9, hF9⟩
            go_wp2_with fail
            go_meet
            exact ⟨rfl, by rw [HG.out]; exact ⟨H9, hF9⟩⟩
      · have HG : Hid (hdOk1 id tx ba = false) := by show _ = _; simp [hdOk1, t2]
        have d2 : decide (id ≤ 2000000000) = false := by simpa using t2
        go_wp2_with fail
        refine (rWant_any R a n c A B bs s6 false 2 w7 H7h.out).mono ?_
        rintro e w9 ⟨rfl, H9, hF9⟩
        go_wp2_with fail
        go_meet
        exact ⟨rfl, by rw [HG.out]; exact ⟨H9, hF9⟩⟩
    · have HG : Hid (hdOk1 id tx ba = false) := by show _ = _; simp [hdOk1, t1]
      have d1 : decide (1 ≤ id) = false := by simpa using t1
      go_wp2_with fail
      refine (rWant_any R a n c A B bs s6 false 2 w7 H7h.out).mono ?_
      rintro e w9 ⟨rfl, H9, hF9⟩
      go_wp2_with fail
      go_meet
      exact ⟨rfl, by rw [HG.out]; exact ⟨H9, hF9⟩⟩
  case rest =>
    obtain ⟨rfl, HC⟩ := hcut
    obtain ⟨s7, hs7⟩ : ∃ s7, s7 = wantS (hdOk1 id tx ba) 2 s6 := ⟨_, rfl⟩
    have H8 : Hid (RSt wc R a n c A B bs s7) := by rw [hs7]; exact HC.out.1
    have F8 : Hid (Fr (fun x => x = R) w7 wc) := HC.out.2
    rw [← hs7] at HE
    clear HC hs7 z0 z1 z2 z3 z4 H7h
    obtain ⟨z0, z1, z2, z3, z4⟩ := box_fiveC (HK.out _ F8.out).2.1
    clear z0 z1 z2 z4
    have HNS : Hid (N < wc.heap.size) := (Array.getElem?_eq_some_iff.1 (HK.out _ F8.out).2.1).1
    have HB2 : Hid (hdOk2 rt ct = (inB 2 999 rt && decide (ct ≤ 1000))) := rfl
    go_wp2_with fail
    cases t5 : inB 2 999 rt
    · have HG : Hid (hdOk2 rt ct = false) := by show _ = _; rw [HB2.out, t5]; rfl
      refine wp_region_noPanic ?_
      refine wp_region_held_drew (S := (fun w' : World => w'.cell? ⟨N, 3, none⟩ = some (.int .i64 rt))) (by kernel_rfl) (z3) (fun hHeld => ?_)
      refine wpAnyH_take (i := 0) (oi := { dst := some 41, op := Op.move (Operand.tmp 0), type := 44, pos := "l7_restore.go:188", after := #[], guard := none }) (v := .pointer (some ⟨R, 0, none⟩)) rfl (by kernel_rfl) (by kernel_rfl) (by kernel_rfl) (fun _ _ _ h => h) (Or.inl ⟨by rfl, ?_⟩) (by assumption) ?_
      · intro wq hSw; (try dsimp only at hSw); go_simp
      try simp only [Act.put, List.setIfInBounds_toArray, List.set_cons_zero, List.set_cons_succ]
      refine wpAnyH_take (i := 2) (oi := { dst := some 43, op := Op.fieldAddr 25 (Operand.tmp 4) 3, type := 0, pos := "l7_restore.go:188", after := #[], guard := none }) (v := .pointer (some ⟨N, 3, none⟩)) rfl (by kernel_rfl) (by kernel_rfl) (by kernel_rfl) (fun _ _ _ h => h) (Or.inl ⟨by rfl, ?_⟩) (by assumption) ?_
      · intro wq hSw; (try dsimp only at hSw); go_simp
      try simp only [Act.put, List.setIfInBounds_toArray, List.set_cons_zero, List.set_cons_succ]
      refine wpAnyH_take (i := 3) (oi := { dst := some 44, op := Op.load 2 (Operand.tmp 43), type := 2, pos := "l7_restore.go:188", after := #[{ on := 2, ground := Ground.data }], guard := none }) (v := .int .i64 rt) rfl (by kernel_rfl) (by kernel_rfl) (by kernel_rfl) (fun _ _ _ h => h) (Or.inl ⟨by rfl, ?_⟩) (by assumption) ?_
      · intro wq hSw; (try dsimp only at hSw); go_simp
      try simp only [Act.put, List.setIfInBounds_toArray, List.set_cons_zero, List.set_cons_succ]
      refine wpAnyH_ready (rs := [1]) (by kernel_rfl) (by simp) ?_
      refine AllReadyH.cons (o := { dst := some 42, op := Op.call { callee := Callee.value (Operand.func 37), args := #[], argTypes := #[] }, type := 76, pos := "l7_restore.go:188", after := #[], guard := none }) rfl (fun K hK => ?_) AllReadyH.nil
      go_simp
      refine (New.newPages_any wc.drew).mono ?_
      rintro e w9 ⟨rfl, hb9⟩
      have y3 : w9.cell? ⟨N, 3, none⟩ = some (.int .i64 rt) := (hb9.cell (p := ⟨N, 3, none⟩) HNS.out).trans z3
      go_wp2_with fail
      refine hK.out _ _ (y3) (fun hHeld => ?_)
      clear hK K
      try simp only [Act.put, List.setIfInBounds_toArray, List.set_cons_zero, List.set_cons_succ]
      refine wpAnyH_ready (rs := [4]) (by kernel_rfl) (by simp) ?_
      refine AllReadyH.cons (o := { dst := some 45, op := Op.call { callee := Callee.value (Operand.func 38), args := #[Operand.tmp 42, Operand.tmp 44], argTypes := #[76, 2] }, type := 4, pos := "l7_restore.go:188", after := #[{ on := 1, ground := Ground.data }, { on := 3, ground := Ground.data }, { on := 1, ground := Ground.chain }], guard := none }) rfl (fun K hK => ?_) AllReadyH.nil
      go_simp
      have HA9 := has_any 2 999 rt w9
      rw [t5] at HA9
      refine HA9.mono ?_
      rintro e w10 ⟨rfl, hb10⟩
      have y4 : w10.cell? ⟨N, 3, none⟩ = some (.int .i64 rt) := (hb10.cell (p := ⟨N, 3, none⟩) (Nat.lt_of_lt_of_le HNS.out hb9.size)).trans y3
      go_wp2_with fail
      refine hK.out _ _ (y4) (fun hHeld => ?_)
      clear hK K
      try simp only [Act.put, List.setIfInBounds_toArray, List.set_cons_zero, List.set_cons_succ]
      refine wpAnyH_take (i := 5) (oi := { dst := some 46, op := Op.move (Operand.tmp 45), type := 4, pos := "l7_restore.go:188", after := #[{ on := 4, ground := Ground.data }, { on := 4, ground := Ground.chain }], guard := none }) (v := .bool false) rfl (by kernel_rfl) (by kernel_rfl) (by kernel_rfl) (fun _ _ _ h => h) (Or.inl ⟨by rfl, ?_⟩) (by assumption) ?_
      · intro wq hSw; (try dsimp only at hSw); go_simp
      try simp only [Act.put, List.setIfInBounds_toArray, List.set_cons_zero, List.set_cons_succ]
      refine wpAnyH_take (i := 6) (oi := { dst := some 47, op := Op.move (Operand.tmp 5), type := 2, pos := "l7_restore.go:188", after := #[{ on := 5, ground := Ground.guard }], guard := some (5, true) }) (v := undef) rfl (by kernel_rfl) (by kernel_rfl) (by kernel_rfl) (fun _ _ _ h => h) (Or.inr ⟨by rfl, rfl⟩) (by assumption) ?_
      try simp only [Act.put, List.setIfInBounds_toArray, List.set_cons_zero, List.set_cons_succ]
      refine wpAnyH_take (i := 7) (oi := { dst := some 48, op := Op.binOp BinOp.leq 2 (Operand.tmp 47) (Operand.const (Value.int IntKind.i64 1000)) 2, type := 4, pos := "l7_restore.go:188", after := #[{ on := 6, ground := Ground.data }, { on := 5, ground := Ground.guard }], guard := some (5, true) }) (v := undef) rfl (by kernel_rfl) (by kernel_rfl) (by kernel_rfl) (fun _ _ _ h => h) (Or.inr ⟨by rfl, rfl⟩) (by assumption) ?_
      try simp only [Act.put, List.setIfInBounds_toArray, List.set_cons_zero, List.set_cons_succ]
      refine wpAnyH_take (i := 8) (oi := { dst := some 49, op := Op.pick (Operand.tmp 46) (Operand.tmp 48) (Operand.const (Value.bool false)), type := 4, pos := "l7_restore.go:188", after := #[{ on := 5, ground := Ground.data }, { on := 7, ground := Ground.data }], guard := none }) (v := .bool false) rfl (by kernel_rfl) (by kernel_rfl) (by kernel_rfl) (fun _ _ _ h => h) (Or.inl ⟨by rfl, ?_⟩) (by assumption) ?_
      · intro wq hSw; (try dsimp only at hSw); go_simp
      try simp only [Act.put, List.setIfInBounds_toArray, List.set_cons_zero, List.set_cons_succ]
      refine wpAnyH_ready (rs := [9]) (by kernel_rfl) (by simp) ?_
      refine AllReadyH.cons (o := { dst := some 50, op := Op.call { callee := Callee.value (Operand.func 35), args := #[Operand.tmp 41, Operand.tmp 49, Operand.const (Value.int IntKind.i64 2)], argTypes := #[44, 4, 2] }, type := 0, pos := "l7_restore.go:188", after := #[{ on := 0, ground := Ground.data }, { on := 8, ground := Ground.data }, { on := 5, ground := Ground.chain }], guard := none }) rfl (fun K hK => ?_) AllReadyH.nil
      go_simp
      refine (rWant_any R a n c A B bs s7 false 2 w10 ((H8.out.drew.below hb9).below hb10)).mono ?_
      rintro e w11 ⟨rfl, H11, hF11⟩
      have y5 : w11.cell? ⟨N, 3, none⟩ = some (.int .i64 rt) := (World.cell?_of_block (w := w10) (a := ⟨N, 3, none⟩) (hF11.block N (Nat.lt_of_lt_of_le HNS.out (Nat.le_trans hb9.size hb10.size)) (by omega))).trans y4
      go_wp2_with fail
      refine hK.out _ _ (y5) (fun hHeld => ?_)
      clear hK K
      try simp only [Act.put, List.setIfInBounds_toArray, List.set_cons_zero, List.set_cons_succ]
      refine wpAnyH_done (by kernel_rfl) ?_ _
      refine NoPanic.normal ?_
      clear hHeld
      have HA : Hid (RSt w11 R a n c A B bs (wantS (hdOk2 rt ct) 2 s7) ∧ Fr (fun x => x = R) w7 w11) := by
        rw [HG.out]
        exact ⟨H11, F8.out.trans (Fr.trans (Fr.of_below ((Below.refl _ _).drew.trans (hb9.trans (hb10.mono hb9.size)))) hF11)⟩
      clear H11 hF11 H8 HNS z3 y3 y4 y5 HG HB2 hb9 hb10
      obtain ⟨X0, XN, FW⟩ := HK.out w11 HA.out.2
      have F11 : Hid (RSt w11 R a n c A B bs H.st) := by rw [HE.out]; exact HA.out.1
      have FF : Hid (Fr (fun x => x = R) w w11) := FW
      have HV : Hid (H.id = id ∧ H.tx = tx ∧ H.base = ba ∧ H.root = rt ∧ H.cnt = ct) := by rw [HE.out]; exact ⟨rfl, rfl, rfl, rfl, rfl⟩
      clear FW HA F8 HK HE
      obtain ⟨q0, q1, q2, q3, q4⟩ := box_fiveC XN
      obtain ⟨x0, x1, x2, x3, x4⟩ := box_fiveC X0
      have hz := box_thawC X0
      have X5 := put5C_box X0 (.int .i64 id) (.int .i64 tx) (.int .i64 ba) (.int .i64 rt) (.slice none 0 0)
      have hf5 := put5C_fr w11 w.heap.size (.int .i64 id) (.int .i64 tx) (.int .i64 ba) (.int .i64 rt) (.slice none 0 0)
      have H5 : Hid (RSt (put5C w11 w.heap.size (.int .i64 id) (.int .i64 tx) (.int .i64 ba) (.int .i64 rt) (.slice none 0 0)) R a n c A B bs H.st) := F11.out.other hf5 (by omega)
      have FF5 : Hid (Fr (fun x => x = R) w (put5C w11 w.heap.size (.int .i64 id) (.int .i64 tx) (.int .i64 ba) (.int .i64 rt) (.slice none 0 0))) := ⟨hf5.os.trans FF.out.os, hf5.tape.trans FF.out.tape, hf5.output.trans FF.out.output, Nat.le_trans FF.out.size hf5.size, fun k hk hn => (hf5.block k (Nat.lt_of_lt_of_le hk FF.out.size) (by omega)).trans (FF.out.block k hk hn)⟩
      have l5 : w.heap.size < w11.heap.size := (Array.getElem?_eq_some_iff.1 X0).1
      have l6 : N < w11.heap.size := (Array.getElem?_eq_some_iff.1 XN).1
      clear hf5 FF F11 X0 XN
      go_wp2_with fail
      show bodyPost _ _ _ _ _ (put5C w11 w.heap.size (.int .i64 id) (.int .i64 tx) (.int .i64 ba) (.int .i64 rt) (.slice none 0 0))
      clear x0 x1 x2 x3 x4 hz
      obtain ⟨x0, x1, x2, x3, x4⟩ := box_fiveC X5
      obtain ⟨v1, v2, v3, v4, v5⟩ := HV.out
      rw [v1, v2, v3, v4, v5]
      exact bodyPost_ret (v := .tuple #[.agg #[.int .i64 id, .int .i64 tx, .int .i64 ba, .int .i64 rt, .slice none 0 0], .int .i64 ct]) (by simp [results, Try.results24, go_sem, x0, x1, x2, x3, x4]) rfl ⟨rfl, H5.out, FF5.out⟩
    · by_cases t6 : ct ≤ 1000
      · have d6 : decide (ct ≤ 1000) = true := by simpa using t6
        have HG : Hid (hdOk2 rt ct = true) := by show _ = _; rw [HB2.out, t5, d6]; rfl
        refine wp_region_noPanic ?_
        refine wp_region_held_drew (S := (fun w' : World => w'.cell? ⟨N, 3, none⟩ = some (.int .i64 rt))) (by kernel_rfl) (z3) (fun hHeld => ?_)
        refine wpAnyH_take (i := 0) (oi := { dst := some 41, op := Op.move (Operand.tmp 0), type := 44, pos := "l7_restore.go:188", after := #[], guard := none }) (v := .pointer (some ⟨R, 0, none⟩)) rfl (by kernel_rfl) (by kernel_rfl) (by kernel_rfl) (fun _ _ _ h => h) (Or.inl ⟨by rfl, ?_⟩) (by assumption) ?_
        · intro wq hSw; (try dsimp only at hSw); go_simp
        try simp only [Act.put, List.setIfInBounds_toArray, List.set_cons_zero, List.set_cons_succ]
        refine wpAnyH_take (i := 2) (oi := { dst := some 43, op := Op.fieldAddr 25 (Operand.tmp 4) 3, type := 0, pos := "l7_restore.go:188", after := #[], guard := none }) (v := .pointer (some ⟨N, 3, none⟩)) rfl (by kernel_rfl) (by kernel_rfl) (by kernel_rfl) (fun _ _ _ h => h) (Or.inl ⟨by rfl, ?_⟩) (by assumption) ?_
        · intro wq hSw; (try dsimp only at hSw); go_simp
        try simp only [Act.put, List.setIfInBounds_toArray, List.set_cons_zero, List.set_cons_succ]
        refine wpAnyH_take (i := 3) (oi := { dst := some 44, op := Op.load 2 (Operand.tmp 43), type := 2, pos := "l7_restore.go:188", after := #[{ on := 2, ground := Ground.data }], guard := none }) (v := .int .i64 rt) rfl (by kernel_rfl) (by kernel_rfl) (by kernel_rfl) (fun _ _ _ h => h) (Or.inl ⟨by rfl, ?_⟩) (by assumption) ?_
        · intro wq hSw; (try dsimp only at hSw); go_simp
        try simp only [Act.put, List.setIfInBounds_toArray, List.set_cons_zero, List.set_cons_succ]
        refine wpAnyH_ready (rs := [1]) (by kernel_rfl) (by simp) ?_
        refine AllReadyH.cons (o := { dst := some 42, op := Op.call { callee := Callee.value (Operand.func 37), args := #[], argTypes := #[] }, type := 76, pos := "l7_restore.go:188", after := #[], guard := none }) rfl (fun K hK => ?_) AllReadyH.nil
        go_simp
        refine (New.newPages_any wc.drew).mono ?_
        rintro e w9 ⟨rfl, hb9⟩
        have y3 : w9.cell? ⟨N, 3, none⟩ = some (.int .i64 rt) := (hb9.cell (p := ⟨N, 3, none⟩) HNS.out).trans z3
        go_wp2_with fail
        refine hK.out _ _ (y3) (fun hHeld => ?_)
        clear hK K
        try simp only [Act.put, List.setIfInBounds_toArray, List.set_cons_zero, List.set_cons_succ]
        refine wpAnyH_ready (rs := [4]) (by kernel_rfl) (by simp) ?_
        refine AllReadyH.cons (o := { dst := some 45, op := Op.call { callee := Callee.value (Operand.func 38), args := #[Operand.tmp 42, Operand.tmp 44], argTypes := #[76, 2] }, type := 4, pos := "l7_restore.go:188", after := #[{ on := 1, ground := Ground.data }, { on := 3, ground := Ground.data }, { on := 1, ground := Ground.chain }], guard := none }) rfl (fun K hK => ?_) AllReadyH.nil
        go_simp
        have HA9 := has_any 2 999 rt w9
        rw [t5] at HA9
        refine HA9.mono ?_
        rintro e w10 ⟨rfl, hb10⟩
        have y4 : w10.cell? ⟨N, 3, none⟩ = some (.int .i64 rt) := (hb10.cell (p := ⟨N, 3, none⟩) (Nat.lt_of_lt_of_le HNS.out hb9.size)).trans y3
        go_wp2_with fail
        refine hK.out _ _ (y4) (fun hHeld => ?_)
        clear hK K
        try simp only [Act.put, List.setIfInBounds_toArray, List.set_cons_zero, List.set_cons_succ]
        refine wpAnyH_take (i := 5) (oi := { dst := some 46, op := Op.move (Operand.tmp 45), type := 4, pos := "l7_restore.go:188", after := #[{ on := 4, ground := Ground.data }, { on := 4, ground := Ground.chain }], guard := none }) (v := .bool true) rfl (by kernel_rfl) (by kernel_rfl) (by kernel_rfl) (fun _ _ _ h => h) (Or.inl ⟨by rfl, ?_⟩) (by assumption) ?_
        · intro wq hSw; (try dsimp only at hSw); go_simp
        try simp only [Act.put, List.setIfInBounds_toArray, List.set_cons_zero, List.set_cons_succ]
        refine wpAnyH_take (i := 6) (oi := { dst := some 47, op := Op.move (Operand.tmp 5), type := 2, pos := "l7_restore.go:188", after := #[{ on := 5, ground := Ground.guard }], guard := some (5, true) }) (v := .int .i64 ct) rfl (by kernel_rfl) (by kernel_rfl) (by kernel_rfl) (fun _ _ _ h => h) (Or.inl ⟨by rfl, ?_⟩) (by assumption) ?_
        · intro wq hSw; (try dsimp only at hSw); go_simp
        try simp only [Act.put, List.setIfInBounds_toArray, List.set_cons_zero, List.set_cons_succ]
        refine wpAnyH_take (i := 7) (oi := { dst := some 48, op := Op.binOp BinOp.leq 2 (Operand.tmp 47) (Operand.const (Value.int IntKind.i64 1000)) 2, type := 4, pos := "l7_restore.go:188", after := #[{ on := 6, ground := Ground.data }, { on := 5, ground := Ground.guard }], guard := some (5, true) }) (v := .bool true) rfl (by kernel_rfl) (by kernel_rfl) (by kernel_rfl) (fun _ _ _ h => h) (Or.inl ⟨by rfl, ?_⟩) (by assumption) ?_
        · intro wq hSw; (try dsimp only at hSw); go_simp
        try simp only [Act.put, List.setIfInBounds_toArray, List.set_cons_zero, List.set_cons_succ]
        refine wpAnyH_take (i := 8) (oi := { dst := some 49, op := Op.pick (Operand.tmp 46) (Operand.tmp 48) (Operand.const (Value.bool false)), type := 4, pos := "l7_restore.go:188", after := #[{ on := 5, ground := Ground.data }, { on := 7, ground := Ground.data }], guard := none }) (v := .bool true) rfl (by kernel_rfl) (by kernel_rfl) (by kernel_rfl) (fun _ _ _ h => h) (Or.inl ⟨by rfl, ?_⟩) (by assumption) ?_
        · intro wq hSw; (try dsimp only at hSw); go_simp
        try simp only [Act.put, List.setIfInBounds_toArray, List.set_cons_zero, List.set_cons_succ]
        refine wpAnyH_ready (rs := [9]) (by kernel_rfl) (by simp) ?_
        refine AllReadyH.cons (o := { dst := some 50, op := Op.call { callee := Callee.value (Operand.func 35), args := #[Operand.tmp 41, Operand.tmp 49, Operand.const (Value.int IntKind.i64 2)], argTypes := #[44, 4, 2] }, type := 0, pos := "l7_restore.go:188", after := #[{ on := 0, ground := Ground.data }, { on := 8, ground := Ground.data }, { on := 5, ground := Ground.chain }], guard := none }) rfl (fun K hK => ?_) AllReadyH.nil
        go_simp
        refine (rWant_any R a n c A B bs s7 true 2 w10 ((H8.out.drew.below hb9).below hb10)).mono ?_
        rintro e w11 ⟨rfl, H11, hF11⟩
        have y5 : w11.cell? ⟨N, 3, none⟩ = some (.int .i64 rt) := (World.cell?_of_block (w := w10) (a := ⟨N, 3, none⟩) (hF11.block N (Nat.lt_of_lt_of_le HNS.out (Nat.le_trans hb9.size hb10.size)) (by omega))).trans y4
        go_wp2_with fail
        refine hK.out _ _ (y5) (fun hHeld => ?_)
        clear hK K
        try simp only [Act.put, List.setIfInBounds_toArray, List.set_cons_zero, List.set_cons_succ]
        refine wpAnyH_done (by kernel_rfl) ?_ _
        refine NoPanic.normal ?_
        clear hHeld
        have HA : Hid (RSt w11 R a n c A B bs (wantS (hdOk2 rt ct) 2 s7) ∧ Fr (fun x => x = R) w7 w11) := by
          rw [HG.out]
          exact ⟨H11, F8.out.trans (Fr.trans (Fr.of_below ((Below.refl _ _).drew.trans (hb9.trans (hb10.mono hb9.size)))) hF11)⟩
        clear H11 hF11 H8 HNS z3 y3 y4 y5 HG HB2 hb9 hb10
        obtain ⟨X0, XN, FW⟩ := HK.out w11 HA.out.2
        have F11 : Hid (RSt w11 R a n c A B bs H.st) := by rw [HE.out]; exact HA.out.1
        have FF : Hid (Fr (fun x => x = R) w w11) := FW
        have HV : Hid (H.id = id ∧ H.tx = tx ∧ H.base = ba ∧ H.root = rt ∧ H.cnt = ct) := by rw [HE.out]; exact ⟨rfl, rfl, rfl, rfl, rfl⟩
        clear FW HA F8 HK HE
        obtain ⟨q0, q1, q2, q3, q4⟩ := box_fiveC XN
        obtain ⟨x0, x1, x2, x3, x4⟩ := box_fiveC X0
        have hz := box_thawC X0
        have X5 := put5C_box X0 (.int .i64 id) (.int .i64 tx) (.int .i64 ba) (.int .i64 rt) (.slice none 0 0)
        have hf5 := put5C_fr w11 w.heap.size (.int .i64 id) (.int .i64 tx) (.int .i64 ba) (.int .i64 rt) (.slice none 0 0)
        have H5 : Hid (RSt (put5C w11 w.heap.size (.int .i64 id) (.int .i64 tx) (.int .i64 ba) (.int .i64 rt) (.slice none 0 0)) R a n c A B bs H.st) := F11.out.other hf5 (by omega)
        have FF5 : Hid (Fr (fun x => x = R) w (put5C w11 w.heap.size (.int .i64 id) (.int .i64 tx) (.int .i64 ba) (.int .i64 rt) (.slice none 0 0))) := ⟨hf5.os.trans FF.out.os, hf5.tape.trans FF.out.tape, hf5.output.trans FF.out.output, Nat.le_trans FF.out.size hf5.size, fun k hk hn => (hf5.block k (Nat.lt_of_lt_of_le hk FF.out.size) (by omega)).trans (FF.out.block k hk hn)⟩
        have l5 : w.heap.size < w11.heap.size := (Array.getElem?_eq_some_iff.1 X0).1
        have l6 : N < w11.heap.size := (Array.getElem?_eq_some_iff.1 XN).1
        clear hf5 FF F11 X0 XN
        go_wp2_with fail
        show bodyPost _ _ _ _ _ (put5C w11 w.heap.size (.int .i64 id) (.int .i64 tx) (.int .i64 ba) (.int .i64 rt) (.slice none 0 0))
        clear x0 x1 x2 x3 x4 hz
        obtain ⟨x0, x1, x2, x3, x4⟩ := box_fiveC X5
        obtain ⟨v1, v2, v3, v4, v5⟩ := HV.out
        rw [v1, v2, v3, v4, v5]
        exact bodyPost_ret (v := .tuple #[.agg #[.int .i64 id, .int .i64 tx, .int .i64 ba, .int .i64 rt, .slice none 0 0], .int .i64 ct]) (by simp [results, Try.results24, go_sem, x0, x1, x2, x3, x4]) rfl ⟨rfl, H5.out, FF5.out⟩
      · have d6 : decide (ct ≤ 1000) = false := by simpa using t6
        have HG : Hid (hdOk2 rt ct = false) := by show _ = _; rw [HB2.out, t5, d6]; rfl
        refine wp_region_noPanic ?_
        refine wp_region_held_drew (S := (fun w' : World => w'.cell? ⟨N, 3, none⟩ = some (.int .i64 rt))) (by kernel_rfl) (z3) (fun hHeld => ?_)
        refine wpAnyH_take (i := 0) (oi := { dst := some 41, op := Op.move (Operand.tmp 0), type := 44, pos := "l7_restore.go:188", after := #[], guard := none }) (v := .pointer (some ⟨R, 0, none⟩)) rfl (by kernel_rfl) (by kernel_rfl) (by kernel_rfl) (fun _ _ _ h => h) (Or.inl ⟨by rfl, ?_⟩) (by assumption) ?_
        · intro wq hSw; (try dsimp only at hSw); go_simp
        try simp only [Act.put, List.setIfInBounds_toArray, List.set_cons_zero, List.set_cons_succ]
        refine wpAnyH_take (i := 2) (oi := { dst := some 43, op := Op.fieldAddr 25 (Operand.tmp 4) 3, type := 0, pos := "l7_restore.go:188", after := #[], guard := none }) (v := .pointer (some ⟨N, 3, none⟩)) rfl (by kernel_rfl) (by kernel_rfl) (by kernel_rfl) (fun _ _ _ h => h) (Or.inl ⟨by rfl, ?_⟩) (by assumption) ?_
        · intro wq hSw; (try dsimp only at hSw); go_simp
        try simp only [Act.put, List.setIfInBounds_toArray, List.set_cons_zero, List.set_cons_succ]
        refine wpAnyH_take (i := 3) (oi := { dst := some 44, op := Op.load 2 (Operand.tmp 43), type := 2, pos := "l7_restore.go:188", after := #[{ on := 2, ground := Ground.data }], guard := none }) (v := .int .i64 rt) rfl (by kernel_rfl) (by kernel_rfl) (by kernel_rfl) (fun _ _ _ h => h) (Or.inl ⟨by rfl, ?_⟩) (by assumption) ?_
        · intro wq hSw; (try dsimp only at hSw); go_simp
        try simp only [Act.put, List.setIfInBounds_toArray, List.set_cons_zero, List.set_cons_succ]
        refine wpAnyH_ready (rs := [1]) (by kernel_rfl) (by simp) ?_
        refine AllReadyH.cons (o := { dst := some 42, op := Op.call { callee := Callee.value (Operand.func 37), args := #[], argTypes := #[] }, type := 76, pos := "l7_restore.go:188", after := #[], guard := none }) rfl (fun K hK => ?_) AllReadyH.nil
        go_simp
        refine (New.newPages_any wc.drew).mono ?_
        rintro e w9 ⟨rfl, hb9⟩
        have y3 : w9.cell? ⟨N, 3, none⟩ = some (.int .i64 rt) := (hb9.cell (p := ⟨N, 3, none⟩) HNS.out).trans z3
        go_wp2_with fail
        refine hK.out _ _ (y3) (fun hHeld => ?_)
        clear hK K
        try simp only [Act.put, List.setIfInBounds_toArray, List.set_cons_zero, List.set_cons_succ]
        refine wpAnyH_ready (rs := [4]) (by kernel_rfl) (by simp) ?_
        refine AllReadyH.cons (o := { dst := some 45, op := Op.call { callee := Callee.value (Operand.func 38), args := #[Operand.tmp 42, Operand.tmp 44], argTypes := #[76, 2] }, type := 4, pos := "l7_restore.go:188", after := #[{ on := 1, ground := Ground.data }, { on := 3, ground := Ground.data }, { on := 1, ground := Ground.chain }], guard := none }) rfl (fun K hK => ?_) AllReadyH.nil
        go_simp
        have HA9 := has_any 2 999 rt w9
        rw [t5] at HA9
        refine HA9.mono ?_
        rintro e w10 ⟨rfl, hb10⟩
        have y4 : w10.cell? ⟨N, 3, none⟩ = some (.int .i64 rt) := (hb10.cell (p := ⟨N, 3, none⟩) (Nat.lt_of_lt_of_le HNS.out hb9.size)).trans y3
        go_wp2_with fail
        refine hK.out _ _ (y4) (fun hHeld => ?_)
        clear hK K
        try simp only [Act.put, List.setIfInBounds_toArray, List.set_cons_zero, List.set_cons_succ]
        refine wpAnyH_take (i := 5) (oi := { dst := some 46, op := Op.move (Operand.tmp 45), type := 4, pos := "l7_restore.go:188", after := #[{ on := 4, ground := Ground.data }, { on := 4, ground := Ground.chain }], guard := none }) (v := .bool true) rfl (by kernel_rfl) (by kernel_rfl) (by kernel_rfl) (fun _ _ _ h => h) (Or.inl ⟨by rfl, ?_⟩) (by assumption) ?_
        · intro wq hSw; (try dsimp only at hSw); go_simp
        try simp only [Act.put, List.setIfInBounds_toArray, List.set_cons_zero, List.set_cons_succ]
        refine wpAnyH_take (i := 6) (oi := { dst := some 47, op := Op.move (Operand.tmp 5), type := 2, pos := "l7_restore.go:188", after := #[{ on := 5, ground := Ground.guard }], guard := some (5, true) }) (v := .int .i64 ct) rfl (by kernel_rfl) (by kernel_rfl) (by kernel_rfl) (fun _ _ _ h => h) (Or.inl ⟨by rfl, ?_⟩) (by assumption) ?_
        · intro wq hSw; (try dsimp only at hSw); go_simp
        try simp only [Act.put, List.setIfInBounds_toArray, List.set_cons_zero, List.set_cons_succ]
        refine wpAnyH_take (i := 7) (oi := { dst := some 48, op := Op.binOp BinOp.leq 2 (Operand.tmp 47) (Operand.const (Value.int IntKind.i64 1000)) 2, type := 4, pos := "l7_restore.go:188", after := #[{ on := 6, ground := Ground.data }, { on := 5, ground := Ground.guard }], guard := some (5, true) }) (v := .bool false) rfl (by kernel_rfl) (by kernel_rfl) (by kernel_rfl) (fun _ _ _ h => h) (Or.inl ⟨by rfl, ?_⟩) (by assumption) ?_
        · intro wq hSw; (try dsimp only at hSw); go_simp
        try simp only [Act.put, List.setIfInBounds_toArray, List.set_cons_zero, List.set_cons_succ]
        refine wpAnyH_take (i := 8) (oi := { dst := some 49, op := Op.pick (Operand.tmp 46) (Operand.tmp 48) (Operand.const (Value.bool false)), type := 4, pos := "l7_restore.go:188", after := #[{ on := 5, ground := Ground.data }, { on := 7, ground := Ground.data }], guard := none }) (v := .bool false) rfl (by kernel_rfl) (by kernel_rfl) (by kernel_rfl) (fun _ _ _ h => h) (Or.inl ⟨by rfl, ?_⟩) (by assumption) ?_
        · intro wq hSw; (try dsimp only at hSw); go_simp
        try simp only [Act.put, List.setIfInBounds_toArray, List.set_cons_zero, List.set_cons_succ]
        refine wpAnyH_ready (rs := [9]) (by kernel_rfl) (by simp) ?_
        refine AllReadyH.cons (o := { dst := some 50, op := Op.call { callee := Callee.value (Operand.func 35), args := #[Operand.tmp 41, Operand.tmp 49, Operand.const (Value.int IntKind.i64 2)], argTypes := #[44, 4, 2] }, type := 0, pos := "l7_restore.go:188", after := #[{ on := 0, ground := Ground.data }, { on := 8, ground := Ground.data }, { on := 5, ground := Ground.chain }], guard := none }) rfl (fun K hK => ?_) AllReadyH.nil
        go_simp
        refine (rWant_any R a n c A B bs s7 false 2 w10 ((H8.out.drew.below hb9).below hb10)).mono ?_
        rintro e w11 ⟨rfl, H11, hF11⟩
        have y5 : w11.cell? ⟨N, 3, none⟩ = some (.int .i64 rt) := (World.cell?_of_block (w := w10) (a := ⟨N, 3, none⟩) (hF11.block N (Nat.lt_of_lt_of_le HNS.out (Nat.le_trans hb9.size hb10.size)) (by omega))).trans y4
        go_wp2_with fail
        refine hK.out _ _ (y5) (fun hHeld => ?_)
        clear hK K
        try simp only [Act.put, List.setIfInBounds_toArray, List.set_cons_zero, List.set_cons_succ]
        refine wpAnyH_done (by kernel_rfl) ?_ _
        refine NoPanic.normal ?_
        clear hHeld
        have HA : Hid (RSt w11 R a n c A B bs (wantS (hdOk2 rt ct) 2 s7) ∧ Fr (fun x => x = R) w7 w11) := by
          rw [HG.out]
          exact ⟨H11, F8.out.trans (Fr.trans (Fr.of_below ((Below.refl _ _).drew.trans (hb9.trans (hb10.mono hb9.size)))) hF11)⟩
        clear H11 hF11 H8 HNS z3 y3 y4 y5 HG HB2 hb9 hb10
        obtain ⟨X0, XN, FW⟩ := HK.out w11 HA.out.2
        have F11 : Hid (RSt w11 R a n c A B bs H.st) := by rw [HE.out]; exact HA.out.1
        have FF : Hid (Fr (fun x => x = R) w w11) := FW
        have HV : Hid (H.id = id ∧ H.tx = tx ∧ H.base = ba ∧ H.root = rt ∧ H.cnt = ct) := by rw [HE.out]; exact ⟨rfl, rfl, rfl, rfl, rfl⟩
        clear FW HA F8 HK HE
        obtain ⟨q0, q1, q2, q3, q4⟩ := box_fiveC XN
        obtain ⟨x0, x1, x2, x3, x4⟩ := box_fiveC X0
        have hz := box_thawC X0
        have X5 := put5C_box X0 (.int .i64 id) (.int .i64 tx) (.int .i64 ba) (.int .i64 rt) (.slice none 0 0)
        have hf5 := put5C_fr w11 w.heap.size (.int .i64 id) (.int .i64 tx) (.int .i64 ba) (.int .i64 rt) (.slice none 0 0)
        have H5 : Hid (RSt (put5C w11 w.heap.size (.int .i64 id) (.int .i64 tx) (.int .i64 ba) (.int .i64 rt) (.slice none 0 0)) R a n c A B bs H.st) := F11.out.other hf5 (by omega)
        have FF5 : Hid (Fr (fun x => x = R) w (put5C w11 w.heap.size (.int .i64 id) (.int .i64 tx) (.int .i64 ba) (.int .i64 rt) (.slice none 0 0))) := ⟨hf5.os.trans FF.out.os, hf5.tape.trans FF.out.tape, hf5.output.trans FF.out.output, Nat.le_trans FF.out.size hf5.size, fun k hk hn => (hf5.block k (Nat.lt_of_lt_of_le hk FF.out.size) (by omega)).trans (FF.out.block k hk hn)⟩
        have l5 : w.heap.size < w11.heap.size := (Array.getElem?_eq_some_iff.1 X0).1
        have l6 : N < w11.heap.size := (Array.getElem?_eq_some_iff.1 XN).1
        clear hf5 FF F11 X0 XN
        go_wp2_with fail
        show bodyPost _ _ _ _ _ (put5C w11 w.heap.size (.int .i64 id) (.int .i64 tx) (.int .i64 ba) (.int .i64 rt) (.slice none 0 0))
        clear x0 x1 x2 x3 x4 hz
        obtain ⟨x0, x1, x2, x3, x4⟩ := box_fiveC X5
        obtain ⟨v1, v2, v3, v4, v5⟩ := HV.out
        rw [v1, v2, v3, v4, v5]
        exact bodyPost_ret (v := .tuple #[.agg #[.int .i64 id, .int .i64 tx, .int .i64 ba, .int .i64 rt, .slice none 0 0], .int .i64 ct]) (by simp [results, Try.results24, go_sem, x0, x1, x2, x3, x4]) rfl ⟨rfl, H5.out, FF5.out⟩
end Go.Proofs.Ytdieplpegkiolaa
namespace Go.Proofs.Ytdieplpegkiolaa
namespace New
open Go.RowKit
set_option linter.unusedVariables false
set_option maxRecDepth 100000

def rN (bs : List Int) (k n : Nat) : Int := numOf false (cutL bs k n)
def tLen (bs : List Int) (k : Nat) : Nat := (rN bs k 1).toNat
def adv (k n : Nat) : Nat := min (k + n) 128
def tStr (bs : List Int) (k : Nat) : ByteArray := toB (cutL bs (adv k 1) (tLen bs k))
def tEnd (bs : List Int) (k : Nat) : Nat := adv (adv k 1) (tLen bs k)
def kEnd (bs : List Int) (k : Nat) : Nat := if false = true then adv (tEnd bs k) (8 - (tStr bs k).size) else tEnd bs k
/-- A cursor of this format at k, over bytes that lie below it. -/
structure RAt (w : World) (C g o c A B : Nat) (bs : List Int) (k : Nat) : Prop where
  cur : RCur w C g o c false 53 54 k
  byt : BytesAt w A B (some ⟨g, o, none⟩) 128 c bs
  low : B ≤ C
  top : B ≤ w.heap.size
  pos : k ≤ 128
theorem RAt.mv {w w' : World} {C g o c A B : Nat} {bs : List Int} {k k' : Nat} (h : RAt w C g o c A B bs k) (hm : Mv w w' C g o c false 53 54 k') (hk : k' ≤ 128) : RAt w' C g o c A B bs k' :=
  ⟨hm.1, h.byt.fr hm.2 h.low h.top, h.low, Nat.le_trans h.top hm.2.size, hk⟩
theorem RAt.drew {w : World} {C g o c A B : Nat} {bs : List Int} {k : Nat} (h : RAt w C g o c A B bs k) : RAt w.drew C g o c A B bs k := ⟨h.cur.drew, h.byt, h.low, h.top, h.pos⟩
theorem adv_le (k n : Nat) : adv k n ≤ 128 := by unfold adv; omega
theorem rN_range {w : World} {C g o c A B : Nat} {bs : List Int} {k : Nat} (h : RAt w C g o c A B bs k) (j n : Nat) : 0 ≤ rN bs j n ∧ rN bs j n < 256 ^ (min (j + n) 128 - j) := by
  have := numOf_range false (l := cutL bs j n) (fun x hx => h.byt.2.2.2.1 x (List.mem_of_mem_drop (List.mem_of_mem_take hx)))
  rw [cutL_len h.byt.1] at this
  exact this
theorem rN_small {w : World} {C g o c A B : Nat} {bs : List Int} {k : Nat} (h : RAt w C g o c A B bs k) (j n : Nat) (hn : n ≤ 4) : 0 ≤ rN bs j n ∧ rN bs j n < 4294967296 := by
  have h1 := rN_range h j n
  refine ⟨h1.1, Int.lt_of_lt_of_le h1.2 ?_⟩
  have h4 : min (j + n) 128 - j ≤ 4 := by omega
  generalize min (j + n) 128 - j = m at h4
  have h5 : m = 0 ∨ m = 1 ∨ m = 2 ∨ m = 3 ∨ m = 4 := by omega
  rcases h5 with rfl | rfl | rfl | rfl | rfl <;> decide
theorem rN_one {w : World} {C g o c A B : Nat} {bs : List Int} {k : Nat} (h : RAt w C g o c A B bs k) (j : Nat) : 0 ≤ rN bs j 1 ∧ rN bs j 1 ≤ 255 := by
  have h1 := rN_range h j 1
  refine ⟨h1.1, ?_⟩
  have h4 : min (j + 1) 128 - j ≤ 1 := by omega
  generalize min (j + 1) 128 - j = m at h4 h1
  have h5 : m = 0 ∨ m = 1 := by omega
  rcases h5 with rfl | rfl <;> simp at h1 <;> omega
theorem tLen_le {w : World} {C g o c A B : Nat} {bs : List Int} {k : Nat} (h : RAt w C g o c A B bs k) (j : Nat) : tLen bs j ≤ 255 := by
  have := rN_one h j
  unfold tLen
  omega
theorem tStr_size {w : World} {C g o c A B : Nat} {bs : List Int} {k : Nat} (h : RAt w C g o c A B bs k) (j : Nat) : (tStr bs j).size ≤ 255 := by
  have h1 := tLen_le h j
  rw [tStr, toB_size, cutL_len h.byt.1]
  omega
theorem Get (C g o c A B : Nat) (bs : List Int) (k n : Nat) (hn : n ≤ 4) (w : World) (h : RAt w C g o c A B bs k) :
    Calls Try.prog 54 #[.pointer (some ⟨C, 0, none⟩), .int .i64 n] w fun e w' => e = .returned (.int .i64 (rN bs k n)) ∧ Mv w w' C g o c false 53 54 (adv k n) :=
  getLow_any C g o c _ _ k false n hn h.pos bs A B h.low w h.top h.byt h.cur
theorem smallWidthR (C g o c A B : Nat) (bs : List Int) (k : Nat) (w : World) (h : RAt w C g o c A B bs k) :
    Calls Try.prog 92 #[.pointer (some ⟨C, 0, none⟩)] w fun e w' => e = .returned (.int .i64 (smallN false)) ∧ w' = w := by
  obtain ⟨c0, c1, c2, c3, c4⟩ := h.cur.cells
  go_enter Try.func92, Try.ntmps92
  go_wp2
  go_ret
  exact ⟨rfl, rfl⟩
set_option maxHeartbeats 800000 in
theorem getSmall_any (C g o c A B : Nat) (bs : List Int) (k : Nat) (w : World) (h : RAt w C g o c A B bs k) :
    Calls Try.prog 89 #[.pointer (some ⟨C, 0, none⟩)] w fun e w' => e = .returned (.int .i64 (rN bs k (smallN false))) ∧ Mv w w' C g o c false 53 54 (adv k (smallN false)) := by
  obtain ⟨c0, c1, c2, c3, c4⟩ := h.cur.cells
  go_enter Try.func89, Try.ntmps89
  go_wp2_with fail
  go_region_held3 (fun w' => w'.cell? ⟨C, 4, none⟩ = some (.func (.func 54) #[.pointer (some ⟨C, 0, none⟩)] #[])) (go_keep)
    (first
      | (go_at_call 92; refine (smallWidthR C g o c A B bs k w.drew h.drew).mono ?_; rintro e w1 ⟨rfl, rfl⟩)
      | (go_at_call 54; refine (Get C g o c A B bs k (smallN false) (by decide) w.drew h.drew).mono ?_; rintro e w2 ⟨rfl, hM⟩; obtain ⟨_, _, _, _, q4⟩ := hM.1.cells))
  all_goals
    go_wp2
    go_ret
    exact ⟨rfl, hM.redraw⟩
set_option maxHeartbeats 800000 in
theorem getText_any (C g o c A B : Nat) (bs : List Int) (k : Nat) (w : World) (h : RAt w C g o c A B bs k) :
    Calls Try.prog 98 #[.pointer (some ⟨C, 0, none⟩)] w fun e w' => e = .returned (.string (tStr bs k)) ∧ Mv w w' C g o c false 53 54 (tEnd bs k) := by
  obtain ⟨c0, c1, c2, c3, c4⟩ := h.cur.cells
  have hone := rN_one h k
  have hw64 : IntKind.i64.wrap (rN bs k 1) = rN bs k 1 := by rw [IntKind.wrap_i64]; omega
  have HT : Hid (tStr bs k = toB (cutL bs (adv k 1) (rN bs k 1).toNat)) := rfl
  have HE : Hid (tEnd bs k = adv (adv k 1) (rN bs k 1).toNat) := rfl
  have HA := rN_one h k
  go_enter Try.func98, Try.ntmps98
  go_wp2_with fail
  refine (Get C g o c A B bs k 1 (by omega) w h).mono ?_
  rintro e w1 ⟨rfl, hM1⟩
  have h1 := h.mv hM1 (adv_le _ _)
  obtain ⟨d0, d1, d2, d3, d4⟩ := h1.cur.cells
  generalize hx : rN bs k 1 = x at hone hw64 HT HE ⊢
  obtain ⟨n, rfl⟩ : ∃ n : Nat, x = (n : Int) := ⟨x.toNat, by omega⟩
  simp only [Int.toNat_natCast] at HT HE
  clear hx c0 c1 c2 c3 c4 HA
  go_wp2_with fail
  refine (take_any C g o c _ _ (adv k 1) false n (by omega) h1.pos bs A B h1.low w1 h1.top h1.byt h1.cur).mono ?_
  rintro e w2 ⟨a2, c2, rfl, hB2, hM2⟩
  have hcv := str_conv hB2
  go_wp2
  go_ret
  rw [HT.out, HE.out]
  exact ⟨rfl, hM1.trans hM2⟩
set_option maxHeartbeats 800000 in
theorem getKey_any (C g o c A B : Nat) (bs : List Int) (k : Nat) (w : World) (h : RAt w C g o c A B bs k) :
    Calls Try.prog 83 #[.pointer (some ⟨C, 0, none⟩)] w fun e w' => e = .returned (.string (tStr bs k)) ∧ Mv w w' C g o c false 53 54 (kEnd bs k) := by
  have hsz := tStr_size h k
  go_enter Try.func83, Try.ntmps83
  go_wp2_with fail
  refine (getText_any C g o c A B bs k w h).mono ?_
  rintro e w1 ⟨rfl, hM1⟩
  have h1 := h.mv hM1 (adv_le _ _)
  obtain ⟨d0, d1, d2, d3, d4⟩ := h1.cur.cells
  have HK : Hid (kEnd bs k = if false = true then adv (tEnd bs k) (8 - (tStr bs k).size) else tEnd bs k) := rfl
  have HM : Hid (Mv w w1 C g o c false 53 54 (tEnd bs k)) := hM1
  clear hM1
  generalize tEnd bs k = te at h1 d1 HK HM ⊢
  generalize hts : tStr bs k = ts at hsz HK ⊢
  have HS : Hid (tStr bs k = ts) := hts
  clear hts
  by_cases h8 : ts.size ≤ 8
  · have e : (8 : Int) - (ts.size : Int) = ((8 - ts.size : Nat) : Int) := by omega
    go_wp2_with fail
    first
      | (go_ret; rw [HK.out, HS.out, if_neg (by decide)]; exact ⟨rfl, HM.out⟩)
      | (try rw [e]
         refine (take_any C g o c _ _ te false (8 - ts.size) (by omega) h1.pos bs A B h1.low w1 h1.top h1.byt h1.cur).mono ?_
         rintro e w2 ⟨a2, c2, rfl, hB2, hM2⟩
         go_wp2
         go_ret
         rw [HK.out, HS.out, if_pos (by decide)]
         exact ⟨rfl, HM.out.trans hM2⟩)
  · have e : 8 - ts.size = 0 := by omega
    have hneg : (8 : Int) - (ts.size : Int) < 0 := by omega
    go_wp2_with fail
    first
      | (go_ret; rw [HK.out, HS.out, if_neg (by decide)]; exact ⟨rfl, HM.out⟩)
      | (refine (take_any C g o c _ _ te false 0 (by omega) h1.pos bs A B h1.low w1 h1.top h1.byt h1.cur).mono ?_
         rintro e' w2 ⟨a2, c2, rfl, hB2, hM2⟩
         go_wp2
         go_ret
         rw [HK.out, HS.out, if_pos (by decide), e]
         exact ⟨rfl, HM.out.trans hM2⟩)
end New
end Go.Proofs.Ytdieplpegkiolaa
namespace Go.Proofs.Ytdieplpegkiolaa
namespace New
open Go.RowKit
set_option linter.unusedVariables false
set_option maxRecDepth 100000

theorem Fr.weaken {S T : Nat → Prop} {a b : World} (h : Fr S a b) (hst : ∀ x, S x → T x) : Fr T a b := ⟨h.1, h.2, h.3, h.4, fun k hk hT => h.block k hk (fun hs => hT (hst k hs))⟩
theorem box_frozen {w : World} {M t : Nat} {cs : Array Value} (h : w.heap[M]? = some (.cells cs t)) (j : Nat) : w.frozen? ⟨M, j, none⟩ = false := by simp [World.frozen?, h]
theorem box_two2 {w : World} {N : Nat} {v0 v1 : Value} {t : TypeId} (h : w.heap[N]? = some (.cells #[v0, v1] t)) : w.cell? ⟨N, 0, none⟩ = some v0 ∧ w.cell? ⟨N, 1, none⟩ = some v1 := by
  simp [World.cell?, h]
/-- The cursor went on to k', block M holds the box; nothing else that was there is written. -/
structure Rd (w w' : World) (C g o c A B : Nat) (bs : List Int) (k : Nat) (M : Nat) (box : Obj) : Prop where
  at' : RAt w' C g o c A B bs k
  box : w'.heap[M]? = some box
  fr : Fr (fun x => x = C ∨ x = M) w w'
theorem Rd.start {w : World} {C g o c A B : Nat} {bs : List Int} {k M : Nat} {box : Obj} (h : RAt w C g o c A B bs k) (hM : w.heap[M]? = some box) : Rd w w C g o c A B bs k M box := ⟨h, hM, Fr.refl _ _⟩
theorem Rd.mv {w w1 w2 : World} {C g o c A B : Nat} {bs : List Int} {k k' M : Nat} {box : Obj} (h : Rd w w1 C g o c A B bs k M box) (hMC : M ≠ C) (hm : Mv w1 w2 C g o c false 53 54 k') (hk : k' ≤ 128) : Rd w w2 C g o c A B bs k' M box :=
  ⟨h.at'.mv hm hk, (hm.2.block M (Array.getElem?_eq_some_iff.1 h.box).1 hMC).trans h.box, h.fr.trans (Fr.weaken hm.2 fun x hx => .inl hx)⟩
theorem Rd.drew {w w1 : World} {C g o c A B : Nat} {bs : List Int} {k M : Nat} {box : Obj} (h : Rd w w1 C g o c A B bs k M box) : Rd w w1.drew C g o c A B bs k M box := ⟨h.at'.drew, h.box, h.fr.trans (Fr.of_below (Below.refl _ _).drew)⟩
theorem Rd.redraw {w w1 : World} {C g o c A B : Nat} {bs : List Int} {k M : Nat} {box : Obj} (h : Rd w.drew w1 C g o c A B bs k M box) : Rd w w1 C g o c A B bs k M box := ⟨h.at', h.box, (Fr.of_below (Below.refl _ _).drew).trans h.fr⟩
theorem Rd.drewN {w w1 : World} {C g o c A B : Nat} {bs : List Int} {k M : Nat} {box : Obj} (h : Rd w w1 C g o c A B bs k M box) (q : Nat) : Rd w (w1.drewN q) C g o c A B bs k M box := ⟨⟨⟨h.at'.cur.box⟩, h.at'.byt, h.at'.low, h.at'.top, h.at'.pos⟩, h.box, h.fr.trans (Fr.of_below ⟨rfl, rfl, rfl, Nat.le_refl _, fun _ _ => rfl⟩)⟩
/-- A store into the box at M. -/
theorem Rd.put {w w1 : World} {C g o c A B : Nat} {bs : List Int} {k M t : Nat} {cs : Array Value} (h : Rd w w1 C g o c A B bs k M (.cells cs t)) (hMC : M ≠ C) (hBM : B ≤ M) (i : Nat) (v : Value) : Rd w (w1.setCell ⟨M, i, none⟩ v) C g o c A B bs k M (.cells (cs.setIfInBounds i v) t) := by
  have hs : ∀ x, x ≠ M → (w1.setCell ⟨M, i, none⟩ v).heap[x]? = w1.heap[x]? := fun x hx => Below.heap_setCell w1 ⟨M, i, none⟩ v x hx
  have hz : (w1.setCell ⟨M, i, none⟩ v).heap.size = w1.heap.size := by simp [World.setCell]
  refine ⟨⟨⟨(hs C (Ne.symm hMC)).trans h.at'.cur.box⟩, h.at'.byt.keep (fun x k1 k2 => hs x (by omega)), h.at'.low, by rw [hz]; exact h.at'.top, h.at'.pos⟩, ?_, h.fr.trans ⟨rfl, rfl, rfl, by rw [hz]; exact Nat.le_refl _, fun x _ hx => hs x (fun e => hx (.inr e))⟩⟩
  simp [World.setCell, Array.getElem?_modify, h.box]

def oNext (bs : List Int) (k : Nat) : Int := rN bs k (smallN false)
def oData (bs : List Int) (k : Nat) : ByteArray := tStr bs (adv k (smallN false))
def oEnd (bs : List Int) (k : Nat) : Nat := tEnd bs (adv k (smallN false))
set_option maxHeartbeats 800000 in
theorem overRead_any (C g o c A B : Nat) (bs : List Int) (k M : Nat) (count : Int) (w : World) (h : RAt w C g o c A B bs k) (hMC : M ≠ C) (hBM : B ≤ M) (n0 : Int) (d0 : ByteArray) (hM : w.heap[M]? = some (.cells #[.int .i64 n0, .string d0] 124)) :
    Calls Try.prog 110 #[.pointer (some ⟨M, 0, none⟩), .pointer (some ⟨C, 0, none⟩), .int .i64 count] w fun e w' => e = .returned (.tuple #[]) ∧ Rd w w' C g o c A B bs (oEnd bs k) M (.cells #[.int .i64 (oNext bs k), .string (oData bs k)] 124) := by
  have R0 := Rd.start h hM
  go_enter Try.func110, Try.ntmps110
  go_wp2_with fail
  refine (getSmall_any C g o c A B bs k w h).mono ?_
  rintro e w1 ⟨rfl, hM1⟩
  have R1 := R0.mv hMC hM1 (adv_le _ _)
  obtain ⟨x0, x1⟩ := box_two2 R1.box
  have f1 := box_frozen R1.box
  have R2 := R1.put hMC hBM 0 (.int .i64 (rN bs k (smallN false)))
  clear R0 hM1 R1
  go_wp2_with fail
  clear x0 x1 f1
  generalize w1.setCell ⟨M, 0, none⟩ (.int .i64 (rN bs k (smallN false))) = w2 at R2 ⊢
  refine (getText_any C g o c A B bs (adv k (smallN false)) w2 R2.at').mono ?_
  rintro e w3 ⟨rfl, hM3⟩
  have R3 := R2.mv hMC hM3 (adv_le _ _)
  obtain ⟨x0, x1⟩ := box_two2 (w := w3) (N := M) (by simpa using R3.box)
  have f3 := box_frozen R3.box
  have R4 := R3.put hMC hBM 1 (.string (tStr bs (adv k (smallN false))))
  clear R2 hM3 R3
  go_wp2
  go_end0
  exact ⟨rfl, by simpa [oNext, oData, oEnd] using R4⟩
end New
end Go.Proofs.Ytdieplpegkiolaa
namespace Go.Proofs.Ytdieplpegkiolaa
open Go.RowKit
set_option linter.unusedVariables false
set_option maxRecDepth 100000

theorem info_Kid : (Try.prog.info? 91).map (fun i => (i.zero, i.size, i.bytes)) = some (some (.agg #[.string ByteArray.empty, .int .i64 0]), 2, 24) := by kernel_rfl
theorem info_Ent : (Try.prog.info? 93).map (fun i => (i.zero, i.size, i.bytes)) = some (some (.agg #[.string ByteArray.empty, .string ByteArray.empty, .int .i64 0, .int .i64 0]), 4, 48) := by kernel_rfl

theorem set_twoP {xs ys : List Value} {n k : Nat} {p : PK} {cs : List PK} (hl : cs.length = n) (hk : k < n) (hp : p = cs.getD k dK) (hx : xs.length = n * 2) (h : ∀ j, j < k * 2 → xs[j]? = (rowsOf kidCells cs)[j]?) :
    ∀ j, j < (k + 1) * 2 → ((xs.set (k * 2) (.string p.1)).set (k * 2 + 1) (.int .i64 p.2))[j]? = (rowsOf kidCells cs)[j]? := by
  intro j hj
  have e0 := rowsOf_get kc2 dK cs k 0 (by omega) (by omega)
  have e1 := rowsOf_get kc2 dK cs k 1 (by omega) (by omega)
  by_cases h0 : j = k * 2
  · subst h0
    rw [List.getElem?_set_ne (by omega), List.getElem?_set_self (by omega), hp]
    simpa [kidCells] using e0.symm
  · by_cases h1 : j = k * 2 + 1
    · subst h1
      rw [List.getElem?_set_self (by simp; omega), hp]
      simpa [kidCells] using e1.symm
    · rw [List.getElem?_set_ne (by omega), List.getElem?_set_ne (by omega)]
      exact h j (by omega)
theorem set_four {xs : List Value} {n k : Nat} {p : PE} {cs : List PE} (hl : cs.length = n) (hk : k < n) (hp : p = cs.getD k dE) (hx : xs.length = n * 4) (h : ∀ j, j < k * 4 → xs[j]? = (rowsOf entCells cs)[j]?) :
    ∀ j, j < (k + 1) * 4 → ((((xs.set (k * 4) (.string p.1)).set (k * 4 + 1) (.string p.2.1)).set (k * 4 + 2) (.int .i64 p.2.2.1)).set (k * 4 + 3) (.int .i64 p.2.2.2))[j]? = (rowsOf entCells cs)[j]? := by
  intro j hj
  have e0 := rowsOf_get ec4 dE cs k 0 (by omega) (by omega)
  have e1 := rowsOf_get ec4 dE cs k 1 (by omega) (by omega)
  have e2 := rowsOf_get ec4 dE cs k 2 (by omega) (by omega)
  have e3 := rowsOf_get ec4 dE cs k 3 (by omega) (by omega)
  by_cases h0 : j = k * 4
  · subst h0
    rw [List.getElem?_set_ne (by omega), List.getElem?_set_ne (by omega), List.getElem?_set_ne (by omega), List.getElem?_set_self (by omega), hp]
    simpa [entCells] using e0.symm
  · by_cases h1 : j = k * 4 + 1
    · subst h1
      rw [List.getElem?_set_ne (by omega), List.getElem?_set_ne (by omega), List.getElem?_set_self (by simp; omega), hp]
      simpa [entCells] using e1.symm
    · by_cases h2 : j = k * 4 + 2
      · subst h2
        rw [List.getElem?_set_ne (by omega), List.getElem?_set_self (by simp; omega), hp]
        simpa [entCells] using e2.symm
      · by_cases h3 : j = k * 4 + 3
        · subst h3
          rw [List.getElem?_set_self (by simp; omega), hp]
          simpa [entCells] using e3.symm
        · rw [List.getElem?_set_ne (by omega), List.getElem?_set_ne (by omega), List.getElem?_set_ne (by omega), List.getElem?_set_ne (by omega)]
          exact h j (by omega)

end Go.Proofs.Ytdieplpegkiolaa
