import Derived.Test.YtdieplpegkiolaaGBE
namespace Go.Proofs.Ytdieplpegkiolaa
open Go.RowKit
set_option linter.unusedVariables false
set_option linter.unusedSimpArgs false
set_option maxRecDepth 100000

/-- The end of a stream as it is read. -/
def endS (bs : List Int) (s : Rs) : Rs :=
  let s1 := markS bs 4 [69] s
  let s2 := takeS bs.length 4 s1
  let s3 := wantS (leN (takeV bs 4 s1) == crcOf (bs.take s.at_)) 5 s2
  wantS ((s3.at_ : Int) == (bs.length : Int)) 6 s3
set_option maxHeartbeats 1600000 in
theorem rEnd_any (R : Nat) (g o n c A B : Nat) (bs : List Int) (s : Rs) (w : World) (h : RSt w R (some ⟨g, o, none⟩) n c A B bs s) :
    Calls Try.prog 26 #[.pointer (some ⟨R, 0, none⟩)] w fun e w' => e = .returned (.tuple #[]) ∧ RSt w' R (some ⟨g, o, none⟩) n c A B bs (endS bs s) ∧ Fr (fun x => x = R) w w' := by
  have hbl : Hid (bs.length = n) := h.by_.1
  have hby := h.by_.2.2.2.1
  have hat := h.at_
  have hcap := h.by_.2.1
  have hcm := h.by_.2.2.1
  unfold maxLen at hcm
  obtain ⟨at0, ft⟩ := s
  simp only at hat
  obtain ⟨c0, c1, c2, hf⟩ := h.cells
  simp only at c1 c2
  have HH : Hid (RSt w R (some ⟨g, o, none⟩) n c A B bs ⟨at0, ft⟩) := h
  obtain ⟨sum, hsum⟩ : ∃ x, x = crcOf (bs.take at0) := ⟨_, rfl⟩
  have HS : Hid (sum = crcOf (bs.take at0)) := hsum
  have hsr : 0 ≤ sum ∧ sum < 4294967296 := by rw [hsum]; exact crcOf_range _
  have HB : Hid (∀ W, Below w.heap.size w W → BytesAt W A B (some ⟨g, o, none⟩) at0 c (bs.take at0)) := fun W hW => by
    have h1 := (h.below hW).by_
    obtain ⟨a1, a2, a3, a4, a5, a6⟩ := h1
    refine ⟨by rw [List.length_take]; omega, by omega, a3, fun x hx => a4 x (List.mem_of_mem_take hx), fun hn => ?_, a6⟩
    obtain ⟨b, off, e, hlt, hc⟩ := a5 (by omega)
    exact ⟨b, off, e, hlt, fun i hi => by rw [hc i (by omega)]; simp [List.getD, hi]⟩
  clear h hsum
  go_enter Try.func26, Try.ntmps26
  go_wp2_with fail
  refine wp_region_noPanic ?_
  refine wp_region_held_drew (S := (fun w' : World => w'.cell? ⟨R, 0, none⟩ = some (.slice (some ⟨g, o, none⟩) n c) ∧ w'.cell? ⟨R, 1, none⟩ = some (.int .i64 at0))) (by kernel_rfl) (⟨c0, c1⟩) (fun hHeld => ?_)
  refine wpAnyH_take (i := 0) (oi := { dst := some 3, op := Op.move (Operand.tmp 0), type := 44, pos := "l7_restore.go:204", after := #[], guard := none }) (v := .pointer (some ⟨R, 0, none⟩)) rfl (by kernel_rfl) (by kernel_rfl) (by kernel_rfl) (fun _ _ _ h => h) (Or.inl ⟨by rfl, ?_⟩) (by assumption) ?_
  · intro wq hSw; (try dsimp only at hSw); go_simp
  try simp only [Act.put, List.setIfInBounds_toArray, List.set_cons_zero, List.set_cons_succ]
  refine wpAnyH_take (i := 1) (oi := { dst := some 4, op := Op.nilCheck (Operand.tmp 3), type := 0, pos := "l7_restore.go:204", after := #[{ on := 0, ground := Ground.data }], guard := none }) (v := .pointer (some ⟨R, 0, none⟩)) rfl (by kernel_rfl) (by kernel_rfl) (by kernel_rfl) (fun _ _ _ h => h) (Or.inl ⟨by rfl, ?_⟩) (by assumption) ?_
  · intro wq hSw; (try dsimp only at hSw); go_simp
  try simp only [Act.put, List.setIfInBounds_toArray, List.set_cons_zero, List.set_cons_succ]
  refine wpAnyH_take (i := 2) (oi := { dst := some 5, op := Op.fieldAddr 46 (Operand.tmp 4) 0, type := 0, pos := "l7_restore.go:204", after := #[{ on := 1, ground := Ground.data }], guard := none }) (v := .pointer (some ⟨R, 0, none⟩)) rfl (by kernel_rfl) (by kernel_rfl) (by kernel_rfl) (fun _ _ _ h => h) (Or.inl ⟨by rfl, ?_⟩) (by assumption) ?_
  · intro wq hSw; (try dsimp only at hSw); go_simp
  try simp only [Act.put, List.setIfInBounds_toArray, List.set_cons_zero, List.set_cons_succ]
  refine wpAnyH_take (i := 3) (oi := { dst := some 6, op := Op.load 22 (Operand.tmp 5), type := 22, pos := "l7_restore.go:204", after := #[{ on := 2, ground := Ground.data }], guard := none }) (v := .slice (some ⟨g, o, none⟩) n c) rfl (by kernel_rfl) (by kernel_rfl) (by kernel_rfl) (fun _ _ _ h => h) (Or.inl ⟨by rfl, ?_⟩) (by assumption) ?_
  · intro wq hSw; (try dsimp only at hSw); obtain ⟨d0, d1⟩ := hSw; go_simp
  try simp only [Act.put, List.setIfInBounds_toArray, List.set_cons_zero, List.set_cons_succ]
  refine wpAnyH_take (i := 4) (oi := { dst := some 7, op := Op.move (Operand.tmp 0), type := 44, pos := "l7_restore.go:204", after := #[], guard := none }) (v := .pointer (some ⟨R, 0, none⟩)) rfl (by kernel_rfl) (by kernel_rfl) (by kernel_rfl) (fun _ _ _ h => h) (Or.inl ⟨by rfl, ?_⟩) (by assumption) ?_
  · intro wq hSw; (try dsimp only at hSw); go_simp
  try simp only [Act.put, List.setIfInBounds_toArray, List.set_cons_zero, List.set_cons_succ]
  refine wpAnyH_take (i := 5) (oi := { dst := some 8, op := Op.nilCheck (Operand.tmp 7), type := 0, pos := "l7_restore.go:204", after := #[{ on := 4, ground := Ground.data }], guard := none }) (v := .pointer (some ⟨R, 0, none⟩)) rfl (by kernel_rfl) (by kernel_rfl) (by kernel_rfl) (fun _ _ _ h => h) (Or.inl ⟨by rfl, ?_⟩) (by assumption) ?_
  · intro wq hSw; (try dsimp only at hSw); go_simp
  try simp only [Act.put, List.setIfInBounds_toArray, List.set_cons_zero, List.set_cons_succ]
  refine wpAnyH_take (i := 6) (oi := { dst := some 9, op := Op.fieldAddr 46 (Operand.tmp 8) 1, type := 0, pos := "l7_restore.go:204", after := #[{ on := 5, ground := Ground.data }], guard := none }) (v := .pointer (some ⟨R, 1, none⟩)) rfl (by kernel_rfl) (by kernel_rfl) (by kernel_rfl) (fun _ _ _ h => h) (Or.inl ⟨by rfl, ?_⟩) (by assumption) ?_
  · intro wq hSw; (try dsimp only at hSw); go_simp
  try simp only [Act.put, List.setIfInBounds_toArray, List.set_cons_zero, List.set_cons_succ]
  refine wpAnyH_take (i := 7) (oi := { dst := some 10, op := Op.load 3 (Operand.tmp 9), type := 3, pos := "l7_restore.go:204", after := #[{ on := 6, ground := Ground.data }], guard := none }) (v := .int .i64 at0) rfl (by kernel_rfl) (by kernel_rfl) (by kernel_rfl) (fun _ _ _ h => h) (Or.inl ⟨by rfl, ?_⟩) (by assumption) ?_
  · intro wq hSw; (try dsimp only at hSw); obtain ⟨d0, d1⟩ := hSw; go_simp
  try simp only [Act.put, List.setIfInBounds_toArray, List.set_cons_zero, List.set_cons_succ]
  refine wpAnyH_take (i := 8) (oi := { dst := some 11, op := Op.slice 22 (Operand.tmp 6) none (some (Operand.tmp 10)) none, type := 22, pos := "l7_restore.go:204", after := #[{ on := 3, ground := Ground.data }, { on := 7, ground := Ground.data }], guard := none }) (v := .slice (some ⟨g, o, none⟩) at0 c) rfl (by kernel_rfl) (by kernel_rfl) (by kernel_rfl) (fun _ _ _ h => h) (Or.inl ⟨by rfl, ?_⟩) (by assumption) ?_
  · intro wq hSw; (try dsimp only at hSw); go_simp; (try omega)
  try simp only [Act.put, List.setIfInBounds_toArray, List.set_cons_zero, List.set_cons_succ]
  refine wpAnyH_ready (rs := [9]) (by kernel_rfl) (by simp) ?_
  refine AllReadyH.cons (o := { dst := some 12, op := Op.call { callee := Callee.value (Operand.func 42), args := #[Operand.const (Value.int IntKind.u32 0), Operand.tmp 11], argTypes := #[42, 22] }, type := 42, pos := "l7_restore.go:204", after := #[{ on := 8, ground := Ground.data }], guard := none }) rfl (fun K hK => ?_) AllReadyH.nil
  go_simp
  refine (New.implCrc0 _ _ _ (bs.take at0) w.drew A B (HB.out _ (Below.refl _ _).drew)).mono ?_
  rintro e w0 ⟨rfl, e0⟩
  subst e0
  rw [← HS.out]
  go_wp2_with fail
  refine hK.out _ _ (⟨c0, c1⟩) (fun hHeld => ?_)
  clear hK K
  try simp only [Act.put, List.setIfInBounds_toArray, List.set_cons_zero, List.set_cons_succ]
  refine wpAnyH_take (i := 10) (oi := { dst := some 2, op := Op.assign (Operand.tmp 12), type := 42, pos := "l7_restore.go:204", after := #[{ on := 9, ground := Ground.data }, { on := 9, ground := Ground.chain }, { on := 0, ground := Ground.phase }, { on := 1, ground := Ground.phase }, { on := 2, ground := Ground.phase }, { on := 3, ground := Ground.phase }, { on := 4, ground := Ground.phase }, { on := 5, ground := Ground.phase }, { on := 6, ground := Ground.phase }, { on := 7, ground := Ground.phase }, { on := 8, ground := Ground.phase }, { on := 9, ground := Ground.phase }], guard := none }) (v := .int .u32 sum) rfl (by kernel_rfl) (by kernel_rfl) (by kernel_rfl) (fun _ _ _ h => h) (Or.inl ⟨by rfl, ?_⟩) (by assumption) ?_
  · intro wq hSw; (try dsimp only at hSw); go_simp
  try simp only [Act.put, List.setIfInBounds_toArray, List.set_cons_zero, List.set_cons_succ]
  refine wpAnyH_done (by kernel_rfl) ?_ _
  refine NoPanic.normal ?_
  clear hHeld c0 c1 c2 hf HB
  go_wp2_with fail
  refine (rMark_any R (some ⟨g, o, none⟩) n c A B bs ⟨at0, ft⟩ ⟨#[69]⟩ (by decide) 4 w.drew HH.out.drew).mono ?_
  rintro e w1 ⟨rfl, H1, hF1⟩
  have e1 : markS bs 4 (ByteArray.mk #[69]).data.toList ⟨at0, ft⟩ = markS bs 4 [69] ⟨at0, ft⟩ := rfl
  rw [e1] at H1
  clear e1
  obtain ⟨s1, hs1'⟩ : ∃ x, x = markS bs 4 [69] ⟨at0, ft⟩ := ⟨_, rfl⟩
  rw [← hs1'] at H1
  have hs1 : Hid (s1 = markS bs 4 [69] ⟨at0, ft⟩) := hs1'
  clear hs1'
  go_wp2_with fail
  refine (rNum_any R (some ⟨g, o, none⟩) n c A B bs s1 w1 H1).mono ?_
  rintro e w2 ⟨rfl, H2, hF2⟩
  obtain ⟨s2, hs2'⟩ : ∃ x, x = takeS n 4 s1 := ⟨_, rfl⟩
  rw [← hs2'] at H2
  have hs2 : Hid (s2 = takeS n 4 s1) := hs2'
  clear hs2'
  have r5 := num_range hby s1
  obtain ⟨v, hv⟩ : ∃ x, x = leN (takeV bs 4 s1) := ⟨_, rfl⟩
  rw [← hv] at r5 ⊢
  replace hv : Hid (v = leN (takeV bs 4 s1)) := hv
  go_wp2_with fail
  refine (rWant_any R (some ⟨g, o, none⟩) n c A B bs s2 (v == sum) 5 w2 H2).mono ?_
  rintro e w3 ⟨rfl, H3, hF3⟩
  have F3 : Fr (fun x => x = R) w w3 := ((Fr.of_below (Below.refl _ _).drew).trans hF1).trans (hF2.trans hF3)
  obtain ⟨s3, hs3'⟩ : ∃ x, x = wantS (v == sum) 5 s2 := ⟨_, rfl⟩
  rw [← hs3'] at H3
  have HE : Hid (endS bs ⟨at0, ft⟩ = wantS ((s3.at_ : Int) == (n : Int)) 6 s3) := by
    show _ = _
    rw [hs3', hs2.out, hv.out, hs1.out, HS.out, ← hbl.out]; rfl
  have H3h : Hid (RSt w3 R (some ⟨g, o, none⟩) n c A B bs s3) := H3
  have F3h : Hid (Fr (fun x => x = R) w w3) := F3
  clear hs3' H1 H2 hF1 hF2 hF3 HH hs1 hs2 hv HS F3 H3
  obtain ⟨c0, c1, c2, hf⟩ := H3h.out.cells
  obtain ⟨at3, ft3⟩ := s3
  simp only at c1 c2 HE
  go_wp2_with fail
  refine wp_region_noPanic ?_
  refine wp_region_held_drew (S := (fun w' : World => w'.cell? ⟨R, 0, none⟩ = some (.slice (some ⟨g, o, none⟩) n c) ∧ w'.cell? ⟨R, 1, none⟩ = some (.int .i64 at3))) (by kernel_rfl) (⟨c0, c1⟩) (fun hHeld => ?_)
  refine wpAnyH_take (i := 0) (oi := { dst := some 22, op := Op.move (Operand.tmp 0), type := 44, pos := "l7_restore.go:207", after := #[], guard := none }) (v := .pointer (some ⟨R, 0, none⟩)) rfl (by kernel_rfl) (by kernel_rfl) (by kernel_rfl) (fun _ _ _ h => h) (Or.inl ⟨by rfl, ?_⟩) (by assumption) ?_
  · intro wq hSw; (try dsimp only at hSw); go_simp
  try simp only [Act.put, List.setIfInBounds_toArray, List.set_cons_zero, List.set_cons_succ]
  refine wpAnyH_take (i := 1) (oi := { dst := some 23, op := Op.move (Operand.tmp 0), type := 44, pos := "l7_restore.go:207", after := #[], guard := none }) (v := .pointer (some ⟨R, 0, none⟩)) rfl (by kernel_rfl) (by kernel_rfl) (by kernel_rfl) (fun _ _ _ h => h) (Or.inl ⟨by rfl, ?_⟩) (by assumption) ?_
  · intro wq hSw; (try dsimp only at hSw); go_simp
  try simp only [Act.put, List.setIfInBounds_toArray, List.set_cons_zero, List.set_cons_succ]
  refine wpAnyH_take (i := 2) (oi := { dst := some 24, op := Op.nilCheck (Operand.tmp 23), type := 0, pos := "l7_restore.go:207", after := #[{ on := 1, ground := Ground.data }], guard := none }) (v := .pointer (some ⟨R, 0, none⟩)) rfl (by kernel_rfl) (by kernel_rfl) (by kernel_rfl) (fun _ _ _ h => h) (Or.inl ⟨by rfl, ?_⟩) (by assumption) ?_
  · intro wq hSw; (try dsimp only at hSw); go_simp
  try simp only [Act.put, List.setIfInBounds_toArray, List.set_cons_zero, List.set_cons_succ]
  refine wpAnyH_take (i := 3) (oi := { dst := some 25, op := Op.fieldAddr 46 (Operand.tmp 24) 1, type := 0, pos := "l7_restore.go:207", after := #[{ on := 2, ground := Ground.data }], guard := none }) (v := .pointer (some ⟨R, 1, none⟩)) rfl (by kernel_rfl) (by kernel_rfl) (by kernel_rfl) (fun _ _ _ h => h) (Or.inl ⟨by rfl, ?_⟩) (by assumption) ?_
  · intro wq hSw; (try dsimp only at hSw); go_simp
  try simp only [Act.put, List.setIfInBounds_toArray, List.set_cons_zero, List.set_cons_succ]
  refine wpAnyH_take (i := 4) (oi := { dst := some 26, op := Op.load 3 (Operand.tmp 25), type := 3, pos := "l7_restore.go:207", after := #[{ on := 3, ground := Ground.data }], guard := none }) (v := .int .i64 at3) rfl (by kernel_rfl) (by kernel_rfl) (by kernel_rfl) (fun _ _ _ h => h) (Or.inl ⟨by rfl, ?_⟩) (by assumption) ?_
  · intro wq hSw; (try dsimp only at hSw); obtain ⟨d0, d1⟩ := hSw; go_simp
  try simp only [Act.put, List.setIfInBounds_toArray, List.set_cons_zero, List.set_cons_succ]
  refine wpAnyH_take (i := 5) (oi := { dst := some 27, op := Op.move (Operand.tmp 0), type := 44, pos := "l7_restore.go:207", after := #[], guard := none }) (v := .pointer (some ⟨R, 0, none⟩)) rfl (by kernel_rfl) (by kernel_rfl) (by kernel_rfl) (fun _ _ _ h => h) (Or.inl ⟨by rfl, ?_⟩) (by assumption) ?_
  · intro wq hSw; (try dsimp only at hSw); go_simp
  try simp only [Act.put, List.setIfInBounds_toArray, List.set_cons_zero, List.set_cons_succ]
  refine wpAnyH_take (i := 6) (oi := { dst := some 28, op := Op.nilCheck (Operand.tmp 27), type := 0, pos := "l7_restore.go:207", after := #[{ on := 5, ground := Ground.data }], guard := none }) (v := .pointer (some ⟨R, 0, none⟩)) rfl (by kernel_rfl) (by kernel_rfl) (by kernel_rfl) (fun _ _ _ h => h) (Or.inl ⟨by rfl, ?_⟩) (by assumption) ?_
  · intro wq hSw; (try dsimp only at hSw); go_simp
  try simp only [Act.put, List.setIfInBounds_toArray, List.set_cons_zero, List.set_cons_succ]
  refine wpAnyH_take (i := 7) (oi := { dst := some 29, op := Op.fieldAddr 46 (Operand.tmp 28) 0, type := 0, pos := "l7_restore.go:207", after := #[{ on := 6, ground := Ground.data }], guard := none }) (v := .pointer (some ⟨R, 0, none⟩)) rfl (by kernel_rfl) (by kernel_rfl) (by kernel_rfl) (fun _ _ _ h => h) (Or.inl ⟨by rfl, ?_⟩) (by assumption) ?_
  · intro wq hSw; (try dsimp only at hSw); go_simp
  try simp only [Act.put, List.setIfInBounds_toArray, List.set_cons_zero, List.set_cons_succ]
  refine wpAnyH_take (i := 8) (oi := { dst := some 30, op := Op.load 22 (Operand.tmp 29), type := 22, pos := "l7_restore.go:207", after := #[{ on := 7, ground := Ground.data }], guard := none }) (v := .slice (some ⟨g, o, none⟩) n c) rfl (by kernel_rfl) (by kernel_rfl) (by kernel_rfl) (fun _ _ _ h => h) (Or.inl ⟨by rfl, ?_⟩) (by assumption) ?_
  · intro wq hSw; (try dsimp only at hSw); obtain ⟨d0, d1⟩ := hSw; go_simp
  try simp only [Act.put, List.setIfInBounds_toArray, List.set_cons_zero, List.set_cons_succ]
  refine wpAnyH_take (i := 9) (oi := { dst := some 31, op := Op.call { callee := Callee.builtin Builtin.len, args := #[Operand.tmp 30], argTypes := #[22] }, type := 3, pos := "l7_restore.go:207", after := #[{ on := 8, ground := Ground.data }], guard := none }) (v := .int .i64 n) rfl (by kernel_rfl) (by kernel_rfl) (by kernel_rfl) (fun _ _ _ h => h) (Or.inl ⟨by rfl, ?_⟩) (by assumption) ?_
  · intro wq hSw; (try dsimp only at hSw); go_simp
  try simp only [Act.put, List.setIfInBounds_toArray, List.set_cons_zero, List.set_cons_succ]
  refine wpAnyH_take (i := 10) (oi := { dst := some 32, op := Op.binOp BinOp.eql 3 (Operand.tmp 26) (Operand.tmp 31) 3, type := 4, pos := "l7_restore.go:207", after := #[{ on := 4, ground := Ground.data }, { on := 9, ground := Ground.data }], guard := none }) (v := .bool ((at3 : Int) == (n : Int))) rfl (by kernel_rfl) (by kernel_rfl) (by kernel_rfl) (fun _ _ _ h => h) (Or.inl ⟨by rfl, ?_⟩) (by assumption) ?_
  · intro wq hSw; (try dsimp only at hSw); go_simp
  try simp only [Act.put, List.setIfInBounds_toArray, List.set_cons_zero, List.set_cons_succ]
  refine wpAnyH_ready (rs := [11]) (by kernel_rfl) (by simp) ?_
  refine AllReadyH.cons (o := { dst := some 33, op := Op.call { callee := Callee.value (Operand.func 35), args := #[Operand.tmp 22, Operand.tmp 32, Operand.const (Value.int IntKind.i64 6)], argTypes := #[44, 4, 2] }, type := 0, pos := "l7_restore.go:207", after := #[{ on := 0, ground := Ground.data }, { on := 10, ground := Ground.data }], guard := none }) rfl (fun K hK => ?_) AllReadyH.nil
  go_simp
  refine (rWant_any R (some ⟨g, o, none⟩) n c A B bs ⟨at3, ft3⟩ ((at3 : Int) == (n : Int)) 6 w3.drew H3h.out.drew).mono ?_
  rintro e w4 ⟨rfl, H4, hF4⟩
  go_wp2_with fail
  refine hK.out _ _ (⟨H4.cells.1, H4.cells.2.1⟩) (fun hHeld => ?_)
  clear hK K
  try simp only [Act.put, List.setIfInBounds_toArray, List.set_cons_zero, List.set_cons_succ]
  refine wpAnyH_done (by kernel_rfl) ?_ _
  refine NoPanic.normal ?_
  clear hHeld
  go_wp2_with fail
  exact bodyPost_end (v := .tuple #[]) (by simp [results, Try.results26, go_sem]) rfl ⟨rfl, by rw [HE.out]; exact H4, (F3h.out.trans (Fr.of_below (Below.refl _ _).drew)).trans hF4⟩
end Go.Proofs.Ytdieplpegkiolaa
namespace Go.Proofs.Ytdieplpegkiolaa
open Go.RowKit
set_option linter.unusedVariables false
set_option linter.unusedSimpArgs false
set_option maxRecDepth 100000

theorem info_np : (Try.prog.info? 41).map (fun i => (i.zero, i.size, i.bytes)) = some (some (.agg #[.int .i64 0, .slice none 0 0]), 2, 32) := by kernel_rfl
theorem rowSuccN {w : World} {base e size : Nat} {v : Value} {k : Nat} {xs : List Value} (h : w.ownsRow base e size v (k + 1) xs) : ∃ g cap, v = .slice (some ⟨g, 0, none⟩) (k + 1) cap := by
  rcases h.2 with ⟨_, h0⟩ | ⟨g, cap, cur, e, _⟩
  · omega
  · exact ⟨g, cap, e⟩
/-- One page more, its bytes in a new row. -/
theorem OwnN.push2 {w1 w2 w3 : World} {base M : Nat} {v v' vb : Value} {fs : List PN} {xs vs : List Value} {f : PN} (h : OwnN w1 base v fs xs vs) (hbase : base ≤ M) (hlt : ∀ j, j < fs.length → ∀ g, (vs.getD j (.slice none 0 0)).ownBlock = some g → g < M)
    (hvb : w1.ownsRow M 5 1 vb f.2.length (u8s f.2)) (hby : ∀ x ∈ f.2, 0 ≤ x ∧ x ≤ 255) (hb2 : Below w1.heap.size w1 w2)
    (hrow : w3.ownsRow base 41 2 v' (fs.length + 1) (xs ++ [.int .i64 f.1, vb])) (hgr : w2.grownBy w3 v.ownBlock) : OwnN w3 base v' (fs ++ [f]) (xs ++ [.int .i64 f.1, vb]) (vs ++ [vb]) := by
  have h1 := h.below hb2
  have hvb2 := owns_below hvb hb2
  have hx := h.row.1
  have hbb : w3.ownsRow base 5 1 vb f.2.length (u8s f.2) := by
    have := hvb2.kept hgr (own_neN h1.row hvb2)
    refine ⟨this.1, ?_⟩
    rcases this.2 with hn | ⟨g, cap, cur, e1, e2, e3⟩
    · exact .inl hn
    · exact .inr ⟨g, cap, cur, e1, Nat.le_trans hbase e2, e3⟩
  have hvl := h.len
  refine ⟨by simpa using hrow, by simp [hvl], ?_, ?_, ?_, ?_, ?_⟩
  · intro j hj
    simp at hj
    by_cases hjk : j < fs.length
    · rw [getD_snoc_lt _ _ _ _ hjk, List.getElem?_append_left (by omega)]; exact h.name j hjk
    · obtain rfl : j = fs.length := by omega
      rw [getD_snoc_eq, List.getElem?_append_right (by omega)]
      exact ⟨by simp [hx], trivial⟩
  · intro j hj
    simp at hj
    by_cases hjk : j < fs.length
    · rw [getD_snoc_lt _ _ _ _ (by omega), List.getElem?_append_left (by omega)]; exact h.val j hjk
    · obtain rfl : j = fs.length := by omega
      rw [show fs.length = vs.length from hvl.symm, getD_snoc_eq, List.getElem?_append_right (by omega)]
      simp [hx, hvl]
  · intro j hj
    simp at hj
    by_cases hjk : j < fs.length
    · rw [getD_snoc_lt _ _ _ _ (by omega), getD_snoc_lt _ _ _ _ hjk]
      exact (h1.data j hjk).kept hgr (own_neN h1.row (h1.data j hjk))
    · obtain rfl : j = fs.length := by omega
      rw [getD_snoc_eq, show fs.length = vs.length from hvl.symm, getD_snoc_eq]
      exact hbb
  · intro j hj
    simp at hj
    by_cases hjk : j < fs.length
    · rw [getD_snoc_lt _ _ _ _ hjk]; exact h.byte j hjk
    · obtain rfl : j = fs.length := by omega
      rw [getD_snoc_eq]; exact hby
  · intro i j hij hj g hg
    simp at hj
    rw [getD_snoc_lt _ _ _ _ (by omega)] at hg
    by_cases hjk : j < fs.length
    · rw [getD_snoc_lt _ _ _ _ (by omega)]; exact h.apart i j hij hjk g hg
    · obtain rfl : j = fs.length := by omega
      rw [show fs.length = vs.length from hvl.symm, getD_snoc_eq]
      intro e
      have e1 := (hvb.lt g e).1
      have e2 := hlt i (by omega) g hg
      omega
theorem OwnN.blk {w : World} {base : Nat} {v : Value} {fs : List PN} {xs vs : List Value} (h : OwnN w base v fs xs vs) {g : Nat} (hg : Blk v vs g) : base ≤ g ∧ g < w.heap.size := by
  rcases hg with hg | ⟨j, hj, hg⟩
  · exact h.row.lt g hg
  · exact (h.data j (by rw [← h.len]; exact hj)).lt g hg
theorem OwnN.lower {w : World} {base b' : Nat} {v : Value} {fs : List PN} {xs vs : List Value} (h : OwnN w base v fs xs vs) (hb : b' ≤ base) : OwnN w b' v fs xs vs :=
  ⟨own_lower h.row hb, h.len, h.name, h.val, fun j hj => own_lower (h.data j hj) hb, h.byte, h.apart⟩
/-- The pages one after another, up to the first fault. -/
def loopS (bs : List Int) (base tx : Int) : Nat → Int → List PN → Rs → List PN × Rs
  | 0, _, ps, s => (ps, s)
  | k + 1, l, ps, s => if (pageS bs base tx l s).st.ft = 0 then loopS bs base tx k (pageS bs base tx l s).num (ps ++ [((pageS bs base tx l s).num, (pageS bs base tx l s).data)]) (pageS bs base tx l s).st else (ps, (pageS bs base tx l s).st)
def pagesS (bs : List Int) (s : Rs) : List PN × Rs := loopS bs (headS bs s).base (headS bs s).tx (headS bs s).cnt.toNat 0 [] (headS bs s).st
theorem pageS_data {bs : List Int} (h : ∀ x ∈ bs, 0 ≤ x ∧ x ≤ 255) (base tx l : Int) (s : Rs) : (pageS bs base tx l s).data.length = 128 ∧ (∀ x ∈ (pageS bs base tx l s).data, 0 ≤ x ∧ x ≤ 255) ∧ (0 ≤ (pageS bs base tx l s).num ∧ (pageS bs base tx l s).num < 4294967296) := by
  refine ⟨?_, fun x hx => takeV_byte h _ _ x (List.mem_of_mem_drop hx), ?_⟩
  · show ((takeV bs 132 _).drop 4).length = 128
    rw [List.length_drop, takeV_len]
  · have := leN_range ((takeV bs 132 (markS bs 4 [80] s)).take 4) (fun x hx => takeV_byte h _ _ x (List.mem_of_mem_take hx))
    have e4 : (256 : Int) ^ 4 = 4294967296 := by decide
    have e5 : ((takeV bs 132 (markS bs 4 [80] s)).take 4).length = 4 := by rw [List.length_take, takeV_len]; rfl
    rw [e5, e4] at this
    exact this
set_option maxHeartbeats 4000000 in
theorem rStream_any (R : Nat) (g o n c A B : Nat) (bs : List Int) (s : Rs) (w : World) (h : RSt w R (some ⟨g, o, none⟩) n c A B bs s) :
    Calls Try.prog 18 #[.pointer (some ⟨R, 0, none⟩)] w fun e w' => ∃ va vc xs vs, e = .returned (.agg #[.int .i64 (headS bs s).id, .int .i64 (headS bs s).tx, .int .i64 (headS bs s).base, .int .i64 (headS bs s).root, .slice va (pagesS bs s).1.length vc]) ∧ OwnN w' w.heap.size (.slice va (pagesS bs s).1.length vc) (pagesS bs s).1 xs vs ∧ RSt w' R (some ⟨g, o, none⟩) n c A B bs (endS bs (pagesS bs s).2) ∧ Fr (fun x => x = R) w w' := by
  have hby := h.by_.2.2.2.1
  have hRl := h.lt
  have HRC : Hid (0 ≤ (headS bs s).cnt ∧ (headS bs s).cnt < 4294967296) := num_range hby _
  obtain ⟨FIN, hFIN⟩ : ∃ F, F = pagesS bs s := ⟨_, rfl⟩
  have HFIN : Hid (loopS bs (headS bs s).base (headS bs s).tx (headS bs s).cnt.toNat 0 [] (headS bs s).st = FIN) := hFIN.symm
  rw [← hFIN]
  clear hFIN
  obtain ⟨H, hH⟩ : ∃ H, H = headS bs s := ⟨_, rfl⟩
  rw [← hH] at HFIN HRC ⊢
  have HHE : Hid (headS bs s = H) := hH.symm
  clear hH
  obtain ⟨id, tx, ba, rt, ct, s1⟩ := H
  simp only at HFIN HRC ⊢
  have hb0 : Below w.heap.size w (w.alloc (.cells #[.int .i64 0, .int .i64 0, .int .i64 0, .int .i64 0, .slice none 0 0] 25)) := (Below.refl _ _).alloc (Nat.le_refl _) _
  have k0 := heap_alloc_new w (.cells #[.int .i64 0, .int .i64 0, .int .i64 0, .int .i64 0, .slice none 0 0] 25)
  obtain ⟨i1, hi1, hy0, hy1, hy2⟩ := info_parts info_np
  go_enter Try.func18, Try.ntmps18
  go_wp2_with fail
  generalize w.alloc (.cells #[.int .i64 0, .int .i64 0, .int .i64 0, .int .i64 0, .slice none 0 0] 25) = W0 at hb0 k0 ⊢
  have H0 := h.below hb0
  have l0 : w.heap.size < W0.heap.size := (Array.getElem?_eq_some_iff.1 k0).1
  have hhd := rHead_any R (some ⟨g, o, none⟩) n c A B bs s W0 H0
  rw [HHE.out] at hhd
  simp only at hhd
  refine hhd.mono ?_
  rintro e w1 ⟨rfl, H1, hF1⟩
  have K1 := box_fr k0 hF1 (by omega)
  have F1 : Fr (fun x => x = R) w w1 := (Fr.of_below hb0).trans hF1
  have hb2 : Below w1.heap.size w1 (w1.alloc (.cells #[.int .i64 id, .int .i64 tx, .int .i64 ba, .int .i64 rt, .slice none 0 0] 25)) := (Below.refl _ _).alloc (Nat.le_refl _) _
  have S2 := heap_alloc_new w1 (.cells #[.int .i64 id, .int .i64 tx, .int .i64 ba, .int .i64 rt, .slice none 0 0] 25)
  have Z0 : R < w1.heap.size := H1.lt
  have Z1 : w.heap.size < w1.heap.size := (Array.getElem?_eq_some_iff.1 K1).1
  obtain ⟨N, hN⟩ : ∃ N, N = w1.heap.size := ⟨_, rfl⟩
  rw [← hN] at S2 Z0 Z1
  obtain ⟨C, hC⟩ : ∃ C : Nat, ct = (C : Int) := ⟨ct.toNat, by have := HRC.out; omega⟩
  subst hC
  have hCb : C < 4294967296 := by have := HRC.out; omega
  have HI : Hid (∃ (va : Option Addr) (vc : Nat) (xs vs : List Value), loopS bs ba tx (C - 0) 0 [] s1 = FIN ∧ ([] : List PN).length = 0 ∧ RSt (w1.alloc (.cells #[.int .i64 id, .int .i64 tx, .int .i64 ba, .int .i64 rt, .slice none 0 0] 25)) R (some ⟨g, o, none⟩) n c A B bs s1 ∧ Fr (fun x => x = R) w (w1.alloc (.cells #[.int .i64 id, .int .i64 tx, .int .i64 ba, .int .i64 rt, .slice none 0 0] 25)) ∧ (w1.alloc (.cells #[.int .i64 id, .int .i64 tx, .int .i64 ba, .int .i64 rt, .slice none 0 0] 25)).heap[w.heap.size]? = some (.cells #[.int .i64 0, .int .i64 0, .int .i64 0, .int .i64 0, .slice none 0 0] 25) ∧ (w1.alloc (.cells #[.int .i64 id, .int .i64 tx, .int .i64 ba, .int .i64 rt, .slice none 0 0] 25)).heap[N]? = some (.cells #[.int .i64 id, .int .i64 tx, .int .i64 ba, .int .i64 rt, .slice va 0 vc] 25) ∧ OwnN (w1.alloc (.cells #[.int .i64 id, .int .i64 tx, .int .i64 ba, .int .i64 rt, .slice none 0 0] 25)) (N + 1) (.slice va 0 vc) [] xs vs) := by
    refine ⟨none, 0, [], [], ?_, rfl, H1.below hb2, F1.trans (Fr.of_below hb2), box_below K1 hb2, S2, OwnN.nil (World.ownsRow_nil _ _ _ _)⟩
    have := HFIN.out
    simpa using this
  clear hF1 k0 hb0 H0 H1 K1 F1 hb2 S2 HFIN HRC h hhd HHE
  go_wp2_with fail
  rw [← hN]
  clear hN
  generalize w1.alloc (.cells #[.int .i64 id, .int .i64 tx, .int .i64 ba, .int .i64 rt, .slice none 0 0] 25) = W2 at HI ⊢
  go_loopw [5, 6, 13] (fun l p i wr => ∃ (k : Nat) (lst : Int) (ps : List PN) (s' : Rs), k ≤ C ∧ i = .int .i64 k ∧ l = .int .i64 lst ∧ Hid (∃ (va : Option Addr) (vc : Nat) (xs vs : List Value), loopS bs ba tx (C - k) lst ps s' = FIN ∧ ps.length = k ∧ RSt wr R (some ⟨g, o, none⟩) n c A B bs s' ∧ Fr (fun x => x = R) w wr ∧ wr.heap[w.heap.size]? = some (.cells #[.int .i64 0, .int .i64 0, .int .i64 0, .int .i64 0, .slice none 0 0] 25) ∧ wr.heap[N]? = some (.cells #[.int .i64 id, .int .i64 tx, .int .i64 ba, .int .i64 rt, .slice va k vc] 25) ∧ OwnN wr (N + 1) (.slice va k vc) ps xs vs)) (fun _ _ i _ => C - (intOf i).toNat)
  case atStart => exact ⟨0, 0, [], s1, Nat.zero_le _, rfl, rfl, HI⟩
  case round =>
    clear HI
    obtain ⟨k, lst, ps, s', hk, rfl, rfl, HX⟩ := hrel
    by_cases hlt : k < C
    · obtain ⟨va, vc, xs, vs, x1, x2, x3, x4, x5, x6, x7⟩ := HX.out
      clear HX
      have hd := pageS_data hby ba tx lst s'
      have hpg := rPage_any R (some ⟨g, o, none⟩) n c A B bs s' id tx ba rt lst va k vc wr x3
      have hls : loopS bs ba tx (C - k) lst ps s' = if (pageS bs ba tx lst s').st.ft = 0 then loopS bs ba tx (C - (k + 1)) (pageS bs ba tx lst s').num (ps ++ [((pageS bs ba tx lst s').num, (pageS bs ba tx lst s').data)]) (pageS bs ba tx lst s').st else (ps, (pageS bs ba tx lst s').st) := by
        rw [show C - k = (C - (k + 1)) + 1 by omega]; rfl
      rw [hls] at x1
      clear hls
      obtain ⟨P, hP⟩ : ∃ P, P = pageS bs ba tx lst s' := ⟨_, rfl⟩
      rw [← hP] at hd hpg x1
      clear hP
      obtain ⟨num, data, s2⟩ := P
      simp only at hd hpg x1
      obtain ⟨hd1, hd2, hd3⟩ := hd
      have HD1 : Hid (data.length = 128) := hd1
      have HD2 : Hid (∀ x ∈ data, 0 ≤ x ∧ x ≤ 255) := hd2
      have X1 : Hid ((if s2.ft = 0 then loopS bs ba tx (C - (k + 1)) num (ps ++ [(num, data)]) s2 else (ps, s2)) = FIN) := x1
      have X2 : Hid (ps.length = k) := x2
      have X3 : Hid (RSt wr R (some ⟨g, o, none⟩) n c A B bs s') := x3
      have X4 : Hid (Fr (fun x => x = R) w wr) := x4
      have X5 : Hid (wr.heap[w.heap.size]? = some (.cells #[.int .i64 0, .int .i64 0, .int .i64 0, .int .i64 0, .slice none 0 0] 25)) := x5
      have X6 : Hid (wr.heap[N]? = some (.cells #[.int .i64 id, .int .i64 tx, .int .i64 ba, .int .i64 rt, .slice va k vc] 25)) := x6
      have X7 : Hid (OwnN wr (N + 1) (.slice va k vc) ps xs vs) := x7
      obtain ⟨q0, q1, q2, q3, q4⟩ := box_fiveC x6
      have lN : N < wr.heap.size := (Array.getElem?_eq_some_iff.1 x6).1
      clear hd1 hd2 x1 x2 x3 x4 x5 x6 x7
      go_wp2_with fail
      refine hpg.mono ?_
      rintro e w3 ⟨pa, pc, rfl, hO3, H3, hF3⟩
      have Y5 := box_fr X5.out hF3 (by omega)
      have Y6 := box_fr X6.out hF3 (by omega)
      have Y7 := X7.out.fr hF3 (fun g hg e => by have := X7.out.blk hg; omega)
      have Y4 := X4.out.trans hF3
      have Y8 : ∀ j, j < ps.length → ∀ g, (vs.getD j (.slice none 0 0)).ownBlock = some g → g < wr.heap.size := fun j hj g hg => ((X7.out.data j hj).lt g hg).2
      have hb4 : Below w3.heap.size w3 (w3.alloc (.cells #[.int .i64 num, .slice pa 128 pc] 41)) := (Below.refl _ _).alloc (Nat.le_refl _) _
      have P4 := heap_alloc_new w3 (.cells #[.int .i64 num, .slice pa 128 pc] 41)
      have s34 : wr.heap.size ≤ w3.heap.size := hF3.size
      have s45 : (w3.alloc (.cells #[.int .i64 num, .slice pa 128 pc] 41)).heap.size = w3.heap.size + 1 := by simp
      clear X3 X4 X5 X6 q0 q1 q2 q3 q4 hpg hF3
      have H4 := H3.below hb4
      obtain ⟨r0, r1, r2, rf⟩ := H4.cells
      clear r0 r1 rf
      go_upto_region 6 with fail
      generalize w3.alloc (.cells #[.int .i64 num, .slice pa 128 pc] 41) = w4 at hb4 P4 H4 r2 s45 ⊢
      by_cases hft : s2.ft = 0
      · have dft : (s2.ft != 0) = false := by simp [hft]
        have HFT : Hid (loopS bs ba tx (C - (k + 1)) num (ps ++ [(num, data)]) s2 = FIN) := by have := X1.out; rwa [if_pos hft] at this
        have Z6 := box_below Y6 hb4
        have Z7 := Y7.below hb4
        obtain ⟨q0, q1, q2, q3, q4⟩ := box_fiveC Z6
        obtain ⟨p0, p1, _⟩ := box_twoP P4
        have hlp : w3.heap.size < w4.heap.size := by omega
        have hlN : N < w4.heap.size := by omega
        have hcells : ∀ (j : Nat) (u : Value), [Value.int .i64 num, .slice pa 128 pc][j]? = some u → (w4.alloc (.cells #[.int .i64 num, .slice pa 128 pc] 41)).cell? ((⟨w4.heap.size, 0, none⟩ : Addr).add j) = some u := cell_two_new w4 (.int .i64 num) (.slice pa 128 pc) 41
        have hrow : w4.ownsRow (N + 1) 41 2 (.slice va k vc) k xs := by have := Z7.row; rwa [X2.out] at this
        have HROW := hrow.alloc (.cells #[.int .i64 num, .slice pa 128 pc] 41)
        have Hlt : Hid (∀ g, (Value.slice va k vc).ownBlock = some g → N + 1 ≤ g ∧ g < w3.heap.size) := fun g hg => Y7.row.lt g hg
        clear hft q0 q1 q2 q3 X1 s45
        go_wp2_with (at_builtin; refine wpList_append_own2 _ rfl _ _ 23 rfl (N + 1) 41 i1 _ 2 32 Try.underlying23 hi1 hy0 hy1 hy2 rfl (by decide) _ _ _ rfl HROW ⟨w4.heap.size, 0, none⟩ 1 1 [.int .i64 num, .slice pa 128 pc] rfl rfl hcells (by simp [Value.oneCell']) (by unfold maxLen; omega) (by omega) (by simp; omega) ?_; intro v' w5 hown' hgr hat; obtain ⟨g', cap', rfl⟩ := rowSuccN hown'; have hb5 : Below w4.heap.size w4 (w4.alloc (.cells #[.int .i64 num, .slice pa 128 pc] 41)) := (Below.refl _ _).alloc (Nat.le_refl _) _; have B5 : w5.heap[N]? = some (.cells #[.int .i64 id, .int .i64 tx, .int .i64 ba, .int .i64 rt, .slice va k vc] 25) := (hgr.block N (by simp; omega) (fun e => by have := Hlt.out N e.symm; omega)).trans (box_below Z6 hb5); have C5 : w5.heap[w3.heap.size]? = some (.cells #[.int .i64 num, .slice pa 128 pc] 41) := (hgr.block w3.heap.size (by simp; omega) (fun e => by have := Hlt.out _ e.symm; omega)).trans (box_below P4 hb5); obtain ⟨b0, b1, b2, b3, b4⟩ := box_fiveC B5; have bf := box_thawC B5 4; have lN5 : N < w5.heap.size := (Array.getElem?_eq_some_iff.1 B5).1; have lC5 : w3.heap.size < w5.heap.size := (Array.getElem?_eq_some_iff.1 C5).1; have D5 : (w5.setCell ⟨N, 4, none⟩ (.slice (some ⟨g', 0, none⟩) (k + 1) cap')).heap[w3.heap.size]? = some (.cells #[.int .i64 num, .slice pa 128 pc] 41) := box_fr C5 (fr_setCell w5 N 4 _) (by omega); obtain ⟨d0, d1, _⟩ := box_twoP D5)
        have O5 : OwnN w5 (N + 1) (.slice (some ⟨g', 0, none⟩) (k + 1) cap') (ps ++ [(num, data)]) (xs ++ [.int .i64 num, .slice pa 128 pc]) (vs ++ [.slice pa 128 pc]) :=
          OwnN.push2 (f := (num, data)) Y7 (show N + 1 ≤ wr.heap.size by omega) Y8 (by rw [HD1.out]; exact hO3) HD2.out (hb4.trans (hb5.mono hb4.size)) (by rw [X2.out]; exact hown') hgr
        have hgb : N + 1 ≤ g' := (hown'.lt g' rfl).1
        have FR5 : Fr (fun x => N + 1 ≤ x) w3 w5 := (Fr.of_below (hb4.trans (hb5.mono hb4.size))).trans (Fr.of_grown hgr (fun q e => (Hlt.out q e).1))
        have R9 : Hid (∃ (va : Option Addr) (vc : Nat) (xs vs : List Value), loopS bs ba tx (C - (k + 1)) num (ps ++ [(num, data)]) s2 = FIN ∧ (ps ++ [(num, data)]).length = k + 1 ∧ RSt (w5.setCell ⟨N, 4, none⟩ (.slice (some ⟨g', 0, none⟩) (k + 1) cap')) R (some ⟨g, o, none⟩) n c A B bs s2 ∧ Fr (fun x => x = R) w (w5.setCell ⟨N, 4, none⟩ (.slice (some ⟨g', 0, none⟩) (k + 1) cap')) ∧ (w5.setCell ⟨N, 4, none⟩ (.slice (some ⟨g', 0, none⟩) (k + 1) cap')).heap[w.heap.size]? = some (.cells #[.int .i64 0, .int .i64 0, .int .i64 0, .int .i64 0, .slice none 0 0] 25) ∧ (w5.setCell ⟨N, 4, none⟩ (.slice (some ⟨g', 0, none⟩) (k + 1) cap')).heap[N]? = some (.cells #[.int .i64 id, .int .i64 tx, .int .i64 ba, .int .i64 rt, .slice va (k + 1) vc] 25) ∧ OwnN (w5.setCell ⟨N, 4, none⟩ (.slice (some ⟨g', 0, none⟩) (k + 1) cap')) (N + 1) (.slice va (k + 1) vc) (ps ++ [(num, data)]) xs vs) := by
          have fs := fr_setCell w5 N 4 (.slice (some ⟨g', 0, none⟩) (k + 1) cap')
          refine ⟨_, _, _, _, HFT.out, by rw [List.length_append, X2.out]; rfl, ?_, ?_, box_fr (box_fr Y5 FR5 (by omega)) fs (by omega), ?_, O5.fr fs (fun q hq e => by have := O5.blk hq; omega)⟩
          · refine RSt.other (C := N) ⟨box_fr H3.box FR5 (by omega), H3.by_.keep fun q q1 q2 => FR5.block q (by have := H3.hB; have := H3.lt; omega) (by have := H3.hB; omega), H3.hB, H3.at_, H3.small⟩ fs (by omega)
          · exact ⟨fs.os.trans (FR5.os.trans Y4.os), fs.tape.trans (FR5.tape.trans Y4.tape), fs.output.trans (FR5.output.trans Y4.output), Nat.le_trans Y4.size (Nat.le_trans FR5.size fs.size), fun q hq hn => (fs.block q (Nat.lt_of_lt_of_le hq (Nat.le_trans Y4.size FR5.size)) (by omega)).trans ((FR5.block q (Nat.lt_of_lt_of_le hq Y4.size) (by omega)).trans (Y4.block q hq hn))⟩
          · simp [World.setCell, Array.getElem?_modify, B5]
        clear O5 FR5 hown' hgr hat B5 C5 D5 Y4 Y5 Y6 Y7 Y8 Z6 Z7 hrow HROW hcells hO3 H3 H4 hb4 hb5 Hlt HFT HD1 HD2 X2 X7 P4 b0 b1 b2 b3 b4 bf p0 p1 q4 r2
        go_wp2_with fail
        go_roundw
        case rel => exact ⟨k + 1, num, ps ++ [(num, data)], s2, by omega, by go_num, rfl, R9⟩
        case measure => simp [intOf]; omega
      · have dft : (s2.ft != 0) = true := by simp [hft]
        have HFT : Hid ((ps, s2) = FIN) := by have := X1.out; rwa [if_neg hft] at this
        have HY4 : Hid (Fr (fun x => x = R) w w4) := Y4.trans (Fr.of_below hb4)
        have HY5 : Hid (w4.heap[w.heap.size]? = some (.cells #[.int .i64 0, .int .i64 0, .int .i64 0, .int .i64 0, .slice none 0 0] 25)) := box_below Y5 hb4
        have HY6 : Hid (w4.heap[N]? = some (.cells #[.int .i64 id, .int .i64 tx, .int .i64 ba, .int .i64 rt, .slice va k vc] 25)) := box_below Y6 hb4
        have HY7 : Hid (OwnN w4 (N + 1) (.slice va k vc) ps xs vs) := Y7.below hb4
        have HY3 : Hid (RSt w4 R (some ⟨g, o, none⟩) n c A B bs s2) := H4
        clear Y4 Y5 Y6 Y7 Y8 hft X1 hO3 H3 H4 hb4 P4 X7 HD1 HD2
        obtain ⟨wT, hwT⟩ : ∃ x, x = w4 := ⟨_, rfl⟩
        obtain ⟨sT, hsT⟩ : ∃ x, x = s2 := ⟨_, rfl⟩
        subst hwT hsT
        go_wp2_with fail
        clear r2 dft
        refine (rEnd_any R g o n c A B bs sT wT HY3.out).mono ?_
        rintro e w9 ⟨rfl, H9, hF9⟩
        have A5 := box_fr HY5.out hF9 (by omega)
        have A6 := box_fr HY6.out hF9 (by omega)
        have A7 := HY7.out.fr hF9 (fun q hq e => by have := HY7.out.blk hq; omega)
        have A4 := HY4.out.trans hF9
        obtain ⟨x0, x1, x2, x3, x4⟩ := box_fiveC A5
        obtain ⟨q0, q1, q2, q3, q4⟩ := box_fiveC A6
        have hz := box_thawC A5
        have X5 := put5C_box A5 (.int .i64 id) (.int .i64 tx) (.int .i64 ba) (.int .i64 rt) (.slice va k vc)
        have hf5 := put5C_fr w9 w.heap.size (.int .i64 id) (.int .i64 tx) (.int .i64 ba) (.int .i64 rt) (.slice va k vc)
        have HR5 : Hid (RSt (put5C w9 w.heap.size (.int .i64 id) (.int .i64 tx) (.int .i64 ba) (.int .i64 rt) (.slice va k vc)) R (some ⟨g, o, none⟩) n c A B bs (endS bs FIN.2)) := by rw [← HFT.out]; exact H9.other hf5 (by omega)
        have FF5 : Hid (Fr (fun x => x = R) w (put5C w9 w.heap.size (.int .i64 id) (.int .i64 tx) (.int .i64 ba) (.int .i64 rt) (.slice va k vc))) := ⟨hf5.os.trans A4.os, hf5.tape.trans A4.tape, hf5.output.trans A4.output, Nat.le_trans A4.size hf5.size, fun q hq hn => (hf5.block q (Nat.lt_of_lt_of_le hq A4.size) (by omega)).trans (A4.block q hq hn)⟩
        have HO5 : Hid (OwnN (put5C w9 w.heap.size (.int .i64 id) (.int .i64 tx) (.int .i64 ba) (.int .i64 rt) (.slice va k vc)) w.heap.size (.slice va FIN.1.length vc) FIN.1 xs vs) := by
          rw [← HFT.out, X2.out]
          exact (A7.fr hf5 (fun q hq e => by have := A7.blk hq; omega)).lower (by omega)
        have HK5 : Hid (FIN.1.length = k) := by show _ = _; rw [← HFT.out]; exact X2.out
        have l5 : w.heap.size < w9.heap.size := (Array.getElem?_eq_some_iff.1 A5).1
        have l6 : N < w9.heap.size := (Array.getElem?_eq_some_iff.1 A6).1
        clear A4 A5 A6 A7 H9 hF9 hf5 HY3 HY4 HY5 HY6 HY7
        go_wp2_with fail
        show bodyPost _ _ _ _ _ (put5C w9 w.heap.size (.int .i64 id) (.int .i64 tx) (.int .i64 ba) (.int .i64 rt) (.slice va k vc))
        clear x0 x1 x2 x3 x4 hz
        obtain ⟨x0, x1, x2, x3, x4⟩ := box_fiveC X5
        exact bodyPost_ret (v := .agg #[.int .i64 id, .int .i64 tx, .int .i64 ba, .int .i64 rt, .slice va k vc]) (by simp [results, Try.results18, go_sem, x0, x1, x2, x3, x4]) rfl ⟨va, vc, xs, vs, by rw [HK5.out], HO5.out, HR5.out, FF5.out⟩
    · obtain rfl : k = C := by omega
      obtain ⟨va, vc, xs, vs, x1, x2, x3, x4, x5, x6, x7⟩ := HX.out
      clear HX
      have HFT : Hid ((ps, s') = FIN) := by rw [Nat.sub_self] at x1; exact x1
      have X2 : Hid (ps.length = k) := x2
      have HY3 : Hid (RSt wr R (some ⟨g, o, none⟩) n c A B bs s') := x3
      have HY4 : Hid (Fr (fun x => x = R) w wr) := x4
      have HY5 : Hid (wr.heap[w.heap.size]? = some (.cells #[.int .i64 0, .int .i64 0, .int .i64 0, .int .i64 0, .slice none 0 0] 25)) := x5
      have HY6 : Hid (wr.heap[N]? = some (.cells #[.int .i64 id, .int .i64 tx, .int .i64 ba, .int .i64 rt, .slice va k vc] 25)) := x6
      have HY7 : Hid (OwnN wr (N + 1) (.slice va k vc) ps xs vs) := x7
      clear x1 x2 x3 x4 x5 x6 x7
      obtain ⟨wT, hwT⟩ : ∃ x, x = wr := ⟨_, rfl⟩
      obtain ⟨sT, hsT⟩ : ∃ x, x = s' := ⟨_, rfl⟩
      subst hwT hsT
      go_wp2_with fail
      refine (rEnd_any R g o n c A B bs sT wT HY3.out).mono ?_
      rintro e w9 ⟨rfl, H9, hF9⟩
      have A5 := box_fr HY5.out hF9 (by omega)
      have A6 := box_fr HY6.out hF9 (by omega)
      have A7 := HY7.out.fr hF9 (fun q hq e => by have := HY7.out.blk hq; omega)
      have A4 := HY4.out.trans hF9
      obtain ⟨x0, x1, x2, x3, x4⟩ := box_fiveC A5
      obtain ⟨q0, q1, q2, q3, q4⟩ := box_fiveC A6
      have hz := box_thawC A5
      have X5 := put5C_box A5 (.int .i64 id) (.int .i64 tx) (.int .i64 ba) (.int .i64 rt) (.slice va k vc)
      have hf5 := put5C_fr w9 w.heap.size (.int .i64 id) (.int .i64 tx) (.int .i64 ba) (.int .i64 rt) (.slice va k vc)
      have HR5 : Hid (RSt (put5C w9 w.heap.size (.int .i64 id) (.int .i64 tx) (.int .i64 ba) (.int .i64 rt) (.slice va k vc)) R (some ⟨g, o, none⟩) n c A B bs (endS bs FIN.2)) := by rw [← HFT.out]; exact H9.other hf5 (by omega)
      have FF5 : Hid (Fr (fun x => x = R) w (put5C w9 w.heap.size (.int .i64 id) (.int .i64 tx) (.int .i64 ba) (.int .i64 rt) (.slice va k vc))) := ⟨hf5.os.trans A4.os, hf5.tape.trans A4.tape, hf5.output.trans A4.output, Nat.le_trans A4.size hf5.size, fun q hq hn => (hf5.block q (Nat.lt_of_lt_of_le hq A4.size) (by omega)).trans (A4.block q hq hn)⟩
      have HO5 : Hid (OwnN (put5C w9 w.heap.size (.int .i64 id) (.int .i64 tx) (.int .i64 ba) (.int .i64 rt) (.slice va k vc)) w.heap.size (.slice va FIN.1.length vc) FIN.1 xs vs) := by
        rw [← HFT.out, X2.out]
        exact (A7.fr hf5 (fun q hq e => by have := A7.blk hq; omega)).lower (by omega)
      have HK5 : Hid (FIN.1.length = k) := by show _ = _; rw [← HFT.out]; exact X2.out
      have l5 : w.heap.size < w9.heap.size := (Array.getElem?_eq_some_iff.1 A5).1
      have l6 : N < w9.heap.size := (Array.getElem?_eq_some_iff.1 A6).1
      clear A4 A5 A6 A7 H9 hF9 hf5 HY3 HY4 HY5 HY6 HY7
      go_wp2_with fail
      show bodyPost _ _ _ _ _ (put5C w9 w.heap.size (.int .i64 id) (.int .i64 tx) (.int .i64 ba) (.int .i64 rt) (.slice va k vc))
      clear x0 x1 x2 x3 x4 hz
      obtain ⟨x0, x1, x2, x3, x4⟩ := box_fiveC X5
      exact bodyPost_ret (v := .agg #[.int .i64 id, .int .i64 tx, .int .i64 ba, .int .i64 rt, .slice va k vc]) (by simp [results, Try.results18, go_sem, x0, x1, x2, x3, x4]) rfl ⟨va, vc, xs, vs, by rw [HK5.out], HO5.out, HR5.out, FF5.out⟩
end Go.Proofs.Ytdieplpegkiolaa
namespace Go.Proofs.Ytdieplpegkiolaa
open Go.RowKit
set_option linter.unusedVariables false
set_option linter.unusedSimpArgs false
set_option maxRecDepth 100000

/-- What parsing a stream answers. -/
structure SR where
  err : Int
  id : Int
  tx : Int
  base : Int
  root : Int
  pages : List PN
def zSR (e : Int) : SR := ⟨e, 0, 0, 0, 0, []⟩
def parI (bs : List Int) : SR :=
  if 200000 < bs.length then zSR 1
  else if (endS bs (pagesS bs ⟨0, 0⟩).2).ft = 0 then ⟨0, (headS bs ⟨0, 0⟩).id, (headS bs ⟨0, 0⟩).tx, (headS bs ⟨0, 0⟩).base, (headS bs ⟨0, 0⟩).root, (pagesS bs ⟨0, 0⟩).1⟩
  else zSR (endS bs (pagesS bs ⟨0, 0⟩).2).ft
def SR.cells (r : SR) (va : Option Addr) (vc : Nat) : Array Value := #[.int .i64 r.err, .int .i64 r.id, .int .i64 r.tx, .int .i64 r.base, .int .i64 r.root, .slice va r.pages.length vc]
/-- An answer of parsing in memory of one's own. -/
def SRAns (w : World) (r : SR) (e : Ending) (w' : World) : Prop := ∃ va vc xs vs, e = .returned (.agg (r.cells va vc)) ∧ OwnN w' w.heap.size (.slice va r.pages.length vc) r.pages xs vs ∧ Below w.heap.size w w'
theorem box_sixS {w : World} {N : Nat} {v0 v1 v2 v3 v4 v5 : Value} {t : TypeId} (h : w.heap[N]? = some (.cells #[v0, v1, v2, v3, v4, v5] t)) : w.cell? ⟨N, 0, none⟩ = some v0 ∧ w.cell? ⟨N, 1, none⟩ = some v1 ∧ w.cell? ⟨N, 2, none⟩ = some v2 ∧ w.cell? ⟨N, 3, none⟩ = some v3 ∧ w.cell? ⟨N, 4, none⟩ = some v4 ∧ w.cell? ⟨N, 5, none⟩ = some v5 := by
  refine ⟨?_, ?_, ?_, ?_, ?_, ?_⟩ <;> simp [World.cell?, h]
def put6S (w : World) (N : Nat) (u0 u1 u2 u3 u4 u5 : Value) : World := (((((w.setCell ⟨N, 0, none⟩ u0).setCell ⟨N, 1, none⟩ u1).setCell ⟨N, 2, none⟩ u2).setCell ⟨N, 3, none⟩ u3).setCell ⟨N, 4, none⟩ u4).setCell ⟨N, 5, none⟩ u5
theorem put6S_box {w : World} {N t : Nat} {v0 v1 v2 v3 v4 v5 : Value} (h : w.heap[N]? = some (.cells #[v0, v1, v2, v3, v4, v5] t)) (u0 u1 u2 u3 u4 u5 : Value) : (put6S w N u0 u1 u2 u3 u4 u5).heap[N]? = some (.cells #[u0, u1, u2, u3, u4, u5] t) := by
  simp [put6S, World.setCell, Array.getElem?_modify, h]
theorem put6S_fr (w : World) (N : Nat) (u0 u1 u2 u3 u4 u5 : Value) : Fr (fun x => x = N) w (put6S w N u0 u1 u2 u3 u4 u5) :=
  (((((fr_setCell _ _ _ _).trans (fr_setCell _ _ _ _)).trans (fr_setCell _ _ _ _)).trans (fr_setCell _ _ _ _)).trans (fr_setCell _ _ _ _)).trans (fr_setCell _ _ _ _)
theorem ownN_none (w : World) (b : Nat) : OwnN w b (.slice none 0 0) [] [] [] := OwnN.nil (World.ownsRow_nil _ _ _ _)
theorem SRAns.zero {w w' : World} (e : Int) (hb : Below w.heap.size w w') : SRAns w (zSR e) (.returned (.agg #[.int .i64 e, .int .i64 0, .int .i64 0, .int .i64 0, .int .i64 0, .slice none 0 0])) w' :=
  ⟨none, 0, [], [], rfl, ownN_none _ _, hb⟩
set_option maxHeartbeats 1600000 in
theorem implParse_any (g o n c A B : Nat) (bs : List Int) (w : World) (hB : B ≤ w.heap.size) (hb : BytesAt w A B (some ⟨g, o, none⟩) n c bs) :
    Calls Try.prog 6 #[.slice (some ⟨g, o, none⟩) n c] w fun e w' => SRAns w (parI bs) e w' := by
  have hl := hb.1
  have hnc := hb.2.1
  have hcm := hb.2.2.1
  unfold maxLen at hcm
  have hb0 : Below w.heap.size w (w.alloc (.cells #[.int .i64 0, .int .i64 0, .int .i64 0, .int .i64 0, .int .i64 0, .slice none 0 0] 27)) := (Below.refl _ _).alloc (Nat.le_refl _) _
  have k0 := heap_alloc_new w (.cells #[.int .i64 0, .int .i64 0, .int .i64 0, .int .i64 0, .int .i64 0, .slice none 0 0] 27)
  by_cases hn : 200000 < n
  · have hp : parI bs = zSR 1 := if_pos (by omega)
    rw [hp]
    have hgt : decide ((200000 : Int) < (n : Int)) = true := by simp; omega
    have hl0 : w.heap.size < (w.alloc (.cells #[.int .i64 0, .int .i64 0, .int .i64 0, .int .i64 0, .int .i64 0, .slice none 0 0] 27)).heap.size := by simp
    clear hb hp hl
    go_enter Try.func6, Try.ntmps6
    go_upto_region 2 with fail
    generalize w.alloc (.cells #[.int .i64 0, .int .i64 0, .int .i64 0, .int .i64 0, .int .i64 0, .slice none 0 0] 27) = W0 at hb0 k0 hl0 ⊢
    obtain ⟨x0, x1, x2, x3, x4, x5⟩ := box_sixS k0
    have hz := box_thawC k0
    have X := put6S_box k0 (.int .i64 1) (.int .i64 0) (.int .i64 0) (.int .i64 0) (.int .i64 0) (.slice none 0 0)
    have hf := put6S_fr W0 w.heap.size (.int .i64 1) (.int .i64 0) (.int .i64 0) (.int .i64 0) (.int .i64 0) (.slice none 0 0)
    have HB : Hid (Below w.heap.size w (put6S W0 w.heap.size (.int .i64 1) (.int .i64 0) (.int .i64 0) (.int .i64 0) (.int .i64 0) (.slice none 0 0))) := hb0.trans (hf.below hb0.size (fun q e => by omega))
    clear hf hb0 k0
    go_wp2_with fail
    show bodyPost _ _ _ _ _ (put6S W0 w.heap.size (.int .i64 1) (.int .i64 0) (.int .i64 0) (.int .i64 0) (.int .i64 0) (.slice none 0 0))
    clear x0 x1 x2 x3 x4 x5 hz
    obtain ⟨x0, x1, x2, x3, x4, x5⟩ := box_sixS X
    exact bodyPost_ret (v := .agg #[.int .i64 1, .int .i64 0, .int .i64 0, .int .i64 0, .int .i64 0, .slice none 0 0]) (by simp [results, Try.results6, go_sem, x0, x1, x2, x3, x4, x5]) rfl (SRAns.zero 1 HB.out)
  · have HP : Hid (parI bs = if (endS bs (pagesS bs ⟨0, 0⟩).2).ft = 0 then ⟨0, (headS bs ⟨0, 0⟩).id, (headS bs ⟨0, 0⟩).tx, (headS bs ⟨0, 0⟩).base, (headS bs ⟨0, 0⟩).root, (pagesS bs ⟨0, 0⟩).1⟩ else zSR (endS bs (pagesS bs ⟨0, 0⟩).2).ft) := if_neg (by omega)
    have hgt : decide ((200000 : Int) < (n : Int)) = false := by simp; omega
    have HB : Hid (BytesAt w A B (some ⟨g, o, none⟩) n c bs) := hb
    clear hb hl
    go_enter Try.func6, Try.ntmps6
    go_upto_region 3 with fail
    generalize w.alloc (.cells #[.int .i64 0, .int .i64 0, .int .i64 0, .int .i64 0, .int .i64 0, .slice none 0 0] 27) = W0 at hb0 k0 ⊢
    have l0 : w.heap.size < W0.heap.size := (Array.getElem?_eq_some_iff.1 k0).1
    have hb1 : Below W0.heap.size W0 (W0.alloc (.cells #[.slice (some ⟨g, o, none⟩) n c, .int .i64 0, .int .i64 0] 46)) := (Below.refl _ _).alloc (Nat.le_refl _) _
    have k1 := heap_alloc_new W0 (.cells #[.slice (some ⟨g, o, none⟩) n c, .int .i64 0, .int .i64 0] 46)
    have K0 := box_below k0 hb1
    have bel1 : Below w.heap.size w (W0.alloc (.cells #[.slice (some ⟨g, o, none⟩) n c, .int .i64 0, .int .i64 0] 46)) := hb0.trans (hb1.mono hb0.size)
    obtain ⟨R, hR⟩ : ∃ R, R = W0.heap.size := ⟨_, rfl⟩
    rw [← hR] at k1 l0
    clear k0 hb0 hb1
    go_wp2_with fail
    rw [← hR]
    clear hR
    generalize W0.alloc (.cells #[.slice (some ⟨g, o, none⟩) n c, .int .i64 0, .int .i64 0] 46) = W1 at k1 K0 bel1 ⊢
    have HR : RSt W1 R (some ⟨g, o, none⟩) n c A B bs ⟨0, 0⟩ := ⟨k1, HB.out.below (bel1.mono hB), by omega, Nat.zero_le _, by omega⟩
    have hst := rStream_any R g o n c A B bs ⟨0, 0⟩ W1 HR
    obtain ⟨PG, hPG⟩ : ∃ P, P = (pagesS bs ⟨0, 0⟩).1 := ⟨_, rfl⟩
    obtain ⟨FT, hFT⟩ : ∃ F, F = endS bs (pagesS bs ⟨0, 0⟩).2 := ⟨_, rfl⟩
    obtain ⟨H, hH⟩ : ∃ H, H = headS bs ⟨0, 0⟩ := ⟨_, rfl⟩
    have HG : Hid ((if (endS bs (pagesS bs ⟨0, 0⟩).2).ft = 0 then (⟨0, (headS bs ⟨0, 0⟩).id, (headS bs ⟨0, 0⟩).tx, (headS bs ⟨0, 0⟩).base, (headS bs ⟨0, 0⟩).root, (pagesS bs ⟨0, 0⟩).1⟩ : SR) else zSR (endS bs (pagesS bs ⟨0, 0⟩).2).ft) = if FT.ft = 0 then ⟨0, H.id, H.tx, H.base, H.root, PG⟩ else zSR FT.ft) := by show _ = _; rw [hFT, hH, hPG]
    rw [← hPG, ← hFT, ← hH] at hst
    clear hPG hFT hH HR k1 HB
    obtain ⟨id, tx, ba, rt, ct, s1⟩ := H
    obtain ⟨fa, ft⟩ := FT
    simp only at hst HG
    refine hst.mono ?_
    rintro e w2 ⟨va, vc, xs, vs, rfl, hO2, H2, hF2⟩
    have K2 := box_fr K0 hF2 (by omega)
    have bel2 : Below w.heap.size w w2 := bel1.trans (hF2.below bel1.size (fun q e => by omega))
    have hb3 : Below w2.heap.size w2 (w2.alloc (.cells #[.int .i64 id, .int .i64 tx, .int .i64 ba, .int .i64 rt, .slice va PG.length vc] 25)) := (Below.refl _ _).alloc (Nat.le_refl _) _
    have S3 := heap_alloc_new w2 (.cells #[.int .i64 id, .int .i64 tx, .int .i64 ba, .int .i64 rt, .slice va PG.length vc] 25)
    have K3 := box_below K2 hb3
    have H3 := H2.below hb3
    have hO3 := hO2.below hb3
    have bel3 := bel2.trans (hb3.mono bel2.size)
    obtain ⟨r0, r1, r2, rf⟩ := H3.cells
    simp only at r2
    obtain ⟨x0, x1, x2, x3, x4, x5⟩ := box_sixS K3
    have hz := box_thawC K3
    obtain ⟨q0, q1, q2, q3, q4⟩ := box_fiveC S3
    have lS : w2.heap.size < (w2.alloc (.cells #[.int .i64 id, .int .i64 tx, .int .i64 ba, .int .i64 rt, .slice va PG.length vc] 25)).heap.size := by simp
    have hRl := H3.lt
    have HLW : Hid (w.heap.size ≤ W1.heap.size ∧ w.heap.size < W1.heap.size) := ⟨bel1.size, by have := (Array.getElem?_eq_some_iff.1 K0).1; omega⟩
    clear hst K0 K2 bel1 bel2 hb3 S3 H2 H3 hO2 hF2 r0 r1 rf
    go_upto_region 5 with fail
    generalize w2.alloc (.cells #[.int .i64 id, .int .i64 tx, .int .i64 ba, .int .i64 rt, .slice va PG.length vc] 25) = w3 at K3 hO3 bel3 r2 x0 x1 x2 x3 x4 x5 hz q0 q1 q2 q3 q4 lS hRl ⊢
    have l3 : w.heap.size < w3.heap.size := (Array.getElem?_eq_some_iff.1 K3).1
    by_cases hft : ft = 0
    · have dft : (ft != 0) = false := by simp [hft]
      have HG2 : Hid ((if ft = 0 then (⟨0, id, tx, ba, rt, PG⟩ : SR) else zSR ft) = ⟨0, id, tx, ba, rt, PG⟩) := if_pos hft
      have X := put6S_box K3 (.int .i64 0) (.int .i64 id) (.int .i64 tx) (.int .i64 ba) (.int .i64 rt) (.slice va PG.length vc)
      have hf := put6S_fr w3 w.heap.size (.int .i64 0) (.int .i64 id) (.int .i64 tx) (.int .i64 ba) (.int .i64 rt) (.slice va PG.length vc)
      have HA : Hid (SRAns w ⟨0, id, tx, ba, rt, PG⟩ (.returned (.agg #[.int .i64 0, .int .i64 id, .int .i64 tx, .int .i64 ba, .int .i64 rt, .slice va PG.length vc])) (put6S w3 w.heap.size (.int .i64 0) (.int .i64 id) (.int .i64 tx) (.int .i64 ba) (.int .i64 rt) (.slice va PG.length vc))) :=
        ⟨va, vc, xs, vs, rfl, (hO3.fr hf (fun q hq e => by have := hO3.blk hq; have := HLW.out.2; omega)).lower HLW.out.1, bel3.trans (hf.below bel3.size (fun q e => by omega))⟩
      clear hf hft hO3 bel3 K3
      go_wp2_with fail
      show bodyPost _ _ _ _ _ (put6S w3 w.heap.size (.int .i64 0) (.int .i64 id) (.int .i64 tx) (.int .i64 ba) (.int .i64 rt) (.slice va PG.length vc))
      clear x0 x1 x2 x3 x4 x5 hz
      obtain ⟨x0, x1, x2, x3, x4, x5⟩ := box_sixS X
      exact bodyPost_ret (v := .agg #[.int .i64 0, .int .i64 id, .int .i64 tx, .int .i64 ba, .int .i64 rt, .slice va PG.length vc]) (by simp [results, Try.results6, go_sem, x0, x1, x2, x3, x4, x5]) rfl (by rw [HP.out, HG.out, HG2.out]; exact HA.out)
    · have dft : (ft != 0) = true := by simp [hft]
      have HG2 : Hid ((if ft = 0 then (⟨0, id, tx, ba, rt, PG⟩ : SR) else zSR ft) = zSR ft) := if_neg hft
      have X := put6S_box K3 (.int .i64 ft) (.int .i64 0) (.int .i64 0) (.int .i64 0) (.int .i64 0) (.slice none 0 0)
      have hf := put6S_fr w3 w.heap.size (.int .i64 ft) (.int .i64 0) (.int .i64 0) (.int .i64 0) (.int .i64 0) (.slice none 0 0)
      have HA : Hid (SRAns w (zSR ft) (.returned (.agg #[.int .i64 ft, .int .i64 0, .int .i64 0, .int .i64 0, .int .i64 0, .slice none 0 0])) (put6S w3 w.heap.size (.int .i64 ft) (.int .i64 0) (.int .i64 0) (.int .i64 0) (.int .i64 0) (.slice none 0 0))) :=
        SRAns.zero ft (bel3.trans (hf.below bel3.size (fun q e => by omega)))
      clear hf hft hO3 bel3 K3
      go_wp2_with fail
      show bodyPost _ _ _ _ _ (put6S w3 w.heap.size (.int .i64 ft) (.int .i64 0) (.int .i64 0) (.int .i64 0) (.int .i64 0) (.slice none 0 0))
      clear x0 x1 x2 x3 x4 x5 hz
      obtain ⟨x0, x1, x2, x3, x4, x5⟩ := box_sixS X
      exact bodyPost_ret (v := .agg #[.int .i64 ft, .int .i64 0, .int .i64 0, .int .i64 0, .int .i64 0, .slice none 0 0]) (by simp [results, Try.results6, go_sem, x0, x1, x2, x3, x4, x5]) rfl (by rw [HP.out, HG.out, HG2.out]; exact HA.out)
end Go.Proofs.Ytdieplpegkiolaa
