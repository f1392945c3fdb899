import Derived.Test.YtdieplpegkiolaaGAB
import Derived.Test.YtdieplpegkiolaaGAC
import Derived.Deep.RegionHeld3
namespace Go.Proofs.Ytdieplpegkiolaa
open Go.RowKit
set_option linter.unusedVariables false
set_option linter.unusedSimpArgs false
set_option maxRecDepth 100000

/-- Where a reader stands, and its fault. -/
structure Rs where
  at_ : Nat
  ft : Int
def wantS (g : Bool) (f : Int) (s : Rs) : Rs := ⟨s.at_, if s.ft = 0 then cond g 0 f else s.ft⟩
def takeS (n cnt : Nat) (s : Rs) : Rs := if s.ft = 0 then (if s.at_ + cnt ≤ n then ⟨s.at_ + cnt, 0⟩ else ⟨s.at_, 3⟩) else s
def takeV (bs : List Int) (cnt : Nat) (s : Rs) : List Int := if s.ft = 0 ∧ s.at_ + cnt ≤ bs.length then (bs.drop s.at_).take cnt else List.replicate cnt 0
theorem takeV_len (bs : List Int) (cnt : Nat) (s : Rs) : (takeV bs cnt s).length = cnt := by
  unfold takeV
  split
  · rename_i h; simp; omega
  · simp
theorem takeV_byte {bs : List Int} (h : ∀ x ∈ bs, 0 ≤ x ∧ x ≤ 255) (cnt : Nat) (s : Rs) : ∀ x ∈ takeV bs cnt s, 0 ≤ x ∧ x ≤ 255 := by
  unfold takeV
  split
  · exact fun x hx => h x (List.mem_of_mem_drop (List.mem_of_mem_take hx))
  · intro x hx
    have := List.eq_of_mem_replicate hx
    omega
/-- A reader in memory. -/
structure RSt (w : World) (R : Nat) (a : Option Addr) (n c A B : Nat) (bs : List Int) (s : Rs) : Prop where
  box : w.heap[R]? = some (.cells #[.slice a n c, .int .i64 s.at_, .int .i64 s.ft] 46)
  by_ : BytesAt w A B a n c bs
  hB : B ≤ R
  at_ : s.at_ ≤ n
  small : n ≤ 200000
/-- Bytes that lie elsewhere than R. -/
def BOff (w : World) (R : Nat) (a : Option Addr) (n c : Nat) (bs : List Int) : Prop := ∃ A B, B ≤ w.heap.size ∧ (B ≤ R ∨ R < A) ∧ BytesAt w A B a n c bs
theorem BOff.fr {w w' : World} {R : Nat} {a : Option Addr} {n c : Nat} {bs : List Int} (h : BOff w R a n c bs) (hf : Fr (fun x => x = R) w w') : BOff w' R a n c bs := by
  obtain ⟨A, B, h1, h2, h3⟩ := h
  exact ⟨A, B, Nat.le_trans h1 hf.size, h2, h3.keep fun k k1 k2 => hf.block k (by omega) (by omega)⟩
theorem RSt.lt {w : World} {R : Nat} {a : Option Addr} {n c A B : Nat} {bs : List Int} {s : Rs} (h : RSt w R a n c A B bs s) : R < w.heap.size := (Array.getElem?_eq_some_iff.1 h.box).1
theorem RSt.cells {w : World} {R : Nat} {a : Option Addr} {n c A B : Nat} {bs : List Int} {s : Rs} (h : RSt w R a n c A B bs s) : w.cell? ⟨R, 0, none⟩ = some (.slice a n c) ∧ w.cell? ⟨R, 1, none⟩ = some (.int .i64 s.at_) ∧ w.cell? ⟨R, 2, none⟩ = some (.int .i64 s.ft) ∧ ∀ j, w.frozen? ⟨R, j, none⟩ = false := by
  refine ⟨?_, ?_, ?_, fun j => ?_⟩
  · simp [World.cell?, h.box]
  · simp [World.cell?, h.box]
  · simp [World.cell?, h.box]
  · simp [World.frozen?, h.box]
theorem RSt.below {w w' : World} {R : Nat} {a : Option Addr} {n c A B : Nat} {bs : List Int} {s : Rs} (h : RSt w R a n c A B bs s) (hb : Below w.heap.size w w') : RSt w' R a n c A B bs s :=
  ⟨(hb.block R h.lt).trans h.box, h.by_.below (hb.mono (by have := h.lt; have := h.hB; omega)), h.hB, h.at_, h.small⟩
theorem RSt.drew {w : World} {R : Nat} {a : Option Addr} {n c A B : Nat} {bs : List Int} {s : Rs} (h : RSt w R a n c A B bs s) : RSt w.drew R a n c A B bs s := h.below (Below.refl _ _).drew
theorem RSt.other {w w' : World} {R C : Nat} {a : Option Addr} {n c A B : Nat} {bs : List Int} {s : Rs} (h : RSt w R a n c A B bs s) (hf : Fr (fun x => x = C) w w') (hC : R < C) : RSt w' R a n c A B bs s :=
  ⟨(hf.block R h.lt (by omega)).trans h.box, h.by_.keep fun k k1 k2 => hf.block k (by have := h.lt; have := h.hB; omega) (by have := h.hB; omega), h.hB, h.at_, h.small⟩
theorem RSt.set {w : World} {R : Nat} {a : Option Addr} {n c A B : Nat} {bs : List Int} {s : Rs} (h : RSt w R a n c A B bs s) (f : Int) : RSt (w.setCell ⟨R, 2, none⟩ (.int .i64 f)) R a n c A B bs ⟨s.at_, f⟩ := by
  refine ⟨?_, h.by_.keep fun k k1 k2 => Below.heap_setCell w ⟨R, 2, none⟩ _ k (by have := h.hB; show k ≠ R; omega), h.hB, h.at_, h.small⟩
  simp [World.setCell, Array.getElem?_modify, h.box]
theorem RSt.go {w : World} {R : Nat} {a : Option Addr} {n c A B : Nat} {bs : List Int} {s : Rs} (h : RSt w R a n c A B bs s) (k : Nat) (hk : k ≤ n) : RSt (w.setCell ⟨R, 1, none⟩ (.int .i64 (k : Int))) R a n c A B bs ⟨k, s.ft⟩ := by
  refine ⟨?_, h.by_.keep fun k k1 k2 => Below.heap_setCell w ⟨R, 1, none⟩ _ k (by have := h.hB; show k ≠ R; omega), h.hB, hk, h.small⟩
  simp [World.setCell, Array.getElem?_modify, h.box]
set_option maxHeartbeats 400000 in
theorem rWant_any (R : Nat) (a : Option Addr) (n c A B : Nat) (bs : List Int) (s : Rs) (g : Bool) (f : Int) (w : World) (h : RSt w R a n c A B bs s) :
    Calls Try.prog 35 #[.pointer (some ⟨R, 0, none⟩), .bool g, .int .i64 f] w fun e w' => e = .returned (.tuple #[]) ∧ RSt w' R a n c A B bs (wantS g f s) ∧ Fr (fun x => x = R) w w' := by
  obtain ⟨c0, c1, c2, hf⟩ := h.cells
  have hf2 := hf 2
  have HS : Hid (RSt (w.setCell ⟨R, 2, none⟩ (.int .i64 f)) R a n c A B bs ⟨s.at_, f⟩) := h.set f
  have HH : Hid (RSt w R a n c A B bs s) := h
  have HF : Hid (Fr (fun x => x = R) w (w.setCell ⟨R, 2, none⟩ (.int .i64 f))) := fr_setCell _ _ _ _
  clear h hf
  obtain ⟨at0, ft⟩ := s
  simp only at c1 c2
  by_cases h0 : ft = 0
  · subst h0
    cases g
    · go_enter Try.func35, Try.ntmps35
      go_wp2
      refine bodyPost_end (v := .tuple #[]) (by simp [results, Try.results35, go_sem]) rfl ?_
      exact ⟨rfl, by simpa [wantS] using HS.out, HF.out⟩
    · go_enter Try.func35, Try.ntmps35
      go_wp2
      refine bodyPost_end (v := .tuple #[]) (by simp [results, Try.results35, go_sem]) rfl ?_
      exact ⟨rfl, by simpa [wantS] using HH.out, Fr.refl _ _⟩
  · have hd : (ft == 0) = false := by simpa using h0
    cases g
    · go_enter Try.func35, Try.ntmps35
      go_wp2
      refine bodyPost_end (v := .tuple #[]) (by simp [results, Try.results35, go_sem]) rfl ?_
      exact ⟨rfl, by simpa [wantS, h0] using HH.out, Fr.refl _ _⟩
    · go_enter Try.func35, Try.ntmps35
      go_wp2
      refine bodyPost_end (v := .tuple #[]) (by simp [results, Try.results35, go_sem]) rfl ?_
      exact ⟨rfl, by simpa [wantS, h0] using HH.out, Fr.refl _ _⟩
theorem rmake_run (n : Nat) (hn : n ≤ 255) (w : World) : (Instr.makeSlice 22 (.int .i64 n) (.int .i64 n)).run Try.prog w = .ok (.slice (some ⟨w.heap.size, 0, none⟩) n n) (w.alloc (.cells (madeCells #[.int .u8 0] n) 5)) := by
  obtain ⟨i0, hi0, hz0, hz1, hz2⟩ := info_parts info_u8
  have := run_makeSlice (P := Try.prog) w 22 5 i0 (.int .u8 0) Try.underlying22 hi0 hz0 .i64 .i64 n n (by omega) (by omega) (by rw [hz1]; simp; omega) (by rw [hz2]; omega) (by omega)
  simpa [hz1, Value.cells] using this
theorem rmade_bytes (n : Nat) (hn : n ≤ 255) (w : World) : BytesAt (w.alloc (.cells (madeCells #[.int .u8 0] n) 5)) w.heap.size (w.heap.size + 1) (some ⟨w.heap.size, 0, none⟩) n n (List.replicate n 0) := by
  refine ⟨by simp, Nat.le_refl _, by unfold maxLen; omega, fun x hx => by have := List.eq_of_mem_replicate hx; omega, fun _ => ⟨_, 0, rfl, ⟨Nat.le_refl _, by omega⟩, fun i hi => ?_⟩, fun h => by cases h⟩
  simp only [World.cell?, heap_alloc_new, Nat.zero_add, madeCells]
  simp [List.getD, hi, Value.cells, Nat.mod_one]
set_option maxHeartbeats 800000 in
theorem rTake_any (R : Nat) (a : Option Addr) (n c A B : Nat) (bs : List Int) (s : Rs) (cnt : Nat) (hc1 : 0 < cnt) (hc2 : cnt ≤ 132) (w : World) (h : RSt w R a n c A B bs s) :
    Calls Try.prog 39 #[.pointer (some ⟨R, 0, none⟩), .int .i64 cnt] w fun e w' => ∃ b o c', e = .returned (.slice (some ⟨b, o, none⟩) cnt c') ∧ BOff w' R (some ⟨b, o, none⟩) cnt c' (takeV bs cnt s) ∧ RSt w' R a n c A B bs (takeS n cnt s) ∧ Fr (fun x => x = R) w w' := by
  have hl := h.by_.1
  have hsm := h.small
  have hat := h.at_
  have hcap := h.by_.2.1
  have hcm := h.by_.2.2.1
  unfold maxLen at hcm
  obtain ⟨at0, ft⟩ := s
  simp only at hat
  obtain ⟨c0, c1, c2, hf⟩ := h.cells
  simp only at c1 c2
  have HH : Hid (RSt w R a n c A B bs ⟨at0, ft⟩) := h
  obtain ⟨g, hg⟩ : ∃ g, g = decide (at0 + cnt ≤ n) := ⟨_, rfl⟩
  have hgd : decide ((n : Int) - (at0 : Int) < (cnt : Int)) = !g := by
    rw [hg]; by_cases hh : at0 + cnt ≤ n <;> simp [hh] <;> omega
  have hge : decide ((cnt : Int) ≤ (n : Int) - (at0 : Int)) = g := by
    rw [hg]; by_cases hh : at0 + cnt ≤ n <;> simp [hh] <;> omega
  have HG : Hid (g = decide (at0 + cnt ≤ n)) := hg
  clear h hg
  go_enter Try.func39, Try.ntmps39
  go_wp2_with fail
  refine wp_region_noPanic ?_
  refine wp_region_held_drew (S := (fun w' : World => w'.cell? ⟨R, 0, none⟩ = some (.slice a n c) ∧ w'.cell? ⟨R, 1, none⟩ = some (.int .i64 at0))) (by kernel_rfl) (⟨c0, c1⟩) (fun hHeld => ?_)
  refine wpAnyH_take (i := 0) (oi := { dst := some 6, op := Op.move (Operand.tmp 0), type := 44, pos := "l7_restore.go:148", after := #[], guard := none }) (v := .pointer (some ⟨R, 0, none⟩)) rfl (by kernel_rfl) (by kernel_rfl) (by kernel_rfl) (fun _ _ _ h => h) (Or.inl ⟨by rfl, ?_⟩) (by assumption) ?_
  · intro wq hSw; (try dsimp only at hSw); go_simp
  try simp only [Act.put, List.setIfInBounds_toArray, List.set_cons_zero, List.set_cons_succ]
  refine wpAnyH_take (i := 1) (oi := { dst := some 7, op := Op.move (Operand.tmp 0), type := 44, pos := "l7_restore.go:148", after := #[], guard := none }) (v := .pointer (some ⟨R, 0, none⟩)) rfl (by kernel_rfl) (by kernel_rfl) (by kernel_rfl) (fun _ _ _ h => h) (Or.inl ⟨by rfl, ?_⟩) (by assumption) ?_
  · intro wq hSw; (try dsimp only at hSw); go_simp
  try simp only [Act.put, List.setIfInBounds_toArray, List.set_cons_zero, List.set_cons_succ]
  refine wpAnyH_take (i := 2) (oi := { dst := some 8, op := Op.nilCheck (Operand.tmp 7), type := 0, pos := "l7_restore.go:148", after := #[{ on := 1, ground := Ground.data }], guard := none }) (v := .pointer (some ⟨R, 0, none⟩)) rfl (by kernel_rfl) (by kernel_rfl) (by kernel_rfl) (fun _ _ _ h => h) (Or.inl ⟨by rfl, ?_⟩) (by assumption) ?_
  · intro wq hSw; (try dsimp only at hSw); go_simp
  try simp only [Act.put, List.setIfInBounds_toArray, List.set_cons_zero, List.set_cons_succ]
  refine wpAnyH_take (i := 3) (oi := { dst := some 9, op := Op.fieldAddr 46 (Operand.tmp 8) 0, type := 0, pos := "l7_restore.go:148", after := #[{ on := 2, ground := Ground.data }], guard := none }) (v := .pointer (some ⟨R, 0, none⟩)) rfl (by kernel_rfl) (by kernel_rfl) (by kernel_rfl) (fun _ _ _ h => h) (Or.inl ⟨by rfl, ?_⟩) (by assumption) ?_
  · intro wq hSw; (try dsimp only at hSw); go_simp
  try simp only [Act.put, List.setIfInBounds_toArray, List.set_cons_zero, List.set_cons_succ]
  refine wpAnyH_take (i := 4) (oi := { dst := some 10, op := Op.load 22 (Operand.tmp 9), type := 22, pos := "l7_restore.go:148", after := #[{ on := 3, ground := Ground.data }], guard := none }) (v := .slice a n c) rfl (by kernel_rfl) (by kernel_rfl) (by kernel_rfl) (fun _ _ _ h => h) (Or.inl ⟨by rfl, ?_⟩) (by assumption) ?_
  · intro wq hSw; (try dsimp only at hSw); obtain ⟨d0, d1⟩ := hSw; go_simp
  try simp only [Act.put, List.setIfInBounds_toArray, List.set_cons_zero, List.set_cons_succ]
  refine wpAnyH_take (i := 5) (oi := { dst := some 11, op := Op.call { callee := Callee.builtin Builtin.len, args := #[Operand.tmp 10], argTypes := #[22] }, type := 3, pos := "l7_restore.go:148", after := #[{ on := 4, ground := Ground.data }], guard := none }) (v := .int .i64 n) rfl (by kernel_rfl) (by kernel_rfl) (by kernel_rfl) (fun _ _ _ h => h) (Or.inl ⟨by rfl, ?_⟩) (by assumption) ?_
  · intro wq hSw; (try dsimp only at hSw); go_simp
  try simp only [Act.put, List.setIfInBounds_toArray, List.set_cons_zero, List.set_cons_succ]
  refine wpAnyH_take (i := 6) (oi := { dst := some 12, op := Op.move (Operand.tmp 0), type := 44, pos := "l7_restore.go:148", after := #[], guard := none }) (v := .pointer (some ⟨R, 0, none⟩)) rfl (by kernel_rfl) (by kernel_rfl) (by kernel_rfl) (fun _ _ _ h => h) (Or.inl ⟨by rfl, ?_⟩) (by assumption) ?_
  · intro wq hSw; (try dsimp only at hSw); go_simp
  try simp only [Act.put, List.setIfInBounds_toArray, List.set_cons_zero, List.set_cons_succ]
  refine wpAnyH_take (i := 7) (oi := { dst := some 13, op := Op.nilCheck (Operand.tmp 12), type := 0, pos := "l7_restore.go:148", after := #[{ on := 6, ground := Ground.data }], guard := none }) (v := .pointer (some ⟨R, 0, none⟩)) rfl (by kernel_rfl) (by kernel_rfl) (by kernel_rfl) (fun _ _ _ h => h) (Or.inl ⟨by rfl, ?_⟩) (by assumption) ?_
  · intro wq hSw; (try dsimp only at hSw); go_simp
  try simp only [Act.put, List.setIfInBounds_toArray, List.set_cons_zero, List.set_cons_succ]
  refine wpAnyH_take (i := 8) (oi := { dst := some 14, op := Op.fieldAddr 46 (Operand.tmp 13) 1, type := 0, pos := "l7_restore.go:148", after := #[{ on := 7, ground := Ground.data }], guard := none }) (v := .pointer (some ⟨R, 1, none⟩)) rfl (by kernel_rfl) (by kernel_rfl) (by kernel_rfl) (fun _ _ _ h => h) (Or.inl ⟨by rfl, ?_⟩) (by assumption) ?_
  · intro wq hSw; (try dsimp only at hSw); go_simp
  try simp only [Act.put, List.setIfInBounds_toArray, List.set_cons_zero, List.set_cons_succ]
  refine wpAnyH_take (i := 9) (oi := { dst := some 15, op := Op.load 3 (Operand.tmp 14), type := 3, pos := "l7_restore.go:148", after := #[{ on := 8, ground := Ground.data }], guard := none }) (v := .int .i64 at0) rfl (by kernel_rfl) (by kernel_rfl) (by kernel_rfl) (fun _ _ _ h => h) (Or.inl ⟨by rfl, ?_⟩) (by assumption) ?_
  · intro wq hSw; (try dsimp only at hSw); obtain ⟨d0, d1⟩ := hSw; go_simp
  try simp only [Act.put, List.setIfInBounds_toArray, List.set_cons_zero, List.set_cons_succ]
  refine wpAnyH_take (i := 10) (oi := { dst := some 16, op := Op.binOp BinOp.sub 3 (Operand.tmp 11) (Operand.tmp 15) 3, type := 3, pos := "l7_restore.go:148", after := #[{ on := 5, ground := Ground.data }, { on := 9, ground := Ground.data }], guard := none }) (v := .int .i64 ((n : Int) - (at0 : Int))) rfl (by kernel_rfl) (by kernel_rfl) (by kernel_rfl) (fun _ _ _ h => h) (Or.inl ⟨by rfl, ?_⟩) (by assumption) ?_
  · intro wq hSw; (try dsimp only at hSw); go_simp; rw [IntKind.wrap_i64]; omega
  try simp only [Act.put, List.setIfInBounds_toArray, List.set_cons_zero, List.set_cons_succ]
  refine wpAnyH_take (i := 11) (oi := { dst := some 17, op := Op.move (Operand.tmp 1), type := 3, pos := "l7_restore.go:148", after := #[], guard := none }) (v := .int .i64 cnt) rfl (by kernel_rfl) (by kernel_rfl) (by kernel_rfl) (fun _ _ _ h => h) (Or.inl ⟨by rfl, ?_⟩) (by assumption) ?_
  · intro wq hSw; (try dsimp only at hSw); go_simp
  try simp only [Act.put, List.setIfInBounds_toArray, List.set_cons_zero, List.set_cons_succ]
  refine wpAnyH_take (i := 12) (oi := { dst := some 18, op := Op.binOp BinOp.geq 3 (Operand.tmp 16) (Operand.tmp 17) 3, type := 4, pos := "l7_restore.go:148", after := #[{ on := 10, ground := Ground.data }, { on := 11, ground := Ground.data }], guard := none }) (v := .bool g) rfl (by kernel_rfl) (by kernel_rfl) (by kernel_rfl) (fun _ _ _ h => h) (Or.inl ⟨by rfl, ?_⟩) (by assumption) ?_
  · intro wq hSw; (try dsimp only at hSw); go_simp
  try simp only [Act.put, List.setIfInBounds_toArray, List.set_cons_zero, List.set_cons_succ]
  refine wpAnyH_ready (rs := [13]) (by kernel_rfl) (by simp) ?_
  refine AllReadyH.cons (o := { dst := some 19, op := Op.call { callee := Callee.value (Operand.func 35), args := #[Operand.tmp 6, Operand.tmp 18, Operand.const (Value.int IntKind.i64 3)], argTypes := #[44, 4, 2] }, type := 0, pos := "l7_restore.go:148", after := #[{ on := 0, ground := Ground.data }, { on := 12, ground := Ground.data }], guard := none }) rfl (fun K hK => ?_) AllReadyH.nil
  go_simp
  refine (rWant_any R a n c A B bs ⟨at0, ft⟩ g 3 w.drew HH.out.drew).mono ?_
  rintro e w1 ⟨rfl, H1, hF1⟩
  go_wp2_with fail
  refine hK.out _ _ (⟨H1.cells.1, H1.cells.2.1⟩) (fun hHeld => ?_)
  clear hK K
  try simp only [Act.put, List.setIfInBounds_toArray, List.set_cons_zero, List.set_cons_succ]
  refine wpAnyH_done (by kernel_rfl) ?_ _
  refine NoPanic.normal ?_
  have hF1' : Fr (fun x => x = R) w w1 := (Fr.of_below (Below.refl _ _).drew).trans hF1
  clear hF1 hHeld c0 c1 c2 hf hgd hge
  obtain ⟨c0, c1, c2, hf⟩ := H1.cells
  have hf1 := hf 1
  by_cases hz : ft = 0 ∧ at0 + cnt ≤ n
  · obtain ⟨rfl, hle⟩ := hz
    have hgt : g = true := by rw [HG.out]; simpa using hle
    subst hgt
    have hws : wantS true 3 ⟨at0, 0⟩ = ⟨at0, 0⟩ := by simp [wantS]
    rw [hws] at H1 c1 c2
    simp only at c1 c2
    have H2 := H1.go (at0 + cnt) hle
    have hF2 : Fr (fun x => x = R) w (w1.setCell ⟨R, 1, none⟩ (.int .i64 ((at0 + cnt : Nat) : Int))) := hF1'.trans (fr_setCell _ _ _ _)
    have ecast : (((at0 + cnt : Nat) : Int)) = (at0 : Int) + (cnt : Int) := by omega
    rw [ecast] at H2 hF2
    obtain ⟨b, off, rfl, hbo⟩ : ∃ b off, a = some ⟨b, off, none⟩ ∧ True := by
      obtain ⟨b, off, e, _⟩ := H1.by_.2.2.2.2.1 (by omega)
      exact ⟨b, off, e, trivial⟩
    have HS : Hid (∀ q, RSt ((w1.setCell ⟨R, 1, none⟩ (.int .i64 ((at0 : Int) + (cnt : Int)))).drewN q) R (some ⟨b, off, none⟩) n c A B bs (takeS n cnt ⟨at0, 0⟩)) := fun q => by
      have e : takeS n cnt ⟨at0, 0⟩ = ⟨at0 + cnt, 0⟩ := by simp [takeS, hle]
      rw [e]
      exact H2.below ⟨rfl, rfl, rfl, Nat.le_refl _, fun _ _ => rfl⟩
    have HBO : Hid (∀ q, BOff ((w1.setCell ⟨R, 1, none⟩ (.int .i64 ((at0 : Int) + (cnt : Int)))).drewN q) R (some ⟨b, off + at0, none⟩) cnt (c - at0) (takeV bs cnt ⟨at0, 0⟩)) := fun q => by
      have e : takeV bs cnt ⟨at0, 0⟩ = (bs.drop at0).take cnt := if_pos ⟨rfl, by rw [hl]; exact hle⟩
      rw [e]
      exact ⟨A, B, by have := (HS.out q).lt; have := (HS.out q).hB; omega, .inl (HS.out q).hB, bytesAt_sub (HS.out q).by_ at0 cnt hle (by omega)⟩
    have HFF : Hid (∀ q, Fr (fun x => x = R) w ((w1.setCell ⟨R, 1, none⟩ (.int .i64 ((at0 : Int) + (cnt : Int)))).drewN q)) := fun q => hF2.trans (Fr.of_below ⟨rfl, rfl, rfl, Nat.le_refl _, fun _ _ => rfl⟩)
    obtain ⟨d0, d1, _, _⟩ := H2.cells
    simp only [ecast] at d1
    clear hws ecast H1 H2 hF1' hF2 HG HH hf hbo
    go_wp2_with fail
    generalize w1.setCell ⟨R, 1, none⟩ (.int .i64 ((at0 : Int) + (cnt : Int))) = w2 at HS HBO HFF d0 d1 ⊢
    clear c0 c1 c2 hf1
    have hck : ¬ c = at0 := by omega
    go_quiet (fail)
    go_wp2
    go_ret
    exact ⟨b, off + at0, c - at0, by rw [Nat.add_sub_cancel_left]; rfl, HBO.out _, HS.out _, HFF.out _⟩
  · have hz1 : (wantS g 3 ⟨at0, ft⟩).ft ≠ 0 := by
      rw [HG.out]
      by_cases h0 : ft = 0
      · have : ¬ at0 + cnt ≤ n := fun h => hz ⟨h0, h⟩
        simp [wantS, h0, this]
      · simp [wantS, h0]
    have hws : wantS g 3 ⟨at0, ft⟩ = takeS n cnt ⟨at0, ft⟩ := by
      rw [HG.out]
      by_cases h0 : ft = 0
      · have : ¬ at0 + cnt ≤ n := fun h => hz ⟨h0, h⟩
        simp [wantS, takeS, h0, this]
      · simp [wantS, takeS, h0]
    have hv : takeV bs cnt ⟨at0, ft⟩ = List.replicate cnt 0 := if_neg (by rw [hl]; exact hz)
    have hne : ((wantS g 3 ⟨at0, ft⟩).ft != 0) = true := by simpa using hz1
    obtain ⟨f1, hf1'⟩ : ∃ f1, f1 = (wantS g 3 ⟨at0, ft⟩).ft := ⟨_, rfl⟩
    rw [← hf1'] at c2 hne
    rw [hws] at H1
    have hmk := rmake_run cnt (by omega) w1
    have HB1 : Hid (BOff (w1.alloc (.cells (madeCells #[.int .u8 0] cnt) 5)) R (some ⟨w1.heap.size, 0, none⟩) cnt cnt (takeV bs cnt ⟨at0, ft⟩)) := by
      rw [hv]
      exact ⟨_, _, by simp, .inr H1.lt, rmade_bytes cnt (by omega) w1⟩
    have HS : Hid (RSt (w1.alloc (.cells (madeCells #[.int .u8 0] cnt) 5)) R a n c A B bs (takeS n cnt ⟨at0, ft⟩)) := H1.below ((Below.refl _ _).alloc (Nat.le_refl _) _)
    have HFF : Hid (Fr (fun x => x = R) w (w1.alloc (.cells (madeCells #[.int .u8 0] cnt) 5))) := hF1'.trans (Fr.of_below ((Below.refl _ _).alloc (Nat.le_refl _) _))
    clear hws hz1 hv hf1' H1 hF1' HG HH hf hz
    go_wp2_with fail
    go_ret
    exact ⟨w1.heap.size, 0, cnt, rfl, HB1.out, HS.out, HFF.out⟩
end Go.Proofs.Ytdieplpegkiolaa
