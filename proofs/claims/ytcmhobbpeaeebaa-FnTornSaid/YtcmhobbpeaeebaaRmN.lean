import Derived.Test.YtcmhobbpeaeebaaGAO
namespace Go.Proofs.Ytcmhobbpeaeebaa
namespace New
open Go.RowKit
set_option linter.unusedVariables false
set_option maxRecDepth 100000

def mId (bs : List Int) (k : Nat) : Int := rN bs (k) 4
def mRoot (bs : List Int) (k : Nat) : Int := rN bs (adv (k) 4) (smallN false)
def mCount (bs : List Int) (k : Nat) : Int := rN bs (adv (adv (k) 4) (smallN false)) 4
def mEnd (bs : List Int) (k : Nat) : Nat := adv (adv (adv (k) 4) (smallN false)) 4
set_option maxHeartbeats 800000 in
theorem metaRead_any (C g o c A B : Nat) (bs : List Int) (k M : Nat) (count : Int) (w : World) (h : RAt w C g o c A B bs k) (hMC : M ≠ C) (hBM : B ≤ M) (a0 a1 a2 : Int) (hM : w.heap[M]? = some (.cells #[.int .i64 a0, .int .i64 a1, .int .i64 a2] 136)) :
    Calls Try.prog 120 #[.pointer (some ⟨M, 0, none⟩), .pointer (some ⟨C, 0, none⟩), .int .i64 count] w fun e w' => e = .returned (.tuple #[]) ∧ Rd w w' C g o c A B bs (mEnd bs k) M (.cells #[.int .i64 (mId bs k), .int .i64 (mRoot bs k), .int .i64 (mCount bs k)] 136) := by
  have R0 := Rd.start h hM
  obtain ⟨c0, c1, c2, c3, c4⟩ := h.cur.cells
  obtain ⟨x0, x1, x2⟩ := box_form hM
  go_enter Try.func120, Try.ntmps120
  go_wp2_with fail
  refine (Get C g o c A B bs (k) 4 (by omega) w R0.at').mono ?_
  rintro e w1 ⟨rfl, hM1⟩
  have Q1 := R0.mv hMC hM1 (adv_le _ _)
  obtain ⟨y0, y1, y2⟩ := box_form (w := w1) (N := M) (by simpa using Q1.box)
  have f1 := box_frozen Q1.box
  have R1 := Q1.put hMC hBM 0 (.int .i64 (rN bs (k) 4))
  obtain ⟨d0, d1, d2, d3, d4⟩ := Q1.at'.cur.cells
  clear R0 hM1 Q1 c0 c1 c2 c3 c4 x0 x1 x2 h
  go_wp2_with fail
  clear y0 y1 y2 f1 d0 d1 d2 d3 d4
  generalize w1.setCell ⟨M, 0, none⟩ (.int .i64 (rN bs (k) 4)) = w2 at R1 ⊢
  refine (getSmall_any C g o c A B bs (adv (k) 4) w2 R1.at').mono ?_
  rintro e w3 ⟨rfl, hM2⟩
  have Q2 := R1.mv hMC hM2 (adv_le _ _)
  obtain ⟨y0, y1, y2⟩ := box_form (w := w3) (N := M) (by simpa using Q2.box)
  have f2 := box_frozen Q2.box
  have R2 := Q2.put hMC hBM 1 (.int .i64 (rN bs (adv (k) 4) (smallN false)))
  obtain ⟨d0, d1, d2, d3, d4⟩ := Q2.at'.cur.cells
  clear R1 hM2 Q2
  go_wp2_with fail
  clear y0 y1 y2 f2 d0 d1 d2 d3 d4
  generalize w3.setCell ⟨M, 1, none⟩ (.int .i64 (rN bs (adv (k) 4) (smallN false))) = w4 at R2 ⊢
  refine (Get C g o c A B bs (adv (adv (k) 4) (smallN false)) 4 (by omega) w4 R2.at').mono ?_
  rintro e w5 ⟨rfl, hM3⟩
  have Q3 := R2.mv hMC hM3 (adv_le _ _)
  obtain ⟨y0, y1, y2⟩ := box_form (w := w5) (N := M) (by simpa using Q3.box)
  have f3 := box_frozen Q3.box
  have R3 := Q3.put hMC hBM 2 (.int .i64 (rN bs (adv (adv (k) 4) (smallN false)) 4))
  obtain ⟨d0, d1, d2, d3, d4⟩ := Q3.at'.cur.cells
  clear R2 hM3 Q3
  go_wp2
  go_end0
  exact ⟨rfl, by simpa [mId, mRoot, mCount, mEnd] using R3⟩
end New
end Go.Proofs.Ytcmhobbpeaeebaa
