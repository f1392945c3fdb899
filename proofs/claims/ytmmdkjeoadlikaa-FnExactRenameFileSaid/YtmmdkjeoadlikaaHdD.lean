import Derived.Test.YtmmdkjeoadlikaaMkD
namespace Go.Proofs.Ytmmdkjeoadlikaa
open Go.RowKit
set_option linter.unusedVariables false
set_option maxRecDepth 100000

set_option maxHeartbeats 400000 in
theorem heldDisk_any (a : Option Addr) (n c : Nat) (b : Option Addr) (m d : Nat) (cp fu de : Value) (k A B : Nat) (fs : List PF) (ps : List PP) (w : World) (hF : FilesAt w A B a n c (markF k fs)) (hP : PendsAt w A B b m d (markP (kF k fs) ps)) (hB : B ≤ w.heap.size) (hk : kP (kF k fs) ps ≤ 1099511627776) :
    Calls Try.prog 53 #[.agg #[.slice a n c, .slice b m d, cp, fu, de], .int .i64 k] w fun e w' => e = .returned (.int .i64 ((kP (kF k fs) ps : Nat) : Int)) ∧ Below w.heap.size w w' := by
  have hk1 : kF k fs ≤ 1099511627776 := by have := kP_le (kF k fs) ps; omega
  have hb0 : Below w.heap.size w (w.alloc (.cells #[.slice a n c, .slice b m d, cp, fu, de] 32)) := (Below.refl _ _).alloc (Nat.le_refl _) _
  have HF : Hid (FilesAt (w.alloc (.cells #[.slice a n c, .slice b m d, cp, fu, de] 32)) A B a n c (markF k fs)) := hF.below (hb0.mono hB)
  have HP : Hid (PendsAt w A B b m d (markP (kF k fs) ps)) := hP
  have hd1 : decide (((kF k fs : Nat) : Int) < 0) = false := by simp <;> omega
  have hd2 : decide (((kP (kF k fs) ps : Nat) : Int) < 0) = false := by simp <;> omega
  clear hF hP
  go_enter Try.func53, Try.ntmps53
  go_wp2_with fail
  refine (heldFileS_any a n c k A B fs _ HF.out (by simp; omega) hk1).mono ?_
  rintro e w1 ⟨rfl, hb1⟩
  have c1 : w1.cell? ⟨w.heap.size, 1, none⟩ = some (.slice b m d) := by
    rw [hb1.cell (p := ⟨w.heap.size, 1, none⟩) (by simp)]
    simp
  have hbw : Below w.heap.size w w1 := hb0.trans (hb1.mono (by simp))
  have hs1 := hbw.size
  clear hb1 hb0
  go_wp2_with fail
  refine (heldPendS_any b m d (kF k fs) A B ps w1 (HP.out.below (hbw.mono hB)) (by omega) hk).mono ?_
  rintro e w2 ⟨rfl, hb2⟩
  have R : Below w.heap.size w w2 := hbw.trans (hb2.mono hs1)
  clear hb2 hbw
  go_wp2_with fail
  go_ret
  exact ⟨rfl, R⟩
end Go.Proofs.Ytmmdkjeoadlikaa
