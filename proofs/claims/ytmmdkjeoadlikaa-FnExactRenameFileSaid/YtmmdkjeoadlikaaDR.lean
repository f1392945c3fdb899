import Derived.Test.YtmmdkjeoadlikaaEq
import Derived.Test.YtmmdkjeoadlikaaHdD
namespace Go.Proofs.Ytmmdkjeoadlikaa
open Go.RowKit
set_option linter.unusedVariables false
set_option maxRecDepth 100000

theorem box_sixR {w : World} {N : Nat} {v0 v1 v2 v3 v4 v5 : Value} {t : TypeId} (h : w.heap[N]? = some (.cells #[v0, v1, v2, v3, v4, v5] t)) : w.cell? ⟨N, 0, none⟩ = some v0 ∧ w.cell? ⟨N, 1, none⟩ = some v1 ∧ w.cell? ⟨N, 2, none⟩ = some v2 ∧ w.cell? ⟨N, 3, none⟩ = some v3 ∧ w.cell? ⟨N, 4, none⟩ = some v4 ∧ w.cell? ⟨N, 5, none⟩ = some v5 := by
  refine ⟨?_, ?_, ?_, ?_, ?_, ?_⟩ <;> simp [World.cell?, h]
set_option maxHeartbeats 800000 in
theorem eqDiskRes_same (er : Int) (a : Option Addr) (n c : Nat) (fs : List PF) (b : Option Addr) (m d : Nat) (ps : List PP) (a2 : Option Addr) (c2 : Nat) (b2 : Option Addr) (d2 : Nat) (cp fu : Int) (de : Bool) (w : World) (A B A2 B2 : Nat) (hB : B ≤ w.heap.size) (hB2 : B2 ≤ w.heap.size)
    (hF : FilesAt w A B a n c fs) (hP : PendsAt w A B b m d ps) (kF : FilesAt w A2 B2 a2 n c2 fs) (kP : PendsAt w A2 B2 b2 m d2 ps) :
    Calls Try.prog 19 #[.agg #[.int .i64 er, .slice a n c, .slice b m d, .int .i64 cp, .int .i64 fu, .bool de], .agg #[.int .i64 er, .slice a2 n c2, .slice b2 m d2, .int .i64 cp, .int .i64 fu, .bool de]] w fun e w' => e = .returned (.bool true) ∧ Below w.heap.size w w' := by
  have hb0 : Below w.heap.size w ((w.alloc (.cells #[.int .i64 er, .slice a n c, .slice b m d, .int .i64 cp, .int .i64 fu, .bool de] 40)).alloc (.cells #[.int .i64 er, .slice a2 n c2, .slice b2 m d2, .int .i64 cp, .int .i64 fu, .bool de] 40)) := ((Below.refl _ _).alloc (Nat.le_refl _) _).alloc (by simp) _
  have e1 : (er != er) = false := by simp
  have HF : Hid _ := hF.below (hb0.mono hB)
  have HP : Hid _ := hP.below (hb0.mono hB)
  have HKF : Hid _ := kF.below (hb0.mono hB2)
  have HKP : Hid _ := kP.below (hb0.mono hB2)
  have hs := hb0.size
  clear hF hP kF kP
  go_enter Try.func19, Try.ntmps19
  go_wp2_with fail
  refine (eqDisk_same a n c fs b m d ps a2 c2 b2 d2 cp fu de _ A B A2 B2 (by simp; omega) (by simp; omega) HF.out HP.out HKF.out HKP.out).mono ?_
  rintro e w1 ⟨rfl, hb1⟩
  go_wp2
  go_ret
  exact ⟨rfl, hb0.trans (hb1.mono hs)⟩
set_option maxHeartbeats 800000 in
theorem markDiskRes_any (er : Int) (a : Option Addr) (n c : Nat) (b : Option Addr) (m d : Nat) (cp fu : Int) (de : Bool) (k base : Nat) (fs : List PF) (ps : List PP) (xs vs ys us : List Value) (w : World) (h : OwnD w base (.slice a n c) (.slice b m d) fs ps xs vs ys us) (hn : n = fs.length) (hm : m = ps.length) (hb : base ≤ w.heap.size) (hk : kP (kF k fs) ps ≤ 1099511627776) :
    Calls Try.prog 20 #[.agg #[.int .i64 er, .slice a n c, .slice b m d, .int .i64 cp, .int .i64 fu, .bool de], .int .i64 k] w fun e w' => e = .returned (.int .i64 ((kP (kF k fs) ps : Nat) : Int)) ∧ ∃ xs' ys', OwnD w' base (.slice a n c) (.slice b m d) (markF k fs) (markP (kF k fs) ps) xs' vs ys' us ∧ Below base w w' ∧ Fr (fun g => Blk (.slice a n c) vs g ∨ Blk (.slice b m d) us g) w w' := by
  have hb0 : Below w.heap.size w (w.alloc (.cells #[.int .i64 er, .slice a n c, .slice b m d, .int .i64 cp, .int .i64 fu, .bool de] 40)) := (Below.refl _ _).alloc (Nat.le_refl _) _
  have H0 : Hid (OwnD (w.alloc (.cells #[.int .i64 er, .slice a n c, .slice b m d, .int .i64 cp, .int .i64 fu, .bool de] 40)) base (.slice a n c) (.slice b m d) fs ps xs vs ys us) := h.below hb0
  have hs := hb0.size
  have HN : Hid (n = fs.length) := hn
  have HM : Hid (m = ps.length) := hm
  clear h hn hm
  go_enter Try.func20, Try.ntmps20
  go_wp2_with fail
  refine (markDisk_any a n c b m d (.int .i64 cp) (.int .i64 fu) (.bool de) k base fs ps xs vs ys us _ H0.out HN.out HM.out (by omega) hk).mono ?_
  rintro e w1 ⟨rfl, xs1, ys1, hO1, hb1, hF1⟩
  have R : Hid (OwnD w1 base (.slice a n c) (.slice b m d) (markF k fs) (markP (kF k fs) ps) xs1 vs ys1 us ∧ Below base w w1 ∧ Fr (fun g => Blk (.slice a n c) vs g ∨ Blk (.slice b m d) us g) w w1) := ⟨hO1, (hb0.mono hb).trans hb1, (Fr.of_below hb0).trans hF1⟩
  clear hO1 hb1 hF1 hb0 H0
  go_wp2
  go_ret
  exact ⟨rfl, xs1, ys1, R.out⟩
set_option maxHeartbeats 800000 in
theorem heldDiskRes_any (er : Int) (a : Option Addr) (n c : Nat) (b : Option Addr) (m d : Nat) (cp fu : Int) (de : Bool) (k A B : Nat) (fs : List PF) (ps : List PP) (w : World) (hF : FilesAt w A B a n c (markF k fs)) (hP : PendsAt w A B b m d (markP (kF k fs) ps)) (hB : B ≤ w.heap.size) (hk : kP (kF k fs) ps ≤ 1099511627776) :
    Calls Try.prog 21 #[.agg #[.int .i64 er, .slice a n c, .slice b m d, .int .i64 cp, .int .i64 fu, .bool de], .int .i64 k] w fun e w' => e = .returned (.int .i64 ((kP (kF k fs) ps : Nat) : Int)) ∧ Below w.heap.size w w' := by
  have hb0 : Below w.heap.size w (w.alloc (.cells #[.int .i64 er, .slice a n c, .slice b m d, .int .i64 cp, .int .i64 fu, .bool de] 40)) := (Below.refl _ _).alloc (Nat.le_refl _) _
  have HF : Hid (FilesAt (w.alloc (.cells #[.int .i64 er, .slice a n c, .slice b m d, .int .i64 cp, .int .i64 fu, .bool de] 40)) A B a n c (markF k fs)) := hF.below (hb0.mono hB)
  have HP : Hid (PendsAt (w.alloc (.cells #[.int .i64 er, .slice a n c, .slice b m d, .int .i64 cp, .int .i64 fu, .bool de] 40)) A B b m d (markP (kF k fs) ps)) := hP.below (hb0.mono hB)
  have hs := hb0.size
  clear hF hP
  go_enter Try.func21, Try.ntmps21
  go_wp2_with fail
  refine (heldDisk_any a n c b m d (.int .i64 cp) (.int .i64 fu) (.bool de) k A B fs ps _ HF.out HP.out (by omega) hk).mono ?_
  rintro e w1 ⟨rfl, hb1⟩
  have hq : ¬ ((kP (kF k fs) ps : Nat) : Int) < 0 := by omega
  go_wp2
  go_ret
  exact ⟨rfl, hb0.trans (hb1.mono hs)⟩
end Go.Proofs.Ytmmdkjeoadlikaa
