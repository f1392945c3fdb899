import Derived.Test.YtmmdkjeoadlikaaMem
import Derived.Test.YtmmdkjeoadlikaaByt
import Derived.Test.YtmmdkjeoadlikaaChecked
import Derived.Deep.QuietTactic
import Derived.BigQuiet
import Derived.Deep.RegionWith
namespace Go.Proofs.Ytmmdkjeoadlikaa
open Go.RowKit
set_option linter.unusedVariables false
set_option maxRecDepth 100000

set_option maxHeartbeats 400000 in
theorem eqFile_same (s : ByteArray) (a : Option Addr) (n c : Nat) (a2 : Option Addr) (c2 : Nat) (bs : List Int) (w : World) (A B A2 B2 : Nat) (hB : B ≤ w.heap.size) (hB2 : B2 ≤ w.heap.size) (h : BytesAt w A B a n c bs) (k : BytesAt w A2 B2 a2 n c2 bs) :
    Calls Try.prog 72 #[.agg #[.string s, .slice a n c], .agg #[.string s, .slice a2 n c2]] w fun e w' => e = .returned (.bool true) ∧ Below w.heap.size w w' := by
  have hb : ∀ m, Below w.heap.size w (((w.alloc (.cells #[.string s, .slice a n c] 83)).alloc (.cells #[.string s, .slice a2 n c2] 83)).drewN m) := by
    intro m
    exact ((Below.refl _ _).alloc (Nat.le_refl _) _ |>.alloc (by simp) _).trans ⟨rfl, rfl, rfl, Nat.le_refl _, fun _ _ => rfl⟩
  go_enter Try.func72, Try.ntmps72
  go_wp2_with fail
  refine (eqByteS_same _ _ _ _ _ bs _ A B A2 B2 (h.below ((hb 0).mono hB)) (k.below ((hb 0).mono hB2))).mono ?_
  rintro e w1 ⟨rfl, m, rfl⟩
  go_wp2_with fail
  go_ret
  exact ⟨rfl, hb _⟩
set_option maxHeartbeats 400000 in
theorem eqFileS_same (a : Option Addr) (n c : Nat) (a2 : Option Addr) (c2 : Nat) (fs : List PF) (w : World) (A B A2 B2 : Nat) (hB : B ≤ w.heap.size) (hB2 : B2 ≤ w.heap.size) (h : FilesAt w A B a n c fs) (k : FilesAt w A2 B2 a2 n c2 fs) :
    Calls Try.prog 35 #[.slice a n c, .slice a2 n c2] w fun e w' => e = .returned (.bool true) ∧ Below w.heap.size w w' := by
  obtain ⟨hl, hnc, hc, hcell⟩ := h
  obtain ⟨_, _, _, kcell⟩ := k
  unfold maxLen at hc
  have hne : ((n : Int) != (n : Int)) = false := by simp
  go_enter Try.func35, Try.ntmps35
  go_wp2
  go_loopw [5] (fun i wr => ∃ k : Nat, k ≤ n ∧ i = .int .i64 k ∧ Below w.heap.size w wr) (fun i _ => n - (intOf i).toNat)
  case atStart => exact ⟨0, Nat.zero_le _, rfl, Below.refl _ _⟩
  case round =>
    obtain ⟨k, hk, rfl, hbel⟩ := hrel
    by_cases hlt : k < n
    · obtain ⟨b, off, rfl, hb, hcb⟩ := hcell (by omega)
      obtain ⟨b2, off2, rfl, hb2, hcb2⟩ := kcell (by omega)
      have e1 := (hcb k hlt).below hb (hbel.mono hB)
      have e2 := (hcb2 k hlt).below hb2 (hbel.mono hB2)
      clear hcell kcell hcb hcb2
      generalize fs.getD k (ByteArray.empty, []) = f at e1 e2
      obtain ⟨p1, p2, pa, pn, pc, p3, p4⟩ := e1
      obtain ⟨q1, q2, qa, qn, qc, q3, q4⟩ := e2
      obtain rfl : qn = pn := q4.1.symm.trans p4.1
      have hs := hbel.size
      go_wp2
      go_region_with (go_at_call 72; refine (eqFile_same _ _ _ _ _ _ f.2 _ A B A2 B2 ?_ ?_ ?_ ?_).mono ?_; exact Nat.le_trans hB hs; exact Nat.le_trans hB2 hs; exact p4; exact q4; rintro e w1 ⟨rfl, hb1⟩)
      all_goals
        go_wp2
        go_roundw
        case rel => exact ⟨k + 1, by omega, by go_num, (hbel.drew).trans (hb1.mono hs)⟩
        case measure => simp [intOf]; omega
    · go_wp2
      go_ret
      exact ⟨rfl, hbel⟩
set_option maxHeartbeats 400000 in
theorem eqPend_same (s : ByteArray) (pg : Int) (a : Option Addr) (n c : Nat) (a2 : Option Addr) (c2 : Nat) (bs : List Int) (w : World) (A B A2 B2 : Nat) (hB : B ≤ w.heap.size) (hB2 : B2 ≤ w.heap.size) (h : BytesAt w A B a n c bs) (k : BytesAt w A2 B2 a2 n c2 bs) :
    Calls Try.prog 73 #[.agg #[.string s, .int .i64 pg, .slice a n c], .agg #[.string s, .int .i64 pg, .slice a2 n c2]] w fun e w' => e = .returned (.bool true) ∧ Below w.heap.size w w' := by
  have hb : ∀ m, Below w.heap.size w (((w.alloc (.cells #[.string s, .int .i64 pg, .slice a n c] 77)).alloc (.cells #[.string s, .int .i64 pg, .slice a2 n c2] 77)).drewN m) := by
    intro m
    exact ((Below.refl _ _).alloc (Nat.le_refl _) _ |>.alloc (by simp) _).trans ⟨rfl, rfl, rfl, Nat.le_refl _, fun _ _ => rfl⟩
  go_enter Try.func73, Try.ntmps73
  go_wp2_with fail
  refine (eqByteS_same _ _ _ _ _ bs _ A B A2 B2 (h.below ((hb 0).mono hB)) (k.below ((hb 0).mono hB2))).mono ?_
  rintro e w1 ⟨rfl, m, rfl⟩
  go_wp2_with fail
  go_ret
  exact ⟨rfl, hb _⟩
set_option maxHeartbeats 400000 in
theorem eqPendS_same (a : Option Addr) (n c : Nat) (a2 : Option Addr) (c2 : Nat) (fs : List PP) (w : World) (A B A2 B2 : Nat) (hB : B ≤ w.heap.size) (hB2 : B2 ≤ w.heap.size) (h : PendsAt w A B a n c fs) (k : PendsAt w A2 B2 a2 n c2 fs) :
    Calls Try.prog 36 #[.slice a n c, .slice a2 n c2] w fun e w' => e = .returned (.bool true) ∧ Below w.heap.size w w' := by
  obtain ⟨hl, hnc, hc, hcell⟩ := h
  obtain ⟨_, _, _, kcell⟩ := k
  unfold maxLen at hc
  have hne : ((n : Int) != (n : Int)) = false := by simp
  go_enter Try.func36, Try.ntmps36
  go_wp2
  go_loopw [5] (fun i wr => ∃ k : Nat, k ≤ n ∧ i = .int .i64 k ∧ Below w.heap.size w wr) (fun i _ => n - (intOf i).toNat)
  case atStart => exact ⟨0, Nat.zero_le _, rfl, Below.refl _ _⟩
  case round =>
    obtain ⟨k, hk, rfl, hbel⟩ := hrel
    by_cases hlt : k < n
    · obtain ⟨b, off, rfl, hb, hcb⟩ := hcell (by omega)
      obtain ⟨b2, off2, rfl, hb2, hcb2⟩ := kcell (by omega)
      have e1 := (hcb k hlt).below hb (hbel.mono hB)
      have e2 := (hcb2 k hlt).below hb2 (hbel.mono hB2)
      clear hcell kcell hcb hcb2
      generalize fs.getD k (ByteArray.empty, 0, []) = f at e1 e2
      obtain ⟨p1, p2, p5, p6, pa, pn, pc, p3, p4⟩ := e1
      obtain ⟨q1, q2, q5, q6, qa, qn, qc, q3, q4⟩ := e2
      obtain rfl : qn = pn := q4.1.symm.trans p4.1
      have hs := hbel.size
      go_wp2
      go_region_with (go_at_call 73; refine (eqPend_same _ _ _ _ _ _ _ f.2.2 _ A B A2 B2 ?_ ?_ ?_ ?_).mono ?_; exact Nat.le_trans hB hs; exact Nat.le_trans hB2 hs; exact p4; exact q4; rintro e w1 ⟨rfl, hb1⟩)
      all_goals
        go_wp2
        go_roundw
        case rel => exact ⟨k + 1, by omega, by go_num, (hbel.drew).trans (hb1.mono hs)⟩
        case measure => simp [intOf]; omega
    · go_wp2
      go_ret
      exact ⟨rfl, hbel⟩
set_option maxHeartbeats 400000 in
theorem eqDisk_same (a : Option Addr) (n c : Nat) (fs : List PF) (b : Option Addr) (m d : Nat) (ps : List PP) (a2 : Option Addr) (c2 : Nat) (b2 : Option Addr) (d2 : Nat) (cp fu : Int) (de : Bool) (w : World) (A B A2 B2 : Nat) (hB : B ≤ w.heap.size) (hB2 : B2 ≤ w.heap.size)
    (hF : FilesAt w A B a n c fs) (hP : PendsAt w A B b m d ps) (kF : FilesAt w A2 B2 a2 n c2 fs) (kP : PendsAt w A2 B2 b2 m d2 ps) :
    Calls Try.prog 12 #[.agg #[.slice a n c, .slice b m d, .int .i64 cp, .int .i64 fu, .bool de], .agg #[.slice a2 n c2, .slice b2 m d2, .int .i64 cp, .int .i64 fu, .bool de]] w fun e w' => e = .returned (.bool true) ∧ Below w.heap.size w w' := by
  have hb0 : Below w.heap.size w ((w.alloc (.cells #[.slice a n c, .slice b m d, .int .i64 cp, .int .i64 fu, .bool de] 32)).alloc (.cells #[.slice a2 n c2, .slice b2 m d2, .int .i64 cp, .int .i64 fu, .bool de] 32)) := ((Below.refl _ _).alloc (Nat.le_refl _) _).alloc (by simp) _
  have e1 : (cp != cp) = false := by simp
  have e2 : (fu != fu) = false := by simp
  have e3 : (de != de) = false := by simp
  go_enter Try.func12, Try.ntmps12
  go_wp2_with fail
  refine (eqFileS_same _ _ _ _ _ fs _ A B A2 B2 (by simp; omega) (by simp; omega) (hF.below (hb0.mono hB)) (kF.below (hb0.mono hB2))).mono ?_
  rintro e w1 ⟨rfl, hb1⟩
  have hb2 := hb0.trans (hb1.mono (by simp; omega))
  have hz := hb1.size
  simp at hz
  have hz2 : w.heap.size < w1.heap.size := by omega
  have hz3 : w.heap.size + 1 < w1.heap.size := by omega
  obtain ⟨hc1, hf1⟩ := bcell hb1
  go_wp2_with fail
  refine (eqPendS_same _ _ _ _ _ ps _ A B A2 B2 (by omega) (by omega) (hP.below (hb2.mono hB)) (kP.below (hb2.mono hB2))).mono ?_
  rintro e w2 ⟨rfl, hb3⟩
  have hb4 := hb2.trans (hb3.mono (by omega))
  have hy := hb3.size
  have hy2 : w.heap.size < w2.heap.size := by omega
  have hy3 : w.heap.size + 1 < w2.heap.size := by omega
  obtain ⟨hc2, hf2⟩ := bcell hb3
  go_wp2
  go_ret
  exact ⟨rfl, hb4⟩
end Go.Proofs.Ytmmdkjeoadlikaa
