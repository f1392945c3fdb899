import Derived.Test.YtcmhobbpeaeebaaGAK
namespace Go.Proofs.Ytcmhobbpeaeebaa
open Go.RowKit
set_option linter.unusedVariables false
set_option maxRecDepth 100000

set_option maxHeartbeats 400000 in
theorem isKey_any (s : ByteArray) (hs : s.size ≤ maxLen) (w : World) :
    Calls Try.prog 132 #[.string s] w fun e w' => e = .returned (.bool (keyB s)) ∧ w' = w := by
  unfold maxLen at hs
  by_cases h1 : 1 ≤ s.size
  · go_enter Try.func132, Try.ntmps132
    go_wp2
    go_ret
    exact ⟨by simp [keyB, h1]; omega, rfl⟩
  · have hd : decide ((1 : Int) ≤ s.size) = false := by simp; omega
    go_enter Try.func132, Try.ntmps132
    go_wp2
    go_ret
    exact ⟨by simp [keyB, h1], rfl⟩
set_option maxHeartbeats 400000 in
theorem has_any (low last x : Int) (w : World) :
    Calls Try.prog 117 #[.agg #[.int .i64 low, .int .i64 last], .int .i64 x] w fun e w' => e = .returned (.bool (inB low last x)) ∧ Below w.heap.size w w' := by
  by_cases h1 : low ≤ x
  · go_enter Try.func117, Try.ntmps117
    go_wp2
    all_goals go_ret
    all_goals exact ⟨by simp [inB, h1], (Below.refl _ _).alloc (Nat.le_refl _) _⟩
  · have hd : decide (low ≤ x) = false := by simp; omega
    go_enter Try.func117, Try.ntmps117
    go_wp2
    all_goals go_ret
    all_goals exact ⟨by simp [inB]; omega, (Below.refl _ _).alloc (Nat.le_refl _) _⟩
set_option maxHeartbeats 1600000 in
theorem validEnt_any (e : PE) (he : entFit e) (low last : Int) (hlow : 1 ≤ low) (w : World) :
    Calls Try.prog 139 #[.agg #[.string e.1, .string e.2.1, .int .i64 e.2.2.1, .int .i64 e.2.2.2], .agg #[.int .i64 low, .int .i64 last]] w fun r w' => r = .returned (.bool (shortB e || longB low last e)) ∧ Below w.heap.size w w' := by
  have hs := he.2.1
  unfold maxLen at hs
  by_cases h0 : e.2.2.1 = 0
  · have s0 : (e.2.2.1 == 0) = true := by simpa using h0
    have HL : Hid (longB low last e = false) := by show _ = _; simp [longB, inB]; omega
    have HS : Hid (shortB e = (decide (e.2.1.size ≤ 8) && decide (e.2.2.2 = (e.2.1.size : Int)))) := by show _ = _; simp [shortB, h0, Bool.and_comm]
    clear h0
    go_enter Try.func139, Try.ntmps139
    go_wp2
    all_goals go_ret
    all_goals refine ⟨?_, by first | exact ((Below.refl _ _).alloc (Nat.le_refl _) _).alloc (by simp) _ | exact (Below.refl _ _).alloc (Nat.le_refl _) _⟩
    all_goals rw [HL.out, HS.out]
    all_goals simp
    all_goals first | omega | (rw [Bool.eq_iff_iff]; simp; omega)
  · have s0 : (e.2.2.1 == 0) = false := by simpa using h0
    have HS : Hid (shortB e = false) := by show _ = _; simp [shortB, h0]
    clear h0
    go_enter Try.func139, Try.ntmps139
    go_wp2_with (go_at_call 117; refine (has_any low last _ _).mono ?_; rintro e w1 ⟨rfl, hb1⟩; obtain ⟨hc1, hf1⟩ := bcell hb1)
    all_goals go_ret
    all_goals refine ⟨?_, by first | exact (((Below.refl _ _).alloc (Nat.le_refl _) _).alloc (by simp) _).trans (hb1.mono (by simp; omega)) | exact ((Below.refl _ _).alloc (Nat.le_refl _) _).alloc (by simp) _⟩
    all_goals rw [HS.out, longB]
    all_goals simp [*]
    all_goals (unfold inB; rw [Bool.eq_iff_iff]; simp; omega)
set_option maxHeartbeats 1600000 in
theorem metaValid_any (M : Nat) (id root count low last : Int) (w : World) (hM : w.heap[M]? = some (.cells #[.int .i64 id, .int .i64 root, .int .i64 count] 136)) :
    Calls Try.prog 121 #[.pointer (some ⟨M, 0, none⟩), .agg #[.int .i64 low, .int .i64 last]] w fun e w' => e = .returned (.bool (inB 1 2000000000 id && inB low last root && inB 0 2000000000 count)) ∧ Below w.heap.size w w' := by
  obtain ⟨m0, m1, m2⟩ := box_form hM
  have hlt : M < w.heap.size := (Array.getElem?_eq_some_iff.1 hM).1
  go_enter Try.func121, Try.ntmps121
  go_wp2_with (go_at_call 117; refine (has_any low last _ _).mono ?_; rintro e w1 ⟨rfl, hb1⟩; obtain ⟨hc1, hf1⟩ := bcell hb1)
  all_goals go_ret
  all_goals refine ⟨?_, by first | exact (((Below.refl _ _).alloc (Nat.le_refl _) _).alloc (by simp) _).trans (hb1.mono (by simp; omega)) | exact ((Below.refl _ _).alloc (Nat.le_refl _) _).alloc (by simp) _⟩
  all_goals simp [inB, *]
  all_goals first | omega | (simp [inB] at *; omega)
set_option maxHeartbeats 1600000 in
theorem overValid_any (M : Nat) (next : Int) (data : ByteArray) (hd : data.size ≤ maxLen) (low last : Int) (w : World) (hM : w.heap[M]? = some (.cells #[.int .i64 next, .string data] 145)) :
    Calls Try.prog 144 #[.pointer (some ⟨M, 0, none⟩), .agg #[.int .i64 low, .int .i64 last]] w fun e w' => e = .returned (.bool (decide (1 ≤ data.size) && decide (data.size ≤ 96) && (decide (next = 0) || (inB low last next && decide (data.size = 96))))) ∧ Below w.heap.size w w' := by
  have m0 : w.cell? ⟨M, 0, none⟩ = some (.int .i64 next) := by simp [World.cell?, hM]
  have m1 : w.cell? ⟨M, 1, none⟩ = some (.string data) := by simp [World.cell?, hM]
  have hlt : M < w.heap.size := (Array.getElem?_eq_some_iff.1 hM).1
  unfold maxLen at hd
  go_enter Try.func144, Try.ntmps144
  go_wp2_with (go_at_call 117; refine (has_any low last _ _).mono ?_; rintro e w1 ⟨rfl, hb1⟩; obtain ⟨hc1, hf1⟩ := bcell hb1)
  · go_ret
    refine ⟨?_, (Below.refl _ _).alloc (Nat.le_refl _) _⟩
    have hn : next = 0 := by simpa using ‹(next == 0) = true›
    show Ending.returned (Value.bool (decide ((data.size : Int) ≤ 96))) = _
    rw [show (decide (1 ≤ data.size) && decide (data.size ≤ 96) && (decide (next = 0) || (inB low last next && decide (data.size = 96)))) = decide ((data.size : Int) ≤ 96) by
      rw [Bool.eq_iff_iff]; simp [hn]; omega]
  · go_ret
    refine ⟨?_, (Below.refl _ _).alloc (Nat.le_refl _) _⟩
    have : ¬ 1 ≤ data.size := by omega
    simp [this]
  · have hn : ¬ next = 0 := by simpa using ‹(next == 0) = false›
    by_cases hin : inB low last next = true
    · go_region_held3 (fun w' => w'.cell? ⟨w.heap.size, 0, none⟩ = some (.int .i64 low) ∧ w'.cell? ⟨w.heap.size, 1, none⟩ = some (.int .i64 last) ∧ w'.cell? ⟨M, 0, none⟩ = some (.int .i64 next) ∧ w'.cell? ⟨M, 1, none⟩ = some (.string data)) (go_keep)
        (first | (go_at_call 117; have HA := has_any low last next ((w.alloc (.cells #[.int .i64 low, .int .i64 last] 89)).drew); rw [hin] at HA; refine HA.mono ?_; rintro e w1 ⟨rfl, hb1⟩; obtain ⟨hc1, hf1⟩ := bcell hb1; have hbW : Below w.heap.size w w1 := (((Below.refl _ w).alloc (Nat.le_refl _) _).drew).trans (hb1.mono (by simp)); have p0 := (hbW.cell (p := ⟨M, 0, none⟩) hlt).trans m0; have p1 := (hbW.cell (p := ⟨M, 1, none⟩) hlt).trans m1))
      all_goals
        clear hc1 hf1 hb1
        go_wp2
        go_ret
        refine ⟨?_, hbW⟩
        simp [hn, hin]
        rw [Bool.eq_iff_iff]
        simp
        omega
    · have hin' : inB low last next = false := by simpa using hin
      first
        | (go_region_with (first | (go_at_call 117; have HA := has_any low last next ((w.alloc (.cells #[.int .i64 low, .int .i64 last] 89)).drew); rw [hin'] at HA; refine HA.mono ?_; rintro e w1 ⟨rfl, hb1⟩; obtain ⟨hc1, hf1⟩ := bcell hb1; have hbW : Below w.heap.size w w1 := (((Below.refl _ w).alloc (Nat.le_refl _) _).drew).trans (hb1.mono (by simp)); have p0 := (hbW.cell (p := ⟨M, 0, none⟩) hlt).trans m0; have p1 := (hbW.cell (p := ⟨M, 1, none⟩) hlt).trans m1)))
        | fail
      all_goals
        clear hc1 hf1 hb1
        go_wp2
        go_ret
        refine ⟨?_, hbW⟩
        rw [show (decide (1 ≤ data.size) && decide (data.size ≤ 96) && (decide (next = 0) || (inB low last next && decide (data.size = 96)))) = false by simp [hn, hin']]
        rfl
end Go.Proofs.Ytcmhobbpeaeebaa
