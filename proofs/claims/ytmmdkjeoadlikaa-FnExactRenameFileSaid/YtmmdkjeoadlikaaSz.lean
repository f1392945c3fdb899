import Derived.Test.YtmmdkjeoadlikaaMem
import Derived.Test.YtmmdkjeoadlikaaChecked
namespace Go.Proofs.Ytmmdkjeoadlikaa
open Go.RowKit
set_option linter.unusedVariables false
set_option maxRecDepth 100000

set_option maxHeartbeats 400000 in
theorem szByteS_any (a : Option Addr) (n c : Nat) (left : Int) (w : World) (h0 : 0 ≤ left) (h1 : left ≤ 1048576) (hn : n ≤ maxLen) :
    Calls Try.prog 85 #[.slice a n c, .int .i64 left] w fun e w' => ∃ r : Int, e = .returned (.int .i64 r) ∧ (-1 ≤ r ∧ r ≤ left ∧ (0 ≤ r → r = left - n)) ∧ w' = w := by
  unfold maxLen at hn
  by_cases h : left - n < 0
  · go_enter Try.func85, Try.ntmps85
    go_wp2
    go_ret
    exact ⟨-1, rfl, ⟨by omega, by omega, by omega⟩, rfl⟩
  · go_enter Try.func85, Try.ntmps85
    go_wp2
    go_ret
    exact ⟨left - n, rfl, ⟨by omega, by omega, by omega⟩, rfl⟩

set_option maxHeartbeats 400000 in
theorem szFile_any (s : ByteArray) (a : Option Addr) (n c : Nat) (left : Int) (w : World) (h0 : 0 ≤ left) (h1 : left ≤ 1048576) (hn : n ≤ maxLen) (hs : s.size ≤ maxLen) :
    Calls Try.prog 63 #[.agg #[.string s, .slice a n c], .int .i64 left] w fun e w' => ∃ r : Int, e = .returned (.int .i64 r) ∧ (-1 ≤ r ∧ r ≤ left ∧ (0 ≤ r → r = left - s.size - n)) ∧ Below w.heap.size w w' := by
  unfold maxLen at hs
  by_cases h : left - s.size < 0
  · go_enter Try.func63, Try.ntmps63
    go_wp2
    go_ret
    exact ⟨-1, rfl, ⟨by omega, by omega, by omega⟩, (Below.refl _ _).alloc (Nat.le_refl _) _⟩
  · go_enter Try.func63, Try.ntmps63
    go_wp2_with fail
    refine (szByteS_any _ _ _ _ _ (by omega) (by omega) hn).mono ?_
    rintro e w1 ⟨r, rfl, hr, rfl⟩
    by_cases h2 : r < 0
    all_goals
      go_wp2
      go_ret
    · exact ⟨-1, rfl, ⟨by omega, by omega, by omega⟩, (Below.refl _ _).alloc (Nat.le_refl _) _⟩
    · exact ⟨r, rfl, ⟨by omega, by omega, by omega⟩, (Below.refl _ _).alloc (Nat.le_refl _) _⟩

set_option maxHeartbeats 400000 in
theorem szPend_any (s : ByteArray) (pg : Int) (a : Option Addr) (n c : Nat) (left : Int) (w : World) (h0 : 0 ≤ left) (h1 : left ≤ 1048576) (hn : n ≤ maxLen) (hs : s.size ≤ maxLen) :
    Calls Try.prog 64 #[.agg #[.string s, .int .i64 pg, .slice a n c], .int .i64 left] w fun e w' => ∃ r : Int, e = .returned (.int .i64 r) ∧ (-1 ≤ r ∧ r ≤ left ∧ (0 ≤ r → r = left - s.size - n)) ∧ Below w.heap.size w w' := by
  unfold maxLen at hs
  by_cases h : left - s.size < 0
  · go_enter Try.func64, Try.ntmps64
    go_wp2
    go_ret
    exact ⟨-1, rfl, ⟨by omega, by omega, by omega⟩, (Below.refl _ _).alloc (Nat.le_refl _) _⟩
  · go_enter Try.func64, Try.ntmps64
    go_wp2_with fail
    refine (szByteS_any _ _ _ _ _ (by omega) (by omega) hn).mono ?_
    rintro e w1 ⟨r, rfl, hr, rfl⟩
    by_cases h2 : r < 0
    all_goals
      go_wp2
      go_ret
    · exact ⟨-1, rfl, ⟨by omega, by omega, by omega⟩, (Below.refl _ _).alloc (Nat.le_refl _) _⟩
    · exact ⟨r, rfl, ⟨by omega, by omega, by omega⟩, (Below.refl _ _).alloc (Nat.le_refl _) _⟩

set_option maxHeartbeats 400000 in
theorem szFileS_any (a : Option Addr) (n c : Nat) (fs : List PF) (left : Int) (w : World) (h0 : 0 ≤ left) (h1 : left ≤ 1048576) (A B : Nat) (hB : B ≤ w.heap.size) (hF : FilesAt w A B a n c fs) :
    Calls Try.prog 26 #[.slice a n c, .int .i64 left] w fun e w' => ∃ r : Int, e = .returned (.int .i64 r) ∧ (-1 ≤ r ∧ r ≤ left ∧ (0 ≤ r → r = left - n - wFiles fs)) ∧ Below w.heap.size w w' := by
  obtain ⟨hl, hnc, hc, hcell⟩ := hF
  unfold maxLen at hc
  by_cases h : left - n < 0
  · go_enter Try.func26, Try.ntmps26
    go_wp2
    go_ret
    exact ⟨-1, rfl, ⟨by omega, by omega, by omega⟩, Below.refl _ _⟩
  · go_enter Try.func26, Try.ntmps26
    go_wp2
    go_loopw [1, 5] (fun l i wr => ∃ (k : Nat) (r : Int), k ≤ n ∧ i = .int .i64 k ∧ l = .int .i64 r ∧ 0 ≤ r ∧ r ≤ left - n ∧ r = left - n - wFiles (fs.take k) ∧ Below w.heap.size w wr) (fun _ i _ => n - (intOf i).toNat)
    case atStart => exact ⟨0, left - n, Nat.zero_le _, rfl, rfl, by omega, by omega, by simp [wFiles], Below.refl _ _⟩
    case round =>
      obtain ⟨k, r, hk, rfl, rfl, hr0, hr1, hr2, hbel⟩ := hrel
      have HR : Hid (r = left - n - wFiles (fs.take k)) := hr2
      clear hr2
      by_cases hlt : k < n
      · obtain ⟨b, off, rfl, hb, hfi⟩ := hcell (by omega)
        have hfk := (hfi k hlt).below hb (hbel.mono hB)
        have hsn := take_snocD fs k (ByteArray.empty, []) (by omega)
        generalize fs.getD k (ByteArray.empty, []) = f at hfk hsn
        have HS : Hid (wFiles (fs.take (k + 1)) = wFiles (fs.take k) + wFile f) := by show wFiles (fs.take (k + 1)) = _; rw [hsn, wFiles_append]; simp [wFiles]
        clear hsn hfi
        obtain ⟨g1, g2, a', n', c', g3, g4⟩ := hfk
        go_wp2_with fail
        refine (szFile_any _ _ _ _ _ _ hr0 (by omega) (Nat.le_trans g4.2.1 g4.2.2.1) g2).mono ?_
        rintro e w1 ⟨r2, rfl, hr2, hb2⟩
        have hb3 := hbel.trans (hb2.mono hbel.size)
        have hnn := wFiles_nonneg fs
        by_cases h2 : r2 < 0
        · go_wp2
          go_ret
          exact ⟨-1, rfl, ⟨by omega, by omega, by omega⟩, hb3⟩
        · have h3 : r2 = r - f.1.size - n' := hr2.2.2 (by omega)
          have H3 : Hid (r2 = left - n - wFiles (fs.take (k + 1))) := by
            have e1 := HR.out; have e2 := HS.out
            unfold wFile at e2
            have e3 := g4.1
            show r2 = _
            omega
          clear h3
          go_wp2
          go_roundw
          case rel => exact ⟨k + 1, r2, by omega, by go_num, rfl, by omega, by omega, H3.out, hb3⟩
          case measure => simp [intOf]; omega
      · go_wp2
        go_ret
        exact ⟨r, rfl, ⟨by omega, by omega, fun _ => by rw [HR.out, List.take_of_length_le (by omega)]⟩, hbel⟩

set_option maxHeartbeats 400000 in
theorem szPendS_any (a : Option Addr) (n c : Nat) (fs : List PP) (left : Int) (w : World) (h0 : 0 ≤ left) (h1 : left ≤ 1048576) (A B : Nat) (hB : B ≤ w.heap.size) (hF : PendsAt w A B a n c fs) :
    Calls Try.prog 27 #[.slice a n c, .int .i64 left] w fun e w' => ∃ r : Int, e = .returned (.int .i64 r) ∧ (-1 ≤ r ∧ r ≤ left ∧ (0 ≤ r → r = left - n - wPends fs)) ∧ Below w.heap.size w w' := by
  obtain ⟨hl, hnc, hc, hcell⟩ := hF
  unfold maxLen at hc
  by_cases h : left - n < 0
  · go_enter Try.func27, Try.ntmps27
    go_wp2
    go_ret
    exact ⟨-1, rfl, ⟨by omega, by omega, by omega⟩, Below.refl _ _⟩
  · go_enter Try.func27, Try.ntmps27
    go_wp2
    go_loopw [1, 5] (fun l i wr => ∃ (k : Nat) (r : Int), k ≤ n ∧ i = .int .i64 k ∧ l = .int .i64 r ∧ 0 ≤ r ∧ r ≤ left - n ∧ r = left - n - wPends (fs.take k) ∧ Below w.heap.size w wr) (fun _ i _ => n - (intOf i).toNat)
    case atStart => exact ⟨0, left - n, Nat.zero_le _, rfl, rfl, by omega, by omega, by simp [wPends], Below.refl _ _⟩
    case round =>
      obtain ⟨k, r, hk, rfl, rfl, hr0, hr1, hr2, hbel⟩ := hrel
      have HR : Hid (r = left - n - wPends (fs.take k)) := hr2
      clear hr2
      by_cases hlt : k < n
      · obtain ⟨b, off, rfl, hb, hfi⟩ := hcell (by omega)
        have hfk := (hfi k hlt).below hb (hbel.mono hB)
        have hsn := take_snocD fs k (ByteArray.empty, 0, []) (by omega)
        generalize fs.getD k (ByteArray.empty, 0, []) = f at hfk hsn
        have HS : Hid (wPends (fs.take (k + 1)) = wPends (fs.take k) + wPend f) := by show wPends (fs.take (k + 1)) = _; rw [hsn, wPends_append]; simp [wPends]
        clear hsn hfi
        obtain ⟨g1, g2, g5, g6, a', n', c', g3, g4⟩ := hfk
        go_wp2_with fail
        refine (szPend_any _ _ _ _ _ _ _ hr0 (by omega) (Nat.le_trans g4.2.1 g4.2.2.1) g2).mono ?_
        rintro e w1 ⟨r2, rfl, hr2, hb2⟩
        have hb3 := hbel.trans (hb2.mono hbel.size)
        have hnn := wPends_nonneg fs
        by_cases h2 : r2 < 0
        · go_wp2
          go_ret
          exact ⟨-1, rfl, ⟨by omega, by omega, by omega⟩, hb3⟩
        · have h3 : r2 = r - f.1.size - n' := hr2.2.2 (by omega)
          have H3 : Hid (r2 = left - n - wPends (fs.take (k + 1))) := by
            have e1 := HR.out; have e2 := HS.out
            unfold wPend at e2
            have e3 := g4.1
            show r2 = _
            omega
          clear h3
          go_wp2
          go_roundw
          case rel => exact ⟨k + 1, r2, by omega, by go_num, rfl, by omega, by omega, H3.out, hb3⟩
          case measure => simp [intOf]; omega
      · go_wp2
        go_ret
        exact ⟨r, rfl, ⟨by omega, by omega, fun _ => by rw [HR.out, List.take_of_length_le (by omega)]⟩, hbel⟩

set_option maxHeartbeats 400000 in
theorem szDisk_any (a : Option Addr) (n c : Nat) (fs : List PF) (a2 : Option Addr) (n2 c2 : Nat) (ps : List PP) (cp fu : Int) (de : Bool) (left : Int) (w : World) (h0 : 0 ≤ left) (h1 : left ≤ 1048576) (A B : Nat) (hB : B ≤ w.heap.size) (hF : FilesAt w A B a n c fs) (hP : PendsAt w A B a2 n2 c2 ps) :
    Calls Try.prog 7 #[.agg #[.slice a n c, .slice a2 n2 c2, .int .i64 cp, .int .i64 fu, .bool de], .int .i64 left] w fun e w' => ∃ r : Int, e = .returned (.int .i64 r) ∧ (-1 ≤ r ∧ r ≤ left ∧ (0 ≤ r → r = left - n - wFiles fs - n2 - wPends ps)) ∧ Below w.heap.size w w' := by
  go_enter Try.func7, Try.ntmps7
  go_wp2_with fail
  have hb0 : Below w.heap.size w (w.alloc (.cells #[.slice a n c, .slice a2 n2 c2, .int .i64 cp, .int .i64 fu, .bool de] 25)) := (Below.refl _ _).alloc (Nat.le_refl _) _
  refine (szFileS_any _ _ _ fs _ _ h0 h1 A B (by simp; omega) (hF.below (hb0.mono hB))).mono ?_
  rintro e w1 ⟨r, rfl, hr, hb1⟩
  have hb2 := hb0.trans (hb1.mono (by simp))
  have hz := hb1.size
  simp at hz
  obtain ⟨hc1, hf1⟩ := bcell hb1
  by_cases h2 : r < 0
  · go_wp2_with fail
    go_ret
    exact ⟨-1, rfl, ⟨by omega, by omega, by omega⟩, hb2⟩
  · have hrr := hr.2.2 (by omega)
    have hr1 := hr.2.1
    have HR : Hid (r = left - n - wFiles fs) := hrr
    clear hrr hr
    go_wp2_with fail
    refine (szPendS_any _ _ _ ps _ _ (by omega) (by omega) A B (by omega) (hP.below (hb2.mono hB))).mono ?_
    rintro e w2 ⟨q, rfl, hq, hb3⟩
    have hb4 := hb2.trans (hb3.mono hb2.size)
    by_cases h3 : q < 0
    · go_wp2_with fail
      go_ret
      exact ⟨-1, rfl, ⟨by omega, by omega, by omega⟩, hb4⟩
    · go_wp2_with fail
      go_ret
      exact ⟨q, rfl, ⟨by omega, by omega, fun _ => by have e1 := HR.out; have e2 := hq.2.2 (by omega); omega⟩, hb4⟩
end Go.Proofs.Ytmmdkjeoadlikaa
