import Derived.Test.YtcmhobbpeaeebaaPgM
namespace Go.Proofs.Ytcmhobbpeaeebaa
open Go.RowKit
set_option linter.unusedVariables false
set_option maxRecDepth 100000

set_option maxHeartbeats 400000 in
theorem szKid_any (k : PK) (left : Int) (w : World) (h0 : 0 ≤ left) (h1 : left ≤ 1048576) (hk : kidFit k) :
    Calls Try.prog 89 #[.agg #[.string k.1, .int .i64 k.2], .int .i64 left] w fun e w' => ∃ r : Int, e = .returned (.int .i64 r) ∧ (-1 ≤ r ∧ r ≤ left) ∧ Below w.heap.size w w' := by
  have hs := hk.1
  unfold maxLen at hs
  by_cases h : left - k.1.size < 0
  · go_enter Try.func89, Try.ntmps89
    go_wp2
    go_ret
    exact ⟨-1, rfl, ⟨by omega, by omega⟩, (Below.refl _ _).alloc (Nat.le_refl _) _⟩
  · go_enter Try.func89, Try.ntmps89
    go_wp2
    go_ret
    exact ⟨left - k.1.size, rfl, ⟨by omega, by omega⟩, (Below.refl _ _).alloc (Nat.le_refl _) _⟩
set_option maxHeartbeats 400000 in
theorem szEnt_any (k : PE) (left : Int) (w : World) (h0 : 0 ≤ left) (h1 : left ≤ 1048576) (hk : entFit k) :
    Calls Try.prog 90 #[.agg #[.string k.1, .string k.2.1, .int .i64 k.2.2.1, .int .i64 k.2.2.2], .int .i64 left] w fun e w' => ∃ r : Int, e = .returned (.int .i64 r) ∧ (-1 ≤ r ∧ r ≤ left) ∧ Below w.heap.size w w' := by
  have hs := hk.1
  have hs2 := hk.2.1
  unfold maxLen at hs hs2
  by_cases h : left - k.1.size < 0
  · go_enter Try.func90, Try.ntmps90
    go_wp2
    go_ret
    exact ⟨-1, rfl, ⟨by omega, by omega⟩, (Below.refl _ _).alloc (Nat.le_refl _) _⟩
  · by_cases h2 : left - k.1.size - k.2.1.size < 0
    all_goals
      go_enter Try.func90, Try.ntmps90
      go_wp2
      go_ret
    · exact ⟨-1, rfl, ⟨by omega, by omega⟩, (Below.refl _ _).alloc (Nat.le_refl _) _⟩
    · exact ⟨left - k.1.size - k.2.1.size, rfl, ⟨by omega, by omega⟩, (Below.refl _ _).alloc (Nat.le_refl _) _⟩
set_option maxHeartbeats 400000 in
theorem szKidS_any (a : Option Addr) (n c : Nat) (ks : List PK) (left : Int) (w : World) (h0 : 0 ≤ left) (h1 : left ≤ 1048576) (A B : Nat) (hB : B ≤ w.heap.size) (hF : KidsAt w A B a n c ks) :
    Calls Try.prog 54 #[.slice a n c, .int .i64 left] w fun e w' => ∃ r : Int, e = .returned (.int .i64 r) ∧ (-1 ≤ r ∧ r ≤ left ∧ (0 ≤ r → (n : Int) ≤ left)) ∧ Below w.heap.size w w' := by
  have hc := hF.2.2.1
  have hnc := hF.2.1
  unfold maxLen at hc
  by_cases h : left - n < 0
  · go_enter Try.func54, Try.ntmps54
    go_wp2
    go_ret
    exact ⟨-1, rfl, ⟨by omega, by omega, by omega⟩, Below.refl _ _⟩
  · go_enter Try.func54, Try.ntmps54
    go_wp2
    go_loopw [1, 5] (fun l i wr => ∃ (k : Nat) (r : Int), k ≤ n ∧ i = .int .i64 k ∧ l = .int .i64 r ∧ 0 ≤ r ∧ r ≤ left ∧ Below w.heap.size w wr) (fun _ i _ => n - (intOf i).toNat)
    case atStart => exact ⟨0, left - n, Nat.zero_le _, rfl, rfl, by omega, by omega, Below.refl _ _⟩
    case round =>
      obtain ⟨k, r, hk, rfl, rfl, hr0, hr1, hbel⟩ := hrel
      by_cases hlt : k < n
      · obtain ⟨b, off, rfl, hb, hfit, e0, e1⟩ := KidsAt.at (hF.below (hbel.mono hB)) hlt
        clear hF
        generalize ks.getD k dK = kd at hfit e0 e1
        go_wp2_with fail
        refine (szKid_any kd r wr (by omega) (by omega) hfit).mono ?_
        rintro e w1 ⟨q, rfl, hq, hb1⟩
        have hb2 := hbel.trans (hb1.mono hbel.size)
        clear e0 e1
        by_cases hq2 : q < 0
        · go_wp2
          go_ret
          exact ⟨-1, rfl, ⟨by omega, by omega, by omega⟩, hb2⟩
        · go_wp2
          go_roundw
          case rel => exact ⟨k + 1, q, by omega, by go_num, rfl, by omega, by omega, hb2⟩
          case measure => simp [intOf]; omega
      · go_wp2
        go_ret
        exact ⟨r, rfl, ⟨by omega, by omega, by omega⟩, hbel⟩
set_option maxHeartbeats 400000 in
theorem szEntS_any (a : Option Addr) (n c : Nat) (ks : List PE) (left : Int) (w : World) (h0 : 0 ≤ left) (h1 : left ≤ 1048576) (A B : Nat) (hB : B ≤ w.heap.size) (hF : EntsAt w A B a n c ks) :
    Calls Try.prog 55 #[.slice a n c, .int .i64 left] w fun e w' => ∃ r : Int, e = .returned (.int .i64 r) ∧ (-1 ≤ r ∧ r ≤ left ∧ (0 ≤ r → (n : Int) ≤ left)) ∧ Below w.heap.size w w' := by
  have hc := hF.2.2.1
  have hnc := hF.2.1
  unfold maxLen at hc
  by_cases h : left - n < 0
  · go_enter Try.func55, Try.ntmps55
    go_wp2
    go_ret
    exact ⟨-1, rfl, ⟨by omega, by omega, by omega⟩, Below.refl _ _⟩
  · go_enter Try.func55, Try.ntmps55
    go_wp2
    go_loopw [1, 5] (fun l i wr => ∃ (k : Nat) (r : Int), k ≤ n ∧ i = .int .i64 k ∧ l = .int .i64 r ∧ 0 ≤ r ∧ r ≤ left ∧ Below w.heap.size w wr) (fun _ i _ => n - (intOf i).toNat)
    case atStart => exact ⟨0, left - n, Nat.zero_le _, rfl, rfl, by omega, by omega, Below.refl _ _⟩
    case round =>
      obtain ⟨k, r, hk, rfl, rfl, hr0, hr1, hbel⟩ := hrel
      by_cases hlt : k < n
      · obtain ⟨b, off, rfl, hb, hfit, e0, e1, e2, e3⟩ := EntsAt.at (hF.below (hbel.mono hB)) hlt
        clear hF
        generalize ks.getD k dE = kd at hfit e0 e1 e2 e3
        go_wp2_with fail
        refine (szEnt_any kd r wr (by omega) (by omega) hfit).mono ?_
        rintro e w1 ⟨q, rfl, hq, hb1⟩
        have hb2 := hbel.trans (hb1.mono hbel.size)
        clear e0 e1 e2 e3
        by_cases hq2 : q < 0
        · go_wp2
          go_ret
          exact ⟨-1, rfl, ⟨by omega, by omega, by omega⟩, hb2⟩
        · go_wp2
          go_roundw
          case rel => exact ⟨k + 1, q, by omega, by go_num, rfl, by omega, by omega, hb2⟩
          case measure => simp [intOf]; omega
      · go_wp2
        go_ret
        exact ⟨r, rfl, ⟨by omega, by omega, by omega⟩, hbel⟩
/-- The Value of a page. -/
def pageV (kind tx id root count : Int) (ka : Option Addr) (kn kc : Nat) (ea : Option Addr) (en ec : Nat) (next : Int) (data : ByteArray) : Value :=
  .agg #[.int .i64 kind, .int .i64 tx, .int .i64 id, .int .i64 root, .int .i64 count, .slice ka kn kc, .slice ea en ec, .int .i64 next, .string data]
set_option maxHeartbeats 800000 in
theorem szPage_any (kind tx id root count : Int) (ka : Option Addr) (kn kc : Nat) (ks : List PK) (ea : Option Addr) (en ec : Nat) (es : List PE) (next : Int) (data : ByteArray) (hd : data.size ≤ maxLen) (left : Int) (w : World) (h0 : 0 ≤ left) (h1 : left ≤ 1048576) (A B : Nat) (hB : B ≤ w.heap.size) (hK : KidsAt w A B ka kn kc ks) (hE : EntsAt w A B ea en ec es) :
    Calls Try.prog 20 #[.agg #[.int .i64 kind, .int .i64 tx, .int .i64 id, .int .i64 root, .int .i64 count, .slice ka kn kc, .slice ea en ec, .int .i64 next, .string data], .int .i64 left] w fun e w' => ∃ r : Int, e = .returned (.int .i64 r) ∧ (0 ≤ r → (kn : Int) ≤ left ∧ (en : Int) ≤ left ∧ (data.size : Int) ≤ left) ∧ Below w.heap.size w w' := by
  unfold maxLen at hd
  go_enter Try.func20, Try.ntmps20
  go_wp2_with fail
  have hb0 : Below w.heap.size w (w.alloc (.cells #[.int .i64 kind, .int .i64 tx, .int .i64 id, .int .i64 root, .int .i64 count, .slice ka kn kc, .slice ea en ec, .int .i64 next, .string data] 44)) := (Below.refl _ _).alloc (Nat.le_refl _) _
  refine (szKidS_any ka kn kc ks left _ h0 h1 A B (by simp; omega) (hK.below (hb0.mono hB))).mono ?_
  rintro e w1 ⟨r, rfl, hr, hb1⟩
  have hb2 := hb0.trans (hb1.mono (by simp))
  have hz := hb1.size
  simp at hz
  have hz1 : w.heap.size < w1.heap.size := by omega
  obtain ⟨hc1, hf1⟩ := bcell hb1
  clear hb1
  by_cases hr0 : r < 0
  · go_wp2
    go_ret
    exact ⟨-1, rfl, by omega, hb2⟩
  · go_wp2_with fail
    refine (szEntS_any ea en ec es r _ (by omega) (by omega) A B (Nat.le_trans hB hb2.size) (hE.below (hb2.mono hB))).mono ?_
    rintro e w2 ⟨q, rfl, hq, hb3⟩
    have hb4 := hb2.trans (hb3.mono (by omega))
    obtain ⟨hc2, hf2⟩ := bcell hb3
    clear hb3
    by_cases hq0 : q < 0
    · go_wp2
      go_ret
      exact ⟨-1, rfl, by omega, hb4⟩
    · by_cases hd0 : q - data.size < 0
      all_goals
        go_wp2
        go_ret
      · exact ⟨-1, rfl, by omega, hb4⟩
      · exact ⟨q - data.size, rfl, fun _ => ⟨by omega, by omega, by omega⟩, hb4⟩
end Go.Proofs.Ytcmhobbpeaeebaa
