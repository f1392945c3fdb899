import Derived.Test.YtmmdkjeoadlikaaPlain
import Derived.Test.YtmmdkjeoadlikaaIn
import Derived.Test.YtmmdkjeoadlikaaChecked
import Derived.Deep.QuietTactic
import Derived.BigQuiet
import Derived.WalkLawsBesides
namespace Go.Proofs.Ytmmdkjeoadlikaa
open Go.RowKit
set_option linter.unusedVariables false
set_option maxRecDepth 100000

set_option maxHeartbeats 400000 in
theorem l1Name_any (s : ByteArray) (w : World) (hs : s.size ≤ maxLen) :
    Calls Try.prog 40 #[.string s] w fun e w' => e = .returned (.bool (nameB s)) ∧ w' = w := by
  unfold maxLen at hs
  by_cases h1 : s.size < 1
  · have H : Hid (nameB s = false) := name_long (.inl h1)
    have hd : decide ((s.size : Int) < 1) = true := by simp; omega
    go_enter Try.func40, Try.ntmps40
    go_wp2
    go_ret
    exact ⟨by rw [H.out]; rfl, rfl⟩
  by_cases h2 : 8 < s.size
  · have H : Hid (nameB s = false) := name_long (.inr h2)
    have hd : decide ((s.size : Int) < 1) = false := by simp; omega
    have hd2 : decide ((8 : Int) < (s.size : Int)) = true := by simp; omega
    go_enter Try.func40, Try.ntmps40
    go_wp2
    go_ret
    exact ⟨by rw [H.out]; rfl, rfl⟩
  have hd : decide ((s.size : Int) < 1) = false := by simp; omega
  have hd2 : decide ((8 : Int) < (s.size : Int)) = false := by simp; omega
  go_enter Try.func40, Try.ntmps40
  go_wp2
  go_loop [3] (fun i => ∃ k : Nat, k ≤ s.size ∧ i = .int .i64 k ∧ Hid (okBytes (s.data.toList.take k) = true)) (fun i => s.size - (intOf i).toNat)
  case atStart => exact ⟨0, Nat.zero_le _, rfl, rfl⟩
  case round =>
    obtain ⟨k, hk, rfl, hok⟩ := hrel
    by_cases hlt : k < s.size
    · by_cases h3 : (s[k].toNat : Int) < 97
      · have H : Hid (nameB s = false) := name_bad hlt (.inl h3)
        go_wp2
        go_ret
        exact ⟨by rw [H.out]; rfl, rfl⟩
      · by_cases h4 : (122 : Int) < (s[k].toNat : Int)
        · have H : Hid (nameB s = false) := name_bad hlt (.inr h4)
          go_wp2
          go_ret
          exact ⟨by rw [H.out]; rfl, rfl⟩
        · have H : Hid (okBytes (s.data.toList.take (k + 1)) = true) := name_step hlt hok.out (by omega) (by omega)
          go_wp2
          go_round
          case rel => exact ⟨k + 1, by omega, by go_num, H⟩
          case measure => simp [intOf]; omega
    · have H : Hid (nameB s = true) := name_good (by omega) (by omega) (by have := hok.out; rwa [show k = s.size by omega] at this)
      go_wp2
      go_ret
      exact ⟨by rw [H.out]; rfl, rfl⟩
set_option maxHeartbeats 400000 in
theorem l1Find_any (a : Option Addr) (n c : Nat) (fs : List PF) (nm : ByteArray) (w : World) (A B : Nat) (h : FilesAt w A B a n c fs) :
    Calls Try.prog 45 #[.slice a n c, .string nm] w fun e w' => e = .returned (.int .i64 (findI fs nm)) ∧ w' = w := by
  obtain ⟨hl, hnc, hc, hcell⟩ := h
  unfold maxLen at hc
  go_enter Try.func45, Try.ntmps45
  go_wp2
  go_loop [5] (fun i => ∃ k : Nat, k ≤ n ∧ i = .int .i64 k ∧ Hid (∀ j, j < k → (fs.getD j (ByteArray.empty, [])).1 ≠ nm)) (fun i => n - (intOf i).toNat)
  case atStart => exact ⟨0, Nat.zero_le _, rfl, fun j hj => absurd hj (Nat.not_lt_zero _)⟩
  case round =>
    obtain ⟨k, hk, rfl, hno⟩ := hrel
    by_cases hlt : k < n
    · obtain ⟨b, off, rfl, hb, hcb⟩ := hcell (by omega)
      have e1 := (hcb k hlt).1
      clear hcell hcb
      obtain ⟨f, hf⟩ : ∃ f, f = fs.getD k (ByteArray.empty, []) := ⟨_, rfl⟩
      rw [← hf] at e1
      have HF : Hid (f = fs.getD k (ByteArray.empty, [])) := hf
      clear hf
      by_cases hs : f.1 = nm
      · have hb2 := same_yes hs
        have H : Hid (findI fs nm = k) := findI_at (by omega) hno.out (by rw [← HF.out]; exact hs)
        clear hs
        go_wp2
        go_ret
        exact ⟨ret_int H.out.symm, rfl⟩
      · have hb2 := same_no hs
        have H : Hid (∀ j, j < k + 1 → (fs.getD j (ByteArray.empty, [])).1 ≠ nm) := by
          intro j hj
          by_cases hjk : j = k
          · subst hjk; rw [← HF.out]; exact hs
          · exact hno.out j (by omega)
        clear hs
        go_wp2
        go_round
        case rel => exact ⟨k + 1, by omega, by go_num, H⟩
        case measure => simp [intOf]; omega
    · have H : Hid (findI fs nm = -1) := findI_none (fun j hj => hno.out j (by omega))
      go_wp2
      go_ret
      exact ⟨ret_int H.out.symm, rfl⟩

set_option maxHeartbeats 400000 in
theorem l1Len_any (a : Option Addr) (n c : Nat) (fs : List PF) (nm : ByteArray) (w : World) (A B : Nat) (h : FilesAt w A B a n c fs) :
    Calls Try.prog 42 #[.slice a n c, .string nm] w fun e w' => e = .returned (.int .i64 (lenI fs nm)) ∧ w' = w := by
  go_enter Try.func42, Try.ntmps42
  go_wp2_with fail
  refine (l1Find_any _ _ _ fs nm _ A B h).mono ?_
  rintro e w1 ⟨rfl, rfl⟩
  obtain ⟨hl, hnc, hc, hcell⟩ := h
  unfold maxLen at hc
  rcases findI_cases fs nm with ⟨e1, e2⟩ | ⟨e1, e2⟩
  · rw [e1]
    have H : Hid (lenI fs nm = 0) := by show lenI fs nm = 0; unfold lenI; rw [if_neg (by omega)]
    clear e1 e2
    go_wp2_with fail
    go_ret
    exact ⟨ret_int H.out.symm, rfl⟩
  · rw [e1]
    obtain ⟨k, hk⟩ : ∃ k, k = findN fs nm := ⟨_, rfl⟩
    obtain ⟨b, off, rfl, hb, hcb⟩ := hcell (by omega)
    obtain ⟨p1, p2, pa, pn, pc, p3, p4⟩ := hcb k (by omega)
    have H : Hid (lenI fs nm = (pn : Int) / 128) := by show lenI fs nm = _; unfold lenI; rw [if_pos e2, ← hk, p4.1]
    have hpn := Nat.le_trans p4.2.1 p4.2.2.1
    unfold maxLen at hpn
    rw [← hk]
    have hkn : k < n := by omega
    clear hcb hcell p1 p2 p4 e1 e2 hk hl
    go_wp2_with fail
    go_ret
    exact ⟨ret_int H.out.symm, rfl⟩

set_option maxHeartbeats 400000 in
theorem l1Total_any (a : Option Addr) (n c : Nat) (fs : List PF) (w : World) (A B : Nat) (h : FilesAt w A B a n c fs) (hw : totalI fs ≤ 1073741824) :
    Calls Try.prog 44 #[.slice a n c] w fun e w' => e = .returned (.int .i64 (totalI fs)) ∧ w' = w := by
  obtain ⟨hl, hnc, hc, hcell⟩ := h
  unfold maxLen at hc
  go_enter Try.func44, Try.ntmps44
  go_wp2
  go_loop [3, 4] (fun t i => ∃ (k : Nat) (r : Int), k ≤ n ∧ i = .int .i64 k ∧ t = .int .i64 r ∧ Hid (r = totalI (fs.take k)) ∧ 0 ≤ r ∧ r ≤ 1073741824) (fun _ i => n - (intOf i).toNat)
  case atStart => exact ⟨0, 0, Nat.zero_le _, rfl, rfl, rfl, by omega, by omega⟩
  case round =>
    obtain ⟨k, r, hk, rfl, rfl, hr, hr0, hr1⟩ := hrel
    by_cases hlt : k < n
    · obtain ⟨b, off, rfl, hb, hcb⟩ := hcell (by omega)
      obtain ⟨p1, p2, pa, pn, pc, p3, p4⟩ := hcb k hlt
      have H : Hid (r + (pn : Int) / 128 = totalI (fs.take (k + 1))) := by
        show _ = _
        rw [take_snocD fs k (ByteArray.empty, []) (by omega), totalI_append, ← hr.out]
        rw [← p4.1]; simp [totalI]
      have hle : r + (pn : Int) / 128 ≤ 1073741824 := by
        rw [H.out]
        have h1 := totalI_take_le fs (k + 1)
        omega
      have hpn := Nat.le_trans p4.2.1 p4.2.2.1
      unfold maxLen at hpn
      clear hcb hcell p1 p2 p4
      go_wp2
      go_round
      case rel => exact ⟨k + 1, _, by omega, by go_num, rfl, H, by omega, by omega⟩
      case measure => simp [intOf]; omega
    · have H : Hid (r = totalI fs) := by show _ = _; rw [hr.out, List.take_of_length_le (by omega)]
      go_wp2
      go_ret
      exact ⟨ret_int H.out, rfl⟩
set_option maxHeartbeats 400000 in
theorem isName_any (s : ByteArray) (w : World) (hs : s.size ≤ maxLen) :
    Calls Try.prog 57 #[.string s] w fun e w' => e = .returned (.bool (nameB s)) ∧ w' = w := by
  unfold maxLen at hs
  by_cases h1 : s.size < 1
  · have H : Hid (nameB s = false) := name_long (.inl h1)
    have hd : decide ((s.size : Int) < 1) = true := by simp; omega
    go_enter Try.func57, Try.ntmps57
    go_wp2
    go_ret
    exact ⟨by rw [H.out]; rfl, rfl⟩
  by_cases h2 : 8 < s.size
  · have H : Hid (nameB s = false) := name_long (.inr h2)
    have hd : decide ((s.size : Int) < 1) = false := by simp; omega
    have hd2 : decide ((8 : Int) < (s.size : Int)) = true := by simp; omega
    go_enter Try.func57, Try.ntmps57
    go_wp2
    go_ret
    exact ⟨by rw [H.out]; rfl, rfl⟩
  have hd : decide ((s.size : Int) < 1) = false := by simp; omega
  have hd2 : decide ((8 : Int) < (s.size : Int)) = false := by simp; omega
  go_enter Try.func57, Try.ntmps57
  go_wp2
  go_loop [3, 14] (fun _ i => ∃ k : Nat, k ≤ s.size ∧ i = .int .i64 k ∧ Hid (okBytes (s.data.toList.take k) = true)) (fun _ i => s.size - (intOf i).toNat)
  case atStart => exact ⟨0, Nat.zero_le _, rfl, rfl⟩
  case round =>
    obtain ⟨k, hk, rfl, hok⟩ := hrel
    by_cases hlt : k < s.size
    · by_cases h3 : (s[k].toNat : Int) < 97
      · have H : Hid (nameB s = false) := name_bad hlt (.inl h3)
        go_wp2
        go_ret
        exact ⟨by rw [H.out]; rfl, rfl⟩
      · by_cases h4 : (122 : Int) < (s[k].toNat : Int)
        · have H : Hid (nameB s = false) := name_bad hlt (.inr h4)
          go_wp2
          go_ret
          exact ⟨by rw [H.out]; rfl, rfl⟩
        · have H : Hid (okBytes (s.data.toList.take (k + 1)) = true) := name_step hlt hok.out (by omega) (by omega)
          go_wp2
          go_round
          case rel => exact ⟨k + 1, by omega, by go_num, H⟩
          case measure => simp [intOf]; omega
    · have H : Hid (nameB s = true) := name_good (by omega) (by omega) (by have := hok.out; rwa [show k = s.size by omega] at this)
      go_wp2
      go_ret
      exact ⟨by rw [H.out]; rfl, rfl⟩
end Go.Proofs.Ytmmdkjeoadlikaa
