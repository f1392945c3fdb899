import Derived.Test.YtcmhobbpeaeebaaByt
import Derived.Laws.BitsAll
namespace Go.Proofs.Ytcmhobbpeaeebaa
open Go.RowKit
set_option linter.unusedVariables false
set_option maxRecDepth 100000

def crcBit (c : Int) : Int := if c % 2 = 1 then bits .xor .u32 (c / 2) 3988292384 else c / 2
def crcBits : Nat → Int → Int
  | 0, c => c
  | k + 1, c => crcBit (crcBits k c)
def crcByte (c x : Int) : Int := crcBits 8 (bits .xor .u32 c x)
def crcList (c : Int) (bs : List Int) : Int := bs.foldl crcByte c
theorem xor32_range (a b : Int) : 0 ≤ bits .xor .u32 a b ∧ bits .xor .u32 a b < 4294967296 := by
  unfold bits
  simp only [IntKind.wrap_u32']
  omega

theorem and1_u32 {q : Int} (h : 0 ≤ q ∧ q < 4294967296) : bits .and .u32 q 1 = q % 2 := by
  rw [u32_and q 1 h.1 h.2 (by omega) (by omega), show (1 : Int).toNat = 1 from rfl, nat_mask1]
  omega
theorem crcBit_range {c : Int} (h : 0 ≤ c ∧ c < 4294967296) : 0 ≤ crcBit c ∧ crcBit c < 4294967296 := by
  unfold crcBit
  split
  · exact xor32_range _ _
  · omega
theorem crcBits_range {c : Int} (h : 0 ≤ c ∧ c < 4294967296) : ∀ k, 0 ≤ crcBits k c ∧ crcBits k c < 4294967296
  | 0 => h
  | k + 1 => crcBit_range (crcBits_range h k)
theorem getD_byte {bs : List Int} (hw : ∀ x ∈ bs, 0 ≤ x ∧ x ≤ 255) (k : Nat) : 0 ≤ bs.getD k 0 ∧ bs.getD k 0 ≤ 255 := by
  by_cases h : k < bs.length
  · rw [show bs.getD k 0 = bs[k] by simp [List.getD, h]]; exact hw _ (List.getElem_mem h)
  · rw [show bs.getD k 0 = 0 by simp [List.getD, Nat.le_of_not_lt h]]; omega
theorem crcList_take {bs : List Int} {k : Nat} (h : k < bs.length) (c : Int) : crcList c (bs.take (k + 1)) = crcByte (crcList c (bs.take k)) (bs.getD k 0) := by
  rw [crcList, ← List.take_append_getElem h, List.foldl_append]
  simp [crcList, List.getD, h]
theorem crcList_range {c : Int} (h : 0 ≤ c ∧ c < 4294967296) (bs : List Int) : 0 ≤ crcList c bs ∧ crcList c bs < 4294967296 := by
  induction bs generalizing c with
  | nil => exact h
  | cons b r ih => exact ih (crcBits_range (xor32_range _ _) 8)

set_option maxHeartbeats 400000 in
theorem specCrc_any (c : Int) (hc : 0 ≤ c ∧ c < 4294967296) (a : Option Addr) (n cc : Nat) (bs : List Int) (w : World) (A B : Nat) (h : BytesAt w A B a n cc bs) :
    Calls Try.prog 45 #[.int .u32 c, .slice a n cc] w fun e w' => e = .returned (.int .u32 (bits .xor .u32 IntKind.u32.max (crcList (bits .xor .u32 IntKind.u32.max c) bs))) ∧ w' = w := by
  obtain ⟨hl, hnc, hcm, hw, hcell, _⟩ := h
  unfold maxLen at hcm
  go_enter Try.func45, Try.ntmps45
  have hsg : IntKind.u32.signed = false := rfl
  go_wp2_with fail
  have r0 := xor32_range IntKind.u32.max c
  generalize hc0 : bits .xor .u32 IntKind.u32.max c = c0 at r0 ⊢
  have HC0 : Hid (bits .xor .u32 IntKind.u32.max c = c0) := hc0
  clear hc0
  go_loopw [0, 5] (fun x i wr => ∃ k : Nat, ∃ y, k ≤ n ∧ i = .int .i64 k ∧ x = .int .u32 y ∧ wr = w ∧ (0 ≤ y ∧ y < 4294967296) ∧ y = crcList c0 (bs.take k)) (fun x i _ => n - (intOf i).toNat)
  case atStart => exact ⟨0, _, Nat.zero_le _, rfl, rfl, rfl, r0, rfl⟩
  case round =>
    obtain ⟨k, y, hk, rfl, rfl, rfl, hy, hyl⟩ := hrel
    have HY : Hid (y = crcList c0 (bs.take k)) := hyl
    clear hyl
    by_cases hlt : k < n
    · obtain ⟨b, off, rfl, hb, hcb⟩ := hcell (by omega)
      have e1 := hcb k hlt
      have hx := getD_byte hw k
      have HZ : Hid (crcList c0 (bs.take (k + 1)) = crcBits 8 (bits .xor .u32 y (bs.getD k 0))) := by
        rw [HY.out]; exact crcList_take (by omega) c0
      clear hcell hcb
      generalize bs.getD k 0 = x at e1 hx HZ
      have hx2 : x % 4294967296 = x := by omega
      have hz := xor32_range y x
      go_wp2_with fail
      generalize bits .xor .u32 y x = z at HZ hz ⊢
      go_loopw [0, 6] (fun x i wr' => ∃ j : Nat, ∃ q, j ≤ 8 ∧ i = .int .i64 j ∧ x = .int .u32 q ∧ wr' = wr ∧ (0 ≤ q ∧ q < 4294967296) ∧ q = crcBits j z) (fun x i _ => 8 - (intOf i).toNat)
      case atStart => exact ⟨0, _, Nat.zero_le _, rfl, rfl, rfl, hz, rfl⟩
      case round =>
        obtain ⟨j, q, hj, rfl, rfl, rfl, hq, hql⟩ := hrel
        have HQ : Hid (q = crcBits j z) := hql
        clear hql
        by_cases hlj : j < 8
        · by_cases hp : q % 2 = 1
          · have HC : Hid (bits .xor .u32 (q / 2) 3988292384 = crcBits (j + 1) z) := by show _ = crcBit _; rw [← HQ.out, crcBit, if_pos hp]
            go_wp2
            go_roundw
            case rel => exact ⟨j + 1, _, by omega, by go_num, rfl, trivial, xor32_range _ _, HC.out⟩
            case measure => simp [intOf]; omega
          · have HC : Hid (q / 2 = crcBits (j + 1) z) := by show _ = crcBit _; rw [← HQ.out, crcBit, if_neg hp]
            go_wp2
            go_roundw
            case rel => exact ⟨j + 1, _, by omega, by go_num, rfl, trivial, by omega, HC.out⟩
            case measure => simp [intOf]; omega
        · have HJ : Hid (j = 8) := (by omega : j = 8)
          go_wp2
          go_roundw
          case rel => exact ⟨k + 1, q, by omega, by go_num, rfl, trivial, hq, by rw [HZ.out, HQ.out, HJ.out]⟩
          case measure => simp [intOf]; omega
    · go_wp2
      go_ret
      have HN : y = crcList c0 bs := by rw [HY.out, List.take_of_length_le (by omega)]
      rw [HC0.out, ← HN]
      exact ⟨rfl, rfl⟩

set_option maxHeartbeats 400000 in
theorem implCrc_any (c : Int) (hc : 0 ≤ c ∧ c < 4294967296) (a : Option Addr) (n cc : Nat) (bs : List Int) (w : World) (A B : Nat) (h : BytesAt w A B a n cc bs) :
    Calls Try.prog 62 #[.int .u32 c, .slice a n cc] w fun e w' => e = .returned (.int .u32 (bits .xor .u32 IntKind.u32.max (crcList (bits .xor .u32 IntKind.u32.max c) bs))) ∧ w' = w := by
  obtain ⟨hl, hnc, hcm, hw, hcell, _⟩ := h
  unfold maxLen at hcm
  go_enter Try.func62, Try.ntmps62
  have hsg : IntKind.u32.signed = false := rfl
  go_wp2_with fail
  have r0 := xor32_range IntKind.u32.max c
  generalize hc0 : bits .xor .u32 IntKind.u32.max c = c0 at r0 ⊢
  have HC0 : Hid (bits .xor .u32 IntKind.u32.max c = c0) := hc0
  clear hc0
  go_loopw [0, 11] (fun x i wr => ∃ k : Nat, ∃ y, k ≤ n ∧ i = .int .i64 k ∧ x = .int .u32 y ∧ wr = w ∧ (0 ≤ y ∧ y < 4294967296) ∧ y = crcList c0 (bs.take k)) (fun x i _ => n - (intOf i).toNat)
  case atStart => exact ⟨0, _, Nat.zero_le _, rfl, rfl, rfl, r0, rfl⟩
  case round =>
    obtain ⟨k, y, hk, rfl, rfl, rfl, hy, hyl⟩ := hrel
    have HY : Hid (y = crcList c0 (bs.take k)) := hyl
    clear hyl
    by_cases hlt : k < n
    · obtain ⟨b, off, rfl, hb, hcb⟩ := hcell (by omega)
      have e1 := hcb k hlt
      have hx := getD_byte hw k
      have HZ : Hid (crcList c0 (bs.take (k + 1)) = crcBits 8 (bits .xor .u32 y (bs.getD k 0))) := by
        rw [HY.out]; exact crcList_take (by omega) c0
      clear hcell hcb
      generalize bs.getD k 0 = x at e1 hx HZ
      have hx2 : x % 4294967296 = x := by omega
      have hz := xor32_range y x
      go_wp2_with fail
      generalize bits .xor .u32 y x = z at HZ hz ⊢
      go_loopw [0, 19] (fun x i wr' => ∃ j : Nat, ∃ q, j ≤ 8 ∧ i = .int .i64 j ∧ x = .int .u32 q ∧ wr' = wr ∧ (0 ≤ q ∧ q < 4294967296) ∧ q = crcBits j z) (fun x i _ => 8 - (intOf i).toNat)
      case atStart => exact ⟨0, _, Nat.zero_le _, rfl, rfl, rfl, hz, rfl⟩
      case round =>
        obtain ⟨j, q, hj, rfl, rfl, rfl, hq, hql⟩ := hrel
        have HQ : Hid (q = crcBits j z) := hql
        clear hql
        by_cases hlj : j < 8
        · by_cases hp : q % 2 = 1
          · have hand : bits .and .u32 q 1 = q % 2 := and1_u32 hq
            have HC : Hid (bits .xor .u32 (q / 2) 3988292384 = crcBits (j + 1) z) := by show _ = crcBit _; rw [← HQ.out, crcBit, if_pos hp]
            go_wp2
            go_roundw
            case rel => exact ⟨j + 1, _, by omega, by go_num, rfl, trivial, xor32_range _ _, HC.out⟩
            case measure => simp [intOf]; omega
          · have hand : bits .and .u32 q 1 = q % 2 := and1_u32 hq
            have HC : Hid (q / 2 = crcBits (j + 1) z) := by show _ = crcBit _; rw [← HQ.out, crcBit, if_neg hp]
            go_wp2
            go_roundw
            case rel => exact ⟨j + 1, _, by omega, by go_num, rfl, trivial, by omega, HC.out⟩
            case measure => simp [intOf]; omega
        · have HJ : Hid (j = 8) := (by omega : j = 8)
          go_wp2
          go_roundw
          case rel => exact ⟨k + 1, q, by omega, by go_num, rfl, trivial, hq, by rw [HZ.out, HQ.out, HJ.out]⟩
          case measure => simp [intOf]; omega
    · go_wp2
      go_ret
      have HN : y = crcList c0 bs := by rw [HY.out, List.take_of_length_le (by omega)]
      rw [HC0.out, ← HN]
      exact ⟨rfl, rfl⟩
end Go.Proofs.Ytcmhobbpeaeebaa
