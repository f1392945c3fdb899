import Derived.Test.YtcmhobbpeaeebaaAB
import Derived.Test.YtcmhobbpeaeebaaPgM
namespace Go.Proofs.Ytcmhobbpeaeebaa
open Go.RowKit
set_option linter.unusedVariables false
set_option maxRecDepth 100000

/-- A number's bytes, lowest first; highest first. -/
def leB : Nat → Int → List Int
  | 0, _ => []
  | n + 1, x => x % 256 :: leB n (x / 256)
def beB (n : Nat) (x : Int) : List Int := (leB n x).reverse
def numB (high : Bool) (n : Nat) (x : Int) : List Int := if high then beB n x else leB n x
def shr8 : Nat → Int → Int
  | 0, x => x
  | n + 1, x => shr8 n x / 256
theorem leB_len : ∀ n x, (leB n x).length = n
  | 0, _ => rfl
  | n + 1, x => by simp [leB, leB_len n]
theorem leB_byte : ∀ n x, ∀ y ∈ leB n x, 0 ≤ y ∧ y ≤ 255
  | 0, _, y, h => by cases h
  | n + 1, x, y, h => by
    rcases List.mem_cons.1 h with rfl | h
    · omega
    · exact leB_byte n _ y h
theorem shr8_in : ∀ n x, shr8 n (x / 256) = shr8 n x / 256
  | 0, _ => rfl
  | n + 1, x => by simp [shr8, shr8_in n]
theorem leB_snoc : ∀ n x, leB (n + 1) x = leB n x ++ [shr8 n x % 256]
  | 0, x => by simp [leB, shr8]
  | n + 1, x => by
    rw [leB, leB_snoc n (x / 256), leB, List.cons_append, shr8_in]
    rfl
theorem beB_len (n : Nat) (x : Int) : (beB n x).length = n := by simp [beB, leB_len]
theorem beB_succ (n : Nat) (x : Int) : beB (n + 1) x = (shr8 n x % 256) :: beB n x := by simp [beB, leB_snoc]
theorem numB_len (b : Bool) (n : Nat) (x : Int) : (numB b n x).length = n := by cases b <;> simp [numB, beB_len, leB_len]
theorem numB_byte (b : Bool) (n : Nat) (x : Int) : ∀ y ∈ numB b n x, 0 ≤ y ∧ y ≤ 255 := by
  cases b
  · exact leB_byte n x
  · intro y hy
    exact leB_byte n x y (by simpa [numB, beB] using hy)
theorem shr8_range {x : Int} (hx : I64 x) : ∀ n, I64 (shr8 n x)
  | 0 => hx
  | n + 1 => by
    have := shr8_range hx n
    unfold I64 at this ⊢
    simp only [shr8]
    omega

/-- One byte in a slice of its own. -/
theorem bytesAt_one (w : World) (x : Int) (hx : 0 ≤ x ∧ x ≤ 255) : BytesAt (w.alloc (.cells #[.int .u8 x] 5)) w.heap.size (w.heap.size + 1) (some ⟨w.heap.size, 0, none⟩) 1 1 [x] := by
  refine ⟨rfl, Nat.le_refl _, by unfold maxLen; omega, fun y hy => by simp at hy; omega, fun _ => ⟨w.heap.size, 0, rfl, ⟨Nat.le_refl _, Nat.lt_succ_self _⟩, fun i hi => ?_⟩, fun h => by cases h⟩
  obtain rfl : i = 0 := by omega
  simp

set_option maxHeartbeats 800000 in
theorem l2Put_low (x : Int) (hx : I64 x) (n : Nat) (hn : n ≤ 8) (w : World) :
    Calls Try.prog 40 #[.int .i64 x, .int .i64 n, .bool false] w fun e w' => ∃ v, e = .returned v ∧ w'.ownsRow w.heap.size 5 1 v n (u8s (leB n x)) ∧ Below w.heap.size w w' := by
  have hown0 : (w.alloc (.cells #[] 5)).ownsRow w.heap.size 5 1 (.slice (some ⟨w.heap.size, 0, none⟩) 0 0) 0 [] := World.ownsRow_made w #[] 0 (Nat.le_refl _) (by unfold maxLen; omega) (by simp)
  have hb0 : Below w.heap.size w (w.alloc (.cells #[] 5)) := (Below.refl _ _).alloc (Nat.le_refl _) _
  go_enter Try.func40, Try.ntmps40
  go_wp2_with fail
  go_loopw [0, 7, 8] (fun xv v i wr => ∃ k : Nat, k ≤ n ∧ i = .int .i64 k ∧ xv = .int .i64 (shr8 k x) ∧ wr.ownsRow w.heap.size 5 1 v k (u8s (leB k x)) ∧ Below w.heap.size w wr) (fun _ _ i _ => n - (intOf i).toNat)
  case atStart => exact ⟨0, Nat.zero_le _, rfl, rfl, hown0, hb0⟩
  case round =>
    clear hown0 hb0
    obtain ⟨k, hk, rfl, rfl, hown, hbel⟩ := hrel
    by_cases hlt : k < n
    · have hr := shr8_range hx k
      unfold I64 at hr
      have HS : Hid (shr8 (k + 1) x = shr8 k x / 256) := rfl
      have HL : Hid (leB (k + 1) x = leB k x ++ [shr8 k x % 256]) := leB_snoc k x
      generalize shr8 k x = y at *
      generalize leB k x = l at *
      have h1 := bytesAt_one wr (y % 256) (by omega)
      have hs := hbel.size
      go_wp2_with (at_builtin; refine wpList_ab rfl _ _ rfl w.heap.size _ k l rfl (hown.alloc _) _ 1 1 [y % 256] _ _ rfl h1 (by omega) (by simp; omega) ?_; intro v' w1 hown1 hgr)
      have hgr' : (wr.alloc (.cells #[.int .u8 (y % 256)] 5)).grownBy w1 u7.ownBlock := hgr
      have hb2 := (hbel.alloc hs (.cells #[.int .u8 (y % 256)] 5)).grown hgr' (by simp; omega) (fun g hg => (hown.lt g hg).1)
      clear hgr hgr' h1 hown
      go_roundw
      case rel => exact ⟨k + 1, by omega, by go_num, by rw [HS.out], by rw [HL.out]; exact hown1, hb2⟩
      case measure => simp [intOf]; omega
    · obtain rfl : k = n := by omega
      go_wp2
      go_ret
      exact ⟨_, rfl, hown, hbel⟩
set_option maxHeartbeats 800000 in
theorem l2Put_high (x : Int) (hx : I64 x) (n : Nat) (hn : n ≤ 8) (w : World) :
    Calls Try.prog 40 #[.int .i64 x, .int .i64 n, .bool true] w fun e w' => ∃ v, e = .returned v ∧ w'.ownsRow w.heap.size 5 1 v n (u8s (beB n x)) ∧ Below w.heap.size w w' := by
  have hown0 : (w.alloc (.cells #[] 5)).ownsRow w.heap.size 5 1 (.slice (some ⟨w.heap.size, 0, none⟩) 0 0) 0 [] := World.ownsRow_made w #[] 0 (Nat.le_refl _) (by unfold maxLen; omega) (by simp)
  have hb0 : Below w.heap.size w (w.alloc (.cells #[] 5)) := (Below.refl _ _).alloc (Nat.le_refl _) _
  go_enter Try.func40, Try.ntmps40
  go_wp2_with fail
  go_loopw [0, 7, 8] (fun xv v i wr => ∃ k : Nat, k ≤ n ∧ i = .int .i64 k ∧ xv = .int .i64 (shr8 k x) ∧ wr.ownsRow w.heap.size 5 1 v k (u8s (beB k x)) ∧ Below w.heap.size w wr) (fun _ _ i _ => n - (intOf i).toNat)
  case atStart => exact ⟨0, Nat.zero_le _, rfl, rfl, hown0, hb0⟩
  case round =>
    clear hown0 hb0
    obtain ⟨k, hk, rfl, rfl, hown, hbel⟩ := hrel
    by_cases hlt : k < n
    · have hr := shr8_range hx k
      unfold I64 at hr
      have HS : Hid (shr8 (k + 1) x = shr8 k x / 256) := rfl
      have HL : Hid (beB (k + 1) x = (shr8 k x % 256) :: beB k x) := beB_succ k x
      have hbl := beB_len k x
      have hbb := numB_byte true k x
      simp only [numB, if_true] at hbb
      generalize shr8 k x = y at *
      generalize beB k x = l at *
      have hs := hbel.size
      rw [← hbl] at hown
      obtain ⟨va, vn, vc, hv, hB⟩ := bytesAt_of_own hown hbb
      have hvn : vn = l.length := hB.1.symm
      subst hvn
      have HO : Hid (wr.ownsRow w.heap.size 5 1 u7 l.length (u8s l)) := hown
      clear hown
      subst hv
      have hB1 := hB.below ((Below.refl wr.heap.size wr).alloc (Nat.le_refl _) (.cells #[.int .u8 (y % 256)] 5))
      have hown : (wr.alloc (.cells #[.int .u8 (y % 256)] 5)).ownsRow w.heap.size 5 1 (.slice (some ⟨wr.heap.size, 0, none⟩) 1 1) 1 (u8s [y % 256]) := World.ownsRow_lit wr #[.int .u8 (y % 256)] 1 hs (by unfold maxLen; omega) (by simp)
      have HLL : Hid (l.length = k) := hbl
      clear hB
      go_wp2_with (at_builtin; refine wpList_ab rfl _ _ rfl w.heap.size _ 1 [y % 256] rfl hown _ _ _ l _ _ rfl hB1 (by have := HLL.out; omega) (by simp; omega) ?_; intro v' w1 hown1 hgr)
      have hgr' : (wr.alloc (.cells #[.int .u8 (y % 256)] 5)).grownBy w1 (some wr.heap.size) := hgr
      have hb2 := (hbel.alloc hs (.cells #[.int .u8 (y % 256)] 5)).grown hgr' (by simp; omega) (fun g hg => by simp at hg; omega)
      clear hgr hgr' hown
      go_roundw
      case rel => exact ⟨k + 1, by omega, by go_num, by rw [HS.out], by rw [HL.out]; have := HLL.out; rw [Nat.add_comm, this] at hown1; exact hown1, hb2⟩
      case measure => simp [intOf]; omega
    · obtain rfl : k = n := by omega
      go_wp2
      go_ret
      exact ⟨_, rfl, hown, hbel⟩
theorem l2Put_any (high : Bool) (x : Int) (hx : I64 x) (n : Nat) (hn : n ≤ 8) (w : World) :
    Calls Try.prog 40 #[.int .i64 x, .int .i64 n, .bool high] w fun e w' => ∃ a c, e = .returned (.slice a n c) ∧ w'.ownsRow w.heap.size 5 1 (.slice a n c) n (u8s (numB high n x)) ∧ BytesAt w' w.heap.size w'.heap.size a n c (numB high n x) ∧ Below w.heap.size w w' := by
  have key : Calls Try.prog 40 #[.int .i64 x, .int .i64 n, .bool high] w fun e w' => ∃ v, e = .returned v ∧ w'.ownsRow w.heap.size 5 1 v n (u8s (numB high n x)) ∧ Below w.heap.size w w' := by
    cases high
    · exact l2Put_low x hx n hn w
    · exact l2Put_high x hx n hn w
  refine key.mono ?_
  rintro e w' ⟨v, rfl, h1, h2⟩
  have hl := numB_len high n x
  have h1' : w'.ownsRow w.heap.size 5 1 v (numB high n x).length (u8s (numB high n x)) := by rw [hl]; exact h1
  obtain ⟨a, m, c, hv, hB⟩ := bytesAt_of_own h1' (numB_byte high n x)
  have hm : m = n := hB.1.symm.trans hl
  subst hm
  subst hv
  exact ⟨a, c, rfl, h1, hB, h2⟩

set_option maxHeartbeats 800000 in
theorem l2Zeros_any (v : Value) (m n base : Nat) (bs : List Int) (hb : bs.length = m) (hm : m ≤ n) (hn : n ≤ 1024) (w : World) (hown : w.ownsRow base 5 1 v m (u8s bs)) (hbase : base ≤ w.heap.size) :
    Calls Try.prog 42 #[v, .int .i64 n] w fun e w' => ∃ v', e = .returned v' ∧ w'.ownsRow base 5 1 v' n (u8s (bs ++ List.replicate (n - m) 0)) ∧ Below base w w' := by
  obtain ⟨va, vc, rfl⟩ := own_shape hown
  go_enter Try.func42, Try.ntmps42
  go_wp2_with fail
  go_loopw [0] (fun v wr => ∃ (k : Nat) (a : Option Addr) (c : Nat), m + k ≤ n ∧ v = .slice a (m + k) c ∧ wr.ownsRow base 5 1 (.slice a (m + k) c) (m + k) (u8s (bs ++ List.replicate k 0)) ∧ Below base w wr) (fun v _ => n - (match v with | .slice _ l _ => l | _ => 0))
  case atStart => exact ⟨0, va, vc, by omega, rfl, by simpa using hown, Below.refl _ _⟩
  case round =>
    clear hown
    obtain ⟨k, a, c, hk, rfl, hown, hbel⟩ := hrel
    by_cases hlt : m + k < n
    · have h1 := bytesAt_one wr 0 (by omega)
      have hs := hbel.size
      have HR : Hid (bs ++ List.replicate (k + 1) 0 = (bs ++ List.replicate k 0) ++ [0]) := by show _ = _; rw [List.replicate_succ', List.append_assoc]
      generalize bs ++ List.replicate k 0 = l at *
      go_wp2_with (at_builtin; refine wpList_ab rfl _ _ rfl base _ (m + k) l rfl (hown.alloc _) _ 1 1 [0] _ _ rfl h1 (by omega) (by simp; omega) ?_; intro v' w1 hown1 hgr)
      obtain ⟨a', c', rfl⟩ := own_shape hown1
      have hgr' : (wr.alloc (.cells #[.int .u8 0] 5)).grownBy w1 (Value.slice a (m + k) c).ownBlock := hgr
      have hb2 := (hbel.alloc (by omega) (.cells #[.int .u8 0] 5)).grown hgr' (by simp; omega) (fun g hg => (hown.lt g hg).1)
      clear hgr hgr' h1 hown
      go_roundw
      case rel => exact ⟨k + 1, a', c', by omega, rfl, by rw [HR.out]; exact hown1, hb2⟩
      case measure => simp; omega
    · go_wp2
      go_ret
      have e : k = n - m := by omega
      subst e
      refine ⟨_, rfl, ?_, hbel⟩
      rw [show m + (n - m) = n by omega] at hown ⊢
      exact hown
end Go.Proofs.Ytcmhobbpeaeebaa
