import Derived.Test.YtpiipnfhinbimaaRqN
import Derived.Deep.QuietTactic
namespace Go.Proofs.Ytpiipnfhinbimaa
open Go.RowKit
set_option linter.unusedVariables false
set_option maxRecDepth 100000

theorem toB_cmpW {x y : List Int} (hx : ∀ z ∈ x, 0 ≤ z ∧ z ≤ 255) (hy : ∀ z ∈ y, 0 ≤ z ∧ z ≤ 255) : ((toB x).toList == (toB y).toList) = decide (x = y) := by
  have h3 := New.toB_inj hx hy
  have h4 : ((toB x).toList == (toB y).toList) = decide (toB x = toB y) := by
    rw [ByteArray.toList_eq, ByteArray.toList_eq, Bool.eq_iff_iff]
    simp only [beq_iff_eq, decide_eq_true_eq]
    constructor
    · intro h; exact ByteArray.ext (Array.ext' h)
    · intro h; rw [h]
  rw [h4]
  simp [h3]
theorem lwBytes_any (a : Option Addr) (n c : Nat) (bs : List Int) (a2 : Option Addr) (n2 c2 : Nat) (bs2 : List Int) (w : World) (A B A2 B2 : Nat) (h : BytesAt w A B a n c bs) (h2 : BytesAt w A2 B2 a2 n2 c2 bs2) :
    Calls Try.prog 26 #[.slice a n c, .slice a2 n2 c2] w fun e w' => e = .returned (.bool (decide (bs = bs2))) ∧ w' = w := by
  have s1 := str_conv h
  have s2 := str_conv h2
  have hc := toB_cmpW h.2.2.2.1 h2.2.2.2.1
  go_enter Try.func26, Try.ntmps26
  go_wp2

  go_ret
  exact ⟨rfl, rfl⟩
end Go.Proofs.Ytpiipnfhinbimaa
