import Derived.Test.YtcmhobbpeaeebaaGAA
import Derived.Test.YtcmhobbpeaeebaaGAB
namespace Go.Proofs.Ytcmhobbpeaeebaa
open Go.RowKit
set_option linter.unusedVariables false
set_option maxRecDepth 100000

def keyB (s : ByteArray) : Bool := decide (1 ≤ s.size) && decide (s.size ≤ 8)
set_option maxHeartbeats 400000 in
theorem l2Key_any (s : ByteArray) (hs : s.size ≤ maxLen) (w : World) :
    Calls Try.prog 78 #[.string s] w fun e w' => e = .returned (.bool (keyB s)) ∧ w' = w := by
  unfold maxLen at hs
  by_cases h1 : 1 ≤ s.size
  · go_enter Try.func78, Try.ntmps78
    go_wp2
    go_ret
    exact ⟨by simp [keyB, h1]; omega, rfl⟩
  · have hd : decide ((1 : Int) ≤ s.size) = false := by simp; omega
    go_enter Try.func78, Try.ntmps78
    go_wp2
    go_ret
    exact ⟨by simp [keyB, h1], rfl⟩

/-- A page as plain data. -/
structure Pg where
  kind : Int
  tx : Int
  id : Int
  root : Int
  count : Int
  ks : List PK
  es : List PE
  next : Int
  data : ByteArray
def inB (low last x : Int) : Bool := decide (low ≤ x ∧ x ≤ last)
def metaOk (low last : Int) (p : Pg) : Bool := inB 1 2000000000 p.id && inB low last p.root && inB 0 2000000000 p.count && decide (p.ks.length = 0) && decide (p.es.length = 0) && decide (p.next = 0) && p.data.toList.isEmpty

set_option maxHeartbeats 800000 in
theorem l2Body_meta (p : Pg) (hk : p.kind = 1) (ka : Option Addr) (kc : Nat) (ea : Option Addr) (ec : Nat) (hd : p.data.size ≤ maxLen) (low last : Int) (w : World) (hkl : p.ks.length ≤ maxLen) (hel : p.es.length ≤ maxLen) :
    Calls Try.prog 39 #[.agg #[.int .i64 p.kind, .int .i64 p.tx, .int .i64 p.id, .int .i64 p.root, .int .i64 p.count, .slice ka p.ks.length kc, .slice ea p.es.length ec, .int .i64 p.next, .string p.data], .int .i64 low, .int .i64 last] w fun e w' => e = .returned (.bool (metaOk low last p)) ∧ Below w.heap.size w w' := by
  obtain ⟨kind, tx, id, root, count, ks, es, next, data⟩ := p
  simp only at hk hd hkl hel ⊢
  subst hk
  unfold maxLen at hd hkl hel
  go_enter Try.func39, Try.ntmps39
  go_wp2_with (go_at_call 38; refine (l1In_any _ _ _ _).mono ?_; rintro e w1 ⟨rfl, rfl⟩)
  all_goals go_ret
  all_goals refine ⟨?_, (Below.refl _ _).alloc (Nat.le_refl _) _⟩
  all_goals simp [metaOk, inB, *]
def noMeta (p : Pg) : Bool := decide (p.id = 0 ∧ p.root = 0 ∧ p.count = 0)
def overOk (low last : Int) (p : Pg) : Bool := noMeta p && decide (p.ks.length = 0) && decide (p.es.length = 0) && decide (1 ≤ p.data.size) && decide (p.data.size ≤ 96) && (decide (p.next = 0) || (inB low last p.next && decide (p.data.size = 96)))
set_option maxHeartbeats 800000 in
theorem l2Body_other (p : Pg) (hk1 : p.kind ≠ 1) (hk2 : p.kind ≠ 2) (hk3 : p.kind ≠ 3) (hk4 : p.kind ≠ 4) (ka : Option Addr) (kc : Nat) (ea : Option Addr) (ec : Nat) (low last : Int) (w : World) :
    Calls Try.prog 39 #[.agg #[.int .i64 p.kind, .int .i64 p.tx, .int .i64 p.id, .int .i64 p.root, .int .i64 p.count, .slice ka p.ks.length kc, .slice ea p.es.length ec, .int .i64 p.next, .string p.data], .int .i64 low, .int .i64 last] w fun e w' => e = .returned (.bool false) ∧ Below w.heap.size w w' := by
  obtain ⟨kind, tx, id, root, count, ks, es, next, data⟩ := p
  simp only at hk1 hk2 hk3 hk4 ⊢
  have k1 : (kind == 1) = false := by simp; exact hk1
  have k2 : (kind == 2) = false := by simp; exact hk2
  have k3 : (kind == 3) = false := by simp; exact hk3
  have k4 : (kind == 4) = false := by simp; exact hk4
  go_enter Try.func39, Try.ntmps39
  go_wp2_with fail
  all_goals go_ret
  all_goals exact ⟨rfl, (Below.refl _ _).alloc (Nat.le_refl _) _⟩
set_option maxHeartbeats 1600000 in
theorem l2Body_over (p : Pg) (hk : p.kind = 4) (ka : Option Addr) (kc : Nat) (ea : Option Addr) (ec : Nat) (hd : p.data.size ≤ maxLen) (low last : Int) (w : World) (hkl : p.ks.length ≤ maxLen) (hel : p.es.length ≤ maxLen) :
    Calls Try.prog 39 #[.agg #[.int .i64 p.kind, .int .i64 p.tx, .int .i64 p.id, .int .i64 p.root, .int .i64 p.count, .slice ka p.ks.length kc, .slice ea p.es.length ec, .int .i64 p.next, .string p.data], .int .i64 low, .int .i64 last] w fun e w' => e = .returned (.bool (overOk low last p)) ∧ Below w.heap.size w w' := by
  obtain ⟨kind, tx, id, root, count, ks, es, next, data⟩ := p
  simp only at hk hd hkl hel ⊢
  subst hk
  unfold maxLen at hd hkl hel
  go_enter Try.func39, Try.ntmps39
  go_wp2_with (go_at_call 38; refine (l1In_any _ _ _ _).mono ?_; rintro e w1 ⟨rfl, rfl⟩)
  all_goals go_ret
  all_goals refine ⟨?_, (Below.refl _ _).alloc (Nat.le_refl _) _⟩
  all_goals simp [overOk, noMeta, inB, *]
  all_goals first | omega | (rw [Bool.eq_iff_iff]; simp [*]; omega)
end Go.Proofs.Ytcmhobbpeaeebaa
