import Derived.Test.YtpiadgjkljdbcaaEnO0
import Derived.Test.YtpiadgjkljdbcaaBo
namespace Go.Proofs.Ytpiadgjkljdbcaa
namespace Old
open Go.RowKit
set_option linter.unusedVariables false
set_option maxRecDepth 100000

theorem owns_raise {w : World} {e size G n c N : Nat} {xs : List Value} (h : w.ownsRow 0 e size (.slice (some ⟨G, 0, none⟩) n c) n xs) (hN : N ≤ G) : w.ownsRow N e size (.slice (some ⟨G, 0, none⟩) n c) n xs := by
  refine ⟨h.1, ?_⟩
  rcases h.2 with ⟨h0, _⟩ | ⟨g, cap, cur, h0, _, rest⟩
  · cases h0
  · injection h0 with h1 _ h4
    injection h1 with h2
    injection h2 with h3
    subst h3 h4
    exact .inr ⟨G, c, cur, rfl, hN, rest⟩
/-- The head of an old page's code, and the code whole. -/
def headO (k c : Int) (b : List Int) : List Int := [79, k, c] ++ b
def sealO (l : List Int) : List Int := padB 127 l ++ [sumI (padB 127 l) % 256]
theorem bytes127 {w : World} {C G k pf gf : Nat} {old : Bool} {L : List Int} (h : Cur w C G old pf gf k L) (hb : ∀ x ∈ L, 0 ≤ x ∧ x ≤ 255) : BytesAt w 0 w.heap.size (some ⟨G, 0, none⟩) 127 128 (L.take 127) := by
  have hl := h.len
  refine ⟨by simp [hl], by omega, by unfold maxLen; omega, fun x hx => hb x (List.mem_of_mem_take hx), fun _ => ⟨G, 0, rfl, ⟨Nat.zero_le _, (h.row.lt G rfl).2⟩, fun i hi => ?_⟩, fun h => by cases h⟩
  rw [Nat.zero_add, h.row.cellAt i (by omega)]
  simp [u8s, List.getD, hi, hl, show i < 128 by omega]
theorem foldl_sum (l : List Int) (a : Int) : l.foldl (· + ·) a = a + l.foldl (· + ·) 0 := by
  induction l generalizing a with
  | nil => simp
  | cons x r ih => simp only [List.foldl_cons]; rw [ih (a + x), ih (0 + x)]; omega
theorem sum_range {l : List Int} {n : Nat} (hb : ∀ x ∈ l, 0 ≤ x ∧ x ≤ 255) (hl : l.length = n) : 0 ≤ sumI l ∧ sumI l ≤ 255 * n := by
  subst hl
  induction l with
  | nil => simp [sumI]
  | cons x r ih =>
    have h1 := hb x (List.mem_cons_self ..)
    have h2 := ih (fun y hy => hb y (List.mem_cons_of_mem _ hy))
    simp only [sumI, List.foldl_cons, List.length_cons] at h2 ⊢
    rw [foldl_sum]
    omega
theorem made128 : (madeCells (Value.int .u8 0).cells (128 * 1)).toList = u8s (List.replicate 128 0) := by kernel_rfl
theorem ahead_meta_valid (a : Addr) (w : World) : (nilAhead 319 180 (.pointer (some a)) "loop.example/s02098/impl.valid").run Try.prog w = .ok (some false) w := by kernel_rfl
theorem ahead_meta_count (a : Addr) (w : World) : (nilAhead 319 180 (.pointer (some a)) "loop.example/s02098/impl.count").run Try.prog w = .ok (some false) w := by kernel_rfl
theorem ahead_meta_write (a : Addr) (w : World) : (nilAhead 319 180 (.pointer (some a)) "loop.example/s02098/impl.write").run Try.prog w = .ok (some false) w := by kernel_rfl
theorem ahead_branch_valid (a : Addr) (w : World) : (nilAhead 319 183 (.pointer (some a)) "loop.example/s02098/impl.valid").run Try.prog w = .ok (some false) w := by kernel_rfl
theorem ahead_branch_count (a : Addr) (w : World) : (nilAhead 319 183 (.pointer (some a)) "loop.example/s02098/impl.count").run Try.prog w = .ok (some false) w := by kernel_rfl
theorem ahead_branch_write (a : Addr) (w : World) : (nilAhead 319 183 (.pointer (some a)) "loop.example/s02098/impl.write").run Try.prog w = .ok (some false) w := by kernel_rfl
theorem ahead_leaf_valid (a : Addr) (w : World) : (nilAhead 319 186 (.pointer (some a)) "loop.example/s02098/impl.valid").run Try.prog w = .ok (some false) w := by kernel_rfl
theorem ahead_leaf_count (a : Addr) (w : World) : (nilAhead 319 186 (.pointer (some a)) "loop.example/s02098/impl.count").run Try.prog w = .ok (some false) w := by kernel_rfl
theorem ahead_leaf_write (a : Addr) (w : World) : (nilAhead 319 186 (.pointer (some a)) "loop.example/s02098/impl.write").run Try.prog w = .ok (some false) w := by kernel_rfl
theorem ahead_over_valid (a : Addr) (w : World) : (nilAhead 319 189 (.pointer (some a)) "loop.example/s02098/impl.valid").run Try.prog w = .ok (some false) w := by kernel_rfl
theorem ahead_over_count (a : Addr) (w : World) : (nilAhead 319 189 (.pointer (some a)) "loop.example/s02098/impl.count").run Try.prog w = .ok (some false) w := by kernel_rfl
theorem ahead_over_write (a : Addr) (w : World) : (nilAhead 319 189 (.pointer (some a)) "loop.example/s02098/impl.write").run Try.prog w = .ok (some false) w := by kernel_rfl
end Old
end Go.Proofs.Ytpiadgjkljdbcaa
