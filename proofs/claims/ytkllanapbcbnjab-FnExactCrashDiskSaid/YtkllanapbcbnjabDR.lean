import Derived.Test.YtkllanapbcbnjabEq
import Derived.Test.YtkllanapbcbnjabHdD
namespace Go.Proofs.Ytkllanapbcbnjab
open Go.RowKit
set_option linter.unusedVariables false
set_option maxRecDepth 100000

theorem box_sixR {w : World} {N : Nat} {v0 v1 v2 v3 v4 v5 : Value} {t : TypeId} (h : w.heap[N]? = some (.cells #[v0, v1, v2, v3, v4, v5] t)) : w.cell? ⟨N, 0, none⟩ = some v0 ∧ w.cell? ⟨N, 1, none⟩ = some v1 ∧ w.cell? ⟨N, 2, none⟩ = some v2 ∧ w.cell? ⟨N, 3, none⟩ = some v3 ∧ w.cell? ⟨N, 4, none⟩ = some v4 ∧ w.cell? ⟨N, 5, none⟩ = some v5 := by
  refine ⟨?_, ?_, ?_, ?_, ?_, ?_⟩ <;> simp [World.cell?, h]
end Go.Proofs.Ytkllanapbcbnjab
