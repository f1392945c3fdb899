import Derived.Test.YtpiadgjkljdbcaaPgO
import Derived.Test.YtpiadgjkljdbcaaEnO
namespace Go.Proofs.Ytpiadgjkljdbcaa
open Go.RowKit
set_option linter.unusedVariables false
set_option maxRecDepth 100000

theorem code_len (p : Pg) : (oldCodeOf p).length ≤ 128 := by
  unfold oldCodeOf
  split
  · rename_i h
    have := bodyB_len true h.2
    simp [oldCode, padB]
    omega
  · simp
theorem code_byte (p : Pg) : ∀ x ∈ oldCodeOf p, 0 ≤ x ∧ x ≤ 255 := by
  unfold oldCodeOf
  split
  · rename_i h
    have hk := body_kind h.2
    have hc := body_count h.2
    have hb : ∀ x ∈ [79, p.kind, ((p.ks.length + p.es.length : Nat) : Int)] ++ bodyB true p, 0 ≤ x ∧ x ≤ 255 := bytes_app (by intro x hx; simp at hx; omega) (bodyB_byte true h.2)
    exact bytes_app (Old.padB_byte hb) (by intro x hx; simp at hx; omega)
  · intro x hx; cases hx

end Go.Proofs.Ytpiadgjkljdbcaa
