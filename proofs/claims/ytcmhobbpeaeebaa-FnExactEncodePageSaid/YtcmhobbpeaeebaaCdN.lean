import Derived.Test.YtcmhobbpeaeebaaPgN
import Derived.Test.YtcmhobbpeaeebaaEnP
namespace Go.Proofs.Ytcmhobbpeaeebaa
open Go.RowKit
set_option linter.unusedVariables false
set_option maxRecDepth 100000

theorem codeN_len (p : Pg) : (newCodeOf p).length ≤ 128 := by
  unfold newCodeOf
  split
  · rename_i h
    have hl := bodyB_len false h.2
    rw [New.seal_len _ (by simp [newHead, leB_len]; omega)]
    omega
  · simp
theorem codeN_byte (p : Pg) : ∀ x ∈ newCodeOf p, 0 ≤ x ∧ x ≤ 255 := by
  unfold newCodeOf
  split
  · rename_i h
    have hk := body_kind h.2
    have hc := body_count h.2
    have hb : ∀ x ∈ newHead p, 0 ≤ x ∧ x ≤ 255 := bytes_app (bytes_app (leB_byte _ _) (by intro x hx; simp at hx; omega)) (bodyB_byte false h.2)
    exact bytes_app (bytes_app (New.padB_byte hb) (leB_byte _ _)) (leB_byte _ _)
  · intro x hx; cases hx

end Go.Proofs.Ytcmhobbpeaeebaa
