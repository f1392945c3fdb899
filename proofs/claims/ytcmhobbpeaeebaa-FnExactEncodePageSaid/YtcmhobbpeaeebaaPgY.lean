import Derived.Test.YtcmhobbpeaeebaaPgX
namespace Go.Proofs.Ytcmhobbpeaeebaa
open Go.RowKit
set_option linter.unusedVariables false
set_option maxRecDepth 100000

def padB (n : Nat) (l : List Int) : List Int := l ++ List.replicate (n - l.length) 0
def sumI (l : List Int) : Int := l.foldl (· + ·) 0
def oldCode (p : Pg) : List Int :=
  padB 127 ([79, p.kind, ((p.ks.length + p.es.length : Nat) : Int)] ++ bodyB true p) ++ [sumI (padB 127 ([79, p.kind, ((p.ks.length + p.es.length : Nat) : Int)] ++ bodyB true p)) % 256]
def oldCodeOf (p : Pg) : List Int := if p.tx = 0 ∧ bodyOk 1 998 p = true then oldCode p else []

theorem body_count {low last : Int} {p : Pg} (h : bodyOk low last p = true) : p.ks.length + p.es.length ≤ 255 := by
  unfold bodyOk at h
  split at h
  · simp [metaOk] at h; have h1 := h.1.1.1.2; have h2 := h.1.1.2; simp [h1, h2]
  · split at h
    · have := (branch_sizes h).1; simp [branchOk] at h; have h2 := h.1.1.1.1.1.1.2; simp [h2]; omega
    · split at h
      · have := (leaf_sizes h).1; simp [leafOk] at h; have h2 := h.1.1.1.1.2; simp [h2]; omega
      · split at h
        · simp [overOk] at h; have h1 := h.1.1.1.1.2; have h2 := h.1.1.1.2; simp [h1, h2]
        · cases h
theorem body_kind {low last : Int} {p : Pg} (h : bodyOk low last p = true) : 0 ≤ p.kind ∧ p.kind ≤ 255 := by
  unfold bodyOk at h
  split at h
  · omega
  · split at h
    · omega
    · split at h
      · omega
      · split at h
        · omega
        · cases h
theorem textB_byte {s : ByteArray} (h : s.size ≤ 255) : ∀ x ∈ textB s, 0 ≤ x ∧ x ≤ 255 := by
  intro x hx
  rcases List.mem_cons.1 hx with rfl | hx
  · omega
  · exact strB_byte s x hx
theorem bytes_app {a b : List Int} (ha : ∀ x ∈ a, 0 ≤ x ∧ x ≤ 255) (hb : ∀ x ∈ b, 0 ≤ x ∧ x ≤ 255) : ∀ x ∈ a ++ b, 0 ≤ x ∧ x ≤ 255 := by
  intro x hx
  rcases List.mem_append.1 hx with h | h
  · exact ha x h
  · exact hb x h
theorem kidsB_byte (hi : Bool) (nw : Nat) (ks : List PK) : ∀ n, (∀ i, i < n → 0 < i → (ks.getD i dK).1.size ≤ 8) → ∀ x ∈ kidsB hi nw ks n, 0 ≤ x ∧ x ≤ 255
  | 0, _ => by intro x hx; cases hx
  | n + 1, h => by
    refine bytes_app (kidsB_byte hi nw ks n (fun i h1 h2 => h i (by omega) h2)) (bytes_app ?_ (numB_byte _ _ _))
    split
    · rename_i h0; exact textB_byte (by have := h n (by omega) h0; omega)
    · intro x hx; cases hx
theorem entsB_byte (hi : Bool) (nw : Nat) (es : List PE) : ∀ n, (∀ i, i < n → (es.getD i dE).1.size ≤ 8 ∧ (es.getD i dE).2.1.size ≤ 8) → ∀ x ∈ entsB hi nw es n, 0 ≤ x ∧ x ≤ 255
  | 0, _ => by intro x hx; cases hx
  | n + 1, h => by
    have h8 := h n (by omega)
    refine bytes_app (entsB_byte hi nw es n (fun i h1 => h i (by omega))) (bytes_app (bytes_app (textB_byte (by omega)) ?_) ?_)
    · split
      · intro x hx; have := List.eq_of_mem_replicate hx; omega
      · intro x hx; cases hx
    · split
      · intro x hx
        rcases List.mem_cons.1 hx with rfl | hx
        · omega
        · exact textB_byte (by omega) x hx
      · intro x hx
        rcases List.mem_cons.1 hx with rfl | hx
        · omega
        · exact bytes_app (numB_byte _ _ _) (numB_byte _ _ _) x hx
theorem bodyB_byte (hi : Bool) {low last : Int} {p : Pg} (h : bodyOk low last p = true) : ∀ x ∈ bodyB hi p, 0 ≤ x ∧ x ≤ 255 := by
  unfold bodyOk at h
  unfold bodyB
  split at h
  · rename_i h1; rw [if_pos h1]
    cases hi
    · exact bytes_app (bytes_app (bytes_app (leB_byte _ _) (leB_byte _ _)) (leB_byte _ _)) (by intro x hx; simp at hx; omega)
    · exact bytes_app (bytes_app (beB_byte _ _) (beB_byte _ _)) (beB_byte _ _)
  · rename_i h1
    rw [if_neg h1]
    split at h
    · rename_i h2; rw [if_pos h2]; exact kidsB_byte _ _ _ _ (branch_sizes h).2
    · rename_i h2; rw [if_neg h2]
      split at h
      · rename_i h3; rw [if_pos h3]; exact entsB_byte _ _ _ _ (leaf_sizes h).2
      · rename_i h3; rw [if_neg h3]
        split at h
        · rename_i h4; rw [if_pos h4]
          exact bytes_app (numB_byte _ _ _) (textB_byte (by have := over_size h; omega))
        · cases h
theorem bytesAt_row {w : World} {base n c : Nat} {a : Option Addr} {bs : List Int} (h : w.ownsRow base 5 1 (.slice a n c) n (u8s bs)) (hw : ∀ x ∈ bs, 0 ≤ x ∧ x ≤ 255) : BytesAt w base w.heap.size a n c bs := by
  have hn : n = bs.length := by have := h.1; simp [u8s] at this; omega
  subst hn
  obtain ⟨a', n', c', hv, hB⟩ := bytesAt_of_own h hw
  injection hv with h1 h2 h3
  subst h1 h2 h3
  exact hB

theorem getD_byteB {bs : List Int} (hw : ∀ x ∈ bs, 0 ≤ x ∧ x ≤ 255) (k : Nat) : 0 ≤ bs.getD k 0 ∧ bs.getD k 0 ≤ 255 := by
  by_cases h : k < bs.length
  · rw [show bs.getD k 0 = bs[k] by simp [List.getD, h]]; exact hw _ (List.getElem_mem h)
  · rw [show bs.getD k 0 = 0 by simp [List.getD, Nat.le_of_not_lt h]]; omega
theorem sumI_take {l : List Int} {k : Nat} (h : k < l.length) : sumI (l.take (k + 1)) = sumI (l.take k) + l.getD k 0 := by
  rw [sumI, ← List.take_append_getElem h, List.foldl_append]
  simp [sumI, List.getD, h]
end Go.Proofs.Ytcmhobbpeaeebaa
