import Derived.Test.YtmmdkjeoadlikaaMkD
import Derived.Test.YtmmdkjeoadlikaaFls
import Derived.Deep.RegionHeld3
namespace Go.Proofs.Ytmmdkjeoadlikaa
open Go.RowKit
set_option linter.unusedVariables false
set_option maxRecDepth 100000

/-- One write more, its bytes in a new row. -/
theorem OwnP.push {w0 w1 w2 w3 : World} {base : Nat} {v v' vb : Value} {fs : List PP} {xs vs : List Value} {f : PP} (h : OwnP w0 base v fs xs vs) (hbase : base ≤ w0.heap.size) (hb : Below w0.heap.size w0 w1)
    (hvb : w1.ownsRow w0.heap.size 5 1 vb f.2.2.length (u8s f.2.2)) (hs : f.1.size ≤ maxLen) (hpg : -9223372036854775808 ≤ f.2.1 ∧ f.2.1 ≤ 9223372036854775807) (hby : ∀ x ∈ f.2.2, 0 ≤ x ∧ x ≤ 255) (hb2 : Below w1.heap.size w1 w2)
    (hrow : w3.ownsRow base 77 3 v' (fs.length + 1) (xs ++ [.string f.1, .int .i64 f.2.1, vb])) (hgr : w2.grownBy w3 v.ownBlock) : OwnP w3 base v' (fs ++ [f]) (xs ++ [.string f.1, .int .i64 f.2.1, vb]) (vs ++ [vb]) := by
  have h1 := (h.below hb).below hb2
  have hvb2 := owns_below hvb hb2
  have hx := h.row.1
  have hbb : w3.ownsRow base 5 1 vb f.2.2.length (u8s f.2.2) := by
    have := hvb2.kept hgr (own_ne2 (by decide) h1.row hvb2)
    refine ⟨this.1, ?_⟩
    rcases this.2 with hn | ⟨g, cap, cur, e1, e2, e3⟩
    · exact .inl hn
    · exact .inr ⟨g, cap, cur, e1, Nat.le_trans hbase e2, e3⟩
  have hvl := h.len
  refine ⟨by simpa using hrow, by simp [hvl], ?_, ?_, ?_, ?_, ?_, ?_⟩
  · intro j hj
    simp at hj
    by_cases hjk : j < fs.length
    · rw [getD_snoc_lt _ _ _ _ hjk, List.getElem?_append_left (by omega)]; exact h.name j hjk
    · obtain rfl : j = fs.length := by omega
      rw [getD_snoc_eq, List.getElem?_append_right (by omega)]
      exact ⟨by simp [hx], hs⟩
  · intro j hj
    simp at hj
    by_cases hjk : j < fs.length
    · rw [getD_snoc_lt _ _ _ _ hjk, List.getElem?_append_left (by omega)]; exact h.page j hjk
    · obtain rfl : j = fs.length := by omega
      rw [getD_snoc_eq, List.getElem?_append_right (by omega)]
      exact ⟨by simp [hx], hpg⟩
  · intro j hj
    simp at hj
    by_cases hjk : j < fs.length
    · rw [getD_snoc_lt _ _ _ _ (by omega), List.getElem?_append_left (by omega)]; exact h.val j hjk
    · obtain rfl : j = fs.length := by omega
      rw [show fs.length = vs.length from hvl.symm, getD_snoc_eq, List.getElem?_append_right (by omega)]
      simp [hx, hvl]
  · intro j hj
    simp at hj
    by_cases hjk : j < fs.length
    · rw [getD_snoc_lt _ _ _ _ (by omega), getD_snoc_lt _ _ _ _ hjk]
      exact (h1.data j hjk).kept hgr (own_ne2 (by decide) h1.row (h1.data j hjk))
    · obtain rfl : j = fs.length := by omega
      rw [getD_snoc_eq, show fs.length = vs.length from hvl.symm, getD_snoc_eq]
      exact hbb
  · intro j hj
    simp at hj
    by_cases hjk : j < fs.length
    · rw [getD_snoc_lt _ _ _ _ hjk]; exact h.byte j hjk
    · obtain rfl : j = fs.length := by omega
      rw [getD_snoc_eq]; exact hby
  · intro i j hij hj g hg
    simp at hj
    rw [getD_snoc_lt _ _ _ _ (by omega)] at hg
    by_cases hjk : j < fs.length
    · rw [getD_snoc_lt _ _ _ _ (by omega)]; exact h.apart i j hij hjk g hg
    · obtain rfl : j = fs.length := by omega
      rw [show fs.length = vs.length from hvl.symm, getD_snoc_eq]
      intro e
      have e1 := (hvb.lt g e).1
      have e2 := ((h.data i (by omega)).lt g hg).2
      omega

end Go.Proofs.Ytmmdkjeoadlikaa
