import Derived.Test.YtmmdkjeoadlikaaApp
namespace Go.Proofs.Ytmmdkjeoadlikaa
open Go.RowKit
set_option linter.unusedVariables false
set_option maxRecDepth 100000

theorem getD_ins {α : Type} (l : List α) (x d : α) (p j : Nat) (hp : p ≤ l.length) : (l.take p ++ x :: l.drop p).getD j d = if j < p then l.getD j d else if j = p then x else l.getD (j - 1) d := by
  simp only [List.getD]
  by_cases h1 : j < p
  · rw [if_pos h1, List.getElem?_append_left (by simp; omega), List.getElem?_take, if_pos h1]
  · rw [if_neg h1, List.getElem?_append_right (by simp; omega)]
    by_cases h2 : j = p
    · subst h2; simp [Nat.min_eq_left hp]
    · rw [if_neg h2]
      have : j - (l.take p).length = (j - 1 - p) + 1 := by simp [Nat.min_eq_left hp]; omega
      rw [this, List.getElem?_cons_succ, List.getElem?_drop]
      congr 2; omega
theorem cells_ins (xs : List Value) (s u : Value) (n p : Nat) (hx : xs.length = n * 2) (hp : p ≤ n) (j : Nat) :
    (xs.take (p * 2) ++ [s, u] ++ xs.drop (p * 2))[j * 2]? = (if j < p then xs[j * 2]? else if j = p then some s else xs[(j - 1) * 2]?) ∧
    (xs.take (p * 2) ++ [s, u] ++ xs.drop (p * 2))[j * 2 + 1]? = (if j < p then xs[j * 2 + 1]? else if j = p then some u else xs[(j - 1) * 2 + 1]?) := by
  have hl : (xs.take (p * 2)).length = p * 2 := by simp; omega
  by_cases h1 : j < p
  · rw [if_pos h1, if_pos h1, List.append_assoc, List.getElem?_append_left (by omega), List.getElem?_append_left (by omega), List.getElem?_take, List.getElem?_take, if_pos (by omega), if_pos (by omega)]
    exact ⟨rfl, rfl⟩
  · have key : ∀ q, p * 2 ≤ q → (xs.take (p * 2) ++ [s, u] ++ xs.drop (p * 2))[q]? = ([s, u] ++ xs.drop (p * 2))[q - p * 2]? := by
      intro q hq
      rw [List.append_assoc, List.getElem?_append_right (by omega), hl]
    rw [if_neg h1, if_neg h1, key _ (by omega), key _ (by omega)]
    by_cases h2 : j = p
    · subst h2
      rw [if_pos rfl, if_pos rfl, show j * 2 - j * 2 = 0 by omega, show j * 2 + 1 - j * 2 = 1 by omega]
      exact ⟨rfl, rfl⟩
    · have k2 : ∀ q, 2 ≤ q → ([s, u] ++ xs.drop (p * 2))[q]? = xs[p * 2 + (q - 2)]? := by
        intro q hq
        rw [List.getElem?_append_right (by simpa using hq), List.getElem?_drop]; simp
      rw [if_neg h2, if_neg h2, k2 _ (by omega), k2 _ (by omega)]
      exact ⟨by congr 1; omega, by congr 1; omega⟩

theorem OwnF.apart2 {w : World} {base : Nat} {v : Value} {fs : List PF} {xs vs : List Value} (h : OwnF w base v fs xs vs) {i j g : Nat} (hij : i ≠ j) (hi : i < fs.length) (hj : j < fs.length) (hg : (vs.getD i (.slice none 0 0)).ownBlock = some g) : (vs.getD j (.slice none 0 0)).ownBlock ≠ some g := by
  by_cases hlt : i < j
  · exact h.apart i j hlt hj g hg
  · intro e
    exact h.apart j i (by omega) hi g e hg

/-- A file more, in its place: it has no bytes yet. -/
theorem OwnF.insert {w w' : World} {base B' : Nat} {v v' : Value} {fs : List PF} {xs vs : List Value} {nm : ByteArray} {p : Nat} (h : OwnF w base v fs xs vs) (hb : Below w.heap.size w w') (hp : p ≤ fs.length) (hB : base ≤ B') (hs : nm.size ≤ maxLen)
    (hrow : w'.ownsRow B' 83 2 v' (fs.length + 1) (xs.take (p * 2) ++ [.string nm, .slice none 0 0] ++ xs.drop (p * 2))) :
    OwnF w' base v' (fs.take p ++ (nm, []) :: fs.drop p) (xs.take (p * 2) ++ [.string nm, .slice none 0 0] ++ xs.drop (p * 2)) (vs.take p ++ .slice none 0 0 :: vs.drop p) := by
  have h1 := h.below hb
  have hvl := h.len
  have hfl : (fs.take p ++ (nm, []) :: fs.drop p).length = fs.length + 1 := by simp; omega
  have hx := h.row.1
  refine ⟨by rw [hfl]; exact own_lower hrow hB, by rw [hfl]; simp; omega, ?_, ?_, ?_, ?_, ?_⟩
  · intro j hj
    rw [hfl] at hj
    rw [getD_ins _ _ _ _ _ hp, (cells_ins xs _ _ fs.length p hx hp j).1]
    split
    · exact h.name j (by omega)
    · split
      · exact ⟨rfl, hs⟩
      · exact h.name (j - 1) (by omega)
  · intro j hj
    rw [hfl] at hj
    rw [getD_ins _ _ _ _ _ (by omega), (cells_ins xs _ _ fs.length p hx hp j).2]
    split
    · exact h.val j (by omega)
    · split
      · rfl
      · exact h.val (j - 1) (by omega)
  · intro j hj
    rw [hfl] at hj
    rw [getD_ins _ _ _ _ _ hp, getD_ins _ _ _ _ _ (by omega)]
    split
    · exact h1.data j (by omega)
    · split
      · exact World.ownsRow_nil _ _ _ _
      · exact h1.data (j - 1) (by omega)
  · intro j hj
    rw [hfl] at hj
    rw [getD_ins _ _ _ _ _ hp]
    split
    · exact h.byte j (by omega)
    · split
      · intro x hx; cases hx
      · exact h.byte (j - 1) (by omega)
  · intro i j hij hj g hg
    rw [hfl] at hj
    rw [getD_ins _ _ _ _ _ (by omega)] at hg ⊢
    split at hg
    · split
      · exact h.apart2 (by omega) (by omega) (by omega) hg
      · split
        · simp [Value.ownBlock]
        · exact h.apart2 (by omega) (by omega) (by omega) hg
    · split at hg
      · simp [Value.ownBlock] at hg
      · rw [if_neg (by omega), if_neg (by omega)]
        exact h.apart2 (by omega) (by omega) (by omega) hg

theorem getD_set {α : Type} (l : List α) (x d : α) (i j : Nat) (hi : i < l.length) : (l.set i x).getD j d = if j = i then x else l.getD j d := by
  simp only [List.getD]
  by_cases h : j = i
  · subst h; rw [if_pos rfl, List.getElem?_set_self hi]; rfl
  · rw [if_neg h, List.getElem?_set_ne (by omega)]

/-- One file's bytes are new, and their slice is stored back. -/
theorem OwnF.edit {w1 wr : World} {base g n c i : Nat} {bv : Value} {fs : List PF} {xs vs : List Value} {l : List Int} (h : OwnF w1 base (.slice (some ⟨g, 0, none⟩) n c) fs xs vs) (hi : i < fs.length) (he : Edit w1 wr base (vs.getD i (.slice none 0 0)) bv l) (hl : ∀ x ∈ l, 0 ≤ x ∧ x ≤ 255) :
    OwnF (wr.setCell ⟨g, i * 2 + 1, none⟩ bv) base (.slice (some ⟨g, 0, none⟩) n c) (fs.set i ((fs.getD i (ByteArray.empty, [])).1, l)) (xs.set (i * 2 + 1) bv) (vs.set i bv) := by
  have hvl := h.len
  have hx := h.row.1
  have hrow0 := h.row
  obtain ⟨hn, hrow⟩ : fs.length = n ∧ wr.ownsRow base 83 2 (.slice (some ⟨g, 0, none⟩) n c) fs.length xs := by
    have hk := h.row.kept he.grown (by
      rcases own_ne h.row (h.data i hi) with h1 | h1
      · exact .inr (by rw [h1]; simp [Value.ownBlock])
      · exact .inr (Ne.symm h1))
    refine ⟨?_, hk⟩
    rcases hk.2 with ⟨h', _⟩ | ⟨g', cap', cur, h', _⟩
    · simp at h'
    · simp at h'; omega
  subst hn
  obtain ⟨hst, hsg⟩ := hrow.stored (i * 2 + 1) bv
  have hne : ∀ {b2 m : Nat} {u : Value} {ys : List Value}, wr.ownsRow b2 5 1 u m ys → (wr.setCell ⟨g, i * 2 + 1, none⟩ bv).ownsRow b2 5 1 u m ys := fun hk => hk.kept hsg (own_ne hrow hk)
  refine ⟨by simpa using hst, by simp [hvl], ?_, ?_, ?_, ?_, ?_⟩
  · intro j hj
    simp at hj
    rw [getD_set _ _ _ _ _ hi, List.getElem?_set_ne (by omega)]
    split
    · rename_i e; subst e; exact h.name j hj
    · exact h.name j hj
  · intro j hj
    simp at hj
    rw [getD_set _ _ _ _ _ (by omega)]
    split
    · rename_i e; subst e; rw [List.getElem?_set_self (by omega)]
    · rw [List.getElem?_set_ne (by omega)]; exact h.val j hj
  · intro j hj
    simp at hj
    rw [getD_set _ _ _ _ _ hi, getD_set _ _ _ _ _ (by omega)]
    split
    · exact hne he.row
    · rename_i e
      refine hne ((h.data j hj).kept he.grown ?_)
      cases hb : (vs.getD j (.slice none 0 0)).ownBlock
      · exact .inl rfl
      · rename_i k
        exact .inr (fun e2 => h.apart2 (i := j) (j := i) (by omega) hj hi hb e2.symm)
  · intro j hj
    simp at hj
    rw [getD_set _ _ _ _ _ hi]
    split
    · exact hl
    · exact h.byte j hj
  · intro a b hab hb k hk
    simp at hb
    rw [getD_set _ _ _ _ _ (by omega)] at hk ⊢
    split at hk
    · rename_i e; subst e
      rw [if_neg (by omega)]
      rcases he.at_ with h1 | h1
      · exact h.apart2 (by omega) hi (by omega) (h1 ▸ hk)
      · intro e2
        have := ((h.data b (by omega)).lt k e2).2
        have := h1 k hk
        omega
    · rename_i e
      split
      · rename_i e3; subst e3
        intro e2
        rcases he.at_ with h1 | h1
        · exact h.apart2 (i := a) (j := b) (by omega) (by omega) (by omega) hk (h1 ▸ e2)
        · have := ((h.data a (by omega)).lt k hk).2
          have := h1 k e2
          omega
      · exact h.apart2 (by omega) (by omega) (by omega) hk
end Go.Proofs.Ytmmdkjeoadlikaa
