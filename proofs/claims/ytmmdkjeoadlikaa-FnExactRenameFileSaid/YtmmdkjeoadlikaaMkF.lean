import Derived.Test.YtmmdkjeoadlikaaMk
import Derived.Test.YtmmdkjeoadlikaaEdt
namespace Go.Proofs.Ytmmdkjeoadlikaa
open Go.RowKit
set_option linter.unusedVariables false
set_option maxRecDepth 100000

/-- What marking files makes of them, and the number that is next. -/
def markF : Nat → List PF → List PF
  | _, [] => []
  | k, f :: r => (mkS k, marks (k + 1) f.2.length) :: markF (k + 1 + f.2.length) r
def kF : Nat → List PF → Nat
  | k, [] => k
  | k, f :: r => kF (k + 1 + f.2.length) r
theorem kF_snoc (k : Nat) (l : List PF) (f : PF) : kF k (l ++ [f]) = kF k l + 1 + f.2.length := by
  induction l generalizing k with
  | nil => rfl
  | cons a r ih => simp only [List.cons_append, kF]; exact ih _
theorem markF_snoc (k : Nat) (l : List PF) (f : PF) : markF k (l ++ [f]) = markF k l ++ [(mkS (kF k l), marks (kF k l + 1) f.2.length)] := by
  induction l generalizing k with
  | nil => rfl
  | cons a r ih => simp only [List.cons_append, markF, kF]; rw [ih]
theorem markF_length (k : Nat) (l : List PF) : (markF k l).length = l.length := by
  induction l generalizing k with
  | nil => rfl
  | cons a r ih => simp only [markF, List.length_cons, ih]
theorem kF_le (k : Nat) (l : List PF) : k + l.length ≤ kF k l := by
  induction l generalizing k with
  | nil => simp [kF]
  | cons a r ih => have := ih (k + 1 + a.2.length); simp only [kF, List.length_cons]; omega
theorem kF_append (k : Nat) (a b : List PF) : kF k (a ++ b) = kF (kF k a) b := by
  induction a generalizing k with
  | nil => rfl
  | cons x r ih => simp only [List.cons_append, kF]; exact ih _
def stF (k : Nat) (fs : List PF) (j : Nat) : List PF := markF k (fs.take j) ++ fs.drop j
theorem stF_length (k : Nat) (fs : List PF) (j : Nat) (h : j ≤ fs.length) : (stF k fs j).length = fs.length := by
  simp [stF, markF_length]; omega
theorem stF_get (k : Nat) (fs : List PF) (j : Nat) (h : j < fs.length) (d : PF) : (stF k fs j).getD j d = fs[j] := by
  have h1 : (markF k (fs.take j)).length = j := by rw [markF_length, List.length_take]; omega
  simp [stF, List.getD, List.getElem?_append_right, h1, h]
theorem stF_succ (k : Nat) (fs : List PF) (j : Nat) (h : j < fs.length) : stF k fs (j + 1) = (stF k fs j).set j (mkS (kF k (fs.take j)), marks (kF k (fs.take j) + 1) fs[j].2.length) := by
  have h1 : (markF k (fs.take j)).length = j := by rw [markF_length, List.length_take]; omega
  unfold stF
  rw [List.set_append_right _ _ (by omega), h1, Nat.sub_self, List.drop_eq_getElem_cons h, List.set_cons_zero, List.take_succ_eq_append_getElem h, markF_snoc]
  simp
theorem kF_take (k : Nat) (fs : List PF) (j : Nat) (h : j < fs.length) : kF k (fs.take (j + 1)) = kF k (fs.take j) + 1 + fs[j].2.length := by
  rw [List.take_succ_eq_append_getElem h, kF_snoc]
theorem kF_take_le (k : Nat) (fs : List PF) (j : Nat) : kF k (fs.take j) ≤ kF k fs := by
  have h1 : kF k fs = kF (kF k (fs.take j)) (fs.drop j) := by rw [← kF_append, List.take_append_drop]
  have := kF_le (kF k (fs.take j)) (fs.drop j)
  omega
theorem mkS_size (k : Nat) : (mkS k).size ≤ maxLen := by
  have hd : ∀ f k (o : List UInt8), (digF f k o).length ≤ f + o.length := by
    intro f
    induction f with
    | zero => intro k o; simp [digF]
    | succ f ih =>
      intro k o
      unfold digF
      split
      · omega
      · have := ih (k / 10) (UInt8.ofNat (48 + k % 10) :: o); rw [List.length_cons] at this; omega
  unfold mkS
  split
  · show 2 ≤ maxLen; unfold maxLen; omega
  · have := hd 40 k []
    show ((109 :: digF 40 k []).toArray).size ≤ maxLen
    unfold maxLen
    simp at this ⊢; omega

/-- A file's name is stored. -/
theorem OwnF.rename {w : World} {base g n c i : Nat} {fs : List PF} {xs vs : List Value} {nm : ByteArray} (h : OwnF w base (.slice (some ⟨g, 0, none⟩) n c) fs xs vs) (hi : i < fs.length) (hs : nm.size ≤ maxLen) :
    OwnF (w.setCell ⟨g, i * 2, none⟩ (.string nm)) base (.slice (some ⟨g, 0, none⟩) n c) (fs.set i (nm, (fs.getD i (ByteArray.empty, [])).2)) (xs.set (i * 2) (.string nm)) vs ∧ w.grownBy (w.setCell ⟨g, i * 2, none⟩ (.string nm)) (some g) := by
  have hvl := h.len
  have hx := h.row.1
  obtain ⟨hn, hrow⟩ : fs.length = n ∧ w.ownsRow base 83 2 (.slice (some ⟨g, 0, none⟩) n c) fs.length xs := by
    refine ⟨?_, h.row⟩
    rcases h.row.2 with ⟨h', _⟩ | ⟨g', cap', cur, h', _⟩
    · simp at h'
    · simp at h'; omega
  subst hn
  obtain ⟨hst, hsg⟩ := hrow.stored (i * 2) (.string nm)
  have hne : ∀ {b2 m : Nat} {u : Value} {ys : List Value}, w.ownsRow b2 5 1 u m ys → (w.setCell ⟨g, i * 2, none⟩ (.string nm)).ownsRow b2 5 1 u m ys := fun hk => hk.kept hsg (own_ne hrow hk)
  refine ⟨⟨by simpa using hst, by simp [hvl], ?_, ?_, ?_, ?_, ?_⟩, hsg⟩
  · intro j hj
    simp at hj
    rw [getD_set _ _ _ _ _ hi]
    split
    · rename_i e; subst e; rw [List.getElem?_set_self (by omega)]; exact ⟨rfl, hs⟩
    · rw [List.getElem?_set_ne (by omega)]; exact h.name j hj
  · intro j hj
    simp at hj
    rw [List.getElem?_set_ne (by omega)]; exact h.val j hj
  · intro j hj
    simp at hj
    rw [getD_set _ _ _ _ _ hi]
    split
    · rename_i e; subst e; exact hne (h.data j hj)
    · exact hne (h.data j hj)
  · intro j hj
    simp at hj
    rw [getD_set _ _ _ _ _ hi]
    split
    · rename_i e; subst e; exact h.byte j hj
    · exact h.byte j hj
  · intro a b hab hb k hk
    simp at hb
    exact h.apart a b hab hb k hk

/-- A file's bytes are written over where they lie. -/
theorem OwnF.over {w w' : World} {base i : Nat} {v : Value} {fs : List PF} {xs vs : List Value} {l : List Int} (h : OwnF w base v fs xs vs) (hi : i < fs.length) (hr : w'.ownsRow base 5 1 (vs.getD i (.slice none 0 0)) l.length (u8s l)) (hg : w.grownBy w' (vs.getD i (.slice none 0 0)).ownBlock) (hl : ∀ x ∈ l, 0 ≤ x ∧ x ≤ 255) :
    OwnF w' base v (fs.set i ((fs.getD i (ByteArray.empty, [])).1, l)) xs vs := by
  have hvl := h.len
  have hrow := h.row.kept hg (by
      rcases own_ne h.row (h.data i hi) with h1 | h1
      · rw [h1]
        cases v.ownBlock
        · exact .inl rfl
        · exact .inr (by simp)
      · exact .inr (Ne.symm h1))
  refine ⟨by simpa using hrow, by simp [hvl], ?_, ?_, ?_, ?_, ?_⟩
  · intro j hj
    simp at hj
    rw [getD_set _ _ _ _ _ hi]
    split
    · rename_i e; subst e; exact h.name j hj
    · exact h.name j hj
  · intro j hj
    simp at hj
    exact h.val j hj
  · intro j hj
    simp at hj
    rw [getD_set _ _ _ _ _ hi]
    split
    · rename_i e; subst e; exact hr
    · rename_i e
      refine (h.data j hj).kept hg ?_
      cases hb : (vs.getD j (.slice none 0 0)).ownBlock
      · exact .inl rfl
      · exact .inr (fun e2 => h.apart2 (i := j) (j := i) (by omega) hj hi hb e2.symm)
  · intro j hj
    simp at hj
    rw [getD_set _ _ _ _ _ hi]
    split
    · exact hl
    · exact h.byte j hj
  · intro a b hab hb k hk
    simp at hb
    exact h.apart a b hab hb k hk

/-- The blocks of a list. -/
def Blk (v : Value) (vs : List Value) (g : Nat) : Prop := v.ownBlock = some g ∨ ∃ j, j < vs.length ∧ (vs.getD j (.slice none 0 0)).ownBlock = some g
theorem OwnF.fr {S : Nat → Prop} {w w' : World} {base : Nat} {v : Value} {fs : List PF} {xs vs : List Value} (h : OwnF w base v fs xs vs) (hf : Fr S w w') (hS : ∀ g, Blk v vs g → ¬ S g) : OwnF w' base v fs xs vs :=
  ⟨owns_fr h.row hf (fun g hg => hS g (.inl hg)), h.len, h.name, h.val, fun j hj => owns_fr (h.data j hj) hf (fun g hg => hS g (.inr ⟨j, by rw [h.len]; exact hj, hg⟩)), h.byte, h.apart⟩
theorem marks_length (k n : Nat) : (marks k n).length = n := by simp [marks]
end Go.Proofs.Ytmmdkjeoadlikaa
