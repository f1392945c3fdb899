import Derived.Test.YtakdaandbdbdnaaGAA
import Derived.Test.YtakdaandbdbdnaaGAB
import Derived.Deep.RegionLaw
import Derived.Deep.RegionHeld3
namespace Go.Proofs.Ytakdaandbdbdnaa
open Go.RowKit
set_option linter.unusedVariables false
set_option maxRecDepth 100000

theorem getD_ins {α : Type} (l : List α) (x d : α) (p j : Nat) (hp : p ≤ l.length) : (l.take p ++ x :: l.drop p).getD j d = if j < p then l.getD j d else if j = p then x else l.getD (j - 1) d := by
  simp only [List.getD]
  by_cases h1 : j < p
  · rw [if_pos h1, List.getElem?_append_left (by simp; omega), List.getElem?_take, if_pos h1]
  · rw [if_neg h1, List.getElem?_append_right (by simp; omega)]
    by_cases h2 : j = p
    · subst h2; simp [Nat.min_eq_left hp]
    · rw [if_neg h2]
      have : j - (l.take p).length = (j - 1 - p) + 1 := by simp [Nat.min_eq_left hp]; omega
      rw [this, List.getElem?_cons_succ, List.getElem?_drop]
      congr 2; omega
theorem cells_ins (xs : List Value) (s u : Value) (n p : Nat) (hx : xs.length = n * 2) (hp : p ≤ n) (j : Nat) :
    (xs.take (p * 2) ++ [s, u] ++ xs.drop (p * 2))[j * 2]? = (if j < p then xs[j * 2]? else if j = p then some s else xs[(j - 1) * 2]?) ∧
    (xs.take (p * 2) ++ [s, u] ++ xs.drop (p * 2))[j * 2 + 1]? = (if j < p then xs[j * 2 + 1]? else if j = p then some u else xs[(j - 1) * 2 + 1]?) := by
  have hl : (xs.take (p * 2)).length = p * 2 := by simp; omega
  by_cases h1 : j < p
  · rw [if_pos h1, if_pos h1, List.append_assoc, List.getElem?_append_left (by omega), List.getElem?_append_left (by omega), List.getElem?_take, List.getElem?_take, if_pos (by omega), if_pos (by omega)]
    exact ⟨rfl, rfl⟩
  · have key : ∀ q, p * 2 ≤ q → (xs.take (p * 2) ++ [s, u] ++ xs.drop (p * 2))[q]? = ([s, u] ++ xs.drop (p * 2))[q - p * 2]? := by
      intro q hq
      rw [List.append_assoc, List.getElem?_append_right (by omega), hl]
    rw [if_neg h1, if_neg h1, key _ (by omega), key _ (by omega)]
    by_cases h2 : j = p
    · subst h2
      rw [if_pos rfl, if_pos rfl, show j * 2 - j * 2 = 0 by omega, show j * 2 + 1 - j * 2 = 1 by omega]
      exact ⟨rfl, rfl⟩
    · have k2 : ∀ q, 2 ≤ q → ([s, u] ++ xs.drop (p * 2))[q]? = xs[p * 2 + (q - 2)]? := by
        intro q hq
        rw [List.getElem?_append_right (by simpa using hq), List.getElem?_drop]; simp
      rw [if_neg h2, if_neg h2, k2 _ (by omega), k2 _ (by omega)]
      exact ⟨by congr 1; omega, by congr 1; omega⟩

theorem OwnF.apart2 {w : World} {base : Nat} {v : Value} {fs : List PF} {xs vs : List Value} (h : OwnF w base v fs xs vs) {i j g : Nat} (hij : i ≠ j) (hi : i < fs.length) (hj : j < fs.length) (hg : (vs.getD i (.slice none 0 0)).ownBlock = some g) : (vs.getD j (.slice none 0 0)).ownBlock ≠ some g := by
  by_cases hlt : i < j
  · exact h.apart i j hlt hj g hg
  · intro e
    exact h.apart j i (by omega) hi g e hg

/-- A file more, in its place: it has no bytes yet. -/
theorem OwnF.insert {w w' : World} {base B' : Nat} {v v' : Value} {fs : List PF} {xs vs : List Value} {nm : ByteArray} {p : Nat} (h : OwnF w base v fs xs vs) (hb : Below w.heap.size w w') (hp : p ≤ fs.length) (hB : base ≤ B') (hs : nm.size ≤ maxLen)
    (hrow : w'.ownsRow B' 92 2 v' (fs.length + 1) (xs.take (p * 2) ++ [.string nm, .slice none 0 0] ++ xs.drop (p * 2))) :
    OwnF w' base v' (fs.take p ++ (nm, []) :: fs.drop p) (xs.take (p * 2) ++ [.string nm, .slice none 0 0] ++ xs.drop (p * 2)) (vs.take p ++ .slice none 0 0 :: vs.drop p) := by
  have h1 := h.below hb
  have hvl := h.len
  have hfl : (fs.take p ++ (nm, []) :: fs.drop p).length = fs.length + 1 := by simp; omega
  have hx := h.row.1
  refine ⟨by rw [hfl]; exact own_lower hrow hB, by rw [hfl]; simp; omega, ?_, ?_, ?_, ?_, ?_⟩
  · intro j hj
    rw [hfl] at hj
    rw [getD_ins _ _ _ _ _ hp, (cells_ins xs _ _ fs.length p hx hp j).1]
    split
    · exact h.name j (by omega)
    · split
      · exact ⟨rfl, hs⟩
      · exact h.name (j - 1) (by omega)
  · intro j hj
    rw [hfl] at hj
    rw [getD_ins _ _ _ _ _ (by omega), (cells_ins xs _ _ fs.length p hx hp j).2]
    split
    · exact h.val j (by omega)
    · split
      · rfl
      · exact h.val (j - 1) (by omega)
  · intro j hj
    rw [hfl] at hj
    rw [getD_ins _ _ _ _ _ hp, getD_ins _ _ _ _ _ (by omega)]
    split
    · exact h1.data j (by omega)
    · split
      · exact World.ownsRow_nil _ _ _ _
      · exact h1.data (j - 1) (by omega)
  · intro j hj
    rw [hfl] at hj
    rw [getD_ins _ _ _ _ _ hp]
    split
    · exact h.byte j (by omega)
    · split
      · intro x hx; cases hx
      · exact h.byte (j - 1) (by omega)
  · intro i j hij hj g hg
    rw [hfl] at hj
    rw [getD_ins _ _ _ _ _ (by omega)] at hg ⊢
    split at hg
    · split
      · exact h.apart2 (by omega) (by omega) (by omega) hg
      · split
        · simp [Value.ownBlock]
        · exact h.apart2 (by omega) (by omega) (by omega) hg
    · split at hg
      · simp [Value.ownBlock] at hg
      · rw [if_neg (by omega), if_neg (by omega)]
        exact h.apart2 (by omega) (by omega) (by omega) hg

theorem getD_set {α : Type} (l : List α) (x d : α) (i j : Nat) (hi : i < l.length) : (l.set i x).getD j d = if j = i then x else l.getD j d := by
  simp only [List.getD]
  by_cases h : j = i
  · subst h; rw [if_pos rfl, List.getElem?_set_self hi]; rfl
  · rw [if_neg h, List.getElem?_set_ne (by omega)]

/-- One file's bytes are new, and their slice is stored back. -/
theorem OwnF.edit {w1 wr : World} {base g n c i : Nat} {bv : Value} {fs : List PF} {xs vs : List Value} {l : List Int} (h : OwnF w1 base (.slice (some ⟨g, 0, none⟩) n c) fs xs vs) (hi : i < fs.length) (he : Edit w1 wr base (vs.getD i (.slice none 0 0)) bv l) (hl : ∀ x ∈ l, 0 ≤ x ∧ x ≤ 255) :
    OwnF (wr.setCell ⟨g, i * 2 + 1, none⟩ bv) base (.slice (some ⟨g, 0, none⟩) n c) (fs.set i ((fs.getD i (ByteArray.empty, [])).1, l)) (xs.set (i * 2 + 1) bv) (vs.set i bv) := by
  have hvl := h.len
  have hx := h.row.1
  have hrow0 := h.row
  obtain ⟨hn, hrow⟩ : fs.length = n ∧ wr.ownsRow base 92 2 (.slice (some ⟨g, 0, none⟩) n c) fs.length xs := by
    have hk := h.row.kept he.grown (by
      rcases own_ne h.row (h.data i hi) with h1 | h1
      · exact .inr (by rw [h1]; simp [Value.ownBlock])
      · exact .inr (Ne.symm h1))
    refine ⟨?_, hk⟩
    rcases hk.2 with ⟨h', _⟩ | ⟨g', cap', cur, h', _⟩
    · simp at h'
    · simp at h'; omega
  subst hn
  obtain ⟨hst, hsg⟩ := hrow.stored (i * 2 + 1) bv
  have hne : ∀ {b2 m : Nat} {u : Value} {ys : List Value}, wr.ownsRow b2 5 1 u m ys → (wr.setCell ⟨g, i * 2 + 1, none⟩ bv).ownsRow b2 5 1 u m ys := fun hk => hk.kept hsg (own_ne hrow hk)
  refine ⟨by simpa using hst, by simp [hvl], ?_, ?_, ?_, ?_, ?_⟩
  · intro j hj
    simp at hj
    rw [getD_set _ _ _ _ _ hi, List.getElem?_set_ne (by omega)]
    split
    · rename_i e; subst e; exact h.name j hj
    · exact h.name j hj
  · intro j hj
    simp at hj
    rw [getD_set _ _ _ _ _ (by omega)]
    split
    · rename_i e; subst e; rw [List.getElem?_set_self (by omega)]
    · rw [List.getElem?_set_ne (by omega)]; exact h.val j hj
  · intro j hj
    simp at hj
    rw [getD_set _ _ _ _ _ hi, getD_set _ _ _ _ _ (by omega)]
    split
    · exact hne he.row
    · rename_i e
      refine hne ((h.data j hj).kept he.grown ?_)
      cases hb : (vs.getD j (.slice none 0 0)).ownBlock
      · exact .inl rfl
      · rename_i k
        exact .inr (fun e2 => h.apart2 (i := j) (j := i) (by omega) hj hi hb e2.symm)
  · intro j hj
    simp at hj
    rw [getD_set _ _ _ _ _ hi]
    split
    · exact hl
    · exact h.byte j hj
  · intro a b hab hb k hk
    simp at hb
    rw [getD_set _ _ _ _ _ (by omega)] at hk ⊢
    split at hk
    · rename_i e; subst e
      rw [if_neg (by omega)]
      rcases he.at_ with h1 | h1
      · exact h.apart2 (by omega) hi (by omega) (h1 ▸ hk)
      · intro e2
        have := ((h.data b (by omega)).lt k e2).2
        have := h1 k hk
        omega
    · rename_i e
      split
      · rename_i e3; subst e3
        intro e2
        rcases he.at_ with h1 | h1
        · exact h.apart2 (i := a) (j := b) (by omega) (by omega) (by omega) hk (h1 ▸ e2)
        · have := ((h.data a (by omega)).lt k hk).2
          have := h1 k e2
          omega
      · exact h.apart2 (by omega) (by omega) (by omega) hk
end Go.Proofs.Ytakdaandbdbdnaa
namespace Go.Proofs.Ytakdaandbdbdnaa
open Go.RowKit
set_option linter.unusedVariables false
set_option maxRecDepth 100000

/-- What marking files makes of them, and the number that is next. -/
def markF : Nat → List PF → List PF
  | _, [] => []
  | k, f :: r => (mkS k, marks (k + 1) f.2.length) :: markF (k + 1 + f.2.length) r
def kF : Nat → List PF → Nat
  | k, [] => k
  | k, f :: r => kF (k + 1 + f.2.length) r
theorem kF_snoc (k : Nat) (l : List PF) (f : PF) : kF k (l ++ [f]) = kF k l + 1 + f.2.length := by
  induction l generalizing k with
  | nil => rfl
  | cons a r ih => simp only [List.cons_append, kF]; exact ih _
theorem markF_snoc (k : Nat) (l : List PF) (f : PF) : markF k (l ++ [f]) = markF k l ++ [(mkS (kF k l), marks (kF k l + 1) f.2.length)] := by
  induction l generalizing k with
  | nil => rfl
  | cons a r ih => simp only [List.cons_append, markF, kF]; rw [ih]
theorem markF_length (k : Nat) (l : List PF) : (markF k l).length = l.length := by
  induction l generalizing k with
  | nil => rfl
  | cons a r ih => simp only [markF, List.length_cons, ih]
theorem kF_le (k : Nat) (l : List PF) : k + l.length ≤ kF k l := by
  induction l generalizing k with
  | nil => simp [kF]
  | cons a r ih => have := ih (k + 1 + a.2.length); simp only [kF, List.length_cons]; omega
theorem kF_append (k : Nat) (a b : List PF) : kF k (a ++ b) = kF (kF k a) b := by
  induction a generalizing k with
  | nil => rfl
  | cons x r ih => simp only [List.cons_append, kF]; exact ih _
def stF (k : Nat) (fs : List PF) (j : Nat) : List PF := markF k (fs.take j) ++ fs.drop j
theorem stF_length (k : Nat) (fs : List PF) (j : Nat) (h : j ≤ fs.length) : (stF k fs j).length = fs.length := by
  simp [stF, markF_length]; omega
theorem stF_get (k : Nat) (fs : List PF) (j : Nat) (h : j < fs.length) (d : PF) : (stF k fs j).getD j d = fs[j] := by
  have h1 : (markF k (fs.take j)).length = j := by rw [markF_length, List.length_take]; omega
  simp [stF, List.getD, List.getElem?_append_right, h1, h]
theorem stF_succ (k : Nat) (fs : List PF) (j : Nat) (h : j < fs.length) : stF k fs (j + 1) = (stF k fs j).set j (mkS (kF k (fs.take j)), marks (kF k (fs.take j) + 1) fs[j].2.length) := by
  have h1 : (markF k (fs.take j)).length = j := by rw [markF_length, List.length_take]; omega
  unfold stF
  rw [List.set_append_right _ _ (by omega), h1, Nat.sub_self, List.drop_eq_getElem_cons h, List.set_cons_zero, List.take_succ_eq_append_getElem h, markF_snoc]
  simp
theorem kF_take (k : Nat) (fs : List PF) (j : Nat) (h : j < fs.length) : kF k (fs.take (j + 1)) = kF k (fs.take j) + 1 + fs[j].2.length := by
  rw [List.take_succ_eq_append_getElem h, kF_snoc]
theorem kF_take_le (k : Nat) (fs : List PF) (j : Nat) : kF k (fs.take j) ≤ kF k fs := by
  have h1 : kF k fs = kF (kF k (fs.take j)) (fs.drop j) := by rw [← kF_append, List.take_append_drop]
  have := kF_le (kF k (fs.take j)) (fs.drop j)
  omega
theorem mkS_size (k : Nat) : (mkS k).size ≤ maxLen := by
  have hd : ∀ f k (o : List UInt8), (digF f k o).length ≤ f + o.length := by
    intro f
    induction f with
    | zero => intro k o; simp [digF]
    | succ f ih =>
      intro k o
      unfold digF
      split
      · omega
      · have := ih (k / 10) (UInt8.ofNat (48 + k % 10) :: o); rw [List.length_cons] at this; omega
  unfold mkS
  split
  · show 2 ≤ maxLen; unfold maxLen; omega
  · have := hd 40 k []
    show ((109 :: digF 40 k []).toArray).size ≤ maxLen
    unfold maxLen
    simp at this ⊢; omega

/-- A file's name is stored. -/
theorem OwnF.rename {w : World} {base g n c i : Nat} {fs : List PF} {xs vs : List Value} {nm : ByteArray} (h : OwnF w base (.slice (some ⟨g, 0, none⟩) n c) fs xs vs) (hi : i < fs.length) (hs : nm.size ≤ maxLen) :
    OwnF (w.setCell ⟨g, i * 2, none⟩ (.string nm)) base (.slice (some ⟨g, 0, none⟩) n c) (fs.set i (nm, (fs.getD i (ByteArray.empty, [])).2)) (xs.set (i * 2) (.string nm)) vs ∧ w.grownBy (w.setCell ⟨g, i * 2, none⟩ (.string nm)) (some g) := by
  have hvl := h.len
  have hx := h.row.1
  obtain ⟨hn, hrow⟩ : fs.length = n ∧ w.ownsRow base 92 2 (.slice (some ⟨g, 0, none⟩) n c) fs.length xs := by
    refine ⟨?_, h.row⟩
    rcases h.row.2 with ⟨h', _⟩ | ⟨g', cap', cur, h', _⟩
    · simp at h'
    · simp at h'; omega
  subst hn
  obtain ⟨hst, hsg⟩ := hrow.stored (i * 2) (.string nm)
  have hne : ∀ {b2 m : Nat} {u : Value} {ys : List Value}, w.ownsRow b2 5 1 u m ys → (w.setCell ⟨g, i * 2, none⟩ (.string nm)).ownsRow b2 5 1 u m ys := fun hk => hk.kept hsg (own_ne hrow hk)
  refine ⟨⟨by simpa using hst, by simp [hvl], ?_, ?_, ?_, ?_, ?_⟩, hsg⟩
  · intro j hj
    simp at hj
    rw [getD_set _ _ _ _ _ hi]
    split
    · rename_i e; subst e; rw [List.getElem?_set_self (by omega)]; exact ⟨rfl, hs⟩
    · rw [List.getElem?_set_ne (by omega)]; exact h.name j hj
  · intro j hj
    simp at hj
    rw [List.getElem?_set_ne (by omega)]; exact h.val j hj
  · intro j hj
    simp at hj
    rw [getD_set _ _ _ _ _ hi]
    split
    · rename_i e; subst e; exact hne (h.data j hj)
    · exact hne (h.data j hj)
  · intro j hj
    simp at hj
    rw [getD_set _ _ _ _ _ hi]
    split
    · rename_i e; subst e; exact h.byte j hj
    · exact h.byte j hj
  · intro a b hab hb k hk
    simp at hb
    exact h.apart a b hab hb k hk

/-- A file's bytes are written over where they lie. -/
theorem OwnF.over {w w' : World} {base i : Nat} {v : Value} {fs : List PF} {xs vs : List Value} {l : List Int} (h : OwnF w base v fs xs vs) (hi : i < fs.length) (hr : w'.ownsRow base 5 1 (vs.getD i (.slice none 0 0)) l.length (u8s l)) (hg : w.grownBy w' (vs.getD i (.slice none 0 0)).ownBlock) (hl : ∀ x ∈ l, 0 ≤ x ∧ x ≤ 255) :
    OwnF w' base v (fs.set i ((fs.getD i (ByteArray.empty, [])).1, l)) xs vs := by
  have hvl := h.len
  have hrow := h.row.kept hg (by
      rcases own_ne h.row (h.data i hi) with h1 | h1
      · rw [h1]
        cases v.ownBlock
        · exact .inl rfl
        · exact .inr (by simp)
      · exact .inr (Ne.symm h1))
  refine ⟨by simpa using hrow, by simp [hvl], ?_, ?_, ?_, ?_, ?_⟩
  · intro j hj
    simp at hj
    rw [getD_set _ _ _ _ _ hi]
    split
    · rename_i e; subst e; exact h.name j hj
    · exact h.name j hj
  · intro j hj
    simp at hj
    exact h.val j hj
  · intro j hj
    simp at hj
    rw [getD_set _ _ _ _ _ hi]
    split
    · rename_i e; subst e; exact hr
    · rename_i e
      refine (h.data j hj).kept hg ?_
      cases hb : (vs.getD j (.slice none 0 0)).ownBlock
      · exact .inl rfl
      · exact .inr (fun e2 => h.apart2 (i := j) (j := i) (by omega) hj hi hb e2.symm)
  · intro j hj
    simp at hj
    rw [getD_set _ _ _ _ _ hi]
    split
    · exact hl
    · exact h.byte j hj
  · intro a b hab hb k hk
    simp at hb
    exact h.apart a b hab hb k hk

/-- The blocks of a list. -/
def Blk (v : Value) (vs : List Value) (g : Nat) : Prop := v.ownBlock = some g ∨ ∃ j, j < vs.length ∧ (vs.getD j (.slice none 0 0)).ownBlock = some g
theorem OwnF.fr {S : Nat → Prop} {w w' : World} {base : Nat} {v : Value} {fs : List PF} {xs vs : List Value} (h : OwnF w base v fs xs vs) (hf : Fr S w w') (hS : ∀ g, Blk v vs g → ¬ S g) : OwnF w' base v fs xs vs :=
  ⟨owns_fr h.row hf (fun g hg => hS g (.inl hg)), h.len, h.name, h.val, fun j hj => owns_fr (h.data j hj) hf (fun g hg => hS g (.inr ⟨j, by rw [h.len]; exact hj, hg⟩)), h.byte, h.apart⟩
theorem marks_length (k n : Nat) : (marks k n).length = n := by simp [marks]
end Go.Proofs.Ytakdaandbdbdnaa
namespace Go.Proofs.Ytakdaandbdbdnaa
open Go.RowKit
set_option linter.unusedVariables false
set_option maxRecDepth 100000

theorem mark_name {w w1 : World} {base g n c j ln : Nat} {va : Option Addr} {vc : Nat} {fs : List PF} {ys vs : List Value} {nm : ByteArray} (h : OwnF w base (.slice (some ⟨g, 0, none⟩) n c) fs ys vs) (hb : Below w.heap.size w w1) (hj : j < fs.length) (hv : vs.getD j (.slice none 0 0) = .slice va ln vc) (hs : nm.size ≤ maxLen) :
    Hid (OwnF w1 base (.slice (some ⟨g, 0, none⟩) n c) fs ys vs) ∧ Hid (OwnF (w1.setCell ⟨g, j * 2, none⟩ (.string nm)) base (.slice (some ⟨g, 0, none⟩) n c) (fs.set j (nm, (fs.getD j (ByteArray.empty, [])).2)) (ys.set (j * 2) (.string nm)) vs ∧ w1.grownBy (w1.setCell ⟨g, j * 2, none⟩ (.string nm)) (some g)) ∧
    (∃ u, w1.cell? ⟨g, j * 2, none⟩ = some u) ∧ w1.cell? ⟨g, j * 2 + 1, none⟩ = some (.slice va ln vc) ∧ w1.frozen? ⟨g, j * 2, none⟩ = false := by
  have h1 := h.below hb
  have hn : n = fs.length := by
    rcases h1.row.2 with ⟨h', _⟩ | ⟨g', cap', cur, h', _⟩
    · simp at h'
    · simp at h'; omega
  subst hn
  refine ⟨h1, h1.rename hj hs, ⟨.string (fs.getD j (ByteArray.empty, [])).1, ?_⟩, ?_, h1.row.frozenAt _⟩
  · rw [h1.row.cellAt _ (by omega)]; exact (h1.name j hj).1
  · rw [h1.row.cellAt _ (by omega), h1.val j hj, hv]
theorem mark_call {w : World} {base j ln kj : Nat} {v : Value} {va : Option Addr} {vc : Nat} {fs : List PF} {ys vs : List Value} {nm : ByteArray} {P : Prop} (h : OwnF w base v (fs.set j (nm, (fs.getD j (ByteArray.empty, [])).2)) ys vs ∧ P) (hj : j < fs.length) (hv : vs.getD j (.slice none 0 0) = .slice va ln vc) (hg : (fs.getD j (ByteArray.empty, [])).2.length = ln) (hk : kj + 1 + ln ≤ 1099511627776) :
    Calls Try.prog 93 #[.slice va ln vc, .int .i64 ((kj : Int) + 1)] w fun e w' => e = .returned (.int .i64 ((kj + 1 + ln : Nat) : Int)) ∧ w'.ownsRow base 5 1 (.slice va ln vc) ln (u8s (marks (kj + 1) ln)) ∧ w.grownBy w' (Value.slice va ln vc).ownBlock := by
  have h1 := h.1.data j (by simpa using hj)
  rw [hv, getD_set _ _ _ _ _ hj, if_pos rfl, hg] at h1
  exact markByteS_any va ln vc (kj + 1) base _ w h1 hk

set_option maxHeartbeats 400000 in
theorem markFileS_any (a : Option Addr) (n c k base : Nat) (fs : List PF) (xs vs : List Value) (w : World) (h : OwnF w base (.slice a n c) fs xs vs) (hn : n = fs.length) (hb : base ≤ w.heap.size) (hk : kF k fs ≤ 1099511627776) :
    Calls Try.prog 64 #[.slice a n c, .int .i64 k] w fun e w' => e = .returned (.int .i64 ((kF k fs : Nat) : Int)) ∧ ∃ ys, OwnF w' base (.slice a n c) (markF k fs) ys vs ∧ Fr (Blk (.slice a n c) vs) w w' := by
  have hnb : n ≤ 1099511627776 := by have := kF_le k fs; omega
  replace hn : Hid (n = fs.length) := hn
  go_enter Try.func64, Try.ntmps64
  go_wp2
  go_loopw [1, 5] (fun kv i wr => ∃ (j : Nat) (ys : List Value), j ≤ n ∧ i = .int .i64 j ∧ kv = .int .i64 ((kF k (fs.take j) : Nat) : Int) ∧ OwnF wr base (.slice a n c) (stF k fs j) ys vs ∧ Fr (Blk (.slice a n c) vs) w wr) (fun _ i _ => n - (intOf i).toNat)
  case atStart => exact ⟨0, xs, Nat.zero_le _, rfl, by simp [kF], by simpa [stF, markF] using h, Fr.refl _ _⟩
  case round =>
    clear h
    obtain ⟨j, ys, hj, rfl, rfl, hO, hfr⟩ := hrel
    by_cases hlt : j < n
    · obtain ⟨g, rfl⟩ : ∃ g, a = some ⟨g, 0, none⟩ := by
        rcases hO.row.2 with ⟨h0, h1⟩ | ⟨g, cap, cur, h0, _⟩
        · have := hn.out; rw [stF_length _ _ _ (by omega)] at h1; omega
        · injection h0 with h1; exact ⟨g, h1⟩
      have hjf : j < fs.length := by have := hn.out; omega
      have hsl := stF_length k fs j (by omega)
      have hget := stF_get k fs j hjf (ByteArray.empty, [])
      have hK := kF_take k fs j hjf
      have hKle := kF_take_le k fs (j + 1)
      obtain ⟨kj, hkj⟩ : ∃ kj, kj = kF k (fs.take j) := ⟨_, rfl⟩
      rw [← hkj] at hK ⊢
      have hfl : n = fs.length := hn.out
      obtain ⟨va, vc, hv⟩ := own_shape (hO.data j (by omega))
      rw [hget] at hv
      obtain ⟨ln, hln⟩ : ∃ ln, ln = fs[j].2.length := ⟨_, rfl⟩
      rw [← hln] at hK hv
      have hkb : kj + 1 + ln ≤ 1099511627776 := by omega
      have HO : Hid (OwnF wr base (.slice (some ⟨g, 0, none⟩) n c) (stF k fs j) ys vs) := hO
      have HV : Hid (vs.getD j (.slice none 0 0) = .slice va ln vc) := hv
      have HS : Hid (stF k fs (j + 1) = (stF k fs j).set j (mkS kj, marks (kj + 1) ln)) := by
        show _ = _
        rw [stF_succ k fs j hjf, ← hkj, ← hln]
      have HG : Hid (((stF k fs j).getD j (ByteArray.empty, [])).2.length = ln) := by show _ = _; rw [hget, hln]
      have HK : Hid (kF k (fs.take (j + 1)) = kj + 1 + ln) := hK
      have HL : Hid (j < (stF k fs j).length) := by show _ < _; omega
      clear hO hv hget hK hKle hkj hln hfl hsl hjf
      go_wp2_with (first
        | (go_at_call 92
           refine (markText_any kj wr (by omega)).mono ?_
           rintro e w1 ⟨rfl, hb1⟩
           obtain ⟨HO1, HR1, ⟨u0, c0⟩, c1, f0⟩ := mark_name HO.out hb1 HL.out HV.out (nm := mkS kj) (mkS_size kj))
        | (go_at_call 93
           refine (mark_call HR1.out HL.out HV.out HG.out hkb).mono ?_
           rintro e w2 ⟨rfl, hM1, hM2⟩))
      have R : OwnF w2 base (.slice (some ⟨g, 0, none⟩) n c) (stF k fs (j + 1)) (ys.set (j * 2) (.string (mkS kj))) vs ∧ Fr (Blk (.slice (some ⟨g, 0, none⟩) n c) vs) w w2 := by
        have hv := HV.out
        have hl := HL.out
        obtain ⟨r1, r2⟩ := HR1.out
        have h2 := r1.over (i := j) (w' := w2) (l := marks (kj + 1) ln) (by simpa using hl) (by rw [hv, marks_length]; exact hM1) (by rw [hv]; exact hM2) (marks_byte _ _)
        rw [getD_set _ _ _ _ _ hl, if_pos rfl, List.set_set] at h2
        rw [HS.out]
        have hvl := HO.out.len
        exact ⟨h2, ((hfr.trans (Fr.of_below hb1)).trans (Fr.of_grown r2 (fun _ e => .inl e))).trans (Fr.of_grown hM2 (fun _ e => .inr ⟨j, by omega, by rw [hv]; exact e⟩))⟩
      have hK2 := HK.out
      clear hM1 hM2 HR1 HO1 hb1 hfr HO
      go_roundw
      case rel => exact ⟨j + 1, _, by omega, by go_num, by rw [hK2]; go_num, R.1, R.2⟩
      case measure => simp [intOf]; omega
    · have hj2 : fs.take j = fs := List.take_of_length_le (by have := hn.out; omega)
      have hj3 : stF k fs j = markF k fs := by
        unfold stF
        rw [hj2, List.drop_eq_nil_of_le (by have := hn.out; omega), List.append_nil]
      rw [hj3] at hO
      rw [hj2]
      clear hj2 hj3
      go_wp2
      go_ret
      exact ⟨rfl, ys, hO, hfr⟩
end Go.Proofs.Ytakdaandbdbdnaa
namespace Go.Proofs.Ytakdaandbdbdnaa
open Go.RowKit
set_option linter.unusedVariables false
set_option maxRecDepth 100000

/-- What marking writes makes of them, and the number that is next. -/
def markP : Nat → List PP → List PP
  | _, [] => []
  | k, f :: r => (mkS k, ((k + 1 : Nat) : Int), marks (k + 2) f.2.2.length) :: markP (k + 2 + f.2.2.length) r
def kP : Nat → List PP → Nat
  | k, [] => k
  | k, f :: r => kP (k + 2 + f.2.2.length) r
theorem kP_snoc (k : Nat) (l : List PP) (f : PP) : kP k (l ++ [f]) = kP k l + 2 + f.2.2.length := by
  induction l generalizing k with
  | nil => rfl
  | cons a r ih => simp only [List.cons_append, kP]; exact ih _
theorem markP_snoc (k : Nat) (l : List PP) (f : PP) : markP k (l ++ [f]) = markP k l ++ [(mkS (kP k l), ((kP k l + 1 : Nat) : Int), marks (kP k l + 2) f.2.2.length)] := by
  induction l generalizing k with
  | nil => rfl
  | cons a r ih => simp only [List.cons_append, markP, kP]; rw [ih]
theorem markP_length (k : Nat) (l : List PP) : (markP k l).length = l.length := by
  induction l generalizing k with
  | nil => rfl
  | cons a r ih => simp only [markP, List.length_cons, ih]
theorem kP_le (k : Nat) (l : List PP) : k + l.length ≤ kP k l := by
  induction l generalizing k with
  | nil => simp [kP]
  | cons a r ih => have := ih (k + 2 + a.2.2.length); simp only [kP, List.length_cons]; omega
theorem kP_append (k : Nat) (a b : List PP) : kP k (a ++ b) = kP (kP k a) b := by
  induction a generalizing k with
  | nil => rfl
  | cons x r ih => simp only [List.cons_append, kP]; exact ih _
def stP (k : Nat) (fs : List PP) (j : Nat) : List PP := markP k (fs.take j) ++ fs.drop j
theorem stP_length (k : Nat) (fs : List PP) (j : Nat) (h : j ≤ fs.length) : (stP k fs j).length = fs.length := by
  simp [stP, markP_length]; omega
theorem stP_get (k : Nat) (fs : List PP) (j : Nat) (h : j < fs.length) (d : PP) : (stP k fs j).getD j d = fs[j] := by
  have h1 : (markP k (fs.take j)).length = j := by rw [markP_length, List.length_take]; omega
  simp [stP, List.getD, List.getElem?_append_right, h1, h]
theorem stP_succ (k : Nat) (fs : List PP) (j : Nat) (h : j < fs.length) : stP k fs (j + 1) = (stP k fs j).set j (mkS (kP k (fs.take j)), ((kP k (fs.take j) + 1 : Nat) : Int), marks (kP k (fs.take j) + 2) fs[j].2.2.length) := by
  have h1 : (markP k (fs.take j)).length = j := by rw [markP_length, List.length_take]; omega
  unfold stP
  rw [List.set_append_right _ _ (by omega), h1, Nat.sub_self, List.drop_eq_getElem_cons h, List.set_cons_zero, List.take_succ_eq_append_getElem h, markP_snoc]
  simp
theorem kP_take (k : Nat) (fs : List PP) (j : Nat) (h : j < fs.length) : kP k (fs.take (j + 1)) = kP k (fs.take j) + 2 + fs[j].2.2.length := by
  rw [List.take_succ_eq_append_getElem h, kP_snoc]
theorem kP_take_le (k : Nat) (fs : List PP) (j : Nat) : kP k (fs.take j) ≤ kP k fs := by
  have h1 : kP k fs = kP (kP k (fs.take j)) (fs.drop j) := by rw [← kP_append, List.take_append_drop]
  have := kP_le (kP k (fs.take j)) (fs.drop j)
  omega

/-- Rows of other types lie in other blocks. -/
theorem own_ne2 {w : World} {b1 b2 e1 e2 s1 s2 : Nat} {v u : Value} {n m : Nat} {xs ys : List Value} (hne : e1 ≠ e2) (h : w.ownsRow b1 e1 s1 v n xs) (k : w.ownsRow b2 e2 s2 u m ys) : u.ownBlock = none ∨ u.ownBlock ≠ v.ownBlock := by
  rcases k.2 with ⟨rfl, _⟩ | ⟨g, cap, cur, rfl, _, hg, _⟩
  · exact .inl rfl
  · refine .inr fun e => ?_
    rcases h.2 with ⟨rfl, _⟩ | ⟨g', cap', cur', rfl, _, hg', _⟩
    · simp [Value.ownBlock] at e
    · simp [Value.ownBlock] at e
      subst e
      rw [hg] at hg'
      simp at hg'
      exact hne hg'.2.symm

/-- A list of writes in memory of one's own: the row of the writes, and for each a row of its bytes; no two share a block. -/
structure OwnP (w : World) (base : Nat) (v : Value) (ps : List PP) (xs vs : List Value) : Prop where
  row : w.ownsRow base 71 3 v ps.length xs
  len : vs.length = ps.length
  name : ∀ j, j < ps.length → xs[j * 3]? = some (.string (ps.getD j (ByteArray.empty, 0, [])).1) ∧ (ps.getD j (ByteArray.empty, 0, [])).1.size ≤ maxLen
  page : ∀ j, j < ps.length → xs[j * 3 + 1]? = some (.int .i64 (ps.getD j (ByteArray.empty, 0, [])).2.1) ∧ (-9223372036854775808 ≤ (ps.getD j (ByteArray.empty, 0, [])).2.1 ∧ (ps.getD j (ByteArray.empty, 0, [])).2.1 ≤ 9223372036854775807)
  val : ∀ j, j < ps.length → xs[j * 3 + 2]? = some (vs.getD j (.slice none 0 0))
  data : ∀ j, j < ps.length → w.ownsRow base 5 1 (vs.getD j (.slice none 0 0)) (ps.getD j (ByteArray.empty, 0, [])).2.2.length (u8s (ps.getD j (ByteArray.empty, 0, [])).2.2)
  byte : ∀ j, j < ps.length → ∀ x ∈ (ps.getD j (ByteArray.empty, 0, [])).2.2, 0 ≤ x ∧ x ≤ 255
  apart : ∀ i j, i < j → j < ps.length → ∀ g, (vs.getD i (.slice none 0 0)).ownBlock = some g → (vs.getD j (.slice none 0 0)).ownBlock ≠ some g

theorem OwnP.below {w w' : World} {base : Nat} {v : Value} {fs : List PP} {xs vs : List Value} (h : OwnP w base v fs xs vs) (hb : Below w.heap.size w w') : OwnP w' base v fs xs vs :=
  ⟨owns_below h.row hb, h.len, h.name, h.page, h.val, fun j hj => owns_below (h.data j hj) hb, h.byte, h.apart⟩
theorem OwnP.nil {w : World} {base : Nat} {v : Value} (h : w.ownsRow base 71 3 v 0 []) : OwnP w base v [] [] [] :=
  ⟨h, rfl, fun j hj => absurd hj (Nat.not_lt_zero _), fun j hj => absurd hj (Nat.not_lt_zero _), fun j hj => absurd hj (Nat.not_lt_zero _), fun j hj => absurd hj (Nat.not_lt_zero _), fun j hj => absurd hj (Nat.not_lt_zero _), fun i j hij hj => absurd hj (Nat.not_lt_zero _)⟩
theorem OwnP.fr {S : Nat → Prop} {w w' : World} {base : Nat} {v : Value} {fs : List PP} {xs vs : List Value} (h : OwnP w base v fs xs vs) (hf : Fr S w w') (hS : ∀ g, Blk v vs g → ¬ S g) : OwnP w' base v fs xs vs :=
  ⟨owns_fr h.row hf (fun g hg => hS g (.inl hg)), h.len, h.name, h.page, h.val, fun j hj => owns_fr (h.data j hj) hf (fun g hg => hS g (.inr ⟨j, by rw [h.len]; exact hj, hg⟩)), h.byte, h.apart⟩
theorem OwnP.apart2 {w : World} {base : Nat} {v : Value} {fs : List PP} {xs vs : List Value} (h : OwnP w base v fs xs vs) {i j g : Nat} (hij : i ≠ j) (hi : i < fs.length) (hj : j < fs.length) (hg : (vs.getD i (.slice none 0 0)).ownBlock = some g) : (vs.getD j (.slice none 0 0)).ownBlock ≠ some g := by
  by_cases hlt : i < j
  · exact h.apart i j hlt hj g hg
  · intro e
    exact h.apart j i (by omega) hi g e hg
theorem OwnP.pends {w : World} {base : Nat} {v : Value} {fs : List PP} {xs vs : List Value} (h : OwnP w base v fs xs vs) : ∃ a n c, v = .slice a n c ∧ n = fs.length ∧ PendsAt w base w.heap.size a n c fs := by
  rcases h.row.2 with ⟨rfl, hn⟩ | ⟨g, cap, cur, rfl, hb, hg, h1, h2, _⟩
  · exact ⟨none, 0, 0, rfl, hn.symm, hn, Nat.le_refl _, Nat.zero_le _, fun h => absurd h (Nat.lt_irrefl _)⟩
  · refine ⟨some ⟨g, 0, none⟩, fs.length, cap, rfl, rfl, rfl, h1, h2, fun hn => ⟨g, 0, rfl, h.row.lt g rfl, fun i hi => ?_⟩⟩
    obtain ⟨a, n, c, e, hby⟩ := bytesAt_of_own (h.data i hi) (h.byte i hi)
    refine ⟨?_, (h.name i hi).2, ?_, (h.page i hi).2, a, n, c, ?_, hby⟩
    · rw [Nat.zero_add, h.row.cellAt (i * 3) (by omega)]; exact (h.name i hi).1
    · rw [Nat.zero_add, h.row.cellAt (i * 3 + 1) (by omega)]; exact (h.page i hi).1
    · rw [Nat.zero_add, h.row.cellAt (i * 3 + 2) (by omega), h.val i hi, e]

/-- A write's name, its page, are stored. -/
theorem OwnP.rename {w : World} {base g n c i : Nat} {fs : List PP} {xs vs : List Value} {nm : ByteArray} (h : OwnP w base (.slice (some ⟨g, 0, none⟩) n c) fs xs vs) (hi : i < fs.length) (hs : nm.size ≤ maxLen) :
    OwnP (w.setCell ⟨g, i * 3, none⟩ (.string nm)) base (.slice (some ⟨g, 0, none⟩) n c) (fs.set i (nm, (fs.getD i (ByteArray.empty, 0, [])).2)) (xs.set (i * 3) (.string nm)) vs ∧ w.grownBy (w.setCell ⟨g, i * 3, none⟩ (.string nm)) (some g) := by
  have hvl := h.len
  have hx := h.row.1
  obtain ⟨hn, hrow⟩ : fs.length = n ∧ w.ownsRow base 71 3 (.slice (some ⟨g, 0, none⟩) n c) fs.length xs := by
    refine ⟨?_, h.row⟩
    rcases h.row.2 with ⟨h', _⟩ | ⟨g', cap', cur, h', _⟩
    · simp at h'
    · simp at h'; omega
  subst hn
  obtain ⟨hst, hsg⟩ := hrow.stored (i * 3) (.string nm)
  have hne : ∀ {b2 m : Nat} {u : Value} {ys : List Value}, w.ownsRow b2 5 1 u m ys → (w.setCell ⟨g, i * 3, none⟩ (.string nm)).ownsRow b2 5 1 u m ys := fun hk => hk.kept hsg (own_ne2 (by decide) hrow hk)
  refine ⟨⟨by simpa using hst, by simp [hvl], ?_, ?_, ?_, ?_, ?_, ?_⟩, hsg⟩
  · intro j hj
    simp at hj
    rw [getD_set _ _ _ _ _ hi]
    split
    · rename_i e; subst e; rw [List.getElem?_set_self (by omega)]; exact ⟨rfl, hs⟩
    · rw [List.getElem?_set_ne (by omega)]; exact h.name j hj
  · intro j hj
    simp at hj
    rw [getD_set _ _ _ _ _ hi, List.getElem?_set_ne (by omega)]
    split
    · rename_i e; subst e; exact h.page j hj
    · exact h.page j hj
  · intro j hj
    simp at hj
    rw [List.getElem?_set_ne (by omega)]; exact h.val j hj
  · intro j hj
    simp at hj
    rw [getD_set _ _ _ _ _ hi]
    split
    · rename_i e; subst e; exact hne (h.data j hj)
    · exact hne (h.data j hj)
  · intro j hj
    simp at hj
    rw [getD_set _ _ _ _ _ hi]
    split
    · rename_i e; subst e; exact h.byte j hj
    · exact h.byte j hj
  · intro a b hab hb k hk
    simp at hb
    exact h.apart a b hab hb k hk
theorem OwnP.repage {w : World} {base g n c i : Nat} {fs : List PP} {xs vs : List Value} {pg : Int} (h : OwnP w base (.slice (some ⟨g, 0, none⟩) n c) fs xs vs) (hi : i < fs.length) (hs : -9223372036854775808 ≤ pg ∧ pg ≤ 9223372036854775807) :
    OwnP (w.setCell ⟨g, i * 3 + 1, none⟩ (.int .i64 pg)) base (.slice (some ⟨g, 0, none⟩) n c) (fs.set i ((fs.getD i (ByteArray.empty, 0, [])).1, pg, (fs.getD i (ByteArray.empty, 0, [])).2.2)) (xs.set (i * 3 + 1) (.int .i64 pg)) vs ∧ w.grownBy (w.setCell ⟨g, i * 3 + 1, none⟩ (.int .i64 pg)) (some g) := by
  have hvl := h.len
  have hx := h.row.1
  obtain ⟨hn, hrow⟩ : fs.length = n ∧ w.ownsRow base 71 3 (.slice (some ⟨g, 0, none⟩) n c) fs.length xs := by
    refine ⟨?_, h.row⟩
    rcases h.row.2 with ⟨h', _⟩ | ⟨g', cap', cur, h', _⟩
    · simp at h'
    · simp at h'; omega
  subst hn
  obtain ⟨hst, hsg⟩ := hrow.stored (i * 3 + 1) (.int .i64 pg)
  have hne : ∀ {b2 m : Nat} {u : Value} {ys : List Value}, w.ownsRow b2 5 1 u m ys → (w.setCell ⟨g, i * 3 + 1, none⟩ (.int .i64 pg)).ownsRow b2 5 1 u m ys := fun hk => hk.kept hsg (own_ne2 (by decide) hrow hk)
  refine ⟨⟨by simpa using hst, by simp [hvl], ?_, ?_, ?_, ?_, ?_, ?_⟩, hsg⟩
  · intro j hj
    simp at hj
    rw [getD_set _ _ _ _ _ hi, List.getElem?_set_ne (by omega)]
    split
    · rename_i e; subst e; exact h.name j hj
    · exact h.name j hj
  · intro j hj
    simp at hj
    rw [getD_set _ _ _ _ _ hi]
    split
    · rename_i e; subst e; rw [List.getElem?_set_self (by omega)]; exact ⟨rfl, hs⟩
    · rw [List.getElem?_set_ne (by omega)]; exact h.page j hj
  · intro j hj
    simp at hj
    rw [List.getElem?_set_ne (by omega)]; exact h.val j hj
  · intro j hj
    simp at hj
    rw [getD_set _ _ _ _ _ hi]
    split
    · rename_i e; subst e; exact hne (h.data j hj)
    · exact hne (h.data j hj)
  · intro j hj
    simp at hj
    rw [getD_set _ _ _ _ _ hi]
    split
    · rename_i e; subst e; exact h.byte j hj
    · exact h.byte j hj
  · intro a b hab hb k hk
    simp at hb
    exact h.apart a b hab hb k hk

/-- A write's bytes are written over where they lie. -/
theorem OwnP.over {w w' : World} {base i : Nat} {v : Value} {fs : List PP} {xs vs : List Value} {l : List Int} (h : OwnP w base v fs xs vs) (hi : i < fs.length) (hr : w'.ownsRow base 5 1 (vs.getD i (.slice none 0 0)) l.length (u8s l)) (hg : w.grownBy w' (vs.getD i (.slice none 0 0)).ownBlock) (hl : ∀ x ∈ l, 0 ≤ x ∧ x ≤ 255) :
    OwnP w' base v (fs.set i ((fs.getD i (ByteArray.empty, 0, [])).1, (fs.getD i (ByteArray.empty, 0, [])).2.1, l)) xs vs := by
  have hvl := h.len
  have hrow := h.row.kept hg (by
      rcases own_ne2 (by decide) h.row (h.data i hi) with h1 | h1
      · rw [h1]
        cases v.ownBlock
        · exact .inl rfl
        · exact .inr (by simp)
      · exact .inr (Ne.symm h1))
  refine ⟨by simpa using hrow, by simp [hvl], ?_, ?_, ?_, ?_, ?_, ?_⟩
  · intro j hj
    simp at hj
    rw [getD_set _ _ _ _ _ hi]
    split
    · rename_i e; subst e; exact h.name j hj
    · exact h.name j hj
  · intro j hj
    simp at hj
    rw [getD_set _ _ _ _ _ hi]
    split
    · rename_i e; subst e; exact h.page j hj
    · exact h.page j hj
  · intro j hj
    simp at hj
    exact h.val j hj
  · intro j hj
    simp at hj
    rw [getD_set _ _ _ _ _ hi]
    split
    · rename_i e; subst e; exact hr
    · rename_i e
      refine (h.data j hj).kept hg ?_
      cases hb : (vs.getD j (.slice none 0 0)).ownBlock
      · exact .inl rfl
      · exact .inr (fun e2 => h.apart2 (i := j) (j := i) (by omega) hj hi hb e2.symm)
  · intro j hj
    simp at hj
    rw [getD_set _ _ _ _ _ hi]
    split
    · exact hl
    · exact h.byte j hj
  · intro a b hab hb k hk
    simp at hb
    exact h.apart a b hab hb k hk
end Go.Proofs.Ytakdaandbdbdnaa
namespace Go.Proofs.Ytakdaandbdbdnaa
open Go.RowKit
set_option linter.unusedVariables false
set_option maxRecDepth 100000

theorem markp_name {w w1 : World} {base g n c j ln : Nat} {va : Option Addr} {vc : Nat} {fs : List PP} {ys vs : List Value} {nm : ByteArray} {pg : Int} (h : OwnP w base (.slice (some ⟨g, 0, none⟩) n c) fs ys vs) (hb : Below w.heap.size w w1) (hj : j < fs.length) (hv : vs.getD j (.slice none 0 0) = .slice va ln vc) (hs : nm.size ≤ maxLen) (hpg : -9223372036854775808 ≤ pg ∧ pg ≤ 9223372036854775807) :
    Hid (OwnP ((w1.setCell ⟨g, j * 3, none⟩ (.string nm)).setCell ⟨g, j * 3 + 1, none⟩ (.int .i64 pg)) base (.slice (some ⟨g, 0, none⟩) n c) (fs.set j (nm, pg, (fs.getD j (ByteArray.empty, 0, [])).2.2)) ((ys.set (j * 3) (.string nm)).set (j * 3 + 1) (.int .i64 pg)) vs ∧ w1.grownBy ((w1.setCell ⟨g, j * 3, none⟩ (.string nm)).setCell ⟨g, j * 3 + 1, none⟩ (.int .i64 pg)) (some g)) ∧
    (∃ u, w1.cell? ⟨g, j * 3, none⟩ = some u) ∧ (∃ u, w1.cell? ⟨g, j * 3 + 1, none⟩ = some u) ∧ w1.cell? ⟨g, j * 3 + 2, none⟩ = some (.slice va ln vc) ∧ w1.frozen? ⟨g, j * 3, none⟩ = false ∧ (w1.setCell ⟨g, j * 3, none⟩ (.string nm)).frozen? ⟨g, j * 3 + 1, none⟩ = false ∧ w1.frozen? ⟨g, j * 3 + 1, none⟩ = false := by
  have h1 := h.below hb
  have hn : n = fs.length := by
    rcases h1.row.2 with ⟨h', _⟩ | ⟨g', cap', cur, h', _⟩
    · simp at h'
    · simp at h'; omega
  subst hn
  obtain ⟨r1, r2⟩ := h1.rename hj hs
  obtain ⟨q1, q2⟩ := r1.repage (i := j) (pg := pg) (by simpa using hj) hpg
  have hf := r1.row
  rw [List.length_set] at hf
  refine ⟨⟨?_, grown_trans r2 q2⟩, ⟨.string (fs.getD j (ByteArray.empty, 0, [])).1, ?_⟩, ⟨.int .i64 (fs.getD j (ByteArray.empty, 0, [])).2.1, ?_⟩, ?_, h1.row.frozenAt _, hf.frozenAt _, h1.row.frozenAt _⟩
  · rw [getD_set _ _ _ _ _ hj, if_pos rfl, List.set_set] at q1
    exact q1
  · rw [h1.row.cellAt _ (by omega)]; exact (h1.name j hj).1
  · rw [h1.row.cellAt _ (by omega)]; exact (h1.page j hj).1
  · rw [h1.row.cellAt _ (by omega), h1.val j hj, hv]
theorem markp_call {w : World} {base j ln kj : Nat} {v : Value} {va : Option Addr} {vc : Nat} {fs : List PP} {ys vs : List Value} {nm : ByteArray} {pg : Int} {P : Prop} (h : OwnP w base v (fs.set j (nm, pg, (fs.getD j (ByteArray.empty, 0, [])).2.2)) ys vs ∧ P) (hj : j < fs.length) (hv : vs.getD j (.slice none 0 0) = .slice va ln vc) (hg : (fs.getD j (ByteArray.empty, 0, [])).2.2.length = ln) (hk : kj + 2 + ln ≤ 1099511627776) :
    Calls Try.prog 93 #[.slice va ln vc, .int .i64 ((kj : Int) + 1 + 1)] w fun e w' => e = .returned (.int .i64 ((kj + 2 + ln : Nat) : Int)) ∧ w'.ownsRow base 5 1 (.slice va ln vc) ln (u8s (marks (kj + 2) ln)) ∧ w.grownBy w' (Value.slice va ln vc).ownBlock := by
  have h1 := h.1.data j (by simpa using hj)
  rw [hv, getD_set _ _ _ _ _ hj, if_pos rfl, hg] at h1
  exact markByteS_any va ln vc (kj + 2) base _ w h1 hk

set_option maxHeartbeats 400000 in
theorem markPendS_any (a : Option Addr) (n c k base : Nat) (fs : List PP) (xs vs : List Value) (w : World) (h : OwnP w base (.slice a n c) fs xs vs) (hn : n = fs.length) (hb : base ≤ w.heap.size) (hk : kP k fs ≤ 1099511627776) :
    Calls Try.prog 65 #[.slice a n c, .int .i64 k] w fun e w' => e = .returned (.int .i64 ((kP k fs : Nat) : Int)) ∧ ∃ ys, OwnP w' base (.slice a n c) (markP k fs) ys vs ∧ Fr (Blk (.slice a n c) vs) w w' := by
  have hnb : n ≤ 1099511627776 := by have := kP_le k fs; omega
  replace hn : Hid (n = fs.length) := hn
  go_enter Try.func65, Try.ntmps65
  go_wp2
  go_loopw [1, 5] (fun kv i wr => ∃ (j : Nat) (ys : List Value), j ≤ n ∧ i = .int .i64 j ∧ kv = .int .i64 ((kP k (fs.take j) : Nat) : Int) ∧ OwnP wr base (.slice a n c) (stP k fs j) ys vs ∧ Fr (Blk (.slice a n c) vs) w wr) (fun _ i _ => n - (intOf i).toNat)
  case atStart => exact ⟨0, xs, Nat.zero_le _, rfl, by simp [kP], by simpa [stP, markP] using h, Fr.refl _ _⟩
  case round =>
    clear h
    obtain ⟨j, ys, hj, rfl, rfl, hO, hfr⟩ := hrel
    by_cases hlt : j < n
    · obtain ⟨g, rfl⟩ : ∃ g, a = some ⟨g, 0, none⟩ := by
        rcases hO.row.2 with ⟨h0, h1⟩ | ⟨g, cap, cur, h0, _⟩
        · have := hn.out; rw [stP_length _ _ _ (by omega)] at h1; omega
        · injection h0 with h1; exact ⟨g, h1⟩
      have hjf : j < fs.length := by have := hn.out; omega
      have hsl := stP_length k fs j (by omega)
      have hget := stP_get k fs j hjf (ByteArray.empty, 0, [])
      have hK := kP_take k fs j hjf
      have hKle := kP_take_le k fs (j + 1)
      obtain ⟨kj, hkj⟩ : ∃ kj, kj = kP k (fs.take j) := ⟨_, rfl⟩
      rw [← hkj] at hK ⊢
      have hfl : n = fs.length := hn.out
      obtain ⟨va, vc, hv⟩ := own_shape (hO.data j (by omega))
      rw [hget] at hv
      obtain ⟨ln, hln⟩ : ∃ ln, ln = fs[j].2.2.length := ⟨_, rfl⟩
      rw [← hln] at hK hv
      have hkb : kj + 2 + ln ≤ 1099511627776 := by omega
      have HO : Hid (OwnP wr base (.slice (some ⟨g, 0, none⟩) n c) (stP k fs j) ys vs) := hO
      have HV : Hid (vs.getD j (.slice none 0 0) = .slice va ln vc) := hv
      have HS : Hid (stP k fs (j + 1) = (stP k fs j).set j (mkS kj, ((kj + 1 : Nat) : Int), marks (kj + 2) ln)) := by
        show _ = _
        rw [stP_succ k fs j hjf, ← hkj, ← hln]
      have HG : Hid (((stP k fs j).getD j (ByteArray.empty, 0, [])).2.2.length = ln) := by show _ = _; rw [hget, hln]
      have HK : Hid (kP k (fs.take (j + 1)) = kj + 2 + ln) := hK
      have HL : Hid (j < (stP k fs j).length) := by show _ < _; omega
      clear hO hv hget hK hKle hkj hln hfl hsl hjf
      go_wp2_with (first
        | (go_at_call 92
           refine (markText_any kj wr (by omega)).mono ?_
           rintro e w1 ⟨rfl, hb1⟩
           obtain ⟨HR1, ⟨u0, c0⟩, ⟨u1, c1⟩, c2, f0, f1, f2⟩ := markp_name HO.out hb1 HL.out HV.out (nm := mkS kj) (pg := (kj : Int) + 1) (mkS_size kj) (by omega))
        | (go_at_call 93
           refine (markp_call HR1.out HL.out HV.out HG.out hkb).mono ?_
           rintro e w2 ⟨rfl, hM1, hM2⟩))
      have R : OwnP w2 base (.slice (some ⟨g, 0, none⟩) n c) (stP k fs (j + 1)) ((ys.set (j * 3) (.string (mkS kj))).set (j * 3 + 1) (.int .i64 ((kj : Int) + 1))) vs ∧ Fr (Blk (.slice (some ⟨g, 0, none⟩) n c) vs) w w2 := by
        have hv := HV.out
        have hl := HL.out
        obtain ⟨r1, r2⟩ := HR1.out
        have h2 := r1.over (i := j) (w' := w2) (l := marks (kj + 2) ln) (by simpa using hl) (by rw [hv, marks_length]; exact hM1) (by rw [hv]; exact hM2) (marks_byte _ _)
        rw [getD_set _ _ _ _ _ hl, if_pos rfl, List.set_set] at h2
        rw [HS.out]
        have hvl := HO.out.len
        exact ⟨h2, ((hfr.trans (Fr.of_below hb1)).trans (Fr.of_grown r2 (fun _ e => .inl e))).trans (Fr.of_grown hM2 (fun _ e => .inr ⟨j, by omega, by rw [hv]; exact e⟩))⟩
      have hK2 := HK.out
      clear hM1 hM2 HR1 hb1 hfr HO
      go_roundw
      case rel => exact ⟨j + 1, _, by omega, by go_num, by rw [hK2]; go_num, R.1, R.2⟩
      case measure => simp [intOf]; omega
    · have hj2 : fs.take j = fs := List.take_of_length_le (by have := hn.out; omega)
      have hj3 : stP k fs j = markP k fs := by
        unfold stP
        rw [hj2, List.drop_eq_nil_of_le (by have := hn.out; omega), List.append_nil]
      rw [hj3] at hO
      rw [hj2]
      clear hj2 hj3
      go_wp2
      go_ret
      exact ⟨rfl, ys, hO, hfr⟩
end Go.Proofs.Ytakdaandbdbdnaa
namespace Go.Proofs.Ytakdaandbdbdnaa
open Go.RowKit
set_option linter.unusedVariables false
set_option maxRecDepth 100000

theorem markF_get (k : Nat) (fs : List PF) (j : Nat) (h : j < fs.length) (d : PF) : (markF k fs).getD j d = (mkS (kF k (fs.take j)), marks (kF k (fs.take j) + 1) fs[j].2.length) := by
  induction fs generalizing k j with
  | nil => simp at h
  | cons a r ih =>
    cases j with
    | zero => simp [markF, kF]
    | succ j =>
      have h' : j < r.length := by simpa using h
      simpa [markF, kF] using ih (k + 1 + a.2.length) j h'

set_option maxHeartbeats 400000 in
theorem heldFileS_any (a : Option Addr) (n c k A B : Nat) (fs : List PF) (w : World) (h : FilesAt w A B a n c (markF k fs)) (hB : B ≤ w.heap.size) (hk : kF k fs ≤ 1099511627776) :
    Calls Try.prog 72 #[.slice a n c, .int .i64 k] w fun e w' => e = .returned (.int .i64 ((kF k fs : Nat) : Int)) ∧ Below w.heap.size w w' := by
  obtain ⟨hl, hnc, hc, hcell⟩ := h
  rw [markF_length] at hl
  have hnb : n ≤ 1099511627776 := by have := kF_le k fs; omega
  replace hl : Hid (n = fs.length) := hl.symm
  go_enter Try.func72, Try.ntmps72
  go_wp2
  go_loopw [1, 5] (fun kv i wr => ∃ (j : Nat), j ≤ n ∧ i = .int .i64 j ∧ kv = .int .i64 ((kF k (fs.take j) : Nat) : Int) ∧ Below w.heap.size w wr) (fun _ i _ => n - (intOf i).toNat)
  case atStart => exact ⟨0, Nat.zero_le _, rfl, by simp [kF], Below.refl _ _⟩
  case round =>
    obtain ⟨j, hj, rfl, rfl, hbel⟩ := hrel
    by_cases hlt : j < n
    · have hjf : j < fs.length := by have := hl.out; omega
      obtain ⟨b, off, rfl, hb, hcb⟩ := hcell (by omega)
      have e1 := (hcb j hlt).below hb (hbel.mono hB)
      rw [markF_get k fs j hjf] at e1
      clear hcell hcb
      have hK := kF_take k fs j hjf
      have hKle := kF_take_le k fs (j + 1)
      obtain ⟨kj, hkj⟩ : ∃ kj, kj = kF k (fs.take j) := ⟨_, rfl⟩
      rw [← hkj] at hK e1 ⊢
      obtain ⟨ln, hln⟩ : ∃ ln, ln = fs[j].2.length := ⟨_, rfl⟩
      rw [← hln] at hK e1
      have hkb : kj + 1 + ln ≤ 1099511627776 := by omega
      obtain ⟨p1, p2, pa, pn, pc, p3, p4⟩ := e1
      have hpl := p4.1
      rw [marks_length] at hpl
      subst hpl
      have HK : Hid (kF k (fs.take (j + 1)) = kj + 1 + ln) := hK
      have hs := hbel.size
      have hbk : b < wr.heap.size := by omega
      have HP : Hid (BytesAt wr A B pa ln pc (marks (kj + 1) ln)) := p4
      clear hK hKle hkj hln hjf p4
      go_wp2
      go_region_held3 (fun w' => w'.cell? ⟨b, off + j * 2, none⟩ = some (.string (mkS kj))) (go_keep)
        (first | (go_at_call 92; refine (markText_any kj wr.drew (by omega)).mono ?_; rintro e w1 ⟨rfl, hb1⟩; replace hb1 : Below wr.heap.size wr w1 := ((Below.refl _ wr).drew).trans hb1; have z1 := (hb1.cell (p := ⟨b, off + j * 2, none⟩) hbk).trans p1))
      have z3 := (hb1.cell (p := ⟨b, off + j * 2 + 1, none⟩) hbk).trans p3
      have HP1 : Hid (BytesAt w1 A B pa ln pc (marks (kj + 1) ln)) := HP.out.below (hb1.mono (by omega))
      have hbw : Below w.heap.size w w1 := hbel.trans (hb1.mono hs)
      have hd : decide ((kj : Int) + 1 + (ln : Int) < 0) = false := by simp; omega
      have hK2 := HK.out
      clear hb1 hbel p1 p3 HP HK
      go_wp2_with (first | (go_at_call 95; refine (heldByteS_any pa ln pc (kj + 1) w1 A B HP1.out hkb).mono ?_; rintro e w2 ⟨rfl, rfl⟩))
      go_roundw
      case rel => exact ⟨j + 1, by omega, by go_num, by rw [hK2]; go_num, hbw⟩
      case measure => simp [intOf]; omega
    · have hj2 : fs.take j = fs := List.take_of_length_le (by have := hl.out; omega)
      rw [hj2]
      clear hj2
      go_wp2
      go_ret
      exact ⟨rfl, hbel⟩
end Go.Proofs.Ytakdaandbdbdnaa
namespace Go.Proofs.Ytakdaandbdbdnaa
open Go.RowKit
set_option linter.unusedVariables false
set_option maxRecDepth 100000

theorem markP_get (k : Nat) (fs : List PP) (j : Nat) (h : j < fs.length) (d : PP) : (markP k fs).getD j d = (mkS (kP k (fs.take j)), ((kP k (fs.take j) + 1 : Nat) : Int), marks (kP k (fs.take j) + 2) fs[j].2.2.length) := by
  induction fs generalizing k j with
  | nil => simp at h
  | cons a r ih =>
    cases j with
    | zero => simp [markP, kP]
    | succ j =>
      have h' : j < r.length := by simpa using h
      simpa [markP, kP] using ih (k + 2 + a.2.2.length) j h'

set_option maxHeartbeats 400000 in
theorem heldPendS_any (a : Option Addr) (n c k A B : Nat) (fs : List PP) (w : World) (h : PendsAt w A B a n c (markP k fs)) (hB : B ≤ w.heap.size) (hk : kP k fs ≤ 1099511627776) :
    Calls Try.prog 73 #[.slice a n c, .int .i64 k] w fun e w' => e = .returned (.int .i64 ((kP k fs : Nat) : Int)) ∧ Below w.heap.size w w' := by
  obtain ⟨hl, hnc, hc, hcell⟩ := h
  rw [markP_length] at hl
  have hnb : n ≤ 1099511627776 := by have := kP_le k fs; omega
  replace hl : Hid (n = fs.length) := hl.symm
  go_enter Try.func73, Try.ntmps73
  go_wp2
  go_loopw [1, 5] (fun kv i wr => ∃ (j : Nat), j ≤ n ∧ i = .int .i64 j ∧ kv = .int .i64 ((kP k (fs.take j) : Nat) : Int) ∧ Below w.heap.size w wr) (fun _ i _ => n - (intOf i).toNat)
  case atStart => exact ⟨0, Nat.zero_le _, rfl, by simp [kP], Below.refl _ _⟩
  case round =>
    obtain ⟨j, hj, rfl, rfl, hbel⟩ := hrel
    by_cases hlt : j < n
    · have hjf : j < fs.length := by have := hl.out; omega
      obtain ⟨b, off, rfl, hb, hcb⟩ := hcell (by omega)
      have e1 := (hcb j hlt).below hb (hbel.mono hB)
      rw [markP_get k fs j hjf] at e1
      clear hcell hcb
      have hK := kP_take k fs j hjf
      have hKle := kP_take_le k fs (j + 1)
      obtain ⟨kj, hkj⟩ : ∃ kj, kj = kP k (fs.take j) := ⟨_, rfl⟩
      rw [← hkj] at hK e1 ⊢
      obtain ⟨ln, hln⟩ : ∃ ln, ln = fs[j].2.2.length := ⟨_, rfl⟩
      rw [← hln] at hK e1
      have hkb : kj + 2 + ln ≤ 1099511627776 := by omega
      obtain ⟨p1, p2, p5, p6, pa, pn, pc, p3, p4⟩ := e1
      have hpl := p4.1
      rw [marks_length] at hpl
      subst hpl
      have HK : Hid (kP k (fs.take (j + 1)) = kj + 2 + ln) := hK
      have hs := hbel.size
      have hbk : b < wr.heap.size := by omega
      have HP : Hid (BytesAt wr A B pa ln pc (marks (kj + 2) ln)) := p4
      clear hK hKle hkj hln hjf p4
      go_wp2
      go_region_held3 (fun w' => w'.cell? ⟨b, off + j * 3, none⟩ = some (.string (mkS kj))) (go_keep)
        (first | (go_at_call 92; refine (markText_any kj wr.drew (by omega)).mono ?_; rintro e w1 ⟨rfl, hb1⟩; replace hb1 : Below wr.heap.size wr w1 := ((Below.refl _ wr).drew).trans hb1; have z1 := (hb1.cell (p := ⟨b, off + j * 3, none⟩) hbk).trans p1))
      have z5 := (hb1.cell (p := ⟨b, off + j * 3 + 1, none⟩) hbk).trans p5
      have z3 := (hb1.cell (p := ⟨b, off + j * 3 + 2, none⟩) hbk).trans p3
      have HP1 : Hid (BytesAt w1 A B pa ln pc (marks (kj + 2) ln)) := HP.out.below (hb1.mono (by omega))
      have hbw : Below w.heap.size w w1 := hbel.trans (hb1.mono hs)
      have hd : decide ((kj : Int) + 2 + (ln : Int) < 0) = false := by simp; omega
      have hK2 := HK.out
      clear hb1 hbel p1 p3 p5 p6 HP HK
      go_wp2_with (first | (go_at_call 95; refine (heldByteS_any pa ln pc (kj + 2) w1 A B HP1.out hkb).mono ?_; rintro e w2 ⟨rfl, rfl⟩))
      go_roundw
      case rel => exact ⟨j + 1, by omega, by go_num, by rw [hK2]; go_num, hbw⟩
      case measure => simp [intOf]; omega
    · have hj2 : fs.take j = fs := List.take_of_length_le (by have := hl.out; omega)
      rw [hj2]
      clear hj2
      go_wp2
      go_ret
      exact ⟨rfl, hbel⟩
end Go.Proofs.Ytakdaandbdbdnaa
namespace Go.Proofs.Ytakdaandbdbdnaa
open Go.RowKit
set_option linter.unusedVariables false
set_option maxRecDepth 100000

/-- A disk's two lists in memory of one's own; no block is in both. -/
structure OwnD (w : World) (base : Nat) (v u : Value) (fs : List PF) (ps : List PP) (xs vs ys us : List Value) : Prop where
  files : OwnF w base v fs xs vs
  cache : OwnP w base u ps ys us
  apart : ∀ g, Blk v vs g → ¬ Blk u us g
theorem OwnF.blk {w : World} {base : Nat} {v : Value} {fs : List PF} {xs vs : List Value} (h : OwnF w base v fs xs vs) {g : Nat} (hg : Blk v vs g) : base ≤ g ∧ g < w.heap.size := by
  rcases hg with hg | ⟨j, hj, hg⟩
  · exact h.row.lt g hg
  · exact (h.data j (by rw [← h.len]; exact hj)).lt g hg
theorem OwnP.blk {w : World} {base : Nat} {v : Value} {fs : List PP} {xs vs : List Value} (h : OwnP w base v fs xs vs) {g : Nat} (hg : Blk v vs g) : base ≤ g ∧ g < w.heap.size := by
  rcases hg with hg | ⟨j, hj, hg⟩
  · exact h.row.lt g hg
  · exact (h.data j (by rw [← h.len]; exact hj)).lt g hg
theorem OwnD.below {w w' : World} {base : Nat} {v u : Value} {fs : List PF} {ps : List PP} {xs vs ys us : List Value} (h : OwnD w base v u fs ps xs vs ys us) (hb : Below w.heap.size w w') : OwnD w' base v u fs ps xs vs ys us :=
  ⟨h.files.below hb, h.cache.below hb, h.apart⟩
/-- A world apart from another's lists: one may be written, the other stays. -/
theorem OwnD.fr {S : Nat → Prop} {w w' : World} {base : Nat} {v u : Value} {fs : List PF} {ps : List PP} {xs vs ys us : List Value} (h : OwnD w base v u fs ps xs vs ys us) (hf : Fr S w w') (hS : ∀ g, Blk v vs g ∨ Blk u us g → ¬ S g) : OwnD w' base v u fs ps xs vs ys us :=
  ⟨h.files.fr hf (fun g hg => hS g (.inl hg)), h.cache.fr hf (fun g hg => hS g (.inr hg)), h.apart⟩

set_option maxHeartbeats 400000 in
theorem markDisk_any (a : Option Addr) (n c : Nat) (b : Option Addr) (m d : Nat) (cp fu de : Value) (k base : Nat) (fs : List PF) (ps : List PP) (xs vs ys us : List Value) (w : World) (h : OwnD w base (.slice a n c) (.slice b m d) fs ps xs vs ys us) (hn : n = fs.length) (hm : m = ps.length) (hb : base ≤ w.heap.size) (hk : kP (kF k fs) ps ≤ 1099511627776) :
    Calls Try.prog 20 #[.agg #[.slice a n c, .slice b m d, cp, fu, de], .int .i64 k] w fun e w' => e = .returned (.int .i64 ((kP (kF k fs) ps : Nat) : Int)) ∧ ∃ xs' ys', OwnD w' base (.slice a n c) (.slice b m d) (markF k fs) (markP (kF k fs) ps) xs' vs ys' us ∧ Below base w w' ∧ Fr (fun g => Blk (.slice a n c) vs g ∨ Blk (.slice b m d) us g) w w' := by
  have hk1 : kF k fs ≤ 1099511627776 := by have := kP_le (kF k fs) ps; omega
  replace hn : Hid (n = fs.length) := hn
  replace hm : Hid (m = ps.length) := hm
  have HH : Hid (OwnD w base (.slice a n c) (.slice b m d) fs ps xs vs ys us) := h
  have H0 : Hid (OwnD (w.alloc (.cells #[.slice a n c, .slice b m d, cp, fu, de] 26)) base (.slice a n c) (.slice b m d) fs ps xs vs ys us) := h.below ((Below.refl _ _).alloc (Nat.le_refl _) _)
  clear h
  go_enter Try.func20, Try.ntmps20
  go_wp2_with fail
  refine (markFileS_any a n c k base fs xs vs _ H0.out.files hn.out (by simp; omega) hk1).mono ?_
  rintro e w1 ⟨rfl, xs1, hF1, hfr1⟩
  have HF1 : Hid (OwnF w1 base (.slice a n c) (markF k fs) xs1 vs) := hF1
  have HP1 : Hid (OwnP w1 base (.slice b m d) ps ys us) := H0.out.cache.fr hfr1 (fun g hu hS => HH.out.apart g hS hu)
  have c1 : w1.cell? ⟨w.heap.size, 1, none⟩ = some (.slice b m d) := by
    have hk : Keeps w.heap.size (w.heap.size + 1) (w.alloc (.cells #[.slice a n c, .slice b m d, cp, fu, de] 26)) w1 := by
      intro i h1 h2
      obtain rfl : i = w.heap.size := by omega
      exact hfr1.block _ (by simp) (fun hS => by have := (HH.out.files.blk hS).2; omega)
    rw [hk.cell (Nat.le_refl _) (Nat.lt_succ_self _)]
    simp
  have hs1 := hfr1.size
  have HS1 : Hid (Fr (Blk (.slice a n c) vs) (w.alloc (.cells #[.slice a n c, .slice b m d, cp, fu, de] 26)) w1) := hfr1
  simp at hs1
  clear hF1 hfr1
  go_wp2_with fail
  refine (markPendS_any b m d (kF k fs) base ps ys us w1 HP1.out hm.out (by omega) hk).mono ?_
  rintro e w2 ⟨rfl, ys1, hP2, hfr2⟩
  have R : OwnD w2 base (.slice a n c) (.slice b m d) (markF k fs) (markP (kF k fs) ps) xs1 vs ys1 us ∧ Below base w w2 ∧ Fr (fun g => Blk (.slice a n c) vs g ∨ Blk (.slice b m d) us g) w w2 :=
    ⟨⟨HF1.out.fr hfr2 (fun g hg hS => HH.out.apart g hg hS), hP2, HH.out.apart⟩,
     (((Below.refl _ _).alloc hb _).trans (HS1.out.below (by simp; omega) (fun g hg => (HH.out.files.blk hg).1))).trans (hfr2.below (by omega) (fun g hg => (HH.out.cache.blk hg).1)),
     ((Fr.of_below ((Below.refl _ _).alloc (Nat.le_refl _) _)).trans (HS1.out.weak (fun g e => .inl e))).trans (hfr2.weak (fun g e => .inr e))⟩
  clear hP2 hfr2
  go_wp2_with fail
  go_ret
  exact ⟨rfl, _, _, R.1, R.2.1, R.2.2⟩
end Go.Proofs.Ytakdaandbdbdnaa
