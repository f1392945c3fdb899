import Derived.Test.YtmmdkjeoadlikaaMkF
namespace Go.Proofs.Ytmmdkjeoadlikaa
open Go.RowKit
set_option linter.unusedVariables false
set_option maxRecDepth 100000

/-- What marking writes makes of them, and the number that is next. -/
def markP : Nat → List PP → List PP
  | _, [] => []
  | k, f :: r => (mkS k, ((k + 1 : Nat) : Int), marks (k + 2) f.2.2.length) :: markP (k + 2 + f.2.2.length) r
def kP : Nat → List PP → Nat
  | k, [] => k
  | k, f :: r => kP (k + 2 + f.2.2.length) r
theorem kP_snoc (k : Nat) (l : List PP) (f : PP) : kP k (l ++ [f]) = kP k l + 2 + f.2.2.length := by
  induction l generalizing k with
  | nil => rfl
  | cons a r ih => simp only [List.cons_append, kP]; exact ih _
theorem markP_snoc (k : Nat) (l : List PP) (f : PP) : markP k (l ++ [f]) = markP k l ++ [(mkS (kP k l), ((kP k l + 1 : Nat) : Int), marks (kP k l + 2) f.2.2.length)] := by
  induction l generalizing k with
  | nil => rfl
  | cons a r ih => simp only [List.cons_append, markP, kP]; rw [ih]
theorem markP_length (k : Nat) (l : List PP) : (markP k l).length = l.length := by
  induction l generalizing k with
  | nil => rfl
  | cons a r ih => simp only [markP, List.length_cons, ih]
theorem kP_le (k : Nat) (l : List PP) : k + l.length ≤ kP k l := by
  induction l generalizing k with
  | nil => simp [kP]
  | cons a r ih => have := ih (k + 2 + a.2.2.length); simp only [kP, List.length_cons]; omega
theorem kP_append (k : Nat) (a b : List PP) : kP k (a ++ b) = kP (kP k a) b := by
  induction a generalizing k with
  | nil => rfl
  | cons x r ih => simp only [List.cons_append, kP]; exact ih _
def stP (k : Nat) (fs : List PP) (j : Nat) : List PP := markP k (fs.take j) ++ fs.drop j
theorem stP_length (k : Nat) (fs : List PP) (j : Nat) (h : j ≤ fs.length) : (stP k fs j).length = fs.length := by
  simp [stP, markP_length]; omega
theorem stP_get (k : Nat) (fs : List PP) (j : Nat) (h : j < fs.length) (d : PP) : (stP k fs j).getD j d = fs[j] := by
  have h1 : (markP k (fs.take j)).length = j := by rw [markP_length, List.length_take]; omega
  simp [stP, List.getD, List.getElem?_append_right, h1, h]
theorem stP_succ (k : Nat) (fs : List PP) (j : Nat) (h : j < fs.length) : stP k fs (j + 1) = (stP k fs j).set j (mkS (kP k (fs.take j)), ((kP k (fs.take j) + 1 : Nat) : Int), marks (kP k (fs.take j) + 2) fs[j].2.2.length) := by
  have h1 : (markP k (fs.take j)).length = j := by rw [markP_length, List.length_take]; omega
  unfold stP
  rw [List.set_append_right _ _ (by omega), h1, Nat.sub_self, List.drop_eq_getElem_cons h, List.set_cons_zero, List.take_succ_eq_append_getElem h, markP_snoc]
  simp
theorem kP_take (k : Nat) (fs : List PP) (j : Nat) (h : j < fs.length) : kP k (fs.take (j + 1)) = kP k (fs.take j) + 2 + fs[j].2.2.length := by
  rw [List.take_succ_eq_append_getElem h, kP_snoc]
theorem kP_take_le (k : Nat) (fs : List PP) (j : Nat) : kP k (fs.take j) ≤ kP k fs := by
  have h1 : kP k fs = kP (kP k (fs.take j)) (fs.drop j) := by rw [← kP_append, List.take_append_drop]
  have := kP_le (kP k (fs.take j)) (fs.drop j)
  omega

/-- Rows of other types lie in other blocks. -/
theorem own_ne2 {w : World} {b1 b2 e1 e2 s1 s2 : Nat} {v u : Value} {n m : Nat} {xs ys : List Value} (hne : e1 ≠ e2) (h : w.ownsRow b1 e1 s1 v n xs) (k : w.ownsRow b2 e2 s2 u m ys) : u.ownBlock = none ∨ u.ownBlock ≠ v.ownBlock := by
  rcases k.2 with ⟨rfl, _⟩ | ⟨g, cap, cur, rfl, _, hg, _⟩
  · exact .inl rfl
  · refine .inr fun e => ?_
    rcases h.2 with ⟨rfl, _⟩ | ⟨g', cap', cur', rfl, _, hg', _⟩
    · simp [Value.ownBlock] at e
    · simp [Value.ownBlock] at e
      subst e
      rw [hg] at hg'
      simp at hg'
      exact hne hg'.2.symm

/-- A list of writes in memory of one's own: the row of the writes, and for each a row of its bytes; no two share a block. -/
structure OwnP (w : World) (base : Nat) (v : Value) (ps : List PP) (xs vs : List Value) : Prop where
  row : w.ownsRow base 77 3 v ps.length xs
  len : vs.length = ps.length
  name : ∀ j, j < ps.length → xs[j * 3]? = some (.string (ps.getD j (ByteArray.empty, 0, [])).1) ∧ (ps.getD j (ByteArray.empty, 0, [])).1.size ≤ maxLen
  page : ∀ j, j < ps.length → xs[j * 3 + 1]? = some (.int .i64 (ps.getD j (ByteArray.empty, 0, [])).2.1) ∧ (-9223372036854775808 ≤ (ps.getD j (ByteArray.empty, 0, [])).2.1 ∧ (ps.getD j (ByteArray.empty, 0, [])).2.1 ≤ 9223372036854775807)
  val : ∀ j, j < ps.length → xs[j * 3 + 2]? = some (vs.getD j (.slice none 0 0))
  data : ∀ j, j < ps.length → w.ownsRow base 5 1 (vs.getD j (.slice none 0 0)) (ps.getD j (ByteArray.empty, 0, [])).2.2.length (u8s (ps.getD j (ByteArray.empty, 0, [])).2.2)
  byte : ∀ j, j < ps.length → ∀ x ∈ (ps.getD j (ByteArray.empty, 0, [])).2.2, 0 ≤ x ∧ x ≤ 255
  apart : ∀ i j, i < j → j < ps.length → ∀ g, (vs.getD i (.slice none 0 0)).ownBlock = some g → (vs.getD j (.slice none 0 0)).ownBlock ≠ some g

theorem OwnP.below {w w' : World} {base : Nat} {v : Value} {fs : List PP} {xs vs : List Value} (h : OwnP w base v fs xs vs) (hb : Below w.heap.size w w') : OwnP w' base v fs xs vs :=
  ⟨owns_below h.row hb, h.len, h.name, h.page, h.val, fun j hj => owns_below (h.data j hj) hb, h.byte, h.apart⟩
theorem OwnP.nil {w : World} {base : Nat} {v : Value} (h : w.ownsRow base 77 3 v 0 []) : OwnP w base v [] [] [] :=
  ⟨h, rfl, fun j hj => absurd hj (Nat.not_lt_zero _), fun j hj => absurd hj (Nat.not_lt_zero _), fun j hj => absurd hj (Nat.not_lt_zero _), fun j hj => absurd hj (Nat.not_lt_zero _), fun j hj => absurd hj (Nat.not_lt_zero _), fun i j hij hj => absurd hj (Nat.not_lt_zero _)⟩
theorem OwnP.fr {S : Nat → Prop} {w w' : World} {base : Nat} {v : Value} {fs : List PP} {xs vs : List Value} (h : OwnP w base v fs xs vs) (hf : Fr S w w') (hS : ∀ g, Blk v vs g → ¬ S g) : OwnP w' base v fs xs vs :=
  ⟨owns_fr h.row hf (fun g hg => hS g (.inl hg)), h.len, h.name, h.page, h.val, fun j hj => owns_fr (h.data j hj) hf (fun g hg => hS g (.inr ⟨j, by rw [h.len]; exact hj, hg⟩)), h.byte, h.apart⟩
theorem OwnP.apart2 {w : World} {base : Nat} {v : Value} {fs : List PP} {xs vs : List Value} (h : OwnP w base v fs xs vs) {i j g : Nat} (hij : i ≠ j) (hi : i < fs.length) (hj : j < fs.length) (hg : (vs.getD i (.slice none 0 0)).ownBlock = some g) : (vs.getD j (.slice none 0 0)).ownBlock ≠ some g := by
  by_cases hlt : i < j
  · exact h.apart i j hlt hj g hg
  · intro e
    exact h.apart j i (by omega) hi g e hg
theorem OwnP.pends {w : World} {base : Nat} {v : Value} {fs : List PP} {xs vs : List Value} (h : OwnP w base v fs xs vs) : ∃ a n c, v = .slice a n c ∧ n = fs.length ∧ PendsAt w base w.heap.size a n c fs := by
  rcases h.row.2 with ⟨rfl, hn⟩ | ⟨g, cap, cur, rfl, hb, hg, h1, h2, _⟩
  · exact ⟨none, 0, 0, rfl, hn.symm, hn, Nat.le_refl _, Nat.zero_le _, fun h => absurd h (Nat.lt_irrefl _)⟩
  · refine ⟨some ⟨g, 0, none⟩, fs.length, cap, rfl, rfl, rfl, h1, h2, fun hn => ⟨g, 0, rfl, h.row.lt g rfl, fun i hi => ?_⟩⟩
    obtain ⟨a, n, c, e, hby⟩ := bytesAt_of_own (h.data i hi) (h.byte i hi)
    refine ⟨?_, (h.name i hi).2, ?_, (h.page i hi).2, a, n, c, ?_, hby⟩
    · rw [Nat.zero_add, h.row.cellAt (i * 3) (by omega)]; exact (h.name i hi).1
    · rw [Nat.zero_add, h.row.cellAt (i * 3 + 1) (by omega)]; exact (h.page i hi).1
    · rw [Nat.zero_add, h.row.cellAt (i * 3 + 2) (by omega), h.val i hi, e]

/-- A write's name, its page, are stored. -/
theorem OwnP.rename {w : World} {base g n c i : Nat} {fs : List PP} {xs vs : List Value} {nm : ByteArray} (h : OwnP w base (.slice (some ⟨g, 0, none⟩) n c) fs xs vs) (hi : i < fs.length) (hs : nm.size ≤ maxLen) :
    OwnP (w.setCell ⟨g, i * 3, none⟩ (.string nm)) base (.slice (some ⟨g, 0, none⟩) n c) (fs.set i (nm, (fs.getD i (ByteArray.empty, 0, [])).2)) (xs.set (i * 3) (.string nm)) vs ∧ w.grownBy (w.setCell ⟨g, i * 3, none⟩ (.string nm)) (some g) := by
  have hvl := h.len
  have hx := h.row.1
  obtain ⟨hn, hrow⟩ : fs.length = n ∧ w.ownsRow base 77 3 (.slice (some ⟨g, 0, none⟩) n c) fs.length xs := by
    refine ⟨?_, h.row⟩
    rcases h.row.2 with ⟨h', _⟩ | ⟨g', cap', cur, h', _⟩
    · simp at h'
    · simp at h'; omega
  subst hn
  obtain ⟨hst, hsg⟩ := hrow.stored (i * 3) (.string nm)
  have hne : ∀ {b2 m : Nat} {u : Value} {ys : List Value}, w.ownsRow b2 5 1 u m ys → (w.setCell ⟨g, i * 3, none⟩ (.string nm)).ownsRow b2 5 1 u m ys := fun hk => hk.kept hsg (own_ne2 (by decide) hrow hk)
  refine ⟨⟨by simpa using hst, by simp [hvl], ?_, ?_, ?_, ?_, ?_, ?_⟩, hsg⟩
  · intro j hj
    simp at hj
    rw [getD_set _ _ _ _ _ hi]
    split
    · rename_i e; subst e; rw [List.getElem?_set_self (by omega)]; exact ⟨rfl, hs⟩
    · rw [List.getElem?_set_ne (by omega)]; exact h.name j hj
  · intro j hj
    simp at hj
    rw [getD_set _ _ _ _ _ hi, List.getElem?_set_ne (by omega)]
    split
    · rename_i e; subst e; exact h.page j hj
    · exact h.page j hj
  · intro j hj
    simp at hj
    rw [List.getElem?_set_ne (by omega)]; exact h.val j hj
  · intro j hj
    simp at hj
    rw [getD_set _ _ _ _ _ hi]
    split
    · rename_i e; subst e; exact hne (h.data j hj)
    · exact hne (h.data j hj)
  · intro j hj
    simp at hj
    rw [getD_set _ _ _ _ _ hi]
    split
    · rename_i e; subst e; exact h.byte j hj
    · exact h.byte j hj
  · intro a b hab hb k hk
    simp at hb
    exact h.apart a b hab hb k hk
theorem OwnP.repage {w : World} {base g n c i : Nat} {fs : List PP} {xs vs : List Value} {pg : Int} (h : OwnP w base (.slice (some ⟨g, 0, none⟩) n c) fs xs vs) (hi : i < fs.length) (hs : -9223372036854775808 ≤ pg ∧ pg ≤ 9223372036854775807) :
    OwnP (w.setCell ⟨g, i * 3 + 1, none⟩ (.int .i64 pg)) base (.slice (some ⟨g, 0, none⟩) n c) (fs.set i ((fs.getD i (ByteArray.empty, 0, [])).1, pg, (fs.getD i (ByteArray.empty, 0, [])).2.2)) (xs.set (i * 3 + 1) (.int .i64 pg)) vs ∧ w.grownBy (w.setCell ⟨g, i * 3 + 1, none⟩ (.int .i64 pg)) (some g) := by
  have hvl := h.len
  have hx := h.row.1
  obtain ⟨hn, hrow⟩ : fs.length = n ∧ w.ownsRow base 77 3 (.slice (some ⟨g, 0, none⟩) n c) fs.length xs := by
    refine ⟨?_, h.row⟩
    rcases h.row.2 with ⟨h', _⟩ | ⟨g', cap', cur, h', _⟩
    · simp at h'
    · simp at h'; omega
  subst hn
  obtain ⟨hst, hsg⟩ := hrow.stored (i * 3 + 1) (.int .i64 pg)
  have hne : ∀ {b2 m : Nat} {u : Value} {ys : List Value}, w.ownsRow b2 5 1 u m ys → (w.setCell ⟨g, i * 3 + 1, none⟩ (.int .i64 pg)).ownsRow b2 5 1 u m ys := fun hk => hk.kept hsg (own_ne2 (by decide) hrow hk)
  refine ⟨⟨by simpa using hst, by simp [hvl], ?_, ?_, ?_, ?_, ?_, ?_⟩, hsg⟩
  · intro j hj
    simp at hj
    rw [getD_set _ _ _ _ _ hi, List.getElem?_set_ne (by omega)]
    split
    · rename_i e; subst e; exact h.name j hj
    · exact h.name j hj
  · intro j hj
    simp at hj
    rw [getD_set _ _ _ _ _ hi]
    split
    · rename_i e; subst e; rw [List.getElem?_set_self (by omega)]; exact ⟨rfl, hs⟩
    · rw [List.getElem?_set_ne (by omega)]; exact h.page j hj
  · intro j hj
    simp at hj
    rw [List.getElem?_set_ne (by omega)]; exact h.val j hj
  · intro j hj
    simp at hj
    rw [getD_set _ _ _ _ _ hi]
    split
    · rename_i e; subst e; exact hne (h.data j hj)
    · exact hne (h.data j hj)
  · intro j hj
    simp at hj
    rw [getD_set _ _ _ _ _ hi]
    split
    · rename_i e; subst e; exact h.byte j hj
    · exact h.byte j hj
  · intro a b hab hb k hk
    simp at hb
    exact h.apart a b hab hb k hk

/-- A write's bytes are written over where they lie. -/
theorem OwnP.over {w w' : World} {base i : Nat} {v : Value} {fs : List PP} {xs vs : List Value} {l : List Int} (h : OwnP w base v fs xs vs) (hi : i < fs.length) (hr : w'.ownsRow base 5 1 (vs.getD i (.slice none 0 0)) l.length (u8s l)) (hg : w.grownBy w' (vs.getD i (.slice none 0 0)).ownBlock) (hl : ∀ x ∈ l, 0 ≤ x ∧ x ≤ 255) :
    OwnP w' base v (fs.set i ((fs.getD i (ByteArray.empty, 0, [])).1, (fs.getD i (ByteArray.empty, 0, [])).2.1, l)) xs vs := by
  have hvl := h.len
  have hrow := h.row.kept hg (by
      rcases own_ne2 (by decide) h.row (h.data i hi) with h1 | h1
      · rw [h1]
        cases v.ownBlock
        · exact .inl rfl
        · exact .inr (by simp)
      · exact .inr (Ne.symm h1))
  refine ⟨by simpa using hrow, by simp [hvl], ?_, ?_, ?_, ?_, ?_, ?_⟩
  · intro j hj
    simp at hj
    rw [getD_set _ _ _ _ _ hi]
    split
    · rename_i e; subst e; exact h.name j hj
    · exact h.name j hj
  · intro j hj
    simp at hj
    rw [getD_set _ _ _ _ _ hi]
    split
    · rename_i e; subst e; exact h.page j hj
    · exact h.page j hj
  · intro j hj
    simp at hj
    exact h.val j hj
  · intro j hj
    simp at hj
    rw [getD_set _ _ _ _ _ hi]
    split
    · rename_i e; subst e; exact hr
    · rename_i e
      refine (h.data j hj).kept hg ?_
      cases hb : (vs.getD j (.slice none 0 0)).ownBlock
      · exact .inl rfl
      · exact .inr (fun e2 => h.apart2 (i := j) (j := i) (by omega) hj hi hb e2.symm)
  · intro j hj
    simp at hj
    rw [getD_set _ _ _ _ _ hi]
    split
    · exact hl
    · exact h.byte j hj
  · intro a b hab hb k hk
    simp at hb
    exact h.apart a b hab hb k hk
end Go.Proofs.Ytmmdkjeoadlikaa
