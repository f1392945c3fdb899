import Derived.Test.YtakdaandbdbdnaaGAA
import Derived.Test.YtakdaandbdbdnaaGAB
import Derived.Deep.RegionLaw
import Derived.Deep.RegionHeld3
namespace Go.Proofs.Ytakdaandbdbdnaa
open Go.RowKit
set_option linter.unusedVariables false
set_option linter.unusedSimpArgs false
set_option maxRecDepth 100000
theorem getD_ins {α : Type} (l : List α) (x d : α) (p j : Nat) (hp : p ≤ l.length) : (l.take p ++ x :: l.drop p).getD j d = if j < p then l.getD j d else if j = p then x else l.getD (j - 1) d := by
 simp only [List.getD]
 by_cases h1 : j < p
 ·rw [if_pos h1, List.getElem?_append_left (by simp; omega), List.getElem?_take, if_pos h1]
 ·rw [if_neg h1, List.getElem?_append_right (by simp; omega)]
  by_cases h2 : j = p
  ·subst h2; simp [Nat.min_eq_left hp]
  ·rw [if_neg h2]
   have : j - (l.take p).length = (j - 1 - p) + 1 := by simp [Nat.min_eq_left hp]; omega
   rw [this, List.getElem?_cons_succ, List.getElem?_drop]
   congr 2; omega
theorem cells_ins (xs : List Value) (s u : Value) (n p : Nat) (hx : xs.length = n * 2) (hp : p ≤ n) (j : Nat) :
  (xs.take (p * 2) ++ [s, u] ++ xs.drop (p * 2))[j * 2]? = (if j < p then xs[j * 2]? else if j = p then some s else xs[(j - 1) * 2]?) ∧
  (xs.take (p * 2) ++ [s, u] ++ xs.drop (p * 2))[j * 2 + 1]? = (if j < p then xs[j * 2 + 1]? else if j = p then some u else xs[(j - 1) * 2 + 1]?) := by
 have hl : (xs.take (p * 2)).length = p * 2 := by simp; omega
 by_cases h1 : j < p
 ·rw [if_pos h1, if_pos h1, List.append_assoc, List.getElem?_append_left (by omega), List.getElem?_append_left (by omega), List.getElem?_take, List.getElem?_take, if_pos (by omega), if_pos (by omega)]
  exact ⟨rfl, rfl⟩
 ·have key : ∀ q, p * 2 ≤ q → (xs.take (p * 2) ++ [s, u] ++ xs.drop (p * 2))[q]? = ([s, u] ++ xs.drop (p * 2))[q - p * 2]? := by
   intro q hq
   rw [List.append_assoc, List.getElem?_append_right (by omega), hl]
  rw [if_neg h1, if_neg h1, key _ (by omega), key _ (by omega)]
  by_cases h2 : j = p
  ·subst h2
   rw [if_pos rfl, if_pos rfl, show j * 2 - j * 2 = 0 by omega, show j * 2 + 1 - j * 2 = 1 by omega]
   exact ⟨rfl, rfl⟩
  ·have k2 : ∀ q, 2 ≤ q → ([s, u] ++ xs.drop (p * 2))[q]? = xs[p * 2 + (q - 2)]? := by
    intro q hq
    rw [List.getElem?_append_right (by simpa using hq), List.getElem?_drop]; simp
   rw [if_neg h2, if_neg h2, k2 _ (by omega), k2 _ (by omega)]
   exact ⟨by congr 1; omega, by congr 1; omega⟩
theorem OwnF.apart2 {w : World} {base : Nat} {v : Value} {fs : List PF} {xs vs : List Value} (h : OwnF w base v fs xs vs) {i j g : Nat} (hij : i ≠ j) (hi : i < fs.length) (hj : j < fs.length) (hg : (vs.getD i (.slice none 0 0)).ownBlock = some g) : (vs.getD j (.slice none 0 0)).ownBlock ≠ some g := by
 by_cases hlt : i < j
 ·exact h.apart i j hlt hj g hg
 ·intro e
  exact h.apart j i (by omega) hi g e hg
theorem OwnF.insert {w w' : World} {base B' : Nat} {v v' : Value} {fs : List PF} {xs vs : List Value} {nm : ByteArray} {p : Nat} (h : OwnF w base v fs xs vs) (hb : Below w.heap.size w w') (hp : p ≤ fs.length) (hB : base ≤ B') (hs : nm.size ≤ maxLen)
  (hrow : w'.ownsRow B' 92 2 v' (fs.length + 1) (xs.take (p * 2) ++ [.string nm, .slice none 0 0] ++ xs.drop (p * 2))) :
  OwnF w' base v' (fs.take p ++ (nm, []) :: fs.drop p) (xs.take (p * 2) ++ [.string nm, .slice none 0 0] ++ xs.drop (p * 2)) (vs.take p ++ .slice none 0 0 :: vs.drop p) := by
 have h1 := h.below hb
 have hvl := h.len
 have hfl : (fs.take p ++ (nm, []) :: fs.drop p).length = fs.length + 1 := by simp; omega
 have hx := h.row.1
 refine ⟨by rw [hfl]; exact own_lower hrow hB, by rw [hfl]; simp; omega, ?_, ?_, ?_, ?_, ?_⟩
 ·intro j hj
  rw [hfl] at hj
  rw [getD_ins _ _ _ _ _ hp, (cells_ins xs _ _ fs.length p hx hp j).1]
  split
  ·exact h.name j (by omega)
  ·split
   ·exact ⟨rfl, hs⟩
   ·exact h.name (j - 1) (by omega)
 ·intro j hj
  rw [hfl] at hj
  rw [getD_ins _ _ _ _ _ (by omega), (cells_ins xs _ _ fs.length p hx hp j).2]
  split
  ·exact h.val j (by omega)
  ·split
   ·rfl
   ·exact h.val (j - 1) (by omega)
 ·intro j hj
  rw [hfl] at hj
  rw [getD_ins _ _ _ _ _ hp, getD_ins _ _ _ _ _ (by omega)]
  split
  ·exact h1.data j (by omega)
  ·split
   ·exact World.ownsRow_nil _ _ _ _
   ·exact h1.data (j - 1) (by omega)
 ·intro j hj
  rw [hfl] at hj
  rw [getD_ins _ _ _ _ _ hp]
  split
  ·exact h.byte j (by omega)
  ·split
   ·intro x hx; cases hx
   ·exact h.byte (j - 1) (by omega)
 ·intro i j hij hj g hg
  rw [hfl] at hj
  rw [getD_ins _ _ _ _ _ (by omega)] at hg ⊢
  split at hg
  ·split
   ·exact h.apart2 (by omega) (by omega) (by omega) hg
   ·split
    ·simp [Value.ownBlock]
    ·exact h.apart2 (by omega) (by omega) (by omega) hg
  ·split at hg
   ·simp [Value.ownBlock] at hg
   ·rw [if_neg (by omega), if_neg (by omega)]
    exact h.apart2 (by omega) (by omega) (by omega) hg
theorem getD_set {α : Type} (l : List α) (x d : α) (i j : Nat) (hi : i < l.length) : (l.set i x).getD j d = if j = i then x else l.getD j d := by
 simp only [List.getD]
 by_cases h : j = i
 ·subst h; rw [if_pos rfl, List.getElem?_set_self hi]; rfl
 ·rw [if_neg h, List.getElem?_set_ne (by omega)]
theorem OwnF.edit {w1 wr : World} {base g n c i : Nat} {bv : Value} {fs : List PF} {xs vs : List Value} {l : List Int} (h : OwnF w1 base (.slice (some ⟨g, 0, none⟩) n c) fs xs vs) (hi : i < fs.length) (he : Edit w1 wr base (vs.getD i (.slice none 0 0)) bv l) (hl : ∀ x ∈ l, 0 ≤ x ∧ x ≤ 255) :
  OwnF (wr.setCell ⟨g, i * 2 + 1, none⟩ bv) base (.slice (some ⟨g, 0, none⟩) n c) (fs.set i ((fs.getD i (ByteArray.empty, [])).1, l)) (xs.set (i * 2 + 1) bv) (vs.set i bv) := by
 have hvl := h.len
 have hx := h.row.1
 have hrow0 := h.row
 obtain ⟨hn, hrow⟩ : fs.length = n ∧ wr.ownsRow base 92 2 (.slice (some ⟨g, 0, none⟩) n c) fs.length xs := by
  have hk := h.row.kept he.grown (by
   rcases own_ne h.row (h.data i hi) with h1 | h1
   ·exact .inr (by rw [h1]; simp [Value.ownBlock])
   ·exact .inr (Ne.symm h1))
  refine ⟨?_, hk⟩
  rcases hk.2 with ⟨h', _⟩ | ⟨g', cap', cur, h', _⟩
  ·simp at h'
  ·simp at h'; omega
 subst hn
 obtain ⟨hst, hsg⟩ := hrow.stored (i * 2 + 1) bv
 have hne : ∀ {b2 m : Nat} {u : Value} {ys : List Value}, wr.ownsRow b2 5 1 u m ys → (wr.setCell ⟨g, i * 2 + 1, none⟩ bv).ownsRow b2 5 1 u m ys := fun hk => hk.kept hsg (own_ne hrow hk)
 refine ⟨by simpa using hst, by simp [hvl], ?_, ?_, ?_, ?_, ?_⟩
 ·intro j hj
  simp at hj
  rw [getD_set _ _ _ _ _ hi, List.getElem?_set_ne (by omega)]
  split
  ·rename_i e; subst e; exact h.name j hj
  ·exact h.name j hj
 ·intro j hj
  simp at hj
  rw [getD_set _ _ _ _ _ (by omega)]
  split
  ·rename_i e; subst e; rw [List.getElem?_set_self (by omega)]
  ·rw [List.getElem?_set_ne (by omega)]; exact h.val j hj
 ·intro j hj
  simp at hj
  rw [getD_set _ _ _ _ _ hi, getD_set _ _ _ _ _ (by omega)]
  split
  ·exact hne he.row
  ·rename_i e
   refine hne ((h.data j hj).kept he.grown ?_)
   cases hb : (vs.getD j (.slice none 0 0)).ownBlock
   ·exact .inl rfl
   ·rename_i k
    exact .inr (fun e2 => h.apart2 (i := j) (j := i) (by omega) hj hi hb e2.symm)
 ·intro j hj
  simp at hj
  rw [getD_set _ _ _ _ _ hi]
  split
  ·exact hl
  ·exact h.byte j hj
 ·intro a b hab hb k hk
  simp at hb
  rw [getD_set _ _ _ _ _ (by omega)] at hk ⊢
  split at hk
  ·rename_i e; subst e
   rw [if_neg (by omega)]
   rcases he.at_ with h1 | h1
   ·exact h.apart2 (by omega) hi (by omega) (h1 ▸ hk)
   ·intro e2
    have := ((h.data b (by omega)).lt k e2).2
    have := h1 k hk
    omega
  ·rename_i e
   split
   ·rename_i e3; subst e3
    intro e2
    rcases he.at_ with h1 | h1
    ·exact h.apart2 (i := a) (j := b) (by omega) (by omega) (by omega) hk (h1 ▸ e2)
    ·have := ((h.data a (by omega)).lt k hk).2
     have := h1 k e2
     omega
   ·exact h.apart2 (by omega) (by omega) (by omega) hk
def markF : Nat → List PF → List PF
 | _, [] => []
 | k, f :: r => (mkS k, marks (k + 1) f.2.length) :: markF (k + 1 + f.2.length) r
def kF : Nat → List PF → Nat
 | k, [] => k
 | k, f :: r => kF (k + 1 + f.2.length) r
def stF (k : Nat) (fs : List PF) (j : Nat) : List PF := markF k (fs.take j) ++ fs.drop j
def Blk (v : Value) (vs : List Value) (g : Nat) : Prop := v.ownBlock = some g ∨ ∃ j, j < vs.length ∧ (vs.getD j (.slice none 0 0)).ownBlock = some g
theorem OwnF.fr {S : Nat → Prop} {w w' : World} {base : Nat} {v : Value} {fs : List PF} {xs vs : List Value} (h : OwnF w base v fs xs vs) (hf : Fr S w w') (hS : ∀ g, Blk v vs g → ¬ S g) : OwnF w' base v fs xs vs :=
 ⟨owns_fr h.row hf (fun g hg => hS g (.inl hg)), h.len, h.name, h.val, fun j hj => owns_fr (h.data j hj) hf (fun g hg => hS g (.inr ⟨j, by rw [h.len]; exact hj, hg⟩)), h.byte, h.apart⟩

def markP : Nat → List PP → List PP
 | _, [] => []
 | k, f :: r => (mkS k, ((k + 1 : Nat) : Int), marks (k + 2) f.2.2.length) :: markP (k + 2 + f.2.2.length) r
def kP : Nat → List PP → Nat
 | k, [] => k
 | k, f :: r => kP (k + 2 + f.2.2.length) r
def stP (k : Nat) (fs : List PP) (j : Nat) : List PP := markP k (fs.take j) ++ fs.drop j
theorem own_ne2 {w : World} {b1 b2 e1 e2 s1 s2 : Nat} {v u : Value} {n m : Nat} {xs ys : List Value} (hne : e1 ≠ e2) (h : w.ownsRow b1 e1 s1 v n xs) (k : w.ownsRow b2 e2 s2 u m ys) : u.ownBlock = none ∨ u.ownBlock ≠ v.ownBlock := by
 rcases k.2 with ⟨rfl, _⟩ | ⟨g, cap, cur, rfl, _, hg, _⟩
 ·exact .inl rfl
 ·refine .inr fun e => ?_
  rcases h.2 with ⟨rfl, _⟩ | ⟨g', cap', cur', rfl, _, hg', _⟩
  ·simp [Value.ownBlock] at e
  ·simp [Value.ownBlock] at e
   subst e
   rw [hg] at hg'
   simp at hg'
   exact hne hg'.2.symm
structure OwnP (w : World) (base : Nat) (v : Value) (ps : List PP) (xs vs : List Value) : Prop where
 row : w.ownsRow base 71 3 v ps.length xs
 len : vs.length = ps.length
 name : ∀ j, j < ps.length → xs[j * 3]? = some (.string (ps.getD j (ByteArray.empty, 0, [])).1) ∧ (ps.getD j (ByteArray.empty, 0, [])).1.size ≤ maxLen
 page : ∀ j, j < ps.length → xs[j * 3 + 1]? = some (.int .i64 (ps.getD j (ByteArray.empty, 0, [])).2.1) ∧ (-9223372036854775808 ≤ (ps.getD j (ByteArray.empty, 0, [])).2.1 ∧ (ps.getD j (ByteArray.empty, 0, [])).2.1 ≤ 9223372036854775807)
 val : ∀ j, j < ps.length → xs[j * 3 + 2]? = some (vs.getD j (.slice none 0 0))
 data : ∀ j, j < ps.length → w.ownsRow base 5 1 (vs.getD j (.slice none 0 0)) (ps.getD j (ByteArray.empty, 0, [])).2.2.length (u8s (ps.getD j (ByteArray.empty, 0, [])).2.2)
 byte : ∀ j, j < ps.length → ∀ x ∈ (ps.getD j (ByteArray.empty, 0, [])).2.2, 0 ≤ x ∧ x ≤ 255
 apart : ∀ i j, i < j → j < ps.length → ∀ g, (vs.getD i (.slice none 0 0)).ownBlock = some g → (vs.getD j (.slice none 0 0)).ownBlock ≠ some g
theorem OwnP.below {w w' : World} {base : Nat} {v : Value} {fs : List PP} {xs vs : List Value} (h : OwnP w base v fs xs vs) (hb : Below w.heap.size w w') : OwnP w' base v fs xs vs :=
 ⟨owns_below h.row hb, h.len, h.name, h.page, h.val, fun j hj => owns_below (h.data j hj) hb, h.byte, h.apart⟩
theorem OwnP.nil {w : World} {base : Nat} {v : Value} (h : w.ownsRow base 71 3 v 0 []) : OwnP w base v [] [] [] :=
 ⟨h, rfl, fun j hj => absurd hj (Nat.not_lt_zero _), fun j hj => absurd hj (Nat.not_lt_zero _), fun j hj => absurd hj (Nat.not_lt_zero _), fun j hj => absurd hj (Nat.not_lt_zero _), fun j hj => absurd hj (Nat.not_lt_zero _), fun i j hij hj => absurd hj (Nat.not_lt_zero _)⟩
theorem OwnP.fr {S : Nat → Prop} {w w' : World} {base : Nat} {v : Value} {fs : List PP} {xs vs : List Value} (h : OwnP w base v fs xs vs) (hf : Fr S w w') (hS : ∀ g, Blk v vs g → ¬ S g) : OwnP w' base v fs xs vs :=
 ⟨owns_fr h.row hf (fun g hg => hS g (.inl hg)), h.len, h.name, h.page, h.val, fun j hj => owns_fr (h.data j hj) hf (fun g hg => hS g (.inr ⟨j, by rw [h.len]; exact hj, hg⟩)), h.byte, h.apart⟩
theorem OwnP.pends {w : World} {base : Nat} {v : Value} {fs : List PP} {xs vs : List Value} (h : OwnP w base v fs xs vs) : ∃ a n c, v = .slice a n c ∧ n = fs.length ∧ PendsAt w base w.heap.size a n c fs := by
 rcases h.row.2 with ⟨rfl, hn⟩ | ⟨g, cap, cur, rfl, hb, hg, h1, h2, _⟩
 ·exact ⟨none, 0, 0, rfl, hn.symm, hn, Nat.le_refl _, Nat.zero_le _, fun h => absurd h (Nat.lt_irrefl _)⟩
 ·refine ⟨some ⟨g, 0, none⟩, fs.length, cap, rfl, rfl, rfl, h1, h2, fun hn => ⟨g, 0, rfl, h.row.lt g rfl, fun i hi => ?_⟩⟩
  obtain ⟨a, n, c, e, hby⟩ := bytesAt_of_own (h.data i hi) (h.byte i hi)
  refine ⟨?_, (h.name i hi).2, ?_, (h.page i hi).2, a, n, c, ?_, hby⟩
  ·rw [Nat.zero_add, h.row.cellAt (i * 3) (by omega)]; exact (h.name i hi).1
  ·rw [Nat.zero_add, h.row.cellAt (i * 3 + 1) (by omega)]; exact (h.page i hi).1
  ·rw [Nat.zero_add, h.row.cellAt (i * 3 + 2) (by omega), h.val i hi, e]



structure OwnD (w : World) (base : Nat) (v u : Value) (fs : List PF) (ps : List PP) (xs vs ys us : List Value) : Prop where
 files : OwnF w base v fs xs vs
 cache : OwnP w base u ps ys us
 apart : ∀ g, Blk v vs g → ¬ Blk u us g
theorem OwnF.blk {w : World} {base : Nat} {v : Value} {fs : List PF} {xs vs : List Value} (h : OwnF w base v fs xs vs) {g : Nat} (hg : Blk v vs g) : base ≤ g ∧ g < w.heap.size := by
 rcases hg with hg | ⟨j, hj, hg⟩
 ·exact h.row.lt g hg
 ·exact (h.data j (by rw [← h.len]; exact hj)).lt g hg
theorem OwnP.blk {w : World} {base : Nat} {v : Value} {fs : List PP} {xs vs : List Value} (h : OwnP w base v fs xs vs) {g : Nat} (hg : Blk v vs g) : base ≤ g ∧ g < w.heap.size := by
 rcases hg with hg | ⟨j, hj, hg⟩
 ·exact h.row.lt g hg
 ·exact (h.data j (by rw [← h.len]; exact hj)).lt g hg
theorem OwnD.below {w w' : World} {base : Nat} {v u : Value} {fs : List PF} {ps : List PP} {xs vs ys us : List Value} (h : OwnD w base v u fs ps xs vs ys us) (hb : Below w.heap.size w w') : OwnD w' base v u fs ps xs vs ys us :=
 ⟨h.files.below hb, h.cache.below hb, h.apart⟩
end Go.Proofs.Ytakdaandbdbdnaa
