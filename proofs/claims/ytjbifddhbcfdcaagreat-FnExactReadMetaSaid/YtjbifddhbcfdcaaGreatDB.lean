import Derived.Test.YtjbifddhbcfdcaaGreatByt
import Derived.Test.YtjbifddhbcfdcaaGreatDA
import Derived.WalkSpells
import Derived.WalkLawsBesides
import Derived.Laws.IdiomStrings
import Derived.Deep.RegionLaw
import Derived.Deep.RegionHeld3
namespace Go.Proofs.YtjbifddhbcfdcaaGreat
open Go.RowKit
set_option linter.unusedVariables false
set_option maxRecDepth 100000

/-- The decimal digits of k, ahead of out. -/
def digF : Nat → Nat → List UInt8 → List UInt8
  | 0, _, out => out
  | f + 1, k, out => if k = 0 then out else digF f (k / 10) (UInt8.ofNat (48 + k % 10) :: out)
def mkS (k : Nat) : ByteArray := if k = 0 then ⟨#[109, 48]⟩ else ⟨(109 :: digF 40 k []).toArray⟩

theorem glue (x y : List UInt8) : (⟨x.toArray⟩ : ByteArray) ++ (⟨y.toArray⟩ : ByteArray) = ⟨(x ++ y).toArray⟩ := by
  rw [ByteArray.mk_append_mk]
theorem digit_run (kk : Nat) (wr : World) : (convert 43 9 (.slice (some ⟨wr.heap.size, 0, none⟩) 1 1)).run Tryz.prog (wr.alloc (.cells #[.int .u8 (48 + (kk : Int) % 10)] 5)) = .ok (.string ⟨#[UInt8.ofNat (48 + kk % 10)]⟩) (wr.alloc (.cells #[.int .u8 (48 + (kk : Int) % 10)] 5)) := by
  refine run_convert_bytes_back (P := Tryz.prog) _ 43 9 5 ⟨wr.heap.size, 0, none⟩ 1 [UInt8.ofNat (48 + kk % 10)] Tryz.underlying43 Tryz.underlying5 Tryz.underlying9 ?_
  intro j hj
  simp at hj
  subst hj
  have e : (((UInt8.ofNat (48 + kk % 10)).toNat : Nat) : Int) = 48 + (kk : Int) % 10 := by
    rw [UInt8.toNat_ofNat']
    omega
  simp [Addr.add]
  omega

/-- The marks that follow one another from k on. -/
def marks (k : Nat) (n : Nat) : List Int := (List.range n).map fun j => ((k + j : Nat) : Int) % 256
theorem marks_get (k n j : Nat) (h : j < n) : (marks k n).getD j 0 = ((k + j : Nat) : Int) % 256 := by simp [marks, List.getD, h]

theorem grown_refl (w : World) (row : Option Nat) : w.grownBy w row := ⟨rfl, rfl, rfl, Nat.le_refl _, fun _ _ _ => rfl⟩
theorem grown_trans {a b c : World} {row : Option Nat} (h : a.grownBy b row) (k : b.grownBy c row) : a.grownBy c row :=
  ⟨k.os.trans h.os, k.tape.trans h.tape, k.output.trans h.output, Nat.le_trans h.size k.size, fun i hi hne => (k.block i (Nat.lt_of_lt_of_le hi h.size) hne).trans (h.block i hi hne)⟩
def MarkRes (w w' : World) (base : Nat) (v : Value) (n k : Nat) : Prop := w'.ownsRow base 5 1 v n (u8s (marks k n)) ∧ w.grownBy w' v.ownBlock

theorem marks_byte (k n : Nat) : ∀ x ∈ marks k n, 0 ≤ x ∧ x ≤ 255 := by
  intro x hx
  simp [marks] at hx
  obtain ⟨a, _, rfl⟩ := hx
  omega
end Go.Proofs.YtjbifddhbcfdcaaGreat
namespace Go.Proofs.YtjbifddhbcfdcaaGreat
open Go.RowKit
set_option linter.unusedVariables false
set_option maxRecDepth 100000

/-- What marking files makes of them, and the number that is next. -/
def markF : Nat → List PF → List PF
  | _, [] => []
  | k, f :: r => (mkS k, marks (k + 1) f.2.length) :: markF (k + 1 + f.2.length) r
def kF : Nat → List PF → Nat
  | k, [] => k
  | k, f :: r => kF (k + 1 + f.2.length) r
theorem kF_snoc (k : Nat) (l : List PF) (f : PF) : kF k (l ++ [f]) = kF k l + 1 + f.2.length := by
  induction l generalizing k with
  | nil => rfl
  | cons a r ih => simp only [List.cons_append, kF]; exact ih _
theorem markF_snoc (k : Nat) (l : List PF) (f : PF) : markF k (l ++ [f]) = markF k l ++ [(mkS (kF k l), marks (kF k l + 1) f.2.length)] := by
  induction l generalizing k with
  | nil => rfl
  | cons a r ih => simp only [List.cons_append, markF, kF]; rw [ih]
theorem markF_length (k : Nat) (l : List PF) : (markF k l).length = l.length := by
  induction l generalizing k with
  | nil => rfl
  | cons a r ih => simp only [markF, List.length_cons, ih]
theorem kF_le (k : Nat) (l : List PF) : k + l.length ≤ kF k l := by
  induction l generalizing k with
  | nil => simp [kF]
  | cons a r ih => have := ih (k + 1 + a.2.length); simp only [kF, List.length_cons]; omega
theorem kF_append (k : Nat) (a b : List PF) : kF k (a ++ b) = kF (kF k a) b := by
  induction a generalizing k with
  | nil => rfl
  | cons x r ih => simp only [List.cons_append, kF]; exact ih _
def stF (k : Nat) (fs : List PF) (j : Nat) : List PF := markF k (fs.take j) ++ fs.drop j
theorem stF_length (k : Nat) (fs : List PF) (j : Nat) (h : j ≤ fs.length) : (stF k fs j).length = fs.length := by
  simp [stF, markF_length]; omega
theorem stF_get (k : Nat) (fs : List PF) (j : Nat) (h : j < fs.length) (d : PF) : (stF k fs j).getD j d = fs[j] := by
  have h1 : (markF k (fs.take j)).length = j := by rw [markF_length, List.length_take]; omega
  simp [stF, List.getD, List.getElem?_append_right, h1, h]
theorem stF_succ (k : Nat) (fs : List PF) (j : Nat) (h : j < fs.length) : stF k fs (j + 1) = (stF k fs j).set j (mkS (kF k (fs.take j)), marks (kF k (fs.take j) + 1) fs[j].2.length) := by
  have h1 : (markF k (fs.take j)).length = j := by rw [markF_length, List.length_take]; omega
  unfold stF
  rw [List.set_append_right _ _ (by omega), h1, Nat.sub_self, List.drop_eq_getElem_cons h, List.set_cons_zero, List.take_succ_eq_append_getElem h, markF_snoc]
  simp
theorem kF_take (k : Nat) (fs : List PF) (j : Nat) (h : j < fs.length) : kF k (fs.take (j + 1)) = kF k (fs.take j) + 1 + fs[j].2.length := by
  rw [List.take_succ_eq_append_getElem h, kF_snoc]
theorem kF_take_le (k : Nat) (fs : List PF) (j : Nat) : kF k (fs.take j) ≤ kF k fs := by
  have h1 : kF k fs = kF (kF k (fs.take j)) (fs.drop j) := by rw [← kF_append, List.take_append_drop]
  have := kF_le (kF k (fs.take j)) (fs.drop j)
  omega
theorem mkS_size (k : Nat) : (mkS k).size ≤ maxLen := by
  have hd : ∀ f k (o : List UInt8), (digF f k o).length ≤ f + o.length := by
    intro f
    induction f with
    | zero => intro k o; simp [digF]
    | succ f ih =>
      intro k o
      unfold digF
      split
      · omega
      · have := ih (k / 10) (UInt8.ofNat (48 + k % 10) :: o); rw [List.length_cons] at this; omega
  unfold mkS
  split
  · show 2 ≤ maxLen; unfold maxLen; omega
  · have := hd 40 k []
    show ((109 :: digF 40 k []).toArray).size ≤ maxLen
    unfold maxLen
    simp at this ⊢; omega

/-- A file's name is stored. -/
theorem OwnF.rename {w : World} {base g n c i : Nat} {fs : List PF} {xs vs : List Value} {nm : ByteArray} (h : OwnF w base (.slice (some ⟨g, 0, none⟩) n c) fs xs vs) (hi : i < fs.length) (hs : nm.size ≤ maxLen) :
    OwnF (w.setCell ⟨g, i * 2, none⟩ (.string nm)) base (.slice (some ⟨g, 0, none⟩) n c) (fs.set i (nm, (fs.getD i (ByteArray.empty, [])).2)) (xs.set (i * 2) (.string nm)) vs ∧ w.grownBy (w.setCell ⟨g, i * 2, none⟩ (.string nm)) (some g) := by
  have hvl := h.len
  have hx := h.row.1
  obtain ⟨hn, hrow⟩ : fs.length = n ∧ w.ownsRow base 71 2 (.slice (some ⟨g, 0, none⟩) n c) fs.length xs := by
    refine ⟨?_, h.row⟩
    rcases h.row.2 with ⟨h', _⟩ | ⟨g', cap', cur, h', _⟩
    · simp at h'
    · simp at h'; omega
  subst hn
  obtain ⟨hst, hsg⟩ := hrow.stored (i * 2) (.string nm)
  have hne : ∀ {b2 m : Nat} {u : Value} {ys : List Value}, w.ownsRow b2 5 1 u m ys → (w.setCell ⟨g, i * 2, none⟩ (.string nm)).ownsRow b2 5 1 u m ys := fun hk => hk.kept hsg (own_ne hrow hk)
  refine ⟨⟨by simpa using hst, by simp [hvl], ?_, ?_, ?_, ?_, ?_⟩, hsg⟩
  · intro j hj
    simp at hj
    rw [getD_set _ _ _ _ _ hi]
    split
    · rename_i e; subst e; rw [List.getElem?_set_self (by omega)]; exact ⟨rfl, hs⟩
    · rw [List.getElem?_set_ne (by omega)]; exact h.name j hj
  · intro j hj
    simp at hj
    rw [List.getElem?_set_ne (by omega)]; exact h.val j hj
  · intro j hj
    simp at hj
    rw [getD_set _ _ _ _ _ hi]
    split
    · rename_i e; subst e; exact hne (h.data j hj)
    · exact hne (h.data j hj)
  · intro j hj
    simp at hj
    rw [getD_set _ _ _ _ _ hi]
    split
    · rename_i e; subst e; exact h.byte j hj
    · exact h.byte j hj
  · intro a b hab hb k hk
    simp at hb
    exact h.apart a b hab hb k hk

/-- A file's bytes are written over where they lie. -/
theorem OwnF.over {w w' : World} {base i : Nat} {v : Value} {fs : List PF} {xs vs : List Value} {l : List Int} (h : OwnF w base v fs xs vs) (hi : i < fs.length) (hr : w'.ownsRow base 5 1 (vs.getD i (.slice none 0 0)) l.length (u8s l)) (hg : w.grownBy w' (vs.getD i (.slice none 0 0)).ownBlock) (hl : ∀ x ∈ l, 0 ≤ x ∧ x ≤ 255) :
    OwnF w' base v (fs.set i ((fs.getD i (ByteArray.empty, [])).1, l)) xs vs := by
  have hvl := h.len
  have hrow := h.row.kept hg (by
      rcases own_ne h.row (h.data i hi) with h1 | h1
      · rw [h1]
        cases v.ownBlock
        · exact .inl rfl
        · exact .inr (by simp)
      · exact .inr (Ne.symm h1))
  refine ⟨by simpa using hrow, by simp [hvl], ?_, ?_, ?_, ?_, ?_⟩
  · intro j hj
    simp at hj
    rw [getD_set _ _ _ _ _ hi]
    split
    · rename_i e; subst e; exact h.name j hj
    · exact h.name j hj
  · intro j hj
    simp at hj
    exact h.val j hj
  · intro j hj
    simp at hj
    rw [getD_set _ _ _ _ _ hi]
    split
    · rename_i e; subst e; exact hr
    · rename_i e
      refine (h.data j hj).kept hg ?_
      cases hb : (vs.getD j (.slice none 0 0)).ownBlock
      · exact .inl rfl
      · exact .inr (fun e2 => h.apart2 (i := j) (j := i) (by omega) hj hi hb e2.symm)
  · intro j hj
    simp at hj
    rw [getD_set _ _ _ _ _ hi]
    split
    · exact hl
    · exact h.byte j hj
  · intro a b hab hb k hk
    simp at hb
    exact h.apart a b hab hb k hk

/-- The blocks of a list. -/
def Blk (v : Value) (vs : List Value) (g : Nat) : Prop := v.ownBlock = some g ∨ ∃ j, j < vs.length ∧ (vs.getD j (.slice none 0 0)).ownBlock = some g
theorem OwnF.fr {S : Nat → Prop} {w w' : World} {base : Nat} {v : Value} {fs : List PF} {xs vs : List Value} (h : OwnF w base v fs xs vs) (hf : Fr S w w') (hS : ∀ g, Blk v vs g → ¬ S g) : OwnF w' base v fs xs vs :=
  ⟨owns_fr h.row hf (fun g hg => hS g (.inl hg)), h.len, h.name, h.val, fun j hj => owns_fr (h.data j hj) hf (fun g hg => hS g (.inr ⟨j, by rw [h.len]; exact hj, hg⟩)), h.byte, h.apart⟩
theorem marks_length (k n : Nat) : (marks k n).length = n := by simp [marks]
end Go.Proofs.YtjbifddhbcfdcaaGreat
namespace Go.Proofs.YtjbifddhbcfdcaaGreat
open Go.RowKit
set_option linter.unusedVariables false
set_option maxRecDepth 100000

theorem mark_name {w w1 : World} {base g n c j ln : Nat} {va : Option Addr} {vc : Nat} {fs : List PF} {ys vs : List Value} {nm : ByteArray} (h : OwnF w base (.slice (some ⟨g, 0, none⟩) n c) fs ys vs) (hb : Below w.heap.size w w1) (hj : j < fs.length) (hv : vs.getD j (.slice none 0 0) = .slice va ln vc) (hs : nm.size ≤ maxLen) :
    Hid (OwnF w1 base (.slice (some ⟨g, 0, none⟩) n c) fs ys vs) ∧ Hid (OwnF (w1.setCell ⟨g, j * 2, none⟩ (.string nm)) base (.slice (some ⟨g, 0, none⟩) n c) (fs.set j (nm, (fs.getD j (ByteArray.empty, [])).2)) (ys.set (j * 2) (.string nm)) vs ∧ w1.grownBy (w1.setCell ⟨g, j * 2, none⟩ (.string nm)) (some g)) ∧
    (∃ u, w1.cell? ⟨g, j * 2, none⟩ = some u) ∧ w1.cell? ⟨g, j * 2 + 1, none⟩ = some (.slice va ln vc) ∧ w1.frozen? ⟨g, j * 2, none⟩ = false := by
  have h1 := h.below hb
  have hn : n = fs.length := by
    rcases h1.row.2 with ⟨h', _⟩ | ⟨g', cap', cur, h', _⟩
    · simp at h'
    · simp at h'; omega
  subst hn
  refine ⟨h1, h1.rename hj hs, ⟨.string (fs.getD j (ByteArray.empty, [])).1, ?_⟩, ?_, h1.row.frozenAt _⟩
  · rw [h1.row.cellAt _ (by omega)]; exact (h1.name j hj).1
  · rw [h1.row.cellAt _ (by omega), h1.val j hj, hv]
end Go.Proofs.YtjbifddhbcfdcaaGreat
namespace Go.Proofs.YtjbifddhbcfdcaaGreat
open Go.RowKit
set_option linter.unusedVariables false
set_option maxRecDepth 100000

/-- What marking writes makes of them, and the number that is next. -/
def markP : Nat → List PP → List PP
  | _, [] => []
  | k, f :: r => (mkS k, ((k + 1 : Nat) : Int), marks (k + 2) f.2.2.length) :: markP (k + 2 + f.2.2.length) r
def kP : Nat → List PP → Nat
  | k, [] => k
  | k, f :: r => kP (k + 2 + f.2.2.length) r
theorem kP_snoc (k : Nat) (l : List PP) (f : PP) : kP k (l ++ [f]) = kP k l + 2 + f.2.2.length := by
  induction l generalizing k with
  | nil => rfl
  | cons a r ih => simp only [List.cons_append, kP]; exact ih _
theorem markP_snoc (k : Nat) (l : List PP) (f : PP) : markP k (l ++ [f]) = markP k l ++ [(mkS (kP k l), ((kP k l + 1 : Nat) : Int), marks (kP k l + 2) f.2.2.length)] := by
  induction l generalizing k with
  | nil => rfl
  | cons a r ih => simp only [List.cons_append, markP, kP]; rw [ih]
theorem markP_length (k : Nat) (l : List PP) : (markP k l).length = l.length := by
  induction l generalizing k with
  | nil => rfl
  | cons a r ih => simp only [markP, List.length_cons, ih]
theorem kP_le (k : Nat) (l : List PP) : k + l.length ≤ kP k l := by
  induction l generalizing k with
  | nil => simp [kP]
  | cons a r ih => have := ih (k + 2 + a.2.2.length); simp only [kP, List.length_cons]; omega
theorem kP_append (k : Nat) (a b : List PP) : kP k (a ++ b) = kP (kP k a) b := by
  induction a generalizing k with
  | nil => rfl
  | cons x r ih => simp only [List.cons_append, kP]; exact ih _
def stP (k : Nat) (fs : List PP) (j : Nat) : List PP := markP k (fs.take j) ++ fs.drop j
theorem stP_length (k : Nat) (fs : List PP) (j : Nat) (h : j ≤ fs.length) : (stP k fs j).length = fs.length := by
  simp [stP, markP_length]; omega
theorem stP_get (k : Nat) (fs : List PP) (j : Nat) (h : j < fs.length) (d : PP) : (stP k fs j).getD j d = fs[j] := by
  have h1 : (markP k (fs.take j)).length = j := by rw [markP_length, List.length_take]; omega
  simp [stP, List.getD, List.getElem?_append_right, h1, h]
theorem stP_succ (k : Nat) (fs : List PP) (j : Nat) (h : j < fs.length) : stP k fs (j + 1) = (stP k fs j).set j (mkS (kP k (fs.take j)), ((kP k (fs.take j) + 1 : Nat) : Int), marks (kP k (fs.take j) + 2) fs[j].2.2.length) := by
  have h1 : (markP k (fs.take j)).length = j := by rw [markP_length, List.length_take]; omega
  unfold stP
  rw [List.set_append_right _ _ (by omega), h1, Nat.sub_self, List.drop_eq_getElem_cons h, List.set_cons_zero, List.take_succ_eq_append_getElem h, markP_snoc]
  simp
theorem kP_take (k : Nat) (fs : List PP) (j : Nat) (h : j < fs.length) : kP k (fs.take (j + 1)) = kP k (fs.take j) + 2 + fs[j].2.2.length := by
  rw [List.take_succ_eq_append_getElem h, kP_snoc]
theorem kP_take_le (k : Nat) (fs : List PP) (j : Nat) : kP k (fs.take j) ≤ kP k fs := by
  have h1 : kP k fs = kP (kP k (fs.take j)) (fs.drop j) := by rw [← kP_append, List.take_append_drop]
  have := kP_le (kP k (fs.take j)) (fs.drop j)
  omega

/-- Rows of other types lie in other blocks. -/
theorem own_ne2 {w : World} {b1 b2 e1 e2 s1 s2 : Nat} {v u : Value} {n m : Nat} {xs ys : List Value} (hne : e1 ≠ e2) (h : w.ownsRow b1 e1 s1 v n xs) (k : w.ownsRow b2 e2 s2 u m ys) : u.ownBlock = none ∨ u.ownBlock ≠ v.ownBlock := by
  rcases k.2 with ⟨rfl, _⟩ | ⟨g, cap, cur, rfl, _, hg, _⟩
  · exact .inl rfl
  · refine .inr fun e => ?_
    rcases h.2 with ⟨rfl, _⟩ | ⟨g', cap', cur', rfl, _, hg', _⟩
    · simp [Value.ownBlock] at e
    · simp [Value.ownBlock] at e
      subst e
      rw [hg] at hg'
      simp at hg'
      exact hne hg'.2.symm

/-- A list of writes in memory of one's own: the row of the writes, and for each a row of its bytes; no two share a block. -/
structure OwnP (w : World) (base : Nat) (v : Value) (ps : List PP) (xs vs : List Value) : Prop where
  row : w.ownsRow base 73 3 v ps.length xs
  len : vs.length = ps.length
  name : ∀ j, j < ps.length → xs[j * 3]? = some (.string (ps.getD j (ByteArray.empty, 0, [])).1) ∧ (ps.getD j (ByteArray.empty, 0, [])).1.size ≤ maxLen
  page : ∀ j, j < ps.length → xs[j * 3 + 1]? = some (.int .i64 (ps.getD j (ByteArray.empty, 0, [])).2.1) ∧ (-9223372036854775808 ≤ (ps.getD j (ByteArray.empty, 0, [])).2.1 ∧ (ps.getD j (ByteArray.empty, 0, [])).2.1 ≤ 9223372036854775807)
  val : ∀ j, j < ps.length → xs[j * 3 + 2]? = some (vs.getD j (.slice none 0 0))
  data : ∀ j, j < ps.length → w.ownsRow base 5 1 (vs.getD j (.slice none 0 0)) (ps.getD j (ByteArray.empty, 0, [])).2.2.length (u8s (ps.getD j (ByteArray.empty, 0, [])).2.2)
  byte : ∀ j, j < ps.length → ∀ x ∈ (ps.getD j (ByteArray.empty, 0, [])).2.2, 0 ≤ x ∧ x ≤ 255
  apart : ∀ i j, i < j → j < ps.length → ∀ g, (vs.getD i (.slice none 0 0)).ownBlock = some g → (vs.getD j (.slice none 0 0)).ownBlock ≠ some g

theorem OwnP.below {w w' : World} {base : Nat} {v : Value} {fs : List PP} {xs vs : List Value} (h : OwnP w base v fs xs vs) (hb : Below w.heap.size w w') : OwnP w' base v fs xs vs :=
  ⟨owns_below h.row hb, h.len, h.name, h.page, h.val, fun j hj => owns_below (h.data j hj) hb, h.byte, h.apart⟩
theorem OwnP.nil {w : World} {base : Nat} {v : Value} (h : w.ownsRow base 73 3 v 0 []) : OwnP w base v [] [] [] :=
  ⟨h, rfl, fun j hj => absurd hj (Nat.not_lt_zero _), fun j hj => absurd hj (Nat.not_lt_zero _), fun j hj => absurd hj (Nat.not_lt_zero _), fun j hj => absurd hj (Nat.not_lt_zero _), fun j hj => absurd hj (Nat.not_lt_zero _), fun i j hij hj => absurd hj (Nat.not_lt_zero _)⟩
theorem OwnP.fr {S : Nat → Prop} {w w' : World} {base : Nat} {v : Value} {fs : List PP} {xs vs : List Value} (h : OwnP w base v fs xs vs) (hf : Fr S w w') (hS : ∀ g, Blk v vs g → ¬ S g) : OwnP w' base v fs xs vs :=
  ⟨owns_fr h.row hf (fun g hg => hS g (.inl hg)), h.len, h.name, h.page, h.val, fun j hj => owns_fr (h.data j hj) hf (fun g hg => hS g (.inr ⟨j, by rw [h.len]; exact hj, hg⟩)), h.byte, h.apart⟩
theorem OwnP.apart2 {w : World} {base : Nat} {v : Value} {fs : List PP} {xs vs : List Value} (h : OwnP w base v fs xs vs) {i j g : Nat} (hij : i ≠ j) (hi : i < fs.length) (hj : j < fs.length) (hg : (vs.getD i (.slice none 0 0)).ownBlock = some g) : (vs.getD j (.slice none 0 0)).ownBlock ≠ some g := by
  by_cases hlt : i < j
  · exact h.apart i j hlt hj g hg
  · intro e
    exact h.apart j i (by omega) hi g e hg
theorem OwnP.pends {w : World} {base : Nat} {v : Value} {fs : List PP} {xs vs : List Value} (h : OwnP w base v fs xs vs) : ∃ a n c, v = .slice a n c ∧ n = fs.length ∧ PendsAt w base w.heap.size a n c fs := by
  rcases h.row.2 with ⟨rfl, hn⟩ | ⟨g, cap, cur, rfl, hb, hg, h1, h2, _⟩
  · exact ⟨none, 0, 0, rfl, hn.symm, hn, Nat.le_refl _, Nat.zero_le _, fun h => absurd h (Nat.lt_irrefl _)⟩
  · refine ⟨some ⟨g, 0, none⟩, fs.length, cap, rfl, rfl, rfl, h1, h2, fun hn => ⟨g, 0, rfl, h.row.lt g rfl, fun i hi => ?_⟩⟩
    obtain ⟨a, n, c, e, hby⟩ := bytesAt_of_own (h.data i hi) (h.byte i hi)
    refine ⟨?_, (h.name i hi).2, ?_, (h.page i hi).2, a, n, c, ?_, hby⟩
    · rw [Nat.zero_add, h.row.cellAt (i * 3) (by omega)]; exact (h.name i hi).1
    · rw [Nat.zero_add, h.row.cellAt (i * 3 + 1) (by omega)]; exact (h.page i hi).1
    · rw [Nat.zero_add, h.row.cellAt (i * 3 + 2) (by omega), h.val i hi, e]

/-- A write's name, its page, are stored. -/
theorem OwnP.rename {w : World} {base g n c i : Nat} {fs : List PP} {xs vs : List Value} {nm : ByteArray} (h : OwnP w base (.slice (some ⟨g, 0, none⟩) n c) fs xs vs) (hi : i < fs.length) (hs : nm.size ≤ maxLen) :
    OwnP (w.setCell ⟨g, i * 3, none⟩ (.string nm)) base (.slice (some ⟨g, 0, none⟩) n c) (fs.set i (nm, (fs.getD i (ByteArray.empty, 0, [])).2)) (xs.set (i * 3) (.string nm)) vs ∧ w.grownBy (w.setCell ⟨g, i * 3, none⟩ (.string nm)) (some g) := by
  have hvl := h.len
  have hx := h.row.1
  obtain ⟨hn, hrow⟩ : fs.length = n ∧ w.ownsRow base 73 3 (.slice (some ⟨g, 0, none⟩) n c) fs.length xs := by
    refine ⟨?_, h.row⟩
    rcases h.row.2 with ⟨h', _⟩ | ⟨g', cap', cur, h', _⟩
    · simp at h'
    · simp at h'; omega
  subst hn
  obtain ⟨hst, hsg⟩ := hrow.stored (i * 3) (.string nm)
  have hne : ∀ {b2 m : Nat} {u : Value} {ys : List Value}, w.ownsRow b2 5 1 u m ys → (w.setCell ⟨g, i * 3, none⟩ (.string nm)).ownsRow b2 5 1 u m ys := fun hk => hk.kept hsg (own_ne2 (by decide) hrow hk)
  refine ⟨⟨by simpa using hst, by simp [hvl], ?_, ?_, ?_, ?_, ?_, ?_⟩, hsg⟩
  · intro j hj
    simp at hj
    rw [getD_set _ _ _ _ _ hi]
    split
    · rename_i e; subst e; rw [List.getElem?_set_self (by omega)]; exact ⟨rfl, hs⟩
    · rw [List.getElem?_set_ne (by omega)]; exact h.name j hj
  · intro j hj
    simp at hj
    rw [getD_set _ _ _ _ _ hi, List.getElem?_set_ne (by omega)]
    split
    · rename_i e; subst e; exact h.page j hj
    · exact h.page j hj
  · intro j hj
    simp at hj
    rw [List.getElem?_set_ne (by omega)]; exact h.val j hj
  · intro j hj
    simp at hj
    rw [getD_set _ _ _ _ _ hi]
    split
    · rename_i e; subst e; exact hne (h.data j hj)
    · exact hne (h.data j hj)
  · intro j hj
    simp at hj
    rw [getD_set _ _ _ _ _ hi]
    split
    · rename_i e; subst e; exact h.byte j hj
    · exact h.byte j hj
  · intro a b hab hb k hk
    simp at hb
    exact h.apart a b hab hb k hk
theorem OwnP.repage {w : World} {base g n c i : Nat} {fs : List PP} {xs vs : List Value} {pg : Int} (h : OwnP w base (.slice (some ⟨g, 0, none⟩) n c) fs xs vs) (hi : i < fs.length) (hs : -9223372036854775808 ≤ pg ∧ pg ≤ 9223372036854775807) :
    OwnP (w.setCell ⟨g, i * 3 + 1, none⟩ (.int .i64 pg)) base (.slice (some ⟨g, 0, none⟩) n c) (fs.set i ((fs.getD i (ByteArray.empty, 0, [])).1, pg, (fs.getD i (ByteArray.empty, 0, [])).2.2)) (xs.set (i * 3 + 1) (.int .i64 pg)) vs ∧ w.grownBy (w.setCell ⟨g, i * 3 + 1, none⟩ (.int .i64 pg)) (some g) := by
  have hvl := h.len
  have hx := h.row.1
  obtain ⟨hn, hrow⟩ : fs.length = n ∧ w.ownsRow base 73 3 (.slice (some ⟨g, 0, none⟩) n c) fs.length xs := by
    refine ⟨?_, h.row⟩
    rcases h.row.2 with ⟨h', _⟩ | ⟨g', cap', cur, h', _⟩
    · simp at h'
    · simp at h'; omega
  subst hn
  obtain ⟨hst, hsg⟩ := hrow.stored (i * 3 + 1) (.int .i64 pg)
  have hne : ∀ {b2 m : Nat} {u : Value} {ys : List Value}, w.ownsRow b2 5 1 u m ys → (w.setCell ⟨g, i * 3 + 1, none⟩ (.int .i64 pg)).ownsRow b2 5 1 u m ys := fun hk => hk.kept hsg (own_ne2 (by decide) hrow hk)
  refine ⟨⟨by simpa using hst, by simp [hvl], ?_, ?_, ?_, ?_, ?_, ?_⟩, hsg⟩
  · intro j hj
    simp at hj
    rw [getD_set _ _ _ _ _ hi, List.getElem?_set_ne (by omega)]
    split
    · rename_i e; subst e; exact h.name j hj
    · exact h.name j hj
  · intro j hj
    simp at hj
    rw [getD_set _ _ _ _ _ hi]
    split
    · rename_i e; subst e; rw [List.getElem?_set_self (by omega)]; exact ⟨rfl, hs⟩
    · rw [List.getElem?_set_ne (by omega)]; exact h.page j hj
  · intro j hj
    simp at hj
    rw [List.getElem?_set_ne (by omega)]; exact h.val j hj
  · intro j hj
    simp at hj
    rw [getD_set _ _ _ _ _ hi]
    split
    · rename_i e; subst e; exact hne (h.data j hj)
    · exact hne (h.data j hj)
  · intro j hj
    simp at hj
    rw [getD_set _ _ _ _ _ hi]
    split
    · rename_i e; subst e; exact h.byte j hj
    · exact h.byte j hj
  · intro a b hab hb k hk
    simp at hb
    exact h.apart a b hab hb k hk

/-- A write's bytes are written over where they lie. -/
theorem OwnP.over {w w' : World} {base i : Nat} {v : Value} {fs : List PP} {xs vs : List Value} {l : List Int} (h : OwnP w base v fs xs vs) (hi : i < fs.length) (hr : w'.ownsRow base 5 1 (vs.getD i (.slice none 0 0)) l.length (u8s l)) (hg : w.grownBy w' (vs.getD i (.slice none 0 0)).ownBlock) (hl : ∀ x ∈ l, 0 ≤ x ∧ x ≤ 255) :
    OwnP w' base v (fs.set i ((fs.getD i (ByteArray.empty, 0, [])).1, (fs.getD i (ByteArray.empty, 0, [])).2.1, l)) xs vs := by
  have hvl := h.len
  have hrow := h.row.kept hg (by
      rcases own_ne2 (by decide) h.row (h.data i hi) with h1 | h1
      · rw [h1]
        cases v.ownBlock
        · exact .inl rfl
        · exact .inr (by simp)
      · exact .inr (Ne.symm h1))
  refine ⟨by simpa using hrow, by simp [hvl], ?_, ?_, ?_, ?_, ?_, ?_⟩
  · intro j hj
    simp at hj
    rw [getD_set _ _ _ _ _ hi]
    split
    · rename_i e; subst e; exact h.name j hj
    · exact h.name j hj
  · intro j hj
    simp at hj
    rw [getD_set _ _ _ _ _ hi]
    split
    · rename_i e; subst e; exact h.page j hj
    · exact h.page j hj
  · intro j hj
    simp at hj
    exact h.val j hj
  · intro j hj
    simp at hj
    rw [getD_set _ _ _ _ _ hi]
    split
    · rename_i e; subst e; exact hr
    · rename_i e
      refine (h.data j hj).kept hg ?_
      cases hb : (vs.getD j (.slice none 0 0)).ownBlock
      · exact .inl rfl
      · exact .inr (fun e2 => h.apart2 (i := j) (j := i) (by omega) hj hi hb e2.symm)
  · intro j hj
    simp at hj
    rw [getD_set _ _ _ _ _ hi]
    split
    · exact hl
    · exact h.byte j hj
  · intro a b hab hb k hk
    simp at hb
    exact h.apart a b hab hb k hk
end Go.Proofs.YtjbifddhbcfdcaaGreat
namespace Go.Proofs.YtjbifddhbcfdcaaGreat
open Go.RowKit
set_option linter.unusedVariables false
set_option maxRecDepth 100000

theorem markp_name {w w1 : World} {base g n c j ln : Nat} {va : Option Addr} {vc : Nat} {fs : List PP} {ys vs : List Value} {nm : ByteArray} {pg : Int} (h : OwnP w base (.slice (some ⟨g, 0, none⟩) n c) fs ys vs) (hb : Below w.heap.size w w1) (hj : j < fs.length) (hv : vs.getD j (.slice none 0 0) = .slice va ln vc) (hs : nm.size ≤ maxLen) (hpg : -9223372036854775808 ≤ pg ∧ pg ≤ 9223372036854775807) :
    Hid (OwnP ((w1.setCell ⟨g, j * 3, none⟩ (.string nm)).setCell ⟨g, j * 3 + 1, none⟩ (.int .i64 pg)) base (.slice (some ⟨g, 0, none⟩) n c) (fs.set j (nm, pg, (fs.getD j (ByteArray.empty, 0, [])).2.2)) ((ys.set (j * 3) (.string nm)).set (j * 3 + 1) (.int .i64 pg)) vs ∧ w1.grownBy ((w1.setCell ⟨g, j * 3, none⟩ (.string nm)).setCell ⟨g, j * 3 + 1, none⟩ (.int .i64 pg)) (some g)) ∧
    (∃ u, w1.cell? ⟨g, j * 3, none⟩ = some u) ∧ (∃ u, w1.cell? ⟨g, j * 3 + 1, none⟩ = some u) ∧ w1.cell? ⟨g, j * 3 + 2, none⟩ = some (.slice va ln vc) ∧ w1.frozen? ⟨g, j * 3, none⟩ = false ∧ (w1.setCell ⟨g, j * 3, none⟩ (.string nm)).frozen? ⟨g, j * 3 + 1, none⟩ = false ∧ w1.frozen? ⟨g, j * 3 + 1, none⟩ = false := by
  have h1 := h.below hb
  have hn : n = fs.length := by
    rcases h1.row.2 with ⟨h', _⟩ | ⟨g', cap', cur, h', _⟩
    · simp at h'
    · simp at h'; omega
  subst hn
  obtain ⟨r1, r2⟩ := h1.rename hj hs
  obtain ⟨q1, q2⟩ := r1.repage (i := j) (pg := pg) (by simpa using hj) hpg
  have hf := r1.row
  rw [List.length_set] at hf
  refine ⟨⟨?_, grown_trans r2 q2⟩, ⟨.string (fs.getD j (ByteArray.empty, 0, [])).1, ?_⟩, ⟨.int .i64 (fs.getD j (ByteArray.empty, 0, [])).2.1, ?_⟩, ?_, h1.row.frozenAt _, hf.frozenAt _, h1.row.frozenAt _⟩
  · rw [getD_set _ _ _ _ _ hj, if_pos rfl, List.set_set] at q1
    exact q1
  · rw [h1.row.cellAt _ (by omega)]; exact (h1.name j hj).1
  · rw [h1.row.cellAt _ (by omega)]; exact (h1.page j hj).1
  · rw [h1.row.cellAt _ (by omega), h1.val j hj, hv]
end Go.Proofs.YtjbifddhbcfdcaaGreat
namespace Go.Proofs.YtjbifddhbcfdcaaGreat
open Go.RowKit
set_option linter.unusedVariables false
set_option maxRecDepth 100000

theorem markF_get (k : Nat) (fs : List PF) (j : Nat) (h : j < fs.length) (d : PF) : (markF k fs).getD j d = (mkS (kF k (fs.take j)), marks (kF k (fs.take j) + 1) fs[j].2.length) := by
  induction fs generalizing k j with
  | nil => simp at h
  | cons a r ih =>
    cases j with
    | zero => simp [markF, kF]
    | succ j =>
      have h' : j < r.length := by simpa using h
      simpa [markF, kF] using ih (k + 1 + a.2.length) j h'

end Go.Proofs.YtjbifddhbcfdcaaGreat
namespace Go.Proofs.YtjbifddhbcfdcaaGreat
open Go.RowKit
set_option linter.unusedVariables false
set_option maxRecDepth 100000

theorem markP_get (k : Nat) (fs : List PP) (j : Nat) (h : j < fs.length) (d : PP) : (markP k fs).getD j d = (mkS (kP k (fs.take j)), ((kP k (fs.take j) + 1 : Nat) : Int), marks (kP k (fs.take j) + 2) fs[j].2.2.length) := by
  induction fs generalizing k j with
  | nil => simp at h
  | cons a r ih =>
    cases j with
    | zero => simp [markP, kP]
    | succ j =>
      have h' : j < r.length := by simpa using h
      simpa [markP, kP] using ih (k + 2 + a.2.2.length) j h'

end Go.Proofs.YtjbifddhbcfdcaaGreat
namespace Go.Proofs.YtjbifddhbcfdcaaGreat
open Go.RowKit
set_option linter.unusedVariables false
set_option maxRecDepth 100000

/-- A disk's two lists in memory of one's own; no block is in both. -/
structure OwnD (w : World) (base : Nat) (v u : Value) (fs : List PF) (ps : List PP) (xs vs ys us : List Value) : Prop where
  files : OwnF w base v fs xs vs
  cache : OwnP w base u ps ys us
  apart : ∀ g, Blk v vs g → ¬ Blk u us g
theorem OwnF.blk {w : World} {base : Nat} {v : Value} {fs : List PF} {xs vs : List Value} (h : OwnF w base v fs xs vs) {g : Nat} (hg : Blk v vs g) : base ≤ g ∧ g < w.heap.size := by
  rcases hg with hg | ⟨j, hj, hg⟩
  · exact h.row.lt g hg
  · exact (h.data j (by rw [← h.len]; exact hj)).lt g hg
theorem OwnP.blk {w : World} {base : Nat} {v : Value} {fs : List PP} {xs vs : List Value} (h : OwnP w base v fs xs vs) {g : Nat} (hg : Blk v vs g) : base ≤ g ∧ g < w.heap.size := by
  rcases hg with hg | ⟨j, hj, hg⟩
  · exact h.row.lt g hg
  · exact (h.data j (by rw [← h.len]; exact hj)).lt g hg
theorem OwnD.below {w w' : World} {base : Nat} {v u : Value} {fs : List PF} {ps : List PP} {xs vs ys us : List Value} (h : OwnD w base v u fs ps xs vs ys us) (hb : Below w.heap.size w w') : OwnD w' base v u fs ps xs vs ys us :=
  ⟨h.files.below hb, h.cache.below hb, h.apart⟩
/-- A world apart from another's lists: one may be written, the other stays. -/
theorem OwnD.fr {S : Nat → Prop} {w w' : World} {base : Nat} {v u : Value} {fs : List PF} {ps : List PP} {xs vs ys us : List Value} (h : OwnD w base v u fs ps xs vs ys us) (hf : Fr S w w') (hS : ∀ g, Blk v vs g ∨ Blk u us g → ¬ S g) : OwnD w' base v u fs ps xs vs ys us :=
  ⟨h.files.fr hf (fun g hg => hS g (.inl hg)), h.cache.fr hf (fun g hg => hS g (.inr hg)), h.apart⟩

end Go.Proofs.YtjbifddhbcfdcaaGreat
