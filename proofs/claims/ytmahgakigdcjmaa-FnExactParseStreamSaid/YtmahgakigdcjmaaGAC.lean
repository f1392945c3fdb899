import Derived.Test.YtmahgakigdcjmaaGAB
import Derived.ArgAppend
import Derived.Deep.RegionLaw
import Derived.Deep.RegionHeld3
namespace Go.Proofs.Ytmahgakigdcjmaa
open Go.RowKit
set_option linter.unusedVariables false
set_option maxRecDepth 100000

theorem grown_weak {w w' : World} {row : Option Nat} (h : w.grownBy w' none) : w.grownBy w' row :=
  ⟨h.os, h.tape, h.output, h.size, fun k hk _ => h.block k hk (by simp)⟩

/-- 'append' to a slice of one's own, and where the answer lies: where it lay, or in a new block. -/
theorem run_append_own2 {P : Program} (w : World) (base : Nat) (t ty e : TypeId) (i : TypeInfo) (z : Value) (size bytes : Nat) (ht : P.underlying t = some (.slice e)) (hi : P.info? e = some i) (hz : i.zero = some z)
    (hsize : i.size = size) (hby : i.bytes = bytes) (hzs : z.cells.size = size) (hsz : 0 < size)
    (v : Value) (n : Nat) (xs : List Value) (hown : w.ownsRow base e size v n xs)
    (a : Addr) (m c : Nat) (news : List Value) (hl : news.length = m * size) (hnews : ∀ j u, news[j]? = some u → w.cell? (a.add j) = some u) (h1 : ∀ u ∈ news, u.oneCell' = true)
    (h63 : n + m ≤ maxLen) (hbytes : (n + m) * bytes ≤ 140737488355328) (hbase : base ≤ w.heap.size) :
    ∃ v' w', (Builtin.append_ #[t, t] ty #[v, .slice (some a) m c]).run P w = .ok v' w' ∧ w'.ownsRow base e size v' (n + m) (xs ++ news) ∧ w.grownBy w' v.ownBlock ∧
      (v'.ownBlock = v.ownBlock ∨ ∀ g, v'.ownBlock = some g → w.heap.size ≤ g) := by
  rcases hown.2 with ⟨rfl, rfl⟩ | ⟨g, cap, cur, rfl, hbg, hg, hnc, hcm, hcs, htake⟩
  · have hx : xs = [] := List.eq_nil_of_length_eq_zero (by simpa using hown.1)
    subst hx
    obtain ⟨v', w', hr, ho, hgr, _⟩ := run_append_own (P := P) w w.heap.size t ty e i z size bytes ht hi hz hsize hby hzs hsz _ 0 [] (World.ownsRow_nil w _ e size) a m c news hl hnews h1 h63 hbytes (Nat.le_refl _)
    exact ⟨v', w', hr, own_lower ho hbase, hgr, .inr fun k hk => (ho.lt k hk).1⟩
  · by_cases hroom : n + m ≤ cap
    · obtain ⟨v', w', hr, ho, hgr, _⟩ := run_append_own (P := P) w base t ty e i z size bytes ht hi hz hsize hby hzs hsz _ n xs hown a m c news hl hnews h1 h63 hbytes hbase
      subst hsize
      have hfit : n * i.size + news.length ≤ cur.size := by rw [hl, hcs, ← Nat.add_mul]; exact Nat.mul_le_mul_right _ hroom
      have hr2 := run_append_room (P := P) w t ty e i ht hi g n cap cur hg a m c news hl hnews h1 hroom hfit
      rw [hr] at hr2
      injection hr2 with e1 e2
      exact ⟨v', w', hr, ho, hgr, .inl (by rw [e1]; rfl)⟩
    · have holds : ∀ j u, xs[j]? = some u → w.cell? ((⟨g, 0, none⟩ : Addr).add j) = some u := hown.cells (g := g) rfl
      obtain ⟨v', w', hr, ho, hgr⟩ := run_append_arg_grows (P := P) w t ty e i z size bytes ht hi hz hsize hby hzs hsz ⟨g, 0, none⟩ n cap xs hown.1 holds a m c news hl hnews (by omega) h63 hbytes
      exact ⟨v', w', hr, own_lower ho hbase, grown_weak hgr, .inr fun k hk => (ho.lt k hk).1⟩

theorem wpList_append_own2 {P : Program} (w : World) {ops : Array Oper} {rest : List Oper} {o : Oper} {a : Act} {Q : Exit → Act → World → Prop} (hgd : o.guard = none) (s x : Operand) (t : TypeId)
    (ho : o.op = .call { callee := .builtin .append, args := #[s, x], argTypes := #[t, t] })
    (base : Nat) (e : TypeId) (i : TypeInfo) (z : Value) (size bytes : Nat) (ht : P.underlying t = some (.slice e)) (hi : P.info? e = some i) (hz : i.zero = some z)
    (hsize : i.size = size) (hby : i.bytes = bytes) (hzs : z.cells.size = size) (hsz : 0 < size)
    (v : Value) (n : Nat) (xs : List Value) (hs : a.eval s = v) (hown : w.ownsRow base e size v n xs)
    (ad : Addr) (m c : Nat) (news : List Value) (hx : a.eval x = .slice (some ad) m c) (hl : news.length = m * size) (hnews : ∀ j u, news[j]? = some u → w.cell? (ad.add j) = some u) (h1 : ∀ u ∈ news, u.oneCell' = true)
    (h63 : n + m ≤ maxLen) (hbytes : (n + m) * bytes ≤ 140737488355328) (hbase : base ≤ w.heap.size)
    (h : ∀ v' w', w'.ownsRow base e size v' (n + m) (xs ++ news) → w.grownBy w' v.ownBlock → (v'.ownBlock = v.ownBlock ∨ ∀ g, v'.ownBlock = some g → w.heap.size ≤ g) → wpList P ops Q rest (a.put o.dst v') w') : wpList P ops Q (o :: rest) a w := by
  refine wpList_plain hgd fun _ hK => ?_
  obtain ⟨v', w', hr, h2, h3, h4⟩ := run_append_own2 (P := P) w base t o.type e i z size bytes ht hi hz hsize hby hzs hsz v n xs hown ad m c news hl hnews h1 h63 hbytes hbase
  unfold Oper.wp execOp
  simp only [ho, resolve, invoke, builtin, Sem.run_bind, Sem.run_pure, Result.andThen_ok, List.map_toArray, List.map_cons, List.map_nil, hs, hx, hr]
  exact hK _ _ (h v' w' h2 h3 h4)

/-- The bytes of a file while they grow and are written: everything else of the list stays. -/
structure Edit (w1 wr : World) (base : Nat) (v0 v : Value) (l : List Int) : Prop where
  row : wr.ownsRow base 5 1 v l.length (u8s l)
  grown : w1.grownBy wr v0.ownBlock
  at_ : v.ownBlock = v0.ownBlock ∨ ∀ g, v.ownBlock = some g → w1.heap.size ≤ g

theorem Edit.start {w1 : World} {base : Nat} {v0 : Value} {l : List Int} (h : w1.ownsRow base 5 1 v0 l.length (u8s l)) : Edit w1 w1 base v0 v0 l :=
  ⟨h, ⟨rfl, rfl, rfl, Nat.le_refl _, fun _ _ _ => rfl⟩, .inl rfl⟩
theorem Edit.app {w1 wr w2 w3 : World} {base : Nat} {v0 v v' : Value} {l : List Int} {o : Obj} {l' : List Int} (h : Edit w1 wr base v0 v l) (hgr : w2.grownBy w3 v.ownBlock) (e1 : w2.os = wr.os) (e2 : w2.tape = wr.tape) (e3 : w2.output = wr.output) (e4 : w2.heap = wr.heap.push o)
    (hrow : w3.ownsRow base 5 1 v' l'.length (u8s l')) (hat : v'.ownBlock = v.ownBlock ∨ ∀ g, v'.ownBlock = some g → w2.heap.size ≤ g) : Edit w1 w3 base v0 v' l' := by
  have hB := below_alloc' e1 e2 e3 e4
  refine ⟨hrow, ⟨hgr.os.trans (e1.trans h.grown.os), hgr.tape.trans (e2.trans h.grown.tape), hgr.output.trans (e3.trans h.grown.output), Nat.le_trans h.grown.size (Nat.le_trans hB.size hgr.size), fun k hk hne => ?_⟩, ?_⟩
  · have hkr : k < wr.heap.size := Nat.lt_of_lt_of_le hk h.grown.size
    rw [hgr.block k (Nat.lt_of_lt_of_le hkr hB.size) (fun e => ?_), hB.block k hkr, h.grown.block k hk hne]
    rcases h.at_ with h1 | h1
    · exact hne (e.trans h1)
    · have := h1 k e.symm; omega
  · rcases hat with h1 | h1
    · rcases h.at_ with h2 | h2
      · exact .inl (h1.trans h2)
      · exact .inr fun g hg => h2 g (h1 ▸ hg)
    · exact .inr fun g hg => Nat.le_trans h.grown.size (Nat.le_trans hB.size (h1 g hg))
theorem u8s_set (l : List Int) (j : Nat) (x : Int) : (u8s l).set j (.int .u8 x) = u8s (l.set j x) := by simp [u8s, List.map_set]
theorem Edit.put {w1 wr : World} {base g n c : Nat} {v0 : Value} {l : List Int} (h : Edit w1 wr base v0 (.slice (some ⟨g, 0, none⟩) n c) l) (hl : l.length = n) (j : Nat) (x : Int) :
    Edit w1 (wr.setCell ⟨g, j, none⟩ (.int .u8 x)) base v0 (.slice (some ⟨g, 0, none⟩) n c) (l.set j x) := by
  have hr := h.row
  rw [hl] at hr
  obtain ⟨h1, h2⟩ := hr.stored j (.int .u8 x)
  refine ⟨by rw [← u8s_set]; simpa [hl] using h1, ⟨h2.os.trans h.grown.os, h2.tape.trans h.grown.tape, h2.output.trans h.grown.output, Nat.le_trans h.grown.size h2.size, fun k hk hne => ?_⟩, h.at_⟩
  rw [h2.block k (Nat.lt_of_lt_of_le hk h.grown.size) (fun e => ?_), h.grown.block k hk hne]
  rcases h.at_ with h3 | h3
  · exact hne (by rw [← h3, e]; rfl)
  · have := h3 g rfl
    simp at e; omega
theorem Edit.below {w1 wr : World} {base : Nat} {v0 v : Value} {l : List Int} (h : Edit w1 wr base v0 v l) (hb : base ≤ w1.heap.size) (h0 : ∀ g, v0.ownBlock = some g → base ≤ g) : Below base w1 wr :=
  (Below.refl _ _).grown h.grown hb h0
end Go.Proofs.Ytmahgakigdcjmaa
namespace Go.Proofs.Ytmahgakigdcjmaa
open Go.RowKit
set_option linter.unusedVariables false
set_option maxRecDepth 100000

theorem getD_ins {α : Type} (l : List α) (x d : α) (p j : Nat) (hp : p ≤ l.length) : (l.take p ++ x :: l.drop p).getD j d = if j < p then l.getD j d else if j = p then x else l.getD (j - 1) d := by
  simp only [List.getD]
  by_cases h1 : j < p
  · rw [if_pos h1, List.getElem?_append_left (by simp; omega), List.getElem?_take, if_pos h1]
  · rw [if_neg h1, List.getElem?_append_right (by simp; omega)]
    by_cases h2 : j = p
    · subst h2; simp [Nat.min_eq_left hp]
    · rw [if_neg h2]
      have : j - (l.take p).length = (j - 1 - p) + 1 := by simp [Nat.min_eq_left hp]; omega
      rw [this, List.getElem?_cons_succ, List.getElem?_drop]
      congr 2; omega
theorem cells_ins (xs : List Value) (s u : Value) (n p : Nat) (hx : xs.length = n * 2) (hp : p ≤ n) (j : Nat) :
    (xs.take (p * 2) ++ [s, u] ++ xs.drop (p * 2))[j * 2]? = (if j < p then xs[j * 2]? else if j = p then some s else xs[(j - 1) * 2]?) ∧
    (xs.take (p * 2) ++ [s, u] ++ xs.drop (p * 2))[j * 2 + 1]? = (if j < p then xs[j * 2 + 1]? else if j = p then some u else xs[(j - 1) * 2 + 1]?) := by
  have hl : (xs.take (p * 2)).length = p * 2 := by simp; omega
  by_cases h1 : j < p
  · rw [if_pos h1, if_pos h1, List.append_assoc, List.getElem?_append_left (by omega), List.getElem?_append_left (by omega), List.getElem?_take, List.getElem?_take, if_pos (by omega), if_pos (by omega)]
    exact ⟨rfl, rfl⟩
  · have key : ∀ q, p * 2 ≤ q → (xs.take (p * 2) ++ [s, u] ++ xs.drop (p * 2))[q]? = ([s, u] ++ xs.drop (p * 2))[q - p * 2]? := by
      intro q hq
      rw [List.append_assoc, List.getElem?_append_right (by omega), hl]
    rw [if_neg h1, if_neg h1, key _ (by omega), key _ (by omega)]
    by_cases h2 : j = p
    · subst h2
      rw [if_pos rfl, if_pos rfl, show j * 2 - j * 2 = 0 by omega, show j * 2 + 1 - j * 2 = 1 by omega]
      exact ⟨rfl, rfl⟩
    · have k2 : ∀ q, 2 ≤ q → ([s, u] ++ xs.drop (p * 2))[q]? = xs[p * 2 + (q - 2)]? := by
        intro q hq
        rw [List.getElem?_append_right (by simpa using hq), List.getElem?_drop]; simp
      rw [if_neg h2, if_neg h2, k2 _ (by omega), k2 _ (by omega)]
      exact ⟨by congr 1; omega, by congr 1; omega⟩

theorem getD_set {α : Type} (l : List α) (x d : α) (i j : Nat) (hi : i < l.length) : (l.set i x).getD j d = if j = i then x else l.getD j d := by
  simp only [List.getD]
  by_cases h : j = i
  · subst h; rw [if_pos rfl, List.getElem?_set_self hi]; rfl
  · rw [if_neg h, List.getElem?_set_ne (by omega)]

end Go.Proofs.Ytmahgakigdcjmaa
namespace Go.Proofs.Ytmahgakigdcjmaa
open Go.RowKit
set_option linter.unusedVariables false
set_option maxRecDepth 100000

/-- What marking files makes of them, and the number that is next. -/
def markF : Nat → List PF → List PF
  | _, [] => []
  | k, f :: r => (mkS k, marks (k + 1) f.2.length) :: markF (k + 1 + f.2.length) r
def kF : Nat → List PF → Nat
  | k, [] => k
  | k, f :: r => kF (k + 1 + f.2.length) r
theorem kF_snoc (k : Nat) (l : List PF) (f : PF) : kF k (l ++ [f]) = kF k l + 1 + f.2.length := by
  induction l generalizing k with
  | nil => rfl
  | cons a r ih => simp only [List.cons_append, kF]; exact ih _
theorem markF_snoc (k : Nat) (l : List PF) (f : PF) : markF k (l ++ [f]) = markF k l ++ [(mkS (kF k l), marks (kF k l + 1) f.2.length)] := by
  induction l generalizing k with
  | nil => rfl
  | cons a r ih => simp only [List.cons_append, markF, kF]; rw [ih]
theorem markF_length (k : Nat) (l : List PF) : (markF k l).length = l.length := by
  induction l generalizing k with
  | nil => rfl
  | cons a r ih => simp only [markF, List.length_cons, ih]
theorem kF_le (k : Nat) (l : List PF) : k + l.length ≤ kF k l := by
  induction l generalizing k with
  | nil => simp [kF]
  | cons a r ih => have := ih (k + 1 + a.2.length); simp only [kF, List.length_cons]; omega
theorem kF_append (k : Nat) (a b : List PF) : kF k (a ++ b) = kF (kF k a) b := by
  induction a generalizing k with
  | nil => rfl
  | cons x r ih => simp only [List.cons_append, kF]; exact ih _
def stF (k : Nat) (fs : List PF) (j : Nat) : List PF := markF k (fs.take j) ++ fs.drop j
theorem stF_length (k : Nat) (fs : List PF) (j : Nat) (h : j ≤ fs.length) : (stF k fs j).length = fs.length := by
  simp [stF, markF_length]; omega
theorem stF_get (k : Nat) (fs : List PF) (j : Nat) (h : j < fs.length) (d : PF) : (stF k fs j).getD j d = fs[j] := by
  have h1 : (markF k (fs.take j)).length = j := by rw [markF_length, List.length_take]; omega
  simp [stF, List.getD, List.getElem?_append_right, h1, h]
theorem stF_succ (k : Nat) (fs : List PF) (j : Nat) (h : j < fs.length) : stF k fs (j + 1) = (stF k fs j).set j (mkS (kF k (fs.take j)), marks (kF k (fs.take j) + 1) fs[j].2.length) := by
  have h1 : (markF k (fs.take j)).length = j := by rw [markF_length, List.length_take]; omega
  unfold stF
  rw [List.set_append_right _ _ (by omega), h1, Nat.sub_self, List.drop_eq_getElem_cons h, List.set_cons_zero, List.take_succ_eq_append_getElem h, markF_snoc]
  simp
theorem kF_take (k : Nat) (fs : List PF) (j : Nat) (h : j < fs.length) : kF k (fs.take (j + 1)) = kF k (fs.take j) + 1 + fs[j].2.length := by
  rw [List.take_succ_eq_append_getElem h, kF_snoc]
theorem kF_take_le (k : Nat) (fs : List PF) (j : Nat) : kF k (fs.take j) ≤ kF k fs := by
  have h1 : kF k fs = kF (kF k (fs.take j)) (fs.drop j) := by rw [← kF_append, List.take_append_drop]
  have := kF_le (kF k (fs.take j)) (fs.drop j)
  omega
theorem mkS_size (k : Nat) : (mkS k).size ≤ maxLen := by
  have hd : ∀ f k (o : List UInt8), (digF f k o).length ≤ f + o.length := by
    intro f
    induction f with
    | zero => intro k o; simp [digF]
    | succ f ih =>
      intro k o
      unfold digF
      split
      · omega
      · have := ih (k / 10) (UInt8.ofNat (48 + k % 10) :: o); rw [List.length_cons] at this; omega
  unfold mkS
  split
  · show 2 ≤ maxLen; unfold maxLen; omega
  · have := hd 40 k []
    show ((109 :: digF 40 k []).toArray).size ≤ maxLen
    unfold maxLen
    simp at this ⊢; omega

/-- The blocks of a list. -/
def Blk (v : Value) (vs : List Value) (g : Nat) : Prop := v.ownBlock = some g ∨ ∃ j, j < vs.length ∧ (vs.getD j (.slice none 0 0)).ownBlock = some g
theorem marks_length (k n : Nat) : (marks k n).length = n := by simp [marks]
end Go.Proofs.Ytmahgakigdcjmaa
namespace Go.Proofs.Ytmahgakigdcjmaa
open Go.RowKit
set_option linter.unusedVariables false
set_option maxRecDepth 100000

end Go.Proofs.Ytmahgakigdcjmaa
namespace Go.Proofs.Ytmahgakigdcjmaa
open Go.RowKit
set_option linter.unusedVariables false
set_option maxRecDepth 100000

/-- What marking writes makes of them, and the number that is next. -/
def markP : Nat → List PP → List PP
  | _, [] => []
  | k, f :: r => (mkS k, ((k + 1 : Nat) : Int), marks (k + 2) f.2.2.length) :: markP (k + 2 + f.2.2.length) r
def kP : Nat → List PP → Nat
  | k, [] => k
  | k, f :: r => kP (k + 2 + f.2.2.length) r
theorem kP_snoc (k : Nat) (l : List PP) (f : PP) : kP k (l ++ [f]) = kP k l + 2 + f.2.2.length := by
  induction l generalizing k with
  | nil => rfl
  | cons a r ih => simp only [List.cons_append, kP]; exact ih _
theorem markP_snoc (k : Nat) (l : List PP) (f : PP) : markP k (l ++ [f]) = markP k l ++ [(mkS (kP k l), ((kP k l + 1 : Nat) : Int), marks (kP k l + 2) f.2.2.length)] := by
  induction l generalizing k with
  | nil => rfl
  | cons a r ih => simp only [List.cons_append, markP, kP]; rw [ih]
theorem markP_length (k : Nat) (l : List PP) : (markP k l).length = l.length := by
  induction l generalizing k with
  | nil => rfl
  | cons a r ih => simp only [markP, List.length_cons, ih]
theorem kP_le (k : Nat) (l : List PP) : k + l.length ≤ kP k l := by
  induction l generalizing k with
  | nil => simp [kP]
  | cons a r ih => have := ih (k + 2 + a.2.2.length); simp only [kP, List.length_cons]; omega
theorem kP_append (k : Nat) (a b : List PP) : kP k (a ++ b) = kP (kP k a) b := by
  induction a generalizing k with
  | nil => rfl
  | cons x r ih => simp only [List.cons_append, kP]; exact ih _
def stP (k : Nat) (fs : List PP) (j : Nat) : List PP := markP k (fs.take j) ++ fs.drop j
theorem stP_length (k : Nat) (fs : List PP) (j : Nat) (h : j ≤ fs.length) : (stP k fs j).length = fs.length := by
  simp [stP, markP_length]; omega
theorem stP_get (k : Nat) (fs : List PP) (j : Nat) (h : j < fs.length) (d : PP) : (stP k fs j).getD j d = fs[j] := by
  have h1 : (markP k (fs.take j)).length = j := by rw [markP_length, List.length_take]; omega
  simp [stP, List.getD, List.getElem?_append_right, h1, h]
theorem stP_succ (k : Nat) (fs : List PP) (j : Nat) (h : j < fs.length) : stP k fs (j + 1) = (stP k fs j).set j (mkS (kP k (fs.take j)), ((kP k (fs.take j) + 1 : Nat) : Int), marks (kP k (fs.take j) + 2) fs[j].2.2.length) := by
  have h1 : (markP k (fs.take j)).length = j := by rw [markP_length, List.length_take]; omega
  unfold stP
  rw [List.set_append_right _ _ (by omega), h1, Nat.sub_self, List.drop_eq_getElem_cons h, List.set_cons_zero, List.take_succ_eq_append_getElem h, markP_snoc]
  simp
theorem kP_take (k : Nat) (fs : List PP) (j : Nat) (h : j < fs.length) : kP k (fs.take (j + 1)) = kP k (fs.take j) + 2 + fs[j].2.2.length := by
  rw [List.take_succ_eq_append_getElem h, kP_snoc]
theorem kP_take_le (k : Nat) (fs : List PP) (j : Nat) : kP k (fs.take j) ≤ kP k fs := by
  have h1 : kP k fs = kP (kP k (fs.take j)) (fs.drop j) := by rw [← kP_append, List.take_append_drop]
  have := kP_le (kP k (fs.take j)) (fs.drop j)
  omega

/-- Rows of other types lie in other blocks. -/
theorem own_ne2 {w : World} {b1 b2 e1 e2 s1 s2 : Nat} {v u : Value} {n m : Nat} {xs ys : List Value} (hne : e1 ≠ e2) (h : w.ownsRow b1 e1 s1 v n xs) (k : w.ownsRow b2 e2 s2 u m ys) : u.ownBlock = none ∨ u.ownBlock ≠ v.ownBlock := by
  rcases k.2 with ⟨rfl, _⟩ | ⟨g, cap, cur, rfl, _, hg, _⟩
  · exact .inl rfl
  · refine .inr fun e => ?_
    rcases h.2 with ⟨rfl, _⟩ | ⟨g', cap', cur', rfl, _, hg', _⟩
    · simp [Value.ownBlock] at e
    · simp [Value.ownBlock] at e
      subst e
      rw [hg] at hg'
      simp at hg'
      exact hne hg'.2.symm

end Go.Proofs.Ytmahgakigdcjmaa
namespace Go.Proofs.Ytmahgakigdcjmaa
open Go.RowKit
set_option linter.unusedVariables false
set_option maxRecDepth 100000

end Go.Proofs.Ytmahgakigdcjmaa
namespace Go.Proofs.Ytmahgakigdcjmaa
open Go.RowKit
set_option linter.unusedVariables false
set_option maxRecDepth 100000

theorem markF_get (k : Nat) (fs : List PF) (j : Nat) (h : j < fs.length) (d : PF) : (markF k fs).getD j d = (mkS (kF k (fs.take j)), marks (kF k (fs.take j) + 1) fs[j].2.length) := by
  induction fs generalizing k j with
  | nil => simp at h
  | cons a r ih =>
    cases j with
    | zero => simp [markF, kF]
    | succ j =>
      have h' : j < r.length := by simpa using h
      simpa [markF, kF] using ih (k + 1 + a.2.length) j h'

end Go.Proofs.Ytmahgakigdcjmaa
namespace Go.Proofs.Ytmahgakigdcjmaa
open Go.RowKit
set_option linter.unusedVariables false
set_option maxRecDepth 100000

theorem markP_get (k : Nat) (fs : List PP) (j : Nat) (h : j < fs.length) (d : PP) : (markP k fs).getD j d = (mkS (kP k (fs.take j)), ((kP k (fs.take j) + 1 : Nat) : Int), marks (kP k (fs.take j) + 2) fs[j].2.2.length) := by
  induction fs generalizing k j with
  | nil => simp at h
  | cons a r ih =>
    cases j with
    | zero => simp [markP, kP]
    | succ j =>
      have h' : j < r.length := by simpa using h
      simpa [markP, kP] using ih (k + 2 + a.2.2.length) j h'

end Go.Proofs.Ytmahgakigdcjmaa
namespace Go.Proofs.Ytmahgakigdcjmaa
open Go.RowKit
set_option linter.unusedVariables false
set_option maxRecDepth 100000

end Go.Proofs.Ytmahgakigdcjmaa
namespace Go.Proofs.Ytmahgakigdcjmaa
open Go.RowKit
set_option linter.unusedVariables false
set_option maxRecDepth 100000

end Go.Proofs.Ytmahgakigdcjmaa
namespace Go.Proofs.Ytmahgakigdcjmaa
open Go.RowKit
set_option linter.unusedVariables false
set_option maxRecDepth 100000

end Go.Proofs.Ytmahgakigdcjmaa
namespace Go.Proofs.Ytmahgakigdcjmaa
open Go.RowKit
set_option linter.unusedVariables false
set_option maxRecDepth 100000

theorem take_snocP (l : List PP) (k : Nat) (d : PP) (h : k < l.length) : l.take (k + 1) = l.take k ++ [l.getD k d] := by
  rw [List.take_succ_eq_append_getElem h]
  simp [List.getD, h]

theorem heap_setCell_at {w : World} {b t : Nat} {cs : Array Value} (h : w.heap[b]? = some (.cells cs t (0, 0))) (o : Nat) (v : Value) : (w.setCell ⟨b, o, none⟩ v).heap[b]? = some (.cells (cs.setIfInBounds o v) t (0, 0)) := by
  obtain ⟨hlt, hk⟩ := Array.getElem?_eq_some_iff.1 h
  show (w.heap.modify b _)[b]? = _
  rw [Array.getElem?_eq_getElem (by rw [Array.size_modify]; exact hlt), Array.getElem_modify_self, hk]
  rfl

theorem cell_three_new (w : World) (a b c : Value) (t : TypeId) : ∀ j u, [a, b, c][j]? = some u → (w.alloc (.cells #[a, b, c] t)).cell? ((⟨w.heap.size, 0, none⟩ : Addr).add j) = some u := by
  intro j u h
  match j, h with
  | 0, h => simpa [Addr.add] using h
  | 1, h => simpa [Addr.add] using h
  | 2, h => simpa [Addr.add] using h
theorem fr_setCell (w : World) (b o : Nat) (v : Value) : Fr (fun k => k = b) w (w.setCell ⟨b, o, none⟩ v) :=
  ⟨rfl, rfl, rfl, by simp [World.setCell], fun k _ hk => by
    show (w.heap.modify b _)[k]? = _
    rw [Array.getElem?_modify, if_neg (fun e => hk e.symm)]⟩

theorem box_after {w w' : World} {b t : Nat} {cs : Array Value} {row : Option Nat} (h : w.heap[b]? = some (.cells cs t (0, 0))) (hg : w.grownBy w' row) (hb : b < w.heap.size) (hr : ∀ g, row = some g → b ≠ g) : w'.heap[b]? = some (.cells cs t (0, 0)) ∧ ∀ o, w'.frozen? ⟨b, o, none⟩ = false := by
  have e : w'.heap[b]? = some (.cells cs t (0, 0)) := (hg.block b hb (fun e => hr b e.symm rfl)).trans h
  exact ⟨e, fun o => by simp [World.frozen?, e]⟩

end Go.Proofs.Ytmahgakigdcjmaa
namespace Go.Proofs.Ytmahgakigdcjmaa
open Go.RowKit
set_option linter.unusedVariables false
set_option linter.unusedSimpArgs false
set_option maxRecDepth 100000

/-- Where a reader stands, and its fault. -/
structure Rs where
  at_ : Nat
  ft : Int
def wantS (g : Bool) (f : Int) (s : Rs) : Rs := ⟨s.at_, if s.ft = 0 then cond g 0 f else s.ft⟩
def takeS (n cnt : Nat) (s : Rs) : Rs := if s.ft = 0 then (if s.at_ + cnt ≤ n then ⟨s.at_ + cnt, 0⟩ else ⟨s.at_, 3⟩) else s
def takeV (bs : List Int) (cnt : Nat) (s : Rs) : List Int := if s.ft = 0 ∧ s.at_ + cnt ≤ bs.length then (bs.drop s.at_).take cnt else List.replicate cnt 0
theorem takeV_len (bs : List Int) (cnt : Nat) (s : Rs) : (takeV bs cnt s).length = cnt := by
  unfold takeV
  split
  · rename_i h; simp; omega
  · simp
theorem takeV_byte {bs : List Int} (h : ∀ x ∈ bs, 0 ≤ x ∧ x ≤ 255) (cnt : Nat) (s : Rs) : ∀ x ∈ takeV bs cnt s, 0 ≤ x ∧ x ≤ 255 := by
  unfold takeV
  split
  · exact fun x hx => h x (List.mem_of_mem_drop (List.mem_of_mem_take hx))
  · intro x hx
    have := List.eq_of_mem_replicate hx
    omega
/-- A reader in memory. -/
structure RSt (w : World) (R : Nat) (a : Option Addr) (n c A B : Nat) (bs : List Int) (s : Rs) : Prop where
  box : w.heap[R]? = some (.cells #[.slice a n c, .int .i64 s.at_, .int .i64 s.ft] 46)
  by_ : BytesAt w A B a n c bs
  hB : B ≤ R
  at_ : s.at_ ≤ n
  small : n ≤ 200000
/-- Bytes that lie elsewhere than R. -/
def BOff (w : World) (R : Nat) (a : Option Addr) (n c : Nat) (bs : List Int) : Prop := ∃ A B, B ≤ w.heap.size ∧ (B ≤ R ∨ R < A) ∧ BytesAt w A B a n c bs
theorem BOff.fr {w w' : World} {R : Nat} {a : Option Addr} {n c : Nat} {bs : List Int} (h : BOff w R a n c bs) (hf : Fr (fun x => x = R) w w') : BOff w' R a n c bs := by
  obtain ⟨A, B, h1, h2, h3⟩ := h
  exact ⟨A, B, Nat.le_trans h1 hf.size, h2, h3.keep fun k k1 k2 => hf.block k (by omega) (by omega)⟩
theorem RSt.lt {w : World} {R : Nat} {a : Option Addr} {n c A B : Nat} {bs : List Int} {s : Rs} (h : RSt w R a n c A B bs s) : R < w.heap.size := (Array.getElem?_eq_some_iff.1 h.box).1
theorem RSt.cells {w : World} {R : Nat} {a : Option Addr} {n c A B : Nat} {bs : List Int} {s : Rs} (h : RSt w R a n c A B bs s) : w.cell? ⟨R, 0, none⟩ = some (.slice a n c) ∧ w.cell? ⟨R, 1, none⟩ = some (.int .i64 s.at_) ∧ w.cell? ⟨R, 2, none⟩ = some (.int .i64 s.ft) ∧ ∀ j, w.frozen? ⟨R, j, none⟩ = false := by
  refine ⟨?_, ?_, ?_, fun j => ?_⟩
  · simp [World.cell?, h.box]
  · simp [World.cell?, h.box]
  · simp [World.cell?, h.box]
  · simp [World.frozen?, h.box]
theorem RSt.below {w w' : World} {R : Nat} {a : Option Addr} {n c A B : Nat} {bs : List Int} {s : Rs} (h : RSt w R a n c A B bs s) (hb : Below w.heap.size w w') : RSt w' R a n c A B bs s :=
  ⟨(hb.block R h.lt).trans h.box, h.by_.below (hb.mono (by have := h.lt; have := h.hB; omega)), h.hB, h.at_, h.small⟩
theorem RSt.drew {w : World} {R : Nat} {a : Option Addr} {n c A B : Nat} {bs : List Int} {s : Rs} (h : RSt w R a n c A B bs s) : RSt w.drew R a n c A B bs s := h.below (Below.refl _ _).drew
theorem RSt.other {w w' : World} {R C : Nat} {a : Option Addr} {n c A B : Nat} {bs : List Int} {s : Rs} (h : RSt w R a n c A B bs s) (hf : Fr (fun x => x = C) w w') (hC : R < C) : RSt w' R a n c A B bs s :=
  ⟨(hf.block R h.lt (by omega)).trans h.box, h.by_.keep fun k k1 k2 => hf.block k (by have := h.lt; have := h.hB; omega) (by have := h.hB; omega), h.hB, h.at_, h.small⟩
theorem RSt.set {w : World} {R : Nat} {a : Option Addr} {n c A B : Nat} {bs : List Int} {s : Rs} (h : RSt w R a n c A B bs s) (f : Int) : RSt (w.setCell ⟨R, 2, none⟩ (.int .i64 f)) R a n c A B bs ⟨s.at_, f⟩ := by
  refine ⟨?_, h.by_.keep fun k k1 k2 => Below.heap_setCell w ⟨R, 2, none⟩ _ k (by have := h.hB; show k ≠ R; omega), h.hB, h.at_, h.small⟩
  simp [World.setCell, Array.getElem?_modify, h.box]
theorem RSt.go {w : World} {R : Nat} {a : Option Addr} {n c A B : Nat} {bs : List Int} {s : Rs} (h : RSt w R a n c A B bs s) (k : Nat) (hk : k ≤ n) : RSt (w.setCell ⟨R, 1, none⟩ (.int .i64 (k : Int))) R a n c A B bs ⟨k, s.ft⟩ := by
  refine ⟨?_, h.by_.keep fun k k1 k2 => Below.heap_setCell w ⟨R, 1, none⟩ _ k (by have := h.hB; show k ≠ R; omega), h.hB, hk, h.small⟩
  simp [World.setCell, Array.getElem?_modify, h.box]
set_option maxHeartbeats 400000 in
theorem rWant_any (R : Nat) (a : Option Addr) (n c A B : Nat) (bs : List Int) (s : Rs) (g : Bool) (f : Int) (w : World) (h : RSt w R a n c A B bs s) :
    Calls Try.prog 35 #[.pointer (some ⟨R, 0, none⟩), .bool g, .int .i64 f] w fun e w' => e = .returned (.tuple #[]) ∧ RSt w' R a n c A B bs (wantS g f s) ∧ Fr (fun x => x = R) w w' := by
  obtain ⟨c0, c1, c2, hf⟩ := h.cells
  have hf2 := hf 2
  have HS : Hid (RSt (w.setCell ⟨R, 2, none⟩ (.int .i64 f)) R a n c A B bs ⟨s.at_, f⟩) := h.set f
  have HH : Hid (RSt w R a n c A B bs s) := h
  have HF : Hid (Fr (fun x => x = R) w (w.setCell ⟨R, 2, none⟩ (.int .i64 f))) := fr_setCell _ _ _ _
  clear h hf
  obtain ⟨at0, ft⟩ := s
  simp only at c1 c2
  by_cases h0 : ft = 0
  · subst h0
    cases g
    · go_enter Try.func35, Try.ntmps35
      go_wp2
      refine bodyPost_end (v := .tuple #[]) (by simp [results, Try.results35, go_sem]) rfl ?_
      exact ⟨rfl, by simpa [wantS] using HS.out, HF.out⟩
    · go_enter Try.func35, Try.ntmps35
      go_wp2
      refine bodyPost_end (v := .tuple #[]) (by simp [results, Try.results35, go_sem]) rfl ?_
      exact ⟨rfl, by simpa [wantS] using HH.out, Fr.refl _ _⟩
  · have hd : (ft == 0) = false := by simpa using h0
    cases g
    · go_enter Try.func35, Try.ntmps35
      go_wp2
      refine bodyPost_end (v := .tuple #[]) (by simp [results, Try.results35, go_sem]) rfl ?_
      exact ⟨rfl, by simpa [wantS, h0] using HH.out, Fr.refl _ _⟩
    · go_enter Try.func35, Try.ntmps35
      go_wp2
      refine bodyPost_end (v := .tuple #[]) (by simp [results, Try.results35, go_sem]) rfl ?_
      exact ⟨rfl, by simpa [wantS, h0] using HH.out, Fr.refl _ _⟩
theorem rmake_run (n : Nat) (hn : n ≤ 255) (w : World) : (Instr.makeSlice 22 (.int .i64 n) (.int .i64 n)).run Try.prog w = .ok (.slice (some ⟨w.heap.size, 0, none⟩) n n) (w.alloc (.cells (madeCells #[.int .u8 0] n) 5)) := by
  obtain ⟨i0, hi0, hz0, hz1, hz2⟩ := info_parts info_u8
  have := run_makeSlice (P := Try.prog) w 22 5 i0 (.int .u8 0) Try.underlying22 hi0 hz0 .i64 .i64 n n (by omega) (by omega) (by rw [hz1]; simp; omega) (by rw [hz2]; omega) (by omega)
  simpa [hz1, Value.cells] using this
theorem rmade_bytes (n : Nat) (hn : n ≤ 255) (w : World) : BytesAt (w.alloc (.cells (madeCells #[.int .u8 0] n) 5)) w.heap.size (w.heap.size + 1) (some ⟨w.heap.size, 0, none⟩) n n (List.replicate n 0) := by
  refine ⟨by simp, Nat.le_refl _, by unfold maxLen; omega, fun x hx => by have := List.eq_of_mem_replicate hx; omega, fun _ => ⟨_, 0, rfl, ⟨Nat.le_refl _, by omega⟩, fun i hi => ?_⟩, fun h => by cases h⟩
  simp only [World.cell?, heap_alloc_new, Nat.zero_add, madeCells]
  simp [List.getD, hi, Value.cells, Nat.mod_one]
set_option maxHeartbeats 800000 in
theorem rTake_any (R : Nat) (a : Option Addr) (n c A B : Nat) (bs : List Int) (s : Rs) (cnt : Nat) (hc1 : 0 < cnt) (hc2 : cnt ≤ 132) (w : World) (h : RSt w R a n c A B bs s) :
    Calls Try.prog 39 #[.pointer (some ⟨R, 0, none⟩), .int .i64 cnt] w fun e w' => ∃ b o c', e = .returned (.slice (some ⟨b, o, none⟩) cnt c') ∧ BOff w' R (some ⟨b, o, none⟩) cnt c' (takeV bs cnt s) ∧ RSt w' R a n c A B bs (takeS n cnt s) ∧ Fr (fun x => x = R) w w' := by
  have hl := h.by_.1
  have hsm := h.small
  have hat := h.at_
  have hcap := h.by_.2.1
  have hcm := h.by_.2.2.1
  unfold maxLen at hcm
  obtain ⟨at0, ft⟩ := s
  simp only at hat
  obtain ⟨c0, c1, c2, hf⟩ := h.cells
  simp only at c1 c2
  have HH : Hid (RSt w R a n c A B bs ⟨at0, ft⟩) := h
  obtain ⟨g, hg⟩ : ∃ g, g = decide (at0 + cnt ≤ n) := ⟨_, rfl⟩
  have hgd : decide ((n : Int) - (at0 : Int) < (cnt : Int)) = !g := by
    rw [hg]; by_cases hh : at0 + cnt ≤ n <;> simp [hh] <;> omega
  have hge : decide ((cnt : Int) ≤ (n : Int) - (at0 : Int)) = g := by
    rw [hg]; by_cases hh : at0 + cnt ≤ n <;> simp [hh] <;> omega
  have HG : Hid (g = decide (at0 + cnt ≤ n)) := hg
  clear h hg
  go_enter Try.func39, Try.ntmps39
  go_wp2_with fail
  refine wp_region_noPanic ?_
  refine wp_region_held_drew (S := (fun w' : World => w'.cell? ⟨R, 0, none⟩ = some (.slice a n c) ∧ w'.cell? ⟨R, 1, none⟩ = some (.int .i64 at0))) (by kernel_rfl) (⟨c0, c1⟩) (fun hHeld => ?_)
  refine wpAnyH_take (i := 0) (oi := { dst := some 6, op := Op.move (Operand.tmp 0), type := 44, pos := "l7_restore.go:150", after := #[], guard := none }) (v := .pointer (some ⟨R, 0, none⟩)) rfl (by kernel_rfl) (by kernel_rfl) (by kernel_rfl) (fun _ _ _ h => h) (Or.inl ⟨by rfl, ?_⟩) (by assumption) ?_
  · intro wq hSw; (try dsimp only at hSw); go_simp
  try simp only [Act.put, List.setIfInBounds_toArray, List.set_cons_zero, List.set_cons_succ]
  refine wpAnyH_take (i := 1) (oi := { dst := some 7, op := Op.move (Operand.tmp 0), type := 44, pos := "l7_restore.go:150", after := #[], guard := none }) (v := .pointer (some ⟨R, 0, none⟩)) rfl (by kernel_rfl) (by kernel_rfl) (by kernel_rfl) (fun _ _ _ h => h) (Or.inl ⟨by rfl, ?_⟩) (by assumption) ?_
  · intro wq hSw; (try dsimp only at hSw); go_simp
  try simp only [Act.put, List.setIfInBounds_toArray, List.set_cons_zero, List.set_cons_succ]
  refine wpAnyH_take (i := 2) (oi := { dst := some 8, op := Op.nilCheck (Operand.tmp 7), type := 0, pos := "l7_restore.go:150", after := #[{ on := 1, ground := Ground.data }], guard := none }) (v := .pointer (some ⟨R, 0, none⟩)) rfl (by kernel_rfl) (by kernel_rfl) (by kernel_rfl) (fun _ _ _ h => h) (Or.inl ⟨by rfl, ?_⟩) (by assumption) ?_
  · intro wq hSw; (try dsimp only at hSw); go_simp
  try simp only [Act.put, List.setIfInBounds_toArray, List.set_cons_zero, List.set_cons_succ]
  refine wpAnyH_take (i := 3) (oi := { dst := some 9, op := Op.fieldAddr 46 (Operand.tmp 8) 0, type := 0, pos := "l7_restore.go:150", after := #[{ on := 2, ground := Ground.data }], guard := none }) (v := .pointer (some ⟨R, 0, none⟩)) rfl (by kernel_rfl) (by kernel_rfl) (by kernel_rfl) (fun _ _ _ h => h) (Or.inl ⟨by rfl, ?_⟩) (by assumption) ?_
  · intro wq hSw; (try dsimp only at hSw); go_simp
  try simp only [Act.put, List.setIfInBounds_toArray, List.set_cons_zero, List.set_cons_succ]
  refine wpAnyH_take (i := 4) (oi := { dst := some 10, op := Op.load 22 (Operand.tmp 9), type := 22, pos := "l7_restore.go:150", after := #[{ on := 3, ground := Ground.data }], guard := none }) (v := .slice a n c) rfl (by kernel_rfl) (by kernel_rfl) (by kernel_rfl) (fun _ _ _ h => h) (Or.inl ⟨by rfl, ?_⟩) (by assumption) ?_
  · intro wq hSw; (try dsimp only at hSw); obtain ⟨d0, d1⟩ := hSw; go_simp
  try simp only [Act.put, List.setIfInBounds_toArray, List.set_cons_zero, List.set_cons_succ]
  refine wpAnyH_take (i := 5) (oi := { dst := some 11, op := Op.call { callee := Callee.builtin Builtin.len, args := #[Operand.tmp 10], argTypes := #[22] }, type := 3, pos := "l7_restore.go:150", after := #[{ on := 4, ground := Ground.data }], guard := none }) (v := .int .i64 n) rfl (by kernel_rfl) (by kernel_rfl) (by kernel_rfl) (fun _ _ _ h => h) (Or.inl ⟨by rfl, ?_⟩) (by assumption) ?_
  · intro wq hSw; (try dsimp only at hSw); go_simp
  try simp only [Act.put, List.setIfInBounds_toArray, List.set_cons_zero, List.set_cons_succ]
  refine wpAnyH_take (i := 6) (oi := { dst := some 12, op := Op.move (Operand.tmp 0), type := 44, pos := "l7_restore.go:150", after := #[], guard := none }) (v := .pointer (some ⟨R, 0, none⟩)) rfl (by kernel_rfl) (by kernel_rfl) (by kernel_rfl) (fun _ _ _ h => h) (Or.inl ⟨by rfl, ?_⟩) (by assumption) ?_
  · intro wq hSw; (try dsimp only at hSw); go_simp
  try simp only [Act.put, List.setIfInBounds_toArray, List.set_cons_zero, List.set_cons_succ]
  refine wpAnyH_take (i := 7) (oi := { dst := some 13, op := Op.nilCheck (Operand.tmp 12), type := 0, pos := "l7_restore.go:150", after := #[{ on := 6, ground := Ground.data }], guard := none }) (v := .pointer (some ⟨R, 0, none⟩)) rfl (by kernel_rfl) (by kernel_rfl) (by kernel_rfl) (fun _ _ _ h => h) (Or.inl ⟨by rfl, ?_⟩) (by assumption) ?_
  · intro wq hSw; (try dsimp only at hSw); go_simp
  try simp only [Act.put, List.setIfInBounds_toArray, List.set_cons_zero, List.set_cons_succ]
  refine wpAnyH_take (i := 8) (oi := { dst := some 14, op := Op.fieldAddr 46 (Operand.tmp 13) 1, type := 0, pos := "l7_restore.go:150", after := #[{ on := 7, ground := Ground.data }], guard := none }) (v := .pointer (some ⟨R, 1, none⟩)) rfl (by kernel_rfl) (by kernel_rfl) (by kernel_rfl) (fun _ _ _ h => h) (Or.inl ⟨by rfl, ?_⟩) (by assumption) ?_
  · intro wq hSw; (try dsimp only at hSw); go_simp
  try simp only [Act.put, List.setIfInBounds_toArray, List.set_cons_zero, List.set_cons_succ]
  refine wpAnyH_take (i := 9) (oi := { dst := some 15, op := Op.load 3 (Operand.tmp 14), type := 3, pos := "l7_restore.go:150", after := #[{ on := 8, ground := Ground.data }], guard := none }) (v := .int .i64 at0) rfl (by kernel_rfl) (by kernel_rfl) (by kernel_rfl) (fun _ _ _ h => h) (Or.inl ⟨by rfl, ?_⟩) (by assumption) ?_
  · intro wq hSw; (try dsimp only at hSw); obtain ⟨d0, d1⟩ := hSw; go_simp
  try simp only [Act.put, List.setIfInBounds_toArray, List.set_cons_zero, List.set_cons_succ]
  refine wpAnyH_take (i := 10) (oi := { dst := some 16, op := Op.binOp BinOp.sub 3 (Operand.tmp 11) (Operand.tmp 15) 3, type := 3, pos := "l7_restore.go:150", after := #[{ on := 5, ground := Ground.data }, { on := 9, ground := Ground.data }], guard := none }) (v := .int .i64 ((n : Int) - (at0 : Int))) rfl (by kernel_rfl) (by kernel_rfl) (by kernel_rfl) (fun _ _ _ h => h) (Or.inl ⟨by rfl, ?_⟩) (by assumption) ?_
  · intro wq hSw; (try dsimp only at hSw); go_simp; rw [IntKind.wrap_i64]; omega
  try simp only [Act.put, List.setIfInBounds_toArray, List.set_cons_zero, List.set_cons_succ]
  refine wpAnyH_take (i := 11) (oi := { dst := some 17, op := Op.move (Operand.tmp 1), type := 3, pos := "l7_restore.go:150", after := #[], guard := none }) (v := .int .i64 cnt) rfl (by kernel_rfl) (by kernel_rfl) (by kernel_rfl) (fun _ _ _ h => h) (Or.inl ⟨by rfl, ?_⟩) (by assumption) ?_
  · intro wq hSw; (try dsimp only at hSw); go_simp
  try simp only [Act.put, List.setIfInBounds_toArray, List.set_cons_zero, List.set_cons_succ]
  refine wpAnyH_take (i := 12) (oi := { dst := some 18, op := Op.binOp BinOp.geq 3 (Operand.tmp 16) (Operand.tmp 17) 3, type := 4, pos := "l7_restore.go:150", after := #[{ on := 10, ground := Ground.data }, { on := 11, ground := Ground.data }], guard := none }) (v := .bool g) rfl (by kernel_rfl) (by kernel_rfl) (by kernel_rfl) (fun _ _ _ h => h) (Or.inl ⟨by rfl, ?_⟩) (by assumption) ?_
  · intro wq hSw; (try dsimp only at hSw); go_simp
  try simp only [Act.put, List.setIfInBounds_toArray, List.set_cons_zero, List.set_cons_succ]
  refine wpAnyH_ready (rs := [13]) (by kernel_rfl) (by simp) ?_
  refine AllReadyH.cons (o := { dst := some 19, op := Op.call { callee := Callee.value (Operand.func 35), args := #[Operand.tmp 6, Operand.tmp 18, Operand.const (Value.int IntKind.i64 3)], argTypes := #[44, 4, 2] }, type := 0, pos := "l7_restore.go:150", after := #[{ on := 0, ground := Ground.data }, { on := 12, ground := Ground.data }], guard := none }) rfl (fun K hK => ?_) AllReadyH.nil
  go_simp
  refine (rWant_any R a n c A B bs ⟨at0, ft⟩ g 3 w.drew HH.out.drew).mono ?_
  rintro e w1 ⟨rfl, H1, hF1⟩
  go_wp2_with fail
  refine hK.out _ _ (⟨H1.cells.1, H1.cells.2.1⟩) (fun hHeld => ?_)
  clear hK K
  try simp only [Act.put, List.setIfInBounds_toArray, List.set_cons_zero, List.set_cons_succ]
  refine wpAnyH_done (by kernel_rfl) ?_ _
  refine NoPanic.normal ?_
  have hF1' : Fr (fun x => x = R) w w1 := (Fr.of_below (Below.refl _ _).drew).trans hF1
  clear hF1 hHeld c0 c1 c2 hf hgd hge
  obtain ⟨c0, c1, c2, hf⟩ := H1.cells
  have hf1 := hf 1
  by_cases hz : ft = 0 ∧ at0 + cnt ≤ n
  · obtain ⟨rfl, hle⟩ := hz
    have hgt : g = true := by rw [HG.out]; simpa using hle
    subst hgt
    have hws : wantS true 3 ⟨at0, 0⟩ = ⟨at0, 0⟩ := by simp [wantS]
    rw [hws] at H1 c1 c2
    simp only at c1 c2
    have H2 := H1.go (at0 + cnt) hle
    have hF2 : Fr (fun x => x = R) w (w1.setCell ⟨R, 1, none⟩ (.int .i64 ((at0 + cnt : Nat) : Int))) := hF1'.trans (fr_setCell _ _ _ _)
    have ecast : (((at0 + cnt : Nat) : Int)) = (at0 : Int) + (cnt : Int) := by omega
    rw [ecast] at H2 hF2
    obtain ⟨b, off, rfl, hbo⟩ : ∃ b off, a = some ⟨b, off, none⟩ ∧ True := by
      obtain ⟨b, off, e, _⟩ := H1.by_.2.2.2.2.1 (by omega)
      exact ⟨b, off, e, trivial⟩
    have HS : Hid (∀ q, RSt ((w1.setCell ⟨R, 1, none⟩ (.int .i64 ((at0 : Int) + (cnt : Int)))).drewN q) R (some ⟨b, off, none⟩) n c A B bs (takeS n cnt ⟨at0, 0⟩)) := fun q => by
      have e : takeS n cnt ⟨at0, 0⟩ = ⟨at0 + cnt, 0⟩ := by simp [takeS, hle]
      rw [e]
      exact H2.below ⟨rfl, rfl, rfl, Nat.le_refl _, fun _ _ => rfl⟩
    have HBO : Hid (∀ q, BOff ((w1.setCell ⟨R, 1, none⟩ (.int .i64 ((at0 : Int) + (cnt : Int)))).drewN q) R (some ⟨b, off + at0, none⟩) cnt (c - at0) (takeV bs cnt ⟨at0, 0⟩)) := fun q => by
      have e : takeV bs cnt ⟨at0, 0⟩ = (bs.drop at0).take cnt := if_pos ⟨rfl, by rw [hl]; exact hle⟩
      rw [e]
      exact ⟨A, B, by have := (HS.out q).lt; have := (HS.out q).hB; omega, .inl (HS.out q).hB, bytesAt_sub (HS.out q).by_ at0 cnt hle (by omega)⟩
    have HFF : Hid (∀ q, Fr (fun x => x = R) w ((w1.setCell ⟨R, 1, none⟩ (.int .i64 ((at0 : Int) + (cnt : Int)))).drewN q)) := fun q => hF2.trans (Fr.of_below ⟨rfl, rfl, rfl, Nat.le_refl _, fun _ _ => rfl⟩)
    obtain ⟨d0, d1, _, _⟩ := H2.cells
    simp only [ecast] at d1
    clear hws ecast H1 H2 hF1' hF2 HG HH hf hbo
    go_wp2_with fail
    generalize w1.setCell ⟨R, 1, none⟩ (.int .i64 ((at0 : Int) + (cnt : Int))) = w2 at HS HBO HFF d0 d1 ⊢
    clear c0 c1 c2 hf1
    have hck : ¬ c = at0 := by omega
    go_quiet (fail)
    go_wp2
    go_ret
    exact ⟨b, off + at0, c - at0, by rw [Nat.add_sub_cancel_left]; rfl, HBO.out _, HS.out _, HFF.out _⟩
  · have hz1 : (wantS g 3 ⟨at0, ft⟩).ft ≠ 0 := by
      rw [HG.out]
      by_cases h0 : ft = 0
      · have : ¬ at0 + cnt ≤ n := fun h => hz ⟨h0, h⟩
        simp [wantS, h0, this]
      · simp [wantS, h0]
    have hws : wantS g 3 ⟨at0, ft⟩ = takeS n cnt ⟨at0, ft⟩ := by
      rw [HG.out]
      by_cases h0 : ft = 0
      · have : ¬ at0 + cnt ≤ n := fun h => hz ⟨h0, h⟩
        simp [wantS, takeS, h0, this]
      · simp [wantS, takeS, h0]
    have hv : takeV bs cnt ⟨at0, ft⟩ = List.replicate cnt 0 := if_neg (by rw [hl]; exact hz)
    have hne : ((wantS g 3 ⟨at0, ft⟩).ft != 0) = true := by simpa using hz1
    obtain ⟨f1, hf1'⟩ : ∃ f1, f1 = (wantS g 3 ⟨at0, ft⟩).ft := ⟨_, rfl⟩
    rw [← hf1'] at c2 hne
    rw [hws] at H1
    have hmk := rmake_run cnt (by omega) w1
    have HB1 : Hid (BOff (w1.alloc (.cells (madeCells #[.int .u8 0] cnt) 5)) R (some ⟨w1.heap.size, 0, none⟩) cnt cnt (takeV bs cnt ⟨at0, ft⟩)) := by
      rw [hv]
      exact ⟨_, _, by simp, .inr H1.lt, rmade_bytes cnt (by omega) w1⟩
    have HS : Hid (RSt (w1.alloc (.cells (madeCells #[.int .u8 0] cnt) 5)) R a n c A B bs (takeS n cnt ⟨at0, ft⟩)) := H1.below ((Below.refl _ _).alloc (Nat.le_refl _) _)
    have HFF : Hid (Fr (fun x => x = R) w (w1.alloc (.cells (madeCells #[.int .u8 0] cnt) 5))) := hF1'.trans (Fr.of_below ((Below.refl _ _).alloc (Nat.le_refl _) _))
    clear hws hz1 hv hf1' H1 hF1' HG HH hf hz
    go_wp2_with fail
    go_ret
    exact ⟨w1.heap.size, 0, cnt, rfl, HB1.out, HS.out, HFF.out⟩
end Go.Proofs.Ytmahgakigdcjmaa
