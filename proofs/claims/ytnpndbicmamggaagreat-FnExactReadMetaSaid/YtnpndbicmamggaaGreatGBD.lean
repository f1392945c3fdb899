import Derived.Test.YtnpndbicmamggaaGreatGBC
import Derived.ArgAppend
import Derived.WalkSpells
import Derived.Sort.Walk0
import Derived.Maps.OwnSet
namespace Go.Proofs.YtnpndbicmamggaaGreat
open Go.RowKit
set_option linter.unusedVariables false
set_option maxRecDepth 100000

theorem grown_weak {w w' : World} {row : Option Nat} (h : w.grownBy w' none) : w.grownBy w' row :=
  ⟨h.os, h.tape, h.output, h.size, fun k hk _ => h.block k hk (by simp)⟩

/-- 'append' to a slice of one's own, and where the answer lies: where it lay, or in a new block. -/
theorem run_append_own2 {P : Program} (w : World) (base : Nat) (t ty e : TypeId) (i : TypeInfo) (z : Value) (size bytes : Nat) (ht : P.underlying t = some (.slice e)) (hi : P.info? e = some i) (hz : i.zero = some z)
    (hsize : i.size = size) (hby : i.bytes = bytes) (hzs : z.cells.size = size) (hsz : 0 < size)
    (v : Value) (n : Nat) (xs : List Value) (hown : w.ownsRow base e size v n xs)
    (a : Addr) (m c : Nat) (news : List Value) (hl : news.length = m * size) (hnews : ∀ j u, news[j]? = some u → w.cell? (a.add j) = some u) (h1 : ∀ u ∈ news, u.oneCell' = true)
    (h63 : n + m ≤ maxLen) (hbytes : (n + m) * bytes ≤ 140737488355328) (hbase : base ≤ w.heap.size) :
    ∃ v' w', (Builtin.append_ #[t, t] ty #[v, .slice (some a) m c]).run P w = .ok v' w' ∧ w'.ownsRow base e size v' (n + m) (xs ++ news) ∧ w.grownBy w' v.ownBlock ∧
      (v'.ownBlock = v.ownBlock ∨ ∀ g, v'.ownBlock = some g → w.heap.size ≤ g) := by
  rcases hown.2 with ⟨rfl, rfl⟩ | ⟨g, cap, cur, rfl, hbg, hg, hnc, hcm, hcs, htake⟩
  · have hx : xs = [] := List.eq_nil_of_length_eq_zero (by simpa using hown.1)
    subst hx
    obtain ⟨v', w', hr, ho, hgr, _⟩ := run_append_own (P := P) w w.heap.size t ty e i z size bytes ht hi hz hsize hby hzs hsz _ 0 [] (World.ownsRow_nil w _ e size) a m c news hl hnews h1 h63 hbytes (Nat.le_refl _)
    exact ⟨v', w', hr, own_lower ho hbase, hgr, .inr fun k hk => (ho.lt k hk).1⟩
  · by_cases hroom : n + m ≤ cap
    · obtain ⟨v', w', hr, ho, hgr, _⟩ := run_append_own (P := P) w base t ty e i z size bytes ht hi hz hsize hby hzs hsz _ n xs hown a m c news hl hnews h1 h63 hbytes hbase
      subst hsize
      have hfit : n * i.size + news.length ≤ cur.size := by rw [hl, hcs, ← Nat.add_mul]; exact Nat.mul_le_mul_right _ hroom
      have hr2 := run_append_room (P := P) w t ty e i ht hi g n cap cur hg a m c news hl hnews h1 hroom hfit
      rw [hr] at hr2
      injection hr2 with e1 e2
      exact ⟨v', w', hr, ho, hgr, .inl (by rw [e1]; rfl)⟩
    · have holds : ∀ j u, xs[j]? = some u → w.cell? ((⟨g, 0, none⟩ : Addr).add j) = some u := hown.cells (g := g) rfl
      obtain ⟨v', w', hr, ho, hgr⟩ := run_append_arg_grows (P := P) w t ty e i z size bytes ht hi hz hsize hby hzs hsz ⟨g, 0, none⟩ n cap xs hown.1 holds a m c news hl hnews (by omega) h63 hbytes
      exact ⟨v', w', hr, own_lower ho hbase, grown_weak hgr, .inr fun k hk => (ho.lt k hk).1⟩

theorem wpList_append_own2 {P : Program} (w : World) {ops : Array Oper} {rest : List Oper} {o : Oper} {a : Act} {Q : Exit → Act → World → Prop} (hgd : o.guard = none) (s x : Operand) (t : TypeId)
    (ho : o.op = .call { callee := .builtin .append, args := #[s, x], argTypes := #[t, t] })
    (base : Nat) (e : TypeId) (i : TypeInfo) (z : Value) (size bytes : Nat) (ht : P.underlying t = some (.slice e)) (hi : P.info? e = some i) (hz : i.zero = some z)
    (hsize : i.size = size) (hby : i.bytes = bytes) (hzs : z.cells.size = size) (hsz : 0 < size)
    (v : Value) (n : Nat) (xs : List Value) (hs : a.eval s = v) (hown : w.ownsRow base e size v n xs)
    (ad : Addr) (m c : Nat) (news : List Value) (hx : a.eval x = .slice (some ad) m c) (hl : news.length = m * size) (hnews : ∀ j u, news[j]? = some u → w.cell? (ad.add j) = some u) (h1 : ∀ u ∈ news, u.oneCell' = true)
    (h63 : n + m ≤ maxLen) (hbytes : (n + m) * bytes ≤ 140737488355328) (hbase : base ≤ w.heap.size)
    (h : ∀ v' w', w'.ownsRow base e size v' (n + m) (xs ++ news) → w.grownBy w' v.ownBlock → (v'.ownBlock = v.ownBlock ∨ ∀ g, v'.ownBlock = some g → w.heap.size ≤ g) → wpList P ops Q rest (a.put o.dst v') w') : wpList P ops Q (o :: rest) a w := by
  refine wpList_plain hgd fun _ hK => ?_
  obtain ⟨v', w', hr, h2, h3, h4⟩ := run_append_own2 (P := P) w base t o.type e i z size bytes ht hi hz hsize hby hzs hsz v n xs hown ad m c news hl hnews h1 h63 hbytes hbase
  unfold Oper.wp execOp
  simp only [ho, resolve, invoke, builtin, Sem.run_bind, Sem.run_pure, Result.andThen_ok, List.map_toArray, List.map_cons, List.map_nil, hs, hx, hr]
  exact hK _ _ (h v' w' h2 h3 h4)

/-- The bytes of a file while they grow and are written: everything else of the list stays. -/
structure Edit (w1 wr : World) (base : Nat) (v0 v : Value) (l : List Int) : Prop where
  row : wr.ownsRow base 5 1 v l.length (u8s l)
  grown : w1.grownBy wr v0.ownBlock
  at_ : v.ownBlock = v0.ownBlock ∨ ∀ g, v.ownBlock = some g → w1.heap.size ≤ g

theorem Edit.start {w1 : World} {base : Nat} {v0 : Value} {l : List Int} (h : w1.ownsRow base 5 1 v0 l.length (u8s l)) : Edit w1 w1 base v0 v0 l :=
  ⟨h, ⟨rfl, rfl, rfl, Nat.le_refl _, fun _ _ _ => rfl⟩, .inl rfl⟩
theorem Edit.app {w1 wr w2 w3 : World} {base : Nat} {v0 v v' : Value} {l : List Int} {o : Obj} {l' : List Int} (h : Edit w1 wr base v0 v l) (hgr : w2.grownBy w3 v.ownBlock) (e1 : w2.os = wr.os) (e2 : w2.tape = wr.tape) (e3 : w2.output = wr.output) (e4 : w2.heap = wr.heap.push o)
    (hrow : w3.ownsRow base 5 1 v' l'.length (u8s l')) (hat : v'.ownBlock = v.ownBlock ∨ ∀ g, v'.ownBlock = some g → w2.heap.size ≤ g) : Edit w1 w3 base v0 v' l' := by
  have hB := below_alloc' e1 e2 e3 e4
  refine ⟨hrow, ⟨hgr.os.trans (e1.trans h.grown.os), hgr.tape.trans (e2.trans h.grown.tape), hgr.output.trans (e3.trans h.grown.output), Nat.le_trans h.grown.size (Nat.le_trans hB.size hgr.size), fun k hk hne => ?_⟩, ?_⟩
  · have hkr : k < wr.heap.size := Nat.lt_of_lt_of_le hk h.grown.size
    rw [hgr.block k (Nat.lt_of_lt_of_le hkr hB.size) (fun e => ?_), hB.block k hkr, h.grown.block k hk hne]
    rcases h.at_ with h1 | h1
    · exact hne (e.trans h1)
    · have := h1 k e.symm; omega
  · rcases hat with h1 | h1
    · rcases h.at_ with h2 | h2
      · exact .inl (h1.trans h2)
      · exact .inr fun g hg => h2 g (h1 ▸ hg)
    · exact .inr fun g hg => Nat.le_trans h.grown.size (Nat.le_trans hB.size (h1 g hg))
theorem u8s_set (l : List Int) (j : Nat) (x : Int) : (u8s l).set j (.int .u8 x) = u8s (l.set j x) := by simp [u8s, List.map_set]
theorem Edit.put {w1 wr : World} {base g n c : Nat} {v0 : Value} {l : List Int} (h : Edit w1 wr base v0 (.slice (some ⟨g, 0, none⟩) n c) l) (hl : l.length = n) (j : Nat) (x : Int) :
    Edit w1 (wr.setCell ⟨g, j, none⟩ (.int .u8 x)) base v0 (.slice (some ⟨g, 0, none⟩) n c) (l.set j x) := by
  have hr := h.row
  rw [hl] at hr
  obtain ⟨h1, h2⟩ := hr.stored j (.int .u8 x)
  refine ⟨by rw [← u8s_set]; simpa [hl] using h1, ⟨h2.os.trans h.grown.os, h2.tape.trans h.grown.tape, h2.output.trans h.grown.output, Nat.le_trans h.grown.size h2.size, fun k hk hne => ?_⟩, h.at_⟩
  rw [h2.block k (Nat.lt_of_lt_of_le hk h.grown.size) (fun e => ?_), h.grown.block k hk hne]
  rcases h.at_ with h3 | h3
  · exact hne (by rw [← h3, e]; rfl)
  · have := h3 g rfl
    simp at e; omega
theorem Edit.below {w1 wr : World} {base : Nat} {v0 v : Value} {l : List Int} (h : Edit w1 wr base v0 v l) (hb : base ≤ w1.heap.size) (h0 : ∀ g, v0.ownBlock = some g → base ≤ g) : Below base w1 wr :=
  (Below.refl _ _).grown h.grown hb h0
end Go.Proofs.YtnpndbicmamggaaGreat
namespace Go.Proofs.YtnpndbicmamggaaGreat
open Go.RowKit
set_option linter.unusedVariables false
set_option maxRecDepth 100000

theorem getD_ins {α : Type} (l : List α) (x d : α) (p j : Nat) (hp : p ≤ l.length) : (l.take p ++ x :: l.drop p).getD j d = if j < p then l.getD j d else if j = p then x else l.getD (j - 1) d := by
  simp only [List.getD]
  by_cases h1 : j < p
  · rw [if_pos h1, List.getElem?_append_left (by simp; omega), List.getElem?_take, if_pos h1]
  · rw [if_neg h1, List.getElem?_append_right (by simp; omega)]
    by_cases h2 : j = p
    · subst h2; simp [Nat.min_eq_left hp]
    · rw [if_neg h2]
      have : j - (l.take p).length = (j - 1 - p) + 1 := by simp [Nat.min_eq_left hp]; omega
      rw [this, List.getElem?_cons_succ, List.getElem?_drop]
      congr 2; omega
theorem cells_ins (xs : List Value) (s u : Value) (n p : Nat) (hx : xs.length = n * 2) (hp : p ≤ n) (j : Nat) :
    (xs.take (p * 2) ++ [s, u] ++ xs.drop (p * 2))[j * 2]? = (if j < p then xs[j * 2]? else if j = p then some s else xs[(j - 1) * 2]?) ∧
    (xs.take (p * 2) ++ [s, u] ++ xs.drop (p * 2))[j * 2 + 1]? = (if j < p then xs[j * 2 + 1]? else if j = p then some u else xs[(j - 1) * 2 + 1]?) := by
  have hl : (xs.take (p * 2)).length = p * 2 := by simp; omega
  by_cases h1 : j < p
  · rw [if_pos h1, if_pos h1, List.append_assoc, List.getElem?_append_left (by omega), List.getElem?_append_left (by omega), List.getElem?_take, List.getElem?_take, if_pos (by omega), if_pos (by omega)]
    exact ⟨rfl, rfl⟩
  · have key : ∀ q, p * 2 ≤ q → (xs.take (p * 2) ++ [s, u] ++ xs.drop (p * 2))[q]? = ([s, u] ++ xs.drop (p * 2))[q - p * 2]? := by
      intro q hq
      rw [List.append_assoc, List.getElem?_append_right (by omega), hl]
    rw [if_neg h1, if_neg h1, key _ (by omega), key _ (by omega)]
    by_cases h2 : j = p
    · subst h2
      rw [if_pos rfl, if_pos rfl, show j * 2 - j * 2 = 0 by omega, show j * 2 + 1 - j * 2 = 1 by omega]
      exact ⟨rfl, rfl⟩
    · have k2 : ∀ q, 2 ≤ q → ([s, u] ++ xs.drop (p * 2))[q]? = xs[p * 2 + (q - 2)]? := by
        intro q hq
        rw [List.getElem?_append_right (by simpa using hq), List.getElem?_drop]; simp
      rw [if_neg h2, if_neg h2, k2 _ (by omega), k2 _ (by omega)]
      exact ⟨by congr 1; omega, by congr 1; omega⟩

theorem OwnF.apart2 {w : World} {base : Nat} {v : Value} {fs : List PF} {xs vs : List Value} (h : OwnF w base v fs xs vs) {i j g : Nat} (hij : i ≠ j) (hi : i < fs.length) (hj : j < fs.length) (hg : (vs.getD i (.slice none 0 0)).ownBlock = some g) : (vs.getD j (.slice none 0 0)).ownBlock ≠ some g := by
  by_cases hlt : i < j
  · exact h.apart i j hlt hj g hg
  · intro e
    exact h.apart j i (by omega) hi g e hg

/-- A file more, in its place: it has no bytes yet. -/
theorem OwnF.insert {w w' : World} {base B' : Nat} {v v' : Value} {fs : List PF} {xs vs : List Value} {nm : ByteArray} {p : Nat} (h : OwnF w base v fs xs vs) (hb : Below w.heap.size w w') (hp : p ≤ fs.length) (hB : base ≤ B') (hs : nm.size ≤ maxLen)
    (hrow : w'.ownsRow B' 71 2 v' (fs.length + 1) (xs.take (p * 2) ++ [.string nm, .slice none 0 0] ++ xs.drop (p * 2))) :
    OwnF w' base v' (fs.take p ++ (nm, []) :: fs.drop p) (xs.take (p * 2) ++ [.string nm, .slice none 0 0] ++ xs.drop (p * 2)) (vs.take p ++ .slice none 0 0 :: vs.drop p) := by
  have h1 := h.below hb
  have hvl := h.len
  have hfl : (fs.take p ++ (nm, []) :: fs.drop p).length = fs.length + 1 := by simp; omega
  have hx := h.row.1
  refine ⟨by rw [hfl]; exact own_lower hrow hB, by rw [hfl]; simp; omega, ?_, ?_, ?_, ?_, ?_⟩
  · intro j hj
    rw [hfl] at hj
    rw [getD_ins _ _ _ _ _ hp, (cells_ins xs _ _ fs.length p hx hp j).1]
    split
    · exact h.name j (by omega)
    · split
      · exact ⟨rfl, hs⟩
      · exact h.name (j - 1) (by omega)
  · intro j hj
    rw [hfl] at hj
    rw [getD_ins _ _ _ _ _ (by omega), (cells_ins xs _ _ fs.length p hx hp j).2]
    split
    · exact h.val j (by omega)
    · split
      · rfl
      · exact h.val (j - 1) (by omega)
  · intro j hj
    rw [hfl] at hj
    rw [getD_ins _ _ _ _ _ hp, getD_ins _ _ _ _ _ (by omega)]
    split
    · exact h1.data j (by omega)
    · split
      · exact World.ownsRow_nil _ _ _ _
      · exact h1.data (j - 1) (by omega)
  · intro j hj
    rw [hfl] at hj
    rw [getD_ins _ _ _ _ _ hp]
    split
    · exact h.byte j (by omega)
    · split
      · intro x hx; cases hx
      · exact h.byte (j - 1) (by omega)
  · intro i j hij hj g hg
    rw [hfl] at hj
    rw [getD_ins _ _ _ _ _ (by omega)] at hg ⊢
    split at hg
    · split
      · exact h.apart2 (by omega) (by omega) (by omega) hg
      · split
        · simp [Value.ownBlock]
        · exact h.apart2 (by omega) (by omega) (by omega) hg
    · split at hg
      · simp [Value.ownBlock] at hg
      · rw [if_neg (by omega), if_neg (by omega)]
        exact h.apart2 (by omega) (by omega) (by omega) hg

theorem getD_set {α : Type} (l : List α) (x d : α) (i j : Nat) (hi : i < l.length) : (l.set i x).getD j d = if j = i then x else l.getD j d := by
  simp only [List.getD]
  by_cases h : j = i
  · subst h; rw [if_pos rfl, List.getElem?_set_self hi]; rfl
  · rw [if_neg h, List.getElem?_set_ne (by omega)]

/-- One file's bytes are new, and their slice is stored back. -/
theorem OwnF.edit {w1 wr : World} {base g n c i : Nat} {bv : Value} {fs : List PF} {xs vs : List Value} {l : List Int} (h : OwnF w1 base (.slice (some ⟨g, 0, none⟩) n c) fs xs vs) (hi : i < fs.length) (he : Edit w1 wr base (vs.getD i (.slice none 0 0)) bv l) (hl : ∀ x ∈ l, 0 ≤ x ∧ x ≤ 255) :
    OwnF (wr.setCell ⟨g, i * 2 + 1, none⟩ bv) base (.slice (some ⟨g, 0, none⟩) n c) (fs.set i ((fs.getD i (ByteArray.empty, [])).1, l)) (xs.set (i * 2 + 1) bv) (vs.set i bv) := by
  have hvl := h.len
  have hx := h.row.1
  have hrow0 := h.row
  obtain ⟨hn, hrow⟩ : fs.length = n ∧ wr.ownsRow base 71 2 (.slice (some ⟨g, 0, none⟩) n c) fs.length xs := by
    have hk := h.row.kept he.grown (by
      rcases own_ne h.row (h.data i hi) with h1 | h1
      · exact .inr (by rw [h1]; simp [Value.ownBlock])
      · exact .inr (Ne.symm h1))
    refine ⟨?_, hk⟩
    rcases hk.2 with ⟨h', _⟩ | ⟨g', cap', cur, h', _⟩
    · simp at h'
    · simp at h'; omega
  subst hn
  obtain ⟨hst, hsg⟩ := hrow.stored (i * 2 + 1) bv
  have hne : ∀ {b2 m : Nat} {u : Value} {ys : List Value}, wr.ownsRow b2 5 1 u m ys → (wr.setCell ⟨g, i * 2 + 1, none⟩ bv).ownsRow b2 5 1 u m ys := fun hk => hk.kept hsg (own_ne hrow hk)
  refine ⟨by simpa using hst, by simp [hvl], ?_, ?_, ?_, ?_, ?_⟩
  · intro j hj
    simp at hj
    rw [getD_set _ _ _ _ _ hi, List.getElem?_set_ne (by omega)]
    split
    · rename_i e; subst e; exact h.name j hj
    · exact h.name j hj
  · intro j hj
    simp at hj
    rw [getD_set _ _ _ _ _ (by omega)]
    split
    · rename_i e; subst e; rw [List.getElem?_set_self (by omega)]
    · rw [List.getElem?_set_ne (by omega)]; exact h.val j hj
  · intro j hj
    simp at hj
    rw [getD_set _ _ _ _ _ hi, getD_set _ _ _ _ _ (by omega)]
    split
    · exact hne he.row
    · rename_i e
      refine hne ((h.data j hj).kept he.grown ?_)
      cases hb : (vs.getD j (.slice none 0 0)).ownBlock
      · exact .inl rfl
      · rename_i k
        exact .inr (fun e2 => h.apart2 (i := j) (j := i) (by omega) hj hi hb e2.symm)
  · intro j hj
    simp at hj
    rw [getD_set _ _ _ _ _ hi]
    split
    · exact hl
    · exact h.byte j hj
  · intro a b hab hb k hk
    simp at hb
    rw [getD_set _ _ _ _ _ (by omega)] at hk ⊢
    split at hk
    · rename_i e; subst e
      rw [if_neg (by omega)]
      rcases he.at_ with h1 | h1
      · exact h.apart2 (by omega) hi (by omega) (h1 ▸ hk)
      · intro e2
        have := ((h.data b (by omega)).lt k e2).2
        have := h1 k hk
        omega
    · rename_i e
      split
      · rename_i e3; subst e3
        intro e2
        rcases he.at_ with h1 | h1
        · exact h.apart2 (i := a) (j := b) (by omega) (by omega) (by omega) hk (h1 ▸ e2)
        · have := ((h.data a (by omega)).lt k hk).2
          have := h1 k e2
          omega
      · exact h.apart2 (by omega) (by omega) (by omega) hk
end Go.Proofs.YtnpndbicmamggaaGreat
namespace Go.Proofs.YtnpndbicmamggaaGreat
open Go.RowKit
set_option linter.unusedVariables false
set_option maxRecDepth 100000

/-- Zeros up to a length. -/
def extZ (l : List Int) (z : Nat) : List Int := l ++ List.replicate z 0
theorem extZ_snoc (l : List Int) (z : Nat) : extZ l (z + 1) = extZ l z ++ [0] := by simp [extZ, List.replicate_succ']
theorem extZ_len (l : List Int) (z : Nat) : (extZ l z).length = l.length + z := by simp [extZ]
/-- The first k bytes of a write. -/
def overTo (l : List Int) (off : Nat) (bs : List Int) : Nat → List Int
  | 0 => l
  | k + 1 => (overTo l off bs k).set (off + k) (bs.getD k 0)
theorem overTo_len (l : List Int) (off : Nat) (bs : List Int) (k : Nat) : (overTo l off bs k).length = l.length := by
  induction k with
  | zero => rfl
  | succ k ih => simp [overTo, ih]
theorem overTo_byte (l : List Int) (off : Nat) (bs : List Int) (k : Nat) (hl : ∀ x ∈ l, 0 ≤ x ∧ x ≤ 255) (hb : ∀ x ∈ bs, 0 ≤ x ∧ x ≤ 255) : ∀ x ∈ overTo l off bs k, 0 ≤ x ∧ x ≤ 255 := by
  induction k with
  | zero => exact hl
  | succ k ih =>
    intro x hx
    rcases List.mem_or_eq_of_mem_set hx with h | h
    · exact ih x h
    · subst h
      by_cases hk : k < bs.length
      · refine hb _ ?_
        simp [List.getD, List.getElem?_eq_getElem hk]
      · simp [List.getD, List.getElem?_eq_none (Nat.le_of_not_lt hk)]
theorem extZ_byte (l : List Int) (z : Nat) (hl : ∀ x ∈ l, 0 ≤ x ∧ x ≤ 255) : ∀ x ∈ extZ l z, 0 ≤ x ∧ x ≤ 255 := by
  intro x hx
  simp [extZ] at hx
  rcases hx with h | ⟨_, h⟩
  · exact hl x h
  · subst h; simp
/-- A file's bytes behind a write of bs to page pg. -/
def doData (l : List Int) (pg : Nat) (bs : List Int) : List Int := overTo (extZ l ((pg + 1) * 128 - l.length)) (pg * 128) bs bs.length
def insN (fs : List PF) (nm : ByteArray) : Nat := fs.findIdx (fun f => gtB f.1 nm)
def withName (fs : List PF) (nm : ByteArray) : List PF := if findN fs nm < fs.length then fs else fs.take (insN fs nm) ++ (nm, []) :: fs.drop (insN fs nm)
def doP (fs : List PF) (nm : ByteArray) (pg : Nat) (bs : List Int) : List PF :=
  (withName fs nm).set (findN (withName fs nm) nm) (nm, doData ((withName fs nm).getD (findN (withName fs nm) nm) (ByteArray.empty, [])).2 pg bs)
theorem insPos_eq {fs : List PF} {nm : ByteArray} {p : Nat} (h : insPos fs.length (fun i => (fs.getD i (ByteArray.empty, [])).1) nm p) : p = insN fs nm := by
  obtain ⟨h1, h2, h3⟩ := h
  unfold insN
  by_cases hp : p < fs.length
  · symm
    rw [List.findIdx_eq hp]
    refine ⟨by simpa [List.getD, List.getElem?_eq_getElem hp] using h3 hp, fun j hj => ?_⟩
    simpa [List.getD, List.getElem?_eq_getElem (show j < fs.length by omega)] using h2 j hj
  · obtain rfl : p = fs.length := by omega
    symm
    rw [List.findIdx_eq_length]
    intro x hx
    obtain ⟨j, hj, rfl⟩ := List.getElem_of_mem hx
    simpa [List.getD, List.getElem?_eq_getElem hj] using h2 j hj
theorem findN_name {fs : List PF} {nm : ByteArray} (h : findN fs nm < fs.length) : (fs.getD (findN fs nm) (ByteArray.empty, [])).1 = nm := by
  unfold findN at h ⊢
  have h2 := List.findIdx_getElem (w := h)
  simpa [List.getD, List.getElem?_eq_getElem h] using h2
theorem findN_with (fs : List PF) (nm : ByteArray) : findN (withName fs nm) nm < (withName fs nm).length := by
  unfold withName
  split
  · assumption
  · unfold findN
    rw [List.findIdx_lt_length]
    exact ⟨(nm, []), by simp, by simp⟩
theorem OwnF.rowF {w : World} {base : Nat} {a : Option Addr} {n c : Nat} {fs : List PF} {xs vs : List Value} (h : OwnF w base (.slice a n c) fs xs vs) : n = fs.length ∧ RowF w w.heap.size a n c xs (fun i => (fs.getD i (ByteArray.empty, [])).1) ∧ FilesAt w base w.heap.size a n c fs := by
  obtain ⟨a', n', c', e, hn, hF⟩ := h.files
  injection e with e1 e2 e3
  subst e1 e2 e3 hn
  refine ⟨rfl, ⟨h.row.1, hF.2.1, hF.2.2.1, fun i hi => ?_, fun h0 => ?_⟩, hF⟩
  · obtain ⟨b', n', c', e, _⟩ := bytesAt_of_own (h.data i hi) (h.byte i hi)
    exact ⟨(h.name i hi).1, b', n', c', by rw [h.val i hi, e]⟩
  · rcases h.row.2 with ⟨e, hn⟩ | ⟨g, cap, cur, e, _⟩
    · omega
    · injection e with e1 e2 e3
      subst e1 e3
      exact ⟨g, 0, rfl, (h.row.lt g rfl).2, fun j hj => by rw [Nat.zero_add, h.row.cellAt j hj]⟩
def lenV : Value → Nat | .slice _ n _ => n | _ => 0
theorem own_shape2 {w : World} {base e size : Nat} {v : Value} {n : Nat} {xs : List Value} (h : w.ownsRow base e size v n xs) : ∃ a n' c, v = .slice a n' c ∧ n' = n := by
  obtain ⟨a, c, e⟩ := own_shape h
  exact ⟨a, n, c, e, rfl⟩
def DoRes (w w' : World) (base : Nat) (v' : Value) (fs : List PF) : Prop := ∃ xs vs, OwnF w' base v' fs xs vs ∧ Below base w w'

set_option maxHeartbeats 1000000 in
theorem l1Do_any (a : Option Addr) (n c : Nat) (fs : List PF) (xs vs : List Value) (nm : ByteArray) (pg : Nat) (da : Option Addr) (dn dc : Nat) (bs : List Int) (w : World) (base A B : Nat) (hbase : base ≤ w.heap.size) (hO : OwnF w base (.slice a n c) fs xs vs)
    (hB : B ≤ base) (hD : BytesAt w A B da dn dc bs) (hdn : dn ≤ 128) (hs : nm.size ≤ maxLen) (hn : fs.length ≤ 1048576) (hpg : pg ≤ 1048576) (hall : ∀ j, j < fs.length → (fs.getD j (ByteArray.empty, [])).2.length ≤ 1073741824) :
    Calls Tryz.prog 47 #[.slice a n c, .string nm, .int .i64 pg, .slice da dn dc] w fun e w' => ∃ v', e = .returned v' ∧ DoRes w w' base v' (doP fs nm pg bs) := by
  obtain ⟨hnf, hR, hF⟩ := hO.rowF
  subst hnf
  obtain ⟨i0, hi, hz0, hz1, hz2⟩ := info_parts info_u8
  go_enter Tryz.func47, Tryz.ntmps47
  go_wp2_with fail
  refine (l1Find_any _ _ _ fs nm _ base _ hF).mono ?_
  rintro e w1 ⟨rfl, rfl⟩
  rcases findI_cases fs nm with ⟨e1, e2⟩ | ⟨e1, e2⟩
  · rw [e1]
    go_wp2_with fail
    refine (l1Insert_any _ _ _ xs _ nm none 0 0 _ _ (Nat.le_refl _) hR hn).mono ?_
    rintro e w2 ⟨v', rfl, p, hpos, hrow, hb⟩
    obtain ⟨a1, n1, c1, rfl, hn1⟩ := own_shape2 hrow
    have hp := insPos_eq hpos
    have O1 := hO.insert hb hpos.1 hbase hs hrow
    have hW : withName fs nm = fs.take p ++ (nm, []) :: fs.drop p := by unfold withName; rw [if_neg (by omega), hp]
    have hfind := findN_with fs nm
    have hall1 : ∀ j, j < (withName fs nm).length → ((withName fs nm).getD j (ByteArray.empty, [])).2.length ≤ 1073741824 := by
      intro j hj
      rw [hW] at hj ⊢
      rw [getD_ins _ _ _ _ _ hpos.1]
      simp at hj
      have := hpos.1
      split
      · exact hall j (by omega)
      · split
        · simp
        · exact hall (j - 1) (by omega)
    have hlen1 : (withName fs nm).length ≤ 1048577 := by rw [hW]; simp; omega
    rw [← hW] at O1
    obtain ⟨fs1, hfs1⟩ : ∃ fs1, fs1 = withName fs nm := ⟨_, rfl⟩
    rw [← hfs1] at O1 hfind hall1 hlen1
    have HW : Hid (fs1 = withName fs nm) := hfs1
    generalize fs.take p ++ (nm, []) :: fs.drop p = dummy at hW
    generalize xs.take (p * 2) ++ [.string nm, .slice none 0 0] ++ xs.drop (p * 2) = xs1 at O1
    generalize vs.take p ++ .slice none 0 0 :: vs.drop p = vs1 at O1
    have hbel1 := hb.mono hbase
    have hD1 := hD.below (hbel1.mono hB)
    clear hW hfs1 hrow hpos hp hR hF hO hall e1 e2 hb hD hn1
    obtain ⟨hn1, _, hF1⟩ := O1.rowF
    have HN1 : Hid (n1 = fs1.length) := hn1
    clear hn1
    go_wp2_with fail
    refine (l1Find_any _ _ _ fs1 nm _ base _ hF1).mono ?_
    rintro e w3 ⟨rfl, rfl⟩
    have hfi : findI fs1 nm = (findN fs1 nm : Int) := by unfold findI; rw [if_pos hfind]
    rw [hfi]
    have HNM : Hid ((fs1.getD (findN fs1 nm) (ByteArray.empty, [])).1 = nm) := findN_name hfind
    clear hfi hF1
    obtain ⟨i, hi'⟩ : ∃ i, i = findN fs1 nm := ⟨_, rfl⟩
    rw [← hi'] at hfind HNM ⊢
    have HI : Hid (i = findN fs1 nm) := hi'
    clear hi'
    have hin : i < n1 := by rw [HN1.out]; exact hfind
    obtain ⟨g, rfl⟩ : ∃ g, a1 = some ⟨g, 0, none⟩ := by
      rcases O1.row.2 with ⟨_, h0⟩ | ⟨g, cap, cur, h0, _⟩
      · omega
      · injection h0 with h1; exact ⟨g, h1⟩
    obtain ⟨l, hl⟩ : ∃ l, l = (fs1.getD i (ByteArray.empty, [])).2 := ⟨_, rfl⟩
    have hlb := O1.byte i hfind
    have hld := O1.data i hfind
    have hll := hall1 i hfind
    rw [← hl] at hlb hld hll
    obtain ⟨ba, bn, bc, hbv, hbl, _⟩ := bytesAt_of_own hld hlb
    have hv1 := O1.val i hfind
    have hrow1 : w3.ownsRow base 71 2 (.slice (some ⟨g, 0, none⟩) n1 c1) n1 xs1 := by have := O1.row; rw [← HN1.out] at this; exact this
    have cv : w3.cell? ⟨g, i * 2 + 1, none⟩ = some (.slice ba bn bc) := by rw [hrow1.cellAt (i * 2 + 1) (by omega), hv1, hbv]
    have E0 := Edit.start hld
    obtain ⟨v0, hv0⟩ : ∃ v0, v0 = vs1.getD i (.slice none 0 0) := ⟨_, rfl⟩
    rw [← hv0] at E0
    have E1 : Edit w3 w3 base v0 (.slice ba bn bc) l := by rw [← hbv, ← hv0]; exact E0
    have HV0 : Hid (v0 = vs1.getD i (.slice none 0 0)) := hv0
    have HL : Hid (l = (fs1.getD i (ByteArray.empty, [])).2) := hl
    subst hbl
    clear hv0 hl hbv hv1 hld E0
    have hv0b : ∀ q, v0.ownBlock = some q → base ≤ q := by
      intro q hq; rw [HV0.out] at hq; exact ((O1.data i hfind).lt q hq).1
    have hb3 := hbel1.size
    have hbase3 : base ≤ w3.heap.size := by omega
    have hgl := (hrow1.lt g rfl).2
    have hgne : some g ≠ v0.ownBlock := by
      have h1 := own_ne O1.row (O1.data i hfind)
      rw [← HV0.out] at h1
      rcases h1 with h1 | h1
      · rw [h1]; simp
      · exact fun e => h1 e.symm
    go_wp2
    go_loopw [10] (fun v wr => ∃ (z : Nat) (a' : Option Addr) (c' : Nat), v = .slice a' (l.length + z) c' ∧ (z = 0 ∨ l.length + z ≤ (pg + 1) * 128) ∧ Edit w3 wr base v0 (.slice a' (l.length + z) c') (extZ l z)) (fun v _ => (pg + 1) * 128 - lenV v)
    case atStart => exact ⟨0, _, _, rfl, .inl rfl, by simpa [extZ] using E1⟩
    case round =>
      obtain ⟨z, a', c', rfl, hz, hE⟩ := hrel
      have hrow := hE.row
      rw [extZ_len] at hrow
      have hsz := hE.grown.size
      by_cases hlt : l.length + z < (pg + 1) * 128
      · have ht : ((l.length + z : Nat) : Int) < ((pg : Int) + 1) * 128 := by omega
        go_wp2_with (at_builtin; refine wpList_append_own2 _ rfl _ _ 43 rfl base 5 i0 (.int .u8 0) 1 1 Tryz.underlying43 hi hz0 hz1 hz2 rfl (by decide) _ _ _ rfl (hrow.alloc _) ⟨wr.heap.size, 0, none⟩ 1 1 [.int .u8 0] rfl rfl (cell_one_new _ _ _) (by simp [Value.oneCell']) (by unfold maxLen; omega) (by omega) (by simp; omega) ?_; intro v' w4 hown' hgr hat)
        obtain ⟨a2, n2, c2, rfl, hn2⟩ := own_shape2 hown'
        have hE2 : Edit w3 w4 base v0 (.slice a2 (l.length + (z + 1)) c2) (extZ l (z + 1)) := by
          subst hn2
          refine hE.app (wr := wr) (o := .cells #[.int .u8 0] 5) hgr rfl rfl rfl rfl ?_ hat
          rw [extZ_snoc]
          simpa [u8s, extZ_len, Nat.add_assoc] using hown'
        have hn3 : n2 = l.length + (z + 1) := by omega
        subst hn3
        clear hown' hgr hat hE hrow
        go_wp2
        go_roundw
        case rel => exact ⟨z + 1, a2, c2, rfl, .inr (by omega), hE2⟩
        case measure => simp [lenV]; omega
      · have ht : ¬ ((l.length + z : Nat) : Int) < ((pg : Int) + 1) * 128 := by omega
        have HZ : Hid (z = (pg + 1) * 128 - l.length) := by show _ = _; omega
        obtain ⟨g2, rfl⟩ : ∃ g2, a' = some ⟨g2, 0, none⟩ := by
          rcases hrow.2 with ⟨_, h0⟩ | ⟨g2, cap, cur, h0, _⟩
          · omega
          · injection h0 with h1; exact ⟨g2, h1⟩
        obtain ⟨m, hm⟩ : ∃ m, m = l.length + z := ⟨_, rfl⟩
        rw [← hm] at hE hrow ht hlt ⊢
        have hmb : m ≤ 1073741824 + 134217856 := by omega
        have hLn := extZ_len l z
        rw [← hm] at hLn
        clear hm hz
        go_wp2
        go_loopw [11] (fun kv wr => ∃ k : Nat, k ≤ dn ∧ kv = .int .i64 k ∧ Edit w3 wr base v0 (.slice (some ⟨g2, 0, none⟩) m c') (overTo (extZ l z) (pg * 128) bs k)) (fun kv _ => dn - (intOf kv).toNat)
        case atStart => exact ⟨0, Nat.zero_le _, rfl, hE⟩
        case round =>
          clear hE hrow
          obtain ⟨k, hk, rfl, hE⟩ := hrel
          have hol := overTo_len (extZ l z) (pg * 128) bs k
          rw [hLn] at hol
          have hrow := hE.row
          rw [hol] at hrow
          have hbw : Below base w3 wr := hE.below hbase3 hv0b
          by_cases hkn : k < dn
          · obtain ⟨db, doff, rfl, hdb, hdc⟩ := (hD1.below (hbw.mono hB)).2.2.2.2.1 (by omega)
            have d1 := hdc k hkn
            have hf := hrow.frozenAt (pg * 128 + k)
            obtain ⟨u, hu⟩ : ∃ u, wr.cell? ⟨g2, pg * 128 + k, none⟩ = some u := ⟨_, by rw [hrow.cellAt (pg * 128 + k) (by omega)]; exact List.getElem?_eq_getElem (by have := hrow.1; omega)⟩
            have R := hE.put hol (pg * 128 + k) (bs.getD k 0)
            have HR : Hid (Edit w3 (wr.setCell ⟨g2, pg * 128 + k, none⟩ (.int .u8 (bs.getD k 0))) base v0 (.slice (some ⟨g2, 0, none⟩) m c') (overTo (extZ l z) (pg * 128) bs (k + 1))) := R
            generalize bs.getD k 0 = x at d1 HR
            clear R hE hrow hdc
            go_wp2
            go_roundw
            case rel => exact ⟨k + 1, by omega, by go_num, HR.out⟩
            case measure => simp [intOf]; omega
          · have hgg : wr.heap[g]? = w3.heap[g]? := hE.grown.block g hgl hgne
            have kc1 : wr.cell? ⟨g, i * 2 + 1, none⟩ = some (.slice ba l.length bc) := (World.cell?_of_block (w := w3) (a := ⟨g, i * 2 + 1, none⟩) hgg).trans cv
            have f1' : wr.frozen? ⟨g, i * 2 + 1, none⟩ = false := (World.frozen?_of_block (w := w3) (a := ⟨g, i * 2 + 1, none⟩) hgg).trans (hrow1.frozenAt _)
            have R := OwnF.edit O1 hfind (by rw [← HV0.out]; exact hE) (overTo_byte _ _ _ _ (extZ_byte _ _ hlb) hD1.2.2.2.1)
            have HR : Hid (DoRes w1 (wr.setCell ⟨g, i * 2 + 1, none⟩ (.slice (some ⟨g2, 0, none⟩) m c')) base (.slice (some ⟨g, 0, none⟩) n1 c1) (doP fs nm pg bs)) := by
              refine ⟨xs1.set (i * 2 + 1) (.slice (some ⟨g2, 0, none⟩) m c'), vs1.set i (.slice (some ⟨g2, 0, none⟩) m c'), ?_, (hbel1.trans hbw).setCell (hrow1.lt g rfl).1 _⟩
              have e1 : doP fs nm pg bs = fs1.set i ((fs1.getD i (ByteArray.empty, [])).1, overTo (extZ l z) (pg * 128) bs k) := by
                unfold doP doData
                rw [← HW.out, ← HI.out, ← HL.out, HNM.out, ← HZ.out, hD1.1, show k = dn by omega]
              rw [e1]
              exact R
            clear R hE hrow hgg
            go_wp2
            go_ret
            exact ⟨_, rfl, HR.out⟩
  · rw [e1]
    have hW : withName fs nm = fs := by unfold withName; rw [if_pos e2]
    have hfind := e2
    obtain ⟨n1, hn1⟩ : ∃ n1, n1 = fs.length := ⟨_, rfl⟩
    obtain ⟨fs1, hfs1⟩ : ∃ fs1, fs1 = fs := ⟨_, rfl⟩
    have O1 := hO
    have hall1 := hall
    rw [← hn1] at O1 ⊢
    rw [← hfs1] at O1 hfind hall1
    have HW : Hid (fs1 = withName fs nm) := by show _ = _; rw [hW]; exact hfs1
    have hlen1 : fs1.length ≤ 1048577 := by rw [hfs1]; omega
    have hbel1 : Below base w1 w1 := Below.refl _ _
    have hD1 := hD
    clear hW hfs1 hR hF hO hall e1 e2 hD hn1
    obtain ⟨hn1, _, hF1⟩ := O1.rowF
    have HN1 : Hid (n1 = fs1.length) := hn1
    clear hn1
    go_wp2_with fail
    refine (l1Find_any _ _ _ fs1 nm _ base _ hF1).mono ?_
    rintro e w3 ⟨rfl, rfl⟩
    have hfi : findI fs1 nm = (findN fs1 nm : Int) := by unfold findI; rw [if_pos hfind]
    rw [hfi]
    have HNM : Hid ((fs1.getD (findN fs1 nm) (ByteArray.empty, [])).1 = nm) := findN_name hfind
    clear hfi hF1
    obtain ⟨i, hi'⟩ : ∃ i, i = findN fs1 nm := ⟨_, rfl⟩
    rw [← hi'] at hfind HNM ⊢
    have HI : Hid (i = findN fs1 nm) := hi'
    clear hi'
    have hin : i < n1 := by rw [HN1.out]; exact hfind
    obtain ⟨g, rfl⟩ : ∃ g, a = some ⟨g, 0, none⟩ := by
      rcases O1.row.2 with ⟨_, h0⟩ | ⟨g, cap, cur, h0, _⟩
      · omega
      · injection h0 with h1; exact ⟨g, h1⟩
    obtain ⟨l, hl⟩ : ∃ l, l = (fs1.getD i (ByteArray.empty, [])).2 := ⟨_, rfl⟩
    have hlb := O1.byte i hfind
    have hld := O1.data i hfind
    have hll := hall1 i hfind
    rw [← hl] at hlb hld hll
    obtain ⟨ba, bn, bc, hbv, hbl, _⟩ := bytesAt_of_own hld hlb
    have hv1 := O1.val i hfind
    have hrow1 : w3.ownsRow base 71 2 (.slice (some ⟨g, 0, none⟩) n1 c) n1 xs := by have := O1.row; rw [← HN1.out] at this; exact this
    have cv : w3.cell? ⟨g, i * 2 + 1, none⟩ = some (.slice ba bn bc) := by rw [hrow1.cellAt (i * 2 + 1) (by omega), hv1, hbv]
    have E0 := Edit.start hld
    obtain ⟨v0, hv0⟩ : ∃ v0, v0 = vs.getD i (.slice none 0 0) := ⟨_, rfl⟩
    rw [← hv0] at E0
    have E1 : Edit w3 w3 base v0 (.slice ba bn bc) l := by rw [← hbv, ← hv0]; exact E0
    have HV0 : Hid (v0 = vs.getD i (.slice none 0 0)) := hv0
    have HL : Hid (l = (fs1.getD i (ByteArray.empty, [])).2) := hl
    subst hbl
    clear hv0 hl hbv hv1 hld E0
    have hv0b : ∀ q, v0.ownBlock = some q → base ≤ q := by
      intro q hq; rw [HV0.out] at hq; exact ((O1.data i hfind).lt q hq).1
    have hb3 := hbel1.size
    have hbase3 : base ≤ w3.heap.size := by omega
    have hgl := (hrow1.lt g rfl).2
    have hgne : some g ≠ v0.ownBlock := by
      have h1 := own_ne O1.row (O1.data i hfind)
      rw [← HV0.out] at h1
      rcases h1 with h1 | h1
      · rw [h1]; simp
      · exact fun e => h1 e.symm
    go_wp2
    go_loopw [10] (fun v wr => ∃ (z : Nat) (a' : Option Addr) (c' : Nat), v = .slice a' (l.length + z) c' ∧ (z = 0 ∨ l.length + z ≤ (pg + 1) * 128) ∧ Edit w3 wr base v0 (.slice a' (l.length + z) c') (extZ l z)) (fun v _ => (pg + 1) * 128 - lenV v)
    case atStart => exact ⟨0, _, _, rfl, .inl rfl, by simpa [extZ] using E1⟩
    case round =>
      obtain ⟨z, a', c', rfl, hz, hE⟩ := hrel
      have hrow := hE.row
      rw [extZ_len] at hrow
      have hsz := hE.grown.size
      by_cases hlt : l.length + z < (pg + 1) * 128
      · have ht : ((l.length + z : Nat) : Int) < ((pg : Int) + 1) * 128 := by omega
        go_wp2_with (at_builtin; refine wpList_append_own2 _ rfl _ _ 43 rfl base 5 i0 (.int .u8 0) 1 1 Tryz.underlying43 hi hz0 hz1 hz2 rfl (by decide) _ _ _ rfl (hrow.alloc _) ⟨wr.heap.size, 0, none⟩ 1 1 [.int .u8 0] rfl rfl (cell_one_new _ _ _) (by simp [Value.oneCell']) (by unfold maxLen; omega) (by omega) (by simp; omega) ?_; intro v' w4 hown' hgr hat)
        obtain ⟨a2, n2, c2, rfl, hn2⟩ := own_shape2 hown'
        have hE2 : Edit w3 w4 base v0 (.slice a2 (l.length + (z + 1)) c2) (extZ l (z + 1)) := by
          subst hn2
          refine hE.app (wr := wr) (o := .cells #[.int .u8 0] 5) hgr rfl rfl rfl rfl ?_ hat
          rw [extZ_snoc]
          simpa [u8s, extZ_len, Nat.add_assoc] using hown'
        have hn3 : n2 = l.length + (z + 1) := by omega
        subst hn3
        clear hown' hgr hat hE hrow
        go_wp2
        go_roundw
        case rel => exact ⟨z + 1, a2, c2, rfl, .inr (by omega), hE2⟩
        case measure => simp [lenV]; omega
      · have ht : ¬ ((l.length + z : Nat) : Int) < ((pg : Int) + 1) * 128 := by omega
        have HZ : Hid (z = (pg + 1) * 128 - l.length) := by show _ = _; omega
        obtain ⟨g2, rfl⟩ : ∃ g2, a' = some ⟨g2, 0, none⟩ := by
          rcases hrow.2 with ⟨_, h0⟩ | ⟨g2, cap, cur, h0, _⟩
          · omega
          · injection h0 with h1; exact ⟨g2, h1⟩
        obtain ⟨m, hm⟩ : ∃ m, m = l.length + z := ⟨_, rfl⟩
        rw [← hm] at hE hrow ht hlt ⊢
        have hmb : m ≤ 1073741824 + 134217856 := by omega
        have hLn := extZ_len l z
        rw [← hm] at hLn
        clear hm hz
        go_wp2
        go_loopw [11] (fun kv wr => ∃ k : Nat, k ≤ dn ∧ kv = .int .i64 k ∧ Edit w3 wr base v0 (.slice (some ⟨g2, 0, none⟩) m c') (overTo (extZ l z) (pg * 128) bs k)) (fun kv _ => dn - (intOf kv).toNat)
        case atStart => exact ⟨0, Nat.zero_le _, rfl, hE⟩
        case round =>
          clear hE hrow
          obtain ⟨k, hk, rfl, hE⟩ := hrel
          have hol := overTo_len (extZ l z) (pg * 128) bs k
          rw [hLn] at hol
          have hrow := hE.row
          rw [hol] at hrow
          have hbw : Below base w3 wr := hE.below hbase3 hv0b
          by_cases hkn : k < dn
          · obtain ⟨db, doff, rfl, hdb, hdc⟩ := (hD1.below (hbw.mono hB)).2.2.2.2.1 (by omega)
            have d1 := hdc k hkn
            have hf := hrow.frozenAt (pg * 128 + k)
            obtain ⟨u, hu⟩ : ∃ u, wr.cell? ⟨g2, pg * 128 + k, none⟩ = some u := ⟨_, by rw [hrow.cellAt (pg * 128 + k) (by omega)]; exact List.getElem?_eq_getElem (by have := hrow.1; omega)⟩
            have R := hE.put hol (pg * 128 + k) (bs.getD k 0)
            have HR : Hid (Edit w3 (wr.setCell ⟨g2, pg * 128 + k, none⟩ (.int .u8 (bs.getD k 0))) base v0 (.slice (some ⟨g2, 0, none⟩) m c') (overTo (extZ l z) (pg * 128) bs (k + 1))) := R
            generalize bs.getD k 0 = x at d1 HR
            clear R hE hrow hdc
            go_wp2
            go_roundw
            case rel => exact ⟨k + 1, by omega, by go_num, HR.out⟩
            case measure => simp [intOf]; omega
          · have hgg : wr.heap[g]? = w3.heap[g]? := hE.grown.block g hgl hgne
            have kc1 : wr.cell? ⟨g, i * 2 + 1, none⟩ = some (.slice ba l.length bc) := (World.cell?_of_block (w := w3) (a := ⟨g, i * 2 + 1, none⟩) hgg).trans cv
            have f1' : wr.frozen? ⟨g, i * 2 + 1, none⟩ = false := (World.frozen?_of_block (w := w3) (a := ⟨g, i * 2 + 1, none⟩) hgg).trans (hrow1.frozenAt _)
            have R := OwnF.edit O1 hfind (by rw [← HV0.out]; exact hE) (overTo_byte _ _ _ _ (extZ_byte _ _ hlb) hD1.2.2.2.1)
            have HR : Hid (DoRes w3 (wr.setCell ⟨g, i * 2 + 1, none⟩ (.slice (some ⟨g2, 0, none⟩) m c')) base (.slice (some ⟨g, 0, none⟩) n1 c) (doP fs nm pg bs)) := by
              refine ⟨xs.set (i * 2 + 1) (.slice (some ⟨g2, 0, none⟩) m c'), vs.set i (.slice (some ⟨g2, 0, none⟩) m c'), ?_, (hbel1.trans hbw).setCell (hrow1.lt g rfl).1 _⟩
              have e1 : doP fs nm pg bs = fs1.set i ((fs1.getD i (ByteArray.empty, [])).1, overTo (extZ l z) (pg * 128) bs k) := by
                unfold doP doData
                rw [← HW.out, ← HI.out, ← HL.out, HNM.out, ← HZ.out, hD1.1, show k = dn by omega]
              rw [e1]
              exact R
            clear R hE hrow hgg
            go_wp2
            go_ret
            exact ⟨_, rfl, HR.out⟩
end Go.Proofs.YtnpndbicmamggaaGreat
namespace Go.Proofs.YtnpndbicmamggaaGreat
open Go.RowKit
set_option linter.unusedVariables false
set_option maxRecDepth 100000

theorem totalI_small {fs : List PF} {K : Nat} (h : ∀ j, j < fs.length → (fs.getD j (ByteArray.empty, [])).2.length ≤ K) : totalI fs ≤ fs.length * K := by
  induction fs with
  | nil => simp [totalI]
  | cons x r ih =>
    have h0 := h 0 (by simp)
    have h1 := ih (fun j hj => by have := h (j + 1) (by simpa using hj); simpa using this)
    simp at h0
    simp only [totalI, List.length_cons]
    have : ((r.length + 1 : Nat) : Int) * (K : Int) = (r.length : Int) * K + K := by
      rw [Int.natCast_add, Int.add_mul]; simp
    rw [this]
    omega
theorem total_get {fs : List PF} {j : Nat} (hj : j < fs.length) : ((fs.getD j (ByteArray.empty, [])).2.length : Int) / 128 ≤ totalI fs := by
  induction fs generalizing j with
  | nil => simp at hj
  | cons x r ih =>
    cases j with
    | zero => have := (totalI_bd r).1; simp [totalI]; omega
    | succ j =>
      have := ih (j := j) (by simpa using hj)
      simp only [totalI, List.getD_cons_succ]
      omega
theorem lenI_le_total (fs : List PF) (nm : ByteArray) : 0 ≤ lenI fs nm ∧ lenI fs nm ≤ totalI fs := by
  unfold lenI
  split
  · rename_i h
    exact ⟨by omega, total_get h⟩
  · exact ⟨by omega, (totalI_bd fs).1⟩
theorem doData_len (l : List Int) (pg : Nat) (bs : List Int) : (doData l pg bs).length = max l.length ((pg + 1) * 128) := by
  unfold doData
  rw [overTo_len, extZ_len]
  omega
theorem withName_len (fs : List PF) (nm : ByteArray) : (withName fs nm).length = if findN fs nm < fs.length then fs.length else fs.length + 1 := by
  unfold withName
  split
  · rfl
  · have : insN fs nm ≤ fs.length := List.findIdx_le_length
    simp; omega
theorem doP_len (fs : List PF) (nm : ByteArray) (pg : Nat) (bs : List Int) : (doP fs nm pg bs).length = if findN fs nm < fs.length then fs.length else fs.length + 1 := by
  unfold doP
  rw [List.length_set, withName_len]
theorem doP_all {fs : List PF} {nm : ByteArray} {pg : Nat} {bs : List Int} {K : Nat} (h : ∀ j, j < fs.length → (fs.getD j (ByteArray.empty, [])).2.length ≤ K) (hp : (pg + 1) * 128 ≤ K) : ∀ j, j < (doP fs nm pg bs).length → ((doP fs nm pg bs).getD j (ByteArray.empty, [])).2.length ≤ K := by
  have hw : ∀ j, j < (withName fs nm).length → ((withName fs nm).getD j (ByteArray.empty, [])).2.length ≤ K := by
    unfold withName
    split
    · exact h
    · intro j hj
      have hi : insN fs nm ≤ fs.length := List.findIdx_le_length
      rw [getD_ins _ _ _ _ _ hi]
      simp at hj
      split
      · exact h j (by omega)
      · split
        · simp
        · exact h (j - 1) (by omega)
  have hf := findN_with fs nm
  intro j hj
  unfold doP at hj ⊢
  rw [List.length_set] at hj
  rw [getD_set _ _ _ _ _ hf]
  split
  · show (doData _ pg bs).length ≤ K
    rw [doData_len]
    have := hw _ hf
    omega
  · exact hw j hj
theorem small_of_total {fs : List PF} (h : totalI fs ≤ 1000) : ∀ j, j < fs.length → (fs.getD j (ByteArray.empty, [])).2.length ≤ 128128 := by
  intro j hj
  have := total_get hj
  omega
end Go.Proofs.YtnpndbicmamggaaGreat
namespace Go.Proofs.YtnpndbicmamggaaGreat
open Go.RowKit Go.Maps
set_option linter.unusedVariables false
set_option maxRecDepth 100000
set_option linter.unusedSimpArgs false

theorem name_lt {a b : ByteArray} (h : geB a b = false) : a.toList < b.toList := by
  simp only [geB, Bool.not_eq_false'] at h
  rw [bytesLess_eq] at h
  exact of_decide_eq_true h
theorem name_ne {a b : ByteArray} (h : a.toList < b.toList) : a ≠ b := by
  intro e; subst e; exact List.lt_irrefl _ h
/-- Names that ascend strictly: each below every later one. -/
theorem names_up {fs : List PF} (h : ∀ i, i < fs.length → fileOk fs i = true) : ∀ i j, i < j → j < fs.length → (fs.getD i (ByteArray.empty, [])).1.toList < (fs.getD j (ByteArray.empty, [])).1.toList := by
  have step : ∀ j, 0 < j → j < fs.length → (fs.getD (j - 1) (ByteArray.empty, [])).1.toList < (fs.getD j (ByteArray.empty, [])).1.toList := by
    intro j h0 hj
    have := h j hj
    simp only [fileOk, Bool.and_eq_true] at this
    have h2 := this.2
    simp only [h0, decide_true, Bool.true_and, Bool.not_eq_true'] at h2
    exact name_lt h2
  intro i j hij hj
  induction j with
  | zero => omega
  | succ j ih =>
    have h1 := step (j + 1) (by omega) hj
    simp only [Nat.add_sub_cancel] at h1
    by_cases e : i = j
    · subst e; exact h1
    · exact List.lt_trans (ih (by omega) (by omega)) h1

/-- A list of files as a census can tell it: no name twice, every file whole pages and at least one. -/
structure Inv (fs : List PF) : Prop where
  ne : ∀ i j, i ≠ j → i < fs.length → j < fs.length → (fs.getD i (ByteArray.empty, [])).1 ≠ (fs.getD j (ByteArray.empty, [])).1
  pg : ∀ i, i < fs.length → 128 ≤ (fs.getD i (ByteArray.empty, [])).2.length ∧ (fs.getD i (ByteArray.empty, [])).2.length % 128 = 0
theorem fileOk_len {fs : List PF} {i : Nat} (h : fileOk fs i = true) : 128 ≤ (fs.getD i (ByteArray.empty, [])).2.length ∧ (fs.getD i (ByteArray.empty, [])).2.length % 128 = 0 := by
  simp only [fileOk, Bool.and_eq_true, Bool.not_eq_true', beq_eq_false_iff_ne, ne_eq, beq_iff_eq] at h
  obtain ⟨⟨⟨_, h2⟩, h3⟩, _⟩ := h
  omega
theorem getD_take {fs : List PF} {k i : Nat} (h : i < k) : (fs.take k).getD i (ByteArray.empty, []) = fs.getD i (ByteArray.empty, []) := by
  simp [List.getD, List.getElem?_take, h]
theorem inv_of_ok {fs : List PF} {k : Nat} (hk : k ≤ fs.length) (h : ∀ i, i < k → fileOk fs i = true) : Inv (fs.take k) := by
  have hl : (fs.take k).length = k := by simp; omega
  have h' : ∀ i, i < (fs.take k).length → fileOk (fs.take k) i = true := by
    intro i hi
    rw [hl] at hi
    have := h i hi
    unfold fileOk at this ⊢
    rw [getD_take hi, getD_take (show i - 1 < k by omega)]
    exact this
  constructor
  · intro i j hij hi hj
    by_cases hlt : i < j
    · exact name_ne (names_up h' i j hlt hj)
    · exact (name_ne (names_up h' j i (by omega) hi)).symm
  · intro i hi
    exact fileOk_len (h' i hi)

/-- How one looks a name up in such a list. -/
theorem findN_of {fs : List PF} (h : Inv fs) {i : Nat} (hi : i < fs.length) : findN fs (fs.getD i (ByteArray.empty, [])).1 = i :=
  findN_at hi (fun j hj => h.ne j i (by omega) (by omega) hi) rfl
theorem findN_iff {fs : List PF} {nm : ByteArray} : findN fs nm < fs.length ↔ ∃ i, i < fs.length ∧ (fs.getD i (ByteArray.empty, [])).1 = nm := by
  constructor
  · intro h; exact ⟨_, h, findN_name h⟩
  · rintro ⟨i, hi, e⟩
    unfold findN
    rw [List.findIdx_lt_length]
    refine ⟨fs[i], List.getElem_mem hi, ?_⟩
    simpa [List.getD, List.getElem?_eq_getElem hi] using e
theorem lenI_of {fs : List PF} (h : Inv fs) {i : Nat} (hi : i < fs.length) : lenI fs (fs.getD i (ByteArray.empty, [])).1 = ((fs.getD i (ByteArray.empty, [])).2.length : Int) / 128 := by
  unfold lenI
  rw [findN_of h hi, if_pos hi]
theorem lenI_none {fs : List PF} {nm : ByteArray} (h : ¬ findN fs nm < fs.length) : lenI fs nm = 0 := by unfold lenI; rw [if_neg h]
theorem lenI_pos {fs : List PF} {nm : ByteArray} (h : Inv fs) (hf : findN fs nm < fs.length) : 1 ≤ lenI fs nm := by
  unfold lenI
  rw [if_pos hf]
  have := h.pg _ hf
  omega

/-- A new file with one page, or whatever, in its place. -/
theorem totalI_set {fs : List PF} {i : Nat} (hi : i < fs.length) (f : PF) : totalI (fs.set i f) = totalI fs - ((fs.getD i (ByteArray.empty, [])).2.length : Int) / 128 + (f.2.length : Int) / 128 := by
  induction fs generalizing i with
  | nil => simp at hi
  | cons x r ih =>
    cases i with
    | zero => simp [totalI]; omega
    | succ i =>
      simp only [List.set_cons_succ, totalI, List.getD_cons_succ]
      rw [ih (by simpa using hi)]
      omega
theorem totalI_ins (l : List PF) (p : Nat) (x : PF) : totalI (l.take p ++ x :: l.drop p) = totalI l + (x.2.length : Int) / 128 := by
  rw [totalI_append]
  simp only [totalI]
  have h := totalI_append (l.take p) (l.drop p)
  rw [List.take_append_drop] at h
  omega
theorem withName_total (fs : List PF) (nm : ByteArray) : totalI (withName fs nm) = totalI fs := by
  unfold withName
  split
  · rfl
  · rw [totalI_ins]; simp
theorem doP_total (fs : List PF) (nm : ByteArray) (pg : Nat) (bs : List Int) : totalI (doP fs nm pg bs) = totalI fs - ((((withName fs nm).getD (findN (withName fs nm) nm) (ByteArray.empty, [])).2.length : Nat) : Int) / 128 + ((max ((withName fs nm).getD (findN (withName fs nm) nm) (ByteArray.empty, [])).2.length ((pg + 1) * 128) : Nat) : Int) / 128 := by
  unfold doP
  rw [totalI_set (findN_with fs nm), withName_total, doData_len]
theorem withName_data (fs : List PF) (nm : ByteArray) : ((withName fs nm).getD (findN (withName fs nm) nm) (ByteArray.empty, [])).2.length = if findN fs nm < fs.length then (fs.getD (findN fs nm) (ByteArray.empty, [])).2.length else 0 := by
  by_cases h : findN fs nm < fs.length
  · rw [if_pos h]
    have : withName fs nm = fs := by unfold withName; rw [if_pos h]
    rw [this]
  · rw [if_neg h]
    have hp : insN fs nm ≤ fs.length := List.findIdx_le_length
    have e : withName fs nm = fs.take (insN fs nm) ++ (nm, []) :: fs.drop (insN fs nm) := by unfold withName; rw [if_neg h]
    have hno : ∀ i, i < fs.length → (fs.getD i (ByteArray.empty, [])).1 ≠ nm := fun i hi e2 => h (findN_iff.2 ⟨i, hi, e2⟩)
    have hf : findN (withName fs nm) nm = insN fs nm := by
      rw [e]
      refine findN_at (by simp; omega) (fun j hj => ?_) ?_
      · rw [getD_ins _ _ _ _ _ hp, if_pos hj]; exact hno j (by omega)
      · rw [getD_ins _ _ _ _ _ hp, if_neg (by omega), if_pos rfl]
    rw [hf, e, getD_ins _ _ _ _ _ hp, if_neg (by omega), if_pos rfl]
    rfl
theorem doP_total2 {fs : List PF} {nm : ByteArray} {pg : Nat} {bs : List Int} (h : Inv fs) (hp : (pg : Int) ≤ lenI fs nm) : totalI (doP fs nm pg bs) = totalI fs + (if (pg : Int) = lenI fs nm then 1 else 0) := by
  rw [doP_total, withName_data]
  by_cases hf : findN fs nm < fs.length
  · have hl : lenI fs nm = ((fs.getD (findN fs nm) (ByteArray.empty, [])).2.length : Int) / 128 := by unfold lenI; rw [if_pos hf]
    have hpg := h.pg _ hf
    rw [if_pos hf]
    rw [hl] at hp ⊢
    generalize (fs.getD (findN fs nm) (ByteArray.empty, [])).2.length = q at *
    split <;> omega
  · rw [lenI_none hf] at hp ⊢
    rw [if_neg hf]
    have : pg = 0 := by omega
    subst this
    simp
theorem total_mono (fs : List PF) (nm : ByteArray) (pg : Nat) (bs : List Int) : totalI fs ≤ totalI (doP fs nm pg bs) := by
  rw [doP_total]
  generalize ((withName fs nm).getD (findN (withName fs nm) nm) (ByteArray.empty, [])).2.length = q
  omega
theorem len_mono (fs : List PF) (nm : ByteArray) (pg : Nat) (bs : List Int) : fs.length ≤ (doP fs nm pg bs).length := by
  rw [doP_len]; split <;> omega
end Go.Proofs.YtnpndbicmamggaaGreat
namespace Go.Proofs.YtnpndbicmamggaaGreat
open Go.RowKit
set_option linter.unusedVariables false
set_option maxRecDepth 100000

set_option maxHeartbeats 1000000 in
theorem l1Files_any (a : Option Addr) (n c : Nat) (fs : List PF) (w : World) (A B : Nat) (hB : B ≤ w.heap.size) (h : FilesAt w A B a n c fs) (hn : n ≤ 1048576) (hall : ∀ j, j < n → (fs.getD j (ByteArray.empty, [])).2.length ≤ 1048576) :
    Calls Tryz.prog 45 #[.slice a n c] w fun e w' => ∃ v xs vs, e = .returned v ∧ OwnF w' w.heap.size v fs xs vs ∧ Below w.heap.size w w' := by
  obtain ⟨hl, hnc, hc, hcell⟩ := h
  obtain ⟨i0, hi, hz0, hz1, hz2⟩ := info_parts info_File
  go_enter Tryz.func45, Tryz.ntmps45
  go_wp2
  have hown : (w.alloc (.cells #[] 71)).ownsRow w.heap.size 71 2 (.slice (some ⟨w.heap.size, 0, none⟩) 0 0) 0 [] := World.ownsRow_made w #[] 0 (Nat.le_refl _) (by unfold maxLen; omega) (by simp)
  go_loopw [3, 4] (fun v i wr => ∃ (k : Nat) (xs vs : List Value), k ≤ n ∧ i = .int .i64 k ∧ OwnF wr w.heap.size v (fs.take k) xs vs ∧ Below w.heap.size w wr) (fun _ i _ => n - (intOf i).toNat)
  case atStart => exact ⟨0, [], [], Nat.zero_le _, rfl, OwnF.nil hown, (Below.refl _ _).alloc (Nat.le_refl _) _⟩
  case round =>
    clear hown
    obtain ⟨k, xs, vs, hk, rfl, hO, hbel⟩ := hrel
    by_cases hlt : k < n
    · obtain ⟨b, off, rfl, hb, hcb⟩ := hcell (by omega)
      have e1 := (hcb k hlt).below hb (hbel.mono hB)
      have e2 := hall k hlt
      have hsn := take_snocD fs k (ByteArray.empty, []) (by omega)
      clear hcell hcb hall
      obtain ⟨f, hf⟩ : ∃ f, f = fs.getD k (ByteArray.empty, []) := ⟨_, rfl⟩
      rw [← hf] at e1 e2 hsn
      have HS : Hid (fs.take (k + 1) = fs.take k ++ [f]) := hsn
      clear hf hsn
      obtain ⟨p1, p2, pa, pn, pc, p3, p4⟩ := e1
      have hs := hbel.size
      have hkl : (fs.take k).length = k := by simp; omega
      have hrow := hO.row
      rw [hkl] at hrow
      have hpl := p4.1
      have hbk : b < wr.heap.size := by omega
      go_wp2
      go_region_law (first | (refine step_append_own rfl (.tmp 12) (.tmp 25) 32 rfl w.heap.size 71 i0 _ 2 40 Tryz.underlying32 hi hz0 hz1 hz2 rfl (by decide) u3 k xs (by simp [Act.eval]) ((owns_below hrow hb1).alloc _) ⟨w1.heap.size, 0, none⟩ 1 1 [.string f.1, .slice va pn vc] (by simp [Act.eval]) rfl (cell_two_new _ _ _ _) (by simp [Value.oneCell']) (by unfold maxLen; omega) (by omega) (by simp; omega) ?_; intro v' w2 hown' hgr) | (go_simp; go_at_call 65; refine (l1Bytes_any _ _ _ f.2 wr.drew A B (Nat.le_trans hB hs) p4 (by omega)).mono ?_; rintro e w1 ⟨va, vc, rfl, hvb, hb1⟩; replace hb1 : Below wr.heap.size wr w1 := ((Below.refl _ wr).drew).trans hb1; have hy1 := hb1.size; have q1 : w1.cell? ⟨b, off + k * 2, none⟩ = some (.string f.1) := (hb1.cell (p := ⟨b, off + k * 2, none⟩) hbk).trans p1))
      all_goals
        have hb2 : Below w1.heap.size w1 (w1.alloc (.cells #[.string f.1, .slice va pn vc] 71)) := (Below.refl _ _).alloc (Nat.le_refl _) _
        have R : OwnF w2 w.heap.size v' (fs.take (k + 1)) (xs ++ [.string f.1, .slice va pn vc]) (vs ++ [.slice va pn vc]) := by
          rw [HS.out]
          exact OwnF.push hO hs hb1 (by rw [hpl]; exact hvb) p2 p4.2.2.2.1 hb2 (by rw [hkl]; exact hown') hgr
        have hb3 : Below w.heap.size w w2 := ((hbel.trans (hb1.mono hs)).trans (hb2.mono (by omega))).grown hgr (by simp; omega) (fun g hg => (hO.row.lt g hg).1)
        clear hown' hgr hvb hb1 hb2 hrow hO
        go_wp2
        go_roundw
        case rel => exact ⟨k + 1, _, _, by omega, by go_num, R, hb3⟩
        case measure => simp [intOf]; omega
    · go_wp2
      go_ret
      exact ⟨u3, xs, vs, rfl, by rw [show fs.take k = fs from List.take_of_length_le (by omega)] at hO; exact hO, hbel⟩
end Go.Proofs.YtnpndbicmamggaaGreat
