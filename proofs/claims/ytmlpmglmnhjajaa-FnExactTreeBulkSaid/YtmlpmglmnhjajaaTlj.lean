import Derived.Test.YtmlpmglmnhjajaaTli
namespace Go.Proofs.Ytmlpmglmnhjajaa
open Go.RowKit
set_option linter.unusedVariables false
set_option linter.unusedSimpArgs false
set_option maxRecDepth 100000

/-- append to a list that is no nil stays none. -/
theorem run_append_someT {P : Program} (w : World) (base : Nat) (t ty e : TypeId) (i : TypeInfo) (z : Value) (size bytes : Nat) (ht : P.underlying t = some (.slice e)) (hi : P.info? e = some i) (hz : i.zero = some z)
    (hsize : i.size = size) (hby : i.bytes = bytes) (hzs : z.cells.size = size) (hsz : 0 < size)
    (g n cp : Nat) (xs : List Value) (hown : w.ownsRow base e size (.slice (some ⟨g, 0, none⟩) n cp) n xs)
    (a : Addr) (m c : Nat) (news : List Value) (hl : news.length = m * size) (hnews : ∀ j u, news[j]? = some u → w.cell? (a.add j) = some u) (h1 : ∀ u ∈ news, u.oneCell' = true)
    (h63 : n + m ≤ maxLen) (hbytes : (n + m) * bytes ≤ 140737488355328) (hbase : base ≤ w.heap.size) :
    ∃ g' c' w', (Builtin.append_ #[t, t] ty #[.slice (some ⟨g, 0, none⟩) n cp, .slice (some a) m c]).run P w = .ok (.slice (some ⟨g', 0, none⟩) (n + m) c') w' ∧ w'.ownsRow base e size (.slice (some ⟨g', 0, none⟩) (n + m) c') (n + m) (xs ++ news) ∧ w.grownBy w' (some g) := by
  obtain ⟨v', w', hr, ho, hgr, hat⟩ := run_append_ownD (P := P) w base t ty e i z size bytes ht hi hz hsize hby hzs hsz _ n xs hown a m c news hl hnews h1 h63 hbytes hbase
  by_cases hp : 0 < n + m
  · obtain ⟨g', c', rfl⟩ := some_of_pos ho hp
    exact ⟨g', c', w', hr, ho, hgr⟩
  · rcases hown.2 with ⟨h0, _⟩ | ⟨g0, cap, cur, hv, hbg, hg, hnc, hcm, hcs, htake⟩
    · simp at h0
    · simp only [Value.slice.injEq, Option.some.injEq, Addr.mk.injEq] at hv
      obtain ⟨⟨rfl, _⟩, _, rfl⟩ := hv
      subst hsize
      have hroom : n + m ≤ cp := by omega
      have hfit : n * i.size + news.length ≤ cur.size := by rw [hl, hcs, ← Nat.add_mul]; exact Nat.mul_le_mul_right _ hroom
      have hr2 := run_append_room (P := P) w t ty e i ht hi g n cp cur hg a m c news hl hnews h1 hroom hfit
      rw [hr] at hr2
      injection hr2 with e1 e2
      subst e1
      exact ⟨g, cp, w', hr, ho, hgr⟩
theorem wpList_append_someT {P : Program} (w : World) {ops : Array Oper} {rest : List Oper} {o : Oper} {a : Act} {Q : Exit → Act → World → Prop} (hgd : o.guard = none) (s x : Operand) (t : TypeId)
    (ho : o.op = .call { callee := .builtin .append, args := #[s, x], argTypes := #[t, t] })
    (base : Nat) (e : TypeId) (i : TypeInfo) (z : Value) (size bytes : Nat) (ht : P.underlying t = some (.slice e)) (hi : P.info? e = some i) (hz : i.zero = some z)
    (hsize : i.size = size) (hby : i.bytes = bytes) (hzs : z.cells.size = size) (hsz : 0 < size)
    (g n cp : Nat) (xs : List Value) (hs : a.eval s = .slice (some ⟨g, 0, none⟩) n cp) (hown : w.ownsRow base e size (.slice (some ⟨g, 0, none⟩) n cp) n xs)
    (ad : Addr) (m c : Nat) (news : List Value) (hx : a.eval x = .slice (some ad) m c) (hl : news.length = m * size) (hnews : ∀ j u, news[j]? = some u → w.cell? (ad.add j) = some u) (h1 : ∀ u ∈ news, u.oneCell' = true)
    (h63 : n + m ≤ maxLen) (hbytes : (n + m) * bytes ≤ 140737488355328) (hbase : base ≤ w.heap.size)
    (h : ∀ g' c' w', w'.ownsRow base e size (.slice (some ⟨g', 0, none⟩) (n + m) c') (n + m) (xs ++ news) → w.grownBy w' (some g) → wpList P ops Q rest (a.put o.dst (.slice (some ⟨g', 0, none⟩) (n + m) c')) w') : wpList P ops Q (o :: rest) a w := by
  refine wpList_plain hgd fun _ hK => ?_
  obtain ⟨g', c', w', hr, h2, h3⟩ := run_append_someT (P := P) w base t o.type e i z size bytes ht hi hz hsize hby hzs hsz g n cp xs hown ad m c news hl hnews h1 h63 hbytes hbase
  unfold Oper.wp execOp
  simp only [ho, resolve, invoke, builtin, Sem.run_bind, Sem.run_pure, Result.andThen_ok, List.map_toArray, List.map_cons, List.map_nil, hs, hx, hr]
  exact hK _ _ (h g' c' w' h2 h3)
def NumsAns (t : T) (w : World) (e : Ending) (w' : World) : Prop := ∃ g c, e = .returned (.slice (some ⟨g, 0, none⟩) t.nums.length c) ∧ w'.ownsRow w.heap.size 2 1 (.slice (some ⟨g, 0, none⟩) t.nums.length c) t.nums.length (rowsOf intCells t.nums) ∧ Below w.heap.size w w'
theorem one_int (xs : List Int) : ∀ u ∈ rowsOf intCells xs, u.oneCell' = true := fun u hu => by
  simp only [rowsOf, List.mem_flatMap, intCells] at hu
  obtain ⟨a, _, ha⟩ := hu
  simp at ha
  subst ha
  rfl
/-- The state of l3Numbers: the list so far. -/
structure NSt (w W wr : World) (N g cc : Nat) (bx : Array Value) (l : List Int) : Prop where
  own : wr.ownsRow (N + 1) 2 1 (.slice (some ⟨g, 0, none⟩) l.length cc) l.length (rowsOf intCells l)
  fr : Fr (fun k => N + 1 ≤ k) W wr
  bx : wr.heap[N]? = some (.cells bx 47)
theorem NSt.lt {w W wr : World} {N g cc : Nat} {bx : Array Value} {l : List Int} (h : NSt w W wr N g cc bx l) : N + 1 ≤ g ∧ g < wr.heap.size := h.own.lt g rfl
theorem NSt.below {w W wr w1 : World} {N g cc : Nat} {bx : Array Value} {l : List Int} (h : NSt w W wr N g cc bx l) (hb : Below wr.heap.size wr w1) : NSt w W w1 N g cc bx l :=
  ⟨owns_below h.own hb, h.fr.trans (Fr.of_below hb), (hb.block N (by have := h.lt; omega)).trans h.bx⟩
theorem NSt.push {w W wr w4 : World} {N g cc g' c' : Nat} {bx : Array Value} {l l2 : List Int} (h : NSt w W wr N g cc bx l) (hown : w4.ownsRow (N + 1) 2 1 (.slice (some ⟨g', 0, none⟩) (l.length + l2.length) c') (l.length + l2.length) (rowsOf intCells l ++ rowsOf intCells l2)) (hgr : wr.grownBy w4 (some g)) : NSt w W w4 N g' c' bx (l ++ l2) :=
  ⟨by rw [List.length_append, rowsOf_append]; exact hown, h.fr.trans (Fr.of_grown hgr (fun q hq => by cases hq; exact h.lt.1)), (hgr.block N (by have := h.lt; omega) (fun e => by simp at e; have := h.lt; omega)).trans h.bx⟩
end Go.Proofs.Ytmlpmglmnhjajaa
