import Derived.Test.YtpmagndofiaooaaTlg
import Derived.Test.YtpmagndofiaooaaTlj
namespace Go.Proofs.Ytpmagndofiaooaa
open Go.RowKit
set_option linter.unusedVariables false
set_option linter.unusedSimpArgs false
set_option maxRecDepth 100000

/-- append of nothing. -/
theorem run_append_zeroT {P : Program} (w : World) (base : Nat) (t ty e : TypeId) (i : TypeInfo) (size : Nat) (ht : P.underlying t = some (.slice e)) (hi : P.info? e = some i)
    (v : Value) (n : Nat) (xs : List Value) (hown : w.ownsRow base e size v n xs) (c : Nat) :
    (Builtin.append_ #[t, t] ty #[v, .slice none 0 c]).run P w = .ok v w := by
  rcases hown.2 with ⟨rfl, rfl⟩ | ⟨g, cap, cur, rfl, _, _, hnc, _⟩
  · simp [Builtin.append_, run_underlying ht, sizeOf, typeInfo, hi, Builtin.lenOf, Builtin.firstCells]
  · simp [Builtin.append_, run_underlying ht, sizeOf, typeInfo, hi, Builtin.lenOf, Builtin.firstCells, hnc, storeCells]
/-- append of a list that came in, nil or not, to one's own. -/
theorem wpList_append_rowsT {α : Type} {P : Program} (w : World) {ops : Array Oper} {rest : List Oper} {o : Oper} {a : Act} {Q : Exit → Act → World → Prop} (hgd : o.guard = none) (s x : Operand) (t : TypeId)
    (ho : o.op = .call { callee := .builtin .append, args := #[s, x], argTypes := #[t, t] })
    (base : Nat) (e : TypeId) (i : TypeInfo) (z : Value) (bytes : Nat) (ht : P.underlying t = some (.slice e)) (hi : P.info? e = some i) (hz : i.zero = some z)
    (hsize : i.size = 1) (hby : i.bytes = bytes) (hzs : z.cells.size = 1)
    (g n cp : Nat) (xs : List Value) (hs : a.eval s = .slice (some ⟨g, 0, none⟩) n cp) (hown : w.ownsRow base e 1 (.slice (some ⟨g, 0, none⟩) n cp) n xs)
    {cs : α → List Value} {fit : α → Prop} {d : α} (hm : ∀ x, (cs x).length = 1) (h1 : ∀ x, ∀ u ∈ cs x, u.oneCell' = true) {A B : Nat} {ad : Option Addr} {m c : Nat} {ys : List α} (hx : a.eval x = .slice ad m c) (hr : RowsAt w A B 1 cs fit d ad m c ys)
    (h63 : n + m ≤ maxLen) (hbytes : (n + m) * bytes ≤ 140737488355328) (hbase : base ≤ w.heap.size)
    (h : ∀ g' c' w', w'.ownsRow base e 1 (.slice (some ⟨g', 0, none⟩) (n + m) c') (n + m) (xs ++ rowsOf cs ys) → w.grownBy w' (some g) → wpList P ops Q rest (a.put o.dst (.slice (some ⟨g', 0, none⟩) (n + m) c')) w') : wpList P ops Q (o :: rest) a w := by
  have hl := hr.1
  cases ad with
  | none =>
    have h0 : m = 0 := by
      rcases Nat.eq_zero_or_pos m with h | h
      · exact h
      · obtain ⟨b, off, e, _⟩ := hr.2.2.2.2 h; cases e
    subst h0
    have hy : ys = [] := List.eq_nil_of_length_eq_zero hl
    subst hy
    refine wpList_plain hgd fun _ hK => ?_
    have hrun := run_append_zeroT (P := P) w base t o.type e i 1 ht hi _ n xs hown c
    unfold Oper.wp execOp
    simp only [ho, resolve, invoke, builtin, Sem.run_bind, Sem.run_pure, Result.andThen_ok, List.map_toArray, List.map_cons, List.map_nil, hs, hx, hrun]
    refine hK _ _ ?_
    have := h g cp w (by simpa [rowsOf] using hown) ⟨rfl, rfl, rfl, Nat.le_refl _, fun _ _ _ => rfl⟩
    simpa using this
  | some ad =>
    refine wpList_append_someT w hgd s x t ho base e i z 1 bytes ht hi hz hsize hby hzs (by omega) g n cp xs hs hown ad m c (rowsOf cs ys) hx (by rw [rowsOf_length hm, hl]) (fun j u hj => ?_) (fun u hu => ?_) h63 hbytes hbase h
    · have hjl : j < m := by
        have := (List.getElem?_eq_some_iff.1 hj).1
        rw [rowsOf_length hm, hl] at this
        omega
      obtain ⟨b, off, e, hb, hc⟩ := hr.2.2.2.2 (by omega)
      cases e
      have h2 := hc j hjl 0 (by omega)
      have h3 := rowsOf_get hm d ys j 0 (by omega) (by omega)
      simp only [Nat.mul_one, Nat.add_zero] at h2 h3
      rw [h3] at hj
      rw [show (⟨b, off, none⟩ : Addr).add j = ⟨b, off + j, none⟩ by simp [Addr.add], h2, hj]
    · simp only [rowsOf, List.mem_flatMap] at hu
      obtain ⟨y, _, hy⟩ := hu
      exact h1 y u hy
theorem one_str1 : ∀ x, ∀ u ∈ strCells x, u.oneCell' = true := fun x u hu => by
  simp [strCells] at hu; subst hu; rfl
theorem one_int1 : ∀ x, ∀ u ∈ intCells x, u.oneCell' = true := fun x u hu => by
  simp [intCells] at hu; subst hu; rfl
/-- A list in one block, from lo on, that is not g. -/
def Off (w : World) (lo g : Nat) (R : World → Nat → Nat → Prop) : Prop := ∃ A, lo ≤ A ∧ A ≠ g ∧ A < w.heap.size ∧ R w A (A + 1)
theorem Off.keep {w w' : World} {lo g g' : Nat} {R : World → Nat → Nat → Prop} (h : Off w lo g R) (hR : ∀ A, R w A (A + 1) → w'.heap[A]? = w.heap[A]? → R w' A (A + 1)) (hk : ∀ k, lo ≤ k → k < w.heap.size → k ≠ g → w'.heap[k]? = w.heap[k]?) (hg : g' = g ∨ w.heap.size ≤ g') (hs : w.heap.size ≤ w'.heap.size) : Off w' lo g' R := by
  obtain ⟨A, h1, h2, h3, h4⟩ := h
  exact ⟨A, h1, by rcases hg with rfl | hg <;> omega, by omega, hR A h4 (hk A h1 h3 h2)⟩
theorem rows_keep1 {α : Type} {m : Nat} {cs : α → List Value} {fit : α → Prop} {d : α} {a : Option Addr} {n c : Nat} {xs : List α} {w w' : World} (A : Nat) (h : RowsAt w A (A + 1) m cs fit d a n c xs) (hk : w'.heap[A]? = w.heap[A]?) : RowsAt w' A (A + 1) m cs fit d a n c xs :=
  h.keep (fun k h1 h2 => by obtain rfl : k = A := by omega
                            exact hk)
/-- The cells of a node, its lists elsewhere. -/
def FNode (w : World) (lo g : Nat) (t : TN) (cs : List Value) : Prop := ∃ (ka : Option Addr) (kn kc : Nat) (va : Option Addr) (vn vc : Nat) (oa : Option Addr) (on oc : Nat) (ya : Option Addr) (yn yc : Nat), cs = [.bool t.leaf, .int .i64 t.page, .slice ka kn kc, .slice va vn vc, .slice oa on oc, .slice ya yn yc] ∧ I64 t.page ∧
  Off w lo g (fun w A B => StrsAt w A B ka kn kc t.keys) ∧ Off w lo g (fun w A B => StrsAt w A B va vn vc t.vals) ∧ Off w lo g (fun w A B => IntsAt w A B oa on oc t.over) ∧ Off w lo g (fun w A B => IntsAt w A B ya yn yc t.kids)
theorem FNode.keep {w w' : World} {lo g g' : Nat} {t : TN} {cs : List Value} (h : FNode w lo g t cs) (hk : ∀ k, lo ≤ k → k < w.heap.size → k ≠ g → w'.heap[k]? = w.heap[k]?) (hg : g' = g ∨ w.heap.size ≤ g') (hs : w.heap.size ≤ w'.heap.size) : FNode w' lo g' t cs := by
  obtain ⟨ka, kn, kc, va, vn, vc, oa, on, oc, ya, yn, yc, e, h0, h1, h2, h3, h4⟩ := h
  exact ⟨ka, kn, kc, va, vn, vc, oa, on, oc, ya, yn, yc, e, h0, h1.keep (fun A => rows_keep1 A) hk hg hs, h2.keep (fun A => rows_keep1 A) hk hg hs, h3.keep (fun A => rows_keep1 A) hk hg hs, h4.keep (fun A => rows_keep1 A) hk hg hs⟩
/-- A list of nodes of one's own. -/
structure FlatAt (w : World) (lo g c : Nat) (css : Nat → List Value) (ts : List TN) : Prop where
  row : w.ownsRow lo 92 6 (.slice (some ⟨g, 0, none⟩) ts.length c) ts.length (rowsC css ts.length)
  node : ∀ i t, ts[i]? = some t → (css i).length = 6 ∧ FNode w lo g t (css i)
theorem FlatAt.lt {w : World} {lo g c : Nat} {css : Nat → List Value} {ts : List TN} (h : FlatAt w lo g c css ts) : lo ≤ g ∧ g < w.heap.size := h.row.lt g rfl
theorem FlatAt.fr {S : Nat → Prop} {w w' : World} {lo g c : Nat} {css : Nat → List Value} {ts : List TN} (h : FlatAt w lo g c css ts) (hf : Fr S w w') (hS : ∀ k, lo ≤ k → k < w.heap.size → ¬ S k) : FlatAt w' lo g c css ts :=
  ⟨owns_fr h.row hf (fun q hq => hS q (h.row.lt q hq).1 (h.row.lt q hq).2), fun i t hi => ⟨(h.node i t hi).1, (h.node i t hi).2.keep (fun k h1 h2 _ => hf.block k h2 (hS k h1 h2)) (.inl rfl) hf.size⟩⟩
theorem FlatAt.below {w w' : World} {lo g c : Nat} {css : Nat → List Value} {ts : List TN} (h : FlatAt w lo g c css ts) (hb : Below w.heap.size w w') : FlatAt w' lo g c css ts :=
  h.fr (S := fun _ => False) (Fr.of_below hb) (fun _ _ _ e => e)
/-- The blocks that are not the list's, nor its nodes': those below lo, and one's own that are made later. -/
theorem FlatAt.push {w w4 : World} {lo g c g' c' : Nat} {css : Nat → List Value} {ts : List TN} {t : TN} {kcs : List Value} (h : FlatAt w lo g c css ts) (hk6 : kcs.length = 6) (hk : FNode w lo g t kcs)
    (hown : w4.ownsRow lo 92 6 (.slice (some ⟨g', 0, none⟩) (ts.length + 1) c') (ts.length + 1) (rowsC css ts.length ++ kcs)) (hgr : w.grownBy w4 (some g)) (hat : g' = g ∨ w.heap.size ≤ g') :
    FlatAt w4 lo g' c' (fun i => if i = ts.length then kcs else css i) (ts ++ [t]) := by
  have hzl : (ts ++ [t]).length = ts.length + 1 := by simp
  have hG : ∀ k, lo ≤ k → k < w.heap.size → k ≠ g → w4.heap[k]? = w.heap[k]? := fun k _ h1 h2 => hgr.block k h1 (fun e => h2 (by simpa using e))
  refine ⟨?_, fun i x hx => ?_⟩
  · rw [hzl, rowsC_succ, if_pos rfl, rowsC_congr (css := css) (fun i hi => if_neg (by omega))]
    exact hown
  · by_cases hi : i = ts.length
    · subst hi
      rw [List.getElem?_append_right (Nat.le_refl _)] at hx
      simp at hx
      subst hx
      simp only [if_true]
      exact ⟨hk6, hk.keep hG hat hgr.size⟩
    · have hi2 : i < ts.length := by
        have := (List.getElem?_eq_some_iff.1 hx).1
        simp at this
        omega
      rw [List.getElem?_append_left hi2] at hx
      simp only [hi, if_false]
      exact ⟨(h.node i x hx).1, (h.node i x hx).2.keep hG hat hgr.size⟩
/-- append of one node, and where the answer lies. -/
theorem wpList_append_nodeT {P : Program} (w : World) {ops : Array Oper} {rest : List Oper} {o : Oper} {a : Act} {Q : Exit → Act → World → Prop} (hgd : o.guard = none) (s x : Operand) (t : TypeId)
    (ho : o.op = .call { callee := .builtin .append, args := #[s, x], argTypes := #[t, t] })
    (base : Nat) (e : TypeId) (i : TypeInfo) (z : Value) (size bytes : Nat) (ht : P.underlying t = some (.slice e)) (hi : P.info? e = some i) (hz : i.zero = some z)
    (hsize : i.size = size) (hby : i.bytes = bytes) (hzs : z.cells.size = size) (hsz : 0 < size)
    (g n cp : Nat) (xs : List Value) (hs : a.eval s = .slice (some ⟨g, 0, none⟩) n cp) (hown : w.ownsRow base e size (.slice (some ⟨g, 0, none⟩) n cp) n xs)
    (ad : Addr) (c : Nat) (news : List Value) (hx : a.eval x = .slice (some ad) 1 c) (hl : news.length = size) (hnews : ∀ j u, news[j]? = some u → w.cell? (ad.add j) = some u) (h1 : ∀ u ∈ news, u.oneCell' = true)
    (h63 : n + 1 ≤ maxLen) (hbytes : (n + 1) * bytes ≤ 140737488355328) (hbase : base ≤ w.heap.size)
    (h : ∀ g' c' w', w'.ownsRow base e size (.slice (some ⟨g', 0, none⟩) (n + 1) c') (n + 1) (xs ++ news) → w.grownBy w' (some g) → (g' = g ∨ w.heap.size ≤ g') → wpList P ops Q rest (a.put o.dst (.slice (some ⟨g', 0, none⟩) (n + 1) c')) w') : wpList P ops Q (o :: rest) a w := by
  refine wpList_append_ownD w hgd s x t ho base e i z size bytes ht hi hz hsize hby hzs hsz _ n xs hs hown ad 1 c news hx (by omega) hnews h1 h63 hbytes hbase fun v' w' h2 h3 h4 => ?_
  obtain ⟨g', c', rfl⟩ := some_of_pos h2 (by omega)
  refine h g' c' w' h2 h3 ?_
  rcases h4 with e | e
  · left; simpa [Value.ownBlock] using e
  · right; exact e g' rfl
/-- In the end it is there to be read. -/
theorem FlatAt.nodes {w : World} {lo g c : Nat} {css : Nat → List Value} {ts : List TN} (h : FlatAt w lo g c css ts) : NodesAt w lo w.heap.size (some ⟨g, 0, none⟩) ts.length c ts := by
  have hlen := (rowsC_get (css := css) (m := ts.length) (fun i hi => (h.node i ts[i] (List.getElem?_eq_getElem hi)).1)).2
  rcases h.row.2 with ⟨e, e2⟩ | ⟨g0, cap, cur, e, hg1, hg2, h1, h2, _⟩
  · simp at e
  · simp only [Value.slice.injEq, Option.some.injEq, Addr.mk.injEq] at e
    obtain ⟨⟨rfl, _⟩, _, rfl⟩ := e
    refine ⟨rfl, h1, h2, fun hn => ⟨g, 0, rfl, h.lt, fun i hi => ?_⟩⟩
    obtain ⟨hl6, ka, kn, kc, va, vn, vc, oa, on, oc, ya, yn, yc, e, h0, ⟨A1, a1, a2, a3, a4⟩, ⟨A2, b1, b2, b3, b4⟩, ⟨A3, c1, c2, c3, c4⟩, ⟨A4, d1, d2, d3, d4⟩⟩ := h.node i ts[i] (List.getElem?_eq_getElem hi)
    have hd : ts.getD i dT = ts[i] := by simp [List.getD, hi]
    have hc : ∀ j, j < 6 → w.cell? ⟨g, 0 + i * 6 + j, none⟩ = (css i)[j]? := fun j hj => by
      rw [Nat.zero_add, h.row.cellAt (i * 6 + j) (by omega)]
      exact hlen i j hi hj
    rw [e] at hc
    rw [hd]
    exact ⟨ka, kn, kc, va, vn, vc, oa, on, oc, ya, yn, yc, by simpa using hc 0 (by omega), by simpa using hc 1 (by omega), by simpa using hc 2 (by omega), by simpa using hc 3 (by omega), by simpa using hc 4 (by omega), by simpa using hc 5 (by omega), h0, a4.up a1 (by omega), b4.up b1 (by omega), c4.up c1 (by omega), d4.up d1 (by omega)⟩
end Go.Proofs.Ytpmagndofiaooaa
