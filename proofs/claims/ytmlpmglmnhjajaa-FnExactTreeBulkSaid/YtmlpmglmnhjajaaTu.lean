import Derived.Test.YtmlpmglmnhjajaaTto
namespace Go.Proofs.Ytmlpmglmnhjajaa
open Go.RowKit
set_option linter.unusedVariables false
set_option maxRecDepth 100000

/-- Nodes laid so far, each with its lists behind block g0. -/
def GotNodes (w : World) (g0 : Nat) (xs : List Value) (ts : List TN) (k : Nat) : Prop :=
  ∀ j, j < k → I64 (ts.getD j dT).page ∧ ∃ ka kn kc va vn vc oa on oc ya yn yc, xs[j * 6]? = some (.bool (ts.getD j dT).leaf) ∧ xs[j * 6 + 1]? = some (.int .i64 (ts.getD j dT).page) ∧ xs[j * 6 + 2]? = some (.slice ka kn kc) ∧ xs[j * 6 + 3]? = some (.slice va vn vc) ∧ xs[j * 6 + 4]? = some (.slice oa on oc) ∧ xs[j * 6 + 5]? = some (.slice ya yn yc) ∧
    StrsAt w (g0 + 1) w.heap.size ka kn kc (ts.getD j dT).keys ∧ StrsAt w (g0 + 1) w.heap.size va vn vc (ts.getD j dT).vals ∧ IntsAt w (g0 + 1) w.heap.size oa on oc (ts.getD j dT).over ∧ IntsAt w (g0 + 1) w.heap.size ya yn yc (ts.getD j dT).kids ∧
    (RoomL w (g0 + 1) ka kn ∧ RoomL w (g0 + 1) va vn ∧ RoomL w (g0 + 1) oa on ∧ RoomL w (g0 + 1) ya yn)
theorem GotNodes.below {w w' : World} {g0 : Nat} {xs : List Value} {ts : List TN} {k : Nat} (h : GotNodes w g0 xs ts k) (hb : Below w.heap.size w w') : GotNodes w' g0 xs ts k := by
  intro j hj
  obtain ⟨h0, ka, kn, kc, va, vn, vc, oa, on, oc, ya, yn, yc, e0, e1, e2, e3, e4, e5, a1, a2, a3, a4, m1, m2, m3, m4⟩ := h j hj
  exact ⟨h0, ka, kn, kc, va, vn, vc, oa, on, oc, ya, yn, yc, e0, e1, e2, e3, e4, e5, (a1.below hb).up (Nat.le_refl _) hb.size, (a2.below hb).up (Nat.le_refl _) hb.size, (a3.below hb).up (Nat.le_refl _) hb.size, (a4.below hb).up (Nat.le_refl _) hb.size, m1.below hb, m2.below hb, m3.below hb, m4.below hb⟩
theorem RoomL.putK {w : World} {lo : Nat} {a : Option Addr} {n : Nat} (h : RoomL w lo a n) (g k : Nat) (u0 u1 u2 u3 u4 u5 : Value) : RoomL ((((((w.setCell ⟨g, k * 6, none⟩ u0).setCell ⟨g, k * 6 + 1, none⟩ u1).setCell ⟨g, k * 6 + 2, none⟩ u2).setCell ⟨g, k * 6 + 3, none⟩ u3).setCell ⟨g, k * 6 + 4, none⟩ u4).setCell ⟨g, k * 6 + 5, none⟩ u5) lo a n := (((((h.set _ u0).set _ u1).set _ u2).set _ u3).set _ u4).set _ u5
theorem set6_ne {xs : List Value} {v0 v1 v2 v3 v4 v5 : Value} {k j : Nat} (h : j < k * 6 ∨ k * 6 + 6 ≤ j) : ((((((xs.set (k * 6) v0).set (k * 6 + 1) v1).set (k * 6 + 2) v2).set (k * 6 + 3) v3).set (k * 6 + 4) v4).set (k * 6 + 5) v5)[j]? = xs[j]? := by
  rw [List.getElem?_set_ne (by omega), List.getElem?_set_ne (by omega), List.getElem?_set_ne (by omega), List.getElem?_set_ne (by omega), List.getElem?_set_ne (by omega), List.getElem?_set_ne (by omega)]
theorem set6_at {xs : List Value} {v0 v1 v2 v3 v4 v5 : Value} {k : Nat} (h : k * 6 + 6 ≤ xs.length) :
    ((((((xs.set (k * 6) v0).set (k * 6 + 1) v1).set (k * 6 + 2) v2).set (k * 6 + 3) v3).set (k * 6 + 4) v4).set (k * 6 + 5) v5)[k * 6]? = some v0 ∧
    ((((((xs.set (k * 6) v0).set (k * 6 + 1) v1).set (k * 6 + 2) v2).set (k * 6 + 3) v3).set (k * 6 + 4) v4).set (k * 6 + 5) v5)[k * 6 + 1]? = some v1 ∧
    ((((((xs.set (k * 6) v0).set (k * 6 + 1) v1).set (k * 6 + 2) v2).set (k * 6 + 3) v3).set (k * 6 + 4) v4).set (k * 6 + 5) v5)[k * 6 + 2]? = some v2 ∧
    ((((((xs.set (k * 6) v0).set (k * 6 + 1) v1).set (k * 6 + 2) v2).set (k * 6 + 3) v3).set (k * 6 + 4) v4).set (k * 6 + 5) v5)[k * 6 + 3]? = some v3 ∧
    ((((((xs.set (k * 6) v0).set (k * 6 + 1) v1).set (k * 6 + 2) v2).set (k * 6 + 3) v3).set (k * 6 + 4) v4).set (k * 6 + 5) v5)[k * 6 + 4]? = some v4 ∧
    ((((((xs.set (k * 6) v0).set (k * 6 + 1) v1).set (k * 6 + 2) v2).set (k * 6 + 3) v3).set (k * 6 + 4) v4).set (k * 6 + 5) v5)[k * 6 + 5]? = some v5 := by
  refine ⟨?_, ?_, ?_, ?_, ?_, ?_⟩
  · iterate 5 rw [List.getElem?_set_ne (by omega)]
    rw [List.getElem?_set_self (by omega)]
  · iterate 4 rw [List.getElem?_set_ne (by omega)]
    rw [List.getElem?_set_self (by simp; omega)]
  · iterate 3 rw [List.getElem?_set_ne (by omega)]
    rw [List.getElem?_set_self (by simp; omega)]
  · iterate 2 rw [List.getElem?_set_ne (by omega)]
    rw [List.getElem?_set_self (by simp; omega)]
  · rw [List.getElem?_set_ne (by omega)]
    rw [List.getElem?_set_self (by simp; omega)]
  · rw [List.getElem?_set_self (by simp; omega)]
def put6K (w : World) (g k : Nat) (u0 u1 u2 u3 u4 u5 : Value) : World := (((((w.setCell ⟨g, k * 6, none⟩ u0).setCell ⟨g, k * 6 + 1, none⟩ u1).setCell ⟨g, k * 6 + 2, none⟩ u2).setCell ⟨g, k * 6 + 3, none⟩ u3).setCell ⟨g, k * 6 + 4, none⟩ u4).setCell ⟨g, k * 6 + 5, none⟩ u5
theorem put6K_keeps (w : World) (g k B : Nat) (u0 u1 u2 u3 u4 u5 : Value) : Keeps (g + 1) B w (put6K w g k u0 u1 u2 u3 u4 u5) := by
  unfold put6K
  iterate 6 refine Keeps.set ?_ (.inl (by simp)) _
  exact Keeps.refl _ _ _
theorem put6K_size (w : World) (g k : Nat) (u0 u1 u2 u3 u4 u5 : Value) : (put6K w g k u0 u1 u2 u3 u4 u5).heap.size = w.heap.size := by simp [put6K, World.setCell]
theorem GotNodes.step {w : World} {g0 : Nat} {xs : List Value} {ts : List TN} {k n : Nat} {t : TN} {ka va oa ya : Option Addr} {kn kc vn vc on oc yn yc : Nat} (h : GotNodes w g0 xs ts k) (hk : k < n) (hx : xs.length = n * 6) (ht : t = ts.getD k dT) (hp : I64 t.page)
    (a1 : StrsAt w (g0 + 1) w.heap.size ka kn kc t.keys) (a2 : StrsAt w (g0 + 1) w.heap.size va vn vc t.vals) (a3 : IntsAt w (g0 + 1) w.heap.size oa on oc t.over) (a4 : IntsAt w (g0 + 1) w.heap.size ya yn yc t.kids) (m1 : RoomL w (g0 + 1) ka kn) (m2 : RoomL w (g0 + 1) va vn) (m3 : RoomL w (g0 + 1) oa on) (m4 : RoomL w (g0 + 1) ya yn) :
    GotNodes (put6K w g0 k (.bool t.leaf) (.int .i64 t.page) (.slice ka kn kc) (.slice va vn vc) (.slice oa on oc) (.slice ya yn yc)) g0 ((((((xs.set (k * 6) (.bool t.leaf)).set (k * 6 + 1) (.int .i64 t.page)).set (k * 6 + 2) (.slice ka kn kc)).set (k * 6 + 3) (.slice va vn vc)).set (k * 6 + 4) (.slice oa on oc)).set (k * 6 + 5) (.slice ya yn yc)) ts (k + 1) := by
  have K := put6K_keeps w g0 k w.heap.size (.bool t.leaf) (.int .i64 t.page) (.slice ka kn kc) (.slice va vn vc) (.slice oa on oc) (.slice ya yn yc)
  intro j hj
  rw [put6K_size]
  by_cases hjk : j = k
  · subst hjk
    rw [← ht]
    obtain ⟨e0, e1, e2, e3, e4, e5⟩ := set6_at (xs := xs) (v0 := .bool t.leaf) (v1 := .int .i64 t.page) (v2 := .slice ka kn kc) (v3 := .slice va vn vc) (v4 := .slice oa on oc) (v5 := .slice ya yn yc) (k := j) (by omega)
    exact ⟨hp, ka, kn, kc, va, vn, vc, oa, on, oc, ya, yn, yc, e0, e1, e2, e3, e4, e5, a1.keep K, a2.keep K, a3.keep K, a4.keep K, m1.putK _ _ _ _ _ _ _ _, m2.putK _ _ _ _ _ _ _ _, m3.putK _ _ _ _ _ _ _ _, m4.putK _ _ _ _ _ _ _ _⟩
  · obtain ⟨h0, ka, kn, kc, va, vn, vc, oa, on, oc, ya, yn, yc, e0, e1, e2, e3, e4, e5, a1, a2, a3, a4, m1, m2, m3, m4⟩ := h j (by omega)
    refine ⟨h0, ka, kn, kc, va, vn, vc, oa, on, oc, ya, yn, yc, ?_, ?_, ?_, ?_, ?_, ?_, a1.keep K, a2.keep K, a3.keep K, a4.keep K, m1.putK _ _ _ _ _ _ _ _, m2.putK _ _ _ _ _ _ _ _, m3.putK _ _ _ _ _ _ _ _, m4.putK _ _ _ _ _ _ _ _⟩
    all_goals (rw [set6_ne (by omega)]; assumption)
theorem nodes_of_got {w : World} {base e g0 n : Nat} {xs : List Value} {ts : List TN} (h : w.ownsRow base e 6 (.slice (some ⟨g0, 0, none⟩) n n) n xs) (hl : ts.length = n) (hm : n ≤ maxLen) (hG : GotNodes w g0 xs ts n) : NodesAt w g0 w.heap.size (some ⟨g0, 0, none⟩) n n ts := by
  have hb := h.lt g0 rfl
  refine ⟨hl, Nat.le_refl _, hm, fun hn => ⟨g0, 0, rfl, ⟨Nat.le_refl _, hb.2⟩, fun i hi => ?_⟩⟩
  obtain ⟨h0, ka, kn, kc, va, vn, vc, oa, on, oc, ya, yn, yc, e0, e1, e2, e3, e4, e5, a1, a2, a3, a4, _⟩ := hG i hi
  refine ⟨ka, kn, kc, va, vn, vc, oa, on, oc, ya, yn, yc, ?_, ?_, ?_, ?_, ?_, ?_, h0, a1.up (Nat.le_succ _) (Nat.le_refl _), a2.up (Nat.le_succ _) (Nat.le_refl _), a3.up (Nat.le_succ _) (Nat.le_refl _), a4.up (Nat.le_succ _) (Nat.le_refl _)⟩
  · rw [Nat.zero_add, h.cellAt (i * 6) (by omega), e0]
  · rw [Nat.zero_add, h.cellAt (i * 6 + 1) (by omega), e1]
  · rw [Nat.zero_add, h.cellAt (i * 6 + 2) (by omega), e2]
  · rw [Nat.zero_add, h.cellAt (i * 6 + 3) (by omega), e3]
  · rw [Nat.zero_add, h.cellAt (i * 6 + 4) (by omega), e4]
  · rw [Nat.zero_add, h.cellAt (i * 6 + 5) (by omega), e5]
/-- A tree that may be written into: its row, and its lists behind it. -/
def MarkT (w : World) (lo g n : Nat) (ts : List TN) : Prop := ∃ xs, w.ownsRow lo 62 6 (.slice (some ⟨g, 0, none⟩) n n) n xs ∧ ts.length = n ∧ ∀ j, j < n → ∃ ka kn kc va vn vc oa on oc ya yn yc, xs[j * 6 + 2]? = some (.slice ka kn kc) ∧ xs[j * 6 + 3]? = some (.slice va vn vc) ∧ xs[j * 6 + 4]? = some (.slice oa on oc) ∧ xs[j * 6 + 5]? = some (.slice ya yn yc) ∧
  (kn = (ts.getD j dT).keys.length ∧ vn = (ts.getD j dT).vals.length ∧ on = (ts.getD j dT).over.length ∧ yn = (ts.getD j dT).kids.length) ∧ (RoomL w (g + 1) ka kn ∧ RoomL w (g + 1) va vn ∧ RoomL w (g + 1) oa on ∧ RoomL w (g + 1) ya yn)
theorem mark_of_got {w : World} {lo g n : Nat} {xs : List Value} {ts : List TN} (h : w.ownsRow lo 62 6 (.slice (some ⟨g, 0, none⟩) n n) n xs) (hl : ts.length = n) (hG : GotNodes w g xs ts n) : MarkT w lo g n ts := by
  refine ⟨xs, h, hl, fun j hj => ?_⟩
  obtain ⟨h0, ka, kn, kc, va, vn, vc, oa, on, oc, ya, yn, yc, e0, e1, e2, e3, e4, e5, a1, a2, a3, a4, m⟩ := hG j hj
  exact ⟨ka, kn, kc, va, vn, vc, oa, on, oc, ya, yn, yc, e2, e3, e4, e5, ⟨a1.1.symm, a2.1.symm, a3.1.symm, a4.1.symm⟩, m⟩
theorem MarkT.below {w w' : World} {lo g n : Nat} {ts : List TN} (h : MarkT w lo g n ts) (hb : Below w.heap.size w w') : MarkT w' lo g n ts := by
  obtain ⟨xs, h1, h2, h3⟩ := h
  refine ⟨xs, owns_below h1 hb, h2, fun j hj => ?_⟩
  obtain ⟨ka, kn, kc, va, vn, vc, oa, on, oc, ya, yn, yc, e2, e3, e4, e5, e6, m1, m2, m3, m4⟩ := h3 j hj
  exact ⟨ka, kn, kc, va, vn, vc, oa, on, oc, ya, yn, yc, e2, e3, e4, e5, e6, m1.below hb, m2.below hb, m3.below hb, m4.below hb⟩
theorem MarkT.set {w : World} {lo g n : Nat} {ts : List TN} (h : MarkT w lo g n ts) (p : Addr) (u : Value) (hp : p.block ≠ g) : MarkT (w.setCell p u) lo g n ts := by
  obtain ⟨xs, h1, h2, h3⟩ := h
  refine ⟨xs, owns_set h1 (fun q hq => by simp [Value.ownBlock] at hq; omega) u, h2, fun j hj => ?_⟩
  obtain ⟨ka, kn, kc, va, vn, vc, oa, on, oc, ya, yn, yc, e2, e3, e4, e5, e6, m1, m2, m3, m4⟩ := h3 j hj
  exact ⟨ka, kn, kc, va, vn, vc, oa, on, oc, ya, yn, yc, e2, e3, e4, e5, e6, m1.set p u, m2.set p u, m3.set p u, m4.set p u⟩
theorem MarkT.lower {w : World} {lo lo' g n : Nat} {ts : List TN} (h : MarkT w lo g n ts) (hl : lo' ≤ lo) : MarkT w lo' g n ts := by
  obtain ⟨xs, h1, h2⟩ := h
  exact ⟨xs, owns_base h1 hl, h2⟩
/-- Small enough to be laid anew. -/
def SmallT (ts : List TN) : Prop := ∀ j, j < ts.length → (ts.getD j dT).keys.length ≤ 1048576 ∧ (ts.getD j dT).vals.length ≤ 1048576 ∧ (ts.getD j dT).over.length ≤ 1048576 ∧ (ts.getD j dT).kids.length ≤ 1048576
end Go.Proofs.Ytmlpmglmnhjajaa
