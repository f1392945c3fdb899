import Derived.Test.YtpmagndofiaooaaTto
namespace Go.Proofs.Ytpmagndofiaooaa
open Go.RowKit
set_option linter.unusedVariables false
set_option maxRecDepth 100000

/-- Nodes laid so far, each with its lists behind block g0. -/
def GotNodes (w : World) (g0 : Nat) (xs : List Value) (ts : List TN) (k : Nat) : Prop :=
  ∀ j, j < k → I64 (ts.getD j dT).page ∧ ∃ ka kn kc va vn vc oa on oc ya yn yc, xs[j * 6]? = some (.bool (ts.getD j dT).leaf) ∧ xs[j * 6 + 1]? = some (.int .i64 (ts.getD j dT).page) ∧ xs[j * 6 + 2]? = some (.slice ka kn kc) ∧ xs[j * 6 + 3]? = some (.slice va vn vc) ∧ xs[j * 6 + 4]? = some (.slice oa on oc) ∧ xs[j * 6 + 5]? = some (.slice ya yn yc) ∧
    StrsAt w (g0 + 1) w.heap.size ka kn kc (ts.getD j dT).keys ∧ StrsAt w (g0 + 1) w.heap.size va vn vc (ts.getD j dT).vals ∧ IntsAt w (g0 + 1) w.heap.size oa on oc (ts.getD j dT).over ∧ IntsAt w (g0 + 1) w.heap.size ya yn yc (ts.getD j dT).kids ∧
    (RoomL w (g0 + 1) ka kn ∧ RoomL w (g0 + 1) va vn ∧ RoomL w (g0 + 1) oa on ∧ RoomL w (g0 + 1) ya yn)
theorem GotNodes.below {w w' : World} {g0 : Nat} {xs : List Value} {ts : List TN} {k : Nat} (h : GotNodes w g0 xs ts k) (hb : Below w.heap.size w w') : GotNodes w' g0 xs ts k := by
  intro j hj
  obtain ⟨h0, ka, kn, kc, va, vn, vc, oa, on, oc, ya, yn, yc, e0, e1, e2, e3, e4, e5, a1, a2, a3, a4, m1, m2, m3, m4⟩ := h j hj
  exact ⟨h0, ka, kn, kc, va, vn, vc, oa, on, oc, ya, yn, yc, e0, e1, e2, e3, e4, e5, (a1.below hb).up (Nat.le_refl _) hb.size, (a2.below hb).up (Nat.le_refl _) hb.size, (a3.below hb).up (Nat.le_refl _) hb.size, (a4.below hb).up (Nat.le_refl _) hb.size, m1.below hb, m2.below hb, m3.below hb, m4.below hb⟩
theorem RoomL.putK {w : World} {lo : Nat} {a : Option Addr} {n : Nat} (h : RoomL w lo a n) (g k : Nat) (u0 u1 u2 u3 u4 u5 : Value) : RoomL ((((((w.setCell ⟨g, k * 6, none⟩ u0).setCell ⟨g, k * 6 + 1, none⟩ u1).setCell ⟨g, k * 6 + 2, none⟩ u2).setCell ⟨g, k * 6 + 3, none⟩ u3).setCell ⟨g, k * 6 + 4, none⟩ u4).setCell ⟨g, k * 6 + 5, none⟩ u5) lo a n := (((((h.set _ u0).set _ u1).set _ u2).set _ u3).set _ u4).set _ u5
theorem set6_ne {xs : List Value} {v0 v1 v2 v3 v4 v5 : Value} {k j : Nat} (h : j < k * 6 ∨ k * 6 + 6 ≤ j) : ((((((xs.set (k * 6) v0).set (k * 6 + 1) v1).set (k * 6 + 2) v2).set (k * 6 + 3) v3).set (k * 6 + 4) v4).set (k * 6 + 5) v5)[j]? = xs[j]? := by
  rw [List.getElem?_set_ne (by omega), List.getElem?_set_ne (by omega), List.getElem?_set_ne (by omega), List.getElem?_set_ne (by omega), List.getElem?_set_ne (by omega), List.getElem?_set_ne (by omega)]
theorem set6_at {xs : List Value} {v0 v1 v2 v3 v4 v5 : Value} {k : Nat} (h : k * 6 + 6 ≤ xs.length) :
    ((((((xs.set (k * 6) v0).set (k * 6 + 1) v1).set (k * 6 + 2) v2).set (k * 6 + 3) v3).set (k * 6 + 4) v4).set (k * 6 + 5) v5)[k * 6]? = some v0 ∧
    ((((((xs.set (k * 6) v0).set (k * 6 + 1) v1).set (k * 6 + 2) v2).set (k * 6 + 3) v3).set (k * 6 + 4) v4).set (k * 6 + 5) v5)[k * 6 + 1]? = some v1 ∧
    ((((((xs.set (k * 6) v0).set (k * 6 + 1) v1).set (k * 6 + 2) v2).set (k * 6 + 3) v3).set (k * 6 + 4) v4).set (k * 6 + 5) v5)[k * 6 + 2]? = some v2 ∧
    ((((((xs.set (k * 6) v0).set (k * 6 + 1) v1).set (k * 6 + 2) v2).set (k * 6 + 3) v3).set (k * 6 + 4) v4).set (k * 6 + 5) v5)[k * 6 + 3]? = some v3 ∧
    ((((((xs.set (k * 6) v0).set (k * 6 + 1) v1).set (k * 6 + 2) v2).set (k * 6 + 3) v3).set (k * 6 + 4) v4).set (k * 6 + 5) v5)[k * 6 + 4]? = some v4 ∧
    ((((((xs.set (k * 6) v0).set (k * 6 + 1) v1).set (k * 6 + 2) v2).set (k * 6 + 3) v3).set (k * 6 + 4) v4).set (k * 6 + 5) v5)[k * 6 + 5]? = some v5 := by
  refine ⟨?_, ?_, ?_, ?_, ?_, ?_⟩
  · iterate 5 rw [List.getElem?_set_ne (by omega)]
    rw [List.getElem?_set_self (by omega)]
  · iterate 4 rw [List.getElem?_set_ne (by omega)]
    rw [List.getElem?_set_self (by simp; omega)]
  · iterate 3 rw [List.getElem?_set_ne (by omega)]
    rw [List.getElem?_set_self (by simp; omega)]
  · iterate 2 rw [List.getElem?_set_ne (by omega)]
    rw [List.getElem?_set_self (by simp; omega)]
  · rw [List.getElem?_set_ne (by omega)]
    rw [List.getElem?_set_self (by simp; omega)]
  · rw [List.getElem?_set_self (by simp; omega)]
def put6K (w : World) (g k : Nat) (u0 u1 u2 u3 u4 u5 : Value) : World := (((((w.setCell ⟨g, k * 6, none⟩ u0).setCell ⟨g, k * 6 + 1, none⟩ u1).setCell ⟨g, k * 6 + 2, none⟩ u2).setCell ⟨g, k * 6 + 3, none⟩ u3).setCell ⟨g, k * 6 + 4, none⟩ u4).setCell ⟨g, k * 6 + 5, none⟩ u5
theorem put6K_keeps (w : World) (g k B : Nat) (u0 u1 u2 u3 u4 u5 : Value) : Keeps (g + 1) B w (put6K w g k u0 u1 u2 u3 u4 u5) := by
  unfold put6K
  iterate 6 refine Keeps.set ?_ (.inl (by simp)) _
  exact Keeps.refl _ _ _
theorem put6K_size (w : World) (g k : Nat) (u0 u1 u2 u3 u4 u5 : Value) : (put6K w g k u0 u1 u2 u3 u4 u5).heap.size = w.heap.size := by simp [put6K, World.setCell]
theorem GotNodes.step {w : World} {g0 : Nat} {xs : List Value} {ts : List TN} {k n : Nat} {t : TN} {ka va oa ya : Option Addr} {kn kc vn vc on oc yn yc : Nat} (h : GotNodes w g0 xs ts k) (hk : k < n) (hx : xs.length = n * 6) (ht : t = ts.getD k dT) (hp : I64 t.page)
    (a1 : StrsAt w (g0 + 1) w.heap.size ka kn kc t.keys) (a2 : StrsAt w (g0 + 1) w.heap.size va vn vc t.vals) (a3 : IntsAt w (g0 + 1) w.heap.size oa on oc t.over) (a4 : IntsAt w (g0 + 1) w.heap.size ya yn yc t.kids) (m1 : RoomL w (g0 + 1) ka kn) (m2 : RoomL w (g0 + 1) va vn) (m3 : RoomL w (g0 + 1) oa on) (m4 : RoomL w (g0 + 1) ya yn) :
    GotNodes (put6K w g0 k (.bool t.leaf) (.int .i64 t.page) (.slice ka kn kc) (.slice va vn vc) (.slice oa on oc) (.slice ya yn yc)) g0 ((((((xs.set (k * 6) (.bool t.leaf)).set (k * 6 + 1) (.int .i64 t.page)).set (k * 6 + 2) (.slice ka kn kc)).set (k * 6 + 3) (.slice va vn vc)).set (k * 6 + 4) (.slice oa on oc)).set (k * 6 + 5) (.slice ya yn yc)) ts (k + 1) := by
  have K := put6K_keeps w g0 k w.heap.size (.bool t.leaf) (.int .i64 t.page) (.slice ka kn kc) (.slice va vn vc) (.slice oa on oc) (.slice ya yn yc)
  intro j hj
  rw [put6K_size]
  by_cases hjk : j = k
  · subst hjk
    rw [← ht]
    obtain ⟨e0, e1, e2, e3, e4, e5⟩ := set6_at (xs := xs) (v0 := .bool t.leaf) (v1 := .int .i64 t.page) (v2 := .slice ka kn kc) (v3 := .slice va vn vc) (v4 := .slice oa on oc) (v5 := .slice ya yn yc) (k := j) (by omega)
    exact ⟨hp, ka, kn, kc, va, vn, vc, oa, on, oc, ya, yn, yc, e0, e1, e2, e3, e4, e5, a1.keep K, a2.keep K, a3.keep K, a4.keep K, m1.putK _ _ _ _ _ _ _ _, m2.putK _ _ _ _ _ _ _ _, m3.putK _ _ _ _ _ _ _ _, m4.putK _ _ _ _ _ _ _ _⟩
  · obtain ⟨h0, ka, kn, kc, va, vn, vc, oa, on, oc, ya, yn, yc, e0, e1, e2, e3, e4, e5, a1, a2, a3, a4, m1, m2, m3, m4⟩ := h j (by omega)
    refine ⟨h0, ka, kn, kc, va, vn, vc, oa, on, oc, ya, yn, yc, ?_, ?_, ?_, ?_, ?_, ?_, a1.keep K, a2.keep K, a3.keep K, a4.keep K, m1.putK _ _ _ _ _ _ _ _, m2.putK _ _ _ _ _ _ _ _, m3.putK _ _ _ _ _ _ _ _, m4.putK _ _ _ _ _ _ _ _⟩
    all_goals (rw [set6_ne (by omega)]; assumption)
theorem nodes_of_got {w : World} {base e g0 n : Nat} {xs : List Value} {ts : List TN} (h : w.ownsRow base e 6 (.slice (some ⟨g0, 0, none⟩) n n) n xs) (hl : ts.length = n) (hm : n ≤ maxLen) (hG : GotNodes w g0 xs ts n) : NodesAt w g0 w.heap.size (some ⟨g0, 0, none⟩) n n ts := by
  have hb := h.lt g0 rfl
  refine ⟨hl, Nat.le_refl _, hm, fun hn => ⟨g0, 0, rfl, ⟨Nat.le_refl _, hb.2⟩, fun i hi => ?_⟩⟩
  obtain ⟨h0, ka, kn, kc, va, vn, vc, oa, on, oc, ya, yn, yc, e0, e1, e2, e3, e4, e5, a1, a2, a3, a4, _⟩ := hG i hi
  refine ⟨ka, kn, kc, va, vn, vc, oa, on, oc, ya, yn, yc, ?_, ?_, ?_, ?_, ?_, ?_, h0, a1.up (Nat.le_succ _) (Nat.le_refl _), a2.up (Nat.le_succ _) (Nat.le_refl _), a3.up (Nat.le_succ _) (Nat.le_refl _), a4.up (Nat.le_succ _) (Nat.le_refl _)⟩
  · rw [Nat.zero_add, h.cellAt (i * 6) (by omega), e0]
  · rw [Nat.zero_add, h.cellAt (i * 6 + 1) (by omega), e1]
  · rw [Nat.zero_add, h.cellAt (i * 6 + 2) (by omega), e2]
  · rw [Nat.zero_add, h.cellAt (i * 6 + 3) (by omega), e3]
  · rw [Nat.zero_add, h.cellAt (i * 6 + 4) (by omega), e4]
  · rw [Nat.zero_add, h.cellAt (i * 6 + 5) (by omega), e5]
/-- A tree that may be written into: its row, and its lists behind it. -/
def MarkT (w : World) (lo g n : Nat) (ts : List TN) : Prop := ∃ xs, w.ownsRow lo 92 6 (.slice (some ⟨g, 0, none⟩) n n) n xs ∧ ts.length = n ∧ ∀ j, j < n → ∃ ka kn kc va vn vc oa on oc ya yn yc, xs[j * 6 + 2]? = some (.slice ka kn kc) ∧ xs[j * 6 + 3]? = some (.slice va vn vc) ∧ xs[j * 6 + 4]? = some (.slice oa on oc) ∧ xs[j * 6 + 5]? = some (.slice ya yn yc) ∧
  (kn = (ts.getD j dT).keys.length ∧ vn = (ts.getD j dT).vals.length ∧ on = (ts.getD j dT).over.length ∧ yn = (ts.getD j dT).kids.length) ∧ (RoomL w (g + 1) ka kn ∧ RoomL w (g + 1) va vn ∧ RoomL w (g + 1) oa on ∧ RoomL w (g + 1) ya yn)
theorem mark_of_got {w : World} {lo g n : Nat} {xs : List Value} {ts : List TN} (h : w.ownsRow lo 92 6 (.slice (some ⟨g, 0, none⟩) n n) n xs) (hl : ts.length = n) (hG : GotNodes w g xs ts n) : MarkT w lo g n ts := by
  refine ⟨xs, h, hl, fun j hj => ?_⟩
  obtain ⟨h0, ka, kn, kc, va, vn, vc, oa, on, oc, ya, yn, yc, e0, e1, e2, e3, e4, e5, a1, a2, a3, a4, m⟩ := hG j hj
  exact ⟨ka, kn, kc, va, vn, vc, oa, on, oc, ya, yn, yc, e2, e3, e4, e5, ⟨a1.1.symm, a2.1.symm, a3.1.symm, a4.1.symm⟩, m⟩
theorem MarkT.below {w w' : World} {lo g n : Nat} {ts : List TN} (h : MarkT w lo g n ts) (hb : Below w.heap.size w w') : MarkT w' lo g n ts := by
  obtain ⟨xs, h1, h2, h3⟩ := h
  refine ⟨xs, owns_below h1 hb, h2, fun j hj => ?_⟩
  obtain ⟨ka, kn, kc, va, vn, vc, oa, on, oc, ya, yn, yc, e2, e3, e4, e5, e6, m1, m2, m3, m4⟩ := h3 j hj
  exact ⟨ka, kn, kc, va, vn, vc, oa, on, oc, ya, yn, yc, e2, e3, e4, e5, e6, m1.below hb, m2.below hb, m3.below hb, m4.below hb⟩
theorem MarkT.set {w : World} {lo g n : Nat} {ts : List TN} (h : MarkT w lo g n ts) (p : Addr) (u : Value) (hp : p.block ≠ g) : MarkT (w.setCell p u) lo g n ts := by
  obtain ⟨xs, h1, h2, h3⟩ := h
  refine ⟨xs, owns_set h1 (fun q hq => by simp [Value.ownBlock] at hq; omega) u, h2, fun j hj => ?_⟩
  obtain ⟨ka, kn, kc, va, vn, vc, oa, on, oc, ya, yn, yc, e2, e3, e4, e5, e6, m1, m2, m3, m4⟩ := h3 j hj
  exact ⟨ka, kn, kc, va, vn, vc, oa, on, oc, ya, yn, yc, e2, e3, e4, e5, e6, m1.set p u, m2.set p u, m3.set p u, m4.set p u⟩
theorem MarkT.lower {w : World} {lo lo' g n : Nat} {ts : List TN} (h : MarkT w lo g n ts) (hl : lo' ≤ lo) : MarkT w lo' g n ts := by
  obtain ⟨xs, h1, h2⟩ := h
  exact ⟨xs, owns_base h1 hl, h2⟩
/-- Small enough to be laid anew. -/
def SmallT (ts : List TN) : Prop := ∀ j, j < ts.length → (ts.getD j dT).keys.length ≤ 1048576 ∧ (ts.getD j dT).vals.length ≤ 1048576 ∧ (ts.getD j dT).over.length ≤ 1048576 ∧ (ts.getD j dT).kids.length ≤ 1048576
set_option maxHeartbeats 1000000 in
theorem toTNodeS_mark (a : Option Addr) (n c : Nat) (ts : List TN) (w : World) (A B : Nat) (hB : B ≤ w.heap.size) (h : NodesAt w A B a n c ts) (hn : n ≤ 1048576) (hall : SmallT ts) :
    Calls Try.prog 50 #[.slice a n c] w fun e w' => ∃ g, w.heap.size ≤ g ∧ e = .returned (.slice (some ⟨g, 0, none⟩) n n) ∧ NodesAt w' w.heap.size w'.heap.size (some ⟨g, 0, none⟩) n n ts ∧ Below w.heap.size w w' ∧ MarkT w' w.heap.size g n ts := by
  have HL : Hid (ts.length = n) := h.1
  have HA : Hid (SmallT ts) := hall
  clear hall
  obtain ⟨i0, hi, hz0, hz1, hz2⟩ := info_parts info_TNodeT
  go_enter Try.func50, Try.ntmps50
  go_wp2_with (at_make; refine wpList_make_full _ rfl _ _ 24 rfl w.heap.size 92 i0 _ 6 Try.underlying24 hi hz0 hz1 .i64 .i64 n n n rfl rfl rfl rfl (by rw [hz2]; omega) (by unfold maxLen; omega) (Nat.le_refl _) ?_; intro w1 hown hgr)
  have hb1 : Below w.heap.size w w1 := (Below.refl _ _).grown hgr (Nat.le_refl _) (by simp)
  go_loopw [4] (fun i wr => ∃ k : Nat, k ≤ n ∧ i = .int .i64 k ∧ Below w.heap.size w wr ∧ ∃ xs, wr.ownsRow w.heap.size 92 6 (.slice (some ⟨w.heap.size, 0, none⟩) n n) n xs ∧ GotNodes wr w.heap.size xs ts k) (fun i _ => n - (intOf i).toNat)
  case atStart => exact ⟨0, Nat.zero_le _, rfl, hb1, _, hown, fun j hj => absurd hj (Nat.not_lt_zero _)⟩
  case round =>
    clear hown hgr hb1
    obtain ⟨k, hk, rfl, hbel, xs, hown, hgot⟩ := hrel
    by_cases hlt : k < n
    · obtain ⟨b, off, rfl, hb, ka, kn, kc, va, vn, vc, oa, on, oc, ya, yn, yc, hN⟩ := NodesAt.at (h.below (hbel.mono hB)) hlt
      have hsm := HA.out k (by have := HL.out; omega)
      obtain ⟨t, ht⟩ : ∃ t, t = ts.getD k dT := ⟨_, rfl⟩
      rw [← ht] at hN hsm
      have HF : Hid (t = ts.getD k dT) := ht
      clear ht h
      obtain ⟨c0, c1, c2, c3, c4, c5, hpg, hK, hV, hO, hY⟩ := hN
      obtain ⟨s1, s2, s3, s4⟩ := hsm
      rw [hK.1] at s1
      rw [hV.1] at s2
      rw [hO.1] at s3
      rw [hY.1] at s4
      have hs := hbel.size
      have hlt0 := (hown.lt w.heap.size rfl).2
      go_wp2_with fail
      refine (toTNode_any t.leaf t.page t.keys t.vals t.over t.kids ka kn kc va vn vc oa on oc ya yn yc wr A B (by omega) hK hV hO hY s1 s2 s3 s4).mono ?_
      rintro e w2 ⟨g1, g2, g3, g4, rfl, q1, q2, q3, q4, hb2, m1, m2, m3, m4⟩
      have hown2 := owns_below hown hb2
      have hgot2 := hgot.below hb2
      have hbel2 := hbel.trans (hb2.mono hs)
      have hxl := hown2.1
      have hst := GotNodes.step hgot2 hlt hxl HF.out hpg (q1.up (by omega) (Nat.le_refl _)) (q2.up (by omega) (Nat.le_refl _)) (q3.up (by omega) (Nat.le_refl _)) (q4.up (by omega) (Nat.le_refl _)) (m1.lower (by omega)) (m2.lower (by omega)) (m3.lower (by omega)) (m4.lower (by omega))
      have R := (((((hown2.stored (k * 6) (.bool t.leaf)).1.stored (k * 6 + 1) (.int .i64 t.page)).1.stored (k * 6 + 2) (.slice (some ⟨g1, 0, none⟩) kn kn)).1.stored (k * 6 + 3) (.slice (some ⟨g2, 0, none⟩) vn vn)).1.stored (k * 6 + 4) (.slice (some ⟨g3, 0, none⟩) on on)).1.stored (k * 6 + 5) (.slice (some ⟨g4, 0, none⟩) yn yn)
      have hbel3 := (((((hbel2.setCell (p := ⟨w.heap.size, k * 6, none⟩) (Nat.le_refl _) (.bool t.leaf)).setCell (p := ⟨w.heap.size, k * 6 + 1, none⟩) (Nat.le_refl _) (.int .i64 t.page)).setCell (p := ⟨w.heap.size, k * 6 + 2, none⟩) (Nat.le_refl _) (.slice (some ⟨g1, 0, none⟩) kn kn)).setCell (p := ⟨w.heap.size, k * 6 + 3, none⟩) (Nat.le_refl _) (.slice (some ⟨g2, 0, none⟩) vn vn)).setCell (p := ⟨w.heap.size, k * 6 + 4, none⟩) (Nat.le_refl _) (.slice (some ⟨g3, 0, none⟩) on on)).setCell (p := ⟨w.heap.size, k * 6 + 5, none⟩) (Nat.le_refl _) (.slice (some ⟨g4, 0, none⟩) yn yn)
      have hf0 := hown2.frozenAt (k * 6)
      have hf1 := hown2.frozenAt (k * 6 + 1)
      have hf2 := hown2.frozenAt (k * 6 + 2)
      have hf3 := hown2.frozenAt (k * 6 + 3)
      have hf4 := hown2.frozenAt (k * 6 + 4)
      have hf5 := hown2.frozenAt (k * 6 + 5)
      obtain ⟨u0, hu0⟩ : ∃ u, w2.cell? ⟨w.heap.size, k * 6, none⟩ = some u := ⟨xs[k * 6]'(by omega), by rw [hown2.cellAt (k * 6) (by omega)]; exact List.getElem?_eq_getElem _⟩
      obtain ⟨u1, hu1⟩ : ∃ u, w2.cell? ⟨w.heap.size, k * 6 + 1, none⟩ = some u := ⟨xs[k * 6 + 1]'(by omega), by rw [hown2.cellAt (k * 6 + 1) (by omega)]; exact List.getElem?_eq_getElem _⟩
      obtain ⟨u2, hu2⟩ : ∃ u, w2.cell? ⟨w.heap.size, k * 6 + 2, none⟩ = some u := ⟨xs[k * 6 + 2]'(by omega), by rw [hown2.cellAt (k * 6 + 2) (by omega)]; exact List.getElem?_eq_getElem _⟩
      obtain ⟨u3, hu3⟩ : ∃ u, w2.cell? ⟨w.heap.size, k * 6 + 3, none⟩ = some u := ⟨xs[k * 6 + 3]'(by omega), by rw [hown2.cellAt (k * 6 + 3) (by omega)]; exact List.getElem?_eq_getElem _⟩
      obtain ⟨u4, hu4⟩ : ∃ u, w2.cell? ⟨w.heap.size, k * 6 + 4, none⟩ = some u := ⟨xs[k * 6 + 4]'(by omega), by rw [hown2.cellAt (k * 6 + 4) (by omega)]; exact List.getElem?_eq_getElem _⟩
      obtain ⟨u5, hu5⟩ : ∃ u, w2.cell? ⟨w.heap.size, k * 6 + 5, none⟩ = some u := ⟨xs[k * 6 + 5]'(by omega), by rw [hown2.cellAt (k * 6 + 5) (by omega)]; exact List.getElem?_eq_getElem _⟩
      clear hown hown2 hgot hgot2 hbel hbel2 q1 q2 q3 q4 hb2 m1 m2 m3 m4
      go_wp2
      go_roundw
      case rel => exact ⟨k + 1, by omega, by go_num, hbel3, _, R.1, hst⟩
      case measure => simp [intOf]; omega
    · go_wp2
      go_ret
      exact ⟨w.heap.size, Nat.le_refl _, rfl, nodes_of_got hown HL.out (by unfold maxLen; omega) (by rw [show n = k by omega]; exact hgot), hbel, mark_of_got hown HL.out (by rw [show n = k by omega]; exact hgot)⟩
set_option maxHeartbeats 400000 in
theorem toTree_mark (a : Option Addr) (n c : Nat) (ts : List TN) (w : World) (A B : Nat) (hB : B ≤ w.heap.size) (h : NodesAt w A B a n c ts) (hn : n ≤ 1048576) (hall : SmallT ts) :
    Calls Try.prog 18 #[.agg #[.slice a n c]] w fun e w' => ∃ g, e = .returned (.agg #[.slice (some ⟨g, 0, none⟩) n n]) ∧ NodesAt w' w.heap.size w'.heap.size (some ⟨g, 0, none⟩) n n ts ∧ Below w.heap.size w w' ∧ MarkT w' w.heap.size g n ts := by
  obtain ⟨N, hN⟩ : ∃ N, w.heap.size = N := ⟨_, rfl⟩
  have a3 := alloc3 w (.cells #[.slice a n c] 37) (.cells #[.slice none 0 0] 26) (.cells #[.slice none 0 0] 26)
  have b3 : Below w.heap.size w (((w.alloc (.cells #[.slice a n c] 37)).alloc (.cells #[.slice none 0 0] 26)).alloc (.cells #[.slice none 0 0] 26)) := (((Below.refl _ _).alloc (Nat.le_refl _) _).alloc (by simp) _).alloc (by simp; omega) _
  have z3 : (((w.alloc (.cells #[.slice a n c] 37)).alloc (.cells #[.slice none 0 0] 26)).alloc (.cells #[.slice none 0 0] 26)).heap.size = w.heap.size + 3 := by simp
  go_enter Try.func18, Try.ntmps18
  go_wp2_with fail
  generalize (((w.alloc (.cells #[.slice a n c] 37)).alloc (.cells #[.slice none 0 0] 26)).alloc (.cells #[.slice none 0 0] 26)) = W0 at a3 b3 z3 ⊢
  refine (toTNodeS_mark _ _ _ ts W0 A B (by omega) (h.below (b3.mono hB)) hn hall).mono ?_
  rintro e w1 ⟨g, hg, rfl, q, hb, mk⟩
  have zz := hb.size
  have MK : Hid (MarkT w1 N g n ts) := mk.lower (by omega)
  clear mk
  have b4 := b3.trans (hb.mono (by omega))
  rw [hN] at a3
  have e2 := (hb.block _ (by omega)).trans a3.2.1
  have e3 := (hb.block _ (by omega)).trans a3.2.2
  have f2 := thawT e2
  have f3 := thawT e3
  have s3 := heap_setT e3 0 (.slice (some ⟨g, 0, none⟩) n n)
  have s2 := ((fr_setT w1 (N + 1 + 1) 0 (.slice (some ⟨g, 0, none⟩) n n)).block (N + 1) (by omega) (by omega)).trans e2
  have c2 : w1.cell? ⟨N + 1, 0, none⟩ = some (.slice none 0 0) := by simp [World.cell?, e2]
  have c3 : w1.cell? ⟨N + 1 + 1, 0, none⟩ = some (.slice none 0 0) := by simp [World.cell?, e3]
  have q2 : NodesAt ((w1.setCell ⟨N + 1 + 1, 0, none⟩ (.slice (some ⟨g, 0, none⟩) n n)).setCell ⟨N + 1, 0, none⟩ (.slice (some ⟨g, 0, none⟩) n n)) N w1.heap.size (some ⟨g, 0, none⟩) n n ts :=
    (q.keep (((Keeps.refl _ _ _).set (p := ⟨N + 1 + 1, 0, none⟩) (.inl (by show N + 1 + 1 < _; omega)) (.slice (some ⟨g, 0, none⟩) n n)).set (p := ⟨N + 1, 0, none⟩) (.inl (by show N + 1 < _; omega)) (.slice (some ⟨g, 0, none⟩) n n))).up (by omega) (Nat.le_refl _)
  have b5 := (b4.setCell (p := ⟨N + 1 + 1, 0, none⟩) (by show w.heap.size ≤ N + 1 + 1; omega) (.slice (some ⟨g, 0, none⟩) n n)).setCell (p := ⟨N + 1, 0, none⟩) (by show w.heap.size ≤ N + 1; omega) (.slice (some ⟨g, 0, none⟩) n n)
  have l1 : N + 1 < w1.heap.size := by omega
  have l2 : N + 1 + 1 < w1.heap.size := by omega
  have hx : ((w1.setCell ⟨N + 1 + 1, 0, none⟩ (.slice (some ⟨g, 0, none⟩) n n)).setCell ⟨N + 1, 0, none⟩ (.slice (some ⟨g, 0, none⟩) n n)).cell? ⟨N + 1, 0, none⟩ = some (.slice (some ⟨g, 0, none⟩) n n) := by
    have := heap_setT s2 0 (.slice (some ⟨g, 0, none⟩) n n)
    simp [World.cell?, this]
  go_wp2
  refine bodyPost_ret (v := .agg #[.slice (some ⟨g, 0, none⟩) n n]) (by simp [results, Try.results18, go_sem, hx]) rfl ⟨g, rfl, ?_, b5, by rw [hN]; exact (MK.out.set _ _ (by show N + 1 + 1 ≠ g; omega)).set _ _ (by show N + 1 ≠ g; omega)⟩
  have : ((w1.setCell ⟨N + 1 + 1, 0, none⟩ (.slice (some ⟨g, 0, none⟩) n n)).setCell ⟨N + 1, 0, none⟩ (.slice (some ⟨g, 0, none⟩) n n)).heap.size = w1.heap.size := by simp [World.setCell]
  rw [this, hN]
  exact q2
theorem toTree_any (a : Option Addr) (n c : Nat) (ts : List TN) (w : World) (A B : Nat) (hB : B ≤ w.heap.size) (h : NodesAt w A B a n c ts) (hn : n ≤ 1048576) (hall : SmallT ts) :
    Calls Try.prog 18 #[.agg #[.slice a n c]] w fun e w' => ∃ g, e = .returned (.agg #[.slice (some ⟨g, 0, none⟩) n n]) ∧ NodesAt w' w.heap.size w'.heap.size (some ⟨g, 0, none⟩) n n ts ∧ Below w.heap.size w w' :=
  (toTree_mark a n c ts w A B hB h hn hall).mono fun e w' ⟨g, h1, h2, h3, _⟩ => ⟨g, h1, h2, h3⟩
end Go.Proofs.Ytpmagndofiaooaa
