import Derived.Test.YtpmagndofiaooaaTuj
namespace Go.Proofs.Ytpmagndofiaooaa
open Go.RowKit
set_option linter.unusedVariables false
set_option linter.unusedSimpArgs false
set_option maxRecDepth 100000

/-- A list whose block is one of P. -/
def RowsP {α : Type} (w : World) (P : Nat → Prop) (m : Nat) (cs : α → List Value) (fit : α → Prop) (d : α) (a : Option Addr) (n c : Nat) (xs : List α) : Prop :=
  xs.length = n ∧ n ≤ c ∧ c ≤ maxLen ∧ (∀ i, i < n → fit (xs.getD i d)) ∧ (0 < n → ∃ b off, a = some ⟨b, off, none⟩ ∧ P b ∧ ∀ i, i < n → ∀ j, j < m → w.cell? ⟨b, off + i * m + j, none⟩ = (cs (xs.getD i d))[j]?)
theorem RowsP.keep {α : Type} {w w' : World} {P Q : Nat → Prop} {m : Nat} {cs : α → List Value} {fit : α → Prop} {d : α} {a : Option Addr} {n c : Nat} {xs : List α} (h : RowsP w P m cs fit d a n c xs) (hp : ∀ b, P b → w'.heap[b]? = w.heap[b]?) (hQ : ∀ b, P b → Q b) : RowsP w' Q m cs fit d a n c xs := by
  obtain ⟨h1, h2, h3, h4, h5⟩ := h
  refine ⟨h1, h2, h3, h4, fun hn => ?_⟩
  obtain ⟨b, off, e, hb, hc⟩ := h5 hn
  exact ⟨b, off, e, hQ b hb, fun i hi j hj => (World.cell?_of_block (w := w) (a := ⟨b, off + i * m + j, none⟩) (hp b hb)).trans (hc i hi j hj)⟩
theorem RowsP.at0 {α : Type} {w : World} {P : Nat → Prop} {m : Nat} {cs : α → List Value} {fit : α → Prop} {d : α} {a : Option Addr} {n c : Nat} {xs : List α} {C : Nat} (h : RowsP w P m cs fit d a n c xs) (hP : ∀ b, P b → b < C) : RowsAt w 0 C m cs fit d a n c xs := by
  obtain ⟨h1, h2, h3, h4, h5⟩ := h
  refine ⟨h1, h2, h3, h4, fun hn => ?_⟩
  obtain ⟨b, off, e, hb, hc⟩ := h5 hn
  exact ⟨b, off, e, ⟨Nat.zero_le _, hP b hb⟩, hc⟩
/-- The cells of a node of the document's: all that it has in blocks of P. -/
def SIs (w : World) (P : Nat → Prop) : T → List Value → Prop
  | ⟨l, p, k, v, o, y⟩, cs => ∃ (ka : Option Addr) (kn kc : Nat) (va : Option Addr) (vn vc : Nat) (oa : Option Addr) (on oc : Nat) (ya : Option Addr) (yc : Nat) (css : Nat → List Value), cs = [.bool l, .int .i64 p, .slice ka kn kc, .slice va vn vc, .slice oa on oc, .slice ya y.length yc] ∧ I64 p ∧ RowsP w P 1 strCells strFit ByteArray.empty ka kn kc k ∧ RowsP w P 1 strCells strFit ByteArray.empty va vn vc v ∧ RowsP w P 1 intCells I64 0 oa on oc o ∧ (y.length ≤ yc ∧ yc ≤ maxLen) ∧
    (0 < y.length → ∃ b off, ya = some ⟨b, off, none⟩ ∧ P b ∧ ∀ i, i < y.length → ∀ j, j < 6 → w.cell? ⟨b, off + i * 6 + j, none⟩ = (css i)[j]?) ∧ ∀ i, ∀ t ∈ y, y[i]? = some t → SIs w P t (css i)
structure SX (w : World) (P : Nat → Prop) (t : T) (ka : Option Addr) (kn kc : Nat) (va : Option Addr) (vn vc : Nat) (oa : Option Addr) (on oc : Nat) (ya : Option Addr) (yc : Nat) (css : Nat → List Value) : Prop where
  page : I64 t.page
  keys : RowsP w P 1 strCells strFit ByteArray.empty ka kn kc t.keys
  vals : RowsP w P 1 strCells strFit ByteArray.empty va vn vc t.vals
  over : RowsP w P 1 intCells I64 0 oa on oc t.over
  cap : t.kids.length ≤ yc ∧ yc ≤ maxLen
  cell : 0 < t.kids.length → ∃ b off, ya = some ⟨b, off, none⟩ ∧ P b ∧ ∀ i, i < t.kids.length → ∀ j, j < 6 → w.cell? ⟨b, off + i * 6 + j, none⟩ = (css i)[j]?
  kid : ∀ i, ∀ k ∈ t.kids, t.kids[i]? = some k → SIs w P k (css i)
theorem SIs.out {w : World} {P : Nat → Prop} {t : T} {cs : List Value} (h : SIs w P t cs) : ∃ ka kn kc va vn vc oa on oc ya yc css, cs = [.bool t.leaf, .int .i64 t.page, .slice ka kn kc, .slice va vn vc, .slice oa on oc, .slice ya t.kids.length yc] ∧ SX w P t ka kn kc va vn vc oa on oc ya yc css := by
  obtain ⟨l, p, k, v, o, y⟩ := t
  rw [SIs.eq_def] at h
  obtain ⟨ka, kn, kc, va, vn, vc, oa, on, oc, ya, yc, css, e, h1, h2, h3, h4, h5, h6, h7⟩ := h
  exact ⟨ka, kn, kc, va, vn, vc, oa, on, oc, ya, yc, css, e, h1, h2, h3, h4, h5, h6, h7⟩
theorem SX.mk' {w : World} {P : Nat → Prop} {t : T} {ka : Option Addr} {kn kc : Nat} {va : Option Addr} {vn vc : Nat} {oa : Option Addr} {on oc : Nat} {ya : Option Addr} {yc : Nat} {css : Nat → List Value} (h : SX w P t ka kn kc va vn vc oa on oc ya yc css) : SIs w P t [.bool t.leaf, .int .i64 t.page, .slice ka kn kc, .slice va vn vc, .slice oa on oc, .slice ya t.kids.length yc] := by
  obtain ⟨l, p, k, v, o, y⟩ := t
  rw [SIs.eq_def]
  exact ⟨ka, kn, kc, va, vn, vc, oa, on, oc, ya, yc, css, rfl, h.page, h.keys, h.vals, h.over, h.cap, h.cell, h.kid⟩
theorem SIs.keep {w w' : World} {P Q : Nat → Prop} (hp : ∀ b, P b → w'.heap[b]? = w.heap[b]?) (hQ : ∀ b, P b → Q b) : ∀ t cs, SIs w P t cs → SIs w' Q t cs := by
  intro t
  induction t using T.ind with
  | h t ih =>
    intro cs h
    obtain ⟨ka, kn, kc, va, vn, vc, oa, on, oc, ya, yc, css, rfl, h1, h2, h3, h4, h5, h6, h7⟩ := h.out
    refine SX.mk' (css := css) ⟨h1, h2.keep hp hQ, h3.keep hp hQ, h4.keep hp hQ, h5, fun hn => ?_, fun i k hm hi => ih k hm _ (h7 i k hm hi)⟩
    obtain ⟨b, off, e, hb, hc⟩ := h6 hn
    exact ⟨b, off, e, hQ b hb, fun i hi j hj => (World.cell?_of_block (w := w) (a := ⟨b, off + i * 6 + j, none⟩) (hp b hb)).trans (hc i hi j hj)⟩
theorem SIs.nodeC {w : World} {P : Nat → Prop} {C : Nat} (hP : ∀ b, P b → b < C) : ∀ t cs, SIs w P t cs → NodeC w C t cs := by
  intro t
  induction t using T.ind with
  | h t ih =>
    intro cs h
    obtain ⟨ka, kn, kc, va, vn, vc, oa, on, oc, ya, yc, css, rfl, h1, h2, h3, h4, h5, h6, h7⟩ := h.out
    refine NodeX.mk' (css := css) ⟨h1, h2.at0 hP, h3.at0 hP, h4.at0 hP, h5, fun hn => ?_, fun i k hm hi => ih k hm _ (h7 i k hm hi)⟩
    obtain ⟨b, off, e, hb, hc⟩ := h6 hn
    exact ⟨b, off, e, hP b hb, hc⟩
/-- The nodes of a level of the document's, in a row of one's own. -/
structure SLv (w0 wr : World) (lo m c : Nat) (a : Option Addr) (ts : List T) (css : Nat → List Value) : Prop where
  row : wr.ownsRow lo 61 6 (.slice a m c) m (rowsC css m)
  len : ts.length = m
  node : ∀ (i : Nat) (t : T), ts[i]? = some t → (css i).length = 6 ∧ SIs wr (fun b => lo ≤ b ∧ b < wr.heap.size ∧ (Value.slice a m c).ownBlock ≠ some b) t (css i)
  bel : Below lo w0 wr
theorem SLv.below {w0 wr w2 : World} {lo m c : Nat} {a : Option Addr} {ts : List T} {css : Nat → List Value} (h : SLv w0 wr lo m c a ts css) (hlo : lo ≤ wr.heap.size) (hb : Below wr.heap.size wr w2) : SLv w0 w2 lo m c a ts css := by
  refine ⟨owns_below h.row hb, h.len, fun i t hi => ?_, h.bel.trans (hb.mono hlo)⟩
  obtain ⟨e, hG⟩ := h.node i t hi
  exact ⟨e, SIs.keep (fun b hp => hb.block b hp.2.1) (fun b hp => ⟨hp.1, Nat.lt_of_lt_of_le hp.2.1 hb.size, hp.2.2⟩) t _ hG⟩
theorem SLv.push {w0 w2 w3 : World} {lo m c g e : Nat} {a : Option Addr} {ts : List T} {css : Nat → List Value} {t : T} {cs : List Value} (h : SLv w0 w2 lo m c a ts css) (hlo : lo ≤ w2.heap.size) (hl : cs.length = 6) (hG : SIs w2 (fun b => lo ≤ b ∧ b < w2.heap.size ∧ (Value.slice a m c).ownBlock ≠ some b) t cs)
    (hr : w3.ownsRow lo 61 6 (.slice (some ⟨g, 0, none⟩) (m + 1) e) (m + 1) (rowsC css m ++ cs)) (hgr : w2.grownBy w3 (Value.slice a m c).ownBlock) (hat : (Value.slice (some ⟨g, 0, none⟩) (m + 1) e).ownBlock = (Value.slice a m c).ownBlock ∨ ∀ b, (Value.slice (some ⟨g, 0, none⟩) (m + 1) e).ownBlock = some b → w2.heap.size ≤ b) :
    SLv w0 w3 lo (m + 1) e (some ⟨g, 0, none⟩) (ts ++ [t]) (fun i => if i = m then cs else css i) := by
  have hf3 : Fr (fun b => (Value.slice a m c).ownBlock = some b) w2 w3 := Fr.of_grown hgr (fun b e => e)
  have hnew : ∀ b, b < w2.heap.size → (Value.slice a m c).ownBlock ≠ some b → (Value.slice (some ⟨g, 0, none⟩) (m + 1) e).ownBlock ≠ some b := fun b hb2 hne => by
    rcases hat with e1 | e1
    · rw [e1]; exact hne
    · intro e2; have := e1 b e2; omega
  have hkeep : ∀ x q, SIs w2 (fun b => lo ≤ b ∧ b < w2.heap.size ∧ (Value.slice a m c).ownBlock ≠ some b) x q → SIs w3 (fun b => lo ≤ b ∧ b < w3.heap.size ∧ (Value.slice (some ⟨g, 0, none⟩) (m + 1) e).ownBlock ≠ some b) x q := fun x q hx => SIs.keep (fun b hp => hf3.block b hp.2.1 (fun e => hp.2.2 e)) (fun b hp => ⟨hp.1, Nat.lt_of_lt_of_le hp.2.1 hf3.size, hnew b hp.2.1 hp.2.2⟩) x q hx
  refine ⟨?_, by simp [h.len], fun i x hi => ?_, h.bel.trans (hf3.below hlo (fun b e => (h.row.lt b e).1))⟩
  · rw [rowsC_succ, if_pos rfl, rowsC_congr (css := css) (fun i hi => if_neg (by omega))]
    exact hr
  · by_cases hin : i < ts.length
    · rw [List.getElem?_append_left hin] at hi
      have hne : i ≠ m := by rw [← h.len]; omega
      simp only [hne, if_false]
      exact ⟨(h.node i x hi).1, hkeep x _ (h.node i x hi).2⟩
    · have hie : i = ts.length := by
        have := (List.getElem?_eq_some_iff.1 hi).1
        simp at this; omega
      subst hie
      rw [List.getElem?_append_right (Nat.le_refl _), Nat.sub_self] at hi
      simp at hi
      subst hi
      simp only [h.len, if_true]
      exact ⟨hl, hkeep t cs hG⟩
/-- A leaf of the document's that is being filled: its box, and its lists. -/
structure SFl (w' wr : World) (N : Nat) (u : Nat → Value) (l : Nat → List Value) : Prop where
  box : wr.heap[N]? = some (.cells #[.bool true, .int .i64 0, u 0, u 1, u 2, u 3] 61)
  ll : LL wr (N + 1) u l
  fr : Fr (fun g => N ≤ g) w' wr
theorem SFl.below {w' wr wr2 : World} {N : Nat} {u : Nat → Value} {l : Nat → List Value} (h : SFl w' wr N u l) (hb : Below wr.heap.size wr wr2) : SFl w' wr2 N u l :=
  ⟨boxT_below h.box hb, h.ll.below hb, h.fr.trans (Fr.of_below hb)⟩
theorem SFl.lt {w' wr : World} {N : Nat} {u : Nat → Value} {l : Nat → List Value} (h : SFl w' wr N u l) : N < wr.heap.size := (Array.getElem?_eq_some_iff.1 h.box).1
theorem SFl.app {w' wr w2 : World} {N q : Nat} {u : Nat → Value} {l : Nat → List Value} {v' : Value} {zs : List Value} (h : SFl w' wr N u l) (hq : q < 4) (hr : w2.ownsRow (N + 1) (ety q) 1 v' zs.length zs) (hgr : wr.grownBy w2 (u q).ownBlock) (hat : v'.ownBlock = (u q).ownBlock ∨ ∀ b, v'.ownBlock = some b → wr.heap.size ≤ b) :
    SFl w' (w2.setCell ⟨N, 2 + q, none⟩ v') N (fun r => if r = q then v' else u r) (fun r => if r = q then zs else l r) := by
  have hl2 := h.ll.app hq hr hgr hat
  have hf3 : Fr (fun b => b = N) w2 (w2.setCell ⟨N, 2 + q, none⟩ v') := fr_setT w2 N _ v'
  have hf2 : Fr (fun b => (u q).ownBlock = some b) wr w2 := Fr.of_grown hgr (fun b e => e)
  have hb2 := boxT_fr h.box hf2 (fun e => by have := ((h.ll.row q hq).lt N e).1; omega)
  refine ⟨?_, hl2.fr hf3 (fun g h1 _ e => by omega), (h.fr.trans (hf2.weak (fun b e => by have := ((h.ll.row q hq).lt b e).1; omega))).trans (hf3.weak (fun b e => by omega))⟩
  have hq4 : q = 0 ∨ q = 1 ∨ q = 2 ∨ q = 3 := by omega
  rcases hq4 with rfl | rfl | rfl | rfl <;> simp [World.setCell, Array.getElem?_modify, hb2]
theorem rowsP_own {α : Type} {w : World} {P : Nat → Prop} {base e n k : Nat} {cs : α → List Value} {fit : α → Prop} {d : α} {v : Value} {xs : List α} (hc1 : ∀ x, (cs x).length = 1) (h : w.ownsRow base e 1 v n (rowsOf cs xs)) (hn : xs.length = n) (hfit : ∀ x ∈ xs, fit x) (hP : ∀ b, base ≤ b → b < w.heap.size → P b) : ∃ a c, v = .slice a n c ∧ RowsP w P 1 cs fit d a n c xs := by
  have hf2 : ∀ i, i < n → fit (xs.getD i d) := fun i hi => by
    have : xs.getD i d = xs[i]'(by omega) := by simp [List.getD, show i < xs.length by omega]
    rw [this]; exact hfit _ (List.getElem_mem _)
  rcases h.2 with ⟨e1, e2⟩ | ⟨g, cap, cur, e1, hg1, hg2, h1, h2, _⟩
  · subst e2
    exact ⟨none, 0, e1, hn, Nat.le_refl _, by unfold maxLen; omega, hf2, fun h0 => absurd h0 (by omega)⟩
  · have hlt := h.lt g (by rw [e1]; rfl)
    refine ⟨_, cap, e1, hn, h1, h2, hf2, fun h0 => ⟨g, 0, rfl, hP g hlt.1 hlt.2, fun i hi j hj => ?_⟩⟩
    subst e1
    obtain rfl : j = 0 := by omega
    rw [Nat.zero_add, h.cellAt (i * 1 + 0) (by omega)]
    exact rowsOf_get hc1 d xs i 0 (by omega) (by omega)
/-- A leaf that is filled. -/
theorem SFl.leaf {w' wr : World} {N : Nat} {u : Nat → Value} {ch : List (ByteArray × ByteArray)} {P : Nat → Prop} (h : SFl w' wr N u (lxs (leafB ch) ch.length)) (hu3 : u 3 = .slice none 0 0) (hP : ∀ b, N + 1 ≤ b → b < wr.heap.size → P b) (hs : ∀ z ∈ ch, z.1.size ≤ maxLen ∧ z.2.size ≤ maxLen) : SIs wr P (leafB ch) [.bool true, .int .i64 0, u 0, u 1, u 2, u 3] := by
  have e0 : lxs (leafB ch) ch.length 0 = rowsOf strCells (leafB ch).keys := by show rowsOf strCells ((leafB ch).keys.take ch.length) = _; rw [List.take_of_length_le (by simp [leafB])]
  have e1 : lxs (leafB ch) ch.length 1 = rowsOf strCells (leafB ch).vals := by show rowsOf strCells ((leafB ch).vals.take ch.length) = _; rw [List.take_of_length_le (by simp [leafB])]
  have e2 : lxs (leafB ch) ch.length 2 = rowsOf intCells (leafB ch).over := by show rowsOf intCells ((leafB ch).over.take ch.length) = _; rw [List.take_of_length_le (by simp [leafB])]
  have r0 := h.ll.row 0 (by omega)
  have r1 := h.ll.row 1 (by omega)
  have r2 := h.ll.row 2 (by omega)
  rw [e0, rows_len1 sc1] at r0
  rw [e1, rows_len1 sc1] at r1
  rw [e2, rows_len1 ic1] at r2
  obtain ⟨a0, c0, f0, q0⟩ := rowsP_own (k := 0) (P := P) (fit := strFit) (d := ByteArray.empty) sc1 r0 rfl (fun x hx => by obtain ⟨z, hz, rfl⟩ := List.mem_map.1 hx; exact (hs z hz).1) hP
  obtain ⟨a1, c1, f1, q1⟩ := rowsP_own (k := 0) (P := P) (fit := strFit) (d := ByteArray.empty) sc1 r1 rfl (fun x hx => by obtain ⟨z, hz, rfl⟩ := List.mem_map.1 hx; exact (hs z hz).2) hP
  obtain ⟨a2, c2, f2, q2⟩ := rowsP_own (k := 0) (P := P) (fit := I64) (d := 0) ic1 r2 rfl (fun x hx => by obtain ⟨z, hz, rfl⟩ := List.mem_map.1 hx; exact ⟨by decide, by decide⟩) hP
  rw [f0, f1, f2, hu3]
  exact SX.mk' (t := leafB ch) (css := fun _ => []) ⟨(show I64 0 from ⟨by decide, by decide⟩), q0, q1, q2, ⟨Nat.le_refl _, by unfold maxLen; exact Nat.zero_le _⟩, fun h0 => absurd h0 (by simp [leafB]), fun i k hk => by simp [leafB] at hk⟩
end Go.Proofs.Ytpmagndofiaooaa
