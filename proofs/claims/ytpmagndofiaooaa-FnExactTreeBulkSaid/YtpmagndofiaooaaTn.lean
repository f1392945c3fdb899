import Derived.Test.YtpmagndofiaooaaTs
import Derived.Test.YtpmagndofiaooaaTpv
namespace Go.Proofs.Ytpmagndofiaooaa
open Go.RowKit
set_option linter.unusedVariables false
set_option maxRecDepth 100000

/-- The cells of a node of the document's: its lists in the blocks from A to B, its children in blocks of P. -/
def NodeIs (w : World) (A B : Nat) (P : Nat → Prop) : T → List Value → Prop
  | ⟨l, p, k, v, o, y⟩, cs => ∃ (ka : Option Addr) (kn kc : Nat) (va : Option Addr) (vn vc : Nat) (oa : Option Addr) (on oc : Nat) (ya : Option Addr) (yc : Nat) (css : Nat → List Value), cs = [.bool l, .int .i64 p, .slice ka kn kc, .slice va vn vc, .slice oa on oc, .slice ya y.length yc] ∧ I64 p ∧ StrsAt w A B ka kn kc k ∧ StrsAt w A B va vn vc v ∧ IntsAt w A B oa on oc o ∧ (y.length ≤ yc ∧ yc ≤ maxLen) ∧
    (0 < y.length → ∃ b off, ya = some ⟨b, off, none⟩ ∧ P b ∧ ∀ i, i < y.length → ∀ j, j < 6 → w.cell? ⟨b, off + i * 6 + j, none⟩ = (css i)[j]?) ∧ ∀ i, ∀ t ∈ y, y[i]? = some t → NodeIs w A B P t (css i)
structure NodeX (w : World) (A B : Nat) (P : Nat → Prop) (t : T) (ka : Option Addr) (kn kc : Nat) (va : Option Addr) (vn vc : Nat) (oa : Option Addr) (on oc : Nat) (ya : Option Addr) (yc : Nat) (css : Nat → List Value) : Prop where
  page : I64 t.page
  keys : StrsAt w A B ka kn kc t.keys
  vals : StrsAt w A B va vn vc t.vals
  over : IntsAt w A B oa on oc t.over
  cap : t.kids.length ≤ yc ∧ yc ≤ maxLen
  cell : 0 < t.kids.length → ∃ b off, ya = some ⟨b, off, none⟩ ∧ P b ∧ ∀ i, i < t.kids.length → ∀ j, j < 6 → w.cell? ⟨b, off + i * 6 + j, none⟩ = (css i)[j]?
  kid : ∀ i, ∀ k ∈ t.kids, t.kids[i]? = some k → NodeIs w A B P k (css i)
theorem NodeIs.out {w : World} {A B : Nat} {P : Nat → Prop} {t : T} {cs : List Value} (h : NodeIs w A B P t cs) : ∃ ka kn kc va vn vc oa on oc ya yc css, cs = [.bool t.leaf, .int .i64 t.page, .slice ka kn kc, .slice va vn vc, .slice oa on oc, .slice ya t.kids.length yc] ∧ NodeX w A B P t ka kn kc va vn vc oa on oc ya yc css := by
  obtain ⟨l, p, k, v, o, y⟩ := t
  rw [NodeIs.eq_def] at h
  obtain ⟨ka, kn, kc, va, vn, vc, oa, on, oc, ya, yc, css, e, h1, h2, h3, h4, h5, h6, h7⟩ := h
  exact ⟨ka, kn, kc, va, vn, vc, oa, on, oc, ya, yc, css, e, h1, h2, h3, h4, h5, h6, h7⟩
theorem NodeX.mk' {w : World} {A B : Nat} {P : Nat → Prop} {t : T} {ka : Option Addr} {kn kc : Nat} {va : Option Addr} {vn vc : Nat} {oa : Option Addr} {on oc : Nat} {ya : Option Addr} {yc : Nat} {css : Nat → List Value} (h : NodeX w A B P t ka kn kc va vn vc oa on oc ya yc css) : NodeIs w A B P t [.bool t.leaf, .int .i64 t.page, .slice ka kn kc, .slice va vn vc, .slice oa on oc, .slice ya t.kids.length yc] := by
  obtain ⟨l, p, k, v, o, y⟩ := t
  rw [NodeIs.eq_def]
  exact ⟨ka, kn, kc, va, vn, vc, oa, on, oc, ya, yc, css, rfl, h.page, h.keys, h.vals, h.over, h.cap, h.cell, h.kid⟩
theorem NodeIs.keep {w w' : World} {A B A' B' : Nat} {P Q : Nat → Prop} (hk : Keeps A B w w') (hp : ∀ b, P b → w'.heap[b]? = w.heap[b]?) (hQ : ∀ b, P b → Q b) (hA : A' ≤ A) (hB : B ≤ B') : ∀ t cs, NodeIs w A B P t cs → NodeIs w' A' B' Q t cs := by
  intro t
  induction t using T.ind with
  | h t ih =>
    intro cs h
    obtain ⟨ka, kn, kc, va, vn, vc, oa, on, oc, ya, yc, css, rfl, h1, h2, h3, h4, h5, h6, h7⟩ := h.out
    refine NodeX.mk' (css := css) ⟨h1, (h2.keep hk).up hA hB, (h3.keep hk).up hA hB, (h4.keep hk).up hA hB, h5, fun hn => ?_, fun i k hm hi => ih k hm _ (h7 i k hm hi)⟩
    obtain ⟨b, off, e, hb, hc⟩ := h6 hn
    exact ⟨b, off, e, hQ b hb, fun i hi j hj => (World.cell?_of_block (w := w) (a := ⟨b, off + i * 6 + j, none⟩) (hp b hb)).trans (hc i hi j hj)⟩
/-- All of it lies below C. -/
abbrev NodeC (w : World) (C : Nat) (t : T) (cs : List Value) : Prop := NodeIs w 0 C (fun b => b < C) t cs
theorem NodeC.below {w w' : World} {C : Nat} {t : T} {cs : List Value} (h : NodeC w C t cs) (hb : Below C w w') : NodeC w' C t cs :=
  NodeIs.keep (.of_below hb) (fun b hb' => hb.block b hb') (fun _ h => h) (Nat.le_refl _) (Nat.le_refl _) t cs h
/-- The cells of a child. -/
theorem NodeX.at {w : World} {A B : Nat} {P : Nat → Prop} {t : T} {ka : Option Addr} {kn kc : Nat} {va : Option Addr} {vn vc : Nat} {oa : Option Addr} {on oc : Nat} {ya : Option Addr} {yc : Nat} {css : Nat → List Value} (h : NodeX w A B P t ka kn kc va vn vc oa on oc ya yc css) {i : Nat} (hi : i < t.kids.length) :
    ∃ b off, ya = some ⟨b, off, none⟩ ∧ P b ∧ ∃ k, t.kids[i]? = some k ∧ k ∈ t.kids ∧ ∃ ka kn kc va vn vc oa on oc ya yc css, NodeX w A B P k ka kn kc va vn vc oa on oc ya yc css ∧
      w.cell? ⟨b, off + i * 6, none⟩ = some (.bool k.leaf) ∧ w.cell? ⟨b, off + i * 6 + 1, none⟩ = some (.int .i64 k.page) ∧ w.cell? ⟨b, off + i * 6 + 2, none⟩ = some (.slice ka kn kc) ∧ w.cell? ⟨b, off + i * 6 + 3, none⟩ = some (.slice va vn vc) ∧ w.cell? ⟨b, off + i * 6 + 4, none⟩ = some (.slice oa on oc) ∧ w.cell? ⟨b, off + i * 6 + 5, none⟩ = some (.slice ya k.kids.length yc) := by
  obtain ⟨b, off, e, hb, hc⟩ := h.cell (by omega)
  have hk : t.kids[i]? = some t.kids[i] := List.getElem?_eq_getElem hi
  have hm : t.kids[i] ∈ t.kids := List.getElem_mem hi
  obtain ⟨ka, kn, kc, va, vn, vc, oa, on, oc, ya, yc, css', e2, hx⟩ := (h.kid i _ hm hk).out
  have hc := hc i hi
  rw [e2] at hc
  exact ⟨b, off, e, hb, _, hk, hm, ka, kn, kc, va, vn, vc, oa, on, oc, ya, yc, css', hx, by simpa using hc 0 (by omega), by simpa using hc 1 (by omega), by simpa using hc 2 (by omega), by simpa using hc 3 (by omega), by simpa using hc 4 (by omega), by simpa using hc 5 (by omega)⟩
theorem NodeX.belowC {w w' : World} {C : Nat} {t : T} {ka : Option Addr} {kn kc : Nat} {va : Option Addr} {vn vc : Nat} {oa : Option Addr} {on oc : Nat} {ya : Option Addr} {yc : Nat} {css : Nat → List Value} (h : NodeX w 0 C (fun b => b < C) t ka kn kc va vn vc oa on oc ya yc css) (hb : Below C w w') : NodeX w' 0 C (fun b => b < C) t ka kn kc va vn vc oa on oc ya yc css :=
  ⟨h.page, h.keys.below hb, h.vals.below hb, h.over.below hb, h.cap, fun hn => by
    obtain ⟨b, off, e, hb', hc⟩ := h.cell hn
    exact ⟨b, off, e, hb', fun i hi j hj => (World.cell?_of_block (w := w) (a := ⟨b, off + i * 6 + j, none⟩) (hb.block b hb')).trans (hc i hi j hj)⟩, fun i k hm hi => (show NodeC w C k (css i) from h.kid i k hm hi).below hb⟩
/-- A call at a node: what is said of every node that lies below C, at every later world. -/
def AtNode (f : Nat) (C : Nat) (t : T) (more : Array Value) (Q : World → Ending → World → Prop) : Prop :=
  ∀ w ka kn kc va vn vc oa on oc ya yc css, C ≤ w.heap.size → NodeX w 0 C (fun b => b < C) t ka kn kc va vn vc oa on oc ya yc css →
    Calls Try.prog f (#[.agg #[.bool t.leaf, .int .i64 t.page, .slice ka kn kc, .slice va vn vc, .slice oa on oc, .slice ya t.kids.length yc]] ++ more) w (Q w)
end Go.Proofs.Ytpmagndofiaooaa
