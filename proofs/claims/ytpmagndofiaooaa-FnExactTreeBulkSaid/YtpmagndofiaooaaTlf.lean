import Derived.Test.YtpmagndofiaooaaTle
namespace Go.Proofs.Ytpmagndofiaooaa
open Go.RowKit
set_option linter.unusedVariables false
set_option linter.unusedSimpArgs false
set_option maxRecDepth 100000

/-- The cells of the children, one behind the other. -/
def rowsC (css : Nat → List Value) (m : Nat) : List Value := (List.range m).flatMap css
theorem rowsC_succ (css : Nat → List Value) (m : Nat) : rowsC css (m + 1) = rowsC css m ++ css m := by
  simp [rowsC, List.range_succ]
theorem rowsC_congr {css cs2 : Nat → List Value} {m : Nat} (h : ∀ i, i < m → cs2 i = css i) : rowsC cs2 m = rowsC css m := by
  induction m with
  | zero => rfl
  | succ m ih => rw [rowsC_succ, rowsC_succ, ih (fun i hi => h i (by omega)), h m (by omega)]
theorem rowsC_get {css : Nat → List Value} {m : Nat} (h : ∀ i, i < m → (css i).length = 6) : (rowsC css m).length = m * 6 ∧ ∀ i j, i < m → j < 6 → (rowsC css m)[i * 6 + j]? = (css i)[j]? := by
  induction m with
  | zero => exact ⟨rfl, fun i j hi => by omega⟩
  | succ m ih =>
    obtain ⟨h1, h2⟩ := ih (fun i hi => h i (by omega))
    rw [rowsC_succ]
    refine ⟨by rw [List.length_append, h1, h m (by omega)]; omega, fun i j hi hj => ?_⟩
    by_cases him : i = m
    · subst him
      rw [List.getElem?_append_right (by omega), h1, show i * 6 + j - i * 6 = j by omega]
    · rw [List.getElem?_append_left (by omega)]
      exact h2 i j (by omega) hj
/-- The state while the children are read. -/
structure RSt (w wr : World) (A B Wk N : Nat) (wcs xcs : Array Value) (pg : Int) (va : Option Addr) (vn vc : Nat) (oa : Option Addr) (on oc : Nat) (zs : List T) (ra : Option Addr) (rc : Nat) (css : Nat → List Value) : Prop where
  sz : w.heap.size = N
  wk : wr.heap[Wk]? = some (.cells wcs 111)
  rb : wr.heap[N]? = some (.cells #[.bool false, .int .i64 0, .slice none 0 0, .slice none 0 0, .slice none 0 0, .slice none 0 0] 61)
  xb : wr.heap[N + 1]? = some (.cells xcs 92)
  nb : wr.heap[N + 2]? = some (.cells #[.bool false, .int .i64 pg, .slice (some ⟨N + 3, 0, none⟩) 0 0, .slice va vn vc, .slice oa on oc, .slice ra zs.length rc] 61)
  row : wr.ownsRow (N + 4) 61 6 (.slice ra zs.length rc) zs.length (rowsC css zs.length)
  kid : ∀ i z, zs[i]? = some z → (css i).length = 6 ∧ NodeIs wr A B (fun b => N + 3 ≤ b ∧ b < wr.heap.size ∧ ∀ g, (Value.slice ra zs.length rc).ownBlock = some g → b ≠ g) z (css i)
  fr : Fr (fun g => g = Wk) w wr
  wlt : Wk < N
  blk : B ≤ Wk
  lt : N + 3 < wr.heap.size
theorem RSt.call {w wr w1 : World} {A B Wk N : Nat} {wcs xcs wcs' : Array Value} {pg : Int} {va : Option Addr} {vn vc : Nat} {oa : Option Addr} {on oc : Nat} {zs : List T} {ra : Option Addr} {rc : Nat} {css : Nat → List Value} (h : RSt w wr A B Wk N wcs xcs pg va vn vc oa on oc zs ra rc css) (hf : Fr (fun g => g = Wk) wr w1) (hw : w1.heap[Wk]? = some (.cells wcs' 111)) : RSt w w1 A B Wk N wcs' xcs pg va vn vc oa on oc zs ra rc css := by
  have l := h.lt
  have l2 := h.wlt
  have l3 := h.blk
  refine ⟨h.sz, hw, (hf.block N (by omega) (by omega)).trans h.rb, (hf.block (N + 1) (by omega) (by omega)).trans h.xb, (hf.block (N + 2) (by omega) (by omega)).trans h.nb, owns_fr h.row hf (fun g hg e => ?_), fun i z hz => ⟨(h.kid i z hz).1, ?_⟩, h.fr.trans hf, h.wlt, h.blk, Nat.lt_of_lt_of_le l hf.size⟩
  · have := (h.row.lt g hg).1
    omega
  · refine NodeIs.keep (fun k h1 h2 => hf.block k (by omega) (by omega)) (fun b hb => hf.block b hb.2.1 (by omega)) (fun b hb => ⟨hb.1, Nat.lt_of_lt_of_le hb.2.1 hf.size, hb.2.2⟩) (Nat.le_refl _) (Nat.le_refl _) z _ (h.kid i z hz).2
theorem RSt.below {w wr w1 : World} {A B Wk N : Nat} {wcs xcs : Array Value} {pg : Int} {va : Option Addr} {vn vc : Nat} {oa : Option Addr} {on oc : Nat} {zs : List T} {ra : Option Addr} {rc : Nat} {css : Nat → List Value} (h : RSt w wr A B Wk N wcs xcs pg va vn vc oa on oc zs ra rc css) (hb : Below wr.heap.size wr w1) : RSt w w1 A B Wk N wcs xcs pg va vn vc oa on oc zs ra rc css :=
  h.call (Fr.of_below hb) ((hb.block Wk (by have := h.lt; have := h.wlt; omega)).trans h.wk)
/-- One more child. -/
theorem RSt.push {w w3 w4 : World} {A B Wk N : Nat} {wcs xcs : Array Value} {pg : Int} {va : Option Addr} {vn vc : Nat} {oa : Option Addr} {on oc : Nat} {zs : List T} {ra : Option Addr} {rc : Nat} {css : Nat → List Value} {t : T} {kcs : List Value} {v' : Value} (h : RSt w w3 A B Wk N wcs xcs pg va vn vc oa on oc zs ra rc css) (hk6 : kcs.length = 6) (hk : NodeIs w3 A B (fun b => N + 3 ≤ b ∧ b < w3.heap.size ∧ ∀ g, (Value.slice ra zs.length rc).ownBlock = some g → b ≠ g) t kcs)
    (hown : w4.ownsRow (N + 4) 61 6 v' (zs.length + 1) (rowsC css zs.length ++ kcs)) (hgr : w3.grownBy w4 (Value.slice ra zs.length rc).ownBlock) (hat : v'.ownBlock = (Value.slice ra zs.length rc).ownBlock ∨ ∀ g, v'.ownBlock = some g → w3.heap.size ≤ g) :
    ∃ ra' rc', v' = .slice ra' (zs.length + 1) rc' ∧ RSt w (w4.setCell ⟨N + 2, 5, none⟩ v') A B Wk N wcs xcs pg va vn vc oa on oc (zs ++ [t]) ra' rc' (fun i => if i = zs.length then kcs else css i) := by
  obtain ⟨ra', rc', rfl⟩ := own_shape hown
  refine ⟨ra', rc', rfl, ?_⟩
  have l := h.lt
  have l2 := h.wlt
  have l3 := h.blk
  have hrow := fun g hg => (h.row.lt g hg)
  have hzl : (zs ++ [t]).length = zs.length + 1 := by simp
  have hG : ∀ k, k < w3.heap.size → (∀ g, (Value.slice ra zs.length rc).ownBlock = some g → k ≠ g) → w4.heap[k]? = w3.heap[k]? := fun k hk1 hk2 => hgr.block k hk1 (fun e => hk2 k e.symm rfl)
  have hlow : ∀ k, k < N + 4 → (∀ g, (Value.slice ra zs.length rc).ownBlock = some g → k ≠ g) := fun k hk1 g hg => by have := (hrow g hg).1; omega
  have hset := fr_setT w4 (N + 2) 5 (.slice ra' (zs.length + 1) rc')
  have hs4 := hgr.size
  have hG5 : ∀ k, k < w3.heap.size → k ≠ N + 2 → (∀ g, (Value.slice ra zs.length rc).ownBlock = some g → k ≠ g) → (w4.setCell ⟨N + 2, 5, none⟩ (.slice ra' (zs.length + 1) rc')).heap[k]? = w3.heap[k]? := fun k hk1 hk2 hk3 => (hset.block k (by omega) hk2).trans (hG k hk1 hk3)
  have hs5 : (w4.setCell ⟨N + 2, 5, none⟩ (.slice ra' (zs.length + 1) rc')).heap.size = w4.heap.size := by simp [World.setCell]
  have hnew : ∀ g, (Value.slice ra' (zs.length + 1) rc').ownBlock = some g → ∀ b, b < w3.heap.size → (∀ g, (Value.slice ra zs.length rc).ownBlock = some g → b ≠ g) → b ≠ g := by
    intro g hg b hb1 hb2
    rcases hat with e | e
    · rw [e] at hg
      exact hb2 g hg
    · have := e g hg
      omega
  have hkeep : Keeps A B w3 (w4.setCell ⟨N + 2, 5, none⟩ (.slice ra' (zs.length + 1) rc')) := fun k h1 h2 => hG5 k (by omega) (by omega) (hlow k (by omega))
  have hnode : ∀ z cs, NodeIs w3 A B (fun b => N + 3 ≤ b ∧ b < w3.heap.size ∧ ∀ g, (Value.slice ra zs.length rc).ownBlock = some g → b ≠ g) z cs → NodeIs (w4.setCell ⟨N + 2, 5, none⟩ (.slice ra' (zs.length + 1) rc')) A B (fun b => N + 3 ≤ b ∧ b < (w4.setCell ⟨N + 2, 5, none⟩ (.slice ra' (zs.length + 1) rc')).heap.size ∧ ∀ g, (Value.slice ra' (zs ++ [t]).length rc').ownBlock = some g → b ≠ g) z cs := fun z cs hz =>
    NodeIs.keep hkeep (fun b hb => hG5 b hb.2.1 (by omega) hb.2.2) (fun b hb => ⟨hb.1, by rw [hs5]; omega, fun g hg => hnew g (by rw [hzl] at hg; exact hg) b hb.2.1 hb.2.2⟩) (Nat.le_refl _) (Nat.le_refl _) z cs hz
  refine ⟨h.sz, (hG5 Wk (by omega) (by omega) (hlow Wk (by omega))).trans h.wk, (hG5 N (by omega) (by omega) (hlow N (by omega))).trans h.rb, (hG5 (N + 1) (by omega) (by omega) (hlow (N + 1) (by omega))).trans h.xb, ?_, ?_, fun i z hz => ?_, ?_, h.wlt, h.blk, by rw [hs5]; omega⟩
  · have := heap_setT ((hG (N + 2) (by omega) (hlow (N + 2) (by omega))).trans h.nb) 5 (.slice ra' (zs.length + 1) rc')
    rw [hzl]
    simpa using this
  · rw [hzl, rowsC_succ, if_pos rfl, rowsC_congr (css := css) (fun i hi => if_neg (by omega))]
    exact owns_set hown (fun g hg e => by
      have := (hown.lt g hg).1
      have e' : N + 2 = g := e
      omega) _
  · by_cases hi : i = zs.length
    · subst hi
      rw [List.getElem?_append_right (Nat.le_refl _)] at hz
      simp at hz
      subst hz
      simp only [if_true]
      exact ⟨hk6, hnode t kcs hk⟩
    · have hi2 : i < zs.length := by
        have := (List.getElem?_eq_some_iff.1 hz).1
        simp at this
        omega
      rw [List.getElem?_append_left hi2] at hz
      simp only [hi, if_false]
      exact ⟨(h.kid i z hz).1, hnode z _ (h.kid i z hz).2⟩
  · have hfr := h.fr
    exact ⟨hset.os.trans (hgr.os.trans hfr.os), hset.tape.trans (hgr.tape.trans hfr.tape), hset.output.trans (hgr.output.trans hfr.output), Nat.le_trans hfr.size (Nat.le_trans hgr.size hset.size), fun k hk1 hk2 => (hG5 k (by have := hfr.size; omega) (by have := h.sz; omega) (hlow k (by have := h.sz; omega))).trans (hfr.block k hk1 hk2)⟩
/-- The node that is told in the end. -/
theorem RSt.node {w wr : World} {A B Wk N : Nat} {wcs xcs : Array Value} {pg : Int} {va : Option Addr} {vn vc : Nat} {oa : Option Addr} {on oc : Nat} {zs : List T} {ra : Option Addr} {rc : Nat} {css : Nat → List Value} {vs : List ByteArray} {os : List Int} (h : RSt w wr A B Wk N wcs xcs pg va vn vc oa on oc zs ra rc css) (hp : I64 pg) (hv : StrsAt wr A B va vn vc vs) (ho : IntsAt wr A B oa on oc os) (hm : zs.length ≤ maxLen) :
    NodeX wr A B (fun b => N + 3 ≤ b ∧ b < wr.heap.size) ⟨false, pg, [], vs, os, zs⟩ (some ⟨N + 3, 0, none⟩) 0 0 va vn vc oa on oc ra rc css := by
  have hlen := (rowsC_get (css := css) (m := zs.length) (fun i hi => (h.kid i zs[i] (List.getElem?_eq_getElem hi)).1)).2
  have hz := h.sz
  refine ⟨hp, ⟨rfl, Nat.le_refl _, Nat.zero_le _, fun i hi => by omega, fun h => by omega⟩, hv, ho, ?_, fun hn => ?_, fun i k hk hi => ?_⟩
  · rcases h.row.2 with ⟨e, e2⟩ | ⟨g, cap, cur, e, _, _, h1, h2, _⟩
    · simp only [Value.slice.injEq] at e
      obtain ⟨_, e3, e4⟩ := e
      exact ⟨by show zs.length ≤ rc; omega, by omega⟩
    · simp only [Value.slice.injEq] at e
      obtain ⟨_, _, rfl⟩ := e
      exact ⟨h1, h2⟩
  · have hn : 0 < zs.length := hn
    rcases h.row.2 with ⟨e, e2⟩ | ⟨g, cap, cur, e, hg1, hg2, _⟩
    · omega
    · simp only [Value.slice.injEq] at e
      obtain ⟨rfl, _, rfl⟩ := e
      have hlt := h.row.lt g rfl
      refine ⟨g, 0, rfl, ⟨by omega, hlt.2⟩, fun i hi j hj => ?_⟩
      have hi : i < zs.length := hi
      rw [Nat.zero_add, h.row.cellAt (i * 6 + j) (by omega)]
      exact hlen i j hi hj
  · exact NodeIs.keep (Keeps.refl _ _ _) (fun _ _ => rfl) (fun b hb => ⟨hb.1, hb.2.1⟩) (Nat.le_refl _) (Nat.le_refl _) k _ (h.kid i k hi).2
theorem NodeX.weaken {w w' : World} {A B : Nat} {P Q : Nat → Prop} {t : T} {ka : Option Addr} {kn kc : Nat} {va : Option Addr} {vn vc : Nat} {oa : Option Addr} {on oc : Nat} {ya : Option Addr} {yc : Nat} {css : Nat → List Value} (h : NodeX w A B P t ka kn kc va vn vc oa on oc ya yc css) (hk : Keeps A B w w') (hp : ∀ b, P b → w'.heap[b]? = w.heap[b]?) (hQ : ∀ b, P b → Q b) : NodeX w' A B Q t ka kn kc va vn vc oa on oc ya yc css :=
  ⟨h.page, h.keys.keep hk, h.vals.keep hk, h.over.keep hk, h.cap, fun hn => by
    obtain ⟨b, off, e, hb, hc⟩ := h.cell hn
    exact ⟨b, off, e, hQ b hb, fun i hi j hj => (World.cell?_of_block (w := w) (a := ⟨b, off + i * 6 + j, none⟩) (hp b hb)).trans (hc i hi j hj)⟩, fun i k hm hi => NodeIs.keep hk hp hQ (Nat.le_refl _) (Nat.le_refl _) k _ (h.kid i k hm hi)⟩
/-- The end of a reading. -/
theorem RSt.fin {ts : List TN} {f nx : Nat} {a : Option Addr} {n c : Nat} {nj : Nat} {bad : Bool} {w wr : World} {A B Wk N : Nat} {xcs : Array Value} {pg : Int} {va : Option Addr} {vn vc : Nat} {oa : Option Addr} {on oc : Nat} {zs : List T} {ra : Option Addr} {rc : Nat} {css : Nat → List Value} {vs : List ByteArray} {os : List Int} (h : RSt w wr A B Wk N #[.slice a n c, .int .i64 nj, .bool bad] xcs pg va vn vc oa on oc zs ra rc css) (hp : I64 pg) (hv : StrsAt wr A B va vn vc vs) (ho : IntsAt wr A B oa on oc os) (hm : zs.length ≤ maxLen)
    (hrd : rd ts f nx = (⟨false, pg, [], vs, os, zs⟩, nj, bad)) :
    ReadAt ts f nx a n c A B Wk w (.returned (.agg #[.bool false, .int .i64 pg, .slice (some ⟨N + 3, 0, none⟩) 0 0, .slice va vn vc, .slice oa on oc, .slice ra zs.length rc])) (put6T wr N (.bool false) (.int .i64 pg) (.slice (some ⟨N + 3, 0, none⟩) 0 0) (.slice va vn vc) (.slice oa on oc) (.slice ra zs.length rc)) := by
  have hfr := put6T_fr wr N (.bool false) (.int .i64 pg) (.slice (some ⟨N + 3, 0, none⟩) 0 0) (.slice va vn vc) (.slice oa on oc) (.slice ra zs.length rc)
  have l := h.lt
  have l2 := h.wlt
  have l3 := h.blk
  have hX := h.node hp hv ho hm
  have hsz := h.sz
  refine ⟨⟨some ⟨N + 3, 0, none⟩, 0, 0, va, vn, vc, oa, on, oc, ra, rc, css, ?_, ?_⟩, ?_, ?_⟩
  · rw [hrd]
  · rw [hrd]
    exact hX.weaken (fun k h1 h2 => hfr.block k (by omega) (by omega)) (fun b hb => hfr.block b hb.2 (by omega)) (fun b hb => ⟨by omega, Nat.lt_of_lt_of_le hb.2 hfr.size⟩)
  · rw [hrd]
    exact (hfr.block Wk (by omega) (by omega)).trans h.wk
  · exact ⟨hfr.os.trans h.fr.os, hfr.tape.trans h.fr.tape, hfr.output.trans h.fr.output, Nat.le_trans h.fr.size hfr.size, fun k hk1 hk2 => (hfr.block k (by omega) (by omega)).trans (h.fr.block k hk1 hk2)⟩
end Go.Proofs.Ytpmagndofiaooaa
