import Derived.Test.YtpmagndofiaooaaTua
namespace Go.Proofs.Ytpmagndofiaooaa
open Go.RowKit
set_option linter.unusedVariables false
set_option linter.unusedSimpArgs false
set_option maxRecDepth 100000

/-- A list in its shares. -/
def chunksF {α : Type} : Nat → List α → List (List α)
  | 0, _ => []
  | f + 1, l => if l = [] then [] else l.take (shareN l.length) :: chunksF f (l.drop (shareN l.length))
def chunks {α : Type} (l : List α) : List (List α) := chunksF l.length l
/-- A leaf of pairs, all dirty. -/
def leafB (zs : List (ByteArray × ByteArray)) : T := ⟨true, 0, zs.map (fun z => z.1), zs.map (fun z => z.2), zs.map (fun _ => 0), []⟩
def slB (zs : List (ByteArray × ByteArray)) : List (ByteArray × ByteArray × Int) := zs.map (fun z => (z.1, z.2, 0))
theorem slB_zip (zs : List (ByteArray × ByteArray)) : (leafB zs).keys.zip ((leafB zs).vals.zip (leafB zs).over) = slB zs := by
  unfold leafB slB
  induction zs with
  | nil => rfl
  | cons z r ih => simp only [List.map_cons, List.zip_cons_cons]; simp only at ih; rw [ih]
/-- The pairs behind a slice. -/
def PrAt (w : World) (B : Nat) (a : Option Addr) (n c : Nat) (zs : List (ByteArray × ByteArray)) : Prop := zs.length = n ∧ n ≤ c ∧ c ≤ maxLen ∧ (0 < n → ∃ b off, a = some ⟨b, off, none⟩ ∧ b < B ∧ ∀ i, i < n → w.cell? ⟨b, off + i * 2, none⟩ = some (.string (zs.getD i (ByteArray.empty, ByteArray.empty)).1) ∧ w.cell? ⟨b, off + i * 2 + 1, none⟩ = some (.string (zs.getD i (ByteArray.empty, ByteArray.empty)).2))
theorem PrAt.below {w w' : World} {B : Nat} {a : Option Addr} {n c : Nat} {zs : List (ByteArray × ByteArray)} (h : PrAt w B a n c zs) (hb : Below B w w') : PrAt w' B a n c zs := by
  obtain ⟨h1, h2, h3, h4⟩ := h
  refine ⟨h1, h2, h3, fun hn => ?_⟩
  obtain ⟨b, off, e, hlt, hc⟩ := h4 hn
  exact ⟨b, off, e, hlt, fun i hi => ⟨(hb.cell (p := ⟨b, off + i * 2, none⟩) hlt).trans (hc i hi).1, (hb.cell (p := ⟨b, off + i * 2 + 1, none⟩) hlt).trans (hc i hi).2⟩⟩
/-- A leaf that is being filled. -/
structure FlSt (W wr : World) (L j : Nat) (ha : Option Addr) (hc : Nat) (zs : List (ByteArray × ByteArray × Int)) : Prop where
  box : wr.heap[L]? = some (.cells #[.int .i64 0, .slice ha j hc] 98)
  row : wr.ownsRow (L + 1) 86 3 (.slice ha j hc) j (rowsOf slCells zs)
  len : zs.length = j
  bel : Below L W wr
theorem FlSt.below {W wr w2 : World} {L j : Nat} {ha : Option Addr} {hc : Nat} {zs : List (ByteArray × ByteArray × Int)} (h : FlSt W wr L j ha hc zs) (hb : Below wr.heap.size wr w2) : FlSt W w2 L j ha hc zs := by
  have hl := (Array.getElem?_eq_some_iff.1 h.box).1
  exact ⟨boxT_below h.box hb, owns_below h.row hb, h.len, h.bel.trans (hb.mono (by omega))⟩
theorem FlSt.app {W wr w2 : World} {L j g e : Nat} {ha : Option Addr} {hc : Nat} {zs : List (ByteArray × ByteArray × Int)} {z : ByteArray × ByteArray × Int} (h : FlSt W wr L j ha hc zs) (hr : w2.ownsRow (L + 1) 86 3 (.slice (some ⟨g, 0, none⟩) (j + 1) e) (j + 1) (rowsOf slCells zs ++ slCells z)) (hgr : wr.grownBy w2 (Value.slice ha j hc).ownBlock) :
    FlSt W (w2.setCell ⟨L, 1, none⟩ (.slice (some ⟨g, 0, none⟩) (j + 1) e)) L (j + 1) (some ⟨g, 0, none⟩) e (zs ++ [z]) := by
  have hf2 : Fr (fun b => (Value.slice ha j hc).ownBlock = some b) wr w2 := Fr.of_grown hgr (fun b e => e)
  have hf3 : Fr (fun b => b = L) w2 (w2.setCell ⟨L, 1, none⟩ (.slice (some ⟨g, 0, none⟩) (j + 1) e)) := fr_setT w2 L 1 _
  have hb2 := boxT_fr h.box hf2 (fun e => by have := (h.row.lt L e).1; omega)
  have hl := (Array.getElem?_eq_some_iff.1 h.box).1
  refine ⟨by simp [World.setCell, Array.getElem?_modify, hb2], ?_, by simp [h.len], ?_⟩
  · rw [show rowsOf slCells (zs ++ [z]) = rowsOf slCells zs ++ slCells z by simp [rowsOf]]
    exact owns_fr hr hf3 (fun b hb e => by have := (hr.lt b hb).1; omega)
  · refine h.bel.trans ?_
    refine ⟨hf3.os.trans hf2.os, hf3.tape.trans hf2.tape, hf3.output.trans hf2.output, Nat.le_trans hf2.size hf3.size, fun b hb => ?_⟩
    rw [hf3.block b (by have := hf2.size; omega) (by omega), hf2.block b (by omega) (fun e => by have := (h.row.lt b e).1; omega)]
theorem FlSt.leaf {W wr : World} {L : Nat} {ha : Option Addr} {hc : Nat} {zs : List (ByteArray × ByteArray)} {P : Nat → Prop} (h : FlSt W wr L zs.length ha hc (slB zs)) (hP : ∀ b, L ≤ b → b < wr.heap.size → P b) : GIs wr P (leafB zs) (.iface 94 (.pointer (some ⟨L, 0, none⟩))) := by
  have hl := (Array.getElem?_eq_some_iff.1 h.box).1
  refine GLeaf.is ⟨hP L (Nat.le_refl _) hl, h.box, ?_, by simp [leafB]⟩ rfl
  rw [slB_zip]
  rcases h.row.2 with ⟨e, e2⟩ | ⟨g, cap, cur, e, hg1, hg2, h1, h2, _⟩
  · simp only [Value.slice.injEq] at e
    obtain ⟨rfl, _, rfl⟩ := e
    exact ⟨h.len, by omega, by unfold maxLen; omega, fun hn => absurd hn (by omega)⟩
  · have e9 := e
    simp only [Value.slice.injEq] at e
    obtain ⟨rfl, _, rfl⟩ := e
    refine ⟨h.len, h1, h2, fun hn => ⟨g, rfl, hP g (by have := (h.row.lt g rfl).1; omega) (h.row.lt g rfl).2, fun r hr => ?_⟩⟩
    rw [h.row.cellAt r (by omega)]
theorem sl_snoc (zs : List (ByteArray × ByteArray)) (s j : Nat) (hj : j < s) (hs : s ≤ zs.length) : slB (zs.take (j + 1)) = slB (zs.take j) ++ [((zs.getD j (ByteArray.empty, ByteArray.empty)).1, (zs.getD j (ByteArray.empty, ByteArray.empty)).2, 0)] := by
  have hlt : j < zs.length := by omega
  unfold slB
  rw [List.take_succ_eq_append_getElem hlt, List.map_append]
  simp [List.getD, hlt]
theorem info_nodeU : (Try.prog.info? 70).map (fun i => (i.zero, i.size, i.bytes)) = some (some .nilIface, 1, 16) := by kernel_rfl
theorem info_slotU : (Try.prog.info? 86).map (fun i => (i.zero, i.size, i.bytes)) = some (some (.agg #[.string ByteArray.empty, .string ByteArray.empty, .int .i64 0]), 3, 40) := by kernel_rfl
/-- The nodes of a level in a row of one's own. -/
structure LvSt (w0 wr : World) (lo m c : Nat) (a : Option Addr) (ts : List T) (us : List Value) : Prop where
  row : wr.ownsRow lo 70 1 (.slice a m c) m us
  len : ts.length = m
  node : ∀ (i : Nat) (t : T), ts[i]? = some t → ∃ u, us[i]? = some u ∧ GIs wr (fun b => lo ≤ b ∧ b < wr.heap.size ∧ (Value.slice a m c).ownBlock ≠ some b) t u
  bel : Below lo w0 wr
theorem LvSt.below {w0 wr w2 : World} {lo m c : Nat} {a : Option Addr} {ts : List T} {us : List Value} (h : LvSt w0 wr lo m c a ts us) (hlo : lo ≤ wr.heap.size) (hb : Below wr.heap.size wr w2) : LvSt w0 w2 lo m c a ts us := by
  refine ⟨owns_below h.row hb, h.len, fun i t hi => ?_, h.bel.trans (hb.mono hlo)⟩
  obtain ⟨u, e, hG⟩ := h.node i t hi
  exact ⟨u, e, GIs.keep (fun b hp => hb.block b hp.2.1) (fun b hp => ⟨hp.1, Nat.lt_of_lt_of_le hp.2.1 hb.size, hp.2.2⟩) t u hG⟩
theorem LvSt.push {w0 wr w2 w3 : World} {lo m c g e : Nat} {a : Option Addr} {ts : List T} {us : List Value} {t : T} {u : Value} (h : LvSt w0 wr lo m c a ts us) (hlo : lo ≤ wr.heap.size) (hb : Below wr.heap.size wr w2) (hG : GIs w2 (fun b => wr.heap.size ≤ b ∧ b < w2.heap.size) t u)
    (hr : w3.ownsRow lo 70 1 (.slice (some ⟨g, 0, none⟩) (m + 1) e) (m + 1) (us ++ [u])) (hgr : w2.grownBy w3 (Value.slice a m c).ownBlock) (hat : (Value.slice (some ⟨g, 0, none⟩) (m + 1) e).ownBlock = (Value.slice a m c).ownBlock ∨ ∀ b, (Value.slice (some ⟨g, 0, none⟩) (m + 1) e).ownBlock = some b → w2.heap.size ≤ b) :
    LvSt w0 w3 lo (m + 1) e (some ⟨g, 0, none⟩) (ts ++ [t]) (us ++ [u]) := by
  have h2 := h.below hlo hb
  have hf3 : Fr (fun b => (Value.slice a m c).ownBlock = some b) w2 w3 := Fr.of_grown hgr (fun b e => e)
  have hul : us.length = m := by have := h.row.1; omega
  have hnew : ∀ b, b < w2.heap.size → (Value.slice a m c).ownBlock ≠ some b → (Value.slice (some ⟨g, 0, none⟩) (m + 1) e).ownBlock ≠ some b := fun b hb2 hne => by
    rcases hat with e1 | e1
    · rw [e1]; exact hne
    · intro e2; have := e1 b e2; omega
  refine ⟨hr, by simp [h.len], fun i x hi => ?_, h2.bel.trans (hf3.below (Nat.le_trans hlo hb.size) (fun b e => (h2.row.lt b e).1))⟩
  by_cases hin : i < ts.length
  · rw [List.getElem?_append_left hin] at hi
    obtain ⟨v, e1, hGv⟩ := h2.node i x hi
    refine ⟨v, by rw [List.getElem?_append_left (by rw [hul, ← h.len]; exact hin)]; exact e1, GIs.keep (fun b hp => hf3.block b hp.2.1 (fun e => hp.2.2 e)) (fun b hp => ⟨hp.1, Nat.lt_of_lt_of_le hp.2.1 hf3.size, hnew b hp.2.1 hp.2.2⟩) x v hGv⟩
  · have hie : i = ts.length := by
      have := (List.getElem?_eq_some_iff.1 hi).1
      simp at this; omega
    subst hie
    rw [List.getElem?_append_right (Nat.le_refl _), Nat.sub_self] at hi
    simp at hi
    subst hi
    have hold : ∀ b, wr.heap.size ≤ b → (Value.slice a m c).ownBlock ≠ some b := fun b hb2 e => by have := (h.row.lt b e).2; omega
    refine ⟨u, by rw [List.getElem?_append_right (by rw [hul, h.len]; exact Nat.le_refl _), hul, h.len, Nat.sub_self]; rfl, GIs.keep (fun b hp => hf3.block b hp.2 (fun e => hold b hp.1 e)) (fun b hp => ⟨Nat.le_trans hlo hp.1, Nat.lt_of_lt_of_le hp.2 hf3.size, hnew b hp.2 (hold b hp.1)⟩) t u hG⟩
end Go.Proofs.Ytpmagndofiaooaa
