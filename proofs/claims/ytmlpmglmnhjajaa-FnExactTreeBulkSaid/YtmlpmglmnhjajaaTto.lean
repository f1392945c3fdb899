import Derived.Test.YtmlpmglmnhjajaaTs
import Derived.OwnWalk
namespace Go.Proofs.Ytmlpmglmnhjajaa
open Go.RowKit
set_option linter.unusedVariables false
set_option maxRecDepth 100000

theorem info_string : (Try.prog.info? 9).map (fun i => (i.zero, i.size, i.bytes)) = some (some (.string ByteArray.empty), 1, 16) := by kernel_rfl
theorem info_int64 : (Try.prog.info? 2).map (fun i => (i.zero, i.size, i.bytes)) = some (some (.int .i64 0), 1, 8) := by kernel_rfl
theorem info_TNodeT : (Try.prog.info? 62).map (fun i => (i.zero, i.size, i.bytes)) = some (some (.agg #[.bool false, .int .i64 0, .slice none 0 0, .slice none 0 0, .slice none 0 0, .slice none 0 0]), 6, 112) := by kernel_rfl
theorem set_one {α : Type} {cs : α → List Value} (hc : ∀ x, (cs x).length = 1) {xs : List Value} {n k : Nat} {d p : α} {v : Value} {rs : List α} (hl : rs.length = n) (hk : k < n) (hp : p = rs.getD k d) (hv : cs p = [v]) (hx : xs.length = n * 1) (h : ∀ j, j < k → xs[j]? = (rowsOf cs rs)[j]?) :
    ∀ j, j < k + 1 → (xs.set k v)[j]? = (rowsOf cs rs)[j]? := by
  intro j hj
  have e0 := rowsOf_get hc d rs k 0 (by omega) (by omega)
  by_cases h0 : j = k
  · subst h0
    rw [List.getElem?_set_self (by omega)]
    rw [← hp, hv] at e0
    simpa using e0.symm
  · rw [List.getElem?_set_ne (by omega)]
    exact h j (by omega)
theorem heap_setT {w : World} {b t : Nat} {cs : Array Value} (h : w.heap[b]? = some (.cells cs t (0, 0))) (o : Nat) (v : Value) : (w.setCell ⟨b, o, none⟩ v).heap[b]? = some (.cells (cs.setIfInBounds o v) t (0, 0)) := by
  obtain ⟨hlt, hk⟩ := Array.getElem?_eq_some_iff.1 h
  show (w.heap.modify b _)[b]? = _
  rw [Array.getElem?_eq_getElem (by rw [Array.size_modify]; exact hlt), Array.getElem_modify_self, hk]
  rfl
theorem fr_setT (w : World) (b o : Nat) (v : Value) : Fr (fun k => k = b) w (w.setCell ⟨b, o, none⟩ v) :=
  ⟨rfl, rfl, rfl, by simp [World.setCell], fun k _ hk => by
    show (w.heap.modify b _)[k]? = _
    rw [Array.getElem?_modify, if_neg (fun e => hk e.symm)]⟩
theorem thawT {w : World} {g : Nat} {cs : Array Value} {t : TypeId} (h : w.heap[g]? = some (.cells cs t)) : ∀ o, w.frozen? ⟨g, o, none⟩ = false := by
  intro o; simp [World.frozen?, h]
def put6T (w : World) (N : Nat) (u0 u1 u2 u3 u4 u5 : Value) : World := (((((w.setCell ⟨N, 0, none⟩ u0).setCell ⟨N, 1, none⟩ u1).setCell ⟨N, 2, none⟩ u2).setCell ⟨N, 3, none⟩ u3).setCell ⟨N, 4, none⟩ u4).setCell ⟨N, 5, none⟩ u5
theorem put6T_box {w : World} {N t : Nat} {v0 v1 v2 v3 v4 v5 : Value} (h : w.heap[N]? = some (.cells #[v0, v1, v2, v3, v4, v5] t)) (u0 u1 u2 u3 u4 u5 : Value) : (put6T w N u0 u1 u2 u3 u4 u5).heap[N]? = some (.cells #[u0, u1, u2, u3, u4, u5] t) := by
  simp [put6T, World.setCell, Array.getElem?_modify, h]
theorem put6T_fr (w : World) (N : Nat) (u0 u1 u2 u3 u4 u5 : Value) : Fr (fun x => x = N) w (put6T w N u0 u1 u2 u3 u4 u5) :=
  (((((fr_setT _ _ _ _).trans (fr_setT _ _ _ _)).trans (fr_setT _ _ _ _)).trans (fr_setT _ _ _ _)).trans (fr_setT _ _ _ _)).trans (fr_setT _ _ _ _)
theorem alloc3 (w : World) (a b c : Obj) : (((w.alloc a).alloc b).alloc c).heap[w.heap.size]? = some a ∧ (((w.alloc a).alloc b).alloc c).heap[w.heap.size + 1]? = some b ∧ (((w.alloc a).alloc b).alloc c).heap[w.heap.size + 1 + 1]? = some c := by
  have s1 : (w.alloc a).heap.size = w.heap.size + 1 := by simp
  have s2 : ((w.alloc a).alloc b).heap.size = w.heap.size + 1 + 1 := by simp
  have e1 := heap_alloc_new w a
  have e2 := heap_alloc_new (w.alloc a) b
  have e3 := heap_alloc_new ((w.alloc a).alloc b) c
  have k2 := (Below.refl (w.alloc a).heap.size (w.alloc a)).alloc (Nat.le_refl _) b
  have k3 := (Below.refl ((w.alloc a).alloc b).heap.size ((w.alloc a).alloc b)).alloc (Nat.le_refl _) c
  rw [s1] at e2
  rw [s2] at e3
  exact ⟨(k3.block _ (by omega)).trans ((k2.block _ (by omega)).trans e1), (k3.block _ (by omega)).trans e2, e3⟩
/-- A list that may be written into, from block lo on. -/
def RoomL (w : World) (lo : Nat) (a : Option Addr) (n : Nat) : Prop := 0 < n → ∃ b off, a = some ⟨b, off, none⟩ ∧ (lo ≤ b ∧ b < w.heap.size) ∧ ∀ i, i < n → (∃ v, w.cell? ⟨b, off + i, none⟩ = some v) ∧ w.frozen? ⟨b, off + i, none⟩ = false
theorem RoomL.below {w w' : World} {lo : Nat} {a : Option Addr} {n : Nat} (h : RoomL w lo a n) (hb : Below w.heap.size w w') : RoomL w' lo a n := fun hn => by
  obtain ⟨b, off, e, hl, hc⟩ := h hn
  refine ⟨b, off, e, ⟨hl.1, Nat.lt_of_lt_of_le hl.2 hb.size⟩, fun i hi => ?_⟩
  obtain ⟨⟨v, hv⟩, hf⟩ := hc i hi
  have hk := hb.block b hl.2
  exact ⟨⟨v, (World.cell?_of_block (w := w) (a := ⟨b, off + i, none⟩) hk).trans hv⟩, by simpa [World.frozen?, hk] using hf⟩
theorem room_set (w : World) (p : Addr) (u : Value) (b o : Nat) (h : ∃ v, w.cell? ⟨b, o, none⟩ = some v) (hf : w.frozen? ⟨b, o, none⟩ = false) : (∃ v, (w.setCell p u).cell? ⟨b, o, none⟩ = some v) ∧ (w.setCell p u).frozen? ⟨b, o, none⟩ = false := by
  obtain ⟨v, hv⟩ := h
  by_cases hpb : p.block = b
  · cases hb : w.heap[b]? with
    | none => simp [World.cell?, hb] at hv
    | some ob =>
      cases ob with
      | cells cs t fz =>
        have hm : (w.setCell p u).heap[b]? = some (.cells (if p.spot.isSome then cs else cs.setIfInBounds p.off u) t fz) := by
          show (w.heap.modify p.block _)[b]? = _
          rw [hpb, Array.getElem?_modify, if_pos rfl, hb]
          rfl
        have ho : o < cs.size := by
          simp [World.cell?, hb] at hv
          exact (Array.getElem?_eq_some_iff.1 hv).1
        refine ⟨?_, by simpa [World.frozen?, hm, hb] using hf⟩
        simp only [World.cell?, hm]
        have hs : o < (if p.spot.isSome then cs else cs.setIfInBounds p.off u).size := by
          split
          · exact ho
          · rw [Array.size_setIfInBounds]; exact ho
        have hq := Array.getElem?_eq_getElem hs
        generalize (if p.spot.isSome then cs else cs.setIfInBounds p.off u) = ds at hs hq ⊢
        exact ⟨ds[o], by simp [hq]⟩
      | _ => simp [World.cell?, hb] at hv
  · have hk : (w.setCell p u).heap[b]? = w.heap[b]? := by
      show (w.heap.modify p.block _)[b]? = _
      rw [Array.getElem?_modify, if_neg hpb]
    exact ⟨⟨v, (World.cell?_of_block (w := w) (a := ⟨b, o, none⟩) hk).trans hv⟩, by simpa [World.frozen?, hk] using hf⟩
theorem RoomL.set {w : World} {lo : Nat} {a : Option Addr} {n : Nat} (h : RoomL w lo a n) (p : Addr) (u : Value) : RoomL (w.setCell p u) lo a n := fun hn => by
  obtain ⟨b, off, e, hl, hc⟩ := h hn
  exact ⟨b, off, e, ⟨hl.1, by simpa [World.setCell] using hl.2⟩, fun i hi => room_set w p u b (off + i) (hc i hi).1 (hc i hi).2⟩
theorem RoomL.lower {w : World} {lo lo' : Nat} {a : Option Addr} {n : Nat} (h : RoomL w lo a n) (hl : lo' ≤ lo) : RoomL w lo' a n := fun hn => by
  obtain ⟨b, off, e, h1, hc⟩ := h hn
  exact ⟨b, off, e, ⟨by omega, h1.2⟩, hc⟩
theorem room_of_own {w : World} {base e g n c : Nat} {xs : List Value} (h : w.ownsRow base e 1 (.slice (some ⟨g, 0, none⟩) n c) n xs) : RoomL w base (some ⟨g, 0, none⟩) n := fun hn =>
  ⟨g, 0, rfl, h.lt g rfl, fun i hi => ⟨⟨xs[i]'(by have := h.1; omega), by rw [Nat.zero_add, h.cellAt i (by omega)]; exact List.getElem?_eq_getElem _⟩, by rw [Nat.zero_add]; exact h.frozenAt i⟩⟩
theorem RoomL.put6 {w : World} {lo : Nat} {a : Option Addr} {n : Nat} (h : RoomL w lo a n) (N : Nat) (u0 u1 u2 u3 u4 u5 : Value) : RoomL (put6T w N u0 u1 u2 u3 u4 u5) lo a n := (((((h.set _ u0).set _ u1).set _ u2).set _ u3).set _ u4).set _ u5
end Go.Proofs.Ytmlpmglmnhjajaa
