import Derived.Test.YtkllanapbcbnjabCs
namespace Go.Proofs.Ytkllanapbcbnjab
open Go.RowKit
set_option linter.unusedVariables false
set_option maxRecDepth 100000

theorem own_lowerC {w : World} {b b' e size : Nat} {v : Value} {n : Nat} {xs : List Value} (h : w.ownsRow b e size v n xs) (hb : b' ≤ b) : w.ownsRow b' e size v n xs := own_lowerD h hb
theorem OwnF.lower {w : World} {base base' : Nat} {v : Value} {fs : List PF} {xs vs : List Value} (h : OwnF w base v fs xs vs) (hb : base' ≤ base) : OwnF w base' v fs xs vs :=
  ⟨own_lowerC h.row hb, h.len, h.name, h.val, fun j hj => own_lowerC (h.data j hj) hb, h.byte, h.apart⟩
theorem OwnP.lower {w : World} {base base' : Nat} {v : Value} {fs : List PP} {xs vs : List Value} (h : OwnP w base v fs xs vs) (hb : base' ≤ base) : OwnP w base' v fs xs vs :=
  ⟨own_lowerC h.row hb, h.len, h.name, h.page, h.val, fun j hj => own_lowerC (h.data j hj) hb, h.byte, h.apart⟩
theorem box_fiveC {w : World} {N : Nat} {v0 v1 v2 v3 v4 : Value} {t : TypeId} (h : w.heap[N]? = some (.cells #[v0, v1, v2, v3, v4] t)) : w.cell? ⟨N, 0, none⟩ = some v0 ∧ w.cell? ⟨N, 1, none⟩ = some v1 ∧ w.cell? ⟨N, 2, none⟩ = some v2 ∧ w.cell? ⟨N, 3, none⟩ = some v3 ∧ w.cell? ⟨N, 4, none⟩ = some v4 := by
  refine ⟨?_, ?_, ?_, ?_, ?_⟩ <;> simp [World.cell?, h]
theorem box_threeC {w : World} {N : Nat} {v0 v1 v2 : Value} {t : TypeId} (h : w.heap[N]? = some (.cells #[v0, v1, v2] t)) : w.cell? ⟨N, 0, none⟩ = some v0 ∧ w.cell? ⟨N, 1, none⟩ = some v1 ∧ w.cell? ⟨N, 2, none⟩ = some v2 := by
  refine ⟨?_, ?_, ?_⟩ <;> simp [World.cell?, h]
theorem box_thawC {w : World} {M t : Nat} {cs : Array Value} (h : w.heap[M]? = some (.cells cs t)) (j : Nat) : w.frozen? ⟨M, j, none⟩ = false := by simp [World.frozen?, h]
def put5C (w : World) (N : Nat) (u0 u1 u2 u3 u4 : Value) : World := ((((w.setCell ⟨N, 0, none⟩ u0).setCell ⟨N, 1, none⟩ u1).setCell ⟨N, 2, none⟩ u2).setCell ⟨N, 3, none⟩ u3).setCell ⟨N, 4, none⟩ u4
theorem put5C_box {w : World} {N t : Nat} {v0 v1 v2 v3 v4 : Value} (h : w.heap[N]? = some (.cells #[v0, v1, v2, v3, v4] t)) (u0 u1 u2 u3 u4 : Value) : (put5C w N u0 u1 u2 u3 u4).heap[N]? = some (.cells #[u0, u1, u2, u3, u4] t) := by
  simp [put5C, World.setCell, Array.getElem?_modify, h]
theorem put5C_fr (w : World) (N : Nat) (u0 u1 u2 u3 u4 : Value) : Fr (fun x => x = N) w (put5C w N u0 u1 u2 u3 u4) :=
  ((((fr_setCell _ _ _ _).trans (fr_setCell _ _ _ _)).trans (fr_setCell _ _ _ _)).trans (fr_setCell _ _ _ _)).trans (fr_setCell _ _ _ _)
end Go.Proofs.Ytkllanapbcbnjab
