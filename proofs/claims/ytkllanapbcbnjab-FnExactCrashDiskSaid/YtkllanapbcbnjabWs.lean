import Derived.Test.YtkllanapbcbnjabCsW
import Derived.Test.YtkllanapbcbnjabDR
import Derived.Test.YtkllanapbcbnjabSpV
namespace Go.Proofs.Ytkllanapbcbnjab
open Go.RowKit
set_option linter.unusedVariables false
set_option maxRecDepth 100000

/-- A disk that a step tells, in memory of its own. -/
structure ResAt (w : World) (e : Ending) (w' : World) (er : Int) (fs : List PF) (ps : List PP) (cp fu : Int) (de : Bool) : Prop where
  out : ∃ (a : Option Addr) (c : Nat) (b : Option Addr) (d : Nat) (xs vs ys us : List Value), e = .returned (.agg #[.int .i64 er, .slice a fs.length c, .slice b ps.length d, .int .i64 cp, .int .i64 fu, .bool de]) ∧ OwnD w' w.heap.size (.slice a fs.length c) (.slice b ps.length d) fs ps xs vs ys us ∧ Below w.heap.size w w'
theorem OwnD.frS {S : Nat → Prop} {w w' : World} {base : Nat} {v u : Value} {fs : List PF} {ps : List PP} {xs vs ys us : List Value} (h : OwnD w base v u fs ps xs vs ys us) (hf : Fr S w w') (hS : ∀ g, S g → ¬ (Blk v vs g ∨ Blk u us g)) : OwnD w' base v u fs ps xs vs ys us :=
  ⟨h.files.fr hf (fun g hg e => hS g e (.inl hg)), h.cache.fr hf (fun g hg e => hS g e (.inr hg)), h.apart⟩
theorem OwnD.blk {w : World} {base : Nat} {v u : Value} {fs : List PF} {ps : List PP} {xs vs ys us : List Value} (h : OwnD w base v u fs ps xs vs ys us) {g : Nat} (hg : Blk v vs g ∨ Blk u us g) : base ≤ g ∧ g < w.heap.size := hg.elim h.files.blk h.cache.blk
theorem OwnD.lower {w : World} {base base' : Nat} {v u : Value} {fs : List PF} {ps : List PP} {xs vs ys us : List Value} (h : OwnD w base v u fs ps xs vs ys us) (hb : base' ≤ base) : OwnD w base' v u fs ps xs vs ys us := ⟨OwnF.lower h.files hb, OwnP.lower h.cache hb, h.apart⟩
theorem OwnD.shape {w : World} {base : Nat} {v u : Value} {fs : List PF} {ps : List PP} {xs vs ys us : List Value} (h : OwnD w base v u fs ps xs vs ys us) : (∃ a c, v = .slice a fs.length c) ∧ ∃ b d, u = .slice b ps.length d := ⟨own_shape h.files.row, own_shape h.cache.row⟩
def put6R (w : World) (N : Nat) (u0 u1 u2 u3 u4 u5 : Value) : World := (((((w.setCell ⟨N, 0, none⟩ u0).setCell ⟨N, 1, none⟩ u1).setCell ⟨N, 2, none⟩ u2).setCell ⟨N, 3, none⟩ u3).setCell ⟨N, 4, none⟩ u4).setCell ⟨N, 5, none⟩ u5
theorem put6R_box {w : World} {N t : Nat} {v0 v1 v2 v3 v4 v5 : Value} (h : w.heap[N]? = some (.cells #[v0, v1, v2, v3, v4, v5] t)) (u0 u1 u2 u3 u4 u5 : Value) : (put6R w N u0 u1 u2 u3 u4 u5).heap[N]? = some (.cells #[u0, u1, u2, u3, u4, u5] t) := by
  simp [put6R, World.setCell, Array.getElem?_modify, h]
theorem put6R_fr (w : World) (N : Nat) (u0 u1 u2 u3 u4 u5 : Value) : Fr (fun x => x = N) w (put6R w N u0 u1 u2 u3 u4 u5) :=
  (((((fr_setCell _ _ _ _).trans (fr_setCell _ _ _ _)).trans (fr_setCell _ _ _ _)).trans (fr_setCell _ _ _ _)).trans (fr_setCell _ _ _ _)).trans (fr_setCell _ _ _ _)
/-- What a step spends: its word, the fuel, whether the disk is dead. -/
def spE (fu : Int) : Int := if fu = 0 then 3 else 0
def spF (fu : Int) : Int := if 0 < fu then fu - 1 else fu
def spD (fu : Int) (de : Bool) : Bool := if fu = 0 then true else de
theorem ResAt.mk6 {w X : World} {R base : Nat} {er cp fu : Int} {de : Bool} {a b : Option Addr} {c d : Nat} {fs : List PF} {ps : List PP} {xs vs ys us : List Value} (hRw : w.heap.size ≤ R) (hO : OwnD X base (.slice a fs.length c) (.slice b ps.length d) fs ps xs vs ys us) (hRb : R < base) (hX : R < X.heap.size) (hbel : Below w.heap.size w X) :
    ResAt w (.returned (.agg #[.int .i64 er, .slice a fs.length c, .slice b ps.length d, .int .i64 cp, .int .i64 fu, .bool de])) (put6R X R (.int .i64 er) (.slice a fs.length c) (.slice b ps.length d) (.int .i64 cp) (.int .i64 fu) (.bool de)) er fs ps cp fu de := by
  have hz := put6R_fr X R (.int .i64 er) (.slice a fs.length c) (.slice b ps.length d) (.int .i64 cp) (.int .i64 fu) (.bool de)
  exact ⟨⟨a, c, b, d, xs, vs, ys, us, rfl, OwnD.lower (hO.frS hz (fun g e hg => by have := (hO.blk hg).1; omega)) (by omega), hbel.trans (hz.below (by omega) (fun g e => by omega))⟩⟩
theorem ResAt.after {w X X' : World} {e : Ending} {er cp fu : Int} {de : Bool} {fs : List PF} {ps : List PP} (h : ResAt w e X er fs ps cp fu de) (hb : Below X.heap.size X X') : ResAt w e X' er fs ps cp fu de := by
  obtain ⟨a, c, b, d, xs, vs, ys, us, e1, hO, hbel⟩ := h.out
  exact ⟨⟨a, c, b, d, xs, vs, ys, us, e1, hO.below hb, hbel.trans (hb.mono hbel.size)⟩⟩
end Go.Proofs.Ytkllanapbcbnjab
