import Derived.Test.YtdieplpegkiolaaGAC
import Derived.Test.YtdieplpegkiolaaGAT
import Derived.Test.YtdieplpegkiolaaGAS
import Derived.Deep.QuietTactic
import Derived.BigQuiet
import Derived.WalkLawsBesides
namespace Go.Proofs.Ytdieplpegkiolaa
open Go.RowKit
set_option linter.unusedVariables false
set_option maxRecDepth 100000

def pendOk (fs : List PF) (p : PP) : Bool := nameB p.1 && (p.2.2.length == 128) && decide (0 ≤ p.2.1 ∧ p.2.1 ≤ lenI fs p.1)
def stepP (fs : List PF) (p : PP) : List PF := doP fs p.1 p.2.1.toNat p.2.2
def fitsB (cp : Int) (fs : List PF) : Bool := decide (fs.length ≤ 12) && decide (totalI fs ≤ cp)
def cacheS (cp : Int) : List PP → List PF → Bool
  | [], _ => true
  | p :: r, fs => pendOk fs p && (fitsB cp (stepP fs p) && cacheS cp r (stepP fs p))
def headB (n m : Nat) (cp fu : Int) : Bool := decide (n ≤ 12) && decide (0 ≤ cp ∧ cp ≤ 1000) && decide (m ≤ 1000) && decide (-1 ≤ fu ∧ fu ≤ 1000000)
def specV (fs : List PF) (ps : List PP) (cp fu : Int) : Bool := headB fs.length ps.length cp fu && filesOk fs && decide (totalI fs ≤ cp) && cacheS cp ps fs
theorem specV_head {fs : List PF} {ps : List PP} {cp fu : Int} (h : headB fs.length ps.length cp fu = false) : specV fs ps cp fu = false := by simp [specV, h]

theorem box_cells {wr : World} {N : Nat} {v0 v1 v2 v3 v4 : Value} {t : TypeId} (h : wr.heap[N]? = some (.cells #[v0, v1, v2, v3, v4] t)) : wr.cell? ⟨N, 0, none⟩ = some v0 ∧ wr.cell? ⟨N, 1, none⟩ = some v1 ∧ wr.cell? ⟨N, 2, none⟩ = some v2 := by
  refine ⟨?_, ?_, ?_⟩
  · rw [cell_of_row wr N 0 _ _ _ h]; rfl
  · rw [cell_of_row wr N 1 _ _ _ h]; rfl
  · rw [cell_of_row wr N 2 _ _ _ h]; rfl

theorem below_dn {S : Nat} {w wr : World} {o : Obj} {q : Nat} (h : Below S w wr) (hS : S ≤ wr.heap.size) : Below S w ((wr.alloc o).drewN q) :=
  (h.alloc hS o).trans ⟨rfl, rfl, rfl, Nat.le_refl _, fun _ _ => rfl⟩

theorem fileOk_eq {fs : List PF} {i : Nat} {f : PF} (h : f = fs.getD i (ByteArray.empty, [])) : fileOk fs i = (nameB f.1 && !(f.2.length == 0) && (f.2.length % 128 == 0) && !(decide (0 < i) && geB (fs.getD (i - 1) (ByteArray.empty, [])).1 f.1)) := by rw [h]; rfl

end Go.Proofs.Ytdieplpegkiolaa
namespace Go.Proofs.Ytdieplpegkiolaa
open Go.RowKit
set_option linter.unusedVariables false
set_option maxRecDepth 100000

def put6R (w : World) (N : Nat) (u0 u1 u2 u3 u4 u5 : Value) : World := (((((w.setCell ⟨N, 0, none⟩ u0).setCell ⟨N, 1, none⟩ u1).setCell ⟨N, 2, none⟩ u2).setCell ⟨N, 3, none⟩ u3).setCell ⟨N, 4, none⟩ u4).setCell ⟨N, 5, none⟩ u5
theorem put6R_box {w : World} {N t : Nat} {v0 v1 v2 v3 v4 v5 : Value} (h : w.heap[N]? = some (.cells #[v0, v1, v2, v3, v4, v5] t)) (u0 u1 u2 u3 u4 u5 : Value) : (put6R w N u0 u1 u2 u3 u4 u5).heap[N]? = some (.cells #[u0, u1, u2, u3, u4, u5] t) := by
  simp [put6R, World.setCell, Array.getElem?_modify, h]
theorem put6R_fr (w : World) (N : Nat) (u0 u1 u2 u3 u4 u5 : Value) : Fr (fun x => x = N) w (put6R w N u0 u1 u2 u3 u4 u5) :=
  (((((fr_setCell _ _ _ _).trans (fr_setCell _ _ _ _)).trans (fr_setCell _ _ _ _)).trans (fr_setCell _ _ _ _)).trans (fr_setCell _ _ _ _)).trans (fr_setCell _ _ _ _)
/-- What a step spends: its word, the fuel, whether the disk is dead. -/
def spE (fu : Int) : Int := if fu = 0 then 3 else 0
def spF (fu : Int) : Int := if 0 < fu then fu - 1 else fu
def spD (fu : Int) (de : Bool) : Bool := if fu = 0 then true else de
end Go.Proofs.Ytdieplpegkiolaa
