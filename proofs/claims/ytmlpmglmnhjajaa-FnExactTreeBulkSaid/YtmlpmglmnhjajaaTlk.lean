import Derived.Test.YtmlpmglmnhjajaaTu
import Derived.Deep.QuietTactic
import Derived.BigQuiet
import Derived.Deep.RegionWith
import Derived.Deep.DeepCutAuto
namespace Go.Proofs.Ytmlpmglmnhjajaa
open Go.RowKit
set_option linter.unusedVariables false
set_option linter.unusedSimpArgs false
set_option maxRecDepth 100000

/-- As far as they are told alike. -/
def sameTo {α : Type} (xs ys : List α) (d : α) (j : Nat) : Prop := ∀ i, i < j → xs.getD i d = ys.getD i d
theorem sameTo.eq {α : Type} {xs ys : List α} {d : α} {n : Nat} (h : sameTo xs ys d n) (h1 : xs.length = n) (h2 : ys.length = n) : xs = ys := by
  apply List.ext_getElem (by omega)
  intro i hi hj
  have := h i (by omega)
  simpa [List.getD, hi, hj] using this
theorem sameTo.succ {α : Type} {xs ys : List α} {d : α} {j : Nat} (h : sameTo xs ys d j) (e : xs.getD j d = ys.getD j d) : sameTo xs ys d (j + 1) := fun i hi => by
  by_cases hij : i = j
  · subst hij; exact e
  · exact h i (by omega)
theorem listT_inj {a b : ByteArray} (h : a.toList = b.toList) : a = b := by
  have h1 := ByteArray.toList_eq a
  have h2 := ByteArray.toList_eq b
  rw [h1, h2] at h
  cases a; cases b
  simp at h ⊢
  exact h
theorem listT_ne {a b : ByteArray} (h : ¬ a = b) : (a.toList == b.toList) = false := by
  simpa using fun e => h (listT_inj e)
theorem drewB (w : World) (n : Nat) : Below w.heap.size w (w.drewN n) := ⟨rfl, rfl, rfl, Nat.le_refl _, fun _ _ => rfl⟩
end Go.Proofs.Ytmlpmglmnhjajaa
