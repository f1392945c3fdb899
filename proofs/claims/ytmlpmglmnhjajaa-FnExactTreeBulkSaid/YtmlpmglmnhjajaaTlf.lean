import Derived.Test.YtmlpmglmnhjajaaTle
namespace Go.Proofs.Ytmlpmglmnhjajaa
open Go.RowKit
set_option linter.unusedVariables false
set_option linter.unusedSimpArgs false
set_option maxRecDepth 100000

/-- The cells of the children, one behind the other. -/
def rowsC (css : Nat → List Value) (m : Nat) : List Value := (List.range m).flatMap css
theorem rowsC_succ (css : Nat → List Value) (m : Nat) : rowsC css (m + 1) = rowsC css m ++ css m := by
  simp [rowsC, List.range_succ]
theorem rowsC_congr {css cs2 : Nat → List Value} {m : Nat} (h : ∀ i, i < m → cs2 i = css i) : rowsC cs2 m = rowsC css m := by
  induction m with
  | zero => rfl
  | succ m ih => rw [rowsC_succ, rowsC_succ, ih (fun i hi => h i (by omega)), h m (by omega)]
theorem rowsC_get {css : Nat → List Value} {m : Nat} (h : ∀ i, i < m → (css i).length = 6) : (rowsC css m).length = m * 6 ∧ ∀ i j, i < m → j < 6 → (rowsC css m)[i * 6 + j]? = (css i)[j]? := by
  induction m with
  | zero => exact ⟨rfl, fun i j hi => by omega⟩
  | succ m ih =>
    obtain ⟨h1, h2⟩ := ih (fun i hi => h i (by omega))
    rw [rowsC_succ]
    refine ⟨by rw [List.length_append, h1, h m (by omega)]; omega, fun i j hi hj => ?_⟩
    by_cases him : i = m
    · subst him
      rw [List.getElem?_append_right (by omega), h1, show i * 6 + j - i * 6 = j by omega]
    · rw [List.getElem?_append_left (by omega)]
      exact h2 i j (by omega) hj
theorem NodeX.weaken {w w' : World} {A B : Nat} {P Q : Nat → Prop} {t : T} {ka : Option Addr} {kn kc : Nat} {va : Option Addr} {vn vc : Nat} {oa : Option Addr} {on oc : Nat} {ya : Option Addr} {yc : Nat} {css : Nat → List Value} (h : NodeX w A B P t ka kn kc va vn vc oa on oc ya yc css) (hk : Keeps A B w w') (hp : ∀ b, P b → w'.heap[b]? = w.heap[b]?) (hQ : ∀ b, P b → Q b) : NodeX w' A B Q t ka kn kc va vn vc oa on oc ya yc css :=
  ⟨h.page, h.keys.keep hk, h.vals.keep hk, h.over.keep hk, h.cap, fun hn => by
    obtain ⟨b, off, e, hb, hc⟩ := h.cell hn
    exact ⟨b, off, e, hQ b hb, fun i hi j hj => (World.cell?_of_block (w := w) (a := ⟨b, off + i * 6 + j, none⟩) (hp b hb)).trans (hc i hi j hj)⟩, fun i k hm hi => NodeIs.keep hk hp hQ (Nat.le_refl _) (Nat.le_refl _) k _ (h.kid i k hm hi)⟩
end Go.Proofs.Ytmlpmglmnhjajaa
