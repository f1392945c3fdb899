import Derived.Test.YtmlpmglmnhjajaaTlb
import Derived.Test.YtmlpmglmnhjajaaAp2
import Derived.Test.YtmlpmglmnhjajaaTto
import Derived.Deep.QuietTactic
import Derived.BigQuiet
import Derived.Deep.DeepCutAuto
import Derived.Deep.RegionHeld3
namespace Go.Proofs.Ytmlpmglmnhjajaa
open Go.RowKit
set_option linter.unusedVariables false
set_option linter.unusedSimpArgs false
set_option maxRecDepth 100000

def RRange (ts : List TN) (f : Nat) : Prop := ∀ nx, nx ≤ ts.length → nx ≤ (rd ts f nx).2.1 ∧ (rd ts f nx).2.1 ≤ ts.length ∧ ((rd ts f nx).2.2 = false → nx < (rd ts f nx).2.1)
theorem rdK_range {ts : List TN} {f : Nat} (hf : RRange ts f) : ∀ (ks : List Int) (nx : Nat), nx ≤ ts.length → nx ≤ (rdK (rd ts f) ks nx).2.1 ∧ (rdK (rd ts f) ks nx).2.1 ≤ ts.length
  | [], nx, h => by simp [rdK, h]
  | k :: ks, nx, h => by
    unfold rdK
    have h1 := hf nx h
    split
    · split
      · exact ⟨h1.1, h1.2.1⟩
      · have h2 := rdK_range hf ks (rd ts f nx).2.1 h1.2.1
        exact ⟨by simp only; omega, h2.2⟩
    · exact ⟨Nat.le_refl _, h⟩
theorem rd_range (ts : List TN) : ∀ f, RRange ts f
  | 0 => by intro nx h; simp [rd, h]
  | f + 1 => by
    have ih := rd_range ts f
    intro nx h
    unfold rd
    split
    · rename_i hlt
      split
      · exact ⟨by simp only; omega, by simp only; omega, fun _ => by simp only; omega⟩
      · split
        · exact ⟨by simp only; omega, by simp only; omega, fun _ => by simp only; omega⟩
        · have := rdK_range ih (ts.getD nx dT).kids (nx + 1) (by omega)
          exact ⟨by simp only; omega, this.2, fun _ => by simp only; omega⟩
    · exact ⟨Nat.le_refl _, h, fun e => by simp at e⟩
theorem info_l3N : (Try.prog.info? 47).map (fun i => (i.zero, i.size, i.bytes)) = some (some (.agg #[.bool false, .int .i64 0, .slice none 0 0, .slice none 0 0, .slice none 0 0, .slice none 0 0]), 6, 112) := by kernel_rfl
theorem box3w {w : World} {g : Nat} {v0 v1 v2 : Value} {t : TypeId} (h : w.heap[g]? = some (.cells #[v0, v1, v2] t)) : w.cell? ⟨g, 0, none⟩ = some v0 ∧ w.cell? ⟨g, 1, none⟩ = some v1 ∧ w.cell? ⟨g, 2, none⟩ = some v2 := by
  simp [World.cell?, h]
end Go.Proofs.Ytmlpmglmnhjajaa
