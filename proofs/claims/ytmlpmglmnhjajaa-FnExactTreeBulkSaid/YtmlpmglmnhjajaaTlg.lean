import Derived.Test.YtmlpmglmnhjajaaTlf
namespace Go.Proofs.Ytmlpmglmnhjajaa
open Go.RowKit
set_option linter.unusedVariables false
set_option linter.unusedSimpArgs false
set_option maxRecDepth 100000

theorem cell_six_new (w : World) (a b c d e f : Value) (t : TypeId) : ∀ j u, [a, b, c, d, e, f][j]? = some u → (w.alloc (.cells #[a, b, c, d, e, f] t)).cell? ((⟨w.heap.size, 0, none⟩ : Addr).add j) = some u := by
  intro j u h
  match j, h with
  | 0, h => simpa [Addr.add] using h
  | 1, h => simpa [Addr.add] using h
  | 2, h => simpa [Addr.add] using h
  | 3, h => simpa [Addr.add] using h
  | 4, h => simpa [Addr.add] using h
  | 5, h => simpa [Addr.add] using h
/-- How far the children are read. -/
def Far (ts : List TN) (f : Nat) (ks : List Int) (nx j : Nat) (zs : List T) (nj : Nat) (bad : Bool) : Prop :=
  zs.length = j ∧ (nx ≤ nj ∧ nj ≤ ts.length) ∧ (j + nx ≤ nj + (if bad then 1 else 0)) ∧ (bad = false → rdK (rd ts f) ks nx = (zs ++ (rdK (rd ts f) (ks.drop j) nj).1, (rdK (rd ts f) (ks.drop j) nj).2.1, (rdK (rd ts f) (ks.drop j) nj).2.2)) ∧ (bad = true → rdK (rd ts f) ks nx = (zs, nj, true))
theorem Far.start (ts : List TN) (f : Nat) (ks : List Int) (nx : Nat) (h : nx ≤ ts.length) : Far ts f ks nx 0 [] nx false := ⟨rfl, ⟨Nat.le_refl _, h⟩, by simp, fun _ => by simp, fun h => by cases h⟩
theorem drop_getD {ks : List Int} {j : Nat} (h : j < ks.length) : ks.drop j = ks.getD j 0 :: ks.drop (j + 1) := by
  rw [List.drop_eq_getElem_cons h]
  simp [List.getD, h]
theorem rdK_cons (one : Nat → T × Nat × Bool) (k : Int) (ks : List Int) (nx : Nat) : rdK one (k :: ks) nx = if k = nx then
      if (one nx).2.2 then ([(one nx).1], (one nx).2.1, true)
      else ((one nx).1 :: (rdK one ks (one nx).2.1).1, (rdK one ks (one nx).2.1).2.1, (rdK one ks (one nx).2.1).2.2)
    else ([], nx, true) := rfl
theorem Far.step {ts : List TN} {f : Nat} {ks : List Int} {nx j : Nat} {zs : List T} {nj : Nat} (h : Far ts f ks nx j zs nj false) (hj : j < ks.length) (hk : ks.getD j 0 = nj) : Far ts f ks nx (j + 1) (zs ++ [(rd ts f nj).1]) (rd ts f nj).2.1 (rd ts f nj).2.2 := by
  obtain ⟨h1, h2, h3, h4, _⟩ := h
  have hr := rd_range ts f nj h2.2
  have h4 := h4 rfl
  rw [drop_getD hj, rdK_cons, if_pos hk] at h4
  refine ⟨by simp [h1], ⟨by omega, hr.2.1⟩, ?_, fun hb => ?_, fun hb => ?_⟩
  · simp only [Bool.false_eq_true, if_false] at h3
    cases e : (rd ts f nj).2.2 with
    | false => have := hr.2.2 e; simp; omega
    | true => simp; omega
  · rw [hb] at h4
    simpa using h4
  · rw [hb] at h4
    simpa using h4
theorem Far.stop {ts : List TN} {f : Nat} {ks : List Int} {nx j : Nat} {zs : List T} {nj : Nat} (h : Far ts f ks nx j zs nj false) (hj : j < ks.length) (hk : ¬ ks.getD j 0 = nj) : rdK (rd ts f) ks nx = (zs, nj, true) := by
  have h4 := h.2.2.2.1 rfl
  rw [drop_getD hj, rdK_cons, if_neg hk] at h4
  simpa using h4
theorem Far.done {ts : List TN} {f : Nat} {ks : List Int} {nx j : Nat} {zs : List T} {nj : Nat} {bad : Bool} (h : Far ts f ks nx j zs nj bad) (hj : j < ks.length → bad = true) (hjl : j ≤ ks.length) : rdK (rd ts f) ks nx = (zs, nj, bad) := by
  cases bad with
  | true => exact h.2.2.2.2 rfl
  | false =>
    have hj2 : ¬ j < ks.length := fun e => by cases hj e
    have h4 := h.2.2.2.1 rfl
    rw [List.drop_eq_nil_of_le (by omega)] at h4
    simpa [rdK] using h4
end Go.Proofs.Ytmlpmglmnhjajaa
