import Derived.Test.YtakdaandbdbdnaaCCac
namespace Go.Proofs.Ytakdaandbdbdnaa
open Go.RowKit
set_option linter.unusedVariables false
set_option maxRecDepth 100000

theorem last_fits {cp : Int} : ∀ (ps : List PP) (fs : List PF), fs.length ≤ 12 → totalI fs ≤ cp → cacheS cp ps fs = true → (lastF ps fs).length ≤ 12 ∧ totalI (lastF ps fs) ≤ cp
  | [], _, h1, h2, _ => ⟨h1, h2⟩
  | p :: r, fs, h1, h2, hc => by
    simp only [cacheS, fitsB, Bool.and_eq_true, decide_eq_true_eq] at hc
    exact last_fits r _ hc.2.1.1 hc.2.1.2 hc.2.2
theorem name_size {nm : ByteArray} (h : nameB nm = true) : nm.size ≤ maxLen := by
  simp only [nameB, Bool.and_eq_true, decide_eq_true_eq] at h
  unfold maxLen
  omega
theorem doP_names {fs : List PF} {nm : ByteArray} {pg : Nat} {bs : List Int} (h : ∀ f ∈ fs, f.1.size ≤ maxLen) (hn : nm.size ≤ maxLen) : ∀ f ∈ doP fs nm pg bs, f.1.size ≤ maxLen := by
  intro f hf
  unfold doP at hf
  rcases List.mem_or_eq_of_mem_set hf with h1 | h1
  · unfold withName at h1
    split at h1
    · exact h f h1
    · rcases List.mem_append.1 h1 with h2 | h2
      · exact h f (List.mem_of_mem_take h2)
      · rcases List.mem_cons.1 h2 with h3 | h3
        · rw [h3]; exact hn
        · exact h f (List.mem_of_mem_drop h3)
  · rw [h1]; exact hn
theorem last_names {cp : Int} : ∀ (ps : List PP) (fs : List PF), (∀ f ∈ fs, f.1.size ≤ maxLen) → cacheS cp ps fs = true → ∀ f ∈ lastF ps fs, f.1.size ≤ maxLen
  | [], _, h, _ => h
  | p :: r, fs, h, hc => by
    simp only [cacheS, pendOk, Bool.and_eq_true] at hc
    exact last_names r _ (doP_names h (name_size hc.1.1.1)) hc.2.2
end Go.Proofs.Ytakdaandbdbdnaa
