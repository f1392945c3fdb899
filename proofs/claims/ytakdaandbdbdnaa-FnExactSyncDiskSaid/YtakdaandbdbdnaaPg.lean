import Derived.Test.YtakdaandbdbdnaaCCac
import Derived.Test.YtakdaandbdbdnaaJA
namespace Go.Proofs.Ytakdaandbdbdnaa
open Go.RowKit Go.Maps
set_option linter.unusedVariables false
set_option maxRecDepth 100000

theorem take_findIdx {α : Type} (p : α → Bool) : ∀ l : List α, l.take (l.findIdx p) = l.takeWhile (fun x => !p x) ∧ l.drop (l.findIdx p) = l.dropWhile (fun x => !p x)
  | [] => ⟨rfl, rfl⟩
  | x :: r => by
    rw [List.findIdx_cons]
    cases hp : p x with
    | true => simp [hp]
    | false =>
      obtain ⟨h1, h2⟩ := take_findIdx p r
      simp [hp, h1, h2]
theorem withName_ins {fs : List PF} {nm : ByteArray} (h : ¬ findN fs nm < fs.length) : withName fs nm = insF fs (nm, []) := by
  unfold withName insF insN
  rw [if_neg h]
  obtain ⟨h1, h2⟩ := take_findIdx (fun f : PF => gtB f.1 nm) fs
  rw [h1, h2]
theorem withName_sorted {fs : List PF} {nm : ByteArray} (hs : SortedN fs) : SortedN (withName fs nm) := by
  by_cases h : findN fs nm < fs.length
  · unfold withName; rw [if_pos h]; exact hs
  · rw [withName_ins h]
    refine insF_sorted hs (fun g hg e => h (findN_iff.2 ?_))
    obtain ⟨i, hi, rfl⟩ := List.getElem_of_mem hg
    exact ⟨i, hi, by simp only [List.getD, List.getElem?_eq_getElem hi, Option.getD_some]; exact e⟩
theorem doP_sorted {fs : List PF} {nm : ByteArray} {pg : Nat} {bs : List Int} (hs : SortedN fs) : SortedN (doP fs nm pg bs) := by
  have h1 := withName_sorted (nm := nm) hs
  have hw := findN_with fs nm
  unfold SortedN at h1 ⊢
  rw [List.pairwise_iff_getElem] at h1 ⊢
  have hlen := doP_len2 fs nm pg bs
  have hn : ∀ i (hi : i < (doP fs nm pg bs).length), ((doP fs nm pg bs)[i]).1 = ((withName fs nm)[i]'(by omega)).1 := fun i hi => by
    have := doP_name (fs := fs) (nm := nm) (pg := pg) (bs := bs) i (by omega)
    simpa [List.getD, List.getElem?_eq_getElem hi, List.getElem?_eq_getElem (show i < (withName fs nm).length by omega)] using this
  intro i j hi hj hij
  rw [hn i hi, hn j hj]
  exact h1 i j (by omega) (by omega) hij
theorem last_sorted : ∀ (ps : List PP) (fs : List PF), SortedN fs → SortedN (lastF ps fs)
  | [], _, h => h
  | p :: r, fs, h => last_sorted r _ (doP_sorted h)
end Go.Proofs.Ytakdaandbdbdnaa
