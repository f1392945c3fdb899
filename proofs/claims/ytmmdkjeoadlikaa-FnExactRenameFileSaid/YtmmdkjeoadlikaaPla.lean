import Derived.Test.YtmmdkjeoadlikaaDo
namespace Go.Proofs.Ytmmdkjeoadlikaa
open Go.RowKit
set_option linter.unusedVariables false
set_option maxRecDepth 100000

theorem totalI_small {fs : List PF} {K : Nat} (h : ∀ j, j < fs.length → (fs.getD j (ByteArray.empty, [])).2.length ≤ K) : totalI fs ≤ fs.length * K := by
  induction fs with
  | nil => simp [totalI]
  | cons x r ih =>
    have h0 := h 0 (by simp)
    have h1 := ih (fun j hj => by have := h (j + 1) (by simpa using hj); simpa using this)
    simp at h0
    simp only [totalI, List.length_cons]
    have : ((r.length + 1 : Nat) : Int) * (K : Int) = (r.length : Int) * K + K := by
      rw [Int.natCast_add, Int.add_mul]; simp
    rw [this]
    omega
theorem total_get {fs : List PF} {j : Nat} (hj : j < fs.length) : ((fs.getD j (ByteArray.empty, [])).2.length : Int) / 128 ≤ totalI fs := by
  induction fs generalizing j with
  | nil => simp at hj
  | cons x r ih =>
    cases j with
    | zero => have := (totalI_bd r).1; simp [totalI]; omega
    | succ j =>
      have := ih (j := j) (by simpa using hj)
      simp only [totalI, List.getD_cons_succ]
      omega
theorem lenI_le_total (fs : List PF) (nm : ByteArray) : 0 ≤ lenI fs nm ∧ lenI fs nm ≤ totalI fs := by
  unfold lenI
  split
  · rename_i h
    exact ⟨by omega, total_get h⟩
  · exact ⟨by omega, (totalI_bd fs).1⟩
theorem doData_len (l : List Int) (pg : Nat) (bs : List Int) : (doData l pg bs).length = max l.length ((pg + 1) * 128) := by
  unfold doData
  rw [overTo_len, extZ_len]
  omega
theorem withName_len (fs : List PF) (nm : ByteArray) : (withName fs nm).length = if findN fs nm < fs.length then fs.length else fs.length + 1 := by
  unfold withName
  split
  · rfl
  · have : insN fs nm ≤ fs.length := List.findIdx_le_length
    simp; omega
theorem doP_len (fs : List PF) (nm : ByteArray) (pg : Nat) (bs : List Int) : (doP fs nm pg bs).length = if findN fs nm < fs.length then fs.length else fs.length + 1 := by
  unfold doP
  rw [List.length_set, withName_len]
theorem doP_all {fs : List PF} {nm : ByteArray} {pg : Nat} {bs : List Int} {K : Nat} (h : ∀ j, j < fs.length → (fs.getD j (ByteArray.empty, [])).2.length ≤ K) (hp : (pg + 1) * 128 ≤ K) : ∀ j, j < (doP fs nm pg bs).length → ((doP fs nm pg bs).getD j (ByteArray.empty, [])).2.length ≤ K := by
  have hw : ∀ j, j < (withName fs nm).length → ((withName fs nm).getD j (ByteArray.empty, [])).2.length ≤ K := by
    unfold withName
    split
    · exact h
    · intro j hj
      have hi : insN fs nm ≤ fs.length := List.findIdx_le_length
      rw [getD_ins _ _ _ _ _ hi]
      simp at hj
      split
      · exact h j (by omega)
      · split
        · simp
        · exact h (j - 1) (by omega)
  have hf := findN_with fs nm
  intro j hj
  unfold doP at hj ⊢
  rw [List.length_set] at hj
  rw [getD_set _ _ _ _ _ hf]
  split
  · show (doData _ pg bs).length ≤ K
    rw [doData_len]
    have := hw _ hf
    omega
  · exact hw j hj
theorem small_of_total {fs : List PF} (h : totalI fs ≤ 1000) : ∀ j, j < fs.length → (fs.getD j (ByteArray.empty, [])).2.length ≤ 128128 := by
  intro j hj
  have := total_get hj
  omega
end Go.Proofs.Ytmmdkjeoadlikaa
