import Derived.Test.YtdieplpegkiolaaGAC
import Derived.WalkSpells
namespace Go.Proofs.Ytdieplpegkiolaa
open Go.RowKit
set_option linter.unusedVariables false
set_option maxRecDepth 100000

/-- Zeros up to a length. -/
def extZ (l : List Int) (z : Nat) : List Int := l ++ List.replicate z 0
theorem extZ_snoc (l : List Int) (z : Nat) : extZ l (z + 1) = extZ l z ++ [0] := by simp [extZ, List.replicate_succ']
theorem extZ_len (l : List Int) (z : Nat) : (extZ l z).length = l.length + z := by simp [extZ]
/-- The first k bytes of a write. -/
def overTo (l : List Int) (off : Nat) (bs : List Int) : Nat → List Int
  | 0 => l
  | k + 1 => (overTo l off bs k).set (off + k) (bs.getD k 0)
theorem overTo_len (l : List Int) (off : Nat) (bs : List Int) (k : Nat) : (overTo l off bs k).length = l.length := by
  induction k with
  | zero => rfl
  | succ k ih => simp [overTo, ih]
theorem overTo_byte (l : List Int) (off : Nat) (bs : List Int) (k : Nat) (hl : ∀ x ∈ l, 0 ≤ x ∧ x ≤ 255) (hb : ∀ x ∈ bs, 0 ≤ x ∧ x ≤ 255) : ∀ x ∈ overTo l off bs k, 0 ≤ x ∧ x ≤ 255 := by
  induction k with
  | zero => exact hl
  | succ k ih =>
    intro x hx
    rcases List.mem_or_eq_of_mem_set hx with h | h
    · exact ih x h
    · subst h
      by_cases hk : k < bs.length
      · refine hb _ ?_
        simp [List.getD, List.getElem?_eq_getElem hk]
      · simp [List.getD, List.getElem?_eq_none (Nat.le_of_not_lt hk)]
theorem extZ_byte (l : List Int) (z : Nat) (hl : ∀ x ∈ l, 0 ≤ x ∧ x ≤ 255) : ∀ x ∈ extZ l z, 0 ≤ x ∧ x ≤ 255 := by
  intro x hx
  simp [extZ] at hx
  rcases hx with h | ⟨_, h⟩
  · exact hl x h
  · subst h; simp
/-- A file's bytes behind a write of bs to page pg. -/
def doData (l : List Int) (pg : Nat) (bs : List Int) : List Int := overTo (extZ l ((pg + 1) * 128 - l.length)) (pg * 128) bs bs.length
def insN (fs : List PF) (nm : ByteArray) : Nat := fs.findIdx (fun f => gtB f.1 nm)
def withName (fs : List PF) (nm : ByteArray) : List PF := if findN fs nm < fs.length then fs else fs.take (insN fs nm) ++ (nm, []) :: fs.drop (insN fs nm)
def doP (fs : List PF) (nm : ByteArray) (pg : Nat) (bs : List Int) : List PF :=
  (withName fs nm).set (findN (withName fs nm) nm) (nm, doData ((withName fs nm).getD (findN (withName fs nm) nm) (ByteArray.empty, [])).2 pg bs)
theorem insPos_eq {fs : List PF} {nm : ByteArray} {p : Nat} (h : insPos fs.length (fun i => (fs.getD i (ByteArray.empty, [])).1) nm p) : p = insN fs nm := by
  obtain ⟨h1, h2, h3⟩ := h
  unfold insN
  by_cases hp : p < fs.length
  · symm
    rw [List.findIdx_eq hp]
    refine ⟨by simpa [List.getD, List.getElem?_eq_getElem hp] using h3 hp, fun j hj => ?_⟩
    simpa [List.getD, List.getElem?_eq_getElem (show j < fs.length by omega)] using h2 j hj
  · obtain rfl : p = fs.length := by omega
    symm
    rw [List.findIdx_eq_length]
    intro x hx
    obtain ⟨j, hj, rfl⟩ := List.getElem_of_mem hx
    simpa [List.getD, List.getElem?_eq_getElem hj] using h2 j hj
theorem findN_name {fs : List PF} {nm : ByteArray} (h : findN fs nm < fs.length) : (fs.getD (findN fs nm) (ByteArray.empty, [])).1 = nm := by
  unfold findN at h ⊢
  have h2 := List.findIdx_getElem (w := h)
  simpa [List.getD, List.getElem?_eq_getElem h] using h2
theorem findN_with (fs : List PF) (nm : ByteArray) : findN (withName fs nm) nm < (withName fs nm).length := by
  unfold withName
  split
  · assumption
  · unfold findN
    rw [List.findIdx_lt_length]
    exact ⟨(nm, []), by simp, by simp⟩
def lenV : Value → Nat | .slice _ n _ => n | _ => 0
theorem own_shape2 {w : World} {base e size : Nat} {v : Value} {n : Nat} {xs : List Value} (h : w.ownsRow base e size v n xs) : ∃ a n' c, v = .slice a n' c ∧ n' = n := by
  obtain ⟨a, c, e⟩ := own_shape h
  exact ⟨a, n, c, e, rfl⟩
end Go.Proofs.Ytdieplpegkiolaa
namespace Go.Proofs.Ytdieplpegkiolaa
open Go.RowKit
set_option linter.unusedVariables false
set_option maxRecDepth 100000

theorem totalI_small {fs : List PF} {K : Nat} (h : ∀ j, j < fs.length → (fs.getD j (ByteArray.empty, [])).2.length ≤ K) : totalI fs ≤ fs.length * K := by
  induction fs with
  | nil => simp [totalI]
  | cons x r ih =>
    have h0 := h 0 (by simp)
    have h1 := ih (fun j hj => by have := h (j + 1) (by simpa using hj); simpa using this)
    simp at h0
    simp only [totalI, List.length_cons]
    have : ((r.length + 1 : Nat) : Int) * (K : Int) = (r.length : Int) * K + K := by
      rw [Int.natCast_add, Int.add_mul]; simp
    rw [this]
    omega
theorem total_get {fs : List PF} {j : Nat} (hj : j < fs.length) : ((fs.getD j (ByteArray.empty, [])).2.length : Int) / 128 ≤ totalI fs := by
  induction fs generalizing j with
  | nil => simp at hj
  | cons x r ih =>
    cases j with
    | zero => have := (totalI_bd r).1; simp [totalI]; omega
    | succ j =>
      have := ih (j := j) (by simpa using hj)
      simp only [totalI, List.getD_cons_succ]
      omega
theorem lenI_le_total (fs : List PF) (nm : ByteArray) : 0 ≤ lenI fs nm ∧ lenI fs nm ≤ totalI fs := by
  unfold lenI
  split
  · rename_i h
    exact ⟨by omega, total_get h⟩
  · exact ⟨by omega, (totalI_bd fs).1⟩
theorem doData_len (l : List Int) (pg : Nat) (bs : List Int) : (doData l pg bs).length = max l.length ((pg + 1) * 128) := by
  unfold doData
  rw [overTo_len, extZ_len]
  omega
theorem withName_len (fs : List PF) (nm : ByteArray) : (withName fs nm).length = if findN fs nm < fs.length then fs.length else fs.length + 1 := by
  unfold withName
  split
  · rfl
  · have : insN fs nm ≤ fs.length := List.findIdx_le_length
    simp; omega
theorem doP_len (fs : List PF) (nm : ByteArray) (pg : Nat) (bs : List Int) : (doP fs nm pg bs).length = if findN fs nm < fs.length then fs.length else fs.length + 1 := by
  unfold doP
  rw [List.length_set, withName_len]
theorem doP_all {fs : List PF} {nm : ByteArray} {pg : Nat} {bs : List Int} {K : Nat} (h : ∀ j, j < fs.length → (fs.getD j (ByteArray.empty, [])).2.length ≤ K) (hp : (pg + 1) * 128 ≤ K) : ∀ j, j < (doP fs nm pg bs).length → ((doP fs nm pg bs).getD j (ByteArray.empty, [])).2.length ≤ K := by
  have hw : ∀ j, j < (withName fs nm).length → ((withName fs nm).getD j (ByteArray.empty, [])).2.length ≤ K := by
    unfold withName
    split
    · exact h
    · intro j hj
      have hi : insN fs nm ≤ fs.length := List.findIdx_le_length
      rw [getD_ins _ _ _ _ _ hi]
      simp at hj
      split
      · exact h j (by omega)
      · split
        · simp
        · exact h (j - 1) (by omega)
  have hf := findN_with fs nm
  intro j hj
  unfold doP at hj ⊢
  rw [List.length_set] at hj
  rw [getD_set _ _ _ _ _ hf]
  split
  · show (doData _ pg bs).length ≤ K
    rw [doData_len]
    have := hw _ hf
    omega
  · exact hw j hj
theorem small_of_total {fs : List PF} (h : totalI fs ≤ 1000) : ∀ j, j < fs.length → (fs.getD j (ByteArray.empty, [])).2.length ≤ 128128 := by
  intro j hj
  have := total_get hj
  omega
end Go.Proofs.Ytdieplpegkiolaa
