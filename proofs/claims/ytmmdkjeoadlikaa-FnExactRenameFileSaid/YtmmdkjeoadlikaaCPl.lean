import Derived.Test.YtmmdkjeoadlikaaPla
import Derived.Sort.Walk0
import Derived.Maps.OwnSet
namespace Go.Proofs.Ytmmdkjeoadlikaa
open Go.RowKit Go.Maps
set_option linter.unusedVariables false
set_option maxRecDepth 100000
set_option linter.unusedSimpArgs false

theorem name_lt {a b : ByteArray} (h : geB a b = false) : a.toList < b.toList := by
  simp only [geB, Bool.not_eq_false'] at h
  rw [bytesLess_eq] at h
  exact of_decide_eq_true h
theorem name_ne {a b : ByteArray} (h : a.toList < b.toList) : a ≠ b := by
  intro e; subst e; exact List.lt_irrefl _ h
/-- Names that ascend strictly: each below every later one. -/
theorem names_up {fs : List PF} (h : ∀ i, i < fs.length → fileOk fs i = true) : ∀ i j, i < j → j < fs.length → (fs.getD i (ByteArray.empty, [])).1.toList < (fs.getD j (ByteArray.empty, [])).1.toList := by
  have step : ∀ j, 0 < j → j < fs.length → (fs.getD (j - 1) (ByteArray.empty, [])).1.toList < (fs.getD j (ByteArray.empty, [])).1.toList := by
    intro j h0 hj
    have := h j hj
    simp only [fileOk, Bool.and_eq_true] at this
    have h2 := this.2
    simp only [h0, decide_true, Bool.true_and, Bool.not_eq_true'] at h2
    exact name_lt h2
  intro i j hij hj
  induction j with
  | zero => omega
  | succ j ih =>
    have h1 := step (j + 1) (by omega) hj
    simp only [Nat.add_sub_cancel] at h1
    by_cases e : i = j
    · subst e; exact h1
    · exact List.lt_trans (ih (by omega) (by omega)) h1

/-- A list of files as a census can tell it: no name twice, every file whole pages and at least one. -/
structure Inv (fs : List PF) : Prop where
  ne : ∀ i j, i ≠ j → i < fs.length → j < fs.length → (fs.getD i (ByteArray.empty, [])).1 ≠ (fs.getD j (ByteArray.empty, [])).1
  pg : ∀ i, i < fs.length → 128 ≤ (fs.getD i (ByteArray.empty, [])).2.length ∧ (fs.getD i (ByteArray.empty, [])).2.length % 128 = 0
theorem fileOk_len {fs : List PF} {i : Nat} (h : fileOk fs i = true) : 128 ≤ (fs.getD i (ByteArray.empty, [])).2.length ∧ (fs.getD i (ByteArray.empty, [])).2.length % 128 = 0 := by
  simp only [fileOk, Bool.and_eq_true, Bool.not_eq_true', beq_eq_false_iff_ne, ne_eq, beq_iff_eq] at h
  obtain ⟨⟨⟨_, h2⟩, h3⟩, _⟩ := h
  omega
theorem getD_take {fs : List PF} {k i : Nat} (h : i < k) : (fs.take k).getD i (ByteArray.empty, []) = fs.getD i (ByteArray.empty, []) := by
  simp [List.getD, List.getElem?_take, h]
theorem inv_of_ok {fs : List PF} {k : Nat} (hk : k ≤ fs.length) (h : ∀ i, i < k → fileOk fs i = true) : Inv (fs.take k) := by
  have hl : (fs.take k).length = k := by simp; omega
  have h' : ∀ i, i < (fs.take k).length → fileOk (fs.take k) i = true := by
    intro i hi
    rw [hl] at hi
    have := h i hi
    unfold fileOk at this ⊢
    rw [getD_take hi, getD_take (show i - 1 < k by omega)]
    exact this
  constructor
  · intro i j hij hi hj
    by_cases hlt : i < j
    · exact name_ne (names_up h' i j hlt hj)
    · exact (name_ne (names_up h' j i (by omega) hi)).symm
  · intro i hi
    exact fileOk_len (h' i hi)

/-- How one looks a name up in such a list. -/
theorem findN_of {fs : List PF} (h : Inv fs) {i : Nat} (hi : i < fs.length) : findN fs (fs.getD i (ByteArray.empty, [])).1 = i :=
  findN_at hi (fun j hj => h.ne j i (by omega) (by omega) hi) rfl
theorem findN_iff {fs : List PF} {nm : ByteArray} : findN fs nm < fs.length ↔ ∃ i, i < fs.length ∧ (fs.getD i (ByteArray.empty, [])).1 = nm := by
  constructor
  · intro h; exact ⟨_, h, findN_name h⟩
  · rintro ⟨i, hi, e⟩
    unfold findN
    rw [List.findIdx_lt_length]
    refine ⟨fs[i], List.getElem_mem hi, ?_⟩
    simpa [List.getD, List.getElem?_eq_getElem hi] using e
theorem lenI_of {fs : List PF} (h : Inv fs) {i : Nat} (hi : i < fs.length) : lenI fs (fs.getD i (ByteArray.empty, [])).1 = ((fs.getD i (ByteArray.empty, [])).2.length : Int) / 128 := by
  unfold lenI
  rw [findN_of h hi, if_pos hi]
theorem lenI_none {fs : List PF} {nm : ByteArray} (h : ¬ findN fs nm < fs.length) : lenI fs nm = 0 := by unfold lenI; rw [if_neg h]
theorem lenI_pos {fs : List PF} {nm : ByteArray} (h : Inv fs) (hf : findN fs nm < fs.length) : 1 ≤ lenI fs nm := by
  unfold lenI
  rw [if_pos hf]
  have := h.pg _ hf
  omega

/-- A new file with one page, or whatever, in its place. -/
theorem totalI_set {fs : List PF} {i : Nat} (hi : i < fs.length) (f : PF) : totalI (fs.set i f) = totalI fs - ((fs.getD i (ByteArray.empty, [])).2.length : Int) / 128 + (f.2.length : Int) / 128 := by
  induction fs generalizing i with
  | nil => simp at hi
  | cons x r ih =>
    cases i with
    | zero => simp [totalI]; omega
    | succ i =>
      simp only [List.set_cons_succ, totalI, List.getD_cons_succ]
      rw [ih (by simpa using hi)]
      omega
theorem totalI_ins (l : List PF) (p : Nat) (x : PF) : totalI (l.take p ++ x :: l.drop p) = totalI l + (x.2.length : Int) / 128 := by
  rw [totalI_append]
  simp only [totalI]
  have h := totalI_append (l.take p) (l.drop p)
  rw [List.take_append_drop] at h
  omega
theorem withName_total (fs : List PF) (nm : ByteArray) : totalI (withName fs nm) = totalI fs := by
  unfold withName
  split
  · rfl
  · rw [totalI_ins]; simp
theorem doP_total (fs : List PF) (nm : ByteArray) (pg : Nat) (bs : List Int) : totalI (doP fs nm pg bs) = totalI fs - ((((withName fs nm).getD (findN (withName fs nm) nm) (ByteArray.empty, [])).2.length : Nat) : Int) / 128 + ((max ((withName fs nm).getD (findN (withName fs nm) nm) (ByteArray.empty, [])).2.length ((pg + 1) * 128) : Nat) : Int) / 128 := by
  unfold doP
  rw [totalI_set (findN_with fs nm), withName_total, doData_len]
theorem withName_data (fs : List PF) (nm : ByteArray) : ((withName fs nm).getD (findN (withName fs nm) nm) (ByteArray.empty, [])).2.length = if findN fs nm < fs.length then (fs.getD (findN fs nm) (ByteArray.empty, [])).2.length else 0 := by
  by_cases h : findN fs nm < fs.length
  · rw [if_pos h]
    have : withName fs nm = fs := by unfold withName; rw [if_pos h]
    rw [this]
  · rw [if_neg h]
    have hp : insN fs nm ≤ fs.length := List.findIdx_le_length
    have e : withName fs nm = fs.take (insN fs nm) ++ (nm, []) :: fs.drop (insN fs nm) := by unfold withName; rw [if_neg h]
    have hno : ∀ i, i < fs.length → (fs.getD i (ByteArray.empty, [])).1 ≠ nm := fun i hi e2 => h (findN_iff.2 ⟨i, hi, e2⟩)
    have hf : findN (withName fs nm) nm = insN fs nm := by
      rw [e]
      refine findN_at (by simp; omega) (fun j hj => ?_) ?_
      · rw [getD_ins _ _ _ _ _ hp, if_pos hj]; exact hno j (by omega)
      · rw [getD_ins _ _ _ _ _ hp, if_neg (by omega), if_pos rfl]
    rw [hf, e, getD_ins _ _ _ _ _ hp, if_neg (by omega), if_pos rfl]
    rfl
theorem doP_total2 {fs : List PF} {nm : ByteArray} {pg : Nat} {bs : List Int} (h : Inv fs) (hp : (pg : Int) ≤ lenI fs nm) : totalI (doP fs nm pg bs) = totalI fs + (if (pg : Int) = lenI fs nm then 1 else 0) := by
  rw [doP_total, withName_data]
  by_cases hf : findN fs nm < fs.length
  · have hl : lenI fs nm = ((fs.getD (findN fs nm) (ByteArray.empty, [])).2.length : Int) / 128 := by unfold lenI; rw [if_pos hf]
    have hpg := h.pg _ hf
    rw [if_pos hf]
    rw [hl] at hp ⊢
    generalize (fs.getD (findN fs nm) (ByteArray.empty, [])).2.length = q at *
    split <;> omega
  · rw [lenI_none hf] at hp ⊢
    rw [if_neg hf]
    have : pg = 0 := by omega
    subst this
    simp
theorem total_mono (fs : List PF) (nm : ByteArray) (pg : Nat) (bs : List Int) : totalI fs ≤ totalI (doP fs nm pg bs) := by
  rw [doP_total]
  generalize ((withName fs nm).getD (findN (withName fs nm) nm) (ByteArray.empty, [])).2.length = q
  omega
theorem len_mono (fs : List PF) (nm : ByteArray) (pg : Nat) (bs : List Int) : fs.length ≤ (doP fs nm pg bs).length := by
  rw [doP_len]; split <;> omega
end Go.Proofs.Ytmmdkjeoadlikaa
