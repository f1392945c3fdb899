import Derived.Test.YtpmagndofiaooaaTfa
namespace Go.Proofs.Ytpmagndofiaooaa
open Go.RowKit
set_option linter.unusedVariables false
set_option linter.unusedSimpArgs false
set_option maxRecDepth 100000

/-- The slot of a key. -/
def lookT (key : ByteArray) (zs : List (ByteArray × ByteArray × Int)) : Option (ByteArray × ByteArray × Int) := zs.find? (fun s => decide (s.1 = key))
theorem look_none {key : ByteArray} {zs : List (ByteArray × ByteArray × Int)} (h : ∀ s ∈ zs, s.1 ≠ key) : lookT key zs = none := by
  unfold lookT
  rw [List.find?_eq_none]
  intro s hs
  simpa using h s hs
/-- In the order of their keys. -/
def SortT (zs : List (ByteArray × ByteArray × Int)) : Prop := zs.Pairwise (fun a b => lessB a.1 b.1 = true)
theorem sort_of_asc {zs : List (ByteArray × ByteArray × Int)} (h : ascB (zs.map (fun s => s.1)) = true) : SortT zs := by
  unfold SortT
  rw [List.pairwise_iff_getElem]
  intro i j hi hj hij
  have := asc_lt (asc_to _ h) hij (by simpa using hj)
  simpa [List.getD, hi, hj] using this
theorem asc_of_sort {zs : List (ByteArray × ByteArray × Int)} (h : SortT zs) : ascTo (zs.map (fun s => s.1)) zs.length := fun i hi => by
  unfold SortT at h
  rw [List.pairwise_iff_getElem] at h
  have := h i (i + 1) (by omega) (by omega) (by omega)
  simpa [List.getD, show i < zs.length by omega, show i + 1 < zs.length by omega] using this
theorem look_atT {key : ByteArray} {zs : List (ByteArray × ByteArray × Int)} {i : Nat} (hs : SortT zs) (hi : i < zs.length) (hk : (zs.getD i (ByteArray.empty, ByteArray.empty, 0)).1 = key) : lookT key zs = some (zs.getD i (ByteArray.empty, ByteArray.empty, 0)) := by
  have he : zs.getD i (ByteArray.empty, ByteArray.empty, 0) = zs[i] := by simp [List.getD, hi]
  rw [he] at hk ⊢
  unfold lookT
  rw [List.find?_eq_some_iff_getElem]
  refine ⟨by simpa using hk, i, hi, rfl, fun j hj => ?_⟩
  unfold SortT at hs
  rw [List.pairwise_iff_getElem] at hs
  have h1 := hs j i (by omega) hi hj
  rw [hk] at h1
  simp only [Bool.not_eq_true', decide_eq_false_iff_not]
  intro e
  rw [e] at h1
  exact less_irrefl _ h1
theorem look_flat {key : ByteArray} : ∀ (L : List (List (ByteArray × ByteArray × Int))) (m : Nat), m < L.length → (∀ i, i < L.length → i ≠ m → ∀ s ∈ L.getD i [], s.1 ≠ key) → lookT key L.flatten = lookT key (L.getD m [])
  | [], m, hm, _ => by simp at hm
  | l :: r, 0, _, h => by
    have hr : lookT key r.flatten = none := look_none (fun s hs => by
      obtain ⟨q, hq, hs2⟩ := List.mem_flatten.1 hs
      obtain ⟨i, hi, e⟩ := List.mem_iff_getElem.1 hq
      refine h (i + 1) (by simpa using hi) (by omega) s ?_
      simp [List.getD, hi, e, hs2])
    show lookT key (l ++ r.flatten) = lookT key l
    unfold lookT at hr ⊢
    rw [List.find?_append, hr]
    simp
  | l :: r, m + 1, hm, h => by
    have hl : lookT key l = none := look_none (fun s hs => h 0 (by simp) (by omega) s (by simpa using hs))
    have ih := look_flat r m (by simpa using hm) (fun i hi hne s hs => h (i + 1) (by simpa using hi) (by omega) s (by simpa using hs))
    have e1 : lookT key ((l :: r).flatten) = lookT key r.flatten := by
      show lookT key (l ++ r.flatten) = _
      unfold lookT at hl ⊢
      rw [List.find?_append, hl]
      rfl
    rw [e1, ih]
    simp
theorem slots_ne (t : T) : t.good false = true → t.slots ≠ [] := by
  induction t using T.ind with
  | h t ih =>
    intro hg
    have hg0 := hg
    rw [T.good_eq] at hg
    simp only [Bool.and_eq_true, decide_eq_true_eq] at hg
    have h2 := hg.1.1.1.1.1
    have h3 := hg.1.1.2
    rw [T.slots_eq]
    cases hl : t.leaf
    · simp only [hl, T.size, Bool.and_false, Bool.false_eq_true, if_false] at h2
      obtain ⟨k, r, hk⟩ : ∃ k r, t.kids = k :: r := List.exists_cons_of_ne_nil (by intro e; rw [e] at h2; simp at h2)
      have := ih k (by rw [hk]; exact List.mem_cons_self ..) (goodG_kid hg0 (by rw [hk]; exact List.mem_cons_self ..))
      rw [hk]
      simp [this]
    · have h2' : 2 ≤ t.keys.length := by simpa [hl, T.size] using h2
      simp only [hl, Bool.not_true, Bool.false_or, Bool.and_eq_true, decide_eq_true_eq] at h3
      intro e
      have := congrArg List.length e
      simp only [if_true, List.length_append, List.length_zip, List.length_nil] at this
      omega
theorem low_head (t : T) : t.good false = true → ∀ s r, t.slots = s :: r → s.1 = t.low := by
  induction t using T.ind with
  | h t ih =>
    intro hg s r hs
    have hg0 := hg
    rw [T.good_eq] at hg
    simp only [Bool.and_eq_true, decide_eq_true_eq] at hg
    have h2 := hg.1.1.1.1.1
    have h3 := hg.1.1.2
    rw [T.slots_eq] at hs
    cases hl : t.leaf
    · simp only [hl, T.size, Bool.and_false, Bool.false_eq_true, if_false] at h2
      obtain ⟨k, q, hk⟩ : ∃ k q, t.kids = k :: q := List.exists_cons_of_ne_nil (by intro e; rw [e] at h2; simp at h2)
      have hkm : k ∈ t.kids := by rw [hk]; exact List.mem_cons_self ..
      rw [if_neg (by simp [hl]), List.nil_append, hk, List.map_cons, List.flatten_cons] at hs
      rw [T.low_inner hl hk]
      obtain ⟨s', r', e'⟩ := List.exists_cons_of_ne_nil (slots_ne k (goodG_kid hg0 hkm))
      rw [e', List.cons_append] at hs
      have := (List.cons.inj hs).1
      rw [← this]
      exact ih k hkm (goodG_kid hg0 hkm) s' r' e'
    · have h2 : 2 ≤ t.keys.length := by simpa [hl, T.size] using h2
      simp only [hl, Bool.not_true, Bool.false_or, Bool.and_eq_true, decide_eq_true_eq] at h3
      rw [if_pos hl] at hs
      rw [T.low_leaf hl]
      cases hks : t.keys with
      | nil => rw [hks] at h2; simp at h2
      | cons a ra =>
        cases hv : t.vals with
        | nil => rw [hks, hv] at h3; simp at h3
        | cons v rv =>
          cases ho : t.over with
          | nil => rw [hks, ho] at h3; simp at h3
          | cons o ro =>
            rw [hks, hv, ho] at hs
            simp only [List.zip_cons_cons, List.cons_append] at hs
            rw [← (List.cons.inj hs).1]
            rfl
/-- At most, as texts. -/
def leTB (a b : ByteArray) : Bool := Op.bytesLess a.toList b.toList || a.toList == b.toList
theorem le_iff (a b : ByteArray) : leTB a b = true ↔ lessB a b = true ∨ a = b := by
  unfold leTB lessB
  rw [Bool.or_eq_true, beq_iff_eq]
  exact ⟨fun h => h.imp id listG_inj, fun h => h.imp id (fun e => by rw [e])⟩
/-- The child that a key belongs to. -/
def TowardIs (t : T) (key : ByteArray) (m : Nat) : Prop := m < t.kids.length ∧ (m = 0 ∨ ∃ k, t.kids[m]? = some k ∧ leTB k.low key = true) ∧ ∀ i k, m < i → t.kids[i]? = some k → ¬ leTB k.low key = true
theorem look_toward {t k : T} {key : ByteArray} {m : Nat} (hl : t.leaf = false) (hg : ∃ r, t.good r = true) (hs : SortT t.slots) (hm : TowardIs t key m) (hk : t.kids[m]? = some k) : lookT key t.slots = lookT key k.slots ∧ SortT k.slots := by
  obtain ⟨r, hg⟩ := hg
  have hsl : t.slots = (t.kids.map T.slots).flatten := by rw [T.slots_eq, if_neg (by simp [hl]), List.nil_append]
  rw [hsl] at hs ⊢
  unfold SortT at hs
  rw [List.pairwise_flatten] at hs
  obtain ⟨h1, h2⟩ := hs
  rw [List.pairwise_iff_getElem] at h2
  have hgk : ∀ q ∈ t.kids, q.good false = true := fun q hq => goodG_kid hg hq
  have hkm := List.mem_of_getElem? hk
  refine ⟨?_, h1 _ (List.mem_map.2 ⟨k, hkm, rfl⟩)⟩
  have hlen : (t.kids.map T.slots).length = t.kids.length := by simp
  have hget : ∀ i (hi : i < t.kids.length), (t.kids.map T.slots).getD i [] = t.kids[i].slots := fun i hi => by simp [List.getD, hi]
  have hme : (t.kids.map T.slots).getD m [] = k.slots := by
    obtain ⟨hi, e⟩ := List.getElem?_eq_some_iff.1 hk
    rw [hget m hi, e]
  rw [look_flat _ m (by rw [hlen]; exact hm.1) (fun i hi hne s hsm e => ?_), hme]
  rw [hlen] at hi
  rw [hget i hi] at hsm
  have hgi := hgk t.kids[i] (List.getElem_mem hi)
  by_cases him : i < m
  · -- below the child: all its keys are below the child's least
    rcases hm.2.1 with h0 | ⟨k', hk', hle⟩
    · omega
    · have hkk : k' = k := by rw [hk] at hk'; exact (Option.some.inj hk').symm
      subst hkk
      obtain ⟨s', r', e'⟩ := List.exists_cons_of_ne_nil (slots_ne k' (hgk k' hkm))
      have hlow := low_head k' (hgk k' hkm) s' r' e'
      obtain ⟨hi2, e2⟩ := List.getElem?_eq_some_iff.1 hk
      have hlt := h2 i m (by rw [hlen]; exact hi) (by rw [hlen]; exact hm.1) him s (by simpa using hsm) s' (by simp [e2, e'])
      rw [e, hlow] at hlt
      rcases (le_iff _ _).1 hle with h5 | h5
      · exact less_irrefl _ (less_trans hlt h5)
      · rw [h5] at hlt; exact less_irrefl _ hlt
  · have hgt : m < i := by omega
    have hnle := hm.2.2 i t.kids[i] hgt (List.getElem?_eq_getElem hi)
    obtain ⟨s', r', e'⟩ := List.exists_cons_of_ne_nil (slots_ne _ hgi)
    have hlow := low_head _ hgi s' r' e'
    apply hnle
    rw [le_iff]
    have hp := h1 _ (List.mem_map.2 ⟨t.kids[i], List.getElem_mem hi, rfl⟩)
    rw [e'] at hp hsm
    rcases List.mem_cons.1 hsm with rfl | hin
    · right; rw [← hlow]; exact e
    · left
      have := List.rel_of_pairwise_cons hp hin
      rw [hlow, e] at this
      exact this
end Go.Proofs.Ytpmagndofiaooaa
