import Derived.Test.YtpmagndofiaooaaTpv
import Derived.Test.YtpmagndofiaooaaTlb
namespace Go.Proofs.Ytpmagndofiaooaa
open Go.RowKit
set_option linter.unusedVariables false
set_option linter.unusedSimpArgs false
set_option maxRecDepth 100000

/-- Inner nodes have no overflow numbers. -/
def Tight : T → Prop
  | ⟨l, _, _, _, o, y⟩ => (l = false → o = []) ∧ ∀ k, k ∈ y → Tight k
theorem tight_eq (t : T) : Tight t ↔ (t.leaf = false → t.over = []) ∧ ∀ k ∈ t.kids, Tight k := by cases t; rw [Tight]
def TGood (ts : List TN) (f : Nat) : Prop := ∀ nx t nx', rd ts f nx = (t, nx', false) → Seg ts nx t → Tight t
theorem rdK_tight {ts : List TN} {f : Nat} (hf : TGood ts f) : ∀ (ks : List Int) (nx : Nat) (zs : List T) (nx' : Nat), rdK (rd ts f) ks nx = (zs, nx', false) → nx + (zs.map T.nodes).sum ≤ ts.length → offs nx (zs.map T.flat) = (ts.drop nx).take (zs.map T.nodes).sum → ∀ z ∈ zs, Tight z
  | [], nx, zs, nx', h, _, _ => by
    simp [rdK] at h
    obtain ⟨rfl, rfl⟩ := h
    simp
  | k :: ks, nx, zs, nx', h, hlen, hoff => by
    unfold rdK at h
    split at h
    · rename_i hk
      subst hk
      split at h
      · simp at h
      · rename_i hb
        simp only [Prod.mk.injEq] at h
        obtain ⟨e1, rfl, h3⟩ := h
        have hone : rd ts f nx = ((rd ts f nx).1, (rd ts f nx).2.1, false) := by
          have : (rd ts f nx).2.2 = false := by simpa using hb
          rw [← this]
        obtain ⟨a1, a2, a3⟩ := rd_some ts f _ _ _ hone
        generalize (rd ts f nx).1 = t at *
        generalize (rd ts f nx).2.1 = nx1 at *
        have hrest : rdK (rd ts f) ks nx1 = ((rdK (rd ts f) ks nx1).1, (rdK (rd ts f) ks nx1).2.1, false) := by rw [← h3]
        generalize (rdK (rd ts f) ks nx1).1 = qs at *
        generalize (rdK (rd ts f) ks nx1).2.1 = nx2 at *
        subst e1
        simp only [List.map_cons, List.sum_cons, offs] at hlen hoff
        rw [flat_len t a1, take_split] at hoff
        obtain ⟨hs1, hs2⟩ := List.append_inj hoff (by rw [flat_len t a1, List.length_take, List.length_drop]; omega)
        have k1 := hf nx t nx1 hone ⟨by omega, hs1⟩
        have k2 := rdK_tight hf ks nx1 qs nx2 hrest (by omega) (by rw [a2]; exact hs2)
        intro z hz
        rcases List.mem_cons.1 hz with rfl | hz
        · exact k1
        · exact k2 z hz
    · simp at h
theorem rd_tight (ts : List TN) : ∀ f, TGood ts f
  | 0 => by intro nx t nx' h; simp [rd] at h
  | f + 1 => by
    have ih := rd_tight ts f
    intro nx t nx' h hseg
    unfold rd at h
    split at h
    · rename_i hlt
      have hsh := seg_head hlt
      split at h
      · simp only [Prod.mk.injEq] at h
        obtain ⟨rfl, rfl, _⟩ := h
        rw [tight_eq]; simp
      · rename_i hl
        split at h
        · simp at h
        · rename_i hk
          simp only [Prod.mk.injEq] at h
          obtain ⟨rfl, rfl, h3⟩ := h
          have hrest : rdK (rd ts f) (ts.getD nx dT).kids (nx + 1) = ((rdK (rd ts f) (ts.getD nx dT).kids (nx + 1)).1, (rdK (rd ts f) (ts.getD nx dT).kids (nx + 1)).2.1, false) := by rw [← h3]
          generalize ts.getD nx dT = x at *
          obtain ⟨a1, a2, a3⟩ := rdK_some (rd_some ts f) _ _ _ _ hrest
          generalize (rdK (rd ts f) x.kids (nx + 1)).1 = zs at *
          generalize (rdK (rd ts f) x.kids (nx + 1)).2.1 = nx2 at *
          have hn : T.nodes ⟨false, x.page, [], x.vals, x.over, zs⟩ = 1 + (zs.map T.nodes).sum := T.nodes_eq _
          obtain ⟨hs1, hs2⟩ := hseg
          rw [hn] at hs1 hs2
          rw [take_split, hsh, T.flat_eq, if_neg (by simp)] at hs2
          have hx := (List.cons.inj hs2).1
          have ho := (List.cons.inj hs2).2
          simp only at hx ho
          have hxo : x.over = [] := by rw [← hx]
          rw [tight_eq]
          exact ⟨fun _ => hxo, rdK_tight ih x.kids (nx + 1) zs nx2 hrest (by omega) ho⟩
    · simp at h
theorem good_kids {t k : T} {r : Bool} (h : t.good r = true) (hk : k ∈ t.kids) : k.good false = true := by
  rw [T.good_eq] at h
  simp only [Bool.and_eq_true] at h
  exact List.all_eq_true.1 h.1.2 (k.good false) (List.mem_map.2 ⟨k, hk, rfl⟩)
theorem nums_page (t : T) : Tight t → (∃ r, t.good r = true) → ∀ x ∈ t.nums, pgB x = true := by
  induction t using T.ind with
  | h t ih =>
    rintro ht ⟨r, hg⟩ x hx
    rw [tight_eq] at ht
    have hkids : ∀ k ∈ t.kids, ∀ x ∈ k.nums, pgB x = true := fun k hk => ih k hk (ht.2 k hk) ⟨false, good_kids hg hk⟩
    rw [T.good_eq] at hg
    simp only [Bool.and_eq_true, decide_eq_true_eq] at hg
    obtain ⟨⟨⟨⟨g1, g2⟩, g3⟩, g4⟩, g5⟩ := hg
    rw [T.nums_eq] at hx
    rcases List.mem_append.1 hx with hx | hx
    · rcases List.mem_append.1 hx with hx | hx
      · split at hx
        · cases hx
        · rename_i h0
          simp at hx
          subst hx
          simp [h0] at g2
          exact g2
      · obtain ⟨h1, h2⟩ := List.mem_filter.1 hx
        cases hl : t.leaf
        · rw [ht.1 hl] at h1; cases h1
        · simp only [hl, Bool.not_true, Bool.false_or, Bool.and_eq_true, decide_eq_true_eq] at g3
          obtain ⟨⟨l1, l2⟩, l3⟩ := g3
          obtain ⟨i, hi, e⟩ := List.mem_iff_getElem.1 h1
          have hz : (t.vals[i]'(by omega), x) ∈ t.vals.zip t.over := by
            rw [List.mem_iff_getElem]
            refine ⟨i, by simp; omega, by simp [e]⟩
          have h3 := List.all_eq_true.1 l3 _ hz
          unfold standB at h3
          simp only [Bool.and_eq_true] at h3
          have h4 := h3.1.1.2
          have h5 : (x == 0) = false := by simpa using h2
          simpa [h5] using h4
    · obtain ⟨l, hl, hx⟩ := List.mem_flatten.1 hx
      obtain ⟨k, hk, rfl⟩ := List.mem_map.1 hl
      exact hkids k hk x hx
theorem flat_sum_le {α : Type} {l : List T} {f : T → List α} {c : Nat} (h : ∀ k ∈ l, (f k).length ≤ c * k.nodes) : ((l.map f).flatten).length ≤ c * (l.map T.nodes).sum := by
  induction l with
  | nil => simp
  | cons a r ih =>
    simp only [List.map_cons, List.flatten_cons, List.length_append, List.sum_cons]
    have h1 := h a (List.mem_cons_self ..)
    have h2 := ih (fun k hk => h k (List.mem_cons_of_mem _ hk))
    rw [Nat.mul_add]
    omega
theorem nums_len (t : T) : Tight t → (∃ r, t.good r = true) → t.nums.length ≤ 5 * t.nodes := by
  induction t using T.ind with
  | h t ih =>
    rintro ht ⟨r, hg⟩
    rw [tight_eq] at ht
    have hk := flat_sum_le (l := t.kids) (f := T.nums) (c := 5) (fun k hk => ih k hk (ht.2 k hk) ⟨false, good_kids hg hk⟩)
    rw [T.good_eq] at hg
    simp only [Bool.and_eq_true, decide_eq_true_eq] at hg
    obtain ⟨⟨⟨⟨g1, g2⟩, g3⟩, g4⟩, g5⟩ := hg
    rw [T.nums_eq, T.nodes_eq, List.length_append, List.length_append]
    have h1 : (if t.page = 0 then ([] : List Int) else [t.page]).length ≤ 1 := by split <;> simp
    have h2 : (t.over.filter (fun x => x != 0)).length ≤ 4 := by
      refine Nat.le_trans (List.length_filter_le ..) ?_
      cases hl : t.leaf
      · rw [ht.1 hl]; simp
      · simp only [hl, Bool.not_true, Bool.false_or, Bool.and_eq_true, decide_eq_true_eq] at g3
        simp only [T.size, hl, if_true] at g1
        omega
    omega
theorem slots_len (t : T) : (∃ r, t.good r = true) → t.slots.length ≤ 4 * t.nodes := by
  induction t using T.ind with
  | h t ih =>
    rintro ⟨r, hg⟩
    have hk := flat_sum_le (l := t.kids) (f := T.slots) (c := 4) (fun k hk => ih k hk ⟨false, good_kids hg hk⟩)
    rw [T.good_eq] at hg
    simp only [Bool.and_eq_true, decide_eq_true_eq] at hg
    rw [T.slots_eq, T.nodes_eq, List.length_append]
    have h1 : (if t.leaf then t.keys.zip (t.vals.zip t.over) else []).length ≤ 4 := by
      have g1 := hg.1.1.1.1
      unfold T.size at g1
      split
      · rename_i hl
        rw [if_pos hl] at g1
        simp only [List.length_zip]
        omega
      · simp
    omega
theorem flat_even (t : T) : (∃ r, t.good r = true) → ∀ s, ∀ x ∈ t.flat s, x.over.length = x.vals.length := by
  induction t using T.ind with
  | h t ih =>
    rintro ⟨r, hg⟩ s x hx
    have hall : ∀ k ∈ t.kids, ∀ s, ∀ x ∈ k.flat s, x.over.length = x.vals.length := fun k hk => ih k hk ⟨false, good_kids hg hk⟩
    rw [T.flat_eq] at hx
    split at hx
    · rename_i hl
      simp at hx
      subst hx
      rw [T.good_eq] at hg
      simp only [Bool.and_eq_true, decide_eq_true_eq, hl, Bool.not_true, Bool.false_or] at hg
      have := hg.1.1.2
      simp only
      omega
    · rcases List.mem_cons.1 hx with rfl | hx
      · rfl
      · have : ∀ (ys : List T) (s : Nat), (∀ k ∈ ys, ∀ s, ∀ x ∈ k.flat s, x.over.length = x.vals.length) → ∀ x ∈ offs s (ys.map T.flat), x.over.length = x.vals.length := by
          intro ys
          induction ys with
          | nil => intro s h x hx; simp [offs] at hx
          | cons y r ihr =>
            intro s h x hx
            simp only [List.map_cons, offs, List.mem_append] at hx
            rcases hx with hx | hx
            · exact h y (List.mem_cons_self ..) s x hx
            · exact ihr _ (fun k hk => h k (List.mem_cons_of_mem _ hk)) x hx
        exact this t.kids _ hall x hx
/-- Ascending as far as k. -/
def ascTo (l : List ByteArray) (k : Nat) : Prop := ∀ i, i + 1 < k → lessB (l.getD i ByteArray.empty) (l.getD (i + 1) ByteArray.empty) = true
theorem asc_of (l : List ByteArray) (h : ascTo l l.length) : ascB l = true := by
  induction l with
  | nil => rfl
  | cons a r ih =>
    cases r with
    | nil => rfl
    | cons b r =>
      show (lessB a b && ascB (b :: r)) = true
      rw [Bool.and_eq_true]
      refine ⟨by simpa using h 0 (by simp), ih (fun i hi => ?_)⟩
      have := h (i + 1) (by simp at hi ⊢; omega)
      simpa using this
theorem asc_to (l : List ByteArray) (h : ascB l = true) : ascTo l l.length := by
  induction l with
  | nil => intro i hi; simp at hi
  | cons a r ih =>
    cases r with
    | nil => intro i hi; simp at hi
    | cons b r =>
      have h : (lessB a b && ascB (b :: r)) = true := h
      rw [Bool.and_eq_true] at h
      intro i hi
      cases i with
      | zero => simpa using h.1
      | succ i =>
        have := ih h.2 i (by simp at hi ⊢; omega)
        simpa using this
end Go.Proofs.Ytpmagndofiaooaa
