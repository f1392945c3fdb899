import Derived.Test.YtpmagndofiaooaaTue
namespace Go.Proofs.Ytpmagndofiaooaa
open Go.RowKit
set_option linter.unusedVariables false
set_option linter.unusedSimpArgs false
set_option maxRecDepth 100000

theorem shareN_rest {n : Nat} (h : 2 ≤ n) : 2 ≤ shareN n ∧ (n - shareN n = 0 ∨ 2 ≤ n - shareN n) := by
  unfold shareN
  split <;> omega
theorem chunks_half {α : Type} : ∀ (k : Nat) (l : List α), l.length ≤ k → 2 ≤ l.length → (chunks l).length * 2 ≤ l.length
  | 0, l, h, h2 => by omega
  | k + 1, l, h, h2 => by
    obtain ⟨h3, h4⟩ := shareN_rest h2
    have hs := shareN_le (n := l.length) (by omega)
    rw [chunks_step (by omega), List.length_cons]
    rcases h4 with h5 | h5
    · rw [List.drop_eq_nil_of_le (by omega), chunks_nil]; simp; omega
    · have := chunks_half k (l.drop (shareN l.length)) (by rw [List.length_drop]; omega) (by rw [List.length_drop]; omega)
      rw [List.length_drop] at this
      omega
theorem chunks_pos {α : Type} {l : List α} (h : 0 < l.length) : 0 < (chunks l).length := by rw [chunks_step h]; simp
theorem chunks_le {α : Type} : ∀ (k : Nat) (l : List α), l.length ≤ k → (chunks l).length ≤ l.length
  | 0, l, h => by
    have : l = [] := List.length_eq_zero_iff.1 (by omega)
    subst this; simp [chunks_nil]
  | k + 1, l, h => by
    by_cases h0 : 0 < l.length
    · have hs := shareN_le h0
      rw [chunks_step h0, List.length_cons]
      have := chunks_le k (l.drop (shareN l.length)) (by rw [List.length_drop]; omega)
      rw [List.length_drop] at this
      omega
    · have : l = [] := List.length_eq_zero_iff.1 (by omega)
      subst this; simp [chunks_nil]
theorem chunks_mem {α : Type} : ∀ (k : Nat) (l : List α), l.length ≤ k → ∀ c ∈ chunks l, 0 < c.length ∧ c.length ≤ 4 ∧ ∀ x ∈ c, x ∈ l
  | 0, l, h, c, hc => by
    have : l = [] := List.length_eq_zero_iff.1 (by omega)
    subst this; simp [chunks_nil] at hc
  | k + 1, l, h, c, hc => by
    by_cases h0 : 0 < l.length
    · have hs := shareN_le h0
      rw [chunks_step h0, List.mem_cons] at hc
      rcases hc with rfl | hc
      · exact ⟨by rw [List.length_take]; omega, by rw [List.length_take]; omega, fun x hx => List.mem_of_mem_take hx⟩
      · obtain ⟨h1, h2, h3⟩ := chunks_mem k (l.drop (shareN l.length)) (by rw [List.length_drop]; omega) c hc
        exact ⟨h1, h2, fun x hx => List.mem_of_mem_drop (h3 x hx)⟩
    · have : l = [] := List.length_eq_zero_iff.1 (by omega)
      subst this; simp [chunks_nil] at hc
theorem chunks_flat {α : Type} : ∀ (k : Nat) (l : List α), l.length ≤ k → (chunks l).flatten = l
  | 0, l, h => by
    have : l = [] := List.length_eq_zero_iff.1 (by omega)
    subst this; simp [chunks_nil]
  | k + 1, l, h => by
    by_cases h0 : 0 < l.length
    · have hs := shareN_le h0
      rw [chunks_step h0, List.flatten_cons, chunks_flat k _ (by rw [List.length_drop]; omega), List.take_append_drop]
    · have : l = [] := List.length_eq_zero_iff.1 (by omega)
      subst this; simp [chunks_nil]
/-- A level, and the one above it. -/
def upT (ts : List T) : List T := (chunks ts).map innB
def topF : Nat → List T → List T
  | 0, ts => ts
  | f + 1, ts => if 1 < ts.length then topF f (upT ts) else ts
def lvlB (zs : List (ByteArray × ByteArray)) : List T := (chunks zs).map leafB
def rootT (zs : List (ByteArray × ByteArray)) : T := (topF zs.length (lvlB zs)).headD (leafB [])
def sumN (ts : List T) : Nat := (ts.map T.nodes).sum
/-- A level that may be told. -/
structure LvOk (n : Nat) (ts : List T) : Prop where
  pos : 0 < ts.length
  le : ts.length ≤ n
  sum : sumN ts + ts.length ≤ 2 * n
  all : ∀ t ∈ ts, t.whole = true ∧ 0 < t.size
theorem leafB_ok {c : List (ByteArray × ByteArray)} (h : c.length ≤ 4) : (leafB c).whole = true ∧ (leafB c).size = c.length ∧ (leafB c).nodes = 1 := by
  refine ⟨?_, ?_, ?_⟩
  · rw [T.whole_eq]
    simp only [leafB, List.length_map, Bool.not_true, Bool.false_or, Bool.true_or, List.map_nil, List.all_nil, Bool.and_true, decide_true, Bool.true_and, List.isEmpty_nil]
    simp; omega
  · simp [leafB, T.size]
  · rw [T.nodes_eq]; rfl
theorem innB_ok {c : List T} (h : 0 < c.length) (hc : ∀ t ∈ c, t.whole = true ∧ 0 < t.size) : (innB c).whole = true ∧ 0 < (innB c).size ∧ (innB c).nodes = 1 + sumN c := by
  refine ⟨?_, ?_, ?_⟩
  · rw [T.whole_eq]
    have h1 : c.isEmpty = false := by cases c with | nil => simp at h | cons => rfl
    have h2 : c.all (fun t => decide (0 < t.size)) = true := List.all_eq_true.2 (fun t ht => by simpa using (hc t ht).2)
    have h3 : (c.map T.whole).all id = true := List.all_eq_true.2 (fun b hb => by obtain ⟨t, ht, rfl⟩ := List.mem_map.1 hb; exact (hc t ht).1)
    show ((!(innB c).leaf || _) && ((innB c).leaf || (!c.isEmpty && c.all _)) && (c.map T.whole).all id) = true
    rw [h1, h2, h3]; rfl
  · simpa [innB, T.size] using h
  · rw [T.nodes_eq]; rfl
theorem sumN_map {α : Type} (f : α → T) (k : α → Nat) (l : List α) (h : ∀ x ∈ l, (f x).nodes = k x) : sumN (l.map f) = (l.map k).sum := by
  induction l with
  | nil => rfl
  | cons x r ih =>
    have := ih (fun y hy => h y (List.mem_cons_of_mem _ hy))
    unfold sumN at this ⊢
    simp only [List.map_cons, List.sum_cons, this, h x (List.mem_cons_self ..)]
theorem lvlB_ok {zs : List (ByteArray × ByteArray)} (h : 0 < zs.length) : LvOk zs.length (lvlB zs) := by
  have hl : (lvlB zs).length = (chunks zs).length := by simp [lvlB]
  have hle := chunks_le _ zs (Nat.le_refl _)
  have hm := chunks_mem _ zs (Nat.le_refl _)
  refine ⟨by rw [hl]; exact chunks_pos h, by omega, ?_, fun t ht => ?_⟩
  · have e : sumN (lvlB zs) = (chunks zs).length := by
      unfold lvlB
      rw [sumN_map leafB (fun _ => 1) _ (fun c hc => (leafB_ok (hm c hc).2.1).2.2)]
      generalize chunks zs = q
      induction q with
      | nil => rfl
      | cons x r ih => simp only [List.map_cons, List.sum_cons, List.length_cons, ih]; omega
    omega
  · obtain ⟨c, hc, rfl⟩ := List.mem_map.1 ht
    have := leafB_ok (hm c hc).2.1
    exact ⟨this.1, by rw [this.2.1]; exact (hm c hc).1⟩
theorem upT_ok {n : Nat} {ts : List T} (h : LvOk n ts) (h2 : 2 ≤ ts.length) : LvOk n (upT ts) ∧ (upT ts).length * 2 ≤ ts.length := by
  have hl : (upT ts).length = (chunks ts).length := by simp [upT]
  have hh := chunks_half _ ts (Nat.le_refl _) h2
  have hm := chunks_mem _ ts (Nat.le_refl _)
  have hi : ∀ c ∈ chunks ts, (innB c).whole = true ∧ 0 < (innB c).size ∧ (innB c).nodes = 1 + sumN c := fun c hc => innB_ok (hm c hc).1 (fun t ht => h.all t ((hm c hc).2.2 t ht))
  have e : sumN (upT ts) = (chunks ts).length + sumN ts := by
    unfold upT
    rw [sumN_map innB (fun c => 1 + sumN c) _ (fun c hc => (hi c hc).2.2)]
    have hf := chunks_flat _ ts (Nat.le_refl _)
    have : sumN ts = sumN (chunks ts).flatten := by rw [hf]
    rw [this]
    generalize chunks ts = q
    induction q with
    | nil => rfl
    | cons x r ih =>
      simp only [List.map_cons, List.sum_cons, List.length_cons, List.flatten_cons, ih]
      unfold sumN
      rw [List.map_append, List.sum_append]; omega
  have := h.le; have := h.sum
  refine ⟨⟨by rw [hl]; exact chunks_pos (by omega), by omega, by omega, fun t ht => ?_⟩, by omega⟩
  obtain ⟨c, hc, rfl⟩ := List.mem_map.1 ht
  exact ⟨(hi c hc).1, (hi c hc).2.1⟩
theorem topF_step {f : Nat} {ts : List T} (h : 1 < ts.length) (hf : ts.length ≤ f + 1) (h2 : (upT ts).length * 2 ≤ ts.length) : topF (f + 1) ts = topF f (upT ts) ∧ (upT ts).length ≤ f := by
  rw [topF, if_pos h]; exact ⟨rfl, by omega⟩
theorem topF_done (f : Nat) {ts : List T} (h : ts.length ≤ 1) : topF f ts = ts := by
  cases f with
  | zero => rfl
  | succ f => rw [topF, if_neg (by omega)]
end Go.Proofs.Ytpmagndofiaooaa
