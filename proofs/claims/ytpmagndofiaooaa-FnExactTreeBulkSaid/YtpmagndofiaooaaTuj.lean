import Derived.Test.YtpmagndofiaooaaTui
namespace Go.Proofs.Ytpmagndofiaooaa
open Go.RowKit
set_option linter.unusedVariables false
set_option linter.unusedSimpArgs false
set_option maxRecDepth 100000

theorem chunks_two {α : Type} : ∀ (k : Nat) (l : List α), l.length ≤ k → 2 ≤ l.length → ∀ c ∈ chunks l, 2 ≤ c.length
  | 0, l, h, h2, c, hc => by omega
  | k + 1, l, h, h2, c, hc => by
    obtain ⟨h3, h4⟩ := shareN_rest h2
    have hs := shareN_le (n := l.length) (by omega)
    rw [chunks_step (by omega), List.mem_cons] at hc
    rcases hc with rfl | hc
    · rw [List.length_take]; omega
    · rcases h4 with h5 | h5
      · rw [List.drop_eq_nil_of_le (by omega), chunks_nil] at hc; simp at hc
      · exact chunks_two k (l.drop (shareN l.length)) (by rw [List.length_drop]; omega) (by rw [List.length_drop]; omega) c hc
theorem chunks_four {α : Type} : ∀ (k : Nat) (l : List α), l.length ≤ k → l.length ≤ (chunks l).length * 4
  | 0, l, h => by omega
  | k + 1, l, h => by
    by_cases h0 : 0 < l.length
    · have hs := shareN_le h0
      rw [chunks_step h0, List.length_cons]
      have := chunks_four k (l.drop (shareN l.length)) (by rw [List.length_drop]; omega)
      rw [List.length_drop] at this
      omega
    · omega
def keysOk (t : T) : Prop := t.slots.all (fun s => kyB s.1) = true
structure LvGd (ts : List T) : Prop where
  all : ∀ t ∈ ts, t.good true = true ∧ keysOk t
  two : 2 ≤ ts.length → ∀ t ∈ ts, t.good false = true
theorem leafB_good {c : List (ByteArray × ByteArray)} (r : Bool) (h : c.length ≤ 4) (h2 : r = true ∨ 2 ≤ c.length) (hv : ∀ z ∈ c, z.2.size ≤ 400) : (leafB c).good r = true := by
  rw [T.good_eq]
  have h3 : (leafB c).size = c.length := (leafB_ok h).2.1
  have h4 : ((leafB c).vals.zip (leafB c).over).all (fun x => standB (leafB c).page x.1 x.2) = true := by
    rw [List.all_eq_true]
    intro x hx
    obtain ⟨v, o⟩ := x
    have e : (leafB c).vals.zip (leafB c).over = c.map (fun z => (z.2, (0 : Int))) := by
      unfold leafB
      simp only
      clear hx h3 hv h2 h
      induction c with
      | nil => rfl
      | cons z q ih => simp only [List.map_cons, List.zip_cons_cons, ih]
    rw [e] at hx
    obtain ⟨z, hz, e2⟩ := List.mem_map.1 hx
    simp only [Prod.mk.injEq] at e2
    obtain ⟨rfl, rfl⟩ := e2
    have := hv z hz
    simp [standB, leafB, this]
  rw [h4, h3]
  simp only [leafB, List.length_map, List.map_nil, List.all_nil, decide_true, Bool.and_true, Bool.true_and, Bool.not_true, Bool.false_or]
  simp only [beq_self_eq_true, Bool.true_or, Bool.and_true, decide_eq_true_eq]
  refine ⟨?_, h⟩
  rcases h2 with rfl | h2
  · simp
  · split <;> omega
theorem leafB_keys {c : List (ByteArray × ByteArray)} (hk : ∀ z ∈ c, kyB z.1 = true) : keysOk (leafB c) := by
  unfold keysOk
  have e : (leafB c).slots = slB c := by
    rw [T.slots_eq, slB_zip]
    show slB c ++ [] = slB c
    rw [List.append_nil]
  rw [e, List.all_eq_true]
  intro s hs
  obtain ⟨z, hz, rfl⟩ := List.mem_map.1 hs
  exact hk z hz
theorem innB_good {c : List T} (r : Bool) (h : 2 ≤ c.length ∧ c.length ≤ 4) (hg : ∀ t ∈ c, t.good false = true) : (innB c).good r = true := by
  rw [T.good_eq]
  have h1 : (c.map (fun t => t.good false)).all id = true := List.all_eq_true.2 (fun b hb => by obtain ⟨t, ht, rfl⟩ := List.mem_map.1 hb; exact hg t ht)
  have h2 : (innB c).size = c.length := rfl
  show (decide _ && _ && _ && (c.map (fun t => t.good false)).all id && c.all _) = true
  rw [h1, h2]
  simp [innB]
  omega
theorem innB_keys {c : List T} (hk : ∀ t ∈ c, keysOk t) : keysOk (innB c) := by
  unfold keysOk
  rw [List.all_eq_true]
  intro s hs
  rw [T.slots_eq] at hs
  replace hs : s ∈ [] ++ (c.map T.slots).flatten := hs
  rw [List.nil_append, List.mem_flatten] at hs
  obtain ⟨l, hl, hs⟩ := hs
  obtain ⟨t, ht, rfl⟩ := List.mem_map.1 hl
  exact List.all_eq_true.1 (hk t ht) s hs
theorem bulk_at {zs : List (ByteArray × ByteArray)} (h : bulkOk zs = true) : ∀ z ∈ zs, kyB z.1 = true ∧ z.2.size ≤ 400 := by
  intro z hz
  obtain ⟨i, hi, rfl⟩ := List.mem_iff_getElem.1 hz
  unfold bulkOk at h
  have := List.all_eq_true.1 h i (List.mem_range.2 hi)
  unfold okAt at this
  simp only [Bool.and_eq_true, decide_eq_true_eq, List.getD, List.getElem?_eq_getElem hi, Option.getD_some] at this
  exact ⟨this.1.1, this.1.2⟩
theorem lvlB_gd {zs : List (ByteArray × ByteArray)} (h : bulkOk zs = true) : LvGd (lvlB zs) := by
  have hm := chunks_mem _ zs (Nat.le_refl _)
  have hz := bulk_at h
  refine ⟨fun t ht => ?_, fun h2 t ht => ?_⟩
  · obtain ⟨c, hc, rfl⟩ := List.mem_map.1 ht
    exact ⟨leafB_good true (hm c hc).2.1 (.inl rfl) (fun z hz' => (hz z ((hm c hc).2.2 z hz')).2), leafB_keys (fun z hz' => (hz z ((hm c hc).2.2 z hz')).1)⟩
  · obtain ⟨c, hc, rfl⟩ := List.mem_map.1 ht
    have h3 := chunks_le _ zs (Nat.le_refl _)
    have h4 : (lvlB zs).length = (chunks zs).length := by simp [lvlB]
    exact leafB_good false (hm c hc).2.1 (.inr (chunks_two _ zs (Nat.le_refl _) (by omega) c hc)) (fun z hz' => (hz z ((hm c hc).2.2 z hz')).2)
theorem upT_gd {ts : List T} (h : LvGd ts) (h2 : 2 ≤ ts.length) : LvGd (upT ts) := by
  have hm := chunks_mem _ ts (Nat.le_refl _)
  have ht2 := chunks_two _ ts (Nat.le_refl _) h2
  refine ⟨fun t ht => ?_, fun _ t ht => ?_⟩
  · obtain ⟨c, hc, rfl⟩ := List.mem_map.1 ht
    exact ⟨innB_good true ⟨ht2 c hc, (hm c hc).2.1⟩ (fun t ht' => h.two h2 t ((hm c hc).2.2 t ht')), innB_keys (fun t ht' => (h.all t ((hm c hc).2.2 t ht')).2)⟩
  · obtain ⟨c, hc, rfl⟩ := List.mem_map.1 ht
    exact innB_good false ⟨ht2 c hc, (hm c hc).2.1⟩ (fun t ht' => h.two h2 t ((hm c hc).2.2 t ht'))
theorem sum_up {n : Nat} {ts : List T} (h : LvOk n ts) : sumN ts ≤ sumN (upT ts) := by
  have hm := chunks_mem _ ts (Nat.le_refl _)
  have hi : ∀ c ∈ chunks ts, (innB c).nodes = 1 + sumN c := fun c hc => (innB_ok (hm c hc).1 (fun t ht => h.all t ((hm c hc).2.2 t ht))).2.2
  unfold upT
  rw [sumN_map innB (fun c => 1 + sumN c) _ hi]
  have hf := chunks_flat _ ts (Nat.le_refl _)
  have : sumN ts = sumN (chunks ts).flatten := by rw [hf]
  rw [this]
  generalize chunks ts = q
  induction q with
  | nil => exact Nat.le_refl _
  | cons x r ih =>
    simp only [List.map_cons, List.sum_cons, List.flatten_cons]
    unfold sumN at ih ⊢
    rw [List.map_append, List.sum_append]; omega
theorem top_sum {n : Nat} : ∀ (f : Nat) (ts : List T), LvOk n ts → ts.length ≤ f → ∃ t, topF f ts = [t] ∧ sumN ts ≤ t.nodes
  | 0, ts, h, hf => by have := h.pos; omega
  | f + 1, ts, h, hf => by
    by_cases h1 : 1 < ts.length
    · have hu := upT_ok h h1
      have hst := topF_step (f := f) h1 hf hu.2
      obtain ⟨t, e, hs⟩ := top_sum f (upT ts) hu.1 hst.2
      exact ⟨t, by rw [hst.1, e], Nat.le_trans (sum_up h) hs⟩
    · rw [topF_done _ (by omega)]
      have := h.pos
      match ts, h1, this with
      | [t], _, _ => exact ⟨t, rfl, by simp [sumN]⟩
      | [], _, h => simp at h
      | _ :: _ :: _, h, _ => simp at h
/-- Too many pairs make too many nodes. -/
theorem bulk_big {zs : List (ByteArray × ByteArray)} (h : 4000 < zs.length) : bulkNs zs = [] := by
  unfold bulkNs
  split
  · rfl
  · rw [if_neg (by omega), if_pos]
    obtain ⟨t, e, hs⟩ := top_sum (n := zs.length) zs.length (lvlB zs) (lvlB_ok (by omega)) (by rw [show (lvlB zs).length = (chunks zs).length by simp [lvlB]]; exact chunks_le _ zs (Nat.le_refl _))
    have h4 := chunks_four _ zs (Nat.le_refl _)
    have hm := chunks_mem _ zs (Nat.le_refl _)
    have e2 : sumN (lvlB zs) = (chunks zs).length := by
      unfold lvlB
      rw [sumN_map leafB (fun _ => 1) _ (fun c hc => (leafB_ok (hm c hc).2.1).2.2)]
      generalize chunks zs = q
      induction q with
      | nil => rfl
      | cons x r ih => simp only [List.map_cons, List.sum_cons, List.length_cons, ih]; omega
    have : rootT zs = t := by unfold rootT; rw [e]; rfl
    rw [this]; omega
end Go.Proofs.Ytpmagndofiaooaa
