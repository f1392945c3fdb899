import Derived.Test.YtpmagndofiaooaaTtb
namespace Go.Proofs.Ytpmagndofiaooaa
open Go.RowKit
set_option linter.unusedVariables false
set_option linter.unusedSimpArgs false
set_option maxRecDepth 100000

/-- Whole: every inner node has children, none of them empty; a leaf's lists are of one length. -/
def T.whole : T → Bool
  | ⟨l, _, k, v, o, y⟩ => (!l || (decide (v.length = k.length) && decide (o.length = k.length) && decide (k.length ≤ 1000) && y.isEmpty)) && (l || (!y.isEmpty && y.all (fun t => decide (0 < t.size)))) && (y.map T.whole).all id
theorem T.whole_eq (t : T) : t.whole = ((!t.leaf || (decide (t.vals.length = t.keys.length) && decide (t.over.length = t.keys.length) && decide (t.keys.length ≤ 1000) && t.kids.isEmpty)) && (t.leaf || (!t.kids.isEmpty && t.kids.all (fun t => decide (0 < t.size)))) && (t.kids.map T.whole).all id) := by cases t; rw [T.whole]
theorem T.whole_leaf {t : T} (h : t.whole = true) (hl : t.leaf = true) : t.vals.length = t.keys.length ∧ t.over.length = t.keys.length ∧ t.keys.length ≤ 1000 ∧ t.kids = [] := by
  rw [T.whole_eq, hl] at h
  simp only [Bool.and_eq_true, decide_eq_true_eq, Bool.not_true, Bool.false_or, Bool.true_or] at h
  exact ⟨h.1.1.1.1.1, h.1.1.1.1.2, h.1.1.1.2, by simpa using h.1.1.2⟩
theorem T.whole_inner {t : T} (h : t.whole = true) (hl : t.leaf = false) : t.kids ≠ [] ∧ ∀ k ∈ t.kids, 0 < k.size ∧ k.whole = true := by
  rw [T.whole_eq, hl] at h
  simp only [Bool.and_eq_true, Bool.not_false, Bool.true_or, Bool.false_or, List.all_eq_true, decide_eq_true_eq] at h
  refine ⟨fun e => by rw [e] at h; simp at h, fun k hk => ⟨h.1.2.2 k hk, ?_⟩⟩
  exact h.2 k.whole (List.mem_map.2 ⟨k, hk, rfl⟩)
/-- The least key below a node. -/
theorem GIs.least {w : World} {P : Nat → Prop} : ∀ (t : T) (ty : TypeId) (v : Value), t.whole = true → 0 < t.size → GIs w P t (.iface ty v) → Obs w ty v "loop.example/s02098/impl.least" (.string t.low) := by
  intro t
  induction t using T.ind with
  | h t ih =>
    intro ty v hw hs h
    cases hl : t.leaf
    · obtain ⟨L, a, n, c, us, e, hG⟩ := h.inner hl
      cases e
      obtain ⟨hne, hk⟩ := T.whole_inner hw hl
      obtain ⟨k, ks, hks⟩ := List.exists_cons_of_ne_nil hne
      have hkm : k ∈ t.kids := by rw [hks]; exact List.mem_cons_self ..
      have hn : 0 < n := by rw [hG.len.1, hks]; simp
      have hK := hG.kid 0 k hkm (by rw [hks]; rfl)
      obtain ⟨ty', v', hu⟩ := hK.shape
      rw [hu] at hK
      have hO := ih k hkm ty' v' (hk k hkm).2 (hk k hkm).1 hK
      refine ⟨fun w => by kernel_rfl, 116, .pointer (some ⟨L, 0, none⟩), fun w => by kernel_rfl, fun w => by kernel_rfl, ?_⟩
      rw [T.low_inner hl hks]
      exact innerLeast_g hG hn hu hO
    · obtain ⟨L, a, n, c, e, hG⟩ := h.leaf hl
      cases e
      have hn : 0 < n := by rw [hG.len]; simpa [T.size, hl] using hs
      refine ⟨fun w => by kernel_rfl, 101, .pointer (some ⟨L, 0, none⟩), fun w => by kernel_rfl, fun w => by kernel_rfl, ?_⟩
      rw [T.low_leaf hl]
      exact leafLeast_g hG hn
/-- What tell answers at a node: the list that is handed in, with the node's own behind it. -/
def TellAns (base : Nat) (t : T) (w' : World) (on : Nat) (ns : List ND) (e : Ending) (w2 : World) : Prop := ∃ oa' oc' us', e = .returned (.slice oa' (on + t.nodes) oc') ∧ OwnT w2 base (.slice oa' (on + t.nodes) oc') (ns ++ (t.flat on).map TN.nd) us' ∧ Fr (fun k => base ≤ k) w' w2
def TellObs (base : Nat) (w : World) (t : T) (ty : TypeId) (v : Value) : Prop :=
  (∀ w, (nilAhead 259 ty v "loop.example/s02098/impl.tell").run Try.prog w = .ok (some false) w) ∧ ∃ f r, (∀ w, (method 259 ty v "loop.example/s02098/impl.tell").run Try.prog w = .ok (f, r) w) ∧ (∀ x w, (callFunc f #[r, x]).run Try.prog w = .ok (.enter f #[r, x]) w) ∧
    ∀ (w' : World), Below base w w' → ∀ (oa : Option Addr) (on oc : Nat) (ns : List ND) (us : Nat → Nat → Value), OwnT w' base (.slice oa on oc) ns us → on = ns.length → on + t.nodes ≤ 10000000 → base ≤ w'.heap.size → Calls Try.prog f #[r, .slice oa on oc] w' fun e w2 => TellAns base t w' on ns e w2
theorem offsT_len : ∀ (l : List T) (s : Nat), (∀ k ∈ l, ∀ s, (k.flat s).length = k.nodes) → (offs s (l.map T.flat)).length = (l.map T.nodes).sum
  | [], s, h => rfl
  | k :: r, s, h => by
    simp only [List.map_cons, offs, List.length_append, List.sum_cons]
    rw [offsT_len r _ (fun q hq => h q (List.mem_cons_of_mem _ hq)), h k (List.mem_cons_self ..)]
theorem T.flat_len (t : T) (hw : t.whole = true) : ∀ s, (t.flat s).length = t.nodes := by
  induction t using T.ind with
  | h t ih =>
    intro s
    rw [T.flat_eq, T.nodes_eq]
    cases hl : t.leaf
    · simp only [Bool.false_eq_true, if_false, List.length_cons]
      rw [offsT_len t.kids _ (fun k hk => ih k hk ((T.whole_inner hw hl).2 k hk).2)]
      omega
    · simp only [if_true]
      rw [(T.whole_leaf hw hl).2.2.2]; rfl
theorem startsT_snoc : ∀ (l : List Nat) (s n : Nat), startsN s (l ++ [n]) = startsN s l ++ [((s + l.sum : Nat) : Int)]
  | [], s, n => by simp [startsN]
  | a :: r, s, n => by
    simp only [List.cons_append, startsN, List.sum_cons]
    rw [startsT_snoc r (s + a) n, Nat.add_assoc]
theorem offsT_snoc : ∀ (l : List T) (s : Nat) (k : T), (∀ q ∈ l, ∀ s, (q.flat s).length = q.nodes) → offs s ((l ++ [k]).map T.flat) = offs s (l.map T.flat) ++ k.flat (s + (l.map T.nodes).sum)
  | [], s, k, h => by simp [offs]
  | a :: r, s, k, h => by
    simp only [List.cons_append, List.map_cons, offs, List.sum_cons, List.append_assoc]
    rw [offsT_snoc r _ k (fun q hq => h q (List.mem_cons_of_mem _ hq)), h a (List.mem_cons_self ..), Nat.add_assoc]
/-- An inner node of which k children are told. -/
def hdI (t : T) (on k : Nat) : TN := ⟨false, t.page, (t.kids.take k).tail.map T.low, [], [], startsN (on + 1) ((t.kids.take k).map T.nodes)⟩
def stI (t : T) (on k : Nat) : List TN := hdI t on k :: offs (on + 1) ((t.kids.take k).map T.flat)
def mI (t : T) (k : Nat) : Nat := ((t.kids.take k).map T.nodes).sum
theorem stI_len (t : T) (on k : Nat) (h : ∀ q ∈ t.kids, ∀ s, (q.flat s).length = q.nodes) : (stI t on k).length = 1 + mI t k := by
  unfold stI mI
  rw [List.length_cons, offsT_len _ _ (fun q hq => h q (List.mem_of_mem_take hq))]
  omega
theorem stI_all {t : T} (on : Nat) (hl : t.leaf = false) : stI t on t.kids.length = t.flat on := by
  rw [T.flat_eq, hl, stI, hdI, List.take_length]; rfl
theorem take_kid {t q : T} {k : Nat} (hk : t.kids[k]? = some q) : t.kids.take (k + 1) = t.kids.take k ++ [q] := by
  obtain ⟨hlt, e⟩ := List.getElem?_eq_some_iff.1 hk
  rw [List.take_succ_eq_append_getElem hlt, e]
theorem mI_succ {t q : T} {k : Nat} (hk : t.kids[k]? = some q) : mI t (k + 1) = mI t k + q.nodes := by
  unfold mI
  rw [take_kid hk]; simp
theorem mI_le (t : T) (k : Nat) : 1 + mI t k ≤ t.nodes := by
  rw [T.nodes_eq]
  unfold mI
  have : ∀ (l : List Nat) (k : Nat), (l.take k).sum ≤ l.sum := by
    intro l
    induction l with
    | nil => intro k; simp
    | cons a r ih => intro k; cases k with
      | zero => simp
      | succ k => have := ih k; simp; omega
  have := this (t.kids.map T.nodes) k
  rw [← List.map_take] at this
  omega
/-- The head with one child more: its key, if it is not the first, and its number. -/
theorem hdI_succ {t q : T} {k : Nat} (on : Nat) (hk : t.kids[k]? = some q) : hdI t on (k + 1) = ⟨false, t.page, (hdI t on k).keys ++ (if 0 < k then [q.low] else []), [], [], (hdI t on k).kids ++ [((on + 1 + mI t k : Nat) : Int)]⟩ := by
  unfold hdI mI
  rw [take_kid hk, List.map_append, show [q].map T.nodes = [q.nodes] from rfl, startsT_snoc]
  congr 1
  have hlt := (List.getElem?_eq_some_iff.1 hk).1
  by_cases h0 : 0 < k
  · rw [if_pos h0]
    cases h : t.kids.take k with
    | nil =>
      have h9 : (t.kids.take k).length = 0 := by rw [h]; rfl
      rw [List.length_take] at h9
      omega
    | cons a r => simp
  · rw [if_neg h0]
    have : k = 0 := by omega
    subst this
    simp
theorem stI_succ {t q : T} {k : Nat} (on : Nat) (hk : t.kids[k]? = some q) (h : ∀ q ∈ t.kids, ∀ s, (q.flat s).length = q.nodes) : stI t on (k + 1) = (hdI t on (k + 1) :: offs (on + 1) ((t.kids.take k).map T.flat)) ++ q.flat (on + 1 + mI t k) := by
  unfold stI mI
  rw [take_kid hk, offsT_snoc _ _ _ (fun q hq => h q (List.mem_of_mem_take hq))]
  rfl
end Go.Proofs.Ytpmagndofiaooaa
