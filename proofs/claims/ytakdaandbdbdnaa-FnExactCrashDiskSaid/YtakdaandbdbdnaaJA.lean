import Derived.Test.YtakdaandbdbdnaaRd
import Derived.Test.YtakdaandbdbdnaaIns
import Derived.Test.YtakdaandbdbdnaaWs
import Derived.Test.YtakdaandbdbdnaaJC
import Derived.Lib.SliceRun
import Derived.Shelf.GgSortFunc.InsertionK
import Derived.Sort.Grow
import Derived.Sort.Walk0
namespace Go.Proofs.Ytakdaandbdbdnaa
open Go.RowKit
set_option linter.unusedVariables false
set_option maxRecDepth 100000

/-- The places below j whose names are not nm. -/
def keptI (nms : Nat → ByteArray) (nm : ByteArray) (j : Nat) : List Nat := (List.range j).filter fun i => !decide (nms i = nm)
theorem keptI_lt {nms : Nat → ByteArray} {nm : ByteArray} {j k : Nat} (h : k ∈ keptI nms nm j) : k < j := by
  have := (List.mem_filter.1 h).1
  simpa using this
theorem keptI_nodup (nms : Nat → ByteArray) (nm : ByteArray) (j : Nat) : (keptI nms nm j).Nodup := List.Pairwise.filter _ List.nodup_range
theorem keptI_yes {nms : Nat → ByteArray} {nm : ByteArray} {j : Nat} (h : nms j = nm) : keptI nms nm (j + 1) = keptI nms nm j := by
  unfold keptI
  rw [List.range_succ, List.filter_append]
  simp [h]
theorem keptI_no {nms : Nat → ByteArray} {nm : ByteArray} {j : Nat} (h : nms j ≠ nm) : keptI nms nm (j + 1) = keptI nms nm j ++ [j] := by
  unfold keptI
  rw [List.range_succ, List.filter_append]
  simp [h]
theorem keptI_len (nms : Nat → ByteArray) (nm : ByteArray) (j : Nat) : (keptI nms nm j).length ≤ j := by
  have := List.length_filter_le (fun i => !decide (nms i = nm)) (List.range j)
  simpa [keptI] using this
theorem keptI_all {nms : Nat → ByteArray} {nm : ByteArray} {j : Nat} (h : ∀ i, i < j → nms i ≠ nm) : keptI nms nm j = List.range j := by
  unfold keptI
  rw [List.filter_eq_self]
  intro i hi
  simp [h i (by simpa using hi)]
/-- The two cells of place k. -/
def cellsK (xs : List Value) (k : Nat) : List Value := [xs.getD (k * 2) (.bool false), xs.getD (k * 2 + 1) (.bool false)]
/-- The cells of some places of a row. -/
def pickR (xs : List Value) (ks : List Nat) : List Value := ks.flatMap (cellsK xs)
theorem pickR_append (xs : List Value) (a b : List Nat) : pickR xs (a ++ b) = pickR xs a ++ pickR xs b := by simp [pickR]
theorem pickR_len (xs : List Value) (ks : List Nat) : (pickR xs ks).length = ks.length * 2 := by
  induction ks with
  | nil => rfl
  | cons k r ih => simp only [pickR, List.flatMap_cons, List.length_append, List.length_cons] at *; rw [ih]; simp [cellsK]; omega
theorem pickR_cons (xs : List Value) (k : Nat) (r : List Nat) : pickR xs (k :: r) = xs.getD (k * 2) (.bool false) :: xs.getD (k * 2 + 1) (.bool false) :: pickR xs r := by simp [pickR, cellsK]
theorem pickR_get (xs : List Value) (ks : List Nat) (j : Nat) (h : j < ks.length) : (pickR xs ks)[j * 2]? = some (xs.getD (ks.getD j 0 * 2) (.bool false)) ∧ (pickR xs ks)[j * 2 + 1]? = some (xs.getD (ks.getD j 0 * 2 + 1) (.bool false)) := by
  induction ks generalizing j with
  | nil => simp at h
  | cons k r ih =>
    rw [pickR_cons]
    cases j with
    | zero => simp
    | succ j =>
      have := ih j (by simpa using h)
      rw [show (j + 1) * 2 = j * 2 + 1 + 1 by omega, show j * 2 + 1 + 1 + 1 = (j * 2 + 1) + 1 + 1 by omega]
      simpa using this
theorem getD_some {xs : List Value} {i : Nat} {v : Value} (h : xs[i]? = some v) (d : Value) : xs.getD i d = v := by simp [List.getD, h]
theorem pickR_range (xs : List Value) (n : Nat) (h : xs.length = n * 2) : pickR xs (List.range n) = xs := by
  apply List.ext_getElem?
  intro i
  by_cases hi : i < n * 2
  · have hg := pickR_get xs (List.range n) (i / 2) (by simp; omega)
    rw [show (List.range n).getD (i / 2) 0 = i / 2 by simp [List.getD, show i / 2 < n by omega]] at hg
    rcases Nat.mod_two_eq_zero_or_one i with h2 | h2
    · rw [show i / 2 * 2 = i by omega] at hg
      rw [hg.1, List.getElem?_eq_getElem (by omega)]
      simp [List.getD, List.getElem?_eq_getElem (show i < xs.length by omega)]
    · rw [show i / 2 * 2 + 1 = i by omega] at hg
      rw [hg.2, List.getElem?_eq_getElem (by omega)]
      simp [List.getD, List.getElem?_eq_getElem (show i < xs.length by omega)]
  · rw [List.getElem?_eq_none (by rw [pickR_len]; simp; omega), List.getElem?_eq_none (by omega)]
theorem set_twoK {A B : List Value} {a b u v : Value} {k : Nat} (h : A.length = k) : ((A ++ a :: b :: B).set k u).set (k + 1) v = A ++ u :: v :: B := by
  subst h
  simp
theorem pickR_set (xs : List Value) (A R : List Nat) (i j : Nat) (k : Nat) (h : A.length = k) : ((pickR xs (A ++ i :: R)).set (k * 2) (xs.getD (j * 2) (.bool false))).set (k * 2 + 1) (xs.getD (j * 2 + 1) (.bool false)) = pickR xs (A ++ j :: R) := by
  rw [pickR_append, pickR_cons, set_twoK (by rw [pickR_len, h]), pickR_append, pickR_cons]
/-- Some of one's own files, in an order of one's own, in another row. -/
theorem OwnF.pick {w w' : World} {base : Nat} {v v' : Value} {fs : List PF} {xs vs : List Value} (h : OwnF w base v fs xs vs) (ks : List Nat) (hn : ks.Nodup) (hk : ∀ k ∈ ks, k < fs.length)
    (hd : ∀ j, j < fs.length → w'.ownsRow base 5 1 (vs.getD j (.slice none 0 0)) (fs.getD j (ByteArray.empty, [])).2.length (u8s (fs.getD j (ByteArray.empty, [])).2)) (hr : w'.ownsRow base 92 2 v' ks.length (pickR xs ks)) :
    OwnF w' base v' (ks.map fun k => fs.getD k (ByteArray.empty, [])) (pickR xs ks) (ks.map fun k => vs.getD k (.slice none 0 0)) := by
  have hlt : ∀ j, j < ks.length → ks.getD j 0 < fs.length := fun j hj => by
    refine hk _ ?_
    simp [List.getD, List.getElem?_eq_getElem hj]
  have hf : ∀ j, j < ks.length → (ks.map fun k => fs.getD k (ByteArray.empty, [])).getD j (ByteArray.empty, []) = fs.getD (ks.getD j 0) (ByteArray.empty, []) := fun j hj => by simp [List.getD, List.getElem?_eq_getElem hj]
  have hv : ∀ j, j < ks.length → (ks.map fun k => vs.getD k (.slice none 0 0)).getD j (.slice none 0 0) = vs.getD (ks.getD j 0) (.slice none 0 0) := fun j hj => by simp [List.getD, List.getElem?_eq_getElem hj]
  refine ⟨by simpa using hr, by simp, fun j hj => ?_, fun j hj => ?_, fun j hj => ?_, fun j hj => ?_, fun i j hij hj => ?_⟩
  · have hj' : j < ks.length := by simpa using hj
    have h1 := h.name _ (hlt j hj')
    rw [hf j hj', (pickR_get xs ks j hj').1, getD_some h1.1]
    exact ⟨rfl, h1.2⟩
  · have hj' : j < ks.length := by simpa using hj
    have h1 := h.val _ (hlt j hj')
    rw [hv j hj', (pickR_get xs ks j hj').2, getD_some h1]
  · have hj' : j < ks.length := by simpa using hj
    rw [hf j hj', hv j hj']
    exact hd _ (hlt j hj')
  · have hj' : j < ks.length := by simpa using hj
    rw [hf j hj']
    exact h.byte _ (hlt j hj')
  · have hj' : j < ks.length := by simpa using hj
    have hi' : i < ks.length := by omega
    rw [hv i hi', hv j hj']
    intro g hg
    have hne : ks.getD i 0 ≠ ks.getD j 0 := by
      intro e
      simp only [List.getD, List.getElem?_eq_getElem hi', List.getElem?_eq_getElem hj', Option.getD_some] at e
      exact (List.pairwise_iff_getElem.1 hn i j hi' hj' hij) e
    exact h.apart2 hne (hlt i hi') (hlt j hj') hg
theorem keptI_map (fs : List PF) (nm : ByteArray) : (keptI (fun i => (fs.getD i (ByteArray.empty, [])).1) nm fs.length).map (fun k => fs.getD k (ByteArray.empty, [])) = fs.filter (fun f => !decide (f.1 = nm)) := by
  unfold keptI
  rw [show (fun i => !decide ((fs.getD i (ByteArray.empty, [])).1 = nm)) = (fun f : PF => !decide (f.1 = nm)) ∘ (fun i => fs.getD i (ByteArray.empty, [])) from rfl]
  rw [← List.filter_map]
  congr 1
  apply List.ext_getElem?
  intro i
  by_cases hi : i < fs.length
  · simp [hi, List.getD]
  · simp [hi]
end Go.Proofs.Ytakdaandbdbdnaa
namespace Go.Proofs.Ytakdaandbdbdnaa
open Go.RowKit
set_option linter.unusedVariables false
set_option maxRecDepth 100000

theorem box_oneS {w : World} {N : Nat} {v : Value} {t : TypeId} (h : w.heap[N]? = some (.cells #[v] t)) : w.cell? ⟨N, 0, none⟩ = some v := by simp [World.cell?, h]
theorem zeroCells_two (n : Nat) (u v : Value) : (Builtin.zeroCells #[u, v] n).toList.length = n * 2 ∧ ∀ x ∈ (Builtin.zeroCells #[u, v] n).toList, x = u ∨ x = v := by
  refine ⟨by simp [Builtin.zeroCells], fun x hx => ?_⟩
  simp only [Builtin.zeroCells, Array.toList_map, List.mem_map] at hx
  obtain ⟨i, _, rfl⟩ := hx
  rcases Nat.mod_two_eq_zero_or_one i with h | h
  · left; simp [h]
  · right; simp [h]
/-- 'clear(s)' on n > 0 files. -/
theorem run_clear_files (w : World) (ty : TypeId) (b o n c : Nat) (hn : 0 < n) (hc : ∀ j, j < n * 2 → (w.cell? ⟨b, o + j, none⟩).isSome = true) (hf : ∀ j, j < n * 2 → w.frozen? ⟨b, o + j, none⟩ = false) :
    (Builtin.clear_ #[23] ty #[.slice (some ⟨b, o, none⟩) n c]).run Try.prog w = .ok (.tuple #[]) (w.setCells b o (Builtin.zeroCells #[.string ⟨#[]⟩, .slice none 0 0] n).toList) := by
  obtain ⟨hl, hm⟩ := zeroCells_two n (.string ⟨#[]⟩) (.slice none 0 0)
  have hst := run_storeCells_cells (P := Try.prog) b o (Builtin.zeroCells #[.string ⟨#[]⟩, .slice none 0 0] n).toList 0 w (by rw [hl]; simpa using hc) (by rw [hl]; simpa using hf) (by intro v hv; rcases hm v hv with rfl | rfl <;> rfl)
  simp only [Nat.add_zero] at hst
  obtain ⟨m, rfl⟩ : ∃ m, n = m + 1 := ⟨n - 1, by omega⟩
  simp [Builtin.clear_, run_underlying Try.underlying23, Value.cells, hst]
theorem own_setCells {base g n c e size : Nat} : ∀ (vs : List Value) (o : Nat) (w : World) (xs : List Value), w.ownsRow base e size (.slice (some ⟨g, 0, none⟩) n c) n xs → ∃ ys, (w.setCells g o vs).ownsRow base e size (.slice (some ⟨g, 0, none⟩) n c) n ys ∧ ys.take o = xs.take o ∧ Fr (fun x => x = g) w (w.setCells g o vs)
  | [], o, w, xs, h => ⟨xs, h, rfl, Fr.refl _ _⟩
  | v :: r, o, w, xs, h => by
    obtain ⟨h1, h2⟩ := h.stored o v
    obtain ⟨ys, h3, h4, h5⟩ := own_setCells r (o + 1) (w.setCell ⟨g, o, none⟩ v) _ h1
    refine ⟨ys, h3, ?_, (Fr.of_grown h2 (fun x e => by cases e; rfl)).trans h5⟩
    have := congrArg (List.take o) h4
    rw [List.take_take, List.take_take, show min o (o + 1) = o by omega] at this
    rw [this, List.take_set_of_le (Nat.le_refl _)]
theorem own_cut {w : World} {base g n c e size i : Nat} {xs : List Value} (h : w.ownsRow base e size (.slice (some ⟨g, 0, none⟩) n c) n xs) (hi : i ≤ n) : w.ownsRow base e size (.slice (some ⟨g, 0, none⟩) i c) i (xs.take (i * size)) := by
  have hm : i * size ≤ n * size := Nat.mul_le_mul_right _ hi
  refine ⟨by rw [List.length_take, h.1]; omega, .inr ?_⟩
  rcases h.2 with ⟨h', _⟩ | ⟨g', cap, cur, e1, h1, h2, h3, h4, h5, h6⟩
  · simp at h'
  · injection e1 with e1 e2 e3
    injection e1 with e1
    injection e1 with e1
    subst e1 e3
    refine ⟨g, c, cur, rfl, h1, h2, by omega, h4, h5, ?_⟩
    rw [← h6, List.take_take, Nat.min_eq_left hm]
/-- The row while files are struck: what is kept so far, then what stood there. -/
def stD (nms : Nat → ByteArray) (nm : ByteArray) (n j : Nat) : List Nat := keptI nms nm j ++ List.range' (keptI nms nm j).length (n - (keptI nms nm j).length)
theorem stD_len (nms : Nat → ByteArray) (nm : ByteArray) (n j : Nat) (h : j ≤ n) : (stD nms nm n j).length = n := by
  have := keptI_len nms nm j
  simp [stD]; omega
theorem stD_get (nms : Nat → ByteArray) (nm : ByteArray) (n j t : Nat) (h : j ≤ t) (ht : t < n) : (stD nms nm n j).getD t 0 = t := by
  have := keptI_len nms nm j
  simp only [stD, List.getD]
  rw [List.getElem?_append_right (by omega), List.getElem?_range' (by omega)]
  simp; omega
theorem stD_keep (xs : List Value) (nms : Nat → ByteArray) (nm : ByteArray) (n j : Nat) (hj : j < n) (h : nms j ≠ nm) : ((pickR xs (stD nms nm n j)).set ((keptI nms nm j).length * 2) (xs.getD (j * 2) (.bool false))).set ((keptI nms nm j).length * 2 + 1) (xs.getD (j * 2 + 1) (.bool false)) = pickR xs (stD nms nm n (j + 1)) := by
  have hl := keptI_len nms nm j
  have e1 : stD nms nm n j = keptI nms nm j ++ (keptI nms nm j).length :: List.range' ((keptI nms nm j).length + 1) (n - (keptI nms nm j).length - 1) := by
    unfold stD
    obtain ⟨q, hq⟩ : ∃ q, n - (keptI nms nm j).length = q + 1 := ⟨n - (keptI nms nm j).length - 1, by omega⟩
    rw [hq, List.range'_succ]; simp
  have e2 : stD nms nm n (j + 1) = keptI nms nm j ++ j :: List.range' ((keptI nms nm j).length + 1) (n - (keptI nms nm j).length - 1) := by
    unfold stD
    rw [keptI_no h]
    simp only [List.length_append, List.length_singleton, List.append_assoc, List.singleton_append]
    rw [Nat.sub_sub]
  rw [e1, e2]
  exact pickR_set xs _ _ _ j _ rfl
theorem stD_skip {nms : Nat → ByteArray} {nm : ByteArray} {n j : Nat} (h : nms j = nm) : stD nms nm n (j + 1) = stD nms nm n j := by unfold stD; rw [keptI_yes h]
theorem stD_start {nms : Nat → ByteArray} {nm : ByteArray} {n k : Nat} (hk : k < n) (h : ∀ j, j < k → nms j ≠ nm) (hy : nms k = nm) : stD nms nm n (k + 1) = List.range n ∧ (keptI nms nm (k + 1)).length = k := by
  have e := keptI_all h
  have hl : (keptI nms nm (k + 1)).length = k := by rw [keptI_yes hy, e]; simp
  refine ⟨?_, hl⟩
  unfold stD
  rw [hl, keptI_yes hy, e, List.range_eq_range', List.range_eq_range']
  rw [show List.range' 0 n = List.range' 0 (k + (n - k)) by congr 1; omega, ← List.range'_append]
  simp
end Go.Proofs.Ytakdaandbdbdnaa
namespace Go.Proofs.Ytakdaandbdbdnaa
open Go.RowKit
set_option linter.unusedVariables false
set_option maxRecDepth 100000

/-- The files but one's. -/
def remF (fs : List PF) (nm : ByteArray) : List PF := fs.filter (fun f => !decide (f.1 = nm))
theorem blk_pick {v v' : Value} {vs : List Value} {ks : List Nat} {n : Nat} (hl : vs.length = n) (hk : ∀ k ∈ ks, k < n) (hv : ∀ g, v'.ownBlock = some g → v.ownBlock = some g) : ∀ g, Blk v' (ks.map fun k => vs.getD k (.slice none 0 0)) g → Blk v vs g := by
  intro g hg
  rcases hg with hg | ⟨j, hj, hg⟩
  · exact .inl (hv g hg)
  · have hj' : j < ks.length := by simpa using hj
    refine .inr ⟨ks.getD j 0, ?_, ?_⟩
    · rw [hl]; refine hk _ ?_; simp [List.getD, List.getElem?_eq_getElem hj']
    · rw [← hg]; simp [List.getD, List.getElem?_eq_getElem hj']
end Go.Proofs.Ytakdaandbdbdnaa
namespace Go.Proofs.Ytakdaandbdbdnaa
open Go.RowKit
set_option linter.unusedVariables false
set_option maxRecDepth 100000

/-- Files whose names ascend. -/
def SortedN (l : List PF) : Prop := l.Pairwise (fun f g => f.1.toList < g.1.toList)
theorem sortedN_of_ok {fs : List PF} (h : ∀ i, i < fs.length → fileOk fs i = true) : SortedN fs := by
  refine List.pairwise_iff_getElem.2 fun i j hi hj hij => ?_
  have := names_up h i j hij hj
  simpa [List.getD, List.getElem?_eq_getElem hi, List.getElem?_eq_getElem hj] using this
theorem SortedN.rem {fs : List PF} (h : SortedN fs) (nm : ByteArray) : SortedN (remF fs nm) := List.Pairwise.filter _ h
theorem lt_or_eqL {a b : List UInt8} (h : ¬ b < a) : a < b ∨ a = b := by
  by_cases h2 : a < b
  · exact .inl h2
  · exact .inr (List.le_antisymm (List.not_lt.1 h) (List.not_lt.1 h2))
theorem gtB_iff (a b : ByteArray) : gtB a b = true ↔ b.toList < a.toList := by
  unfold gtB
  rw [bytesLess_eq]
  simp only [Bool.and_eq_true, Bool.not_eq_true', decide_eq_false_iff_not, beq_eq_false_iff_ne, ne_eq]
  constructor
  · rintro ⟨h1, h2⟩
    rcases lt_or_eqL h1 with h | h
    · exact h
    · exact absurd h.symm h2
  · intro h
    exact ⟨fun h' => List.lt_irrefl _ (List.lt_trans h h'), fun e => by rw [e] at h; exact List.lt_irrefl _ h⟩
theorem toList_inj {a b : ByteArray} (h : a.toList = b.toList) : a = b := by
  have := same_yes (a := a) (b := a) rfl
  exact Decidable.byContradiction fun hn => by have := same_no hn; rw [h] at this; simp at this
theorem lt_of_not_gt {a b : ByteArray} (h : gtB a b = false) (hn : a ≠ b) : a.toList < b.toList := by
  have h1 : ¬ b.toList < a.toList := fun h' => by rw [(gtB_iff a b).2 h'] at h; cases h
  rcases lt_or_eqL h1 with h2 | h2
  · exact h2
  · exact absurd (toList_inj h2) hn
/-- A file more, in its place by name. -/
def insF (l : List PF) (f : PF) : List PF := l.takeWhile (fun g => !gtB g.1 f.1) ++ f :: l.dropWhile (fun g => !gtB g.1 f.1)
theorem insF_perm (l : List PF) (f : PF) : (insF l f).Perm (f :: l) := by
  unfold insF
  refine List.perm_middle.trans ?_
  rw [List.takeWhile_append_dropWhile]
theorem insF_sorted {l : List PF} {f : PF} (h : SortedN l) (hn : ∀ g ∈ l, g.1 ≠ f.1) : SortedN (insF l f) := by
  induction l with
  | nil => simp [insF, SortedN]
  | cons x r ih =>
    obtain ⟨h1, h2⟩ := List.pairwise_cons.1 h
    have hr := ih h2 (fun g hg => hn g (List.mem_cons_of_mem _ hg))
    cases hx : gtB x.1 f.1 with
    | false =>
      have e : insF (x :: r) f = x :: insF r f := by simp [insF, hx]
      rw [e]
      refine List.pairwise_cons.2 ⟨fun g hg => ?_, hr⟩
      rcases List.mem_cons.1 ((insF_perm r f).mem_iff.1 hg) with rfl | hg'
      · exact lt_of_not_gt hx (hn x List.mem_cons_self)
      · exact h1 g hg'
    | true =>
      have e : insF (x :: r) f = f :: x :: r := by simp [insF, hx]
      rw [e]
      have hfx := (gtB_iff _ _).1 hx
      refine List.pairwise_cons.2 ⟨fun g hg => ?_, h⟩
      rcases List.mem_cons.1 hg with rfl | hg'
      · exact hfx
      · exact List.lt_trans hfx (h1 g hg')
theorem sortedN_unique {a b : List PF} (ha : SortedN a) (hb : SortedN b) (h : a.Perm b) : a = b :=
  List.Perm.eq_of_pairwise (fun x y _ _ h1 h2 => absurd (List.lt_trans h1 h2) (List.lt_irrefl _)) ha hb h
def renOne (fr to : ByteArray) (f : PF) : PF := if f.1 = fr then (to, f.2) else f
/-- What a rename makes of files: the document's way. -/
def renF (fs : List PF) (fr to : ByteArray) : List PF := insF (remF (remF fs fr) to) (to, (fs.getD (findN fs fr) (ByteArray.empty, [])).2)
/-- .. the program's, before it sorts. -/
def renB (fs : List PF) (fr to : ByteArray) : List PF := (remF fs to).map (renOne fr to)
theorem remF_mem {fs : List PF} {nm : ByteArray} {f : PF} (h : f ∈ remF fs nm) : f ∈ fs ∧ f.1 ≠ nm := by
  have := List.mem_filter.1 h
  exact ⟨this.1, by simpa using this.2⟩
theorem remF_append (a b : List PF) (nm : ByteArray) : remF (a ++ b) nm = remF a nm ++ remF b nm := by simp [remF]
theorem remF_self {fs : List PF} {nm : ByteArray} (h : ∀ f ∈ fs, f.1 ≠ nm) : remF fs nm = fs := by
  unfold remF
  rw [List.filter_eq_self]
  intro f hf
  simp [h f hf]
theorem renOne_self {fs : List PF} {fr to : ByteArray} (h : ∀ f ∈ fs, f.1 ≠ fr) : fs.map (renOne fr to) = fs := by
  conv => rhs; rw [← List.map_id fs]
  refine List.map_congr_left fun f hf => ?_
  simp [renOne, h f hf]
theorem renF_perm {fs : List PF} {fr to : ByteArray} (hs : SortedN fs) (hf : findN fs fr < fs.length) (hne : fr ≠ to) : (renF fs fr to).Perm (renB fs fr to) := by
  obtain ⟨x, hx⟩ : ∃ x, x = fs.getD (findN fs fr) (ByteArray.empty, []) := ⟨_, rfl⟩
  have hx1 : x.1 = fr := by
    have h1 := List.findIdx_getElem (w := hf)
    rw [hx, List.getD, List.getElem?_eq_getElem hf]
    exact of_decide_eq_true (show decide ((fs[findN fs fr]'hf).1 = fr) = true from h1)
  have hsplit : fs = fs.take (findN fs fr) ++ x :: fs.drop (findN fs fr + 1) := by
    conv => lhs; rw [← List.take_append_drop (findN fs fr) fs]
    rw [List.drop_eq_getElem_cons hf]
    congr 2
    rw [hx]; simp [List.getD, List.getElem?_eq_getElem hf]
  unfold renF renB
  rw [← hx]
  generalize findN fs fr = i at *
  generalize fs.take i = p at hsplit
  generalize fs.drop (i + 1) = s at hsplit
  subst hsplit
  have hs' := List.pairwise_append.1 hs
  have hp : ∀ f ∈ p, f.1 ≠ fr := fun f hf e => by have := hs'.2.2 f hf x List.mem_cons_self; rw [e, ← hx1] at this; exact List.lt_irrefl _ this
  have hss : ∀ f ∈ s, f.1 ≠ fr := fun f hf e => by have := (List.pairwise_cons.1 hs'.2.1).1 f hf; rw [e, ← hx1] at this; exact List.lt_irrefl _ this
  have e1 : remF (p ++ x :: s) fr = p ++ s := by
    rw [remF_append, remF_self hp]
    have : remF (x :: s) fr = remF s fr := by simp [remF, hx1]
    rw [this, remF_self hss]
  have e2 : remF (p ++ x :: s) to = remF p to ++ x :: remF s to := by
    rw [remF_append]
    have : remF (x :: s) to = x :: remF s to := by simp [remF, hx1, hne]
    rw [this]
  rw [e1, e2, remF_append, List.map_append, List.map_cons, renOne_self (fun f hf => hp f (remF_mem hf).1), renOne_self (fun f hf => hss f (remF_mem hf).1), show renOne fr to x = (to, x.2) by simp [renOne, hx1]]
  exact (insF_perm _ _).trans List.perm_middle.symm
theorem renF_sorted {fs : List PF} {fr to : ByteArray} (hs : SortedN fs) : SortedN (renF fs fr to) := insF_sorted ((hs.rem fr).rem to) (fun g hg => (remF_mem hg).2)
theorem ren_sort {fs C : List PF} {fr to : ByteArray} (hs : SortedN fs) (hf : findN fs fr < fs.length) (hne : fr ≠ to) (hp : C.Perm (renB fs fr to)) (hC : SortedN C) : C = renF fs fr to := sortedN_unique hC (renF_sorted hs) (hp.trans (renF_perm hs hf hne).symm)
/-- Names that do not descend ascend, where no two are one. -/
theorem sortedN_of_le {C : List PF} (h : ∀ i j (hij : i < j) (hj : j < C.length), ¬ (C[j]'hj).1.toList < (C[i]'(Nat.lt_trans hij hj)).1.toList) (hd : (C.map (·.1)).Nodup) : SortedN C := by
  refine List.pairwise_iff_getElem.2 fun i j hi hj hij => ?_
  rcases lt_or_eqL (h i j hij hj) with h1 | h1
  · exact h1
  · exfalso
    have := List.pairwise_iff_getElem.1 hd i j (by simpa using hi) (by simpa using hj) hij
    simp only [List.getElem_map, ne_eq] at this
    exact this (toList_inj h1)
theorem sortedN_nodup {l : List PF} (h : SortedN l) : (l.map (·.1)).Nodup := by
  refine List.pairwise_map.2 (h.imp fun h' e => ?_)
  rw [e] at h'
  exact List.lt_irrefl _ h'
end Go.Proofs.Ytakdaandbdbdnaa
namespace Go.Proofs.Ytakdaandbdbdnaa
open Go.RowKit
open Go.Sort (flatK size_flatK get_flatK putRowK HoldsK PermIn SortedIn putCells)
set_option linter.unusedVariables false
set_option maxRecDepth 100000

/-- A file as the sort sees it: its place, its name, its bytes' slice. -/
abbrev NV := Nat × ByteArray × Option Addr × Nat × Nat
def encV (x : NV) : List Value := [.string x.2.1, .slice x.2.2.1 x.2.2.2.1 x.2.2.2.2]
theorem fr_sortWorld {α : Type} [Inhabited α] (enc : α → List Value) (k : Nat) (w : World) (g off m : Nat) (d : Array α) (os : Array Obj) : Fr (fun x => x = g) w (sortWorldK enc k w g off m d os) := by
  refine ⟨rfl, rfl, rfl, ?_, fun x hx hn => ?_⟩
  · show w.heap.size ≤ ((w.heap.modify g _) ++ os).size
    simp
  · show ((w.heap.modify g _) ++ os)[x]? = _
    rw [Array.getElem?_append_left (by simpa using hx), Array.getElem?_modify, if_neg (fun e => hn e.symm)]
theorem heap_sortWorld {α : Type} [Inhabited α] (enc : α → List Value) (k : Nat) (w : World) (g m : Nat) (d : Array α) (os : Array Obj) {cur : Array Value} {e : TypeId} (h : w.heap[g]? = some (.cells cur e (0, 0))) : (sortWorldK enc k w g 0 m d os).heap[g]? = some (.cells (putCells id 0 (flatK enc k d) cur) e (0, 0)) := by
  show ((w.heap.modify g _) ++ os)[g]? = _
  have hg : g < w.heap.size := (Array.getElem?_eq_some_iff.1 h).1
  rw [Array.getElem?_append_left (by simpa using hg), Array.getElem?_modify, if_pos rfl, h]
  rfl
/-- The row that the sort leaves. -/
theorem own_sortWorld {w : World} {base g n c : Nat} {xs : List Value} (h : w.ownsRow base 92 2 (.slice (some ⟨g, 0, none⟩) n c) n xs) (d : Array NV) (hd : d.size = n) (m : Nat) (os : Array Obj) (ks : List Nat) (hk : ks.length = n) (he : ∀ j, j < n → encV d[j]! = cellsK xs (ks.getD j 0)) :
    (sortWorldK encV 2 w g 0 m d os).ownsRow base 92 2 (.slice (some ⟨g, 0, none⟩) n c) n (pickR xs ks) := by
  refine ⟨by rw [pickR_len, hk], .inr ?_⟩
  rcases h.2 with ⟨h', _⟩ | ⟨g', cap, cur, e1, h1, h2, h3, h4, h5, h6⟩
  · simp at h'
  · injection e1 with e1 e2 e3
    injection e1 with e1
    injection e1 with e1
    subst e1 e3
    refine ⟨g, c, _, rfl, h1, heap_sortWorld encV 2 w g m d os h2, h3, h4, by simp [putCells, h5], ?_⟩
    have hc2 : n * 2 ≤ c * 2 := Nat.mul_le_mul_right _ h3
    apply List.ext_getElem?
    intro t
    by_cases ht : t < n * 2
    · rw [List.getElem?_take_of_lt ht]
      have hg : (putCells id 0 (flatK encV 2 d) cur).toList[t]? = some ((flatK encV 2 d)[t]!) := by
        rw [Array.getElem?_toList, putCells, Array.getElem?_mapIdx, Array.getElem?_eq_getElem (show t < cur.size by omega)]
        simp only [Option.map_some, id_eq, Nat.zero_le, Nat.zero_add, true_and, Nat.sub_zero]
        rw [if_pos (by rw [size_flatK, hd]; exact ht)]
      rw [hg, get_flatK _ _ _ _ (by rw [hd]; exact ht), he (t / 2) (by omega)]
      have hp := pickR_get xs ks (t / 2) (by omega)
      rcases Nat.mod_two_eq_zero_or_one t with h0 | h0
      · rw [show t / 2 * 2 = t by omega] at hp
        rw [hp.1, h0]; rfl
      · rw [show t / 2 * 2 + 1 = t by omega] at hp
        rw [hp.2, h0]; rfl
    · rw [List.getElem?_eq_none (by rw [List.length_take]; omega), List.getElem?_eq_none (by rw [pickR_len, hk]; omega)]
/-- The row that the sort finds. -/
theorem holds_own {w : World} {base g n c : Nat} {xs : List Value} (h : w.ownsRow base 92 2 (.slice (some ⟨g, 0, none⟩) n c) n xs) (d : Array NV) (hd : d.size = n) (he : ∀ j, j < n → encV d[j]! = cellsK xs j) : HoldsK encV 2 w g 0 d := by
  intro t ht
  rw [size_flatK, hd] at ht
  rw [Nat.zero_add, get_flatK _ _ _ _ (by rw [hd]; exact ht), he (t / 2) (by omega)]
  refine ⟨?_, h.frozenAt t⟩
  have hl := h.1
  rw [h.cellAt t ht, List.getElem?_eq_getElem (by omega)]
  rcases Nat.mod_two_eq_zero_or_one t with h0 | h0
  · rw [h0]
    simp only [cellsK, show t / 2 * 2 = t by omega, List.getD, List.getElem?_eq_getElem (show t < xs.length by omega)]
    rfl
  · rw [h0]
    simp only [cellsK, show t / 2 * 2 + 1 = t by omega, List.getD, List.getElem?_eq_getElem (show t < xs.length by omega)]
    rfl
end Go.Proofs.Ytakdaandbdbdnaa
namespace Go.Proofs.Ytakdaandbdbdnaa
open Go.RowKit
set_option linter.unusedVariables false
set_option maxRecDepth 100000

/-- What cmp.Compare says of two names. -/
def cmpB (x y : ByteArray) : Int := if Op.bytesLess x.toList y.toList = true then -1 else if Op.bytesLess y.toList x.toList = true then 1 else 0
theorem cmpStr_any (x y : ByteArray) (W : World) : Calls Try.prog 102 #[.string x, .string y] W fun e w' => e = .returned (.int .i64 (cmpB x y)) ∧ w' = W := by
  have n1 : (x.toList == x.toList) = true := by simp
  have n2 : (y.toList == y.toList) = true := by simp
  cases h1 : Op.bytesLess x.toList y.toList with
  | true =>
    have H : Hid (cmpB x y = -1) := by show _ = _; simp [cmpB, h1]
    go_enter Try.func102, Try.ntmps102
    go_wp2
    go_ret
    exact ⟨by rw [H.out]; rfl, rfl⟩
  | false =>
    cases h2 : Op.bytesLess y.toList x.toList with
    | true =>
      have H : Hid (cmpB x y = 1) := by show _ = _; simp [cmpB, h1, h2]
      have h3 : (x.toList == y.toList) = false := by
        rw [bytesLess_eq] at h2
        have h2' := of_decide_eq_true h2
        rw [beq_eq_false_iff_ne]
        intro e; rw [e] at h2'; exact List.lt_irrefl _ h2'
      go_enter Try.func102, Try.ntmps102
      go_wp2
      go_ret
      exact ⟨by rw [H.out]; rfl, rfl⟩
    | false =>
      have H : Hid (cmpB x y = 0) := by show _ = _; simp [cmpB, h1, h2]
      have h3 : (x.toList == y.toList) = true := by
        rw [bytesLess_eq] at h1 h2
        have h1' := of_decide_eq_false h1
        have h2' := of_decide_eq_false h2
        rw [beq_iff_eq]
        exact List.le_antisymm (List.not_lt.1 h2') (List.not_lt.1 h1')
      go_enter Try.func102, Try.ntmps102
      go_wp2
      go_ret
      exact ⟨by rw [H.out]; rfl, rfl⟩
end Go.Proofs.Ytakdaandbdbdnaa
