import Derived.Test.YtmmdkjeoadlikaaIns
import Derived.Test.YtmmdkjeoadlikaaWs
namespace Go.Proofs.Ytmmdkjeoadlikaa
open Go.RowKit
set_option linter.unusedVariables false
set_option maxRecDepth 100000

/-- The places below j whose names are not nm. -/
def keptI (nms : Nat → ByteArray) (nm : ByteArray) (j : Nat) : List Nat := (List.range j).filter fun i => !decide (nms i = nm)
theorem keptI_lt {nms : Nat → ByteArray} {nm : ByteArray} {j k : Nat} (h : k ∈ keptI nms nm j) : k < j := by
  have := (List.mem_filter.1 h).1
  simpa using this
theorem keptI_nodup (nms : Nat → ByteArray) (nm : ByteArray) (j : Nat) : (keptI nms nm j).Nodup := List.Pairwise.filter _ List.nodup_range
theorem keptI_yes {nms : Nat → ByteArray} {nm : ByteArray} {j : Nat} (h : nms j = nm) : keptI nms nm (j + 1) = keptI nms nm j := by
  unfold keptI
  rw [List.range_succ, List.filter_append]
  simp [h]
theorem keptI_no {nms : Nat → ByteArray} {nm : ByteArray} {j : Nat} (h : nms j ≠ nm) : keptI nms nm (j + 1) = keptI nms nm j ++ [j] := by
  unfold keptI
  rw [List.range_succ, List.filter_append]
  simp [h]
theorem keptI_len (nms : Nat → ByteArray) (nm : ByteArray) (j : Nat) : (keptI nms nm j).length ≤ j := by
  have := List.length_filter_le (fun i => !decide (nms i = nm)) (List.range j)
  simpa [keptI] using this
theorem keptI_all {nms : Nat → ByteArray} {nm : ByteArray} {j : Nat} (h : ∀ i, i < j → nms i ≠ nm) : keptI nms nm j = List.range j := by
  unfold keptI
  rw [List.filter_eq_self]
  intro i hi
  simp [h i (by simpa using hi)]
/-- The two cells of place k. -/
def cellsK (xs : List Value) (k : Nat) : List Value := [xs.getD (k * 2) (.bool false), xs.getD (k * 2 + 1) (.bool false)]
/-- The cells of some places of a row. -/
def pickR (xs : List Value) (ks : List Nat) : List Value := ks.flatMap (cellsK xs)
theorem pickR_append (xs : List Value) (a b : List Nat) : pickR xs (a ++ b) = pickR xs a ++ pickR xs b := by simp [pickR]
theorem pickR_len (xs : List Value) (ks : List Nat) : (pickR xs ks).length = ks.length * 2 := by
  induction ks with
  | nil => rfl
  | cons k r ih => simp only [pickR, List.flatMap_cons, List.length_append, List.length_cons] at *; rw [ih]; simp [cellsK]; omega
theorem pickR_cons (xs : List Value) (k : Nat) (r : List Nat) : pickR xs (k :: r) = xs.getD (k * 2) (.bool false) :: xs.getD (k * 2 + 1) (.bool false) :: pickR xs r := by simp [pickR, cellsK]
theorem pickR_get (xs : List Value) (ks : List Nat) (j : Nat) (h : j < ks.length) : (pickR xs ks)[j * 2]? = some (xs.getD (ks.getD j 0 * 2) (.bool false)) ∧ (pickR xs ks)[j * 2 + 1]? = some (xs.getD (ks.getD j 0 * 2 + 1) (.bool false)) := by
  induction ks generalizing j with
  | nil => simp at h
  | cons k r ih =>
    rw [pickR_cons]
    cases j with
    | zero => simp
    | succ j =>
      have := ih j (by simpa using h)
      rw [show (j + 1) * 2 = j * 2 + 1 + 1 by omega, show j * 2 + 1 + 1 + 1 = (j * 2 + 1) + 1 + 1 by omega]
      simpa using this
theorem getD_some {xs : List Value} {i : Nat} {v : Value} (h : xs[i]? = some v) (d : Value) : xs.getD i d = v := by simp [List.getD, h]
theorem pickR_range (xs : List Value) (n : Nat) (h : xs.length = n * 2) : pickR xs (List.range n) = xs := by
  apply List.ext_getElem?
  intro i
  by_cases hi : i < n * 2
  · have hg := pickR_get xs (List.range n) (i / 2) (by simp; omega)
    rw [show (List.range n).getD (i / 2) 0 = i / 2 by simp [List.getD, show i / 2 < n by omega]] at hg
    rcases Nat.mod_two_eq_zero_or_one i with h2 | h2
    · rw [show i / 2 * 2 = i by omega] at hg
      rw [hg.1, List.getElem?_eq_getElem (by omega)]
      simp [List.getD, List.getElem?_eq_getElem (show i < xs.length by omega)]
    · rw [show i / 2 * 2 + 1 = i by omega] at hg
      rw [hg.2, List.getElem?_eq_getElem (by omega)]
      simp [List.getD, List.getElem?_eq_getElem (show i < xs.length by omega)]
  · rw [List.getElem?_eq_none (by rw [pickR_len]; simp; omega), List.getElem?_eq_none (by omega)]
theorem set_twoK {A B : List Value} {a b u v : Value} {k : Nat} (h : A.length = k) : ((A ++ a :: b :: B).set k u).set (k + 1) v = A ++ u :: v :: B := by
  subst h
  simp
theorem pickR_set (xs : List Value) (A R : List Nat) (i j : Nat) (k : Nat) (h : A.length = k) : ((pickR xs (A ++ i :: R)).set (k * 2) (xs.getD (j * 2) (.bool false))).set (k * 2 + 1) (xs.getD (j * 2 + 1) (.bool false)) = pickR xs (A ++ j :: R) := by
  rw [pickR_append, pickR_cons, set_twoK (by rw [pickR_len, h]), pickR_append, pickR_cons]
/-- Some of one's own files, in an order of one's own, in another row. -/
theorem OwnF.pick {w w' : World} {base : Nat} {v v' : Value} {fs : List PF} {xs vs : List Value} (h : OwnF w base v fs xs vs) (ks : List Nat) (hn : ks.Nodup) (hk : ∀ k ∈ ks, k < fs.length)
    (hd : ∀ j, j < fs.length → w'.ownsRow base 5 1 (vs.getD j (.slice none 0 0)) (fs.getD j (ByteArray.empty, [])).2.length (u8s (fs.getD j (ByteArray.empty, [])).2)) (hr : w'.ownsRow base 83 2 v' ks.length (pickR xs ks)) :
    OwnF w' base v' (ks.map fun k => fs.getD k (ByteArray.empty, [])) (pickR xs ks) (ks.map fun k => vs.getD k (.slice none 0 0)) := by
  have hlt : ∀ j, j < ks.length → ks.getD j 0 < fs.length := fun j hj => by
    refine hk _ ?_
    simp [List.getD, List.getElem?_eq_getElem hj]
  have hf : ∀ j, j < ks.length → (ks.map fun k => fs.getD k (ByteArray.empty, [])).getD j (ByteArray.empty, []) = fs.getD (ks.getD j 0) (ByteArray.empty, []) := fun j hj => by simp [List.getD, List.getElem?_eq_getElem hj]
  have hv : ∀ j, j < ks.length → (ks.map fun k => vs.getD k (.slice none 0 0)).getD j (.slice none 0 0) = vs.getD (ks.getD j 0) (.slice none 0 0) := fun j hj => by simp [List.getD, List.getElem?_eq_getElem hj]
  refine ⟨by simpa using hr, by simp, fun j hj => ?_, fun j hj => ?_, fun j hj => ?_, fun j hj => ?_, fun i j hij hj => ?_⟩
  · have hj' : j < ks.length := by simpa using hj
    have h1 := h.name _ (hlt j hj')
    rw [hf j hj', (pickR_get xs ks j hj').1, getD_some h1.1]
    exact ⟨rfl, h1.2⟩
  · have hj' : j < ks.length := by simpa using hj
    have h1 := h.val _ (hlt j hj')
    rw [hv j hj', (pickR_get xs ks j hj').2, getD_some h1]
  · have hj' : j < ks.length := by simpa using hj
    rw [hf j hj', hv j hj']
    exact hd _ (hlt j hj')
  · have hj' : j < ks.length := by simpa using hj
    rw [hf j hj']
    exact h.byte _ (hlt j hj')
  · have hj' : j < ks.length := by simpa using hj
    have hi' : i < ks.length := by omega
    rw [hv i hi', hv j hj']
    intro g hg
    have hne : ks.getD i 0 ≠ ks.getD j 0 := by
      intro e
      simp only [List.getD, List.getElem?_eq_getElem hi', List.getElem?_eq_getElem hj', Option.getD_some] at e
      exact (List.pairwise_iff_getElem.1 hn i j hi' hj' hij) e
    exact h.apart2 hne (hlt i hi') (hlt j hj') hg
theorem keptI_map (fs : List PF) (nm : ByteArray) : (keptI (fun i => (fs.getD i (ByteArray.empty, [])).1) nm fs.length).map (fun k => fs.getD k (ByteArray.empty, [])) = fs.filter (fun f => !decide (f.1 = nm)) := by
  unfold keptI
  rw [show (fun i => !decide ((fs.getD i (ByteArray.empty, [])).1 = nm)) = (fun f : PF => !decide (f.1 = nm)) ∘ (fun i => fs.getD i (ByteArray.empty, [])) from rfl]
  rw [← List.filter_map]
  congr 1
  apply List.ext_getElem?
  intro i
  by_cases hi : i < fs.length
  · simp [hi, List.getD]
  · simp [hi]
end Go.Proofs.Ytmmdkjeoadlikaa
