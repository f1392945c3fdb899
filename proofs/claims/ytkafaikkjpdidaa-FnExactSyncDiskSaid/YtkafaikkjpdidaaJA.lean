import Derived.Test.YtkafaikkjpdidaaWs
import Derived.Test.YtkafaikkjpdidaaIns
import Derived.Test.YtkafaikkjpdidaaRd
import Derived.Lib.SliceRun
import Derived.Test.YtkafaikkjpdidaaCPl
import Derived.Shelf.GgSortFunc.InsertionK
import Derived.Sort.Grow
import Derived.Sort.Walk0
namespace Go.Proofs.Ytkafaikkjpdidaa
open Go.RowKit
set_option linter.unusedVariables false
set_option maxRecDepth 100000

/-- The places below j whose names are not nm. -/
def keptI (nms : Nat → ByteArray) (nm : ByteArray) (j : Nat) : List Nat := (List.range j).filter fun i => !decide (nms i = nm)
theorem keptI_lt {nms : Nat → ByteArray} {nm : ByteArray} {j k : Nat} (h : k ∈ keptI nms nm j) : k < j := by
  have := (List.mem_filter.1 h).1
  simpa using this
theorem keptI_nodup (nms : Nat → ByteArray) (nm : ByteArray) (j : Nat) : (keptI nms nm j).Nodup := List.Pairwise.filter _ List.nodup_range
theorem keptI_yes {nms : Nat → ByteArray} {nm : ByteArray} {j : Nat} (h : nms j = nm) : keptI nms nm (j + 1) = keptI nms nm j := by
  unfold keptI
  rw [List.range_succ, List.filter_append]
  simp [h]
theorem keptI_no {nms : Nat → ByteArray} {nm : ByteArray} {j : Nat} (h : nms j ≠ nm) : keptI nms nm (j + 1) = keptI nms nm j ++ [j] := by
  unfold keptI
  rw [List.range_succ, List.filter_append]
  simp [h]
theorem keptI_len (nms : Nat → ByteArray) (nm : ByteArray) (j : Nat) : (keptI nms nm j).length ≤ j := by
  have := List.length_filter_le (fun i => !decide (nms i = nm)) (List.range j)
  simpa [keptI] using this
theorem keptI_all {nms : Nat → ByteArray} {nm : ByteArray} {j : Nat} (h : ∀ i, i < j → nms i ≠ nm) : keptI nms nm j = List.range j := by
  unfold keptI
  rw [List.filter_eq_self]
  intro i hi
  simp [h i (by simpa using hi)]
/-- The two cells of place k. -/
def cellsK (xs : List Value) (k : Nat) : List Value := [xs.getD (k * 2) (.bool false), xs.getD (k * 2 + 1) (.bool false)]
/-- The cells of some places of a row. -/
def pickR (xs : List Value) (ks : List Nat) : List Value := ks.flatMap (cellsK xs)
theorem pickR_append (xs : List Value) (a b : List Nat) : pickR xs (a ++ b) = pickR xs a ++ pickR xs b := by simp [pickR]
theorem pickR_len (xs : List Value) (ks : List Nat) : (pickR xs ks).length = ks.length * 2 := by
  induction ks with
  | nil => rfl
  | cons k r ih => simp only [pickR, List.flatMap_cons, List.length_append, List.length_cons] at *; rw [ih]; simp [cellsK]; omega
theorem pickR_cons (xs : List Value) (k : Nat) (r : List Nat) : pickR xs (k :: r) = xs.getD (k * 2) (.bool false) :: xs.getD (k * 2 + 1) (.bool false) :: pickR xs r := by simp [pickR, cellsK]
theorem pickR_get (xs : List Value) (ks : List Nat) (j : Nat) (h : j < ks.length) : (pickR xs ks)[j * 2]? = some (xs.getD (ks.getD j 0 * 2) (.bool false)) ∧ (pickR xs ks)[j * 2 + 1]? = some (xs.getD (ks.getD j 0 * 2 + 1) (.bool false)) := by
  induction ks generalizing j with
  | nil => simp at h
  | cons k r ih =>
    rw [pickR_cons]
    cases j with
    | zero => simp
    | succ j =>
      have := ih j (by simpa using h)
      rw [show (j + 1) * 2 = j * 2 + 1 + 1 by omega, show j * 2 + 1 + 1 + 1 = (j * 2 + 1) + 1 + 1 by omega]
      simpa using this
theorem getD_some {xs : List Value} {i : Nat} {v : Value} (h : xs[i]? = some v) (d : Value) : xs.getD i d = v := by simp [List.getD, h]
theorem pickR_range (xs : List Value) (n : Nat) (h : xs.length = n * 2) : pickR xs (List.range n) = xs := by
  apply List.ext_getElem?
  intro i
  by_cases hi : i < n * 2
  · have hg := pickR_get xs (List.range n) (i / 2) (by simp; omega)
    rw [show (List.range n).getD (i / 2) 0 = i / 2 by simp [List.getD, show i / 2 < n by omega]] at hg
    rcases Nat.mod_two_eq_zero_or_one i with h2 | h2
    · rw [show i / 2 * 2 = i by omega] at hg
      rw [hg.1, List.getElem?_eq_getElem (by omega)]
      simp [List.getD, List.getElem?_eq_getElem (show i < xs.length by omega)]
    · rw [show i / 2 * 2 + 1 = i by omega] at hg
      rw [hg.2, List.getElem?_eq_getElem (by omega)]
      simp [List.getD, List.getElem?_eq_getElem (show i < xs.length by omega)]
  · rw [List.getElem?_eq_none (by rw [pickR_len]; simp; omega), List.getElem?_eq_none (by omega)]
theorem set_two {A B : List Value} {a b u v : Value} {k : Nat} (h : A.length = k) : ((A ++ a :: b :: B).set k u).set (k + 1) v = A ++ u :: v :: B := by
  subst h
  simp
theorem pickR_set (xs : List Value) (A R : List Nat) (i j : Nat) (k : Nat) (h : A.length = k) : ((pickR xs (A ++ i :: R)).set (k * 2) (xs.getD (j * 2) (.bool false))).set (k * 2 + 1) (xs.getD (j * 2 + 1) (.bool false)) = pickR xs (A ++ j :: R) := by
  rw [pickR_append, pickR_cons, set_two (by rw [pickR_len, h]), pickR_append, pickR_cons]
/-- Some of one's own files, in an order of one's own, in another row. -/
theorem OwnF.pick {w w' : World} {base : Nat} {v v' : Value} {fs : List PF} {xs vs : List Value} (h : OwnF w base v fs xs vs) (ks : List Nat) (hn : ks.Nodup) (hk : ∀ k ∈ ks, k < fs.length)
    (hd : ∀ j, j < fs.length → w'.ownsRow base 5 1 (vs.getD j (.slice none 0 0)) (fs.getD j (ByteArray.empty, [])).2.length (u8s (fs.getD j (ByteArray.empty, [])).2)) (hr : w'.ownsRow base 88 2 v' ks.length (pickR xs ks)) :
    OwnF w' base v' (ks.map fun k => fs.getD k (ByteArray.empty, [])) (pickR xs ks) (ks.map fun k => vs.getD k (.slice none 0 0)) := by
  have hlt : ∀ j, j < ks.length → ks.getD j 0 < fs.length := fun j hj => by
    refine hk _ ?_
    simp [List.getD, List.getElem?_eq_getElem hj]
  have hf : ∀ j, j < ks.length → (ks.map fun k => fs.getD k (ByteArray.empty, [])).getD j (ByteArray.empty, []) = fs.getD (ks.getD j 0) (ByteArray.empty, []) := fun j hj => by simp [List.getD, List.getElem?_eq_getElem hj]
  have hv : ∀ j, j < ks.length → (ks.map fun k => vs.getD k (.slice none 0 0)).getD j (.slice none 0 0) = vs.getD (ks.getD j 0) (.slice none 0 0) := fun j hj => by simp [List.getD, List.getElem?_eq_getElem hj]
  refine ⟨by simpa using hr, by simp, fun j hj => ?_, fun j hj => ?_, fun j hj => ?_, fun j hj => ?_, fun i j hij hj => ?_⟩
  · have hj' : j < ks.length := by simpa using hj
    have h1 := h.name _ (hlt j hj')
    rw [hf j hj', (pickR_get xs ks j hj').1, getD_some h1.1]
    exact ⟨rfl, h1.2⟩
  · have hj' : j < ks.length := by simpa using hj
    have h1 := h.val _ (hlt j hj')
    rw [hv j hj', (pickR_get xs ks j hj').2, getD_some h1]
  · have hj' : j < ks.length := by simpa using hj
    rw [hf j hj', hv j hj']
    exact hd _ (hlt j hj')
  · have hj' : j < ks.length := by simpa using hj
    rw [hf j hj']
    exact h.byte _ (hlt j hj')
  · have hj' : j < ks.length := by simpa using hj
    have hi' : i < ks.length := by omega
    rw [hv i hi', hv j hj']
    intro g hg
    have hne : ks.getD i 0 ≠ ks.getD j 0 := by
      intro e
      simp only [List.getD, List.getElem?_eq_getElem hi', List.getElem?_eq_getElem hj', Option.getD_some] at e
      exact (List.pairwise_iff_getElem.1 hn i j hi' hj' hij) e
    exact h.apart2 hne (hlt i hi') (hlt j hj') hg
theorem keptI_map (fs : List PF) (nm : ByteArray) : (keptI (fun i => (fs.getD i (ByteArray.empty, [])).1) nm fs.length).map (fun k => fs.getD k (ByteArray.empty, [])) = fs.filter (fun f => !decide (f.1 = nm)) := by
  unfold keptI
  rw [show (fun i => !decide ((fs.getD i (ByteArray.empty, [])).1 = nm)) = (fun f : PF => !decide (f.1 = nm)) ∘ (fun i => fs.getD i (ByteArray.empty, [])) from rfl]
  rw [← List.filter_map]
  congr 1
  apply List.ext_getElem?
  intro i
  by_cases hi : i < fs.length
  · simp [hi, List.getD]
  · simp [hi]
end Go.Proofs.Ytkafaikkjpdidaa
namespace Go.Proofs.Ytkafaikkjpdidaa
open Go.RowKit
set_option linter.unusedVariables false
set_option maxRecDepth 100000

theorem box_oneS {w : World} {N : Nat} {v : Value} {t : TypeId} (h : w.heap[N]? = some (.cells #[v] t)) : w.cell? ⟨N, 0, none⟩ = some v := by simp [World.cell?, h]
theorem without1_any (s nm : ByteArray) (da : Option Addr) (dn dc Bn : Nat) (w : World) (hB : w.heap[Bn]? = some (.cells #[.string nm] 9)) :
    Calls Try.prog 96 #[.agg #[.string s, .slice da dn dc], .pointer (some ⟨Bn, 0, none⟩)] w fun e w' => e = .returned (.bool (decide (s = nm))) ∧ Below w.heap.size w w' := by
  have hb0 : Below w.heap.size w (w.alloc (.cells #[.string s, .slice da dn dc] 88)) := (Below.refl _ _).alloc (Nat.le_refl _) _
  have c0 := box_oneS hB
  have hlt : Bn < w.heap.size := (Array.getElem?_eq_some_iff.1 hB).1
  by_cases hs : s = nm
  · have hb2 := same_yes hs
    have H : Hid (s = nm) := hs
    clear hs
    go_enter Try.func96, Try.ntmps96
    go_wp2
    go_ret
    exact ⟨by simp [H.out], hb0⟩
  · have hb2 := same_no hs
    have H : Hid (¬ s = nm) := hs
    clear hs
    go_enter Try.func96, Try.ntmps96
    go_wp2
    go_ret
    exact ⟨by simp [H.out], hb0⟩
set_option maxHeartbeats 800000 in
theorem indexFunc_any (a : Option Addr) (n c : Nat) (xs : List Value) (nms : Nat → ByteArray) (nm : ByteArray) (Bn : Nat) (w : World) (B : Nat) (hB : B ≤ w.heap.size) (h : RowF w B a n c xs nms) (hb : w.heap[Bn]? = some (.cells #[.string nm] 9)) :
    Calls Try.prog 110 #[.slice a n c, .func (.func 96) #[] #[.pointer (some ⟨Bn, 0, none⟩)]] w fun e w' => ((∃ k : Nat, k < n ∧ nms k = nm ∧ (∀ j, j < k → nms j ≠ nm) ∧ e = .returned (.int .i64 k)) ∨ ((∀ j, j < n → nms j ≠ nm) ∧ e = .returned (.int .i64 (-1)))) ∧ Below w.heap.size w w' := by
  obtain ⟨hl, hnc, hc, hx, hcell⟩ := h
  unfold maxLen at hc
  have HB : Hid (w.heap[Bn]? = some (.cells #[.string nm] 9)) := hb
  have hlt : Bn < w.heap.size := (Array.getElem?_eq_some_iff.1 hb).1
  clear hb
  go_enter Try.func110, Try.ntmps110
  go_wp2
  go_loopw [5, 8] (fun _ i wr => ∃ k : Nat, k ≤ n ∧ i = .int .i64 k ∧ Below w.heap.size w wr ∧ Hid (∀ j, j < k → nms j ≠ nm)) (fun _ i _ => n - (intOf i).toNat)
  case atStart => exact ⟨0, Nat.zero_le _, rfl, Below.refl _ _, fun j hj => absurd hj (Nat.not_lt_zero _)⟩
  case round =>
    obtain ⟨k, hk, rfl, hbel, hno⟩ := hrel
    by_cases hkn : k < n
    · obtain ⟨b, off, rfl, hbB, hcb⟩ := hcell (by omega)
      obtain ⟨x1, a', n', c', x2⟩ := hx k hkn
      have e1 : wr.cell? ⟨b, off + k * 2, none⟩ = some (.string (nms k)) := (hbel.cell (p := ⟨b, off + k * 2, none⟩) (by show b < _; omega)).trans ((hcb (k * 2) (by omega)).trans x1)
      have e2 : wr.cell? ⟨b, off + k * 2 + 1, none⟩ = some (.slice a' n' c') := (hbel.cell (p := ⟨b, off + k * 2 + 1, none⟩) (by show b < _; omega)).trans ((hcb (k * 2 + 1) (by omega)).trans x2)
      have hbx : wr.heap[Bn]? = some (.cells #[.string nm] 9) := (hbel.block Bn hlt).trans HB.out
      have hcall := without1_any (nms k) nm a' n' c' Bn wr hbx
      clear hcb hx hcell hbx x1 x2
      by_cases hs : nms k = nm
      · rw [decide_eq_true hs] at hcall
        have H : Hid (nms k = nm) := hs
        clear hs
        go_wp2_with fail
        refine hcall.mono ?_
        rintro e w2 ⟨rfl, hb2⟩
        have hbel2 := hbel.trans (hb2.mono hbel.size)
        clear hcall e1 e2 hbel hb2
        go_wp2
        go_ret
        exact ⟨.inl ⟨k, hkn, H.out, hno.out, rfl⟩, hbel2⟩
      · rw [decide_eq_false hs] at hcall
        have H : Hid (∀ j, j < k + 1 → nms j ≠ nm) := fun j hj => by
          by_cases hjk : j = k
          · subst hjk; exact hs
          · exact hno.out j (by omega)
        clear hs
        go_wp2_with fail
        refine hcall.mono ?_
        rintro e w2 ⟨rfl, hb2⟩
        have hbel2 := hbel.trans (hb2.mono hbel.size)
        clear hcall e1 e2 hbel hb2
        go_wp2
        go_roundw
        case rel => exact ⟨k + 1, by omega, by go_num, hbel2, H⟩
        case measure => simp [intOf]; omega
    · obtain rfl : k = n := by omega
      go_wp2
      go_ret
      exact ⟨.inr ⟨hno.out, rfl⟩, hbel⟩
theorem zeroCells_two (n : Nat) (u v : Value) : (Builtin.zeroCells #[u, v] n).toList.length = n * 2 ∧ ∀ x ∈ (Builtin.zeroCells #[u, v] n).toList, x = u ∨ x = v := by
  refine ⟨by simp [Builtin.zeroCells], fun x hx => ?_⟩
  simp only [Builtin.zeroCells, Array.toList_map, List.mem_map] at hx
  obtain ⟨i, _, rfl⟩ := hx
  rcases Nat.mod_two_eq_zero_or_one i with h | h
  · left; simp [h]
  · right; simp [h]
/-- 'clear(s)' on n > 0 files. -/
theorem run_clear_files (w : World) (ty : TypeId) (b o n c : Nat) (hn : 0 < n) (hc : ∀ j, j < n * 2 → (w.cell? ⟨b, o + j, none⟩).isSome = true) (hf : ∀ j, j < n * 2 → w.frozen? ⟨b, o + j, none⟩ = false) :
    (Builtin.clear_ #[28] ty #[.slice (some ⟨b, o, none⟩) n c]).run Try.prog w = .ok (.tuple #[]) (w.setCells b o (Builtin.zeroCells #[.string ⟨#[]⟩, .slice none 0 0] n).toList) := by
  obtain ⟨hl, hm⟩ := zeroCells_two n (.string ⟨#[]⟩) (.slice none 0 0)
  have hst := run_storeCells_cells (P := Try.prog) b o (Builtin.zeroCells #[.string ⟨#[]⟩, .slice none 0 0] n).toList 0 w (by rw [hl]; simpa using hc) (by rw [hl]; simpa using hf) (by intro v hv; rcases hm v hv with rfl | rfl <;> rfl)
  simp only [Nat.add_zero] at hst
  obtain ⟨m, rfl⟩ : ∃ m, n = m + 1 := ⟨n - 1, by omega⟩
  simp [Builtin.clear_, run_underlying Try.underlying28, Value.cells, hst]
theorem own_setCells {base g n c e size : Nat} : ∀ (vs : List Value) (o : Nat) (w : World) (xs : List Value), w.ownsRow base e size (.slice (some ⟨g, 0, none⟩) n c) n xs → ∃ ys, (w.setCells g o vs).ownsRow base e size (.slice (some ⟨g, 0, none⟩) n c) n ys ∧ ys.take o = xs.take o ∧ Fr (fun x => x = g) w (w.setCells g o vs)
  | [], o, w, xs, h => ⟨xs, h, rfl, Fr.refl _ _⟩
  | v :: r, o, w, xs, h => by
    obtain ⟨h1, h2⟩ := h.stored o v
    obtain ⟨ys, h3, h4, h5⟩ := own_setCells r (o + 1) (w.setCell ⟨g, o, none⟩ v) _ h1
    refine ⟨ys, h3, ?_, (Fr.of_grown h2 (fun x e => by cases e; rfl)).trans h5⟩
    have := congrArg (List.take o) h4
    rw [List.take_take, List.take_take, show min o (o + 1) = o by omega] at this
    rw [this, List.take_set_of_le (Nat.le_refl _)]
theorem own_cut {w : World} {base g n c e size i : Nat} {xs : List Value} (h : w.ownsRow base e size (.slice (some ⟨g, 0, none⟩) n c) n xs) (hi : i ≤ n) : w.ownsRow base e size (.slice (some ⟨g, 0, none⟩) i c) i (xs.take (i * size)) := by
  have hm : i * size ≤ n * size := Nat.mul_le_mul_right _ hi
  refine ⟨by rw [List.length_take, h.1]; omega, .inr ?_⟩
  rcases h.2 with ⟨h', _⟩ | ⟨g', cap, cur, e1, h1, h2, h3, h4, h5, h6⟩
  · simp at h'
  · injection e1 with e1 e2 e3
    injection e1 with e1
    injection e1 with e1
    subst e1 e3
    refine ⟨g, c, cur, rfl, h1, h2, by omega, h4, h5, ?_⟩
    rw [← h6, List.take_take, Nat.min_eq_left hm]
/-- The row while files are struck: what is kept so far, then what stood there. -/
def stD (nms : Nat → ByteArray) (nm : ByteArray) (n j : Nat) : List Nat := keptI nms nm j ++ List.range' (keptI nms nm j).length (n - (keptI nms nm j).length)
theorem stD_len (nms : Nat → ByteArray) (nm : ByteArray) (n j : Nat) (h : j ≤ n) : (stD nms nm n j).length = n := by
  have := keptI_len nms nm j
  simp [stD]; omega
theorem stD_get (nms : Nat → ByteArray) (nm : ByteArray) (n j t : Nat) (h : j ≤ t) (ht : t < n) : (stD nms nm n j).getD t 0 = t := by
  have := keptI_len nms nm j
  simp only [stD, List.getD]
  rw [List.getElem?_append_right (by omega), List.getElem?_range' (by omega)]
  simp; omega
theorem stD_keep (xs : List Value) (nms : Nat → ByteArray) (nm : ByteArray) (n j : Nat) (hj : j < n) (h : nms j ≠ nm) : ((pickR xs (stD nms nm n j)).set ((keptI nms nm j).length * 2) (xs.getD (j * 2) (.bool false))).set ((keptI nms nm j).length * 2 + 1) (xs.getD (j * 2 + 1) (.bool false)) = pickR xs (stD nms nm n (j + 1)) := by
  have hl := keptI_len nms nm j
  have e1 : stD nms nm n j = keptI nms nm j ++ (keptI nms nm j).length :: List.range' ((keptI nms nm j).length + 1) (n - (keptI nms nm j).length - 1) := by
    unfold stD
    obtain ⟨q, hq⟩ : ∃ q, n - (keptI nms nm j).length = q + 1 := ⟨n - (keptI nms nm j).length - 1, by omega⟩
    rw [hq, List.range'_succ]; simp
  have e2 : stD nms nm n (j + 1) = keptI nms nm j ++ j :: List.range' ((keptI nms nm j).length + 1) (n - (keptI nms nm j).length - 1) := by
    unfold stD
    rw [keptI_no h]
    simp only [List.length_append, List.length_singleton, List.append_assoc, List.singleton_append]
    rw [Nat.sub_sub]
  rw [e1, e2]
  exact pickR_set xs _ _ _ j _ rfl
theorem stD_skip {nms : Nat → ByteArray} {nm : ByteArray} {n j : Nat} (h : nms j = nm) : stD nms nm n (j + 1) = stD nms nm n j := by unfold stD; rw [keptI_yes h]
theorem stD_start {nms : Nat → ByteArray} {nm : ByteArray} {n k : Nat} (hk : k < n) (h : ∀ j, j < k → nms j ≠ nm) (hy : nms k = nm) : stD nms nm n (k + 1) = List.range n ∧ (keptI nms nm (k + 1)).length = k := by
  have e := keptI_all h
  have hl : (keptI nms nm (k + 1)).length = k := by rw [keptI_yes hy, e]; simp
  refine ⟨?_, hl⟩
  unfold stD
  rw [hl, keptI_yes hy, e, List.range_eq_range', List.range_eq_range']
  rw [show List.range' 0 n = List.range' 0 (k + (n - k)) by congr 1; omega, ← List.range'_append]
  simp
set_option maxHeartbeats 1600000 in
theorem deleteFunc_any (g n c : Nat) (xs : List Value) (nms : Nat → ByteArray) (nm : ByteArray) (base Bn : Nat) (w : World) (hrow : w.ownsRow base 88 2 (.slice (some ⟨g, 0, none⟩) n c) n xs) (hx : ∀ i, i < n → xs[i * 2]? = some (.string (nms i)) ∧ ∃ a' n' c', xs[i * 2 + 1]? = some (.slice a' n' c')) (hb : w.heap[Bn]? = some (.cells #[.string nm] 9)) (hBg : Bn ≠ g) (hn : n ≤ 1048576) :
    Calls Try.prog 95 #[.slice (some ⟨g, 0, none⟩) n c, .func (.func 96) #[] #[.pointer (some ⟨Bn, 0, none⟩)]] w fun e w' => e = .returned (.slice (some ⟨g, 0, none⟩) (keptI nms nm n).length c) ∧ w'.ownsRow base 88 2 (.slice (some ⟨g, 0, none⟩) (keptI nms nm n).length c) (keptI nms nm n).length (pickR xs (keptI nms nm n)) ∧ Fr (fun x => x = g) w w' := by
  have hxl := hrow.1
  have hgl : g < w.heap.size := (hrow.lt g rfl).2
  obtain ⟨hnc, hc⟩ : n ≤ c ∧ c ≤ maxLen := by
    rcases hrow.2 with ⟨h', _⟩ | ⟨g', cap, cur, e1, h1, h2, h3, h4, _⟩
    · simp at h'
    · injection e1 with e1 e2 e3
      subst e3
      exact ⟨h3, h4⟩
  have HC : Hid (c ≤ maxLen) := hc
  unfold maxLen at hc
  have hR : RowF w w.heap.size (some ⟨g, 0, none⟩) n c xs nms := ⟨hxl, hnc, HC.out, hx, fun _ => ⟨g, 0, rfl, hgl, fun j hj => by rw [Nat.zero_add, hrow.cellAt j hj]⟩⟩
  have HB : Hid (w.heap[Bn]? = some (.cells #[.string nm] 9)) := hb
  have hlt : Bn < w.heap.size := (Array.getElem?_eq_some_iff.1 hb).1
  have HX : Hid (∀ i, i < n → xs[i * 2]? = some (.string (nms i)) ∧ ∃ a' n' c', xs[i * 2 + 1]? = some (.slice a' n' c')) := hx
  have HR : Hid (w.ownsRow base 88 2 (.slice (some ⟨g, 0, none⟩) n c) n xs) := hrow
  have HXL : Hid (xs.length = n * 2) := hxl
  have hIF := indexFunc_any (some ⟨g, 0, none⟩) n c xs nms nm Bn w w.heap.size (Nat.le_refl _) hR hb
  clear hb hx hrow hR hxl
  go_enter Try.func95, Try.ntmps95
  go_wp2_with fail
  refine hIF.mono ?_
  rintro e w1 ⟨hcase, hb1⟩
  clear hIF
  have hs1 := hb1.size
  have hF1 : Fr (fun x => x = g) w w1 := Fr.of_below hb1
  have hR1 := owns_below HR.out hb1
  rcases hcase with ⟨k, hkn, hy, hno, rfl⟩ | ⟨hno, rfl⟩
  · have hne1 : ((k : Int) == -1) = false := beq_eq_false_iff_ne.2 (by omega)
    obtain ⟨st1, st2⟩ := stD_start hkn hno hy
    have R1 : Hid (w1.ownsRow base 88 2 (.slice (some ⟨g, 0, none⟩) n c) n (pickR xs (stD nms nm n (k + 1)))) := by
      show w1.ownsRow _ _ _ _ _ _
      rw [st1, pickR_range xs n HXL.out]; exact hR1
    have ST2 : Hid ((keptI nms nm (k + 1)).length = k) := st2
    clear hR1 hno hy st1 st2 hb1
    go_wp2
    go_loopw [5, 6, 7] (fun s5 s6 _ wr => ∃ i j : Nat, Hid ((keptI nms nm j).length = i) ∧ i < j ∧ j ≤ n ∧ s5 = .int .i64 i ∧ s6 = .int .i64 j ∧ Hid (wr.ownsRow base 88 2 (.slice (some ⟨g, 0, none⟩) n c) n (pickR xs (stD nms nm n j))) ∧ Fr (fun x => x = g) w wr) (fun _ s6 _ _ => n - (intOf s6).toNat)
    case atStart => exact ⟨k, k + 1, ST2, by omega, by omega, rfl, by go_num, R1, hF1⟩
    case round =>
      obtain ⟨i, j, HI, hij, hjn, rfl, rfl, HRj, hFj⟩ := hrel
      have hsz := hFj.size
      have hin : i < n := by omega
      by_cases hj : j < n
      · obtain ⟨x1, a', n', c', x2⟩ := HX.out j hj
        have hgj := pickR_get xs (stD nms nm n j) j (by rw [stD_len _ _ _ _ hjn]; exact hj)
        rw [stD_get _ _ _ _ _ (Nat.le_refl _) hj, getD_some x1, getD_some x2] at hgj
        have hgi := pickR_get xs (stD nms nm n j) i (by rw [stD_len _ _ _ _ hjn]; omega)
        have e1 : wr.cell? ⟨g, j * 2, none⟩ = some (.string (nms j)) := (HRj.out.cellAt _ (by omega)).trans hgj.1
        have e2 : wr.cell? ⟨g, j * 2 + 1, none⟩ = some (.slice a' n' c') := (HRj.out.cellAt _ (by omega)).trans hgj.2
        have HE3 : Hid (wr.cell? ⟨g, i * 2, none⟩ = some (xs.getD ((stD nms nm n j).getD i 0 * 2) (.bool false))) := (HRj.out.cellAt _ (by omega)).trans hgi.1
        have HE4 : Hid (wr.cell? ⟨g, i * 2 + 1, none⟩ = some (xs.getD ((stD nms nm n j).getD i 0 * 2 + 1) (.bool false))) := (HRj.out.cellAt _ (by omega)).trans hgi.2
        have hgw : g < wr.heap.size := by omega
        have X1 : Hid (xs.getD (j * 2) (.bool false) = .string (nms j)) := getD_some x1 _
        have X2 : Hid (xs.getD (j * 2 + 1) (.bool false) = .slice a' n' c') := getD_some x2 _
        have hbx : (wr.alloc (.cells #[.string (nms j), .slice a' n' c'] 88)).heap[Bn]? = some (.cells #[.string nm] 9) := by
          rw [heap_alloc_old _ _ (by omega)]; exact (hFj.block Bn hlt hBg).trans HB.out
        have hcall := without1_any (nms j) nm a' n' c' Bn _ hbx
        have hal := (Below.refl wr.heap.size wr).alloc (Nat.le_refl _) (.cells #[.string (nms j), .slice a' n' c'] 88)
        have hnew := heap_alloc_new wr (.cells #[.string (nms j), .slice a' n' c'] 88)
        clear hgj hgi hbx x1 x2
        by_cases hs : nms j = nm
        · rw [decide_eq_true hs] at hcall
          have H1 : Hid (keptI nms nm (j + 1) = keptI nms nm j) := keptI_yes hs
          have H2 : Hid (stD nms nm n (j + 1) = stD nms nm n j) := stD_skip hs
          clear hs
          go_wp2_with fail
          refine hcall.mono ?_
          rintro e w2 ⟨rfl, hb2⟩
          have hb3 : Below wr.heap.size wr w2 := hal.trans (hb2.mono hal.size)
          clear hcall e1 e2 hb2 hal hnew
          go_wp2
          go_roundw
          case rel => exact ⟨i, j + 1, by rw [H1.out]; exact HI, by omega, by omega, rfl, by go_num, by rw [H2.out]; exact owns_below HRj.out hb3, hFj.trans (Fr.of_below hb3)⟩
          case measure => simp [intOf]; omega
        · rw [decide_eq_false hs] at hcall
          have H1 : Hid (keptI nms nm (j + 1) = keptI nms nm j ++ [j]) := keptI_no hs
          have H2 := stD_keep xs nms nm n j hj hs
          rw [HI.out, X1.out, X2.out] at H2
          have HK : Hid (((pickR xs (stD nms nm n j)).set (i * 2) (.string (nms j))).set (i * 2 + 1) (.slice a' n' c') = pickR xs (stD nms nm n (j + 1))) := H2
          clear hs H2
          go_wp2_with fail
          refine hcall.mono ?_
          rintro e w2 ⟨rfl, hb2⟩
          have hb3 : Below wr.heap.size wr w2 := hal.trans (hb2.mono hal.size)
          have hnew2 := (hb2.block wr.heap.size (Array.getElem?_eq_some_iff.1 hnew).1).trans hnew
          have n0 : w2.cell? ⟨wr.heap.size, 0, none⟩ = some (.string (nms j)) := by simp [World.cell?, hnew2]
          have n1 : w2.cell? ⟨wr.heap.size, 1, none⟩ = some (.slice a' n' c') := by simp [World.cell?, hnew2]
          have hR2 := owns_below HRj.out hb3
          have f0 := hR2.frozenAt (i * 2)
          have f1 := hR2.frozenAt (i * 2 + 1)
          have i0 := (hb3.cell (p := ⟨g, i * 2, none⟩) hgw).trans HE3.out
          have i1 := (hb3.cell (p := ⟨g, i * 2 + 1, none⟩) hgw).trans HE4.out
          obtain ⟨s1, s2⟩ := hR2.stored (i * 2) (.string (nms j))
          obtain ⟨s3, s4⟩ := s1.stored (i * 2 + 1) (.slice a' n' c')
          have HS : Hid (((w2.setCell ⟨g, i * 2, none⟩ (.string (nms j))).setCell ⟨g, i * 2 + 1, none⟩ (.slice a' n' c')).ownsRow base 88 2 (.slice (some ⟨g, 0, none⟩) n c) n (pickR xs (stD nms nm n (j + 1))) ∧ Fr (fun x => x = g) w ((w2.setCell ⟨g, i * 2, none⟩ (.string (nms j))).setCell ⟨g, i * 2 + 1, none⟩ (.slice a' n' c'))) := ⟨by rw [← HK.out]; exact s3, (hFj.trans (Fr.of_below hb3)).trans ((Fr.of_grown s2 (fun x e => by cases e; rfl)).trans (Fr.of_grown s4 (fun x e => by cases e; rfl)))⟩
          have hgw2 : g < w2.heap.size := Nat.lt_of_lt_of_le hgw hb3.size
          have hnw2 : wr.heap.size < w2.heap.size := (Array.getElem?_eq_some_iff.1 hnew2).1
          clear hcall e1 e2 hb2 hal hnew hnew2 hR2 s1 s2 s3 s4 hb3 HE3 HE4 hFj HRj
          go_wp2
          go_roundw
          case rel => exact ⟨i + 1, j + 1, by rw [H1.out]; show (keptI nms nm j ++ [j]).length = _; rw [List.length_append, HI.out]; rfl, by omega, by omega, by go_num, by go_num, HS.out.1, HS.out.2⟩
          case measure => simp [intOf]; omega
      · obtain rfl : j = n := by omega
        have hcl : ∀ ty, (Builtin.clear_ #[28] ty #[.slice (some ⟨g, i * 2, none⟩) (j - i) (c - i)]).run Try.prog wr = .ok (.tuple #[]) (wr.setCells g (i * 2) (Builtin.zeroCells #[.string ⟨#[]⟩, .slice none 0 0] (j - i)).toList) := fun ty =>
          run_clear_files wr ty g (i * 2) (j - i) (c - i) (by omega) (fun t ht => by
            have hgt := pickR_get xs (stD nms nm j j) ((i * 2 + t) / 2) (by rw [stD_len _ _ _ _ (Nat.le_refl _)]; omega)
            rw [HRj.out.cellAt _ (by omega)]
            rcases Nat.mod_two_eq_zero_or_one (i * 2 + t) with h | h
            · rw [show i * 2 + t = (i * 2 + t) / 2 * 2 by omega, hgt.1]; rfl
            · rw [show i * 2 + t = (i * 2 + t) / 2 * 2 + 1 by omega, hgt.2]; rfl) (fun t ht => HRj.out.frozenAt _)
        obtain ⟨ys, h1, h2, h3⟩ := own_setCells (Builtin.zeroCells #[.string ⟨#[]⟩, .slice none 0 0] (j - i)).toList (i * 2) wr _ HRj.out
        have h4 := own_cut h1 (show i ≤ j by omega)
        have h5 : (pickR xs (stD nms nm j j)).take (i * 2) = pickR xs (keptI nms nm j) := by
          unfold stD
          rw [pickR_append, List.take_append_of_le_length (by rw [pickR_len, HI.out]; exact Nat.le_refl _), List.take_of_length_le (by rw [pickR_len, HI.out]; exact Nat.le_refl _)]
        rw [h2, h5] at h4
        have H4 : Hid ((wr.setCells g (i * 2) (Builtin.zeroCells #[.string ⟨#[]⟩, .slice none 0 0] (j - i)).toList).ownsRow base 88 2 (.slice (some ⟨g, 0, none⟩) i c) i (pickR xs (keptI nms nm j)) ∧ Fr (fun x => x = g) w (wr.setCells g (i * 2) (Builtin.zeroCells #[.string ⟨#[]⟩, .slice none 0 0] (j - i)).toList)) := ⟨h4, hFj.trans h3⟩
        clear h1 h2 h3 h4 h5 HRj hFj
        go_wp2
        go_ret
        rw [HI.out]
        exact ⟨rfl, H4.out⟩
  · have HL : Hid (keptI nms nm n = List.range n) := keptI_all hno
    clear hno
    go_wp2
    go_ret
    rw [HL.out, pickR_range xs n HXL.out, List.length_range]
    exact ⟨rfl, hR1, hF1⟩
end Go.Proofs.Ytkafaikkjpdidaa
namespace Go.Proofs.Ytkafaikkjpdidaa
open Go.RowKit
set_option linter.unusedVariables false
set_option maxRecDepth 100000

/-- The files but one's. -/
def remF (fs : List PF) (nm : ByteArray) : List PF := fs.filter (fun f => !decide (f.1 = nm))
theorem deleteFunc_none (nm : ByteArray) (Bn : Nat) (w : World) (hb : w.heap[Bn]? = some (.cells #[.string nm] 9)) :
    Calls Try.prog 95 #[.slice none 0 0, .func (.func 96) #[] #[.pointer (some ⟨Bn, 0, none⟩)]] w fun e w' => e = .returned (.slice none 0 0) ∧ Below w.heap.size w w' := by
  have hIF := indexFunc_any none 0 0 [] (fun _ => ByteArray.empty) nm Bn w w.heap.size (Nat.le_refl _) ⟨rfl, Nat.le_refl _, by unfold maxLen; omega, fun i hi => absurd hi (Nat.not_lt_zero _), fun h => absurd h (Nat.lt_irrefl _)⟩ hb
  go_enter Try.func95, Try.ntmps95
  go_wp2_with fail
  refine hIF.mono ?_
  rintro e w1 ⟨hcase, hb1⟩
  clear hIF
  rcases hcase with ⟨k, hkn, _⟩ | ⟨_, rfl⟩
  · omega
  · go_wp2
    go_ret
    exact ⟨rfl, hb1⟩
theorem blk_pick {v v' : Value} {vs : List Value} {ks : List Nat} {n : Nat} (hl : vs.length = n) (hk : ∀ k ∈ ks, k < n) (hv : ∀ g, v'.ownBlock = some g → v.ownBlock = some g) : ∀ g, Blk v' (ks.map fun k => vs.getD k (.slice none 0 0)) g → Blk v vs g := by
  intro g hg
  rcases hg with hg | ⟨j, hj, hg⟩
  · exact .inl (hv g hg)
  · have hj' : j < ks.length := by simpa using hj
    refine .inr ⟨ks.getD j 0, ?_, ?_⟩
    · rw [hl]; refine hk _ ?_; simp [List.getD, List.getElem?_eq_getElem hj']
    · rw [← hg]; simp [List.getD, List.getElem?_eq_getElem hj']
set_option maxHeartbeats 800000 in
theorem withoutFile_own (a : Option Addr) (n c : Nat) (fs : List PF) (xs vs : List Value) (nm : ByteArray) (base : Nat) (w : World) (h : OwnF w base (.slice a n c) fs xs vs) (hn : n ≤ 1048576) :
    Calls Try.prog 65 #[.slice a n c, .string nm] w fun e w' => ∃ (xs' vs' : List Value), e = .returned (.slice a (remF fs nm).length c) ∧ OwnF w' base (.slice a (remF fs nm).length c) (remF fs nm) xs' vs' ∧ (∀ g, Blk (.slice a (remF fs nm).length c) vs' g → Blk (.slice a n c) vs g) ∧ Fr (fun x => (Value.slice a n c).ownBlock = some x) w w' := by
  have HO : Hid (OwnF w base (.slice a n c) fs xs vs) := h
  have hal := (Below.refl w.heap.size w).alloc (Nat.le_refl _) (.cells #[.string nm] 9)
  have hbx := heap_alloc_new w (.cells #[.string nm] 9)
  obtain ⟨hnl, hRF, _⟩ := h.rowF
  have hkl : (keptI (fun i => (fs.getD i (ByteArray.empty, [])).1) nm fs.length).length = (remF fs nm).length := by rw [remF, ← keptI_map, List.length_map]
  rcases h.row.2 with ⟨e, h0⟩ | ⟨g, cap, cur, e, hbg, hg, _⟩
  · cases e
    have hfs : fs = [] := List.length_eq_zero_iff.1 h0
    subst hfs
    have hcall := deleteFunc_none nm w.heap.size _ hbx
    clear h hRF hbx hnl hkl h0
    go_enter Try.func65, Try.ntmps65
    go_wp2_with fail
    refine hcall.mono ?_
    rintro e w2 ⟨rfl, hb2⟩
    have hb3 := hal.trans (hb2.mono hal.size)
    clear hcall hal hb2
    go_wp2
    go_ret
    exact ⟨xs, vs, rfl, HO.out.below hb3, fun g e => e, Fr.of_below hb3⟩
  · have e' := e
    injection e' with e1 e2 e3
    subst e1 e2 e3
    have hgl : g < w.heap.size := (Array.getElem?_eq_some_iff.1 hg).1
    have hcall := deleteFunc_any g fs.length c xs (fun i => (fs.getD i (ByteArray.empty, [])).1) nm base w.heap.size _ (h.row.alloc (.cells #[.string nm] 9)) hRF.2.2.2.1 hbx (by omega) hn
    rw [hkl] at hcall
    have HKL : Hid ((keptI (fun i => (fs.getD i (ByteArray.empty, [])).1) nm fs.length).length = (remF fs nm).length) := hkl
    clear h hRF hbx hg e hkl hnl
    go_enter Try.func65, Try.ntmps65
    go_wp2_with fail
    refine hcall.mono ?_
    rintro e w2 ⟨rfl, hrow, hF⟩
    have hF2 : Fr (fun x => x = g) w w2 := (Fr.of_below hal).trans hF
    have R : Hid (OwnF w2 base (.slice (some ⟨g, 0, none⟩) (remF fs nm).length c) (remF fs nm) (pickR xs (keptI (fun i => (fs.getD i (ByteArray.empty, [])).1) nm fs.length)) ((keptI (fun i => (fs.getD i (ByteArray.empty, [])).1) nm fs.length).map fun k => vs.getD k (.slice none 0 0)) ∧ (∀ g', Blk (.slice (some ⟨g, 0, none⟩) (remF fs nm).length c) ((keptI (fun i => (fs.getD i (ByteArray.empty, [])).1) nm fs.length).map fun k => vs.getD k (.slice none 0 0)) g' → Blk (.slice (some ⟨g, 0, none⟩) fs.length c) vs g') ∧ Fr (fun x => (Value.slice (some ⟨g, 0, none⟩) fs.length c).ownBlock = some x) w w2) := by
      refine ⟨?_, blk_pick HO.out.len (fun k hk => keptI_lt hk) (fun g' e => e), hF2.weak (fun x e => by rw [e]; rfl)⟩
      have := HO.out.pick (w' := w2) (v' := .slice (some ⟨g, 0, none⟩) (remF fs nm).length c) (keptI (fun i => (fs.getD i (ByteArray.empty, [])).1) nm fs.length) (keptI_nodup _ _ _) (fun k hk => keptI_lt hk) (fun j hj => owns_fr (HO.out.data j hj) hF2 (fun x e e2 => by
        rcases own_ne HO.out.row (HO.out.data j hj) with h1 | h1
        · rw [h1] at e; cases e
        · exact h1 (by rw [e, e2]; rfl))) (by rw [HKL.out]; exact hrow)
      rwa [keptI_map] at this
    clear hcall hal hrow hF hF2 HO
    go_wp2
    go_ret
    exact ⟨_, _, rfl, R.out⟩
end Go.Proofs.Ytkafaikkjpdidaa
namespace Go.Proofs.Ytkafaikkjpdidaa
open Go.RowKit
set_option linter.unusedVariables false
set_option maxRecDepth 100000

/-- Files whose names ascend. -/
def SortedN (l : List PF) : Prop := l.Pairwise (fun f g => f.1.toList < g.1.toList)
theorem sortedN_of_ok {fs : List PF} (h : ∀ i, i < fs.length → fileOk fs i = true) : SortedN fs := by
  refine List.pairwise_iff_getElem.2 fun i j hi hj hij => ?_
  have := names_up h i j hij hj
  simpa [List.getD, List.getElem?_eq_getElem hi, List.getElem?_eq_getElem hj] using this
theorem SortedN.rem {fs : List PF} (h : SortedN fs) (nm : ByteArray) : SortedN (remF fs nm) := List.Pairwise.filter _ h
theorem lt_or_eqL {a b : List UInt8} (h : ¬ b < a) : a < b ∨ a = b := by
  by_cases h2 : a < b
  · exact .inl h2
  · exact .inr (List.le_antisymm (List.not_lt.1 h) (List.not_lt.1 h2))
theorem gtB_iff (a b : ByteArray) : gtB a b = true ↔ b.toList < a.toList := by
  unfold gtB
  rw [bytesLess_eq]
  simp only [Bool.and_eq_true, Bool.not_eq_true', decide_eq_false_iff_not, beq_eq_false_iff_ne, ne_eq]
  constructor
  · rintro ⟨h1, h2⟩
    rcases lt_or_eqL h1 with h | h
    · exact h
    · exact absurd h.symm h2
  · intro h
    exact ⟨fun h' => List.lt_irrefl _ (List.lt_trans h h'), fun e => by rw [e] at h; exact List.lt_irrefl _ h⟩
theorem toList_inj {a b : ByteArray} (h : a.toList = b.toList) : a = b := by
  have := same_yes (a := a) (b := a) rfl
  exact Decidable.byContradiction fun hn => by have := same_no hn; rw [h] at this; simp at this
theorem lt_of_not_gt {a b : ByteArray} (h : gtB a b = false) (hn : a ≠ b) : a.toList < b.toList := by
  have h1 : ¬ b.toList < a.toList := fun h' => by rw [(gtB_iff a b).2 h'] at h; cases h
  rcases lt_or_eqL h1 with h2 | h2
  · exact h2
  · exact absurd (toList_inj h2) hn
/-- A file more, in its place by name. -/
def insF (l : List PF) (f : PF) : List PF := l.takeWhile (fun g => !gtB g.1 f.1) ++ f :: l.dropWhile (fun g => !gtB g.1 f.1)
theorem insF_perm (l : List PF) (f : PF) : (insF l f).Perm (f :: l) := by
  unfold insF
  refine List.perm_middle.trans ?_
  rw [List.takeWhile_append_dropWhile]
theorem insF_sorted {l : List PF} {f : PF} (h : SortedN l) (hn : ∀ g ∈ l, g.1 ≠ f.1) : SortedN (insF l f) := by
  induction l with
  | nil => simp [insF, SortedN]
  | cons x r ih =>
    obtain ⟨h1, h2⟩ := List.pairwise_cons.1 h
    have hr := ih h2 (fun g hg => hn g (List.mem_cons_of_mem _ hg))
    cases hx : gtB x.1 f.1 with
    | false =>
      have e : insF (x :: r) f = x :: insF r f := by simp [insF, hx]
      rw [e]
      refine List.pairwise_cons.2 ⟨fun g hg => ?_, hr⟩
      rcases List.mem_cons.1 ((insF_perm r f).mem_iff.1 hg) with rfl | hg'
      · exact lt_of_not_gt hx (hn x List.mem_cons_self)
      · exact h1 g hg'
    | true =>
      have e : insF (x :: r) f = f :: x :: r := by simp [insF, hx]
      rw [e]
      have hfx := (gtB_iff _ _).1 hx
      refine List.pairwise_cons.2 ⟨fun g hg => ?_, h⟩
      rcases List.mem_cons.1 hg with rfl | hg'
      · exact hfx
      · exact List.lt_trans hfx (h1 g hg')
theorem sortedN_unique {a b : List PF} (ha : SortedN a) (hb : SortedN b) (h : a.Perm b) : a = b :=
  List.Perm.eq_of_pairwise (fun x y _ _ h1 h2 => absurd (List.lt_trans h1 h2) (List.lt_irrefl _)) ha hb h
def renOne (fr to : ByteArray) (f : PF) : PF := if f.1 = fr then (to, f.2) else f
/-- What a rename makes of files: the document's way. -/
def renF (fs : List PF) (fr to : ByteArray) : List PF := insF (remF (remF fs fr) to) (to, (fs.getD (findN fs fr) (ByteArray.empty, [])).2)
/-- .. the program's, before it sorts. -/
def renB (fs : List PF) (fr to : ByteArray) : List PF := (remF fs to).map (renOne fr to)
theorem remF_mem {fs : List PF} {nm : ByteArray} {f : PF} (h : f ∈ remF fs nm) : f ∈ fs ∧ f.1 ≠ nm := by
  have := List.mem_filter.1 h
  exact ⟨this.1, by simpa using this.2⟩
theorem remF_append (a b : List PF) (nm : ByteArray) : remF (a ++ b) nm = remF a nm ++ remF b nm := by simp [remF]
theorem remF_self {fs : List PF} {nm : ByteArray} (h : ∀ f ∈ fs, f.1 ≠ nm) : remF fs nm = fs := by
  unfold remF
  rw [List.filter_eq_self]
  intro f hf
  simp [h f hf]
theorem renOne_self {fs : List PF} {fr to : ByteArray} (h : ∀ f ∈ fs, f.1 ≠ fr) : fs.map (renOne fr to) = fs := by
  conv => rhs; rw [← List.map_id fs]
  refine List.map_congr_left fun f hf => ?_
  simp [renOne, h f hf]
theorem renF_perm {fs : List PF} {fr to : ByteArray} (hs : SortedN fs) (hf : findN fs fr < fs.length) (hne : fr ≠ to) : (renF fs fr to).Perm (renB fs fr to) := by
  obtain ⟨x, hx⟩ : ∃ x, x = fs.getD (findN fs fr) (ByteArray.empty, []) := ⟨_, rfl⟩
  have hx1 : x.1 = fr := by
    have h1 := List.findIdx_getElem (w := hf)
    rw [hx, List.getD, List.getElem?_eq_getElem hf]
    exact of_decide_eq_true (show decide ((fs[findN fs fr]'hf).1 = fr) = true from h1)
  have hsplit : fs = fs.take (findN fs fr) ++ x :: fs.drop (findN fs fr + 1) := by
    conv => lhs; rw [← List.take_append_drop (findN fs fr) fs]
    rw [List.drop_eq_getElem_cons hf]
    congr 2
    rw [hx]; simp [List.getD, List.getElem?_eq_getElem hf]
  unfold renF renB
  rw [← hx]
  generalize findN fs fr = i at *
  generalize fs.take i = p at hsplit
  generalize fs.drop (i + 1) = s at hsplit
  subst hsplit
  have hs' := List.pairwise_append.1 hs
  have hp : ∀ f ∈ p, f.1 ≠ fr := fun f hf e => by have := hs'.2.2 f hf x List.mem_cons_self; rw [e, ← hx1] at this; exact List.lt_irrefl _ this
  have hss : ∀ f ∈ s, f.1 ≠ fr := fun f hf e => by have := (List.pairwise_cons.1 hs'.2.1).1 f hf; rw [e, ← hx1] at this; exact List.lt_irrefl _ this
  have e1 : remF (p ++ x :: s) fr = p ++ s := by
    rw [remF_append, remF_self hp]
    have : remF (x :: s) fr = remF s fr := by simp [remF, hx1]
    rw [this, remF_self hss]
  have e2 : remF (p ++ x :: s) to = remF p to ++ x :: remF s to := by
    rw [remF_append]
    have : remF (x :: s) to = x :: remF s to := by simp [remF, hx1, hne]
    rw [this]
  rw [e1, e2, remF_append, List.map_append, List.map_cons, renOne_self (fun f hf => hp f (remF_mem hf).1), renOne_self (fun f hf => hss f (remF_mem hf).1), show renOne fr to x = (to, x.2) by simp [renOne, hx1]]
  exact (insF_perm _ _).trans List.perm_middle.symm
theorem renF_sorted {fs : List PF} {fr to : ByteArray} (hs : SortedN fs) : SortedN (renF fs fr to) := insF_sorted ((hs.rem fr).rem to) (fun g hg => (remF_mem hg).2)
theorem ren_sort {fs C : List PF} {fr to : ByteArray} (hs : SortedN fs) (hf : findN fs fr < fs.length) (hne : fr ≠ to) (hp : C.Perm (renB fs fr to)) (hC : SortedN C) : C = renF fs fr to := sortedN_unique hC (renF_sorted hs) (hp.trans (renF_perm hs hf hne).symm)
/-- Names that do not descend ascend, where no two are one. -/
theorem sortedN_of_le {C : List PF} (h : ∀ i j (hij : i < j) (hj : j < C.length), ¬ (C[j]'hj).1.toList < (C[i]'(Nat.lt_trans hij hj)).1.toList) (hd : (C.map (·.1)).Nodup) : SortedN C := by
  refine List.pairwise_iff_getElem.2 fun i j hi hj hij => ?_
  rcases lt_or_eqL (h i j hij hj) with h1 | h1
  · exact h1
  · exfalso
    have := List.pairwise_iff_getElem.1 hd i j (by simpa using hi) (by simpa using hj) hij
    simp only [List.getElem_map, ne_eq] at this
    exact this (toList_inj h1)
theorem sortedN_nodup {l : List PF} (h : SortedN l) : (l.map (·.1)).Nodup := by
  refine List.pairwise_map.2 (h.imp fun h' e => ?_)
  rw [e] at h'
  exact List.lt_irrefl _ h'
end Go.Proofs.Ytkafaikkjpdidaa
namespace Go.Proofs.Ytkafaikkjpdidaa
open Go.RowKit
open Go.Sort (flatK size_flatK get_flatK putRowK HoldsK PermIn SortedIn putCells)
set_option linter.unusedVariables false
set_option maxRecDepth 100000

/-- A file as the sort sees it: its place, its name, its bytes' slice. -/
abbrev NV := Nat × ByteArray × Option Addr × Nat × Nat
def encV (x : NV) : List Value := [.string x.2.1, .slice x.2.2.1 x.2.2.2.1 x.2.2.2.2]
theorem fr_sortWorld {α : Type} [Inhabited α] (enc : α → List Value) (k : Nat) (w : World) (g off m : Nat) (d : Array α) (os : Array Obj) : Fr (fun x => x = g) w (sortWorldK enc k w g off m d os) := by
  refine ⟨rfl, rfl, rfl, ?_, fun x hx hn => ?_⟩
  · show w.heap.size ≤ ((w.heap.modify g _) ++ os).size
    simp
  · show ((w.heap.modify g _) ++ os)[x]? = _
    rw [Array.getElem?_append_left (by simpa using hx), Array.getElem?_modify, if_neg (fun e => hn e.symm)]
theorem heap_sortWorld {α : Type} [Inhabited α] (enc : α → List Value) (k : Nat) (w : World) (g m : Nat) (d : Array α) (os : Array Obj) {cur : Array Value} {e : TypeId} (h : w.heap[g]? = some (.cells cur e (0, 0))) : (sortWorldK enc k w g 0 m d os).heap[g]? = some (.cells (putCells id 0 (flatK enc k d) cur) e (0, 0)) := by
  show ((w.heap.modify g _) ++ os)[g]? = _
  have hg : g < w.heap.size := (Array.getElem?_eq_some_iff.1 h).1
  rw [Array.getElem?_append_left (by simpa using hg), Array.getElem?_modify, if_pos rfl, h]
  rfl
/-- The row that the sort leaves. -/
theorem own_sortWorld {w : World} {base g n c : Nat} {xs : List Value} (h : w.ownsRow base 88 2 (.slice (some ⟨g, 0, none⟩) n c) n xs) (d : Array NV) (hd : d.size = n) (m : Nat) (os : Array Obj) (ks : List Nat) (hk : ks.length = n) (he : ∀ j, j < n → encV d[j]! = cellsK xs (ks.getD j 0)) :
    (sortWorldK encV 2 w g 0 m d os).ownsRow base 88 2 (.slice (some ⟨g, 0, none⟩) n c) n (pickR xs ks) := by
  refine ⟨by rw [pickR_len, hk], .inr ?_⟩
  rcases h.2 with ⟨h', _⟩ | ⟨g', cap, cur, e1, h1, h2, h3, h4, h5, h6⟩
  · simp at h'
  · injection e1 with e1 e2 e3
    injection e1 with e1
    injection e1 with e1
    subst e1 e3
    refine ⟨g, c, _, rfl, h1, heap_sortWorld encV 2 w g m d os h2, h3, h4, by simp [putCells, h5], ?_⟩
    have hc2 : n * 2 ≤ c * 2 := Nat.mul_le_mul_right _ h3
    apply List.ext_getElem?
    intro t
    by_cases ht : t < n * 2
    · rw [List.getElem?_take_of_lt ht]
      have hg : (putCells id 0 (flatK encV 2 d) cur).toList[t]? = some ((flatK encV 2 d)[t]!) := by
        rw [Array.getElem?_toList, putCells, Array.getElem?_mapIdx, Array.getElem?_eq_getElem (show t < cur.size by omega)]
        simp only [Option.map_some, id_eq, Nat.zero_le, Nat.zero_add, true_and, Nat.sub_zero]
        rw [if_pos (by rw [size_flatK, hd]; exact ht)]
      rw [hg, get_flatK _ _ _ _ (by rw [hd]; exact ht), he (t / 2) (by omega)]
      have hp := pickR_get xs ks (t / 2) (by omega)
      rcases Nat.mod_two_eq_zero_or_one t with h0 | h0
      · rw [show t / 2 * 2 = t by omega] at hp
        rw [hp.1, h0]; rfl
      · rw [show t / 2 * 2 + 1 = t by omega] at hp
        rw [hp.2, h0]; rfl
    · rw [List.getElem?_eq_none (by rw [List.length_take]; omega), List.getElem?_eq_none (by rw [pickR_len, hk]; omega)]
/-- The row that the sort finds. -/
theorem holds_own {w : World} {base g n c : Nat} {xs : List Value} (h : w.ownsRow base 88 2 (.slice (some ⟨g, 0, none⟩) n c) n xs) (d : Array NV) (hd : d.size = n) (he : ∀ j, j < n → encV d[j]! = cellsK xs j) : HoldsK encV 2 w g 0 d := by
  intro t ht
  rw [size_flatK, hd] at ht
  rw [Nat.zero_add, get_flatK _ _ _ _ (by rw [hd]; exact ht), he (t / 2) (by omega)]
  refine ⟨?_, h.frozenAt t⟩
  have hl := h.1
  rw [h.cellAt t ht, List.getElem?_eq_getElem (by omega)]
  rcases Nat.mod_two_eq_zero_or_one t with h0 | h0
  · rw [h0]
    simp only [cellsK, show t / 2 * 2 = t by omega, List.getD, List.getElem?_eq_getElem (show t < xs.length by omega)]
    rfl
  · rw [h0]
    simp only [cellsK, show t / 2 * 2 + 1 = t by omega, List.getD, List.getElem?_eq_getElem (show t < xs.length by omega)]
    rfl
end Go.Proofs.Ytkafaikkjpdidaa
namespace Go.Proofs.Ytkafaikkjpdidaa
open Go.RowKit
set_option linter.unusedVariables false
set_option maxRecDepth 100000

/-- What cmp.Compare says of two names. -/
def cmpB (x y : ByteArray) : Int := if Op.bytesLess x.toList y.toList = true then -1 else if Op.bytesLess y.toList x.toList = true then 1 else 0
theorem cmpStr_any (x y : ByteArray) (W : World) : Calls Try.prog 99 #[.string x, .string y] W fun e w' => e = .returned (.int .i64 (cmpB x y)) ∧ w' = W := by
  have n1 : (x.toList == x.toList) = true := by simp
  have n2 : (y.toList == y.toList) = true := by simp
  cases h1 : Op.bytesLess x.toList y.toList with
  | true =>
    have H : Hid (cmpB x y = -1) := by show _ = _; simp [cmpB, h1]
    go_enter Try.func99, Try.ntmps99
    go_wp2
    go_ret
    exact ⟨by rw [H.out]; rfl, rfl⟩
  | false =>
    cases h2 : Op.bytesLess y.toList x.toList with
    | true =>
      have H : Hid (cmpB x y = 1) := by show _ = _; simp [cmpB, h1, h2]
      have h3 : (x.toList == y.toList) = false := by
        rw [bytesLess_eq] at h2
        have h2' := of_decide_eq_true h2
        rw [beq_eq_false_iff_ne]
        intro e; rw [e] at h2'; exact List.lt_irrefl _ h2'
      go_enter Try.func99, Try.ntmps99
      go_wp2
      go_ret
      exact ⟨by rw [H.out]; rfl, rfl⟩
    | false =>
      have H : Hid (cmpB x y = 0) := by show _ = _; simp [cmpB, h1, h2]
      have h3 : (x.toList == y.toList) = true := by
        rw [bytesLess_eq] at h1 h2
        have h1' := of_decide_eq_false h1
        have h2' := of_decide_eq_false h2
        rw [beq_iff_eq]
        exact List.le_antisymm (List.not_lt.1 h2') (List.not_lt.1 h1')
      go_enter Try.func99, Try.ntmps99
      go_wp2
      go_ret
      exact ⟨by rw [H.out]; rfl, rfl⟩
theorem compareFiles_any (x y : ByteArray) (a : Option Addr) (n c : Nat) (b : Option Addr) (m d : Nat) (W : World) : Calls Try.prog 67 #[.agg #[.string x, .slice a n c], .agg #[.string y, .slice b m d]] W fun e w' => e = .returned (.int .i64 (cmpB x y)) ∧ ∃ q os', w' = Go.Sort.grow (W.drewN q) os' := by
  have hcon := fun W' => cmpStr_any x y W'
  generalize cmpB x y = r at hcon ⊢
  go_enter Try.func67, Try.ntmps67
  go_wp2_with fail
  refine (hcon _).mono ?_
  rintro e w' ⟨rfl, rfl⟩
  go_wp2
  go_ret
  exact ⟨rfl, 0, _, by rw [Go.Sort.alloc_eq_grow, Go.Sort.alloc_eq_grow, Go.Sort.grow_grow]; rfl⟩
end Go.Proofs.Ytkafaikkjpdidaa
