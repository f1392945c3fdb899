import Derived.Test.YtmmdkjeoadlikaaRd
import Derived.Test.YtmmdkjeoadlikaaIns
import Derived.Test.YtmmdkjeoadlikaaWs
import Derived.Lib.SliceRun
import Derived.Deep.QuietTactic
import Derived.BigQuiet
import Derived.WalkLawsBesides
namespace Go.Proofs.Ytmmdkjeoadlikaa
open Go.RowKit
set_option linter.unusedVariables false
set_option maxRecDepth 100000

/-- The places below j whose names are not nm. -/
def keptI (nms : Nat → ByteArray) (nm : ByteArray) (j : Nat) : List Nat := (List.range j).filter fun i => !decide (nms i = nm)
theorem keptI_lt {nms : Nat → ByteArray} {nm : ByteArray} {j k : Nat} (h : k ∈ keptI nms nm j) : k < j := by
  have := (List.mem_filter.1 h).1
  simpa using this
theorem keptI_nodup (nms : Nat → ByteArray) (nm : ByteArray) (j : Nat) : (keptI nms nm j).Nodup := List.Pairwise.filter _ List.nodup_range
theorem keptI_yes {nms : Nat → ByteArray} {nm : ByteArray} {j : Nat} (h : nms j = nm) : keptI nms nm (j + 1) = keptI nms nm j := by
  unfold keptI
  rw [List.range_succ, List.filter_append]
  simp [h]
theorem keptI_no {nms : Nat → ByteArray} {nm : ByteArray} {j : Nat} (h : nms j ≠ nm) : keptI nms nm (j + 1) = keptI nms nm j ++ [j] := by
  unfold keptI
  rw [List.range_succ, List.filter_append]
  simp [h]
theorem keptI_len (nms : Nat → ByteArray) (nm : ByteArray) (j : Nat) : (keptI nms nm j).length ≤ j := by
  have := List.length_filter_le (fun i => !decide (nms i = nm)) (List.range j)
  simpa [keptI] using this
theorem keptI_all {nms : Nat → ByteArray} {nm : ByteArray} {j : Nat} (h : ∀ i, i < j → nms i ≠ nm) : keptI nms nm j = List.range j := by
  unfold keptI
  rw [List.filter_eq_self]
  intro i hi
  simp [h i (by simpa using hi)]
/-- The two cells of place k. -/
def cellsK (xs : List Value) (k : Nat) : List Value := [xs.getD (k * 2) (.bool false), xs.getD (k * 2 + 1) (.bool false)]
/-- The cells of some places of a row. -/
def pickR (xs : List Value) (ks : List Nat) : List Value := ks.flatMap (cellsK xs)
theorem pickR_append (xs : List Value) (a b : List Nat) : pickR xs (a ++ b) = pickR xs a ++ pickR xs b := by simp [pickR]
theorem pickR_len (xs : List Value) (ks : List Nat) : (pickR xs ks).length = ks.length * 2 := by
  induction ks with
  | nil => rfl
  | cons k r ih => simp only [pickR, List.flatMap_cons, List.length_append, List.length_cons] at *; rw [ih]; simp [cellsK]; omega
theorem pickR_cons (xs : List Value) (k : Nat) (r : List Nat) : pickR xs (k :: r) = xs.getD (k * 2) (.bool false) :: xs.getD (k * 2 + 1) (.bool false) :: pickR xs r := by simp [pickR, cellsK]
theorem pickR_get (xs : List Value) (ks : List Nat) (j : Nat) (h : j < ks.length) : (pickR xs ks)[j * 2]? = some (xs.getD (ks.getD j 0 * 2) (.bool false)) ∧ (pickR xs ks)[j * 2 + 1]? = some (xs.getD (ks.getD j 0 * 2 + 1) (.bool false)) := by
  induction ks generalizing j with
  | nil => simp at h
  | cons k r ih =>
    rw [pickR_cons]
    cases j with
    | zero => simp
    | succ j =>
      have := ih j (by simpa using h)
      rw [show (j + 1) * 2 = j * 2 + 1 + 1 by omega, show j * 2 + 1 + 1 + 1 = (j * 2 + 1) + 1 + 1 by omega]
      simpa using this
theorem getD_some {xs : List Value} {i : Nat} {v : Value} (h : xs[i]? = some v) (d : Value) : xs.getD i d = v := by simp [List.getD, h]
theorem pickR_range (xs : List Value) (n : Nat) (h : xs.length = n * 2) : pickR xs (List.range n) = xs := by
  apply List.ext_getElem?
  intro i
  by_cases hi : i < n * 2
  · have hg := pickR_get xs (List.range n) (i / 2) (by simp; omega)
    rw [show (List.range n).getD (i / 2) 0 = i / 2 by simp [List.getD, show i / 2 < n by omega]] at hg
    rcases Nat.mod_two_eq_zero_or_one i with h2 | h2
    · rw [show i / 2 * 2 = i by omega] at hg
      rw [hg.1, List.getElem?_eq_getElem (by omega)]
      simp [List.getD, List.getElem?_eq_getElem (show i < xs.length by omega)]
    · rw [show i / 2 * 2 + 1 = i by omega] at hg
      rw [hg.2, List.getElem?_eq_getElem (by omega)]
      simp [List.getD, List.getElem?_eq_getElem (show i < xs.length by omega)]
  · rw [List.getElem?_eq_none (by rw [pickR_len]; simp; omega), List.getElem?_eq_none (by omega)]
theorem set_twoK {A B : List Value} {a b u v : Value} {k : Nat} (h : A.length = k) : ((A ++ a :: b :: B).set k u).set (k + 1) v = A ++ u :: v :: B := by
  subst h
  simp
theorem pickR_set (xs : List Value) (A R : List Nat) (i j : Nat) (k : Nat) (h : A.length = k) : ((pickR xs (A ++ i :: R)).set (k * 2) (xs.getD (j * 2) (.bool false))).set (k * 2 + 1) (xs.getD (j * 2 + 1) (.bool false)) = pickR xs (A ++ j :: R) := by
  rw [pickR_append, pickR_cons, set_twoK (by rw [pickR_len, h]), pickR_append, pickR_cons]
/-- Some of one's own files, in an order of one's own, in another row. -/
theorem OwnF.pick {w w' : World} {base : Nat} {v v' : Value} {fs : List PF} {xs vs : List Value} (h : OwnF w base v fs xs vs) (ks : List Nat) (hn : ks.Nodup) (hk : ∀ k ∈ ks, k < fs.length)
    (hd : ∀ j, j < fs.length → w'.ownsRow base 5 1 (vs.getD j (.slice none 0 0)) (fs.getD j (ByteArray.empty, [])).2.length (u8s (fs.getD j (ByteArray.empty, [])).2)) (hr : w'.ownsRow base 83 2 v' ks.length (pickR xs ks)) :
    OwnF w' base v' (ks.map fun k => fs.getD k (ByteArray.empty, [])) (pickR xs ks) (ks.map fun k => vs.getD k (.slice none 0 0)) := by
  have hlt : ∀ j, j < ks.length → ks.getD j 0 < fs.length := fun j hj => by
    refine hk _ ?_
    simp [List.getD, List.getElem?_eq_getElem hj]
  have hf : ∀ j, j < ks.length → (ks.map fun k => fs.getD k (ByteArray.empty, [])).getD j (ByteArray.empty, []) = fs.getD (ks.getD j 0) (ByteArray.empty, []) := fun j hj => by simp [List.getD, List.getElem?_eq_getElem hj]
  have hv : ∀ j, j < ks.length → (ks.map fun k => vs.getD k (.slice none 0 0)).getD j (.slice none 0 0) = vs.getD (ks.getD j 0) (.slice none 0 0) := fun j hj => by simp [List.getD, List.getElem?_eq_getElem hj]
  refine ⟨by simpa using hr, by simp, fun j hj => ?_, fun j hj => ?_, fun j hj => ?_, fun j hj => ?_, fun i j hij hj => ?_⟩
  · have hj' : j < ks.length := by simpa using hj
    have h1 := h.name _ (hlt j hj')
    rw [hf j hj', (pickR_get xs ks j hj').1, getD_some h1.1]
    exact ⟨rfl, h1.2⟩
  · have hj' : j < ks.length := by simpa using hj
    have h1 := h.val _ (hlt j hj')
    rw [hv j hj', (pickR_get xs ks j hj').2, getD_some h1]
  · have hj' : j < ks.length := by simpa using hj
    rw [hf j hj', hv j hj']
    exact hd _ (hlt j hj')
  · have hj' : j < ks.length := by simpa using hj
    rw [hf j hj']
    exact h.byte _ (hlt j hj')
  · have hj' : j < ks.length := by simpa using hj
    have hi' : i < ks.length := by omega
    rw [hv i hi', hv j hj']
    intro g hg
    have hne : ks.getD i 0 ≠ ks.getD j 0 := by
      intro e
      simp only [List.getD, List.getElem?_eq_getElem hi', List.getElem?_eq_getElem hj', Option.getD_some] at e
      exact (List.pairwise_iff_getElem.1 hn i j hi' hj' hij) e
    exact h.apart2 hne (hlt i hi') (hlt j hj') hg
theorem keptI_map (fs : List PF) (nm : ByteArray) : (keptI (fun i => (fs.getD i (ByteArray.empty, [])).1) nm fs.length).map (fun k => fs.getD k (ByteArray.empty, [])) = fs.filter (fun f => !decide (f.1 = nm)) := by
  unfold keptI
  rw [show (fun i => !decide ((fs.getD i (ByteArray.empty, [])).1 = nm)) = (fun f : PF => !decide (f.1 = nm)) ∘ (fun i => fs.getD i (ByteArray.empty, [])) from rfl]
  rw [← List.filter_map]
  congr 1
  apply List.ext_getElem?
  intro i
  by_cases hi : i < fs.length
  · simp [hi, List.getD]
  · simp [hi]
end Go.Proofs.Ytmmdkjeoadlikaa
namespace Go.Proofs.Ytmmdkjeoadlikaa
open Go.RowKit
set_option linter.unusedVariables false
set_option maxRecDepth 100000

theorem box_oneW {w : World} {N : Nat} {v : Value} {t : TypeId} (h : w.heap[N]? = some (.cells #[v] t)) : w.cell? ⟨N, 0, none⟩ = some v := by simp [World.cell?, h]
theorem without1_any (s nm : ByteArray) (da : Option Addr) (dn dc Bn : Nat) (w : World) (hB : w.heap[Bn]? = some (.cells #[.string nm] 9)) :
    Calls Try.prog 81 #[.agg #[.string s, .slice da dn dc], .pointer (some ⟨Bn, 0, none⟩)] w fun e w' => e = .returned (.bool (decide (s = nm))) ∧ Below w.heap.size w w' := by
  have hb0 : Below w.heap.size w (w.alloc (.cells #[.string s, .slice da dn dc] 83)) := (Below.refl _ _).alloc (Nat.le_refl _) _
  have c0 := box_oneW hB
  have hlt : Bn < w.heap.size := (Array.getElem?_eq_some_iff.1 hB).1
  by_cases hs : s = nm
  · have hb2 := same_yes hs
    have H : Hid (s = nm) := hs
    clear hs
    go_enter Try.func81, Try.ntmps81
    go_wp2
    go_ret
    exact ⟨by simp [H.out], hb0⟩
  · have hb2 := same_no hs
    have H : Hid (¬ s = nm) := hs
    clear hs
    go_enter Try.func81, Try.ntmps81
    go_wp2
    go_ret
    exact ⟨by simp [H.out], hb0⟩
set_option maxHeartbeats 800000 in
theorem indexFunc_any (a : Option Addr) (n c : Nat) (xs : List Value) (nms : Nat → ByteArray) (nm : ByteArray) (Bn : Nat) (w : World) (B : Nat) (hB : B ≤ w.heap.size) (h : RowF w B a n c xs nms) (hb : w.heap[Bn]? = some (.cells #[.string nm] 9)) :
    Calls Try.prog 89 #[.slice a n c, .func (.func 81) #[] #[.pointer (some ⟨Bn, 0, none⟩)]] w fun e w' => ((∃ k : Nat, k < n ∧ nms k = nm ∧ (∀ j, j < k → nms j ≠ nm) ∧ e = .returned (.int .i64 k)) ∨ ((∀ j, j < n → nms j ≠ nm) ∧ e = .returned (.int .i64 (-1)))) ∧ Below w.heap.size w w' := by
  obtain ⟨hl, hnc, hc, hx, hcell⟩ := h
  unfold maxLen at hc
  have HB : Hid (w.heap[Bn]? = some (.cells #[.string nm] 9)) := hb
  have hlt : Bn < w.heap.size := (Array.getElem?_eq_some_iff.1 hb).1
  clear hb
  go_enter Try.func89, Try.ntmps89
  go_wp2
  go_loopw [5, 8] (fun _ i wr => ∃ k : Nat, k ≤ n ∧ i = .int .i64 k ∧ Below w.heap.size w wr ∧ Hid (∀ j, j < k → nms j ≠ nm)) (fun _ i _ => n - (intOf i).toNat)
  case atStart => exact ⟨0, Nat.zero_le _, rfl, Below.refl _ _, fun j hj => absurd hj (Nat.not_lt_zero _)⟩
  case round =>
    obtain ⟨k, hk, rfl, hbel, hno⟩ := hrel
    by_cases hkn : k < n
    · obtain ⟨b, off, rfl, hbB, hcb⟩ := hcell (by omega)
      obtain ⟨x1, a', n', c', x2⟩ := hx k hkn
      have e1 : wr.cell? ⟨b, off + k * 2, none⟩ = some (.string (nms k)) := (hbel.cell (p := ⟨b, off + k * 2, none⟩) (by show b < _; omega)).trans ((hcb (k * 2) (by omega)).trans x1)
      have e2 : wr.cell? ⟨b, off + k * 2 + 1, none⟩ = some (.slice a' n' c') := (hbel.cell (p := ⟨b, off + k * 2 + 1, none⟩) (by show b < _; omega)).trans ((hcb (k * 2 + 1) (by omega)).trans x2)
      have hbx : wr.heap[Bn]? = some (.cells #[.string nm] 9) := (hbel.block Bn hlt).trans HB.out
      have hcall := without1_any (nms k) nm a' n' c' Bn wr hbx
      clear hcb hx hcell hbx x1 x2
      by_cases hs : nms k = nm
      · rw [decide_eq_true hs] at hcall
        have H : Hid (nms k = nm) := hs
        clear hs
        go_wp2_with fail
        refine hcall.mono ?_
        rintro e w2 ⟨rfl, hb2⟩
        have hbel2 := hbel.trans (hb2.mono hbel.size)
        clear hcall e1 e2 hbel hb2
        go_wp2
        go_ret
        exact ⟨.inl ⟨k, hkn, H.out, hno.out, rfl⟩, hbel2⟩
      · rw [decide_eq_false hs] at hcall
        have H : Hid (∀ j, j < k + 1 → nms j ≠ nm) := fun j hj => by
          by_cases hjk : j = k
          · subst hjk; exact hs
          · exact hno.out j (by omega)
        clear hs
        go_wp2_with fail
        refine hcall.mono ?_
        rintro e w2 ⟨rfl, hb2⟩
        have hbel2 := hbel.trans (hb2.mono hbel.size)
        clear hcall e1 e2 hbel hb2
        go_wp2
        go_roundw
        case rel => exact ⟨k + 1, by omega, by go_num, hbel2, H⟩
        case measure => simp [intOf]; omega
    · obtain rfl : k = n := by omega
      go_wp2
      go_ret
      exact ⟨.inr ⟨hno.out, rfl⟩, hbel⟩
theorem zeroCells_two (n : Nat) (u v : Value) : (Builtin.zeroCells #[u, v] n).toList.length = n * 2 ∧ ∀ x ∈ (Builtin.zeroCells #[u, v] n).toList, x = u ∨ x = v := by
  refine ⟨by simp [Builtin.zeroCells], fun x hx => ?_⟩
  simp only [Builtin.zeroCells, Array.toList_map, List.mem_map] at hx
  obtain ⟨i, _, rfl⟩ := hx
  rcases Nat.mod_two_eq_zero_or_one i with h | h
  · left; simp [h]
  · right; simp [h]
/-- 'clear(s)' on n > 0 files. -/
theorem run_clear_files (w : World) (ty : TypeId) (b o n c : Nat) (hn : 0 < n) (hc : ∀ j, j < n * 2 → (w.cell? ⟨b, o + j, none⟩).isSome = true) (hf : ∀ j, j < n * 2 → w.frozen? ⟨b, o + j, none⟩ = false) :
    (Builtin.clear_ #[29] ty #[.slice (some ⟨b, o, none⟩) n c]).run Try.prog w = .ok (.tuple #[]) (w.setCells b o (Builtin.zeroCells #[.string ⟨#[]⟩, .slice none 0 0] n).toList) := by
  obtain ⟨hl, hm⟩ := zeroCells_two n (.string ⟨#[]⟩) (.slice none 0 0)
  have hst := run_storeCells_cells (P := Try.prog) b o (Builtin.zeroCells #[.string ⟨#[]⟩, .slice none 0 0] n).toList 0 w (by rw [hl]; simpa using hc) (by rw [hl]; simpa using hf) (by intro v hv; rcases hm v hv with rfl | rfl <;> rfl)
  simp only [Nat.add_zero] at hst
  obtain ⟨m, rfl⟩ : ∃ m, n = m + 1 := ⟨n - 1, by omega⟩
  simp [Builtin.clear_, run_underlying Try.underlying29, Value.cells, hst]
theorem own_setCells {base g n c e size : Nat} : ∀ (vs : List Value) (o : Nat) (w : World) (xs : List Value), w.ownsRow base e size (.slice (some ⟨g, 0, none⟩) n c) n xs → ∃ ys, (w.setCells g o vs).ownsRow base e size (.slice (some ⟨g, 0, none⟩) n c) n ys ∧ ys.take o = xs.take o ∧ Fr (fun x => x = g) w (w.setCells g o vs)
  | [], o, w, xs, h => ⟨xs, h, rfl, Fr.refl _ _⟩
  | v :: r, o, w, xs, h => by
    obtain ⟨h1, h2⟩ := h.stored o v
    obtain ⟨ys, h3, h4, h5⟩ := own_setCells r (o + 1) (w.setCell ⟨g, o, none⟩ v) _ h1
    refine ⟨ys, h3, ?_, (Fr.of_grown h2 (fun x e => by cases e; rfl)).trans h5⟩
    have := congrArg (List.take o) h4
    rw [List.take_take, List.take_take, show min o (o + 1) = o by omega] at this
    rw [this, List.take_set_of_le (Nat.le_refl _)]
theorem own_cut {w : World} {base g n c e size i : Nat} {xs : List Value} (h : w.ownsRow base e size (.slice (some ⟨g, 0, none⟩) n c) n xs) (hi : i ≤ n) : w.ownsRow base e size (.slice (some ⟨g, 0, none⟩) i c) i (xs.take (i * size)) := by
  have hm : i * size ≤ n * size := Nat.mul_le_mul_right _ hi
  refine ⟨by rw [List.length_take, h.1]; omega, .inr ?_⟩
  rcases h.2 with ⟨h', _⟩ | ⟨g', cap, cur, e1, h1, h2, h3, h4, h5, h6⟩
  · simp at h'
  · injection e1 with e1 e2 e3
    injection e1 with e1
    injection e1 with e1
    subst e1 e3
    refine ⟨g, c, cur, rfl, h1, h2, by omega, h4, h5, ?_⟩
    rw [← h6, List.take_take, Nat.min_eq_left hm]
/-- The row while files are struck: what is kept so far, then what stood there. -/
def stD (nms : Nat → ByteArray) (nm : ByteArray) (n j : Nat) : List Nat := keptI nms nm j ++ List.range' (keptI nms nm j).length (n - (keptI nms nm j).length)
theorem stD_len (nms : Nat → ByteArray) (nm : ByteArray) (n j : Nat) (h : j ≤ n) : (stD nms nm n j).length = n := by
  have := keptI_len nms nm j
  simp [stD]; omega
theorem stD_get (nms : Nat → ByteArray) (nm : ByteArray) (n j t : Nat) (h : j ≤ t) (ht : t < n) : (stD nms nm n j).getD t 0 = t := by
  have := keptI_len nms nm j
  simp only [stD, List.getD]
  rw [List.getElem?_append_right (by omega), List.getElem?_range' (by omega)]
  simp; omega
theorem stD_keep (xs : List Value) (nms : Nat → ByteArray) (nm : ByteArray) (n j : Nat) (hj : j < n) (h : nms j ≠ nm) : ((pickR xs (stD nms nm n j)).set ((keptI nms nm j).length * 2) (xs.getD (j * 2) (.bool false))).set ((keptI nms nm j).length * 2 + 1) (xs.getD (j * 2 + 1) (.bool false)) = pickR xs (stD nms nm n (j + 1)) := by
  have hl := keptI_len nms nm j
  have e1 : stD nms nm n j = keptI nms nm j ++ (keptI nms nm j).length :: List.range' ((keptI nms nm j).length + 1) (n - (keptI nms nm j).length - 1) := by
    unfold stD
    obtain ⟨q, hq⟩ : ∃ q, n - (keptI nms nm j).length = q + 1 := ⟨n - (keptI nms nm j).length - 1, by omega⟩
    rw [hq, List.range'_succ]; simp
  have e2 : stD nms nm n (j + 1) = keptI nms nm j ++ j :: List.range' ((keptI nms nm j).length + 1) (n - (keptI nms nm j).length - 1) := by
    unfold stD
    rw [keptI_no h]
    simp only [List.length_append, List.length_singleton, List.append_assoc, List.singleton_append]
    rw [Nat.sub_sub]
  rw [e1, e2]
  exact pickR_set xs _ _ _ j _ rfl
theorem stD_skip {nms : Nat → ByteArray} {nm : ByteArray} {n j : Nat} (h : nms j = nm) : stD nms nm n (j + 1) = stD nms nm n j := by unfold stD; rw [keptI_yes h]
theorem stD_start {nms : Nat → ByteArray} {nm : ByteArray} {n k : Nat} (hk : k < n) (h : ∀ j, j < k → nms j ≠ nm) (hy : nms k = nm) : stD nms nm n (k + 1) = List.range n ∧ (keptI nms nm (k + 1)).length = k := by
  have e := keptI_all h
  have hl : (keptI nms nm (k + 1)).length = k := by rw [keptI_yes hy, e]; simp
  refine ⟨?_, hl⟩
  unfold stD
  rw [hl, keptI_yes hy, e, List.range_eq_range', List.range_eq_range']
  rw [show List.range' 0 n = List.range' 0 (k + (n - k)) by congr 1; omega, ← List.range'_append]
  simp
set_option maxHeartbeats 1600000 in
theorem deleteFunc_any (g n c : Nat) (xs : List Value) (nms : Nat → ByteArray) (nm : ByteArray) (base Bn : Nat) (w : World) (hrow : w.ownsRow base 83 2 (.slice (some ⟨g, 0, none⟩) n c) n xs) (hx : ∀ i, i < n → xs[i * 2]? = some (.string (nms i)) ∧ ∃ a' n' c', xs[i * 2 + 1]? = some (.slice a' n' c')) (hb : w.heap[Bn]? = some (.cells #[.string nm] 9)) (hBg : Bn ≠ g) (hn : n ≤ 1048576) :
    Calls Try.prog 80 #[.slice (some ⟨g, 0, none⟩) n c, .func (.func 81) #[] #[.pointer (some ⟨Bn, 0, none⟩)]] w fun e w' => e = .returned (.slice (some ⟨g, 0, none⟩) (keptI nms nm n).length c) ∧ w'.ownsRow base 83 2 (.slice (some ⟨g, 0, none⟩) (keptI nms nm n).length c) (keptI nms nm n).length (pickR xs (keptI nms nm n)) ∧ Fr (fun x => x = g) w w' := by
  have hxl := hrow.1
  have hgl : g < w.heap.size := (hrow.lt g rfl).2
  obtain ⟨hnc, hc⟩ : n ≤ c ∧ c ≤ maxLen := by
    rcases hrow.2 with ⟨h', _⟩ | ⟨g', cap, cur, e1, h1, h2, h3, h4, _⟩
    · simp at h'
    · injection e1 with e1 e2 e3
      subst e3
      exact ⟨h3, h4⟩
  have HC : Hid (c ≤ maxLen) := hc
  unfold maxLen at hc
  have hR : RowF w w.heap.size (some ⟨g, 0, none⟩) n c xs nms := ⟨hxl, hnc, HC.out, hx, fun _ => ⟨g, 0, rfl, hgl, fun j hj => by rw [Nat.zero_add, hrow.cellAt j hj]⟩⟩
  have HB : Hid (w.heap[Bn]? = some (.cells #[.string nm] 9)) := hb
  have hlt : Bn < w.heap.size := (Array.getElem?_eq_some_iff.1 hb).1
  have HX : Hid (∀ i, i < n → xs[i * 2]? = some (.string (nms i)) ∧ ∃ a' n' c', xs[i * 2 + 1]? = some (.slice a' n' c')) := hx
  have HR : Hid (w.ownsRow base 83 2 (.slice (some ⟨g, 0, none⟩) n c) n xs) := hrow
  have HXL : Hid (xs.length = n * 2) := hxl
  have hIF := indexFunc_any (some ⟨g, 0, none⟩) n c xs nms nm Bn w w.heap.size (Nat.le_refl _) hR hb
  clear hb hx hrow hR hxl
  go_enter Try.func80, Try.ntmps80
  go_wp2_with fail
  refine hIF.mono ?_
  rintro e w1 ⟨hcase, hb1⟩
  clear hIF
  have hs1 := hb1.size
  have hF1 : Fr (fun x => x = g) w w1 := Fr.of_below hb1
  have hR1 := owns_below HR.out hb1
  rcases hcase with ⟨k, hkn, hy, hno, rfl⟩ | ⟨hno, rfl⟩
  · have hne1 : ((k : Int) == -1) = false := beq_eq_false_iff_ne.2 (by omega)
    obtain ⟨st1, st2⟩ := stD_start hkn hno hy
    have R1 : Hid (w1.ownsRow base 83 2 (.slice (some ⟨g, 0, none⟩) n c) n (pickR xs (stD nms nm n (k + 1)))) := by
      show w1.ownsRow _ _ _ _ _ _
      rw [st1, pickR_range xs n HXL.out]; exact hR1
    have ST2 : Hid ((keptI nms nm (k + 1)).length = k) := st2
    clear hR1 hno hy st1 st2 hb1
    go_wp2
    go_loopw [5, 6, 7] (fun s5 s6 _ wr => ∃ i j : Nat, Hid ((keptI nms nm j).length = i) ∧ i < j ∧ j ≤ n ∧ s5 = .int .i64 i ∧ s6 = .int .i64 j ∧ Hid (wr.ownsRow base 83 2 (.slice (some ⟨g, 0, none⟩) n c) n (pickR xs (stD nms nm n j))) ∧ Fr (fun x => x = g) w wr) (fun _ s6 _ _ => n - (intOf s6).toNat)
    case atStart => exact ⟨k, k + 1, ST2, by omega, by omega, rfl, by go_num, R1, hF1⟩
    case round =>
      obtain ⟨i, j, HI, hij, hjn, rfl, rfl, HRj, hFj⟩ := hrel
      have hsz := hFj.size
      have hin : i < n := by omega
      by_cases hj : j < n
      · obtain ⟨x1, a', n', c', x2⟩ := HX.out j hj
        have hgj := pickR_get xs (stD nms nm n j) j (by rw [stD_len _ _ _ _ hjn]; exact hj)
        rw [stD_get _ _ _ _ _ (Nat.le_refl _) hj, getD_some x1, getD_some x2] at hgj
        have hgi := pickR_get xs (stD nms nm n j) i (by rw [stD_len _ _ _ _ hjn]; omega)
        have e1 : wr.cell? ⟨g, j * 2, none⟩ = some (.string (nms j)) := (HRj.out.cellAt _ (by omega)).trans hgj.1
        have e2 : wr.cell? ⟨g, j * 2 + 1, none⟩ = some (.slice a' n' c') := (HRj.out.cellAt _ (by omega)).trans hgj.2
        have HE3 : Hid (wr.cell? ⟨g, i * 2, none⟩ = some (xs.getD ((stD nms nm n j).getD i 0 * 2) (.bool false))) := (HRj.out.cellAt _ (by omega)).trans hgi.1
        have HE4 : Hid (wr.cell? ⟨g, i * 2 + 1, none⟩ = some (xs.getD ((stD nms nm n j).getD i 0 * 2 + 1) (.bool false))) := (HRj.out.cellAt _ (by omega)).trans hgi.2
        have hgw : g < wr.heap.size := by omega
        have X1 : Hid (xs.getD (j * 2) (.bool false) = .string (nms j)) := getD_some x1 _
        have X2 : Hid (xs.getD (j * 2 + 1) (.bool false) = .slice a' n' c') := getD_some x2 _
        have hbx : (wr.alloc (.cells #[.string (nms j), .slice a' n' c'] 83)).heap[Bn]? = some (.cells #[.string nm] 9) := by
          rw [heap_alloc_old _ _ (by omega)]; exact (hFj.block Bn hlt hBg).trans HB.out
        have hcall := without1_any (nms j) nm a' n' c' Bn _ hbx
        have hal := (Below.refl wr.heap.size wr).alloc (Nat.le_refl _) (.cells #[.string (nms j), .slice a' n' c'] 83)
        have hnew := heap_alloc_new wr (.cells #[.string (nms j), .slice a' n' c'] 83)
        clear hgj hgi hbx x1 x2
        by_cases hs : nms j = nm
        · rw [decide_eq_true hs] at hcall
          have H1 : Hid (keptI nms nm (j + 1) = keptI nms nm j) := keptI_yes hs
          have H2 : Hid (stD nms nm n (j + 1) = stD nms nm n j) := stD_skip hs
          clear hs
          go_wp2_with fail
          refine hcall.mono ?_
          rintro e w2 ⟨rfl, hb2⟩
          have hb3 : Below wr.heap.size wr w2 := hal.trans (hb2.mono hal.size)
          clear hcall e1 e2 hb2 hal hnew
          go_wp2
          go_roundw
          case rel => exact ⟨i, j + 1, by rw [H1.out]; exact HI, by omega, by omega, rfl, by go_num, by rw [H2.out]; exact owns_below HRj.out hb3, hFj.trans (Fr.of_below hb3)⟩
          case measure => simp [intOf]; omega
        · rw [decide_eq_false hs] at hcall
          have H1 : Hid (keptI nms nm (j + 1) = keptI nms nm j ++ [j]) := keptI_no hs
          have H2 := stD_keep xs nms nm n j hj hs
          rw [HI.out, X1.out, X2.out] at H2
          have HK : Hid (((pickR xs (stD nms nm n j)).set (i * 2) (.string (nms j))).set (i * 2 + 1) (.slice a' n' c') = pickR xs (stD nms nm n (j + 1))) := H2
          clear hs H2
          go_wp2_with fail
          refine hcall.mono ?_
          rintro e w2 ⟨rfl, hb2⟩
          have hb3 : Below wr.heap.size wr w2 := hal.trans (hb2.mono hal.size)
          have hnew2 := (hb2.block wr.heap.size (Array.getElem?_eq_some_iff.1 hnew).1).trans hnew
          have n0 : w2.cell? ⟨wr.heap.size, 0, none⟩ = some (.string (nms j)) := by simp [World.cell?, hnew2]
          have n1 : w2.cell? ⟨wr.heap.size, 1, none⟩ = some (.slice a' n' c') := by simp [World.cell?, hnew2]
          have hR2 := owns_below HRj.out hb3
          have f0 := hR2.frozenAt (i * 2)
          have f1 := hR2.frozenAt (i * 2 + 1)
          have i0 := (hb3.cell (p := ⟨g, i * 2, none⟩) hgw).trans HE3.out
          have i1 := (hb3.cell (p := ⟨g, i * 2 + 1, none⟩) hgw).trans HE4.out
          obtain ⟨s1, s2⟩ := hR2.stored (i * 2) (.string (nms j))
          obtain ⟨s3, s4⟩ := s1.stored (i * 2 + 1) (.slice a' n' c')
          have HS : Hid (((w2.setCell ⟨g, i * 2, none⟩ (.string (nms j))).setCell ⟨g, i * 2 + 1, none⟩ (.slice a' n' c')).ownsRow base 83 2 (.slice (some ⟨g, 0, none⟩) n c) n (pickR xs (stD nms nm n (j + 1))) ∧ Fr (fun x => x = g) w ((w2.setCell ⟨g, i * 2, none⟩ (.string (nms j))).setCell ⟨g, i * 2 + 1, none⟩ (.slice a' n' c'))) := ⟨by rw [← HK.out]; exact s3, (hFj.trans (Fr.of_below hb3)).trans ((Fr.of_grown s2 (fun x e => by cases e; rfl)).trans (Fr.of_grown s4 (fun x e => by cases e; rfl)))⟩
          have hgw2 : g < w2.heap.size := Nat.lt_of_lt_of_le hgw hb3.size
          have hnw2 : wr.heap.size < w2.heap.size := (Array.getElem?_eq_some_iff.1 hnew2).1
          clear hcall e1 e2 hb2 hal hnew hnew2 hR2 s1 s2 s3 s4 hb3 HE3 HE4 hFj HRj
          go_wp2
          go_roundw
          case rel => exact ⟨i + 1, j + 1, by rw [H1.out]; show (keptI nms nm j ++ [j]).length = _; rw [List.length_append, HI.out]; rfl, by omega, by omega, by go_num, by go_num, HS.out.1, HS.out.2⟩
          case measure => simp [intOf]; omega
      · obtain rfl : j = n := by omega
        have hcl : ∀ ty, (Builtin.clear_ #[29] ty #[.slice (some ⟨g, i * 2, none⟩) (j - i) (c - i)]).run Try.prog wr = .ok (.tuple #[]) (wr.setCells g (i * 2) (Builtin.zeroCells #[.string ⟨#[]⟩, .slice none 0 0] (j - i)).toList) := fun ty =>
          run_clear_files wr ty g (i * 2) (j - i) (c - i) (by omega) (fun t ht => by
            have hgt := pickR_get xs (stD nms nm j j) ((i * 2 + t) / 2) (by rw [stD_len _ _ _ _ (Nat.le_refl _)]; omega)
            rw [HRj.out.cellAt _ (by omega)]
            rcases Nat.mod_two_eq_zero_or_one (i * 2 + t) with h | h
            · rw [show i * 2 + t = (i * 2 + t) / 2 * 2 by omega, hgt.1]; rfl
            · rw [show i * 2 + t = (i * 2 + t) / 2 * 2 + 1 by omega, hgt.2]; rfl) (fun t ht => HRj.out.frozenAt _)
        obtain ⟨ys, h1, h2, h3⟩ := own_setCells (Builtin.zeroCells #[.string ⟨#[]⟩, .slice none 0 0] (j - i)).toList (i * 2) wr _ HRj.out
        have h4 := own_cut h1 (show i ≤ j by omega)
        have h5 : (pickR xs (stD nms nm j j)).take (i * 2) = pickR xs (keptI nms nm j) := by
          unfold stD
          rw [pickR_append, List.take_append_of_le_length (by rw [pickR_len, HI.out]; exact Nat.le_refl _), List.take_of_length_le (by rw [pickR_len, HI.out]; exact Nat.le_refl _)]
        rw [h2, h5] at h4
        have H4 : Hid ((wr.setCells g (i * 2) (Builtin.zeroCells #[.string ⟨#[]⟩, .slice none 0 0] (j - i)).toList).ownsRow base 83 2 (.slice (some ⟨g, 0, none⟩) i c) i (pickR xs (keptI nms nm j)) ∧ Fr (fun x => x = g) w (wr.setCells g (i * 2) (Builtin.zeroCells #[.string ⟨#[]⟩, .slice none 0 0] (j - i)).toList)) := ⟨h4, hFj.trans h3⟩
        clear h1 h2 h3 h4 h5 HRj hFj
        go_wp2
        go_ret
        rw [HI.out]
        exact ⟨rfl, H4.out⟩
  · have HL : Hid (keptI nms nm n = List.range n) := keptI_all hno
    clear hno
    go_wp2
    go_ret
    rw [HL.out, pickR_range xs n HXL.out, List.length_range]
    exact ⟨rfl, hR1, hF1⟩
end Go.Proofs.Ytmmdkjeoadlikaa
namespace Go.Proofs.Ytmmdkjeoadlikaa
open Go.RowKit
set_option linter.unusedVariables false
set_option maxRecDepth 100000

/-- The files but one's. -/
def remF (fs : List PF) (nm : ByteArray) : List PF := fs.filter (fun f => !decide (f.1 = nm))
theorem deleteFunc_none (nm : ByteArray) (Bn : Nat) (w : World) (hb : w.heap[Bn]? = some (.cells #[.string nm] 9)) :
    Calls Try.prog 80 #[.slice none 0 0, .func (.func 81) #[] #[.pointer (some ⟨Bn, 0, none⟩)]] w fun e w' => e = .returned (.slice none 0 0) ∧ Below w.heap.size w w' := by
  have hIF := indexFunc_any none 0 0 [] (fun _ => ByteArray.empty) nm Bn w w.heap.size (Nat.le_refl _) ⟨rfl, Nat.le_refl _, by unfold maxLen; omega, fun i hi => absurd hi (Nat.not_lt_zero _), fun h => absurd h (Nat.lt_irrefl _)⟩ hb
  go_enter Try.func80, Try.ntmps80
  go_wp2_with fail
  refine hIF.mono ?_
  rintro e w1 ⟨hcase, hb1⟩
  clear hIF
  rcases hcase with ⟨k, hkn, _⟩ | ⟨_, rfl⟩
  · omega
  · go_wp2
    go_ret
    exact ⟨rfl, hb1⟩
theorem blk_pick {v v' : Value} {vs : List Value} {ks : List Nat} {n : Nat} (hl : vs.length = n) (hk : ∀ k ∈ ks, k < n) (hv : ∀ g, v'.ownBlock = some g → v.ownBlock = some g) : ∀ g, Blk v' (ks.map fun k => vs.getD k (.slice none 0 0)) g → Blk v vs g := by
  intro g hg
  rcases hg with hg | ⟨j, hj, hg⟩
  · exact .inl (hv g hg)
  · have hj' : j < ks.length := by simpa using hj
    refine .inr ⟨ks.getD j 0, ?_, ?_⟩
    · rw [hl]; refine hk _ ?_; simp [List.getD, List.getElem?_eq_getElem hj']
    · rw [← hg]; simp [List.getD, List.getElem?_eq_getElem hj']
set_option maxHeartbeats 800000 in
theorem withoutFile_own (a : Option Addr) (n c : Nat) (fs : List PF) (xs vs : List Value) (nm : ByteArray) (base : Nat) (w : World) (h : OwnF w base (.slice a n c) fs xs vs) (hn : n ≤ 1048576) :
    Calls Try.prog 59 #[.slice a n c, .string nm] w fun e w' => ∃ (xs' vs' : List Value), e = .returned (.slice a (remF fs nm).length c) ∧ OwnF w' base (.slice a (remF fs nm).length c) (remF fs nm) xs' vs' ∧ (∀ g, Blk (.slice a (remF fs nm).length c) vs' g → Blk (.slice a n c) vs g) ∧ Fr (fun x => (Value.slice a n c).ownBlock = some x) w w' := by
  have HO : Hid (OwnF w base (.slice a n c) fs xs vs) := h
  have hal := (Below.refl w.heap.size w).alloc (Nat.le_refl _) (.cells #[.string nm] 9)
  have hbx := heap_alloc_new w (.cells #[.string nm] 9)
  obtain ⟨hnl, hRF, _⟩ := h.rowF
  have hkl : (keptI (fun i => (fs.getD i (ByteArray.empty, [])).1) nm fs.length).length = (remF fs nm).length := by rw [remF, ← keptI_map, List.length_map]
  rcases h.row.2 with ⟨e, h0⟩ | ⟨g, cap, cur, e, hbg, hg, _⟩
  · cases e
    have hfs : fs = [] := List.length_eq_zero_iff.1 h0
    subst hfs
    have hcall := deleteFunc_none nm w.heap.size _ hbx
    clear h hRF hbx hnl hkl h0
    go_enter Try.func59, Try.ntmps59
    go_wp2_with fail
    refine hcall.mono ?_
    rintro e w2 ⟨rfl, hb2⟩
    have hb3 := hal.trans (hb2.mono hal.size)
    clear hcall hal hb2
    go_wp2
    go_ret
    exact ⟨xs, vs, rfl, HO.out.below hb3, fun g e => e, Fr.of_below hb3⟩
  · have e' := e
    injection e' with e1 e2 e3
    subst e1 e2 e3
    have hgl : g < w.heap.size := (Array.getElem?_eq_some_iff.1 hg).1
    have hcall := deleteFunc_any g fs.length c xs (fun i => (fs.getD i (ByteArray.empty, [])).1) nm base w.heap.size _ (h.row.alloc (.cells #[.string nm] 9)) hRF.2.2.2.1 hbx (by omega) hn
    rw [hkl] at hcall
    have HKL : Hid ((keptI (fun i => (fs.getD i (ByteArray.empty, [])).1) nm fs.length).length = (remF fs nm).length) := hkl
    clear h hRF hbx hg e hkl hnl
    go_enter Try.func59, Try.ntmps59
    go_wp2_with fail
    refine hcall.mono ?_
    rintro e w2 ⟨rfl, hrow, hF⟩
    have hF2 : Fr (fun x => x = g) w w2 := (Fr.of_below hal).trans hF
    have R : Hid (OwnF w2 base (.slice (some ⟨g, 0, none⟩) (remF fs nm).length c) (remF fs nm) (pickR xs (keptI (fun i => (fs.getD i (ByteArray.empty, [])).1) nm fs.length)) ((keptI (fun i => (fs.getD i (ByteArray.empty, [])).1) nm fs.length).map fun k => vs.getD k (.slice none 0 0)) ∧ (∀ g', Blk (.slice (some ⟨g, 0, none⟩) (remF fs nm).length c) ((keptI (fun i => (fs.getD i (ByteArray.empty, [])).1) nm fs.length).map fun k => vs.getD k (.slice none 0 0)) g' → Blk (.slice (some ⟨g, 0, none⟩) fs.length c) vs g') ∧ Fr (fun x => (Value.slice (some ⟨g, 0, none⟩) fs.length c).ownBlock = some x) w w2) := by
      refine ⟨?_, blk_pick HO.out.len (fun k hk => keptI_lt hk) (fun g' e => e), hF2.weak (fun x e => by rw [e]; rfl)⟩
      have := HO.out.pick (w' := w2) (v' := .slice (some ⟨g, 0, none⟩) (remF fs nm).length c) (keptI (fun i => (fs.getD i (ByteArray.empty, [])).1) nm fs.length) (keptI_nodup _ _ _) (fun k hk => keptI_lt hk) (fun j hj => owns_fr (HO.out.data j hj) hF2 (fun x e e2 => by
        rcases own_ne HO.out.row (HO.out.data j hj) with h1 | h1
        · rw [h1] at e; cases e
        · exact h1 (by rw [e, e2]; rfl))) (by rw [HKL.out]; exact hrow)
      rwa [keptI_map] at this
    clear hcall hal hrow hF hF2 HO
    go_wp2
    go_ret
    exact ⟨_, _, rfl, R.out⟩
end Go.Proofs.Ytmmdkjeoadlikaa
namespace Go.Proofs.Ytmmdkjeoadlikaa
open Go.RowKit
set_option linter.unusedVariables false
set_option maxRecDepth 100000

set_option maxHeartbeats 800000 in
theorem l1Without_any (a : Option Addr) (n c : Nat) (xs : List Value) (nms : Nat → ByteArray) (nm : ByteArray) (w : World) (B : Nat) (hB : B ≤ w.heap.size) (h : RowF w B a n c xs nms) (hn : n ≤ 1048576) :
    Calls Try.prog 55 #[.slice a n c, .string nm] w fun e w' => ∃ v', e = .returned v' ∧ w'.ownsRow w.heap.size 83 2 v' (keptI nms nm n).length (pickR xs (keptI nms nm n)) ∧ Below w.heap.size w w' := by
  obtain ⟨hl, hnc, hc, hx, hcell⟩ := h
  obtain ⟨i0, hi, hz0, hz1, hz2⟩ := info_parts info_File
  go_enter Try.func55, Try.ntmps55
  go_wp2
  go_loopw [5, 6] (fun v i wr => ∃ k : Nat, k ≤ n ∧ i = .int .i64 k ∧ Hid (wr.ownsRow w.heap.size 83 2 v (keptI nms nm k).length (pickR xs (keptI nms nm k))) ∧ Below w.heap.size w wr) (fun _ i _ => n - (intOf i).toNat)
  case atStart =>
    refine ⟨0, Nat.zero_le _, rfl, ?_, (Below.refl _ _).alloc (Nat.le_refl _) _⟩
    have := World.ownsRow_made (base := w.heap.size) (e := 83) (size := 2) w #[] 0 (Nat.le_refl _) (by unfold maxLen; omega) (by simp)
    show World.ownsRow _ _ _ _ _ _ _
    simpa [keptI, pickR] using this
  case round =>
    obtain ⟨k, hk, rfl, hown, hbel⟩ := hrel
    have hm := keptI_len nms nm k
    have hsz := hbel.size
    by_cases hlt : k < n
    · obtain ⟨b, off, rfl, hb, hcb⟩ := hcell (by omega)
      obtain ⟨x1, a', n', c', x2⟩ := hx k hlt
      have e1 : wr.cell? ⟨b, off + k * 2, none⟩ = some (.string (nms k)) := (hbel.cell (p := ⟨b, off + k * 2, none⟩) (by show b < _; omega)).trans ((hcb (k * 2) (by omega)).trans x1)
      have e2 : wr.cell? ⟨b, off + k * 2 + 1, none⟩ = some (.slice a' n' c') := (hbel.cell (p := ⟨b, off + k * 2 + 1, none⟩) (by show b < _; omega)).trans ((hcb (k * 2 + 1) (by omega)).trans x2)
      have hbk : b < wr.heap.size := by have := hbel.size; omega
      have X1 : Hid (xs.getD (k * 2) (.bool false) = .string (nms k)) := getD_some x1 _
      have X2 : Hid (xs.getD (k * 2 + 1) (.bool false) = .slice a' n' c') := getD_some x2 _
      clear hcb hx hcell x1 x2
      by_cases hs : nms k = nm
      · have hd := same_yes hs
        have H : Hid (keptI nms nm (k + 1) = keptI nms nm k) := keptI_yes hs
        clear hs
        go_wp2
        go_roundw
        case rel => exact ⟨k + 1, by omega, by go_num, by rw [H.out]; exact hown, hbel⟩
        case measure => simp [intOf]; omega
      · have hd := same_no hs
        have H : Hid (keptI nms nm (k + 1) = keptI nms nm k ++ [k]) := keptI_no hs
        clear hs
        have hown2 := hown.out
        generalize keptI nms nm k = ks at hown hown2 H hm
        go_wp2_with (at_builtin; refine wpList_append_own _ rfl (.tmp 21) (.tmp 26) 29 rfl w.heap.size 83 i0 _ 2 40 Try.underlying29 hi hz0 hz1 hz2 rfl (by decide) u5 ks.length (pickR xs ks) rfl (hown2.alloc _) ⟨wr.heap.size, 0, none⟩ 1 1 [.string (nms k), .slice a' n' c'] rfl rfl (cell_two_new _ _ _ _) (by simp [Value.oneCell']) (by unfold maxLen; omega) (by omega) (by simp; omega) ?_; intro v' w2 hown' hgr _)
        have hal := (Below.refl wr.heap.size wr).alloc (Nat.le_refl _) (.cells #[.string (nms k), .slice a' n' c'] 83)
        have hb3 : Below w.heap.size w w2 := grown_below hbel hal hgr hbel.size (fun g hg => (hown2.lt g hg).1)
        have R : Hid (w2.ownsRow w.heap.size 83 2 v' (keptI nms nm (k + 1)).length (pickR xs (keptI nms nm (k + 1)))) := by
          show w2.ownsRow _ _ _ _ _ _
          rw [H.out, pickR_append, List.length_append]
          simp only [pickR, List.flatMap_cons, List.flatMap_nil, cellsK, X1.out, X2.out, List.append_nil, List.length_singleton]
          exact hown'
        clear hgr hown hown2 hbel hal hown' e1 e2
        go_wp2
        go_roundw
        case rel => exact ⟨k + 1, by omega, by go_num, R, hb3⟩
        case measure => simp [intOf]; omega
    · obtain rfl : k = n := by omega
      go_wp2
      go_ret
      exact ⟨u5, rfl, hown.out, hbel⟩
theorem l1Without_own (a : Option Addr) (n c : Nat) (fs : List PF) (xs vs : List Value) (nm : ByteArray) (base : Nat) (w : World) (h : OwnF w base (.slice a n c) fs xs vs) (hb : base ≤ w.heap.size) (hn : n ≤ 1048576) :
    Calls Try.prog 55 #[.slice a n c, .string nm] w fun e w' => ∃ (a' : Option Addr) (c' : Nat) (xs' vs' : List Value), e = .returned (.slice a' (remF fs nm).length c') ∧ OwnF w' base (.slice a' (remF fs nm).length c') (remF fs nm) xs' vs' ∧ (∀ g, Blk (.slice a' (remF fs nm).length c') vs' g → Blk (.slice a n c) vs g ∨ w.heap.size ≤ g) ∧ Below w.heap.size w w' := by
  obtain ⟨hnl, hRF, _⟩ := h.rowF
  subst hnl
  have hkl : (keptI (fun i => (fs.getD i (ByteArray.empty, [])).1) nm fs.length).length = (remF fs nm).length := by rw [remF, ← keptI_map, List.length_map]
  refine (l1Without_any a fs.length c xs _ nm w w.heap.size (Nat.le_refl _) hRF hn).mono ?_
  rintro e w' ⟨v', rfl, hrow, hbel⟩
  rw [hkl] at hrow
  obtain ⟨a', c', rfl⟩ := own_shape hrow
  refine ⟨a', c', pickR xs (keptI (fun i => (fs.getD i (ByteArray.empty, [])).1) nm fs.length), (keptI (fun i => (fs.getD i (ByteArray.empty, [])).1) nm fs.length).map (fun k => vs.getD k (.slice none 0 0)), rfl, ?_, fun g hg => ?_, hbel⟩
  · have := h.pick (w' := w') (v' := .slice a' (remF fs nm).length c') (keptI (fun i => (fs.getD i (ByteArray.empty, [])).1) nm fs.length) (keptI_nodup _ _ _) (fun k hk => keptI_lt hk) (fun j hj => owns_below (h.data j hj) hbel) (by rw [hkl]; exact own_lower hrow hb)
    rwa [keptI_map] at this
  · rcases hg with e | ⟨j, hj, e⟩
    · exact .inr (hrow.lt g e).1
    · exact .inl (blk_pick (v := .slice a fs.length c) (v' := .slice none 0 0) h.len (fun k hk => keptI_lt hk) (fun g e => by cases e) g (.inr ⟨j, hj, e⟩))
end Go.Proofs.Ytmmdkjeoadlikaa
