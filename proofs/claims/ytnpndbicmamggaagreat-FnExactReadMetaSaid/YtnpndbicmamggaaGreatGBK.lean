import Derived.Test.YtnpndbicmamggaaGreatGBC
import Derived.Test.YtnpndbicmamggaaGreatGBH
import Derived.Test.YtnpndbicmamggaaGreatGBI
namespace Go.Proofs.YtnpndbicmamggaaGreat
open Go.RowKit
set_option linter.unusedVariables false
set_option maxRecDepth 100000

theorem owns_setD {w : World} {base e size : Nat} {v : Value} {n : Nat} {xs : List Value} (h : w.ownsRow base e size v n xs) {p : Addr} (hp : ∀ g, v.ownBlock = some g → p.block ≠ g) (u : Value) : (w.setCell p u).ownsRow base e size v n xs := by
  refine ⟨h.1, ?_⟩
  rcases h.2 with hn | ⟨g, cap, cur, rfl, hbg, hgg, rest⟩
  · exact .inl hn
  · exact .inr ⟨g, cap, cur, rfl, hbg, (Below.heap_setCell w p u g (fun e => hp g rfl e.symm)).trans hgg, rest⟩
theorem toByteS_ownB (a : Option Addr) (n c : Nat) (bs : List Int) (w : World) (A B : Nat) (hB : B ≤ w.heap.size) (h : BytesAt w A B a n c bs) (hn : n ≤ 1048576) :
    Calls Tryz.prog 48 #[.slice a n c] w fun e w' => ∃ g xs, w.heap.size ≤ g ∧ e = .returned (.slice (some ⟨g, 0, none⟩) n n) ∧ w'.ownsRow w.heap.size 5 1 (.slice (some ⟨g, 0, none⟩) n n) n xs ∧ BytesAt w' w.heap.size w'.heap.size (some ⟨g, 0, none⟩) n n bs ∧ Below w.heap.size w w' := by
  obtain ⟨hl, hnc, hc, hw, hcell, _⟩ := h
  obtain ⟨i0, hi, hz0, hz1, hz2⟩ := info_parts info_u8
  go_enter Tryz.func48, Tryz.ntmps48
  go_wp2_with (at_make; refine wpList_make_full _ rfl _ _ 43 rfl w.heap.size 5 i0 (.int .u8 0) 1 Tryz.underlying43 hi hz0 hz1 .i64 .i64 n n n rfl rfl rfl rfl (by rw [hz2]; omega) (by unfold maxLen; omega) (Nat.le_refl _) ?_; intro w1 hown hgr)
  have hb1 : Below w.heap.size w w1 := (Below.refl _ _).grown hgr (Nat.le_refl _) (by simp)
  go_loopw [4] (fun i wr => ∃ k : Nat, k ≤ n ∧ i = .int .i64 k ∧ Below w.heap.size w wr ∧ ∃ xs, wr.ownsRow w.heap.size 5 1 (.slice (some ⟨w.heap.size, 0, none⟩) n n) n xs ∧ ∀ j, j < k → xs[j]? = some (.int .u8 (bs.getD j 0))) (fun i _ => n - (intOf i).toNat)
  case atStart => exact ⟨0, Nat.zero_le _, rfl, hb1, _, hown, fun j hj => absurd hj (Nat.not_lt_zero _)⟩
  case round =>
    clear hown hgr hb1
    obtain ⟨k, hk, rfl, hbel, xs, hown, hxs⟩ := hrel
    have HX : Hid (∀ j, j < k → xs[j]? = some (.int .u8 (bs.getD j 0))) := hxs
    clear hxs
    by_cases hlt : k < n
    · obtain ⟨b, off, rfl, hb, hcb⟩ := hcell (by omega)
      have e1 := (hbel.cell (p := ⟨b, off + k, none⟩) (by show b < _; omega)).trans (hcb k hlt)
      clear hcell hcb
      have hf := hown.frozenAt k
      have hxl := hown.1
      obtain ⟨u, hu⟩ : ∃ u, wr.cell? ⟨w.heap.size, k, none⟩ = some u := ⟨xs[k]'(by omega), by rw [hown.cellAt k (by omega)]; exact List.getElem?_eq_getElem _⟩
      have R := hown.stored k (.int .u8 (bs.getD k 0))
      have HR : Hid (∀ j, j < k + 1 → (xs.set k (.int .u8 (bs.getD k 0)))[j]? = some (.int .u8 (bs.getD j 0))) := by
        intro j hj
        by_cases hjk : j = k
        · subst hjk; rw [List.getElem?_set_self (by omega)]
        · rw [List.getElem?_set_ne (by omega)]; exact HX.out j (by omega)
      have hb2 := hbel.setCell (p := ⟨w.heap.size, k, none⟩) (Nat.le_refl _) (.int .u8 (bs.getD k 0))
      generalize bs.getD k 0 = x at e1 R HR hb2
      clear hown
      obtain ⟨R1, R2⟩ := R
      go_wp2
      go_roundw
      case rel => exact ⟨k + 1, by omega, by go_num, hb2, _, R1, HR.out⟩
      case measure => simp [intOf]; omega
    · go_wp2
      go_ret
      exact ⟨w.heap.size, _, Nat.le_refl _, rfl, hown, bytes_of_owns hown hl (fun j hj => HX.out j (by omega)) hw, hbel⟩
/-- What is read of k files of a row that is being filled, each one's bytes in a row of its own. -/
structure GotF (w : World) (base g0 n : Nat) (fs : List PF) (k : Nat) (xs vs : List Value) : Prop where
  row : w.ownsRow base 71 2 (.slice (some ⟨g0, 0, none⟩) n n) n xs
  len : vs.length = k
  name : ∀ j, j < k → xs[j * 2]? = some (.string (fs.getD j (ByteArray.empty, [])).1) ∧ (fs.getD j (ByteArray.empty, [])).1.size ≤ maxLen
  val : ∀ j, j < k → xs[j * 2 + 1]? = some (vs.getD j (.slice none 0 0))
  data : ∀ j, j < k → w.ownsRow base 5 1 (vs.getD j (.slice none 0 0)) (fs.getD j (ByteArray.empty, [])).2.length (u8s (fs.getD j (ByteArray.empty, [])).2)
  byte : ∀ j, j < k → ∀ x ∈ (fs.getD j (ByteArray.empty, [])).2, 0 ≤ x ∧ x ≤ 255
  apart : ∀ i j, i < j → j < k → ∀ g, (vs.getD i (.slice none 0 0)).ownBlock = some g → (vs.getD j (.slice none 0 0)).ownBlock ≠ some g
theorem GotF.start {w : World} {base g0 n : Nat} {fs : List PF} {xs : List Value} (h : w.ownsRow base 71 2 (.slice (some ⟨g0, 0, none⟩) n n) n xs) : GotF w base g0 n fs 0 xs [] :=
  ⟨h, rfl, fun j hj => absurd hj (Nat.not_lt_zero _), fun j hj => absurd hj (Nat.not_lt_zero _), fun j hj => absurd hj (Nat.not_lt_zero _), fun j hj => absurd hj (Nat.not_lt_zero _), fun i j hij hj => absurd hj (Nat.not_lt_zero _)⟩
theorem GotF.own {w : World} {base g0 n : Nat} {fs : List PF} {xs vs : List Value} (h : GotF w base g0 n fs n xs vs) (hl : fs.length = n) : OwnF w base (.slice (some ⟨g0, 0, none⟩) n n) fs xs vs := by
  subst hl
  exact ⟨h.row, h.len, h.name, h.val, h.data, h.byte, h.apart⟩
theorem GotF.step {w w1 : World} {base g0 n : Nat} {fs : List PF} {k : Nat} {xs vs : List Value} {f : PF} {vb : Value} (h : GotF w base g0 n fs k xs vs) (hk : k < n) (hbase : base ≤ w.heap.size) (hb : Below w.heap.size w w1)
    (hvb : w1.ownsRow w.heap.size 5 1 vb f.2.length (u8s f.2)) (hf : f = fs.getD k (ByteArray.empty, [])) (hs : f.1.size ≤ maxLen) (hby : ∀ x ∈ f.2, 0 ≤ x ∧ x ≤ 255) :
    GotF ((w1.setCell ⟨g0, k * 2, none⟩ (.string f.1)).setCell ⟨g0, k * 2 + 1, none⟩ vb) base g0 n fs (k + 1) ((xs.set (k * 2) (.string f.1)).set (k * 2 + 1) vb) (vs ++ [vb]) := by
  have hrow1 := owns_below h.row hb
  have hxl := h.row.1
  have hvl := h.len
  have keep : ∀ {b : Nat} {u : Value} {m : Nat} {ys : List Value}, w1.ownsRow b 5 1 u m ys → ((w1.setCell ⟨g0, k * 2, none⟩ (.string f.1)).setCell ⟨g0, k * 2 + 1, none⟩ vb).ownsRow b 5 1 u m ys := by
    intro b u m ys hu
    have hne : ∀ g, u.ownBlock = some g → g0 ≠ g := fun g e e' => by
      rcases own_ne hrow1 hu with e2 | e2
      · rw [e] at e2; cases e2
      · rw [e] at e2; exact e2 (by simp [Value.ownBlock, e'])
    exact owns_setD (owns_setD hu (p := ⟨g0, k * 2, none⟩) (fun g e => hne g e) _) (p := ⟨g0, k * 2 + 1, none⟩) (fun g e => hne g e) _
  refine ⟨((hrow1.stored (k * 2) (.string f.1)).1.stored (k * 2 + 1) vb).1, by simp [hvl], fun j hj => ?_, fun j hj => ?_, fun j hj => ?_, fun j hj => ?_, fun i j hij hj g hg => ?_⟩
  · by_cases hjk : j = k
    · subst hjk
      rw [List.getElem?_set_ne (by omega), List.getElem?_set_self (by omega), ← hf]
      exact ⟨rfl, hs⟩
    · rw [List.getElem?_set_ne (by omega), List.getElem?_set_ne (by omega)]; exact h.name j (by omega)
  · by_cases hjk : j = k
    · subst hjk
      rw [List.getElem?_set_self (by simp; omega), ← hvl, getD_snoc_eq]
    · rw [List.getElem?_set_ne (by omega), List.getElem?_set_ne (by omega), getD_snoc_lt _ _ _ _ (by omega)]; exact h.val j (by omega)
  · by_cases hjk : j = k
    · subst hjk
      have hge : (vs ++ [vb]).getD j (.slice none 0 0) = vb := by rw [← hvl]; exact getD_snoc_eq _ _ _
      rw [← hf, hge]
      exact keep (own_lowerD hvb hbase)
    · rw [getD_snoc_lt _ _ _ _ (by omega)]; exact keep (owns_below (h.data j (by omega)) hb)
  · by_cases hjk : j = k
    · subst hjk; rw [← hf]; exact hby
    · exact h.byte j (by omega)
  · rw [getD_snoc_lt _ _ _ _ (by omega)] at hg
    by_cases hjk : j = k
    · subst hjk
      rw [← hvl, getD_snoc_eq]
      intro e
      have := (hvb.lt g e).1
      have := ((h.data i (by omega)).lt g hg).2
      omega
    · rw [getD_snoc_lt _ _ _ _ (by omega)]; exact h.apart i j hij (by omega) g hg
/-- What is read of k writes of a row that is being filled, each one's bytes in a row of its own. -/
structure GotP (w : World) (base g0 n : Nat) (fs : List PP) (k : Nat) (xs vs : List Value) : Prop where
  row : w.ownsRow base 73 3 (.slice (some ⟨g0, 0, none⟩) n n) n xs
  len : vs.length = k
  name : ∀ j, j < k → xs[j * 3]? = some (.string (fs.getD j (ByteArray.empty, 0, [])).1) ∧ (fs.getD j (ByteArray.empty, 0, [])).1.size ≤ maxLen
  page : ∀ j, j < k → xs[j * 3 + 1]? = some (.int .i64 (fs.getD j (ByteArray.empty, 0, [])).2.1) ∧ (-9223372036854775808 ≤ (fs.getD j (ByteArray.empty, 0, [])).2.1 ∧ (fs.getD j (ByteArray.empty, 0, [])).2.1 ≤ 9223372036854775807)
  val : ∀ j, j < k → xs[j * 3 + 2]? = some (vs.getD j (.slice none 0 0))
  data : ∀ j, j < k → w.ownsRow base 5 1 (vs.getD j (.slice none 0 0)) (fs.getD j (ByteArray.empty, 0, [])).2.2.length (u8s (fs.getD j (ByteArray.empty, 0, [])).2.2)
  byte : ∀ j, j < k → ∀ x ∈ (fs.getD j (ByteArray.empty, 0, [])).2.2, 0 ≤ x ∧ x ≤ 255
  apart : ∀ i j, i < j → j < k → ∀ g, (vs.getD i (.slice none 0 0)).ownBlock = some g → (vs.getD j (.slice none 0 0)).ownBlock ≠ some g
theorem GotP.start {w : World} {base g0 n : Nat} {fs : List PP} {xs : List Value} (h : w.ownsRow base 73 3 (.slice (some ⟨g0, 0, none⟩) n n) n xs) : GotP w base g0 n fs 0 xs [] :=
  ⟨h, rfl, fun j hj => absurd hj (Nat.not_lt_zero _), fun j hj => absurd hj (Nat.not_lt_zero _), fun j hj => absurd hj (Nat.not_lt_zero _), fun j hj => absurd hj (Nat.not_lt_zero _), fun j hj => absurd hj (Nat.not_lt_zero _), fun i j hij hj => absurd hj (Nat.not_lt_zero _)⟩
theorem GotP.own {w : World} {base g0 n : Nat} {fs : List PP} {xs vs : List Value} (h : GotP w base g0 n fs n xs vs) (hl : fs.length = n) : OwnP w base (.slice (some ⟨g0, 0, none⟩) n n) fs xs vs := by
  subst hl
  exact ⟨h.row, h.len, h.name, h.page, h.val, h.data, h.byte, h.apart⟩
theorem GotP.step {w w1 : World} {base g0 n : Nat} {fs : List PP} {k : Nat} {xs vs : List Value} {f : PP} {vb : Value} (h : GotP w base g0 n fs k xs vs) (hk : k < n) (hbase : base ≤ w.heap.size) (hb : Below w.heap.size w w1)
    (hvb : w1.ownsRow w.heap.size 5 1 vb f.2.2.length (u8s f.2.2)) (hf : f = fs.getD k (ByteArray.empty, 0, [])) (hs : f.1.size ≤ maxLen) (hpg : -9223372036854775808 ≤ f.2.1 ∧ f.2.1 ≤ 9223372036854775807) (hby : ∀ x ∈ f.2.2, 0 ≤ x ∧ x ≤ 255) :
    GotP (((w1.setCell ⟨g0, k * 3, none⟩ (.string f.1)).setCell ⟨g0, k * 3 + 1, none⟩ (.int .i64 f.2.1)).setCell ⟨g0, k * 3 + 2, none⟩ vb) base g0 n fs (k + 1) (((xs.set (k * 3) (.string f.1)).set (k * 3 + 1) (.int .i64 f.2.1)).set (k * 3 + 2) vb) (vs ++ [vb]) := by
  have hrow1 := owns_below h.row hb
  have hxl := h.row.1
  have hvl := h.len
  have keep : ∀ {b : Nat} {u : Value} {m : Nat} {ys : List Value}, w1.ownsRow b 5 1 u m ys → (((w1.setCell ⟨g0, k * 3, none⟩ (.string f.1)).setCell ⟨g0, k * 3 + 1, none⟩ (.int .i64 f.2.1)).setCell ⟨g0, k * 3 + 2, none⟩ vb).ownsRow b 5 1 u m ys := by
    intro b u m ys hu
    have hne : ∀ g, u.ownBlock = some g → g0 ≠ g := fun g e e' => by
      rcases own_ne2 (by decide) hrow1 hu with e2 | e2
      · rw [e] at e2; cases e2
      · rw [e] at e2; exact e2 (by simp [Value.ownBlock, e'])
    exact owns_setD (owns_setD (owns_setD hu (p := ⟨g0, k * 3, none⟩) (fun g e => hne g e) _) (p := ⟨g0, k * 3 + 1, none⟩) (fun g e => hne g e) _) (p := ⟨g0, k * 3 + 2, none⟩) (fun g e => hne g e) _
  refine ⟨(((hrow1.stored (k * 3) (.string f.1)).1.stored (k * 3 + 1) (.int .i64 f.2.1)).1.stored (k * 3 + 2) vb).1, by simp [hvl], fun j hj => ?_, fun j hj => ?_, fun j hj => ?_, fun j hj => ?_, fun j hj => ?_, fun i j hij hj g hg => ?_⟩
  · by_cases hjk : j = k
    · subst hjk
      rw [List.getElem?_set_ne (by omega), List.getElem?_set_ne (by omega), List.getElem?_set_self (by omega), ← hf]
      exact ⟨rfl, hs⟩
    · rw [List.getElem?_set_ne (by omega), List.getElem?_set_ne (by omega), List.getElem?_set_ne (by omega)]; exact h.name j (by omega)
  · by_cases hjk : j = k
    · subst hjk
      rw [List.getElem?_set_ne (by omega), List.getElem?_set_self (by simp; omega), ← hf]
      exact ⟨rfl, hpg⟩
    · rw [List.getElem?_set_ne (by omega), List.getElem?_set_ne (by omega), List.getElem?_set_ne (by omega)]; exact h.page j (by omega)
  · by_cases hjk : j = k
    · subst hjk
      rw [List.getElem?_set_self (by simp; omega), ← hvl, getD_snoc_eq]
    · rw [List.getElem?_set_ne (by omega), List.getElem?_set_ne (by omega), List.getElem?_set_ne (by omega), getD_snoc_lt _ _ _ _ (by omega)]; exact h.val j (by omega)
  · by_cases hjk : j = k
    · subst hjk
      have hge : (vs ++ [vb]).getD j (.slice none 0 0) = vb := by rw [← hvl]; exact getD_snoc_eq _ _ _
      rw [← hf, hge]
      exact keep (own_lowerD hvb hbase)
    · rw [getD_snoc_lt _ _ _ _ (by omega)]; exact keep (owns_below (h.data j (by omega)) hb)
  · by_cases hjk : j = k
    · subst hjk; rw [← hf]; exact hby
    · exact h.byte j (by omega)
  · rw [getD_snoc_lt _ _ _ _ (by omega)] at hg
    by_cases hjk : j = k
    · subst hjk
      rw [← hvl, getD_snoc_eq]
      intro e
      have := (hvb.lt g e).1
      have := ((h.data i (by omega)).lt g hg).2
      omega
    · rw [getD_snoc_lt _ _ _ _ (by omega)]; exact h.apart i j hij (by omega) g hg
theorem toByteS_ownC (a : Option Addr) (n c : Nat) (bs : List Int) (w : World) (A B : Nat) (hB : B ≤ w.heap.size) (h : BytesAt w A B a n c bs) (hn : n ≤ 1048576) :
    Calls Tryz.prog 48 #[.slice a n c] w fun e w' => ∃ g, e = .returned (.slice (some ⟨g, 0, none⟩) n n) ∧ w'.ownsRow w.heap.size 5 1 (.slice (some ⟨g, 0, none⟩) n n) n (u8s bs) ∧ Below w.heap.size w w' := by
  refine (toByteS_ownB a n c bs w A B hB h hn).mono ?_
  rintro e w' ⟨g, xs, hg, rfl, hO, hby, hb⟩
  refine ⟨g, rfl, ?_, hb⟩
  have hl := h.1
  have e : xs = u8s bs := by
    have hxl := hO.1
    apply List.ext_getElem?
    intro i
    by_cases hi : i < n
    · obtain ⟨b, off, e1, _, hc⟩ := hby.2.2.2.2.1 (by omega)
      cases e1
      have h1 := hc i hi
      rw [Nat.zero_add, hO.cellAt i (by omega)] at h1
      rw [h1]
      simp [u8s, List.getD, show i < bs.length by omega]
    · rw [List.getElem?_eq_none (by omega), List.getElem?_eq_none (by simp [u8s]; omega)]
  rw [← e]
  exact hO
set_option maxHeartbeats 400000 in
theorem toFile_own (s : ByteArray) (a : Option Addr) (n c : Nat) (bs : List Int) (w : World) (A B : Nat) (hB : B ≤ w.heap.size) (h : BytesAt w A B a n c bs) (hn : n ≤ 1048576) :
    Calls Tryz.prog 29 #[.agg #[.string s, .slice a n c]] w fun e w' => ∃ g, e = .returned (.agg #[.string s, .slice (some ⟨g, 0, none⟩) n n]) ∧ w'.ownsRow w.heap.size 5 1 (.slice (some ⟨g, 0, none⟩) n n) n (u8s bs) ∧ Below w.heap.size w w' := by
  go_enter Tryz.func29, Tryz.ntmps29
  go_wp2_with fail
  have hb0 : Below w.heap.size w (((w.alloc (.cells #[.string s, .slice a n c] 61)).alloc (.cells #[.string { data := #[] }, .slice none 0 0] 71)).alloc (.cells #[.string s, .slice none 0 0] 71)) := (((Below.refl _ _).alloc (Nat.le_refl _) _).alloc (by simp) _).alloc (by simp; omega) _
  refine (toByteS_ownC _ _ _ bs _ A B (by simp; omega) (h.below (hb0.mono hB)) hn).mono ?_
  rintro e w1 ⟨g, rfl, hO1, hb1⟩
  have hz := hb1.size
  simp at hz
  have hg := (hO1.lt g rfl).1
  simp at hg
  have hz1 : w.heap.size < w1.heap.size := by omega
  have hz2 : w.heap.size + 1 < w1.heap.size := by omega
  have hz3 : w.heap.size + 1 + 1 < w1.heap.size := by omega
  obtain ⟨hc1, hf1⟩ := bcell hb1
  have hb2 := hb0.trans (hb1.mono (by simp; omega))
  have hO2 := own_lowerD (b' := w.heap.size) hO1 (by simp; omega)
  have HO : Hid (w1.ownsRow w.heap.size 5 1 (.slice (some ⟨g, 0, none⟩) n n) n (u8s bs)) := hO2
  clear hb1 hb0 hO1 hO2
  go_wp2
  exact bodyPost_ret (v := .agg #[.string s, .slice (some ⟨g, 0, none⟩) n n]) (by simp [results, Tryz.results29, go_sem, hc1]) rfl ⟨g, rfl, by
    refine owns_setD (owns_setD (owns_setD HO.out (p := ⟨w.heap.size + 1 + 1, 1, none⟩) (fun k e => ?_) _) (p := ⟨w.heap.size + 1, 0, none⟩) (fun k e => ?_) _) (p := ⟨w.heap.size + 1, 1, none⟩) (fun k e => ?_) _ <;> (simp [Value.ownBlock] at e; simp; omega),
    ((hb2.setCell (by simp; omega) _).setCell (by simp) _).setCell (by simp) _⟩
set_option maxHeartbeats 400000 in
theorem toFileS_own (a : Option Addr) (n c : Nat) (fs : List PF) (w : World) (A B : Nat) (hB : B ≤ w.heap.size) (h : FilesAt w A B a n c fs) (hn : n ≤ 1048576) (hall : ∀ j, j < n → (fs.getD j (ByteArray.empty, [])).2.length ≤ 1048576) :
    Calls Tryz.prog 14 #[.slice a n c] w fun e w' => ∃ g xs vs, e = .returned (.slice (some ⟨g, 0, none⟩) n n) ∧ OwnF w' w.heap.size (.slice (some ⟨g, 0, none⟩) n n) fs xs vs ∧ Below w.heap.size w w' := by
  obtain ⟨hl, hnc, hc, hcell⟩ := h
  obtain ⟨i0, hi, hz0, hz1, hz2⟩ := info_parts info_File
  go_enter Tryz.func14, Tryz.ntmps14
  go_wp2_with (at_make; refine wpList_make_full _ rfl _ _ 32 rfl w.heap.size 71 i0 _ 2 Tryz.underlying32 hi hz0 hz1 .i64 .i64 n n n rfl rfl rfl rfl (by rw [hz2]; omega) (by unfold maxLen; omega) (Nat.le_refl _) ?_; intro w1 hown hgr)
  have hb1 : Below w.heap.size w w1 := (Below.refl _ _).grown hgr (Nat.le_refl _) (by simp)
  go_loopw [4] (fun i wr => ∃ k : Nat, k ≤ n ∧ i = .int .i64 k ∧ Below w.heap.size w wr ∧ ∃ xs vs, Hid (GotF wr w.heap.size w.heap.size n fs k xs vs)) (fun i _ => n - (intOf i).toNat)
  case atStart => exact ⟨0, Nat.zero_le _, rfl, hb1, _, [], GotF.start hown⟩
  case round =>
    clear hown hgr hb1
    obtain ⟨k, hk, rfl, hbel, xs, vs, HG⟩ := hrel
    by_cases hlt : k < n
    · obtain ⟨b, off, rfl, hb, hcb⟩ := hcell (by omega)
      have e1 := (hcb k hlt).below hb (hbel.mono hB)
      have e2 := hall k hlt
      clear hcell hcb hall
      obtain ⟨f, hf⟩ : ∃ f, f = fs.getD k (ByteArray.empty, []) := ⟨_, rfl⟩
      rw [← hf] at e1 e2
      have HF : Hid (f = fs.getD k (ByteArray.empty, [])) := hf
      clear hf
      obtain ⟨p1, p2, pa, pn, pc, p3, p4⟩ := e1
      have hs := hbel.size
      have hown : wr.ownsRow w.heap.size 71 2 (.slice (some ⟨w.heap.size, 0, none⟩) n n) n xs := HG.out.row
      have hlt0 := (hown.lt w.heap.size rfl).2
      go_wp2_with fail
      refine (toFile_own _ _ _ _ f.2 _ A B (by omega) p4 (by rw [← p4.1]; exact e2)).mono ?_
      rintro e w2 ⟨g, rfl, hO2, hb2⟩
      have hown2 := owns_below hown hb2
      have hbel2 := hbel.trans (hb2.mono hs)
      have hxl := hown2.1
      have HST : Hid (GotF _ _ _ _ _ _ _ _) := GotF.step HG.out hlt hs hb2 (f := f) (vb := .slice (some ⟨g, 0, none⟩) pn pn) (by rw [p4.1]; exact hO2) HF.out p2 p4.2.2.2.1
      have hbel3 := (hbel2.setCell (p := ⟨w.heap.size, k * 2, none⟩) (Nat.le_refl _) (.string f.1)).setCell (p := ⟨w.heap.size, k * 2 + 1, none⟩) (Nat.le_refl _) (.slice (some ⟨g, 0, none⟩) pn pn)
      have hf1 := hown2.frozenAt (k * 2)
      have hf2 := hown2.frozenAt (k * 2 + 1)
      obtain ⟨u, hu⟩ : ∃ u, w2.cell? ⟨w.heap.size, k * 2, none⟩ = some u := ⟨xs[k * 2]'(by omega), by rw [hown2.cellAt (k * 2) (by omega)]; exact List.getElem?_eq_getElem _⟩
      obtain ⟨u2, hu2⟩ : ∃ u, w2.cell? ⟨w.heap.size, k * 2 + 1, none⟩ = some u := ⟨xs[k * 2 + 1]'(by omega), by rw [hown2.cellAt (k * 2 + 1) (by omega)]; exact List.getElem?_eq_getElem _⟩
      clear hown hown2 hbel hbel2 hb2 hO2 HG
      go_wp2
      go_roundw
      case rel => exact ⟨k + 1, by omega, by go_num, hbel3, _, _, HST⟩
      case measure => simp [intOf]; omega
    · obtain rfl : k = n := by omega
      go_wp2
      go_ret
      exact ⟨w.heap.size, xs, vs, rfl, GotF.own HG.out hl, hbel⟩
set_option maxHeartbeats 400000 in
theorem toPend_own (s : ByteArray) (pg : Int) (a : Option Addr) (n c : Nat) (bs : List Int) (w : World) (A B : Nat) (hB : B ≤ w.heap.size) (h : BytesAt w A B a n c bs) (hn : n ≤ 1048576) :
    Calls Tryz.prog 30 #[.agg #[.string s, .int .i64 pg, .slice a n c]] w fun e w' => ∃ g, e = .returned (.agg #[.string s, .int .i64 pg, .slice (some ⟨g, 0, none⟩) n n]) ∧ w'.ownsRow w.heap.size 5 1 (.slice (some ⟨g, 0, none⟩) n n) n (u8s bs) ∧ Below w.heap.size w w' := by
  go_enter Tryz.func30, Tryz.ntmps30
  go_wp2_with fail
  have hb0 : Below w.heap.size w (((w.alloc (.cells #[.string s, .int .i64 pg, .slice a n c] 64)).alloc (.cells #[.string { data := #[] }, .int .i64 0, .slice none 0 0] 73)).alloc (.cells #[.string s, .int .i64 pg, .slice none 0 0] 73)) := (((Below.refl _ _).alloc (Nat.le_refl _) _).alloc (by simp) _).alloc (by simp; omega) _
  refine (toByteS_ownC _ _ _ bs _ A B (by simp; omega) (h.below (hb0.mono hB)) hn).mono ?_
  rintro e w1 ⟨g, rfl, hO1, hb1⟩
  have hz := hb1.size
  simp at hz
  have hg := (hO1.lt g rfl).1
  simp at hg
  have hz1 : w.heap.size < w1.heap.size := by omega
  have hz2 : w.heap.size + 1 < w1.heap.size := by omega
  have hz3 : w.heap.size + 1 + 1 < w1.heap.size := by omega
  obtain ⟨hc1, hf1⟩ := bcell hb1
  have hb2 := hb0.trans (hb1.mono (by simp; omega))
  have hO2 := own_lowerD (b' := w.heap.size) hO1 (by simp; omega)
  have HO : Hid (w1.ownsRow w.heap.size 5 1 (.slice (some ⟨g, 0, none⟩) n n) n (u8s bs)) := hO2
  clear hb1 hb0 hO1 hO2
  go_wp2
  exact bodyPost_ret (v := .agg #[.string s, .int .i64 pg, .slice (some ⟨g, 0, none⟩) n n]) (by simp [results, Tryz.results30, go_sem, hc1]) rfl ⟨g, rfl, by
    refine owns_setD (owns_setD (owns_setD (owns_setD HO.out (p := ⟨w.heap.size + 1 + 1, 2, none⟩) (fun k e => ?_) _) (p := ⟨w.heap.size + 1, 0, none⟩) (fun k e => ?_) _) (p := ⟨w.heap.size + 1, 1, none⟩) (fun k e => ?_) _) (p := ⟨w.heap.size + 1, 2, none⟩) (fun k e => ?_) _ <;> (simp [Value.ownBlock] at e; simp; omega),
    (((hb2.setCell (by simp; omega) _).setCell (by simp) _).setCell (by simp) _).setCell (by simp) _⟩
set_option maxHeartbeats 400000 in
theorem toPendS_own (a : Option Addr) (n c : Nat) (fs : List PP) (w : World) (A B : Nat) (hB : B ≤ w.heap.size) (h : PendsAt w A B a n c fs) (hn : n ≤ 1048576) (hall : ∀ j, j < n → (fs.getD j (ByteArray.empty, 0, [])).2.2.length ≤ 1048576) :
    Calls Tryz.prog 15 #[.slice a n c] w fun e w' => ∃ g xs vs, e = .returned (.slice (some ⟨g, 0, none⟩) n n) ∧ OwnP w' w.heap.size (.slice (some ⟨g, 0, none⟩) n n) fs xs vs ∧ Below w.heap.size w w' := by
  obtain ⟨hl, hnc, hc, hcell⟩ := h
  obtain ⟨i0, hi, hz0, hz1, hz2⟩ := info_parts info_Pend
  go_enter Tryz.func15, Tryz.ntmps15
  go_wp2_with (at_make; refine wpList_make_full _ rfl _ _ 33 rfl w.heap.size 73 i0 _ 3 Tryz.underlying33 hi hz0 hz1 .i64 .i64 n n n rfl rfl rfl rfl (by rw [hz2]; omega) (by unfold maxLen; omega) (Nat.le_refl _) ?_; intro w1 hown hgr)
  have hb1 : Below w.heap.size w w1 := (Below.refl _ _).grown hgr (Nat.le_refl _) (by simp)
  go_loopw [4] (fun i wr => ∃ k : Nat, k ≤ n ∧ i = .int .i64 k ∧ Below w.heap.size w wr ∧ ∃ xs vs, Hid (GotP wr w.heap.size w.heap.size n fs k xs vs)) (fun i _ => n - (intOf i).toNat)
  case atStart => exact ⟨0, Nat.zero_le _, rfl, hb1, _, [], GotP.start hown⟩
  case round =>
    clear hown hgr hb1
    obtain ⟨k, hk, rfl, hbel, xs, vs, HG⟩ := hrel
    by_cases hlt : k < n
    · obtain ⟨b, off, rfl, hb, hcb⟩ := hcell (by omega)
      have e1 := (hcb k hlt).below hb (hbel.mono hB)
      have e2 := hall k hlt
      clear hcell hcb hall
      obtain ⟨f, hf⟩ : ∃ f, f = fs.getD k (ByteArray.empty, 0, []) := ⟨_, rfl⟩
      rw [← hf] at e1 e2
      have HF : Hid (f = fs.getD k (ByteArray.empty, 0, [])) := hf
      clear hf
      obtain ⟨p1, p2, p5, p6, pa, pn, pc, p3, p4⟩ := e1
      have hs := hbel.size
      have hown : wr.ownsRow w.heap.size 73 3 (.slice (some ⟨w.heap.size, 0, none⟩) n n) n xs := HG.out.row
      have hlt0 := (hown.lt w.heap.size rfl).2
      go_wp2_with fail
      refine (toPend_own _ _ _ _ _ f.2.2 _ A B (by omega) p4 (by rw [← p4.1]; exact e2)).mono ?_
      rintro e w2 ⟨g, rfl, hO2, hb2⟩
      have hown2 := owns_below hown hb2
      have hbel2 := hbel.trans (hb2.mono hs)
      have hxl := hown2.1
      have HST : Hid (GotP _ _ _ _ _ _ _ _) := GotP.step HG.out hlt hs hb2 (f := f) (vb := .slice (some ⟨g, 0, none⟩) pn pn) (by rw [p4.1]; exact hO2) HF.out p2 p6 p4.2.2.2.1
      have hbel3 := ((hbel2.setCell (p := ⟨w.heap.size, k * 3, none⟩) (Nat.le_refl _) (.string f.1)).setCell (p := ⟨w.heap.size, k * 3 + 1, none⟩) (Nat.le_refl _) (.int .i64 f.2.1)).setCell (p := ⟨w.heap.size, k * 3 + 2, none⟩) (Nat.le_refl _) (.slice (some ⟨g, 0, none⟩) pn pn)
      have hf1 := hown2.frozenAt (k * 3)
      have hf2 := hown2.frozenAt (k * 3 + 1)
      have hf3 := hown2.frozenAt (k * 3 + 2)
      obtain ⟨u, hu⟩ : ∃ u, w2.cell? ⟨w.heap.size, k * 3, none⟩ = some u := ⟨xs[k * 3]'(by omega), by rw [hown2.cellAt (k * 3) (by omega)]; exact List.getElem?_eq_getElem _⟩
      obtain ⟨u2, hu2⟩ : ∃ u, w2.cell? ⟨w.heap.size, k * 3 + 1, none⟩ = some u := ⟨xs[k * 3 + 1]'(by omega), by rw [hown2.cellAt (k * 3 + 1) (by omega)]; exact List.getElem?_eq_getElem _⟩
      obtain ⟨u3, hu3⟩ : ∃ u, w2.cell? ⟨w.heap.size, k * 3 + 2, none⟩ = some u := ⟨xs[k * 3 + 2]'(by omega), by rw [hown2.cellAt (k * 3 + 2) (by omega)]; exact List.getElem?_eq_getElem _⟩
      clear hown hown2 hbel hbel2 hb2 hO2 HG
      go_wp2
      go_roundw
      case rel => exact ⟨k + 1, by omega, by go_num, hbel3, _, _, HST⟩
      case measure => simp [intOf]; omega
    · obtain rfl : k = n := by omega
      go_wp2
      go_ret
      exact ⟨w.heap.size, xs, vs, rfl, GotP.own HG.out hl, hbel⟩
end Go.Proofs.YtnpndbicmamggaaGreat
namespace Go.Proofs.YtnpndbicmamggaaGreat
open Go.RowKit
set_option linter.unusedVariables false
set_option maxRecDepth 100000

set_option maxHeartbeats 800000 in
theorem toDisk_own (a : Option Addr) (n c : Nat) (fs : List PF) (b : Option Addr) (m d : Nat) (ps : List PP) (cp fu : Int) (de : Bool) (w : World) (A B : Nat) (hB : B ≤ w.heap.size)
    (hF : FilesAt w A B a n c fs) (hP : PendsAt w A B b m d ps) (hn : n ≤ 1048576) (hm : m ≤ 1048576) (hall : ∀ j, j < n → (fs.getD j (ByteArray.empty, [])).2.length ≤ 1048576) (hall2 : ∀ j, j < m → (ps.getD j (ByteArray.empty, 0, [])).2.2.length ≤ 1048576) :
    Calls Tryz.prog 6 #[.agg #[.slice a n c, .slice b m d, .int .i64 cp, .int .i64 fu, .bool de]] w fun e w' => ∃ g h xs vs ys us, e = .returned (.agg #[.slice (some ⟨g, 0, none⟩) n n, .slice (some ⟨h, 0, none⟩) m m, .int .i64 cp, .int .i64 fu, .bool de]) ∧ OwnD w' w.heap.size (.slice (some ⟨g, 0, none⟩) n n) (.slice (some ⟨h, 0, none⟩) m m) fs ps xs vs ys us ∧ Below w.heap.size w w' := by
  go_enter Tryz.func6, Tryz.ntmps6
  go_wp2_with fail
  have hb0 : Below w.heap.size w (((w.alloc (.cells #[.slice a n c, .slice b m d, .int .i64 cp, .int .i64 fu, .bool de] 25)).alloc (.cells #[.slice none 0 0, .slice none 0 0, .int .i64 0, .int .i64 0, .bool false] 35)).alloc (.cells #[.slice none 0 0, .slice none 0 0, .int .i64 0, .int .i64 0, .bool false] 35)) := (((Below.refl _ _).alloc (Nat.le_refl _) _).alloc (by simp) _).alloc (by simp; omega) _
  refine (toFileS_own _ _ _ fs _ A B (by simp; omega) (hF.below (hb0.mono hB)) hn hall).mono ?_
  rintro e w1 ⟨g, xs, vs, rfl, hFg, hb1⟩
  have hz := hb1.size
  simp at hz
  have hz1 : w.heap.size < w1.heap.size := by omega
  have hz2 : w.heap.size + 1 < w1.heap.size := by omega
  have hz3 : w.heap.size + 1 + 1 < w1.heap.size := by omega
  obtain ⟨hc1, hf1⟩ := bcell hb1
  have hb2 := hb0.trans (hb1.mono (by simp; omega))
  have hFg3 : OwnF w1 (w.heap.size + 3) (.slice (some ⟨g, 0, none⟩) n n) fs xs vs := OwnF.lower hFg (by simp)
  clear hb0 hFg
  go_wp2_with fail
  have hset := fr_setCell w1 (w.heap.size + 1 + 1) 0 (.slice (some ⟨g, 0, none⟩) n n)
  have hb3 := hb2.setCell (p := ⟨w.heap.size + 1 + 1, 0, none⟩) (by simp; omega) (.slice (some ⟨g, 0, none⟩) n n)
  have hF2 := hFg3.fr hset (fun k hk e => by have := (hFg3.blk hk).1; omega)
  clear hFg3
  refine (toPendS_own _ _ _ ps _ A B (by simp; omega) (hP.below (hb3.mono hB)) hm hall2).mono ?_
  rintro e w2 ⟨h, ys, us, rfl, hPh, hb4⟩
  have hF3 := hF2.below hb4
  have hb5 := hb3.trans (hb4.mono (by simp; omega))
  have hy := hb4.size
  simp at hy
  have hPh3 : OwnP w2 w1.heap.size (.slice (some ⟨h, 0, none⟩) m m) ps ys us := OwnP.lower hPh (by simp)
  have hFlt : ∀ k, Blk (.slice (some ⟨g, 0, none⟩) n n) vs k → w.heap.size + 3 ≤ k ∧ k < w1.heap.size := fun k hk => by have := hF2.blk hk; simpa using this
  have hy1 : w.heap.size < w2.heap.size := by omega
  have hy2 : w.heap.size + 1 < w2.heap.size := by omega
  have hy3 : w.heap.size + 1 + 1 < w2.heap.size := by omega
  obtain ⟨hc2, hf2⟩ := bcell hb4
  have HF3 : Hid (OwnF w2 (w.heap.size + 3) (.slice (some ⟨g, 0, none⟩) n n) fs xs vs) := hF3
  have HP3 : Hid (OwnP w2 w1.heap.size (.slice (some ⟨h, 0, none⟩) m m) ps ys us) := hPh3
  have HLT : Hid (∀ k, Blk (.slice (some ⟨g, 0, none⟩) n n) vs k → w.heap.size + 3 ≤ k ∧ k < w1.heap.size) := hFlt
  clear hb3 hb2 hF2 hb1 hF3 hPh hPh3 hFlt hset
  have hfr : ∀ (W : World), Fr (fun k => w.heap.size < k ∧ k < w.heap.size + 3) w2 W → OwnD W w.heap.size (.slice (some ⟨g, 0, none⟩) n n) (.slice (some ⟨h, 0, none⟩) m m) fs ps xs vs ys us ∧ Below w.heap.size w W := fun W hW => by
    refine ⟨⟨OwnF.lower (HF3.out.fr hW (fun k hk e => by have := (HF3.out.blk hk).1; omega)) (by omega), OwnP.lower (HP3.out.fr hW (fun k hk e => by have := (HP3.out.blk hk).1; omega)) (by omega), fun k hk hk2 => ?_⟩, hb5.trans (hW.below (by omega) (fun k e => by omega))⟩
    have := HLT.out k hk
    have := (HP3.out.blk hk2).1
    omega
  have HFR : Hid (∀ (W : World), Fr (fun k => w.heap.size < k ∧ k < w.heap.size + 3) w2 W → OwnD W w.heap.size (.slice (some ⟨g, 0, none⟩) n n) (.slice (some ⟨h, 0, none⟩) m m) fs ps xs vs ys us ∧ Below w.heap.size w W) := hfr
  clear hfr HF3 HP3 HLT hb5
  go_wp2
  refine bodyPost_ret (v := .agg #[.slice (some ⟨g, 0, none⟩) n n, .slice (some ⟨h, 0, none⟩) m m, .int .i64 cp, .int .i64 fu, .bool de]) (by simp [results, Tryz.results6, go_sem, hc2, hc1, hz2]) rfl ?_
  refine ⟨g, h, xs, vs, ys, us, rfl, ?_⟩
  refine HFR.out _ ?_
  iterate 9 refine Fr.trans ?_ ((fr_setCell _ _ _ _).weak (fun k e => by omega))
  exact Fr.refl _ _
end Go.Proofs.YtnpndbicmamggaaGreat
namespace Go.Proofs.YtnpndbicmamggaaGreat
open Go.RowKit
set_option linter.unusedVariables false
set_option maxRecDepth 100000

/-- A disk's two lists in memory of one's own, all in the blocks from lo to hi. -/
structure OwnZ (w : World) (lo hi : Nat) (v u : Value) (fs : List PF) (ps : List PP) : Prop where
  ex : ∃ xs vs ys us, OwnD w lo v u fs ps xs vs ys us ∧ ∀ g, Blk v vs g ∨ Blk u us g → g < hi
theorem OwnZ.below {w w' : World} {lo hi : Nat} {v u : Value} {fs : List PF} {ps : List PP} (h : OwnZ w lo hi v u fs ps) (hb : Below w.heap.size w w') : OwnZ w' lo hi v u fs ps := by
  obtain ⟨xs, vs, ys, us, hO, hg⟩ := h.ex
  exact ⟨xs, vs, ys, us, hO.below hb, hg⟩
theorem OwnZ.fr {S : Nat → Prop} {w w' : World} {lo hi : Nat} {v u : Value} {fs : List PF} {ps : List PP} (h : OwnZ w lo hi v u fs ps) (hf : Fr S w w') (hS : ∀ g, S g → g < lo ∨ hi ≤ g) : OwnZ w' lo hi v u fs ps := by
  obtain ⟨xs, vs, ys, us, hO, hg⟩ := h.ex
  refine ⟨xs, vs, ys, us, hO.frS hf (fun g hs hb => ?_), hg⟩
  have h1 := hg g hb
  have h2 := (hO.blk hb).1
  have := hS g hs
  omega
theorem OwnZ.files {w : World} {lo hi : Nat} {a : Option Addr} {n c : Nat} {u : Value} {fs : List PF} {ps : List PP} (h : OwnZ w lo hi (.slice a n c) u fs ps) : FilesAt w lo w.heap.size a n c fs := by
  obtain ⟨xs, vs, ys, us, hO, hg⟩ := h.ex
  obtain ⟨a', n', c', e, _, hF⟩ := hO.files.files
  cases e
  exact hF
theorem OwnZ.pends {w : World} {lo hi : Nat} {b : Option Addr} {m d : Nat} {v : Value} {fs : List PF} {ps : List PP} (h : OwnZ w lo hi v (.slice b m d) fs ps) : PendsAt w lo w.heap.size b m d ps := by
  obtain ⟨xs, vs, ys, us, hO, hg⟩ := h.ex
  obtain ⟨a', n', c', e, _, hF⟩ := hO.cache.pends
  cases e
  exact hF
theorem OwnZ.up {w : World} {lo hi hi' : Nat} {v u : Value} {fs : List PF} {ps : List PP} (h : OwnZ w lo hi v u fs ps) (hh : hi ≤ hi') : OwnZ w lo hi' v u fs ps := by
  obtain ⟨xs, vs, ys, us, hO, hg⟩ := h.ex
  exact ⟨xs, vs, ys, us, hO, fun g e => Nat.lt_of_lt_of_le (hg g e) hh⟩
theorem ResAt.z {w w' : World} {e : Ending} {er cp fu : Int} {de : Bool} {fs : List PF} {ps : List PP} (h : ResAt w e w' er fs ps cp fu de) : ∃ (a : Option Addr) (c : Nat) (b : Option Addr) (d : Nat), e = .returned (.agg #[.int .i64 er, .slice a fs.length c, .slice b ps.length d, .int .i64 cp, .int .i64 fu, .bool de]) ∧ OwnZ w' w.heap.size w'.heap.size (.slice a fs.length c) (.slice b ps.length d) fs ps ∧ Below w.heap.size w w' := by
  obtain ⟨a, c, b, d, xs, vs, ys, us, e1, hO, hb⟩ := h.out
  exact ⟨a, c, b, d, e1, ⟨xs, vs, ys, us, hO, fun g hg => (hO.blk hg).2⟩, hb⟩
theorem toDisk_z (a : Option Addr) (n c : Nat) (fs : List PF) (b : Option Addr) (m d : Nat) (ps : List PP) (cp fu : Int) (de : Bool) (w : World) (A B : Nat) (hB : B ≤ w.heap.size)
    (hF : FilesAt w A B a n c fs) (hP : PendsAt w A B b m d ps) (hn : n ≤ 1048576) (hm : m ≤ 1048576) (hall : ∀ j, j < n → (fs.getD j (ByteArray.empty, [])).2.length ≤ 1048576) (hall2 : ∀ j, j < m → (ps.getD j (ByteArray.empty, 0, [])).2.2.length ≤ 1048576) :
    Calls Tryz.prog 6 #[.agg #[.slice a n c, .slice b m d, .int .i64 cp, .int .i64 fu, .bool de]] w fun e w' => ∃ g h, e = .returned (.agg #[.slice (some ⟨g, 0, none⟩) n n, .slice (some ⟨h, 0, none⟩) m m, .int .i64 cp, .int .i64 fu, .bool de]) ∧ OwnZ w' w.heap.size w'.heap.size (.slice (some ⟨g, 0, none⟩) n n) (.slice (some ⟨h, 0, none⟩) m m) fs ps ∧ Below w.heap.size w w' := by
  refine (toDisk_own a n c fs b m d ps cp fu de w A B hB hF hP hn hm hall hall2).mono ?_
  rintro e w' ⟨g, h, xs, vs, ys, us, rfl, hO, hb⟩
  exact ⟨g, h, rfl, ⟨xs, vs, ys, us, hO, fun g hg => (hO.blk hg).2⟩, hb⟩
theorem box_below {w w' : World} {N : Nat} {x : Obj} (h : w.heap[N]? = some x) (hb : Below w.heap.size w w') : w'.heap[N]? = some x := (hb.block N (Array.getElem?_eq_some_iff.1 h).1).trans h
theorem box_fr {S : Nat → Prop} {w w' : World} {N : Nat} {x : Obj} (h : w.heap[N]? = some x) (hf : Fr S w w') (hS : ¬ S N) : w'.heap[N]? = some x := (hf.block N (Array.getElem?_eq_some_iff.1 h).1 hS).trans h
theorem kF_bound (k : Nat) (fs : List PF) : (kF k fs : Int) ≤ k + fs.length + wFiles fs := by
  induction fs generalizing k with
  | nil => simp [kF, wFiles]
  | cons x r ih =>
    have := ih (k + 1 + x.2.length)
    simp only [kF, wFiles, wFile, List.length_cons]
    omega
theorem kP_bound (k : Nat) (ps : List PP) : (kP k ps : Int) ≤ k + 2 * ps.length + wPends ps := by
  induction ps generalizing k with
  | nil => simp [kP, wPends]
  | cons x r ih =>
    have := ih (k + 2 + x.2.2.length)
    simp only [kP, wPends, wPend, List.length_cons]
    omega
end Go.Proofs.YtnpndbicmamggaaGreat
