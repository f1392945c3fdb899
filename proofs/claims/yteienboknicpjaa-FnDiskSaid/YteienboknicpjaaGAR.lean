import Derived.Test.YteienboknicpjaaGAA
import Derived.Test.YteienboknicpjaaGAC
import Derived.Test.YteienboknicpjaaGAD
import Derived.Test.YteienboknicpjaaGAQ
namespace Go.Proofs.Yteienboknicpjaa
open Go.RowKit
set_option linter.unusedVariables false
set_option maxRecDepth 100000

set_option maxHeartbeats 800000 in
theorem l1DrawName_any (C A B : Nat) (w : World) (h : DCur w C A B) :
    Calls Try.prog 15 #[.pointer (some ⟨C, 0, none⟩)] w fun e w' => ∃ s : ByteArray, e = .returned (.string s) ∧ s.size ≤ 3 ∧ DCur w' C A B ∧ Fr (fun g => g = C) w w' := by
  have hCl := h.lt
  have hal : Below w.heap.size w (w.alloc (.cells #[.string ⟨#[97]⟩, .string ⟨#[100, 98]⟩, .string ⟨#[116, 109, 112]⟩, .string ⟨#[110, 101, 119]⟩, .string ⟨#[108, 111, 103]⟩, .string ⟨#[122, 122]⟩] 9)) := (Below.refl _ _).alloc (Nat.le_refl _) _
  have X := heap_alloc_new w (.cells #[.string ⟨#[97]⟩, .string ⟨#[100, 98]⟩, .string ⟨#[116, 109, 112]⟩, .string ⟨#[110, 101, 119]⟩, .string ⟨#[108, 111, 103]⟩, .string ⟨#[122, 122]⟩] 9)
  have hD := h.below hal
  clear h
  go_enter Try.func15, Try.ntmps15
  go_wp2_with fail
  refine (l1Below_any C A B _ hD 6 (by omega) (by omega)).mono ?_
  rintro e w1 ⟨x, rfl, hx, hD1, hF1⟩
  have X1 := (hF1.block w.heap.size (by simp) (by omega)).trans X
  have s1 := hF1.size
  simp at s1
  have F1 : Fr (fun g => g = C) w w1 := (Fr.of_below hal).trans hF1
  have l1 : w.heap.size < w1.heap.size := by omega
  have hc : ∃ s : ByteArray, w1.cell? ⟨w.heap.size, x, none⟩ = some (.string s) ∧ s.size ≤ 3 := by
    rcases (show x = 0 ∨ x = 1 ∨ x = 2 ∨ x = 3 ∨ x = 4 ∨ x = 5 by omega) with rfl | rfl | rfl | rfl | rfl | rfl
    · exact ⟨⟨#[97]⟩, by simp [World.cell?, X1], by decide⟩
    · exact ⟨⟨#[100, 98]⟩, by simp [World.cell?, X1], by decide⟩
    · exact ⟨⟨#[116, 109, 112]⟩, by simp [World.cell?, X1], by decide⟩
    · exact ⟨⟨#[110, 101, 119]⟩, by simp [World.cell?, X1], by decide⟩
    · exact ⟨⟨#[108, 111, 103]⟩, by simp [World.cell?, X1], by decide⟩
    · exact ⟨⟨#[122, 122]⟩, by simp [World.cell?, X1], by decide⟩
  obtain ⟨s, hs, hl⟩ := hc
  clear X X1 hal hD hF1
  go_wp2
  go_ret
  exact ⟨s, rfl, hl, hD1, F1⟩
theorem DCur.belowN {w w' : World} {C A B N : Nat} (h : DCur w C A B) (hb : Below N w w') (hN : C < N) : DCur w' C A B := by
  obtain ⟨h1, a, n, c, bs, i, hh, h2, h3, h4⟩ := h
  exact ⟨h1, a, n, c, bs, i, hh, (hb.block C hN).trans h2, h3, h4.below (hb.mono (by omega))⟩
theorem Fr.lateD {S T : Nat → Prop} {a b c : World} (h : Fr S a b) (k : Fr T b c) (hT : ∀ g, T g → a.heap.size ≤ g) : Fr S a c :=
  ⟨k.1.trans h.1, k.2.trans h.2, k.3.trans h.3, Nat.le_trans h.size k.size, fun g hg hS => (k.block g (Nat.lt_of_lt_of_le hg h.size) (fun e => by have := hT g e; omega)).trans (h.block g hg hS)⟩
/-- All are bytes. -/
def BytesV (ys : List Value) : Prop := ∀ v ∈ ys, ∃ b : Int, v = .int .u8 b ∧ 0 ≤ b ∧ b ≤ 255
theorem BytesV.list : ∀ {ys : List Value}, BytesV ys → ∃ bs : List Int, ys = u8s bs ∧ ∀ x ∈ bs, 0 ≤ x ∧ x ≤ 255
  | [], _ => ⟨[], rfl, fun x hx => by cases hx⟩
  | v :: r, h => by
    obtain ⟨b, rfl, hb⟩ := h v List.mem_cons_self
    obtain ⟨bs, rfl, hbs⟩ := BytesV.list (ys := r) (fun u hu => h u (List.mem_cons_of_mem _ hu))
    exact ⟨b :: bs, rfl, fun x hx => (List.mem_cons.1 hx).elim (fun e => e ▸ hb) (fun h2 => hbs x h2)⟩
theorem BytesV.set {ys : List Value} (h : BytesV ys) (i : Nat) {b : Int} (hb : 0 ≤ b ∧ b ≤ 255) : BytesV (ys.set i (.int .u8 b)) := by
  intro v hv
  rcases List.mem_or_eq_of_mem_set hv with h1 | h1
  · exact h v h1
  · exact ⟨b, h1, hb⟩
set_option maxHeartbeats 1600000 in
theorem l1DrawPage_any (C A B : Nat) (w : World) (h : DCur w C A B) :
    Calls Try.prog 17 #[.pointer (some ⟨C, 0, none⟩)] w fun e w' => ∃ (g : Nat) (bs : List Int), e = .returned (.slice (some ⟨g, 0, none⟩) 128 128) ∧ w'.ownsRow w.heap.size 5 1 (.slice (some ⟨g, 0, none⟩) 128 128) 128 (u8s bs) ∧ bs.length = 128 ∧ (∀ x ∈ bs, 0 ≤ x ∧ x ≤ 255) ∧ DCur w' C A B ∧ Fr (fun g => g = C) w w' := by
  obtain ⟨i0, hi, hz0, hz1, hz2⟩ := info_parts info_u8
  have hCl := h.lt
  go_enter Try.func17, Try.ntmps17
  go_wp2_with (at_make; refine wpList_make_full _ rfl _ _ 22 rfl w.heap.size 5 i0 (.int .u8 0) 1 Try.underlying22 hi hz0 hz1 .i64 .i64 128 128 128 rfl rfl rfl rfl (by rw [hz2]; omega) (by unfold maxLen; omega) (Nat.le_refl _) ?_; intro w1 hown hgr)
  have hb1 : Below w.heap.size w w1 := (Below.refl _ _).grown hgr (Nat.le_refl _) (by simp)
  have hD1 := h.below hb1
  have hmk : (madeCells (Value.int .u8 0).cells (128 * 1)).toList = List.replicate 128 (Value.int .u8 0) := by kernel_rfl
  rw [hmk] at hown
  have hV1 : BytesV (List.replicate 128 (Value.int .u8 0)) := fun v hv => ⟨0, List.eq_of_mem_replicate hv, by omega, by omega⟩
  have s1 := hb1.size
  refine (l1Below_any C A B w1 hD1 256 (by omega) (by omega)).mono ?_
  rintro e w2 ⟨x, rfl, hx, hD2, hF2⟩
  go_wp2_with fail
  refine (l1Below_any C A B w2 hD2 256 (by omega) (by omega)).mono ?_
  rintro e w3 ⟨y, rfl, hy, hD3, hF3⟩
  have hown3 : w3.ownsRow w.heap.size 5 1 (.slice (some ⟨w.heap.size, 0, none⟩) 128 128) 128 _ := owns_fr (owns_fr hown hF2 (fun g e e2 => by simp [Value.ownBlock] at e; omega)) hF3 (fun g e e2 => by simp [Value.ownBlock] at e; omega)
  have F3 : Fr (fun g => g = C) w w3 := ((Fr.of_below hb1).trans hF2).trans hF3
  have H0 : Hid (w3.ownsRow w.heap.size 5 1 (.slice (some ⟨w.heap.size, 0, none⟩) 128 128) 128 (List.replicate 128 (Value.int .u8 0)) ∧ BytesV (List.replicate 128 (Value.int .u8 0)) ∧ DCur w3 C A B ∧ Fr (fun g => g = C) w w3) := ⟨hown3, hV1, hD3, F3⟩
  clear hown hgr hb1 hD1 hD2 hF2 hF3 h hown3 hV1 hD3 F3 hmk
  go_wp2_with fail
  go_loopw [6, 14] (fun _ i wr => ∃ (k : Nat) (ys : List Value), k ≤ 128 ∧ i = .int .i64 k ∧ Hid (wr.ownsRow w.heap.size 5 1 (.slice (some ⟨w.heap.size, 0, none⟩) 128 128) 128 ys ∧ BytesV ys ∧ DCur wr C A B ∧ Fr (fun g => g = C) w wr)) (fun _ i _ => 128 - (intOf i).toNat)
  case atStart => exact ⟨0, _, by omega, rfl, H0⟩
  case round =>
    clear H0
    obtain ⟨k, ys, hk, rfl, HX⟩ := hrel
    by_cases hlt : k < 128
    · obtain ⟨hown, hV, hD, hF⟩ := HX.out
      have hf := hown.frozenAt k
      have hxl := hown.1
      obtain ⟨u, hu⟩ : ∃ u, wr.cell? ⟨w.heap.size, k, none⟩ = some u := ⟨ys[k]'(by omega), by rw [hown.cellAt k (by omega)]; exact List.getElem?_eq_getElem _⟩
      have hCl := hD.lt
      have HS : Hid (∀ b : Int, 0 ≤ b ∧ b ≤ 255 → (wr.setCell ⟨w.heap.size, k, none⟩ (.int .u8 b)).ownsRow w.heap.size 5 1 (.slice (some ⟨w.heap.size, 0, none⟩) 128 128) 128 (ys.set k (.int .u8 b)) ∧ BytesV (ys.set k (.int .u8 b)) ∧ DCur (wr.setCell ⟨w.heap.size, k, none⟩ (.int .u8 b)) C A B ∧ Fr (fun g => g = C) w (wr.setCell ⟨w.heap.size, k, none⟩ (.int .u8 b))) := fun b hb => by
        obtain ⟨R1, R2⟩ := hown.stored k (.int .u8 b)
        have hfr := fr_setCell wr w.heap.size k (.int .u8 b)
        exact ⟨R1, hV.set k hb, hD.belowN (hfr.below (B := w.heap.size) hF.size (fun g e => by omega)) (by omega), hF.lateD hfr (fun g e => by omega)⟩
      clear hown hV hD hF HX
      go_wp2
      go_roundw
      case rel => exact ⟨k + 1, _, by omega, by go_num, HS.out _ ⟨Int.emod_nonneg _ (by decide), by have := Int.emod_lt_of_pos ((x : Int) + (k : Int) % 3 * (y : Int)) (show (0 : Int) < 256 by decide); omega⟩⟩
      case measure => simp [intOf]; omega
    · obtain rfl : k = 128 := by omega
      obtain ⟨hown, hV, hD, hF⟩ := HX.out
      obtain ⟨bs, rfl, hbs⟩ := hV.list
      have hl : bs.length = 128 := by have := hown.1; simpa [u8s] using this
      have HH := HX
      clear hown hV hD hF HX
      go_wp2
      go_ret
      exact ⟨w.heap.size, bs, rfl, HH.out.1, hl, hbs, HH.out.2.2.1, HH.out.2.2.2⟩
end Go.Proofs.Yteienboknicpjaa
namespace Go.Proofs.Yteienboknicpjaa
open Go.RowKit
set_option linter.unusedVariables false
set_option maxRecDepth 100000

theorem owns_setD {w : World} {base e size : Nat} {v : Value} {n : Nat} {xs : List Value} (h : w.ownsRow base e size v n xs) {p : Addr} (hp : ∀ g, v.ownBlock = some g → p.block ≠ g) (u : Value) : (w.setCell p u).ownsRow base e size v n xs := by
  refine ⟨h.1, ?_⟩
  rcases h.2 with hn | ⟨g, cap, cur, rfl, hbg, hgg, rest⟩
  · exact .inl hn
  · exact .inr ⟨g, cap, cur, rfl, hbg, (Below.heap_setCell w p u g (fun e => hp g rfl e.symm)).trans hgg, rest⟩
/-- What is read of k files of a row that is being filled, each one's bytes in a row of its own. -/
structure GotF (w : World) (base g0 n : Nat) (fs : List PF) (k : Nat) (xs vs : List Value) : Prop where
  row : w.ownsRow base 75 2 (.slice (some ⟨g0, 0, none⟩) n n) n xs
  len : vs.length = k
  name : ∀ j, j < k → xs[j * 2]? = some (.string (fs.getD j (ByteArray.empty, [])).1) ∧ (fs.getD j (ByteArray.empty, [])).1.size ≤ maxLen
  val : ∀ j, j < k → xs[j * 2 + 1]? = some (vs.getD j (.slice none 0 0))
  data : ∀ j, j < k → w.ownsRow base 5 1 (vs.getD j (.slice none 0 0)) (fs.getD j (ByteArray.empty, [])).2.length (u8s (fs.getD j (ByteArray.empty, [])).2)
  byte : ∀ j, j < k → ∀ x ∈ (fs.getD j (ByteArray.empty, [])).2, 0 ≤ x ∧ x ≤ 255
  apart : ∀ i j, i < j → j < k → ∀ g, (vs.getD i (.slice none 0 0)).ownBlock = some g → (vs.getD j (.slice none 0 0)).ownBlock ≠ some g
theorem GotF.start {w : World} {base g0 n : Nat} {fs : List PF} {xs : List Value} (h : w.ownsRow base 75 2 (.slice (some ⟨g0, 0, none⟩) n n) n xs) : GotF w base g0 n fs 0 xs [] :=
  ⟨h, rfl, fun j hj => absurd hj (Nat.not_lt_zero _), fun j hj => absurd hj (Nat.not_lt_zero _), fun j hj => absurd hj (Nat.not_lt_zero _), fun j hj => absurd hj (Nat.not_lt_zero _), fun i j hij hj => absurd hj (Nat.not_lt_zero _)⟩
theorem GotF.own {w : World} {base g0 n : Nat} {fs : List PF} {xs vs : List Value} (h : GotF w base g0 n fs n xs vs) (hl : fs.length = n) : OwnF w base (.slice (some ⟨g0, 0, none⟩) n n) fs xs vs := by
  subst hl
  exact ⟨h.row, h.len, h.name, h.val, h.data, h.byte, h.apart⟩
theorem GotF.step {w w1 : World} {base g0 n : Nat} {fs : List PF} {k : Nat} {xs vs : List Value} {f : PF} {vb : Value} (h : GotF w base g0 n fs k xs vs) (hk : k < n) (hbase : base ≤ w.heap.size) (hb : Below w.heap.size w w1)
    (hvb : w1.ownsRow w.heap.size 5 1 vb f.2.length (u8s f.2)) (hf : f = fs.getD k (ByteArray.empty, [])) (hs : f.1.size ≤ maxLen) (hby : ∀ x ∈ f.2, 0 ≤ x ∧ x ≤ 255) :
    GotF ((w1.setCell ⟨g0, k * 2, none⟩ (.string f.1)).setCell ⟨g0, k * 2 + 1, none⟩ vb) base g0 n fs (k + 1) ((xs.set (k * 2) (.string f.1)).set (k * 2 + 1) vb) (vs ++ [vb]) := by
  have hrow1 := owns_below h.row hb
  have hxl := h.row.1
  have hvl := h.len
  have keep : ∀ {b : Nat} {u : Value} {m : Nat} {ys : List Value}, w1.ownsRow b 5 1 u m ys → ((w1.setCell ⟨g0, k * 2, none⟩ (.string f.1)).setCell ⟨g0, k * 2 + 1, none⟩ vb).ownsRow b 5 1 u m ys := by
    intro b u m ys hu
    have hne : ∀ g, u.ownBlock = some g → g0 ≠ g := fun g e e' => by
      rcases own_ne hrow1 hu with e2 | e2
      · rw [e] at e2; cases e2
      · rw [e] at e2; exact e2 (by simp [Value.ownBlock, e'])
    exact owns_setD (owns_setD hu (p := ⟨g0, k * 2, none⟩) (fun g e => hne g e) _) (p := ⟨g0, k * 2 + 1, none⟩) (fun g e => hne g e) _
  refine ⟨((hrow1.stored (k * 2) (.string f.1)).1.stored (k * 2 + 1) vb).1, by simp [hvl], fun j hj => ?_, fun j hj => ?_, fun j hj => ?_, fun j hj => ?_, fun i j hij hj g hg => ?_⟩
  · by_cases hjk : j = k
    · subst hjk
      rw [List.getElem?_set_ne (by omega), List.getElem?_set_self (by omega), ← hf]
      exact ⟨rfl, hs⟩
    · rw [List.getElem?_set_ne (by omega), List.getElem?_set_ne (by omega)]; exact h.name j (by omega)
  · by_cases hjk : j = k
    · subst hjk
      rw [List.getElem?_set_self (by simp; omega), ← hvl, getD_snoc_eq]
    · rw [List.getElem?_set_ne (by omega), List.getElem?_set_ne (by omega), getD_snoc_lt _ _ _ _ (by omega)]; exact h.val j (by omega)
  · by_cases hjk : j = k
    · subst hjk
      have hge : (vs ++ [vb]).getD j (.slice none 0 0) = vb := by rw [← hvl]; exact getD_snoc_eq _ _ _
      rw [← hf, hge]
      exact keep (own_lowerD hvb hbase)
    · rw [getD_snoc_lt _ _ _ _ (by omega)]; exact keep (owns_below (h.data j (by omega)) hb)
  · by_cases hjk : j = k
    · subst hjk; rw [← hf]; exact hby
    · exact h.byte j (by omega)
  · rw [getD_snoc_lt _ _ _ _ (by omega)] at hg
    by_cases hjk : j = k
    · subst hjk
      rw [← hvl, getD_snoc_eq]
      intro e
      have := (hvb.lt g e).1
      have := ((h.data i (by omega)).lt g hg).2
      omega
    · rw [getD_snoc_lt _ _ _ _ (by omega)]; exact h.apart i j hij (by omega) g hg
/-- What is read of k writes of a row that is being filled, each one's bytes in a row of its own. -/
structure GotP (w : World) (base g0 n : Nat) (fs : List PP) (k : Nat) (xs vs : List Value) : Prop where
  row : w.ownsRow base 54 3 (.slice (some ⟨g0, 0, none⟩) n n) n xs
  len : vs.length = k
  name : ∀ j, j < k → xs[j * 3]? = some (.string (fs.getD j (ByteArray.empty, 0, [])).1) ∧ (fs.getD j (ByteArray.empty, 0, [])).1.size ≤ maxLen
  page : ∀ j, j < k → xs[j * 3 + 1]? = some (.int .i64 (fs.getD j (ByteArray.empty, 0, [])).2.1) ∧ (-9223372036854775808 ≤ (fs.getD j (ByteArray.empty, 0, [])).2.1 ∧ (fs.getD j (ByteArray.empty, 0, [])).2.1 ≤ 9223372036854775807)
  val : ∀ j, j < k → xs[j * 3 + 2]? = some (vs.getD j (.slice none 0 0))
  data : ∀ j, j < k → w.ownsRow base 5 1 (vs.getD j (.slice none 0 0)) (fs.getD j (ByteArray.empty, 0, [])).2.2.length (u8s (fs.getD j (ByteArray.empty, 0, [])).2.2)
  byte : ∀ j, j < k → ∀ x ∈ (fs.getD j (ByteArray.empty, 0, [])).2.2, 0 ≤ x ∧ x ≤ 255
  apart : ∀ i j, i < j → j < k → ∀ g, (vs.getD i (.slice none 0 0)).ownBlock = some g → (vs.getD j (.slice none 0 0)).ownBlock ≠ some g
theorem GotP.start {w : World} {base g0 n : Nat} {fs : List PP} {xs : List Value} (h : w.ownsRow base 54 3 (.slice (some ⟨g0, 0, none⟩) n n) n xs) : GotP w base g0 n fs 0 xs [] :=
  ⟨h, rfl, fun j hj => absurd hj (Nat.not_lt_zero _), fun j hj => absurd hj (Nat.not_lt_zero _), fun j hj => absurd hj (Nat.not_lt_zero _), fun j hj => absurd hj (Nat.not_lt_zero _), fun j hj => absurd hj (Nat.not_lt_zero _), fun i j hij hj => absurd hj (Nat.not_lt_zero _)⟩
theorem GotP.own {w : World} {base g0 n : Nat} {fs : List PP} {xs vs : List Value} (h : GotP w base g0 n fs n xs vs) (hl : fs.length = n) : OwnP w base (.slice (some ⟨g0, 0, none⟩) n n) fs xs vs := by
  subst hl
  exact ⟨h.row, h.len, h.name, h.page, h.val, h.data, h.byte, h.apart⟩
theorem GotP.step {w w1 : World} {base g0 n : Nat} {fs : List PP} {k : Nat} {xs vs : List Value} {f : PP} {vb : Value} (h : GotP w base g0 n fs k xs vs) (hk : k < n) (hbase : base ≤ w.heap.size) (hb : Below w.heap.size w w1)
    (hvb : w1.ownsRow w.heap.size 5 1 vb f.2.2.length (u8s f.2.2)) (hf : f = fs.getD k (ByteArray.empty, 0, [])) (hs : f.1.size ≤ maxLen) (hpg : -9223372036854775808 ≤ f.2.1 ∧ f.2.1 ≤ 9223372036854775807) (hby : ∀ x ∈ f.2.2, 0 ≤ x ∧ x ≤ 255) :
    GotP (((w1.setCell ⟨g0, k * 3, none⟩ (.string f.1)).setCell ⟨g0, k * 3 + 1, none⟩ (.int .i64 f.2.1)).setCell ⟨g0, k * 3 + 2, none⟩ vb) base g0 n fs (k + 1) (((xs.set (k * 3) (.string f.1)).set (k * 3 + 1) (.int .i64 f.2.1)).set (k * 3 + 2) vb) (vs ++ [vb]) := by
  have hrow1 := owns_below h.row hb
  have hxl := h.row.1
  have hvl := h.len
  have keep : ∀ {b : Nat} {u : Value} {m : Nat} {ys : List Value}, w1.ownsRow b 5 1 u m ys → (((w1.setCell ⟨g0, k * 3, none⟩ (.string f.1)).setCell ⟨g0, k * 3 + 1, none⟩ (.int .i64 f.2.1)).setCell ⟨g0, k * 3 + 2, none⟩ vb).ownsRow b 5 1 u m ys := by
    intro b u m ys hu
    have hne : ∀ g, u.ownBlock = some g → g0 ≠ g := fun g e e' => by
      rcases own_ne2 (by decide) hrow1 hu with e2 | e2
      · rw [e] at e2; cases e2
      · rw [e] at e2; exact e2 (by simp [Value.ownBlock, e'])
    exact owns_setD (owns_setD (owns_setD hu (p := ⟨g0, k * 3, none⟩) (fun g e => hne g e) _) (p := ⟨g0, k * 3 + 1, none⟩) (fun g e => hne g e) _) (p := ⟨g0, k * 3 + 2, none⟩) (fun g e => hne g e) _
  refine ⟨(((hrow1.stored (k * 3) (.string f.1)).1.stored (k * 3 + 1) (.int .i64 f.2.1)).1.stored (k * 3 + 2) vb).1, by simp [hvl], fun j hj => ?_, fun j hj => ?_, fun j hj => ?_, fun j hj => ?_, fun j hj => ?_, fun i j hij hj g hg => ?_⟩
  · by_cases hjk : j = k
    · subst hjk
      rw [List.getElem?_set_ne (by omega), List.getElem?_set_ne (by omega), List.getElem?_set_self (by omega), ← hf]
      exact ⟨rfl, hs⟩
    · rw [List.getElem?_set_ne (by omega), List.getElem?_set_ne (by omega), List.getElem?_set_ne (by omega)]; exact h.name j (by omega)
  · by_cases hjk : j = k
    · subst hjk
      rw [List.getElem?_set_ne (by omega), List.getElem?_set_self (by simp; omega), ← hf]
      exact ⟨rfl, hpg⟩
    · rw [List.getElem?_set_ne (by omega), List.getElem?_set_ne (by omega), List.getElem?_set_ne (by omega)]; exact h.page j (by omega)
  · by_cases hjk : j = k
    · subst hjk
      rw [List.getElem?_set_self (by simp; omega), ← hvl, getD_snoc_eq]
    · rw [List.getElem?_set_ne (by omega), List.getElem?_set_ne (by omega), List.getElem?_set_ne (by omega), getD_snoc_lt _ _ _ _ (by omega)]; exact h.val j (by omega)
  · by_cases hjk : j = k
    · subst hjk
      have hge : (vs ++ [vb]).getD j (.slice none 0 0) = vb := by rw [← hvl]; exact getD_snoc_eq _ _ _
      rw [← hf, hge]
      exact keep (own_lowerD hvb hbase)
    · rw [getD_snoc_lt _ _ _ _ (by omega)]; exact keep (owns_below (h.data j (by omega)) hb)
  · by_cases hjk : j = k
    · subst hjk; rw [← hf]; exact hby
    · exact h.byte j (by omega)
  · rw [getD_snoc_lt _ _ _ _ (by omega)] at hg
    by_cases hjk : j = k
    · subst hjk
      rw [← hvl, getD_snoc_eq]
      intro e
      have := (hvb.lt g e).1
      have := ((h.data i (by omega)).lt g hg).2
      omega
    · rw [getD_snoc_lt _ _ _ _ (by omega)]; exact h.apart i j hij (by omega) g hg
end Go.Proofs.Yteienboknicpjaa
namespace Go.Proofs.Yteienboknicpjaa
open Go.RowKit
set_option linter.unusedVariables false
set_option maxRecDepth 100000

end Go.Proofs.Yteienboknicpjaa
