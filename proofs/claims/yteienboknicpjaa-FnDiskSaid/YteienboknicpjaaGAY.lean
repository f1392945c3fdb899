import Derived.Test.YteienboknicpjaaGAG
import Derived.Test.YteienboknicpjaaGAK
import Derived.Shelf.GgSortFunc.InsertionK
import Derived.Sort.Grow
import Derived.Sort.Walk0
import Derived.Deep.RegionHeld3
namespace Go.Proofs.Yteienboknicpjaa
open Go.RowKit
open Go.Sort (flatK size_flatK get_flatK putRowK HoldsK PermIn SortedIn putCells)
set_option linter.unusedVariables false
set_option maxRecDepth 100000

/-- A file as the sort sees it: its place, its name, its bytes' slice. -/
abbrev NV := Nat × ByteArray × Option Addr × Nat × Nat
def encV (x : NV) : List Value := [.string x.2.1, .slice x.2.2.1 x.2.2.2.1 x.2.2.2.2]
theorem fr_sortWorld {α : Type} [Inhabited α] (enc : α → List Value) (k : Nat) (w : World) (g off m : Nat) (d : Array α) (os : Array Obj) : Fr (fun x => x = g) w (sortWorldK enc k w g off m d os) := by
  refine ⟨rfl, rfl, rfl, ?_, fun x hx hn => ?_⟩
  · show w.heap.size ≤ ((w.heap.modify g _) ++ os).size
    simp
  · show ((w.heap.modify g _) ++ os)[x]? = _
    rw [Array.getElem?_append_left (by simpa using hx), Array.getElem?_modify, if_neg (fun e => hn e.symm)]
theorem heap_sortWorld {α : Type} [Inhabited α] (enc : α → List Value) (k : Nat) (w : World) (g m : Nat) (d : Array α) (os : Array Obj) {cur : Array Value} {e : TypeId} (h : w.heap[g]? = some (.cells cur e (0, 0))) : (sortWorldK enc k w g 0 m d os).heap[g]? = some (.cells (putCells id 0 (flatK enc k d) cur) e (0, 0)) := by
  show ((w.heap.modify g _) ++ os)[g]? = _
  have hg : g < w.heap.size := (Array.getElem?_eq_some_iff.1 h).1
  rw [Array.getElem?_append_left (by simpa using hg), Array.getElem?_modify, if_pos rfl, h]
  rfl
/-- The row that the sort leaves. -/
theorem own_sortWorld {w : World} {base g n c : Nat} {xs : List Value} (h : w.ownsRow base 75 2 (.slice (some ⟨g, 0, none⟩) n c) n xs) (d : Array NV) (hd : d.size = n) (m : Nat) (os : Array Obj) (ks : List Nat) (hk : ks.length = n) (he : ∀ j, j < n → encV d[j]! = cellsK xs (ks.getD j 0)) :
    (sortWorldK encV 2 w g 0 m d os).ownsRow base 75 2 (.slice (some ⟨g, 0, none⟩) n c) n (pickR xs ks) := by
  refine ⟨by rw [pickR_len, hk], .inr ?_⟩
  rcases h.2 with ⟨h', _⟩ | ⟨g', cap, cur, e1, h1, h2, h3, h4, h5, h6⟩
  · simp at h'
  · injection e1 with e1 e2 e3
    injection e1 with e1
    injection e1 with e1
    subst e1 e3
    refine ⟨g, c, _, rfl, h1, heap_sortWorld encV 2 w g m d os h2, h3, h4, by simp [putCells, h5], ?_⟩
    have hc2 : n * 2 ≤ c * 2 := Nat.mul_le_mul_right _ h3
    apply List.ext_getElem?
    intro t
    by_cases ht : t < n * 2
    · rw [List.getElem?_take_of_lt ht]
      have hg : (putCells id 0 (flatK encV 2 d) cur).toList[t]? = some ((flatK encV 2 d)[t]!) := by
        rw [Array.getElem?_toList, putCells, Array.getElem?_mapIdx, Array.getElem?_eq_getElem (show t < cur.size by omega)]
        simp only [Option.map_some, id_eq, Nat.zero_le, Nat.zero_add, true_and, Nat.sub_zero]
        rw [if_pos (by rw [size_flatK, hd]; exact ht)]
      rw [hg, get_flatK _ _ _ _ (by rw [hd]; exact ht), he (t / 2) (by omega)]
      have hp := pickR_get xs ks (t / 2) (by omega)
      rcases Nat.mod_two_eq_zero_or_one t with h0 | h0
      · rw [show t / 2 * 2 = t by omega] at hp
        rw [hp.1, h0]; rfl
      · rw [show t / 2 * 2 + 1 = t by omega] at hp
        rw [hp.2, h0]; rfl
    · rw [List.getElem?_eq_none (by rw [List.length_take]; omega), List.getElem?_eq_none (by rw [pickR_len, hk]; omega)]
/-- The row that the sort finds. -/
theorem holds_own {w : World} {base g n c : Nat} {xs : List Value} (h : w.ownsRow base 75 2 (.slice (some ⟨g, 0, none⟩) n c) n xs) (d : Array NV) (hd : d.size = n) (he : ∀ j, j < n → encV d[j]! = cellsK xs j) : HoldsK encV 2 w g 0 d := by
  intro t ht
  rw [size_flatK, hd] at ht
  rw [Nat.zero_add, get_flatK _ _ _ _ (by rw [hd]; exact ht), he (t / 2) (by omega)]
  refine ⟨?_, h.frozenAt t⟩
  have hl := h.1
  rw [h.cellAt t ht, List.getElem?_eq_getElem (by omega)]
  rcases Nat.mod_two_eq_zero_or_one t with h0 | h0
  · rw [h0]
    simp only [cellsK, show t / 2 * 2 = t by omega, List.getD, List.getElem?_eq_getElem (show t < xs.length by omega)]
    rfl
  · rw [h0]
    simp only [cellsK, show t / 2 * 2 + 1 = t by omega, List.getD, List.getElem?_eq_getElem (show t < xs.length by omega)]
    rfl
end Go.Proofs.Yteienboknicpjaa
namespace Go.Proofs.Yteienboknicpjaa
open Go.RowKit
set_option linter.unusedVariables false
set_option maxRecDepth 100000

/-- What cmp.Compare says of two names. -/
def cmpB (x y : ByteArray) : Int := if Op.bytesLess x.toList y.toList = true then -1 else if Op.bytesLess y.toList x.toList = true then 1 else 0
theorem cmpStr_any (x y : ByteArray) (W : World) : Calls Try.prog 64 #[.string x, .string y] W fun e w' => e = .returned (.int .i64 (cmpB x y)) ∧ w' = W := by
  have n1 : (x.toList == x.toList) = true := by simp
  have n2 : (y.toList == y.toList) = true := by simp
  cases h1 : Op.bytesLess x.toList y.toList with
  | true =>
    have H : Hid (cmpB x y = -1) := by show _ = _; simp [cmpB, h1]
    go_enter Try.func64, Try.ntmps64
    go_wp2
    go_ret
    exact ⟨by rw [H.out]; rfl, rfl⟩
  | false =>
    cases h2 : Op.bytesLess y.toList x.toList with
    | true =>
      have H : Hid (cmpB x y = 1) := by show _ = _; simp [cmpB, h1, h2]
      have h3 : (x.toList == y.toList) = false := by
        rw [bytesLess_eq] at h2
        have h2' := of_decide_eq_true h2
        rw [beq_eq_false_iff_ne]
        intro e; rw [e] at h2'; exact List.lt_irrefl _ h2'
      go_enter Try.func64, Try.ntmps64
      go_wp2
      go_ret
      exact ⟨by rw [H.out]; rfl, rfl⟩
    | false =>
      have H : Hid (cmpB x y = 0) := by show _ = _; simp [cmpB, h1, h2]
      have h3 : (x.toList == y.toList) = true := by
        rw [bytesLess_eq] at h1 h2
        have h1' := of_decide_eq_false h1
        have h2' := of_decide_eq_false h2
        rw [beq_iff_eq]
        exact List.le_antisymm (List.not_lt.1 h2') (List.not_lt.1 h1')
      go_enter Try.func64, Try.ntmps64
      go_wp2
      go_ret
      exact ⟨by rw [H.out]; rfl, rfl⟩
end Go.Proofs.Yteienboknicpjaa
namespace Go.Proofs.Yteienboknicpjaa
open Go.RowKit
set_option linter.unusedVariables false
set_option maxRecDepth 100000

/-- What cmp.Compare says of two numbers, and cmp.Or of two answers. -/
def cmpI (x y : Int) : Int := if x < y then -1 else if y < x then 1 else 0
def orI (x y : Int) : Int := if x = 0 then y else x
theorem cmpInt_any (x y : Int) (W : World) : Calls Try.prog 65 #[.int .i64 x, .int .i64 y] W fun e w' => e = .returned (.int .i64 (cmpI x y)) ∧ w' = W := by
  by_cases h1 : x < y
  · have H : Hid (cmpI x y = -1) := by show _ = _; unfold cmpI; rw [if_pos h1]
    go_enter Try.func65, Try.ntmps65
    go_wp2
    go_ret
    exact ⟨by rw [H.out]; rfl, rfl⟩
  · by_cases h2 : y < x
    · have H : Hid (cmpI x y = 1) := by show _ = _; unfold cmpI; rw [if_neg h1, if_pos h2]
      go_enter Try.func65, Try.ntmps65
      go_wp2
      go_ret
      exact ⟨by rw [H.out]; rfl, rfl⟩
    · have H : Hid (cmpI x y = 0) := by show _ = _; unfold cmpI; rw [if_neg h1, if_neg h2]
      go_enter Try.func65, Try.ntmps65
      go_wp2
      go_ret
      exact ⟨by rw [H.out]; rfl, rfl⟩
theorem cmpOr_any (g : Nat) (x y : Int) (W : World) (h0 : W.cell? ⟨g, 0, none⟩ = some (.int .i64 x)) (h1 : W.cell? ⟨g, 1, none⟩ = some (.int .i64 y)) : Calls Try.prog 63 #[.slice (some ⟨g, 0, none⟩) 2 2] W fun e w' => e = .returned (.int .i64 (orI x y)) ∧ w' = W := by
  go_enter Try.func63, Try.ntmps63
  go_wp2
  go_loopw [5, 8] (fun _ i wr => wr = W ∧ (i = .int .i64 0 ∨ (i = .int .i64 1 ∧ Hid (x = 0)) ∨ (i = .int .i64 2 ∧ Hid (x = 0 ∧ y = 0)))) (fun _ i _ => 2 - (intOf i).toNat)
  case atStart => exact ⟨rfl, .inl rfl⟩
  case round =>
    obtain ⟨rfl, rfl | ⟨rfl, hx⟩ | ⟨rfl, hxy⟩⟩ := hrel
    · by_cases hx : x = 0
      · have HX : Hid (x = 0) := hx
        have hb : (x != 0) = false := by simpa using hx
        clear hx
        go_wp2
        go_roundw
        case rel => exact ⟨by first | rfl | trivial, .inr (.inl ⟨by go_num, HX⟩)⟩
        case measure => simp [intOf]
      · have H : Hid (orI x y = x) := by show _ = _; unfold orI; rw [if_neg hx]
        have hb : (x != 0) = true := by simpa using hx
        clear hx
        go_wp2
        go_ret
        exact ⟨ret_int H.out.symm, rfl⟩
    · have H : Hid (orI x y = y) := by show _ = _; unfold orI; rw [if_pos hx.out]
      by_cases hy : y = 0
      · have HX : Hid (x = 0 ∧ y = 0) := ⟨hx.out, hy⟩
        have hb : (y != 0) = false := by simpa using hy
        clear hx hy
        go_wp2
        go_roundw
        case rel => exact ⟨by first | rfl | trivial, .inr (.inr ⟨by go_num, HX⟩)⟩
        case measure => simp [intOf]
      · have hb : (y != 0) = true := by simpa using hy
        clear hx hy
        go_wp2
        go_ret
        exact ⟨ret_int H.out.symm, rfl⟩
    · have H : Hid (orI x y = 0) := by show _ = _; unfold orI; rw [if_pos hxy.out.1]; exact hxy.out.2
      clear hxy
      go_wp2
      go_ret
      exact ⟨ret_int H.out.symm, rfl⟩
set_option maxHeartbeats 1600000 in
theorem comparePlaces_any (x y : ByteArray) (p q : Int) (W : World) : Calls Try.prog 55 #[.agg #[.string x, .int .i64 p], .agg #[.string y, .int .i64 q]] W fun e w' => e = .returned (.int .i64 (orI (cmpB x y) (cmpI p q))) ∧ ∃ m os', w' = Go.Sort.grow (W.drewN m) os' := by
  have hcon := fun W' => cmpStr_any x y W'
  have hcon2 := fun W' => cmpInt_any p q W'
  generalize cmpB x y = r at hcon ⊢
  generalize cmpI p q = s at hcon2 ⊢
  have k0 : ((W.alloc (.cells #[.string x, .int .i64 p] 72)).alloc (.cells #[.string y, .int .i64 q] 72)).heap[W.heap.size]? = some (.cells #[.string x, .int .i64 p] 72) := by rw [heap_alloc_old _ _ (by simp)]; exact heap_alloc_new _ _
  have k1 : ((W.alloc (.cells #[.string x, .int .i64 p] 72)).alloc (.cells #[.string y, .int .i64 q] 72)).heap[W.heap.size + 1]? = some (.cells #[.string y, .int .i64 q] 72) := by have := heap_alloc_new (W.alloc (.cells #[.string x, .int .i64 p] 72)) (.cells #[.string y, .int .i64 q] 72); simpa using this
  have hgw : ∃ os', ((W.alloc (.cells #[.string x, .int .i64 p] 72)).alloc (.cells #[.string y, .int .i64 q] 72)) = Go.Sort.grow (W.drewN 0) os' := ⟨_, by rw [Go.Sort.alloc_eq_grow, Go.Sort.alloc_eq_grow, Go.Sort.grow_grow]; rfl⟩
  go_enter Try.func55, Try.ntmps55
  go_wp2_with fail
  generalize ((W.alloc (.cells #[.string x, .int .i64 p] 72)).alloc (.cells #[.string y, .int .i64 q] 72)) = W0 at k0 k1 hgw ⊢
  obtain ⟨c0, c1⟩ := box_two2D k0
  obtain ⟨d0, d1⟩ := box_two2D k1
  go_region_held3 (fun w' => w'.cell? ⟨W.heap.size, 0, none⟩ = some (.string x) ∧ w'.cell? ⟨W.heap.size, 1, none⟩ = some (.int .i64 p) ∧ w'.cell? ⟨W.heap.size + 1, 0, none⟩ = some (.string y) ∧ w'.cell? ⟨W.heap.size + 1, 1, none⟩ = some (.int .i64 q)) (go_keep)
    (first | (go_at_call 63; refine (cmpOr_any _ r s _ (by simp) (by simp)).mono ?_; rintro e w5 ⟨rfl, rfl⟩) | (go_at_call 65; refine (hcon2 _).mono ?_; rintro e w4 ⟨rfl, rfl⟩) | (go_at_call 64; refine (hcon _).mono ?_; rintro e w3 ⟨rfl, rfl⟩))
  clear c0 c1 d0 d1 k0 k1
  have hfin : ∃ m os', (W0.alloc (.cells #[.int .i64 r, .int .i64 s] 3)).drew = Go.Sort.grow (W.drewN m) os' := by
    obtain ⟨os0, rfl⟩ := hgw
    exact ⟨1, _, by rw [Go.Sort.alloc_eq_grow, Go.Sort.grow_grow]; rfl⟩
  clear hgw
  go_wp2
  go_ret
  exact ⟨rfl, hfin⟩
end Go.Proofs.Yteienboknicpjaa
