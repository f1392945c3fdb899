import Derived.Test.YtakdaandbdbdnaaGAH
import Derived.Test.YtakdaandbdbdnaaGAJ
import Derived.Test.YtakdaandbdbdnaaGAK
import Derived.Test.YtakdaandbdbdnaaGAM
import Derived.Shelf.GgSortFunc.InsertionK
import Derived.Sort.Grow
import Derived.Sort.Walk0
import Derived.Deep.RegionHeld3
import Derived.RangeFuncNested
import Derived.RangeFuncBound
import Derived.RangeFuncCalls
import Derived.RangeFuncLeaves
import Derived.Sort.MapsRangeIn
import Derived.Sort.KeysCollected
import Derived.WalkKit
import Derived.OwnWalkIn
import Derived.TacticsInMore
import Derived.RegionIn
import Derived.LoopNIn
import Derived.LoopIn
import Derived.RangeFuncBox
import Derived.Maps.AppendAt
import Derived.Shelf.Abstract
import Derived.Shelf.RegionOpen
import Derived.Test.YtakdaandbdbdnaaLayQ
import Derived.Shelf.SlSortCmp.WholeK
import Derived.Shelf.SlSortCmp.NoneTotal
namespace Go.Proofs.Ytakdaandbdbdnaa
open Go.RowKit
open Go.Sort (flatK size_flatK get_flatK putRowK HoldsK PermIn SortedIn putCells)
set_option linter.unusedVariables false
set_option maxRecDepth 100000

/-- A file as the sort sees it: its place, its name, its bytes' slice. -/
abbrev NV := Nat × ByteArray × Option Addr × Nat × Nat
def encV (x : NV) : List Value := [.string x.2.1, .slice x.2.2.1 x.2.2.2.1 x.2.2.2.2]
theorem fr_sortWorld {α : Type} [Inhabited α] (enc : α → List Value) (k : Nat) (w : World) (g off m : Nat) (d : Array α) (os : Array Obj) : Fr (fun x => x = g) w (sortWorldK enc k w g off m d os) := by
  refine ⟨rfl, rfl, rfl, ?_, fun x hx hn => ?_⟩
  · show w.heap.size ≤ ((w.heap.modify g _) ++ os).size
    simp
  · show ((w.heap.modify g _) ++ os)[x]? = _
    rw [Array.getElem?_append_left (by simpa using hx), Array.getElem?_modify, if_neg (fun e => hn e.symm)]
theorem heap_sortWorld {α : Type} [Inhabited α] (enc : α → List Value) (k : Nat) (w : World) (g m : Nat) (d : Array α) (os : Array Obj) {cur : Array Value} {e : TypeId} (h : w.heap[g]? = some (.cells cur e (0, 0))) : (sortWorldK enc k w g 0 m d os).heap[g]? = some (.cells (putCells id 0 (flatK enc k d) cur) e (0, 0)) := by
  show ((w.heap.modify g _) ++ os)[g]? = _
  have hg : g < w.heap.size := (Array.getElem?_eq_some_iff.1 h).1
  rw [Array.getElem?_append_left (by simpa using hg), Array.getElem?_modify, if_pos rfl, h]
  rfl
/-- The row that the sort leaves. -/
theorem own_sortWorld {w : World} {base g n c : Nat} {xs : List Value} (h : w.ownsRow base 92 2 (.slice (some ⟨g, 0, none⟩) n c) n xs) (d : Array NV) (hd : d.size = n) (m : Nat) (os : Array Obj) (ks : List Nat) (hk : ks.length = n) (he : ∀ j, j < n → encV d[j]! = cellsK xs (ks.getD j 0)) :
    (sortWorldK encV 2 w g 0 m d os).ownsRow base 92 2 (.slice (some ⟨g, 0, none⟩) n c) n (pickR xs ks) := by
  refine ⟨by rw [pickR_len, hk], .inr ?_⟩
  rcases h.2 with ⟨h', _⟩ | ⟨g', cap, cur, e1, h1, h2, h3, h4, h5, h6⟩
  · simp at h'
  · injection e1 with e1 e2 e3
    injection e1 with e1
    injection e1 with e1
    subst e1 e3
    refine ⟨g, c, _, rfl, h1, heap_sortWorld encV 2 w g m d os h2, h3, h4, by simp [putCells, h5], ?_⟩
    have hc2 : n * 2 ≤ c * 2 := Nat.mul_le_mul_right _ h3
    apply List.ext_getElem?
    intro t
    by_cases ht : t < n * 2
    · rw [List.getElem?_take_of_lt ht]
      have hg : (putCells id 0 (flatK encV 2 d) cur).toList[t]? = some ((flatK encV 2 d)[t]!) := by
        rw [Array.getElem?_toList, putCells, Array.getElem?_mapIdx, Array.getElem?_eq_getElem (show t < cur.size by omega)]
        simp only [Option.map_some, id_eq, Nat.zero_le, Nat.zero_add, true_and, Nat.sub_zero]
        rw [if_pos (by rw [size_flatK, hd]; exact ht)]
      rw [hg, get_flatK _ _ _ _ (by rw [hd]; exact ht), he (t / 2) (by omega)]
      have hp := pickR_get xs ks (t / 2) (by omega)
      rcases Nat.mod_two_eq_zero_or_one t with h0 | h0
      · rw [show t / 2 * 2 = t by omega] at hp
        rw [hp.1, h0]; rfl
      · rw [show t / 2 * 2 + 1 = t by omega] at hp
        rw [hp.2, h0]; rfl
    · rw [List.getElem?_eq_none (by rw [List.length_take]; omega), List.getElem?_eq_none (by rw [pickR_len, hk]; omega)]
/-- The row that the sort finds. -/
theorem holds_own {w : World} {base g n c : Nat} {xs : List Value} (h : w.ownsRow base 92 2 (.slice (some ⟨g, 0, none⟩) n c) n xs) (d : Array NV) (hd : d.size = n) (he : ∀ j, j < n → encV d[j]! = cellsK xs j) : HoldsK encV 2 w g 0 d := by
  intro t ht
  rw [size_flatK, hd] at ht
  rw [Nat.zero_add, get_flatK _ _ _ _ (by rw [hd]; exact ht), he (t / 2) (by omega)]
  refine ⟨?_, h.frozenAt t⟩
  have hl := h.1
  rw [h.cellAt t ht, List.getElem?_eq_getElem (by omega)]
  rcases Nat.mod_two_eq_zero_or_one t with h0 | h0
  · rw [h0]
    simp only [cellsK, show t / 2 * 2 = t by omega, List.getD, List.getElem?_eq_getElem (show t < xs.length by omega)]
    rfl
  · rw [h0]
    simp only [cellsK, show t / 2 * 2 + 1 = t by omega, List.getD, List.getElem?_eq_getElem (show t < xs.length by omega)]
    rfl
end Go.Proofs.Ytakdaandbdbdnaa
namespace Go.Proofs.Ytakdaandbdbdnaa
open Go.RowKit
set_option linter.unusedVariables false
set_option maxRecDepth 100000

/-- What cmp.Compare says of two names. -/
def cmpB (x y : ByteArray) : Int := if Op.bytesLess x.toList y.toList = true then -1 else if Op.bytesLess y.toList x.toList = true then 1 else 0
theorem cmpStr_any (x y : ByteArray) (W : World) : Calls Try.prog 102 #[.string x, .string y] W fun e w' => e = .returned (.int .i64 (cmpB x y)) ∧ w' = W := by
  have n1 : (x.toList == x.toList) = true := by simp
  have n2 : (y.toList == y.toList) = true := by simp
  cases h1 : Op.bytesLess x.toList y.toList with
  | true =>
    have H : Hid (cmpB x y = -1) := by show _ = _; simp [cmpB, h1]
    go_enter Try.func102, Try.ntmps102
    go_wp2
    go_ret
    exact ⟨by rw [H.out]; rfl, rfl⟩
  | false =>
    cases h2 : Op.bytesLess y.toList x.toList with
    | true =>
      have H : Hid (cmpB x y = 1) := by show _ = _; simp [cmpB, h1, h2]
      have h3 : (x.toList == y.toList) = false := by
        rw [bytesLess_eq] at h2
        have h2' := of_decide_eq_true h2
        rw [beq_eq_false_iff_ne]
        intro e; rw [e] at h2'; exact List.lt_irrefl _ h2'
      go_enter Try.func102, Try.ntmps102
      go_wp2
      go_ret
      exact ⟨by rw [H.out]; rfl, rfl⟩
    | false =>
      have H : Hid (cmpB x y = 0) := by show _ = _; simp [cmpB, h1, h2]
      have h3 : (x.toList == y.toList) = true := by
        rw [bytesLess_eq] at h1 h2
        have h1' := of_decide_eq_false h1
        have h2' := of_decide_eq_false h2
        rw [beq_iff_eq]
        exact List.le_antisymm (List.not_lt.1 h2') (List.not_lt.1 h1')
      go_enter Try.func102, Try.ntmps102
      go_wp2
      go_ret
      exact ⟨by rw [H.out]; rfl, rfl⟩
end Go.Proofs.Ytakdaandbdbdnaa
namespace Go.Proofs.Ytakdaandbdbdnaa
open Go.RowKit
set_option linter.unusedVariables false
set_option maxRecDepth 100000

/-- What cmp.Compare says of two numbers, and cmp.Or of two answers. -/
def cmpI (x y : Int) : Int := if x < y then -1 else if y < x then 1 else 0
def orI (x y : Int) : Int := if x = 0 then y else x
theorem cmpInt_any (x y : Int) (W : World) : Calls Try.prog 103 #[.int .i64 x, .int .i64 y] W fun e w' => e = .returned (.int .i64 (cmpI x y)) ∧ w' = W := by
  by_cases h1 : x < y
  · have H : Hid (cmpI x y = -1) := by show _ = _; unfold cmpI; rw [if_pos h1]
    go_enter Try.func103, Try.ntmps103
    go_wp2
    go_ret
    exact ⟨by rw [H.out]; rfl, rfl⟩
  · by_cases h2 : y < x
    · have H : Hid (cmpI x y = 1) := by show _ = _; unfold cmpI; rw [if_neg h1, if_pos h2]
      go_enter Try.func103, Try.ntmps103
      go_wp2
      go_ret
      exact ⟨by rw [H.out]; rfl, rfl⟩
    · have H : Hid (cmpI x y = 0) := by show _ = _; unfold cmpI; rw [if_neg h1, if_neg h2]
      go_enter Try.func103, Try.ntmps103
      go_wp2
      go_ret
      exact ⟨by rw [H.out]; rfl, rfl⟩
theorem cmpOr_any (g : Nat) (x y : Int) (W : World) (h0 : W.cell? ⟨g, 0, none⟩ = some (.int .i64 x)) (h1 : W.cell? ⟨g, 1, none⟩ = some (.int .i64 y)) : Calls Try.prog 101 #[.slice (some ⟨g, 0, none⟩) 2 2] W fun e w' => e = .returned (.int .i64 (orI x y)) ∧ w' = W := by
  go_enter Try.func101, Try.ntmps101
  go_wp2
  go_loopw [5, 8] (fun _ i wr => wr = W ∧ (i = .int .i64 0 ∨ (i = .int .i64 1 ∧ Hid (x = 0)) ∨ (i = .int .i64 2 ∧ Hid (x = 0 ∧ y = 0)))) (fun _ i _ => 2 - (intOf i).toNat)
  case atStart => exact ⟨rfl, .inl rfl⟩
  case round =>
    obtain ⟨rfl, rfl | ⟨rfl, hx⟩ | ⟨rfl, hxy⟩⟩ := hrel
    · by_cases hx : x = 0
      · have HX : Hid (x = 0) := hx
        have hb : (x != 0) = false := by simpa using hx
        clear hx
        go_wp2
        go_roundw
        case rel => exact ⟨by first | rfl | trivial, .inr (.inl ⟨by go_num, HX⟩)⟩
        case measure => simp [intOf]
      · have H : Hid (orI x y = x) := by show _ = _; unfold orI; rw [if_neg hx]
        have hb : (x != 0) = true := by simpa using hx
        clear hx
        go_wp2
        go_ret
        exact ⟨ret_int H.out.symm, rfl⟩
    · have H : Hid (orI x y = y) := by show _ = _; unfold orI; rw [if_pos hx.out]
      by_cases hy : y = 0
      · have HX : Hid (x = 0 ∧ y = 0) := ⟨hx.out, hy⟩
        have hb : (y != 0) = false := by simpa using hy
        clear hx hy
        go_wp2
        go_roundw
        case rel => exact ⟨by first | rfl | trivial, .inr (.inr ⟨by go_num, HX⟩)⟩
        case measure => simp [intOf]
      · have hb : (y != 0) = true := by simpa using hy
        clear hx hy
        go_wp2
        go_ret
        exact ⟨ret_int H.out.symm, rfl⟩
    · have H : Hid (orI x y = 0) := by show _ = _; unfold orI; rw [if_pos hxy.out.1]; exact hxy.out.2
      clear hxy
      go_wp2
      go_ret
      exact ⟨ret_int H.out.symm, rfl⟩
set_option maxHeartbeats 1600000 in
theorem comparePlaces_any (x y : ByteArray) (p q : Int) (W : World) : Calls Try.prog 85 #[.agg #[.string x, .int .i64 p], .agg #[.string y, .int .i64 q]] W fun e w' => e = .returned (.int .i64 (orI (cmpB x y) (cmpI p q))) ∧ ∃ m os', w' = Go.Sort.grow (W.drewN m) os' := by
  have hcon := fun W' => cmpStr_any x y W'
  have hcon2 := fun W' => cmpInt_any p q W'
  generalize cmpB x y = r at hcon ⊢
  generalize cmpI p q = s at hcon2 ⊢
  have k0 : ((W.alloc (.cells #[.string x, .int .i64 p] 89)).alloc (.cells #[.string y, .int .i64 q] 89)).heap[W.heap.size]? = some (.cells #[.string x, .int .i64 p] 89) := by rw [heap_alloc_old _ _ (by simp)]; exact heap_alloc_new _ _
  have k1 : ((W.alloc (.cells #[.string x, .int .i64 p] 89)).alloc (.cells #[.string y, .int .i64 q] 89)).heap[W.heap.size + 1]? = some (.cells #[.string y, .int .i64 q] 89) := by have := heap_alloc_new (W.alloc (.cells #[.string x, .int .i64 p] 89)) (.cells #[.string y, .int .i64 q] 89); simpa using this
  have hgw : ∃ os', ((W.alloc (.cells #[.string x, .int .i64 p] 89)).alloc (.cells #[.string y, .int .i64 q] 89)) = Go.Sort.grow (W.drewN 0) os' := ⟨_, by rw [Go.Sort.alloc_eq_grow, Go.Sort.alloc_eq_grow, Go.Sort.grow_grow]; rfl⟩
  go_enter Try.func85, Try.ntmps85
  go_wp2_with fail
  generalize ((W.alloc (.cells #[.string x, .int .i64 p] 89)).alloc (.cells #[.string y, .int .i64 q] 89)) = W0 at k0 k1 hgw ⊢
  obtain ⟨c0, c1⟩ := box_two2D k0
  obtain ⟨d0, d1⟩ := box_two2D k1
  go_region_held3 (fun w' => w'.cell? ⟨W.heap.size, 0, none⟩ = some (.string x) ∧ w'.cell? ⟨W.heap.size, 1, none⟩ = some (.int .i64 p) ∧ w'.cell? ⟨W.heap.size + 1, 0, none⟩ = some (.string y) ∧ w'.cell? ⟨W.heap.size + 1, 1, none⟩ = some (.int .i64 q)) (go_keep)
    (first | (go_at_call 101; refine (cmpOr_any _ r s _ (by simp) (by simp)).mono ?_; rintro e w5 ⟨rfl, rfl⟩) | (go_at_call 103; refine (hcon2 _).mono ?_; rintro e w4 ⟨rfl, rfl⟩) | (go_at_call 102; refine (hcon _).mono ?_; rintro e w3 ⟨rfl, rfl⟩))
  clear c0 c1 d0 d1 k0 k1
  have hfin : ∃ m os', (W0.alloc (.cells #[.int .i64 r, .int .i64 s] 3)).drew = Go.Sort.grow (W.drewN m) os' := by
    obtain ⟨os0, rfl⟩ := hgw
    exact ⟨1, _, by rw [Go.Sort.alloc_eq_grow, Go.Sort.grow_grow]; rfl⟩
  clear hgw
  go_wp2
  go_ret
  exact ⟨rfl, hfin⟩
end Go.Proofs.Ytakdaandbdbdnaa
namespace Go.Proofs.Ytakdaandbdbdnaa
open Go.RowKit Go.Maps
set_option linter.unusedVariables false
set_option maxRecDepth 100000

/-- A place: a name and a page's number. -/
abbrev Pl := { p : ByteArray × Int // p.1.size ≤ maxLen ∧ (Lit.int .i64 p.2).wf = true }
def encPl (x : Pl) : Value := .agg #[.string x.1.1, .int .i64 x.1.2]
def litPl (x : Pl) : Lit := kPl x.1.1 x.1.2
theorem keyOf_encPl (x : Pl) : keyOf Try.prog 89 (encPl x) = some (litPl x) := keyOf_pl x.2.1 x.2.2
theorem litPl_inj {x y : Pl} (h : litPl x = litPl y) : x = y := by
  obtain ⟨h1, h2⟩ := kPl_inj x.2.1 x.2.2 y.2.1 y.2.2 h
  exact Subtype.ext (Prod.ext h1 h2)
theorem litPl_same (x y : Pl) : (litPl x).sameKey (litPl y) = decide (x = y) := by
  by_cases h : x = y
  · subst h; simp [litPl, kPl, Lit.sameKey]
  · have h2 : litPl x ≠ litPl y := fun e => h (litPl_inj e)
    rw [decide_eq_false h]
    simp only [litPl, kPl, Lit.sameKey, ne_eq, Lit.string.injEq] at h2 ⊢
    simpa using h2
theorem keyLitsS (d : Nat) (cs : List Value) (l : List Lit) (h : Try.prog.keyLits (d + 1) 9 cs = some l) : ∃ nm : ByteArray, cs = [.string nm] ∧ nm.size ≤ maxLen := by
  unfold Program.keyLits at h
  rw [Try.underlying9] at h
  split at h <;> simp_all
theorem keyLitsI (d : Nat) (cs : List Value) (l : List Lit) (h : Try.prog.keyLits (d + 1) 2 cs = some l) : ∃ pg : Int, cs = [.int .i64 pg] ∧ (Lit.int .i64 pg).wf = true := by
  unfold Program.keyLits at h
  rw [Try.underlying2] at h
  split at h <;> simp_all
theorem keyOf_plInv {key : Value} {kl : Lit} (h : keyOf Try.prog 89 key = some kl) : ∃ x : Pl, key = encPl x := by
  unfold keyOf at h
  rw [Try.underlying89] at h
  have h0 : 0 < Try.prog.types.size := Nat.lt_of_le_of_lt (Nat.zero_le _) rowPl
  have e : Try.prog.types.size + 1 = (Try.prog.types.size - 1) + 2 := by omega
  simp only [keyTypePl, Bool.true_and] at h
  split at h
  · rename_i hf
    cases key with
    | agg cs =>
      have hc : cs.size = 2 := by
        unfold Value.formed at hf
        rw [Try.underlying89] at hf
        simpa [cellsPl] using hf
      obtain ⟨u, v, rfl⟩ : ∃ u v, cs = #[u, v] := by
        obtain ⟨l⟩ := cs
        match l, hc with
        | [u, v], _ => exact ⟨u, v, rfl⟩
      rw [e] at h
      simp only [Value.cells] at h
      cases hk : Try.prog.keyLits (Try.prog.types.size - 1 + 2) 89 [u, v] with
      | none => rw [hk] at h; cases h
      | some ls =>
        rw [show Try.prog.types.size - 1 + 2 = (Try.prog.types.size - 1 + 1) + 1 by omega] at hk
        unfold Program.keyLits at hk
        rw [Try.underlying89] at hk
        simp [cellsPl, cellsOfS, cellsOfI] at hk
        rw [Option.bind_eq_some_iff] at hk
        obtain ⟨l1, h1, hk⟩ := hk
        simp only [Function.comp, Option.map_eq_some_iff, Option.bind_eq_some_iff] at hk
        obtain ⟨_, ⟨_, ⟨l2, h2, _⟩, _⟩, _⟩ := hk
        obtain ⟨nm, e1, hn⟩ := keyLitsS _ _ _ h1
        obtain ⟨pg, e2, hp⟩ := keyLitsI _ _ _ h2
        injection e1 with e1
        injection e2 with e2
        subst e1 e2
        exact ⟨⟨(nm, pg), hn, hp⟩, rfl⟩
    | _ => unfold Value.formed at hf; rw [Try.underlying89] at hf; cases hf
  · cases h
/-- No place twice; a place is on the list just where the map has it and it is no longer to come. -/
def CollP (D0 : DataW Unit) (left : Lit → Bool) (ss : List Pl) : Prop := ss.Nodup ∧ ∀ x, x ∈ ss ↔ (has D0 (litPl x) = true ∧ left (litPl x) = false)
theorem CollP.start (D0 : DataW Unit) : CollP D0 (has D0) [] := ⟨List.nodup_nil, fun x => by cases has D0 (litPl x) <;> simp⟩
theorem CollP.step {D0 : DataW Unit} {left : Lit → Bool} {ss : List Pl} (h : CollP D0 left ss) {x : Pl} {y : DataW Unit} (hlk : left (litPl x) = true) (hat : ∀ zd, D0.atKey (litPl x) zd = y) : CollP D0 (fun z => left z && !z.sameKey (litPl x)) (ss ++ [x]) := by
  have hhas : has D0 (litPl x) = true := has_true_of_atKey hat
  have hnew : x ∉ ss := fun hx => by have := ((h.2 x).1 hx).2; rw [hlk] at this; cases this
  refine ⟨List.nodup_append.2 ⟨h.1, by simp, fun a ha b hb => by simp at hb; subst hb; exact fun e => hnew (e ▸ ha)⟩, fun y => ?_⟩
  by_cases hy : y = x
  · subst hy; simp [hhas, litPl_same]
  · simp [h.2 y, hy, litPl_same]
/-- Just the places of a map, each once. -/
def KeysP (D0 : DataW Unit) (ss : List Pl) : Prop := ss.Nodup ∧ (∀ x, x ∈ ss ↔ has D0 (litPl x) = true) ∧ ss.length ≤ Maps.size D0
theorem CollP.done {D0 : DataW Unit} {left : Lit → Bool} {ss : List Pl} (h : CollP D0 left ss) (hl : ∀ kl, left kl = false) (hle : ss.length ≤ Maps.size D0) : KeysP D0 ss := ⟨h.1, fun x => by rw [h.2 x, hl]; simp, hle⟩
/-- A sheet's value as a letter. -/
abbrev Sh := { bs : List Int // bs.length = 128 ∧ ∀ x ∈ bs, 0 ≤ x ∧ x ≤ 255 }
def encSh (b : Sh) : Value := sheetV b.1
theorem sheetR_inv2 {v : Value} {y : DataW Unit × List MemPlace} (h : sheetR v = some y) : ∃ b : Sh, v = encSh b := by
  obtain ⟨bs, h1, h2, rfl, _⟩ := sheetR_inv h
  exact ⟨⟨bs, h1, h2⟩, rfl⟩

set_option maxHeartbeats 2000000 in
/-- The iterator of maps.Keys at a map of sheets: each place once, in some order. -/
theorem keysP1_in (F : Fence) (n : Nat) (hf : F.fn 100) (hro : F.round = none) (hn : 1 ≤ n) (l Bm b nn : Nat) (D0 : DataW Unit) (J Jx : List Pl → World → Prop)
    (hY : ∀ pre x W, J pre W → pre.length < Maps.size D0 → YieldAt F (n - 1) Try.prog l #[encPl x] W fun e W' => (e = .returned (.bool true) ∧ J (pre ++ [x]) W' ∧ KeepsWalks W W') ∨ (e = .returned (.bool false) ∧ Jx (pre ++ [x]) W'))
    (W : World) (hJ : AbidesFrom W.heap.size J) (hm : W.cell? ⟨Bm, 0, none⟩ = some (.map (some b))) (hown : MapS W b nn D0) (h0 : J [] W) :
    CallsIn F n Try.prog 100 #[.func (.yield l) #[] #[], .pointer (some ⟨Bm, 0, none⟩)] W fun e W' => (∃ v, e = .returned v) ∧ ((∃ ss : List Pl, KeysP D0 ss ∧ J ss W') ∨ ∃ pre : List Pl, True ∧ Jx pre W') := by
  refine callsIn_of_wp Try.func100 rfl hf ?_ hro
  simp only [Try.ntmps100, List.size_toArray, List.length_cons, List.length_nil, Nat.reduceAdd, Nat.reduceSub, Array.replicate_succ, Array.replicate_zero, List.push_toArray, List.append_toArray, List.nil_append, List.cons_append]
  gi_wp2_with (first
    | (gi_at_range; refine wpListIn_range_own _ rfl _ 80 rfl 89 86 lawPl Try.underlying80 _ b nn _ rfl hown ?_; intro w0 hrg0 hg0 hs0)
    | gi_in)
  go_frame
  gi_loopw [3] (fun _ wr => ∃ (left : Lit → Bool) (cnt : Nat) (ss : List Pl), wr.ranges Try.prog 89 sheetR b W.heap.size nn D0 left cnt ∧ ss.length + cnt ≤ Maps.size D0 ∧ CollP D0 left ss ∧ J ss wr)
    (fun _ wr => wr.rangeLeft b W.heap.size)
  case atStart =>
    exact ⟨_, _, [], hrg0, by simp, CollP.start D0, hJ [] W w0 none h0 hg0 (fun r e => by cases e)⟩
  case round =>
    obtain ⟨left, cnt, ss, hrg, hcs, hC, hJs⟩ := hrel
    gi_wp2_with (first
      | (gi_at_next; refine wpListIn_next_ranges _ rfl _ rfl 89 lawPl sheetR encPl encSh (fun key kl hk => keyOf_plInv hk) (fun v y hv => sheetR_inv2 hv) b W.heap.size nn _ _ _ rfl hrg ?_ ?_)
      | gi_in)
    · intro hc0 hl0
      gi_wp2
      go_end0
      exact ⟨⟨_, rfl⟩, .inl ⟨ss, hC.done hl0 (by omega), hJs⟩⟩
    · intro nm pg hx bs hbs kl yd yp w2 cnt2 hkey hlk hv hat hrg2 hlt hg2 hs2 hen
      rw [keyOf_encPl] at hkey
      injection hkey with hkey
      subst hkey
      have hJ2 : J ss w2 := hJ ss wr w2 (some W.heap.size) hJs hg2 (fun r e => by cases e; exact ⟨Nat.le_refl _, hrg.iter_walk⟩)
      have hJ3 : J ss (w2.alloc (.cells #[.string nm, .int .i64 pg] 89)) := hJ ss w2 _ none hJ2 (World.grownBy_alloc w2 _ none) (fun r e => by cases e)
      obtain ⟨fn, tmps, assign, body, hy, hR⟩ := hY ss ⟨(nm, pg), hx⟩ _ hJ3 (by omega)
      have hrg3 : (w2.alloc (.cells #[.string nm, .int .i64 pg] 89)).ranges Try.prog 89 sheetR b W.heap.size nn D0 (fun z => left z && !z.sameKey (litPl ⟨(nm, pg), hx⟩)) cnt2 := hrg2.of_walks (KeepsWalks.alloc _ _)
      have hC2 : CollP D0 (fun z => left z && !z.sameKey (litPl ⟨(nm, pg), hx⟩)) (ss ++ [⟨(nm, pg), hx⟩]) := hC.step hlk hat
      have hcs2 : (ss ++ [(⟨(nm, pg), hx⟩ : Pl)]).length + cnt2 ≤ Maps.size D0 := by rw [List.length_append, List.length_singleton]; omega
      clear hat hlk hC
      simp only [encPl, encSh, sheetV] at hy hen ⊢
      clear hs2
      gi_wp2
      refine hR.mono ?_
      rintro e W3 (⟨rfl, hJ4, hk4⟩ | ⟨rfl, hJx4⟩)
      · gi_wp2
        have hrg4 := hrg3.of_walks hk4
        go_roundw
        case rel => exact ⟨_, cnt2, _, hrg4, hcs2, hC2, hJ4⟩
        case measure => rw [hrg4.left_eq, hrg.left_eq]; exact hlt
      · gi_wp2
        refine bodyPost_ret (results_none rfl _ _ _) rfl ?_
        exact ⟨⟨_, rfl⟩, .inr ⟨_, trivial, hJx4⟩⟩
/-- maps.Keys hands back an iterator over a map's places. -/
theorem keysP_stops (F : Fence) (n : Nat) (hf : F.fn 100) (hro : F.round = none) (hn : 1 ≤ n) (Bm b nn : Nat) (D0 : DataW Unit) (w : World) (hBm : Bm < w.heap.size)
    (hm : w.cell? ⟨Bm, 0, none⟩ = some (.map (some b))) (hown : MapS w b nn D0) :
    SeqStopsK F n Try.prog 100 #[.pointer (some ⟨Bm, 0, none⟩)] (fun x => #[encPl x]) KeepsWalks (KeysP D0) (fun _ => True) (Maps.size D0) w := fun l J Jx W hW hJ hJx hY h0 =>
  keysP1_in F n hf hro hn l Bm b nn D0 J Jx hY W hJ ((hW.cell (p := ⟨Bm, 0, none⟩) hBm).trans hm) (hown.to (hW.block b (World.ownsMap.lt hown))) h0
set_option maxHeartbeats 1000000 in
theorem keysP_in (F : Fence) (n : Nat) (hf : F.fn 84) (hro : F.round = none) (mb : Option Nat) (w : World) :
    CallsIn F n Try.prog 84 #[.map mb] w fun e w' => e = .returned (.func (.func 100) #[] #[.pointer (some ⟨w.heap.size, 0, none⟩)]) ∧ w' = w.alloc (.cells #[.map mb] 80) := by
  refine callsIn_of_wp Try.func84 rfl hf ?_ hro
  simp only [Try.ntmps84, List.size_toArray, List.length_cons, List.length_nil, Nat.reduceAdd, Nat.reduceSub, Array.replicate_succ, Array.replicate_zero, List.push_toArray, List.append_toArray, List.nil_append, List.cons_append]
  gi_wp2
  go_ret
  exact ⟨rfl, rfl⟩
end Go.Proofs.Ytakdaandbdbdnaa
namespace Go.Proofs.Ytakdaandbdbdnaa
open Go.RowKit Go.Maps Go.Shelf
set_option linter.unusedVariables false
set_option maxRecDepth 100000
attribute [local go_sem] Oper.semAt_some

/-- The cells of places. -/
def plCells (ss : List Pl) : List Value := ss.flatMap fun x => [.string x.1.1, .int .i64 x.1.2]
theorem plCells_snoc (ss : List Pl) (x : Pl) : plCells (ss ++ [x]) = plCells ss ++ [.string x.1.1, .int .i64 x.1.2] := by simp [plCells]
theorem info_pl : (Try.prog.info? 89).map (fun i => (i.zero, i.size, i.bytes)) = some (some (.agg #[.string ⟨#[]⟩, .int .i64 0]), 2, 24) := by kernel_rfl
theorem pl_ne : (118 : Nat) ≠ 89 := by decide

set_option maxHeartbeats 2000000 in
/-- slices.AppendSeq(nil, seq) at places. -/
theorem appendSeqP_in (F : Fence) (n : Nat) (hf : F.fn 107) (hro : F.round = none) (hn : 3 ≤ n) (g : Nat) (lb : Array Value) (hFg : F.fn g) (eg : ∀ args w, (callFunc g args).run Try.prog w = .ok (.enter g args) w)
    (S : List Pl → Prop) (N : Nat) (hN : N ≤ maxLen) (hNb : N * 24 ≤ 140737488355328) (w : World) (hseq : SeqStopsK F (n - 1) Try.prog g lb (fun x => #[encPl x]) KeepsWalks S (fun _ => True) N w) :
    CallsIn F n Try.prog 107 #[.slice none 0 0, .func (.func g) #[] lb] w fun e w' => ∃ (v : Value) (ss : List Pl), e = .returned v ∧ S ss ∧ w'.ownsRow w.heap.size 89 2 v ss.length (plCells ss) ∧ Below w.heap.size w w' := by
  have h1 : 1 ≤ n := by omega
  obtain ⟨i0, hi, hz0, hz1, hz2⟩ := info_parts info_pl
  refine callsIn_of_wp_marks Try.func107 rfl hf ?_ hro
  simp only [Try.ntmps107, List.size_toArray, List.length_cons, List.length_nil, Nat.reduceAdd, Nat.reduceSub, Array.replicate_succ, Array.replicate_zero, List.push_toArray, List.append_toArray, List.nil_append, List.cons_append]
  gi_wp2
  have bS := Boxed.new w 118 (.slice none 0 0)
  have hB0 : Below w.heap.size w (w.alloc (.cells #[.slice none 0 0] 118)) := (Below.refl _ _).alloc (Nat.le_refl _) _
  have hsz : (w.alloc (.cells #[.slice none 0 0] 118)).heap.size = w.heap.size + 1 := by simp
  have hr0 := World.ownsRow_nil (w.alloc (.cells #[.slice none 0 0] 118)) w.heap.size 89 2
  obtain ⟨W0, hW0⟩ : ∃ W0, w.alloc (.cells #[.slice none 0 0] 118) = W0 := ⟨_, rfl⟩
  rw [hW0] at bS hB0 hsz hr0 ⊢
  clear hW0
  refine wpIn_rangeFunc_ownH hro h1 (gf := g) (lb := lb) rfl hFg eg hseq walksK_t (walksK_b (w := W0)) hB0 (fun _ => rfl)
    (fun pre W => (∃ v, Boxed W w.heap.size 118 v ∧ W.ownsRow w.heap.size 89 2 v pre.length (plCells pre) ∧ True) ∧ Below w.heap.size w W)
    (fun _ _ _ => False)
    (OwnFrom.and (Own.from (holdsRow_own w.heap.size w.heap.size 118 89 2 (fun (pre : List Pl) => pre.length) (fun pre => plCells pre) (fun _ _ => True)) _) (ownFrom_below (Nat.le_refl _) (by omega)))
    (fun _ _ _ _ _ hs _ _ => hs)
    ⟨⟨_, bS, hr0, trivial⟩, hB0⟩
    (fun x a' W => ∃ Bx, w.heap.size < Bx ∧ W.heap[Bx]? = some (.cells #[.string x.1.1, .int .i64 x.1.2] 89 (0, 0)) ∧ a' = { tmps := #[.slice none 0 0, .func (.func g) #[] lb, .pointer (some ⟨w.heap.size, 0, none⟩), undef, .slice none 0 0, .pointer (some ⟨Bx, 0, none⟩), .func (.func g) #[] lb, encPl x, undef, undef, undef, undef, undef], defers := [] })
    (fun x a' _ X Y row hs hg hr => by
      obtain ⟨Bx, h1, h2, h3⟩ := hs
      refine ⟨Bx, h1, (hg.block Bx (Array.getElem?_eq_some_iff.1 h2).1 (fun e => ?_)).trans h2, h3⟩
      obtain ⟨_, o, ho, hc⟩ := hr Bx e.symm
      rw [h2] at ho; cases ho; cases hc)
    ?assign ?body ?done ?stop
  case assign =>
    rintro l pre x W K ⟨⟨v, bV, hV, _⟩, hB1⟩ hK
    simp only [encPl]
    gi_wp2
    exact hK _ _ ((KeepsOthers.alloc _ _).from _) (KeepsOthers.alloc _ _).walks ⟨⟨v, bV.alloc _, hV.alloc _, trivial⟩, hB1.alloc hB1.size _⟩ ⟨W.heap.size, bV.lt, heap_alloc_new W _, rfl⟩
  case body =>
    rintro l pre x a' W hl ⟨r, hr⟩ ⟨⟨v, bV, hV, _⟩, hB1⟩ ⟨Bx, hBx, bX, rfl⟩ hlt
    have cV := bV.cell
    have hsW := hB1.size
    have hx0 : W.cell? ⟨Bx, 0, none⟩ = some (.string x.1.1) := by simp [World.cell?, bX]
    have hx1 : W.cell? ⟨Bx, 1, none⟩ = some (.int .i64 x.1.2) := by simp [World.cell?, bX]
    gi_wp2_with (gi_at_builtin; refine wpListIn_append_own _ rfl _ _ 118 rfl w.heap.size 89 i0 _ 2 24 Try.underlying118 hi hz0 hz1 hz2 rfl (by decide) _ _ _ rfl (hV.alloc _) ⟨W.heap.size, 0, none⟩ 1 1 [.string x.1.1, .int .i64 x.1.2] rfl rfl (cell_two_new _ _ _ _) (by simp [Value.oneCell']) (by omega) (by omega) (by simp; omega) ?_; intro v' w1 hown' hgrow _; obtain ⟨g', cap', rfl⟩ := ownsRow_succ hown'; obtain ⟨hv1, hv2, hr2, hk2, hb2⟩ := bV.appended pl_ne hV hB1.size (Nat.le_refl _) hown' hgrow; have hc1 := hv1.cell; have hf1 := hv1.frozen)
    exact ⟨hk2.from _, hk2.walks, ⟨_, hv2, by rw [plCells_snoc, List.length_append, List.length_singleton]; exact hr2, trivial⟩, hB1.trans hb2⟩
  case done =>
    rintro D xs W hD hS ⟨⟨v, bV, hV, _⟩, hB1⟩ hK
    have cV := bV.cell
    gi_wp2
    refine ⟨by simp, .inl ⟨_, _, rfl, run_takeDeferred hK, ?_⟩⟩
    exact ⟨_, results_tmp rfl _ _ _, v, xs, rfl, hS, ownsRow_putObj hV _ hK rfl, hB1.grown (grownBy_putObj' _ _ _) hB1.size (fun k e => by cases e; omega)⟩
  case stop =>
    rintro D c pre W _ _ h _
    exact h.elim
set_option maxHeartbeats 1000000 in
theorem collectP_in (F : Fence) (n : Nat) (hf : F.fn 98) (hf2 : F.fn 107) (hro : F.round = none) (hn : 4 ≤ n) (g : Nat) (lb : Array Value) (hFg : F.fn g) (eg : ∀ args w, (callFunc g args).run Try.prog w = .ok (.enter g args) w)
    (S : List Pl → Prop) (N : Nat) (hN : N ≤ maxLen) (hNb : N * 24 ≤ 140737488355328) (w : World) (hseq : SeqStopsK F (n - 1 - 1) Try.prog g lb (fun x => #[encPl x]) KeepsWalks S (fun _ => True) N w) :
    CallsIn F n Try.prog 98 #[.func (.func g) #[] lb] w fun e w' => ∃ (v : Value) (ss : List Pl), e = .returned v ∧ S ss ∧ w'.ownsRow w.heap.size 89 2 v ss.length (plCells ss) ∧ Below w.heap.size w w' := by
  have h1 : 1 ≤ n := by omega
  refine callsIn_of_wp Try.func98 rfl hf ?_ hro
  simp only [Try.ntmps98, List.size_toArray, List.length_cons, List.length_nil, Nat.reduceAdd, Nat.reduceSub, Array.replicate_succ, Array.replicate_zero, List.push_toArray, List.append_toArray, List.nil_append, List.cons_append]
  gi_wp2_with (gi_at_call 107; refine (appendSeqP_in F (n - 1) hf2 hro (by omega) g lb hFg eg S N hN hNb _ hseq).mono ?_; rintro e w' ⟨v, ss, rfl, hS, hrow, hb⟩)
  go_ret
  exact ⟨v, ss, rfl, hS, hrow, hb⟩
/-- slices.Collect over maps.Keys' value: the places of the map, each once. -/
theorem collectKeys (Bm b nn : Nat) (D0 : DataW Unit) (w : World) (hBm : Bm < w.heap.size) (hm : w.cell? ⟨Bm, 0, none⟩ = some (.map (some b))) (hown : MapS w b nn D0) (hsz : Maps.size D0 ≤ 1073741824) :
    Calls Try.prog 98 #[.func (.func 100) #[] #[.pointer (some ⟨Bm, 0, none⟩)]] w fun e w' => ∃ (v : Value) (ss : List Pl), e = .returned v ∧ KeysP D0 ss ∧ w'.ownsRow w.heap.size 89 2 v ss.length (plCells ss) ∧ Below w.heap.size w w' :=
  callsIn_wide.1 (collectP_in Fence.wide 4 trivial trivial rfl (Nat.le_refl _) _ _ trivial (enters_of Try.func100 (by kernel_rfl) rfl) (KeysP D0) (Maps.size D0) (by unfold maxLen; omega) (by omega) w (keysP_stops Fence.wide _ trivial rfl (by omega) Bm b nn D0 w hBm hm hown))
theorem keysCall (mb : Option Nat) (w : World) :
    Calls Try.prog 84 #[.map mb] w fun e w' => e = .returned (.func (.func 100) #[] #[.pointer (some ⟨w.heap.size, 0, none⟩)]) ∧ w' = w.alloc (.cells #[.map mb] 80) :=
  callsIn_wide.1 (keysP_in Fence.wide 4 trivial rfl mb w)
end Go.Proofs.Ytakdaandbdbdnaa
namespace Go.Proofs.Ytakdaandbdbdnaa
open Go.RowKit
open Go.Sort (flatK size_flatK get_flatK putRowK HoldsK PermIn SortedIn SWO putCells)
set_option linter.unusedVariables false
set_option maxRecDepth 100000

/-- A place as the sort sees it. -/
abbrev QV := ByteArray × Int
def encQ (x : QV) : List Value := [.string x.1, .int .i64 x.2]
def plC (C : List QV) : List Value := C.flatMap encQ
theorem plC_of (ss : List Pl) : plCells ss = plC (ss.map (·.1)) := by
  unfold plCells plC encQ
  rw [List.flatMap_map]
theorem plC_len (C : List QV) : (plC C).length = C.length * 2 := by
  induction C with
  | nil => rfl
  | cons x r ih => simp only [plC, List.flatMap_cons, List.length_append, encQ, List.length_cons, List.length_nil] at ih ⊢; omega
theorem plC_get (C : List QV) (j : Nat) (h : j < C.length) : (plC C)[j * 2]? = some (.string C[j].1) ∧ (plC C)[j * 2 + 1]? = some (.int .i64 C[j].2) := by
  induction C generalizing j with
  | nil => cases h
  | cons x r ih =>
    cases j with
    | zero => exact ⟨rfl, rfl⟩
    | succ j =>
      have hj : j < r.length := by simpa using h
      obtain ⟨h1, h2⟩ := ih j hj
      have e : plC (x :: r) = .string x.1 :: .int .i64 x.2 :: plC r := rfl
      rw [e]
      refine ⟨?_, ?_⟩
      · rw [show (j + 1) * 2 = j * 2 + 1 + 1 by omega, List.getElem?_cons_succ, List.getElem?_cons_succ, h1]; rfl
      · rw [show (j + 1) * 2 + 1 = (j * 2 + 1) + 1 + 1 by omega, List.getElem?_cons_succ, List.getElem?_cons_succ, h2]; rfl
/-- The order of places. -/
abbrev ltP (x y : QV) : Prop := x.1.toList < y.1.toList ∨ (x.1 = y.1 ∧ x.2 < y.2)
def cfQ (x y : QV) : Int := orI (cmpB x.1 y.1) (cmpI x.2 y.2)
theorem ltQ (x y : QV) : ltOf cfQ x y = decide (ltP x y) := by
  unfold ltOf cfQ orI cmpB cmpI ltP
  rw [bytesLess_eq, bytesLess_eq]
  by_cases h1 : x.1.toList < y.1.toList
  · simp [h1]
  · by_cases h2 : y.1.toList < x.1.toList
    · have h3 : ¬ x.1 = y.1 := fun e => by rw [e] at h2; exact List.lt_irrefl _ h2
      simp [h1, h2, h3]
    · have h3 : x.1 = y.1 := toList_inj (List.le_antisymm (List.not_lt.1 h2) (List.not_lt.1 h1))
      have h6 : ¬ y.1.toList < y.1.toList := List.lt_irrefl _
      by_cases h4 : x.2 < y.2
      · simp [h3, h4, h6]
      · by_cases h5 : y.2 < x.2 <;> simp [h3, h4, h5, h6]
theorem ltP_irrefl (x : QV) : ¬ ltP x x := fun h => by
  rcases h with h | ⟨_, h⟩
  · exact List.lt_irrefl _ h
  · omega
theorem ltP_trans {x y z : QV} (h1 : ltP x y) (h2 : ltP y z) : ltP x z := by
  rcases h1 with h1 | ⟨e1, h1⟩ <;> rcases h2 with h2 | ⟨e2, h2⟩
  · exact .inl (List.lt_trans h1 h2)
  · exact .inl (by rw [← e2]; exact h1)
  · exact .inl (by rw [e1]; exact h2)
  · exact .inr ⟨e1.trans e2, by omega⟩
theorem ltP_total {x y : QV} (h1 : ¬ ltP x y) (h2 : ¬ ltP y x) : x = y := by
  have a1 : ¬ x.1.toList < y.1.toList := fun h => h1 (.inl h)
  have a2 : ¬ y.1.toList < x.1.toList := fun h => h2 (.inl h)
  have a3 : x.1 = y.1 := toList_inj (List.le_antisymm (List.not_lt.1 a2) (List.not_lt.1 a1))
  have a4 : ¬ x.2 < y.2 := fun h => h1 (.inr ⟨a3, h⟩)
  have a5 : ¬ y.2 < x.2 := fun h => h2 (.inr ⟨a3.symm, h⟩)
  exact Prod.ext a3 (by omega)
theorem swoQ : SWO (ltOf cfQ) where
  irrefl x := by rw [ltQ]; exact decide_eq_false (ltP_irrefl x)
  trans x y z h1 h2 := by
    rw [ltQ] at *
    exact decide_eq_true (ltP_trans (of_decide_eq_true h1) (of_decide_eq_true h2))
  ntrans x y z h1 h2 := by
    rw [ltQ] at *
    have h1' := of_decide_eq_false h1
    have h2' := of_decide_eq_false h2
    refine decide_eq_false fun h => ?_
    by_cases h3 : ltP y x
    · exact h2' (ltP_trans h3 h)
    · have := ltP_total h1' h3
      subst this
      exact h2' h
theorem cmpLaysQ (blk off size : Nat) (w : World) : CmpLays Try.prog 85 #[] encQ 2 cfQ blk off size w :=
  fun _ _ _ _ x y => comparePlaces_any x.1 y.1 x.2 y.2 _
theorem own_sortQ {w : World} {base g n c : Nat} {xs : List Value} (h : w.ownsRow base 89 2 (.slice (some ⟨g, 0, none⟩) n c) n xs) (d : Array QV) (hd : d.size = n) (m : Nat) (os : Array Obj) :
    (sortWorldK encQ 2 w g 0 m d os).ownsRow base 89 2 (.slice (some ⟨g, 0, none⟩) n c) n (plC d.toList) := by
  have hdl : d.toList.length = n := by simpa using hd
  refine ⟨by rw [plC_len, hdl], .inr ?_⟩
  rcases h.2 with ⟨h', _⟩ | ⟨g', cap, cur, e1, h1, h2, h3, h4, h5, h6⟩
  · simp at h'
  · injection e1 with e1 e2 e3
    injection e1 with e1
    injection e1 with e1
    subst e1 e3
    refine ⟨g, c, _, rfl, h1, heap_sortWorld encQ 2 w g m d os h2, h3, h4, by simp [putCells, h5], ?_⟩
    have hc2 : n * 2 ≤ c * 2 := Nat.mul_le_mul_right _ h3
    apply List.ext_getElem?
    intro t
    by_cases ht : t < n * 2
    · rw [List.getElem?_take_of_lt ht]
      have hg : (putCells id 0 (flatK encQ 2 d) cur).toList[t]? = some ((flatK encQ 2 d)[t]!) := by
        rw [Array.getElem?_toList, putCells, Array.getElem?_mapIdx, Array.getElem?_eq_getElem (show t < cur.size by omega)]
        simp only [Option.map_some, id_eq, Nat.zero_le, Nat.zero_add, true_and, Nat.sub_zero]
        rw [if_pos (by rw [size_flatK, hd]; exact ht)]
      have hj : t / 2 < d.size := by omega
      rw [hg, get_flatK _ _ _ _ (by rw [hd]; exact ht), getElem!_pos d (t / 2) hj]
      have hp := plC_get d.toList (t / 2) (by simpa using hj)
      rcases Nat.mod_two_eq_zero_or_one t with h0 | h0
      · rw [show t / 2 * 2 = t by omega] at hp
        rw [hp.1, h0]; simp [encQ]
      · rw [show t / 2 * 2 + 1 = t by omega] at hp
        rw [hp.2, h0]; simp [encQ]
    · rw [List.getElem?_eq_none (by rw [List.length_take]; omega), List.getElem?_eq_none (by rw [plC_len, hdl]; omega)]
theorem holds_ownQ {w : World} {base g n c : Nat} (d : Array QV) (hd : d.size = n) (h : w.ownsRow base 89 2 (.slice (some ⟨g, 0, none⟩) n c) n (plC d.toList)) : HoldsK encQ 2 w g 0 d := by
  intro t ht
  rw [size_flatK, hd] at ht
  have hj : t / 2 < d.size := by omega
  rw [Nat.zero_add, get_flatK _ _ _ _ (by rw [hd]; exact ht), getElem!_pos d (t / 2) hj]
  refine ⟨?_, h.frozenAt t⟩
  rw [h.cellAt t ht]
  have hp := plC_get d.toList (t / 2) (by simpa using hj)
  rcases Nat.mod_two_eq_zero_or_one t with h0 | h0
  · rw [show t / 2 * 2 = t by omega] at hp
    rw [hp.1, h0]; simp [encQ]
  · rw [show t / 2 * 2 + 1 = t by omega] at hp
    rw [hp.2, h0]; simp [encQ]
set_option maxHeartbeats 1000000 in
theorem sortPlaces_own (g n c : Nat) (C0 : List QV) (base : Nat) (w : World) (hl : C0.length = n) (h : w.ownsRow base 89 2 (.slice (some ⟨g, 0, none⟩) n c) n (plC C0)) (hn : n ≤ 1073741824) :
    Calls Try.prog 99 #[.slice (some ⟨g, 0, none⟩) n c, .func (.func 85) #[] #[]] w fun e w' => e = .returned (.tuple #[]) ∧ ∃ (C : List QV), C.Perm C0 ∧ (∀ i j (hij : i < j) (hj : j < C.length), ¬ ltP (C[j]'hj) (C[i]'(Nat.lt_trans hij hj))) ∧ w'.ownsRow base 89 2 (.slice (some ⟨g, 0, none⟩) n c) n (plC C) ∧ Fr (fun x => x = g) w w' := by
  subst hl
  have hgl : g < w.heap.size := (h.lt g rfl).2
  have hH : HoldsK encQ 2 w g 0 C0.toArray := holds_ownQ (n := C0.length) C0.toArray (by simp) (by simpa using h)
  have eg : ∀ args w, (callFunc 85 args).run Try.prog w = .ok (.enter 85 args) w := enters_of Try.func85 (by kernel_rfl) rfl
  have hcon := AnyQ.slices_SortFunc lay_sortPlaces 2 Try.isAgg89 Try.sizeOf89 encQ (fun _ => rfl) (fun x v hv => by simp [encQ] at hv; rcases hv with rfl | rfl <;> rfl) cfQ swoQ 85 #[] g 0 c C0.toArray w eg (cmpLaysQ g 0 _ w) hH hgl (by simp; omega)
  change Calls Try.prog 99 _ _ _ at hcon
  rw [show C0.toArray.size = C0.length by simp] at hcon
  refine hcon.mono ?_
  rintro e w' ⟨rfl, d', m, os, hp, hs, rfl⟩
  have hsz : d'.size = C0.length := hp.1.trans (by simp)
  have hpl : d'.toList.Perm C0 := by
    have h3 := hp.2.2
    have e1 : d'.extract 0 C0.length = d' := by rw [← hsz]; simp
    rw [e1] at h3
    simpa using h3
  refine ⟨rfl, d'.toList, hpl, fun i j hij hj => ?_, own_sortQ h d' hsz m os, fr_sortWorld encQ 2 w g 0 m d' os⟩
  have hj' : j < d'.size := by simpa using hj
  have h8 := hs i j (Nat.zero_le _) hij (by omega)
  rw [getElem!_pos d' j hj', getElem!_pos d' i (by omega), ltQ] at h8
  simpa using of_decide_eq_false h8
end Go.Proofs.Ytakdaandbdbdnaa
namespace Go.Proofs.Ytakdaandbdbdnaa
open Go.RowKit Go.Maps
set_option linter.unusedVariables false
set_option maxRecDepth 100000

/-- The places of a list of files, in order. -/
def placesF (f : PF) : List QV := (List.range (f.2.length / 128)).map fun (t : Nat) => (f.1, (t : Int))
def placesOf (L : List PF) : List QV := L.flatMap placesF
theorem mem_placesF {f : PF} {x : QV} : x ∈ placesF f ↔ x.1 = f.1 ∧ 0 ≤ x.2 ∧ x.2 < (f.2.length : Int) / 128 := by
  unfold placesF
  rw [List.mem_map]
  constructor
  · rintro ⟨t, ht, rfl⟩
    have := List.mem_range.1 ht
    exact ⟨rfl, by show (0 : Int) ≤ (t : Int); omega, by show (t : Int) < _; omega⟩
  · rintro ⟨h1, h2, h3⟩
    obtain ⟨t, ht⟩ := Int.eq_ofNat_of_zero_le h2
    refine ⟨t, List.mem_range.2 (by omega), Prod.ext h1.symm ht.symm⟩
theorem placesF_sorted (f : PF) : (placesF f).Pairwise ltP := by
  unfold placesF
  rw [List.pairwise_map]
  refine List.pairwise_lt_range.imp fun {a b} h => ?_
  exact .inr ⟨rfl, by show (a : Int) < (b : Int); omega⟩
theorem placesOf_sorted {L : List PF} (h : SortedN L) : (placesOf L).Pairwise ltP := by
  induction L with
  | nil => exact List.Pairwise.nil
  | cons f r ih =>
    have hr := (List.pairwise_cons.1 h)
    unfold placesOf
    rw [List.flatMap_cons]
    refine List.pairwise_append.2 ⟨placesF_sorted f, ih hr.2, fun x hx y hy => ?_⟩
    obtain ⟨g, hg, hyg⟩ := List.mem_flatMap.1 hy
    have h1 := (mem_placesF.1 hx).1
    have h2 := (mem_placesF.1 hyg).1
    exact .inl (by rw [h1, h2]; exact hr.1 g hg)
theorem mem_placesOf {L : List PF} (h : Inv L) {x : QV} : x ∈ placesOf L ↔ ∃ bs, pageOf L x.1 x.2 = some bs := by
  unfold placesOf
  rw [List.mem_flatMap]
  constructor
  · rintro ⟨f, hf, hx⟩
    obtain ⟨h1, h2, h3⟩ := mem_placesF.1 hx
    obtain ⟨i, hi, rfl⟩ := List.getElem_of_mem hf
    have e : L.getD i (ByteArray.empty, []) = L[i] := by simp [List.getD, List.getElem?_eq_getElem hi]
    have hd := dataN_of h hi
    have hp := h.pg i hi
    rw [e] at hd hp
    rw [pageOf_data, h1, hd]
    unfold pageF
    rw [if_pos (by omega)]
    exact ⟨_, rfl⟩
  · rintro ⟨bs, hb⟩
    rw [pageOf_data] at hb
    unfold pageF at hb
    split at hb
    · rename_i hc
      have hf : findN L x.1 < L.length := Decidable.byContradiction fun hn => by rw [dataN_none hn] at hc; simp at hc; omega
      refine ⟨L.getD (findN L x.1) (ByteArray.empty, []), ?_, mem_placesF.2 ⟨(findN_name hf).symm, hc.1, ?_⟩⟩
      · rw [List.getD, List.getElem?_eq_getElem hf]; exact List.getElem_mem hf
      · have : dataN L x.1 = (L.getD (findN L x.1) (ByteArray.empty, [])).2 := by unfold dataN; rw [if_pos hf]
        rw [← this]; omega
    · cases hb
theorem sorted_of {C : List QV} (h : ∀ i j (hij : i < j) (hj : j < C.length), ¬ ltP (C[j]'hj) (C[i]'(Nat.lt_trans hij hj))) (hn : C.Nodup) : C.Pairwise ltP := by
  rw [List.pairwise_iff_getElem]
  intro i j hi hj hij
  have h1 := h i j hij hj
  refine Decidable.byContradiction fun h2 => ?_
  have h3 := ltP_total h2 h1
  exact (List.pairwise_iff_getElem.1 hn i j hi hj hij) h3
/-- The places of a map that reads as a list of files, each once and in order, are the list's. -/
theorem places_eq {L : List PF} (hs : SortedN L) (hI : Inv L) (hnm : ∀ f ∈ L, f.1.size ≤ maxLen) (hsm : ∀ f ∈ L, f.2.length ≤ 1048576) {D : DataW Unit} (hR : RepS D (pageOf L)) {ss : List Pl} (hk : KeysP D ss) {C : List QV} (hp : C.Perm (ss.map (·.1))) (hC : ∀ i j (hij : i < j) (hj : j < C.length), ¬ ltP (C[j]'hj) (C[i]'(Nat.lt_trans hij hj))) : C = placesOf L := by
  have hnd : (ss.map (·.1)).Nodup := List.pairwise_map.2 (hk.1.imp fun {a b} hne e => hne (Subtype.ext e))
  have hCn : C.Nodup := hp.symm.pairwise hnd (fun h => h.symm)
  have hCs := sorted_of hC hCn
  refine List.Perm.eq_of_pairwise (le := ltP) (fun a b _ _ h1 h2 => (ltP_irrefl a (ltP_trans h1 h2)).elim) hCs (placesOf_sorted hs) ?_
  refine (List.perm_ext_iff_of_nodup hCn ((placesOf_sorted hs).imp fun {a b} h e => by subst e; exact ltP_irrefl a h)).2 fun x => ?_
  rw [hp.mem_iff, mem_placesOf hI, List.mem_map]
  constructor
  · rintro ⟨y, hy, rfl⟩
    have h1 := (hk.2.1 y).1 hy
    have h2 := hR y.1.1 y.1.2 y.2.1 y.2.2
    cases hS : pageOf L y.1.1 y.1.2 with
    | some bs => exact ⟨bs, rfl⟩
    | none =>
      rw [hS] at h2
      have h3 : has D (litPl y) = false := has_false_of_atKey h2
      rw [h1] at h3; cases h3
  · rintro ⟨bs, hb⟩
    have hm := (mem_placesOf hI).2 ⟨bs, hb⟩
    obtain ⟨f, hf, hx⟩ := List.mem_flatMap.1 hm
    obtain ⟨h1, h2, h3⟩ := mem_placesF.1 hx
    have hw : (Lit.int .i64 x.2).wf = true := WalkArith.wf_i64 (by have := hsm f hf; omega)
    have hz : x.1.size ≤ maxLen := by rw [h1]; exact hnm f hf
    refine ⟨⟨x, hz, hw⟩, (hk.2.1 _).2 ?_, rfl⟩
    have h4 := hR x.1 x.2 hz hw
    rw [hb] at h4
    exact has_true_of_atKey h4
end Go.Proofs.Ytakdaandbdbdnaa
namespace Go.Proofs.Ytakdaandbdbdnaa
open Go.RowKit Go.Maps
set_option linter.unusedVariables false
set_option maxRecDepth 100000

/-- What slices.SortedFunc answers over maps.Keys' value. -/
def SortedOk : Prop := ∀ (Bm b nn : Nat) (D0 : DataW Unit) (w : World), Bm < w.heap.size → w.cell? ⟨Bm, 0, none⟩ = some (.map (some b)) → MapS w b nn D0 → Maps.size D0 ≤ 1073741824 →
    Calls Try.prog 83 #[.func (.func 100) #[] #[.pointer (some ⟨Bm, 0, none⟩)], .func (.func 85) #[] #[]] w fun e w' => ∃ (v : Value) (C : List QV) (ss : List Pl), e = .returned v ∧ KeysP D0 ss ∧ C.Perm (ss.map (·.1)) ∧ (∀ i j (hij : i < j) (hj : j < C.length), ¬ ltP (C[j]'hj) (C[i]'(Nat.lt_trans hij hj))) ∧ w'.ownsRow w.heap.size 89 2 v C.length (plC C) ∧ Below w.heap.size w w'
/-- How many places the first i files have. -/
def cntF (L : List PF) (i : Nat) : Nat := (placesOf (L.take i)).length
def pagesN (L : List PF) (i : Nat) : Nat := (L.getD i (ByteArray.empty, [])).2.length / 128
theorem placesF_len (f : PF) : (placesF f).length = f.2.length / 128 := by simp [placesF]
theorem cntF_succ {L : List PF} {i : Nat} (h : i < L.length) : cntF L (i + 1) = cntF L i + pagesN L i := by
  unfold cntF pagesN placesOf
  rw [List.take_succ_eq_append_getElem h, List.flatMap_append, List.length_append, List.flatMap_singleton, placesF_len]
  simp [List.getD, List.getElem?_eq_getElem h]
theorem cntF_all (L : List PF) : cntF L L.length = (placesOf L).length := by unfold cntF; rw [List.take_length]
theorem cntF_le {L : List PF} {i : Nat} (h : i < L.length) : cntF L i + pagesN L i ≤ (placesOf L).length := by
  rw [← cntF_succ h]
  unfold cntF placesOf
  conv => rhs; rw [← List.take_append_drop (i + 1) L, List.flatMap_append, List.length_append]
  omega
theorem place_at {L : List PF} {i j : Nat} (h : i < L.length) (hj : j < pagesN L i) : (placesOf L)[cntF L i + j]? = some ((L.getD i (ByteArray.empty, [])).1, (j : Int)) := by
  have e : L = L.take i ++ (L[i] :: L.drop (i + 1)) := by rw [← List.drop_eq_getElem_cons h, List.take_append_drop]
  have hg : L.getD i (ByteArray.empty, []) = L[i] := by simp [List.getD, List.getElem?_eq_getElem h]
  unfold pagesN at hj
  rw [hg] at hj ⊢
  unfold cntF
  have e2 : placesOf L = placesOf (L.take i) ++ (placesF L[i] ++ placesOf (L.drop (i + 1))) := by
    conv => lhs; rw [e]
    unfold placesOf
    rw [List.flatMap_append, List.flatMap_cons]
  rw [e2, List.getElem?_append_right (by omega), Nat.add_sub_cancel_left, List.getElem?_append_left (by rw [placesF_len]; exact hj)]
  simp [placesF, hj]
/-- The files when j pages of file i have been met. -/
def curF (L : List PF) (i j : Nat) : List PF := if j = 0 then L.take i else someF L i j
theorem curF_next {L : List PF} (h : Inv L) {i j : Nat} (hi : i < L.length) (hj : j + 1 = pagesN L i) : someF L i (j + 1) = curF L (i + 1) 0 := by
  have hp := h.pg i hi
  unfold curF someF
  rw [if_pos rfl, List.take_succ_eq_append_getElem hi]
  have hg : L.getD i (ByteArray.empty, []) = L[i] := by simp [List.getD, List.getElem?_eq_getElem hi]
  unfold pagesN at hj
  rw [hg] at hj hp ⊢
  have ht : L[i].2.take ((j + 1) * 128) = L[i].2 := List.take_of_length_le (by omega)
  rw [ht]
theorem curF_step (L : List PF) (i j : Nat) : someF L i (j + 1) = curF L i (j + 1) := by unfold curF; rw [if_neg (by omega)]
theorem page_i {L : List PF} (h : Inv L) {i j : Nat} (hi : i < L.length) (hj : j < pagesN L i) : pageOf L (L.getD i (ByteArray.empty, [])).1 (j : Int) = some (((L.getD i (ByteArray.empty, [])).2.drop (j * 128)).take 128) := by
  rw [pageOf_data, dataN_of h hi]
  unfold pagesN at hj
  unfold pageF
  rw [if_pos (by omega)]
  rfl
theorem take_more (ds : List Int) (j : Nat) : ds.take ((j + 1) * 128) = ds.take (j * 128) ++ (ds.drop (j * 128)).take 128 := by
  rw [show (j + 1) * 128 = j * 128 + 128 by omega, List.take_add]
end Go.Proofs.Ytakdaandbdbdnaa
namespace Go.Proofs.Ytakdaandbdbdnaa
open Go.RowKit Go.Maps
set_option linter.unusedVariables false
set_option maxRecDepth 100000

theorem plC_nil : plC [] = [] := rfl
set_option maxHeartbeats 1000000 in
/-- slices.SortedFunc, where slices.SortFunc does nothing to a nil slice. -/
theorem sorted_any (hnone : ∀ w : World, Calls Try.prog 99 #[.slice none 0 0, .func (.func 85) #[] #[]] w fun e w' => e = .returned (.tuple #[]) ∧ w' = w) : SortedOk := by
  intro Bm b nn D0 w hBm hm hown hsz
  go_enter Try.func83, Try.ntmps83
  go_wp2_with fail
  refine (collectKeys Bm b nn D0 w hBm hm hown hsz).mono ?_
  rintro e w1 ⟨v, ss, rfl, hk, hrow, hb1⟩
  rcases hrow.2 with ⟨rfl, h0⟩ | ⟨g, cap, cur, rfl, hbase, hgb, r1, r2, r3, r4⟩
  · have hss : ss = [] := List.eq_nil_of_length_eq_zero h0
    subst hss
    go_wp2_with fail
    refine (hnone w1).mono ?_
    rintro e w2 ⟨rfl, rfl⟩
    go_wp2
    go_ret
    exact ⟨_, [], [], rfl, hk, List.Perm.refl _, fun i j hij hj => absurd hj (Nat.not_lt_zero _), World.ownsRow_nil _ _ _ _, hb1⟩
  · have hlen : ss.length ≤ 1073741824 := Nat.le_trans hk.2.2 hsz
    rw [plC_of] at hrow
    go_wp2_with fail
    refine (sortPlaces_own g ss.length cap (ss.map (·.1)) w.heap.size w1 (by simp) hrow hlen).mono ?_
    rintro e w2 ⟨rfl, C, hp, hC, hrow2, hF2⟩
    have hCl : C.length = ss.length := by rw [hp.length_eq]; simp
    go_wp2
    go_ret
    exact ⟨_, C, ss, rfl, hk, hp, hC, by rw [hCl]; exact hrow2, hb1.trans (hF2.below hb1.size (fun x e => by omega))⟩
theorem sortedOk : SortedOk := sorted_any fun w => by
  have h := AnyF.slices_SortFunc_none lay_sortPlaces none 0 (.func (.func 85) #[] #[]) w
  change Calls Try.prog 99 _ _ _ at h
  exact h
end Go.Proofs.Ytakdaandbdbdnaa
