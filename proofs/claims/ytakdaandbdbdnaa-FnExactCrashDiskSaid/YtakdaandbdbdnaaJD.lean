import Derived.Test.YtakdaandbdbdnaaJC
import Derived.Test.YtakdaandbdbdnaaJA
import Derived.Test.YtakdaandbdbdnaaJB
import Derived.Test.YtakdaandbdbdnaaJE
import Derived.Deep.RegionHeld3
import Derived.RangeFuncNested
import Derived.RangeFuncBound
import Derived.RangeFuncCalls
import Derived.RangeFuncLeaves
import Derived.Sort.MapsRangeIn
import Derived.Sort.KeysCollected
import Derived.WalkKit
import Derived.OwnWalkIn
import Derived.TacticsInMore
import Derived.RegionIn
import Derived.LoopNIn
import Derived.LoopIn
import Derived.RangeFuncBox
import Derived.Maps.AppendAt
import Derived.Shelf.Abstract
import Derived.Shelf.RegionOpen
import Derived.Test.YtakdaandbdbdnaaLayQ
import Derived.Shelf.SlSortCmp.WholeK
import Derived.Shelf.SlSortCmp.NoneTotal
namespace Go.Proofs.Ytakdaandbdbdnaa
open Go.RowKit
set_option linter.unusedVariables false
set_option maxRecDepth 100000

/-- What cmp.Compare says of two numbers, and cmp.Or of two answers. -/
def cmpI (x y : Int) : Int := if x < y then -1 else if y < x then 1 else 0
def orI (x y : Int) : Int := if x = 0 then y else x
theorem cmpInt_any (x y : Int) (W : World) : Calls Try.prog 103 #[.int .i64 x, .int .i64 y] W fun e w' => e = .returned (.int .i64 (cmpI x y)) ∧ w' = W := by
  by_cases h1 : x < y
  · have H : Hid (cmpI x y = -1) := by show _ = _; unfold cmpI; rw [if_pos h1]
    go_enter Try.func103, Try.ntmps103
    go_wp2
    go_ret
    exact ⟨by rw [H.out]; rfl, rfl⟩
  · by_cases h2 : y < x
    · have H : Hid (cmpI x y = 1) := by show _ = _; unfold cmpI; rw [if_neg h1, if_pos h2]
      go_enter Try.func103, Try.ntmps103
      go_wp2
      go_ret
      exact ⟨by rw [H.out]; rfl, rfl⟩
    · have H : Hid (cmpI x y = 0) := by show _ = _; unfold cmpI; rw [if_neg h1, if_neg h2]
      go_enter Try.func103, Try.ntmps103
      go_wp2
      go_ret
      exact ⟨by rw [H.out]; rfl, rfl⟩
theorem cmpOr_any (g : Nat) (x y : Int) (W : World) (h0 : W.cell? ⟨g, 0, none⟩ = some (.int .i64 x)) (h1 : W.cell? ⟨g, 1, none⟩ = some (.int .i64 y)) : Calls Try.prog 101 #[.slice (some ⟨g, 0, none⟩) 2 2] W fun e w' => e = .returned (.int .i64 (orI x y)) ∧ w' = W := by
  go_enter Try.func101, Try.ntmps101
  go_wp2
  go_loopw [5, 8] (fun _ i wr => wr = W ∧ (i = .int .i64 0 ∨ (i = .int .i64 1 ∧ Hid (x = 0)) ∨ (i = .int .i64 2 ∧ Hid (x = 0 ∧ y = 0)))) (fun _ i _ => 2 - (intOf i).toNat)
  case atStart => exact ⟨rfl, .inl rfl⟩
  case round =>
    obtain ⟨rfl, rfl | ⟨rfl, hx⟩ | ⟨rfl, hxy⟩⟩ := hrel
    · by_cases hx : x = 0
      · have HX : Hid (x = 0) := hx
        have hb : (x != 0) = false := by simpa using hx
        clear hx
        go_wp2
        go_roundw
        case rel => exact ⟨by first | rfl | trivial, .inr (.inl ⟨by go_num, HX⟩)⟩
        case measure => simp [intOf]
      · have H : Hid (orI x y = x) := by show _ = _; unfold orI; rw [if_neg hx]
        have hb : (x != 0) = true := by simpa using hx
        clear hx
        go_wp2
        go_ret
        exact ⟨ret_int H.out.symm, rfl⟩
    · have H : Hid (orI x y = y) := by show _ = _; unfold orI; rw [if_pos hx.out]
      by_cases hy : y = 0
      · have HX : Hid (x = 0 ∧ y = 0) := ⟨hx.out, hy⟩
        have hb : (y != 0) = false := by simpa using hy
        clear hx hy
        go_wp2
        go_roundw
        case rel => exact ⟨by first | rfl | trivial, .inr (.inr ⟨by go_num, HX⟩)⟩
        case measure => simp [intOf]
      · have hb : (y != 0) = true := by simpa using hy
        clear hx hy
        go_wp2
        go_ret
        exact ⟨ret_int H.out.symm, rfl⟩
    · have H : Hid (orI x y = 0) := by show _ = _; unfold orI; rw [if_pos hxy.out.1]; exact hxy.out.2
      clear hxy
      go_wp2
      go_ret
      exact ⟨ret_int H.out.symm, rfl⟩
set_option maxHeartbeats 1600000 in
theorem comparePlaces_any (x y : ByteArray) (p q : Int) (W : World) : Calls Try.prog 85 #[.agg #[.string x, .int .i64 p], .agg #[.string y, .int .i64 q]] W fun e w' => e = .returned (.int .i64 (orI (cmpB x y) (cmpI p q))) ∧ ∃ m os', w' = Go.Sort.grow (W.drewN m) os' := by
  have hcon := fun W' => cmpStr_any x y W'
  have hcon2 := fun W' => cmpInt_any p q W'
  generalize cmpB x y = r at hcon ⊢
  generalize cmpI p q = s at hcon2 ⊢
  have k0 : ((W.alloc (.cells #[.string x, .int .i64 p] 89)).alloc (.cells #[.string y, .int .i64 q] 89)).heap[W.heap.size]? = some (.cells #[.string x, .int .i64 p] 89) := by rw [heap_alloc_old _ _ (by simp)]; exact heap_alloc_new _ _
  have k1 : ((W.alloc (.cells #[.string x, .int .i64 p] 89)).alloc (.cells #[.string y, .int .i64 q] 89)).heap[W.heap.size + 1]? = some (.cells #[.string y, .int .i64 q] 89) := by have := heap_alloc_new (W.alloc (.cells #[.string x, .int .i64 p] 89)) (.cells #[.string y, .int .i64 q] 89); simpa using this
  have hgw : ∃ os', ((W.alloc (.cells #[.string x, .int .i64 p] 89)).alloc (.cells #[.string y, .int .i64 q] 89)) = Go.Sort.grow (W.drewN 0) os' := ⟨_, by rw [Go.Sort.alloc_eq_grow, Go.Sort.alloc_eq_grow, Go.Sort.grow_grow]; rfl⟩
  go_enter Try.func85, Try.ntmps85
  go_wp2_with fail
  generalize ((W.alloc (.cells #[.string x, .int .i64 p] 89)).alloc (.cells #[.string y, .int .i64 q] 89)) = W0 at k0 k1 hgw ⊢
  obtain ⟨c0, c1⟩ := box_two2D k0
  obtain ⟨d0, d1⟩ := box_two2D k1
  go_region_held3 (fun w' => w'.cell? ⟨W.heap.size, 0, none⟩ = some (.string x) ∧ w'.cell? ⟨W.heap.size, 1, none⟩ = some (.int .i64 p) ∧ w'.cell? ⟨W.heap.size + 1, 0, none⟩ = some (.string y) ∧ w'.cell? ⟨W.heap.size + 1, 1, none⟩ = some (.int .i64 q)) (go_keep)
    (first | (go_at_call 101; refine (cmpOr_any _ r s _ (by simp) (by simp)).mono ?_; rintro e w5 ⟨rfl, rfl⟩) | (go_at_call 103; refine (hcon2 _).mono ?_; rintro e w4 ⟨rfl, rfl⟩) | (go_at_call 102; refine (hcon _).mono ?_; rintro e w3 ⟨rfl, rfl⟩))
  clear c0 c1 d0 d1 k0 k1
  have hfin : ∃ m os', (W0.alloc (.cells #[.int .i64 r, .int .i64 s] 3)).drew = Go.Sort.grow (W.drewN m) os' := by
    obtain ⟨os0, rfl⟩ := hgw
    exact ⟨1, _, by rw [Go.Sort.alloc_eq_grow, Go.Sort.grow_grow]; rfl⟩
  clear hgw
  go_wp2
  go_ret
  exact ⟨rfl, hfin⟩
end Go.Proofs.Ytakdaandbdbdnaa
namespace Go.Proofs.Ytakdaandbdbdnaa
open Go.RowKit Go.Maps
set_option linter.unusedVariables false
set_option maxRecDepth 100000

/-- A place: a name and a page's number. -/
abbrev Pl := { p : ByteArray × Int // p.1.size ≤ maxLen ∧ (Lit.int .i64 p.2).wf = true }
def encPl (x : Pl) : Value := .agg #[.string x.1.1, .int .i64 x.1.2]
def litPl (x : Pl) : Lit := kPl x.1.1 x.1.2
theorem keyOf_encPl (x : Pl) : keyOf Try.prog 89 (encPl x) = some (litPl x) := keyOf_pl x.2.1 x.2.2
theorem litPl_inj {x y : Pl} (h : litPl x = litPl y) : x = y := by
  obtain ⟨h1, h2⟩ := kPl_inj x.2.1 x.2.2 y.2.1 y.2.2 h
  exact Subtype.ext (Prod.ext h1 h2)
theorem litPl_same (x y : Pl) : (litPl x).sameKey (litPl y) = decide (x = y) := by
  by_cases h : x = y
  · subst h; simp [litPl, kPl, Lit.sameKey]
  · have h2 : litPl x ≠ litPl y := fun e => h (litPl_inj e)
    rw [decide_eq_false h]
    simp only [litPl, kPl, Lit.sameKey, ne_eq, Lit.string.injEq] at h2 ⊢
    simpa using h2
theorem keyLitsS (d : Nat) (cs : List Value) (l : List Lit) (h : Try.prog.keyLits (d + 1) 9 cs = some l) : ∃ nm : ByteArray, cs = [.string nm] ∧ nm.size ≤ maxLen := by
  unfold Program.keyLits at h
  rw [Try.underlying9] at h
  split at h <;> simp_all
theorem keyLitsI (d : Nat) (cs : List Value) (l : List Lit) (h : Try.prog.keyLits (d + 1) 2 cs = some l) : ∃ pg : Int, cs = [.int .i64 pg] ∧ (Lit.int .i64 pg).wf = true := by
  unfold Program.keyLits at h
  rw [Try.underlying2] at h
  split at h <;> simp_all
theorem keyOf_plInv {key : Value} {kl : Lit} (h : keyOf Try.prog 89 key = some kl) : ∃ x : Pl, key = encPl x := by
  unfold keyOf at h
  rw [Try.underlying89] at h
  have h0 : 0 < Try.prog.types.size := Nat.lt_of_le_of_lt (Nat.zero_le _) rowPl
  have e : Try.prog.types.size + 1 = (Try.prog.types.size - 1) + 2 := by omega
  simp only [keyTypePl, Bool.true_and] at h
  split at h
  · rename_i hf
    cases key with
    | agg cs =>
      have hc : cs.size = 2 := by
        unfold Value.formed at hf
        rw [Try.underlying89] at hf
        simpa [cellsPl] using hf
      obtain ⟨u, v, rfl⟩ : ∃ u v, cs = #[u, v] := by
        obtain ⟨l⟩ := cs
        match l, hc with
        | [u, v], _ => exact ⟨u, v, rfl⟩
      rw [e] at h
      simp only [Value.cells] at h
      cases hk : Try.prog.keyLits (Try.prog.types.size - 1 + 2) 89 [u, v] with
      | none => rw [hk] at h; cases h
      | some ls =>
        rw [show Try.prog.types.size - 1 + 2 = (Try.prog.types.size - 1 + 1) + 1 by omega] at hk
        unfold Program.keyLits at hk
        rw [Try.underlying89] at hk
        simp [cellsPl, cellsOfS, cellsOfI] at hk
        rw [Option.bind_eq_some_iff] at hk
        obtain ⟨l1, h1, hk⟩ := hk
        simp only [Function.comp, Option.map_eq_some_iff, Option.bind_eq_some_iff] at hk
        obtain ⟨_, ⟨_, ⟨l2, h2, _⟩, _⟩, _⟩ := hk
        obtain ⟨nm, e1, hn⟩ := keyLitsS _ _ _ h1
        obtain ⟨pg, e2, hp⟩ := keyLitsI _ _ _ h2
        injection e1 with e1
        injection e2 with e2
        subst e1 e2
        exact ⟨⟨(nm, pg), hn, hp⟩, rfl⟩
    | _ => unfold Value.formed at hf; rw [Try.underlying89] at hf; cases hf
  · cases h
/-- No place twice; a place is on the list just where the map has it and it is no longer to come. -/
def CollP (D0 : DataW Unit) (left : Lit → Bool) (ss : List Pl) : Prop := ss.Nodup ∧ ∀ x, x ∈ ss ↔ (has D0 (litPl x) = true ∧ left (litPl x) = false)
theorem CollP.start (D0 : DataW Unit) : CollP D0 (has D0) [] := ⟨List.nodup_nil, fun x => by cases has D0 (litPl x) <;> simp⟩
theorem CollP.step {D0 : DataW Unit} {left : Lit → Bool} {ss : List Pl} (h : CollP D0 left ss) {x : Pl} {y : DataW Unit} (hlk : left (litPl x) = true) (hat : ∀ zd, D0.atKey (litPl x) zd = y) : CollP D0 (fun z => left z && !z.sameKey (litPl x)) (ss ++ [x]) := by
  have hhas : has D0 (litPl x) = true := has_true_of_atKey hat
  have hnew : x ∉ ss := fun hx => by have := ((h.2 x).1 hx).2; rw [hlk] at this; cases this
  refine ⟨List.nodup_append.2 ⟨h.1, by simp, fun a ha b hb => by simp at hb; subst hb; exact fun e => hnew (e ▸ ha)⟩, fun y => ?_⟩
  by_cases hy : y = x
  · subst hy; simp [hhas, litPl_same]
  · simp [h.2 y, hy, litPl_same]
/-- Just the places of a map, each once. -/
def KeysP (D0 : DataW Unit) (ss : List Pl) : Prop := ss.Nodup ∧ (∀ x, x ∈ ss ↔ has D0 (litPl x) = true) ∧ ss.length ≤ Maps.size D0
theorem CollP.done {D0 : DataW Unit} {left : Lit → Bool} {ss : List Pl} (h : CollP D0 left ss) (hl : ∀ kl, left kl = false) (hle : ss.length ≤ Maps.size D0) : KeysP D0 ss := ⟨h.1, fun x => by rw [h.2 x, hl]; simp, hle⟩
/-- A sheet's value as a letter. -/
abbrev Sh := { bs : List Int // bs.length = 128 ∧ ∀ x ∈ bs, 0 ≤ x ∧ x ≤ 255 }
def encSh (b : Sh) : Value := sheetV b.1
theorem sheetR_inv2 {v : Value} {y : DataW Unit × List MemPlace} (h : sheetR v = some y) : ∃ b : Sh, v = encSh b := by
  obtain ⟨bs, h1, h2, rfl, _⟩ := sheetR_inv h
  exact ⟨⟨bs, h1, h2⟩, rfl⟩

set_option maxHeartbeats 2000000 in
/-- The iterator of maps.Keys at a map of sheets: each place once, in some order. -/
theorem keysP1_in (F : Fence) (n : Nat) (hf : F.fn 100) (hro : F.round = none) (hn : 1 ≤ n) (l Bm b nn : Nat) (D0 : DataW Unit) (J Jx : List Pl → World → Prop)
    (hY : ∀ pre x W, J pre W → pre.length < Maps.size D0 → YieldAt F (n - 1) Try.prog l #[encPl x] W fun e W' => (e = .returned (.bool true) ∧ J (pre ++ [x]) W' ∧ KeepsWalks W W') ∨ (e = .returned (.bool false) ∧ Jx (pre ++ [x]) W'))
    (W : World) (hJ : AbidesFrom W.heap.size J) (hm : W.cell? ⟨Bm, 0, none⟩ = some (.map (some b))) (hown : MapS W b nn D0) (h0 : J [] W) :
    CallsIn F n Try.prog 100 #[.func (.yield l) #[] #[], .pointer (some ⟨Bm, 0, none⟩)] W fun e W' => (∃ v, e = .returned v) ∧ ((∃ ss : List Pl, KeysP D0 ss ∧ J ss W') ∨ ∃ pre : List Pl, True ∧ Jx pre W') := by
  refine callsIn_of_wp Try.func100 rfl hf ?_ hro
  simp only [Try.ntmps100, List.size_toArray, List.length_cons, List.length_nil, Nat.reduceAdd, Nat.reduceSub, Array.replicate_succ, Array.replicate_zero, List.push_toArray, List.append_toArray, List.nil_append, List.cons_append]
  gi_wp2_with (first
    | (gi_at_range; refine wpListIn_range_own _ rfl _ 80 rfl 89 86 lawPl Try.underlying80 _ b nn _ rfl hown ?_; intro w0 hrg0 hg0 hs0)
    | gi_in)
  go_frame
  gi_loopw [3] (fun _ wr => ∃ (left : Lit → Bool) (cnt : Nat) (ss : List Pl), wr.ranges Try.prog 89 sheetR b W.heap.size nn D0 left cnt ∧ ss.length + cnt ≤ Maps.size D0 ∧ CollP D0 left ss ∧ J ss wr)
    (fun _ wr => wr.rangeLeft b W.heap.size)
  case atStart =>
    exact ⟨_, _, [], hrg0, by simp, CollP.start D0, hJ [] W w0 none h0 hg0 (fun r e => by cases e)⟩
  case round =>
    obtain ⟨left, cnt, ss, hrg, hcs, hC, hJs⟩ := hrel
    gi_wp2_with (first
      | (gi_at_next; refine wpListIn_next_ranges _ rfl _ rfl 89 lawPl sheetR encPl encSh (fun key kl hk => keyOf_plInv hk) (fun v y hv => sheetR_inv2 hv) b W.heap.size nn _ _ _ rfl hrg ?_ ?_)
      | gi_in)
    · intro hc0 hl0
      gi_wp2
      go_end0
      exact ⟨⟨_, rfl⟩, .inl ⟨ss, hC.done hl0 (by omega), hJs⟩⟩
    · intro nm pg hx bs hbs kl yd yp w2 cnt2 hkey hlk hv hat hrg2 hlt hg2 hs2 hen
      rw [keyOf_encPl] at hkey
      injection hkey with hkey
      subst hkey
      have hJ2 : J ss w2 := hJ ss wr w2 (some W.heap.size) hJs hg2 (fun r e => by cases e; exact ⟨Nat.le_refl _, hrg.iter_walk⟩)
      have hJ3 : J ss (w2.alloc (.cells #[.string nm, .int .i64 pg] 89)) := hJ ss w2 _ none hJ2 (World.grownBy_alloc w2 _ none) (fun r e => by cases e)
      obtain ⟨fn, tmps, assign, body, hy, hR⟩ := hY ss ⟨(nm, pg), hx⟩ _ hJ3 (by omega)
      have hrg3 : (w2.alloc (.cells #[.string nm, .int .i64 pg] 89)).ranges Try.prog 89 sheetR b W.heap.size nn D0 (fun z => left z && !z.sameKey (litPl ⟨(nm, pg), hx⟩)) cnt2 := hrg2.of_walks (KeepsWalks.alloc _ _)
      have hC2 : CollP D0 (fun z => left z && !z.sameKey (litPl ⟨(nm, pg), hx⟩)) (ss ++ [⟨(nm, pg), hx⟩]) := hC.step hlk hat
      have hcs2 : (ss ++ [(⟨(nm, pg), hx⟩ : Pl)]).length + cnt2 ≤ Maps.size D0 := by rw [List.length_append, List.length_singleton]; omega
      clear hat hlk hC
      simp only [encPl, encSh, sheetV] at hy hen ⊢
      clear hs2
      gi_wp2
      refine hR.mono ?_
      rintro e W3 (⟨rfl, hJ4, hk4⟩ | ⟨rfl, hJx4⟩)
      · gi_wp2
        have hrg4 := hrg3.of_walks hk4
        go_roundw
        case rel => exact ⟨_, cnt2, _, hrg4, hcs2, hC2, hJ4⟩
        case measure => rw [hrg4.left_eq, hrg.left_eq]; exact hlt
      · gi_wp2
        refine bodyPost_ret (results_none rfl _ _ _) rfl ?_
        exact ⟨⟨_, rfl⟩, .inr ⟨_, trivial, hJx4⟩⟩
/-- maps.Keys hands back an iterator over a map's places. -/
theorem keysP_stops (F : Fence) (n : Nat) (hf : F.fn 100) (hro : F.round = none) (hn : 1 ≤ n) (Bm b nn : Nat) (D0 : DataW Unit) (w : World) (hBm : Bm < w.heap.size)
    (hm : w.cell? ⟨Bm, 0, none⟩ = some (.map (some b))) (hown : MapS w b nn D0) :
    SeqStopsK F n Try.prog 100 #[.pointer (some ⟨Bm, 0, none⟩)] (fun x => #[encPl x]) KeepsWalks (KeysP D0) (fun _ => True) (Maps.size D0) w := fun l J Jx W hW hJ hJx hY h0 =>
  keysP1_in F n hf hro hn l Bm b nn D0 J Jx hY W hJ ((hW.cell (p := ⟨Bm, 0, none⟩) hBm).trans hm) (hown.to (hW.block b (World.ownsMap.lt hown))) h0
set_option maxHeartbeats 1000000 in
theorem keysP_in (F : Fence) (n : Nat) (hf : F.fn 84) (hro : F.round = none) (mb : Option Nat) (w : World) :
    CallsIn F n Try.prog 84 #[.map mb] w fun e w' => e = .returned (.func (.func 100) #[] #[.pointer (some ⟨w.heap.size, 0, none⟩)]) ∧ w' = w.alloc (.cells #[.map mb] 80) := by
  refine callsIn_of_wp Try.func84 rfl hf ?_ hro
  simp only [Try.ntmps84, List.size_toArray, List.length_cons, List.length_nil, Nat.reduceAdd, Nat.reduceSub, Array.replicate_succ, Array.replicate_zero, List.push_toArray, List.append_toArray, List.nil_append, List.cons_append]
  gi_wp2
  go_ret
  exact ⟨rfl, rfl⟩
end Go.Proofs.Ytakdaandbdbdnaa
namespace Go.Proofs.Ytakdaandbdbdnaa
open Go.RowKit Go.Maps Go.Shelf
set_option linter.unusedVariables false
set_option maxRecDepth 100000
attribute [local go_sem] Oper.semAt_some

/-- The cells of places. -/
def plCells (ss : List Pl) : List Value := ss.flatMap fun x => [.string x.1.1, .int .i64 x.1.2]
theorem plCells_snoc (ss : List Pl) (x : Pl) : plCells (ss ++ [x]) = plCells ss ++ [.string x.1.1, .int .i64 x.1.2] := by simp [plCells]
theorem info_pl : (Try.prog.info? 89).map (fun i => (i.zero, i.size, i.bytes)) = some (some (.agg #[.string ⟨#[]⟩, .int .i64 0]), 2, 24) := by kernel_rfl
theorem pl_ne : (118 : Nat) ≠ 89 := by decide

set_option maxHeartbeats 2000000 in
/-- slices.AppendSeq(nil, seq) at places. -/
theorem appendSeqP_in (F : Fence) (n : Nat) (hf : F.fn 107) (hro : F.round = none) (hn : 3 ≤ n) (g : Nat) (lb : Array Value) (hFg : F.fn g) (eg : ∀ args w, (callFunc g args).run Try.prog w = .ok (.enter g args) w)
    (S : List Pl → Prop) (N : Nat) (hN : N ≤ maxLen) (hNb : N * 24 ≤ 140737488355328) (w : World) (hseq : SeqStopsK F (n - 1) Try.prog g lb (fun x => #[encPl x]) KeepsWalks S (fun _ => True) N w) :
    CallsIn F n Try.prog 107 #[.slice none 0 0, .func (.func g) #[] lb] w fun e w' => ∃ (v : Value) (ss : List Pl), e = .returned v ∧ S ss ∧ w'.ownsRow w.heap.size 89 2 v ss.length (plCells ss) ∧ Below w.heap.size w w' := by
  have h1 : 1 ≤ n := by omega
  obtain ⟨i0, hi, hz0, hz1, hz2⟩ := info_parts info_pl
  refine callsIn_of_wp_marks Try.func107 rfl hf ?_ hro
  simp only [Try.ntmps107, List.size_toArray, List.length_cons, List.length_nil, Nat.reduceAdd, Nat.reduceSub, Array.replicate_succ, Array.replicate_zero, List.push_toArray, List.append_toArray, List.nil_append, List.cons_append]
  gi_wp2
  have bS := Boxed.new w 118 (.slice none 0 0)
  have hB0 : Below w.heap.size w (w.alloc (.cells #[.slice none 0 0] 118)) := (Below.refl _ _).alloc (Nat.le_refl _) _
  have hsz : (w.alloc (.cells #[.slice none 0 0] 118)).heap.size = w.heap.size + 1 := by simp
  have hr0 := World.ownsRow_nil (w.alloc (.cells #[.slice none 0 0] 118)) w.heap.size 89 2
  obtain ⟨W0, hW0⟩ : ∃ W0, w.alloc (.cells #[.slice none 0 0] 118) = W0 := ⟨_, rfl⟩
  rw [hW0] at bS hB0 hsz hr0 ⊢
  clear hW0
  refine wpIn_rangeFunc_ownH hro h1 (gf := g) (lb := lb) rfl hFg eg hseq walksK_t (walksK_b (w := W0)) hB0 (fun _ => rfl)
    (fun pre W => (∃ v, Boxed W w.heap.size 118 v ∧ W.ownsRow w.heap.size 89 2 v pre.length (plCells pre) ∧ True) ∧ Below w.heap.size w W)
    (fun _ _ _ => False)
    (OwnFrom.and (Own.from (holdsRow_own w.heap.size w.heap.size 118 89 2 (fun (pre : List Pl) => pre.length) (fun pre => plCells pre) (fun _ _ => True)) _) (ownFrom_below (Nat.le_refl _) (by omega)))
    (fun _ _ _ _ _ hs _ _ => hs)
    ⟨⟨_, bS, hr0, trivial⟩, hB0⟩
    (fun x a' W => ∃ Bx, w.heap.size < Bx ∧ W.heap[Bx]? = some (.cells #[.string x.1.1, .int .i64 x.1.2] 89 (0, 0)) ∧ a' = { tmps := #[.slice none 0 0, .func (.func g) #[] lb, .pointer (some ⟨w.heap.size, 0, none⟩), undef, .slice none 0 0, .pointer (some ⟨Bx, 0, none⟩), .func (.func g) #[] lb, encPl x, undef, undef, undef, undef, undef], defers := [] })
    (fun x a' _ X Y row hs hg hr => by
      obtain ⟨Bx, h1, h2, h3⟩ := hs
      refine ⟨Bx, h1, (hg.block Bx (Array.getElem?_eq_some_iff.1 h2).1 (fun e => ?_)).trans h2, h3⟩
      obtain ⟨_, o, ho, hc⟩ := hr Bx e.symm
      rw [h2] at ho; cases ho; cases hc)
    ?assign ?body ?done ?stop
  case assign =>
    rintro l pre x W K ⟨⟨v, bV, hV, _⟩, hB1⟩ hK
    simp only [encPl]
    gi_wp2
    exact hK _ _ ((KeepsOthers.alloc _ _).from _) (KeepsOthers.alloc _ _).walks ⟨⟨v, bV.alloc _, hV.alloc _, trivial⟩, hB1.alloc hB1.size _⟩ ⟨W.heap.size, bV.lt, heap_alloc_new W _, rfl⟩
  case body =>
    rintro l pre x a' W hl ⟨r, hr⟩ ⟨⟨v, bV, hV, _⟩, hB1⟩ ⟨Bx, hBx, bX, rfl⟩ hlt
    have cV := bV.cell
    have hsW := hB1.size
    have hx0 : W.cell? ⟨Bx, 0, none⟩ = some (.string x.1.1) := by simp [World.cell?, bX]
    have hx1 : W.cell? ⟨Bx, 1, none⟩ = some (.int .i64 x.1.2) := by simp [World.cell?, bX]
    gi_wp2_with (gi_at_builtin; refine wpListIn_append_own _ rfl _ _ 118 rfl w.heap.size 89 i0 _ 2 24 Try.underlying118 hi hz0 hz1 hz2 rfl (by decide) _ _ _ rfl (hV.alloc _) ⟨W.heap.size, 0, none⟩ 1 1 [.string x.1.1, .int .i64 x.1.2] rfl rfl (cell_two_new _ _ _ _) (by simp [Value.oneCell']) (by omega) (by omega) (by simp; omega) ?_; intro v' w1 hown' hgrow _; obtain ⟨g', cap', rfl⟩ := ownsRow_succ hown'; obtain ⟨hv1, hv2, hr2, hk2, hb2⟩ := bV.appended pl_ne hV hB1.size (Nat.le_refl _) hown' hgrow; have hc1 := hv1.cell; have hf1 := hv1.frozen)
    exact ⟨hk2.from _, hk2.walks, ⟨_, hv2, by rw [plCells_snoc, List.length_append, List.length_singleton]; exact hr2, trivial⟩, hB1.trans hb2⟩
  case done =>
    rintro D xs W hD hS ⟨⟨v, bV, hV, _⟩, hB1⟩ hK
    have cV := bV.cell
    gi_wp2
    refine ⟨by simp, .inl ⟨_, _, rfl, run_takeDeferred hK, ?_⟩⟩
    exact ⟨_, results_tmp rfl _ _ _, v, xs, rfl, hS, ownsRow_putObj hV _ hK rfl, hB1.grown (grownBy_putObj' _ _ _) hB1.size (fun k e => by cases e; omega)⟩
  case stop =>
    rintro D c pre W _ _ h _
    exact h.elim
set_option maxHeartbeats 1000000 in
theorem collectP_in (F : Fence) (n : Nat) (hf : F.fn 98) (hf2 : F.fn 107) (hro : F.round = none) (hn : 4 ≤ n) (g : Nat) (lb : Array Value) (hFg : F.fn g) (eg : ∀ args w, (callFunc g args).run Try.prog w = .ok (.enter g args) w)
    (S : List Pl → Prop) (N : Nat) (hN : N ≤ maxLen) (hNb : N * 24 ≤ 140737488355328) (w : World) (hseq : SeqStopsK F (n - 1 - 1) Try.prog g lb (fun x => #[encPl x]) KeepsWalks S (fun _ => True) N w) :
    CallsIn F n Try.prog 98 #[.func (.func g) #[] lb] w fun e w' => ∃ (v : Value) (ss : List Pl), e = .returned v ∧ S ss ∧ w'.ownsRow w.heap.size 89 2 v ss.length (plCells ss) ∧ Below w.heap.size w w' := by
  have h1 : 1 ≤ n := by omega
  refine callsIn_of_wp Try.func98 rfl hf ?_ hro
  simp only [Try.ntmps98, List.size_toArray, List.length_cons, List.length_nil, Nat.reduceAdd, Nat.reduceSub, Array.replicate_succ, Array.replicate_zero, List.push_toArray, List.append_toArray, List.nil_append, List.cons_append]
  gi_wp2_with (gi_at_call 107; refine (appendSeqP_in F (n - 1) hf2 hro (by omega) g lb hFg eg S N hN hNb _ hseq).mono ?_; rintro e w' ⟨v, ss, rfl, hS, hrow, hb⟩)
  go_ret
  exact ⟨v, ss, rfl, hS, hrow, hb⟩
/-- slices.Collect over maps.Keys' value: the places of the map, each once. -/
theorem collectKeys (Bm b nn : Nat) (D0 : DataW Unit) (w : World) (hBm : Bm < w.heap.size) (hm : w.cell? ⟨Bm, 0, none⟩ = some (.map (some b))) (hown : MapS w b nn D0) (hsz : Maps.size D0 ≤ 1073741824) :
    Calls Try.prog 98 #[.func (.func 100) #[] #[.pointer (some ⟨Bm, 0, none⟩)]] w fun e w' => ∃ (v : Value) (ss : List Pl), e = .returned v ∧ KeysP D0 ss ∧ w'.ownsRow w.heap.size 89 2 v ss.length (plCells ss) ∧ Below w.heap.size w w' :=
  callsIn_wide.1 (collectP_in Fence.wide 4 trivial trivial rfl (Nat.le_refl _) _ _ trivial (enters_of Try.func100 (by kernel_rfl) rfl) (KeysP D0) (Maps.size D0) (by unfold maxLen; omega) (by omega) w (keysP_stops Fence.wide _ trivial rfl (by omega) Bm b nn D0 w hBm hm hown))
theorem keysCall (mb : Option Nat) (w : World) :
    Calls Try.prog 84 #[.map mb] w fun e w' => e = .returned (.func (.func 100) #[] #[.pointer (some ⟨w.heap.size, 0, none⟩)]) ∧ w' = w.alloc (.cells #[.map mb] 80) :=
  callsIn_wide.1 (keysP_in Fence.wide 4 trivial rfl mb w)
end Go.Proofs.Ytakdaandbdbdnaa
namespace Go.Proofs.Ytakdaandbdbdnaa
open Go.RowKit
open Go.Sort (flatK size_flatK get_flatK putRowK HoldsK PermIn SortedIn SWO putCells)
set_option linter.unusedVariables false
set_option maxRecDepth 100000

/-- A place as the sort sees it. -/
abbrev QV := ByteArray × Int
def encQ (x : QV) : List Value := [.string x.1, .int .i64 x.2]
def plC (C : List QV) : List Value := C.flatMap encQ
theorem plC_of (ss : List Pl) : plCells ss = plC (ss.map (·.1)) := by
  unfold plCells plC encQ
  rw [List.flatMap_map]
theorem plC_len (C : List QV) : (plC C).length = C.length * 2 := by
  induction C with
  | nil => rfl
  | cons x r ih => simp only [plC, List.flatMap_cons, List.length_append, encQ, List.length_cons, List.length_nil] at ih ⊢; omega
theorem plC_get (C : List QV) (j : Nat) (h : j < C.length) : (plC C)[j * 2]? = some (.string C[j].1) ∧ (plC C)[j * 2 + 1]? = some (.int .i64 C[j].2) := by
  induction C generalizing j with
  | nil => cases h
  | cons x r ih =>
    cases j with
    | zero => exact ⟨rfl, rfl⟩
    | succ j =>
      have hj : j < r.length := by simpa using h
      obtain ⟨h1, h2⟩ := ih j hj
      have e : plC (x :: r) = .string x.1 :: .int .i64 x.2 :: plC r := rfl
      rw [e]
      refine ⟨?_, ?_⟩
      · rw [show (j + 1) * 2 = j * 2 + 1 + 1 by omega, List.getElem?_cons_succ, List.getElem?_cons_succ, h1]; rfl
      · rw [show (j + 1) * 2 + 1 = (j * 2 + 1) + 1 + 1 by omega, List.getElem?_cons_succ, List.getElem?_cons_succ, h2]; rfl
/-- The order of places. -/
abbrev ltP (x y : QV) : Prop := x.1.toList < y.1.toList ∨ (x.1 = y.1 ∧ x.2 < y.2)
def cfQ (x y : QV) : Int := orI (cmpB x.1 y.1) (cmpI x.2 y.2)
theorem ltQ (x y : QV) : ltOf cfQ x y = decide (ltP x y) := by
  unfold ltOf cfQ orI cmpB cmpI ltP
  rw [bytesLess_eq, bytesLess_eq]
  by_cases h1 : x.1.toList < y.1.toList
  · simp [h1]
  · by_cases h2 : y.1.toList < x.1.toList
    · have h3 : ¬ x.1 = y.1 := fun e => by rw [e] at h2; exact List.lt_irrefl _ h2
      simp [h1, h2, h3]
    · have h3 : x.1 = y.1 := toList_inj (List.le_antisymm (List.not_lt.1 h2) (List.not_lt.1 h1))
      have h6 : ¬ y.1.toList < y.1.toList := List.lt_irrefl _
      by_cases h4 : x.2 < y.2
      · simp [h3, h4, h6]
      · by_cases h5 : y.2 < x.2 <;> simp [h3, h4, h5, h6]
theorem ltP_irrefl (x : QV) : ¬ ltP x x := fun h => by
  rcases h with h | ⟨_, h⟩
  · exact List.lt_irrefl _ h
  · omega
theorem ltP_trans {x y z : QV} (h1 : ltP x y) (h2 : ltP y z) : ltP x z := by
  rcases h1 with h1 | ⟨e1, h1⟩ <;> rcases h2 with h2 | ⟨e2, h2⟩
  · exact .inl (List.lt_trans h1 h2)
  · exact .inl (by rw [← e2]; exact h1)
  · exact .inl (by rw [e1]; exact h2)
  · exact .inr ⟨e1.trans e2, by omega⟩
theorem ltP_total {x y : QV} (h1 : ¬ ltP x y) (h2 : ¬ ltP y x) : x = y := by
  have a1 : ¬ x.1.toList < y.1.toList := fun h => h1 (.inl h)
  have a2 : ¬ y.1.toList < x.1.toList := fun h => h2 (.inl h)
  have a3 : x.1 = y.1 := toList_inj (List.le_antisymm (List.not_lt.1 a2) (List.not_lt.1 a1))
  have a4 : ¬ x.2 < y.2 := fun h => h1 (.inr ⟨a3, h⟩)
  have a5 : ¬ y.2 < x.2 := fun h => h2 (.inr ⟨a3.symm, h⟩)
  exact Prod.ext a3 (by omega)
theorem swoQ : SWO (ltOf cfQ) where
  irrefl x := by rw [ltQ]; exact decide_eq_false (ltP_irrefl x)
  trans x y z h1 h2 := by
    rw [ltQ] at *
    exact decide_eq_true (ltP_trans (of_decide_eq_true h1) (of_decide_eq_true h2))
  ntrans x y z h1 h2 := by
    rw [ltQ] at *
    have h1' := of_decide_eq_false h1
    have h2' := of_decide_eq_false h2
    refine decide_eq_false fun h => ?_
    by_cases h3 : ltP y x
    · exact h2' (ltP_trans h3 h)
    · have := ltP_total h1' h3
      subst this
      exact h2' h
theorem cmpLaysQ (blk off size : Nat) (w : World) : CmpLays Try.prog 85 #[] encQ 2 cfQ blk off size w :=
  fun _ _ _ _ x y => comparePlaces_any x.1 y.1 x.2 y.2 _
theorem own_sortQ {w : World} {base g n c : Nat} {xs : List Value} (h : w.ownsRow base 89 2 (.slice (some ⟨g, 0, none⟩) n c) n xs) (d : Array QV) (hd : d.size = n) (m : Nat) (os : Array Obj) :
    (sortWorldK encQ 2 w g 0 m d os).ownsRow base 89 2 (.slice (some ⟨g, 0, none⟩) n c) n (plC d.toList) := by
  have hdl : d.toList.length = n := by simpa using hd
  refine ⟨by rw [plC_len, hdl], .inr ?_⟩
  rcases h.2 with ⟨h', _⟩ | ⟨g', cap, cur, e1, h1, h2, h3, h4, h5, h6⟩
  · simp at h'
  · injection e1 with e1 e2 e3
    injection e1 with e1
    injection e1 with e1
    subst e1 e3
    refine ⟨g, c, _, rfl, h1, heap_sortWorld encQ 2 w g m d os h2, h3, h4, by simp [putCells, h5], ?_⟩
    have hc2 : n * 2 ≤ c * 2 := Nat.mul_le_mul_right _ h3
    apply List.ext_getElem?
    intro t
    by_cases ht : t < n * 2
    · rw [List.getElem?_take_of_lt ht]
      have hg : (putCells id 0 (flatK encQ 2 d) cur).toList[t]? = some ((flatK encQ 2 d)[t]!) := by
        rw [Array.getElem?_toList, putCells, Array.getElem?_mapIdx, Array.getElem?_eq_getElem (show t < cur.size by omega)]
        simp only [Option.map_some, id_eq, Nat.zero_le, Nat.zero_add, true_and, Nat.sub_zero]
        rw [if_pos (by rw [size_flatK, hd]; exact ht)]
      have hj : t / 2 < d.size := by omega
      rw [hg, get_flatK _ _ _ _ (by rw [hd]; exact ht), getElem!_pos d (t / 2) hj]
      have hp := plC_get d.toList (t / 2) (by simpa using hj)
      rcases Nat.mod_two_eq_zero_or_one t with h0 | h0
      · rw [show t / 2 * 2 = t by omega] at hp
        rw [hp.1, h0]; simp [encQ]
      · rw [show t / 2 * 2 + 1 = t by omega] at hp
        rw [hp.2, h0]; simp [encQ]
    · rw [List.getElem?_eq_none (by rw [List.length_take]; omega), List.getElem?_eq_none (by rw [plC_len, hdl]; omega)]
theorem holds_ownQ {w : World} {base g n c : Nat} (d : Array QV) (hd : d.size = n) (h : w.ownsRow base 89 2 (.slice (some ⟨g, 0, none⟩) n c) n (plC d.toList)) : HoldsK encQ 2 w g 0 d := by
  intro t ht
  rw [size_flatK, hd] at ht
  have hj : t / 2 < d.size := by omega
  rw [Nat.zero_add, get_flatK _ _ _ _ (by rw [hd]; exact ht), getElem!_pos d (t / 2) hj]
  refine ⟨?_, h.frozenAt t⟩
  rw [h.cellAt t ht]
  have hp := plC_get d.toList (t / 2) (by simpa using hj)
  rcases Nat.mod_two_eq_zero_or_one t with h0 | h0
  · rw [show t / 2 * 2 = t by omega] at hp
    rw [hp.1, h0]; simp [encQ]
  · rw [show t / 2 * 2 + 1 = t by omega] at hp
    rw [hp.2, h0]; simp [encQ]
set_option maxHeartbeats 1000000 in
theorem sortPlaces_own (g n c : Nat) (C0 : List QV) (base : Nat) (w : World) (hl : C0.length = n) (h : w.ownsRow base 89 2 (.slice (some ⟨g, 0, none⟩) n c) n (plC C0)) (hn : n ≤ 1073741824) :
    Calls Try.prog 99 #[.slice (some ⟨g, 0, none⟩) n c, .func (.func 85) #[] #[]] w fun e w' => e = .returned (.tuple #[]) ∧ ∃ (C : List QV), C.Perm C0 ∧ (∀ i j (hij : i < j) (hj : j < C.length), ¬ ltP (C[j]'hj) (C[i]'(Nat.lt_trans hij hj))) ∧ w'.ownsRow base 89 2 (.slice (some ⟨g, 0, none⟩) n c) n (plC C) ∧ Fr (fun x => x = g) w w' := by
  subst hl
  have hgl : g < w.heap.size := (h.lt g rfl).2
  have hH : HoldsK encQ 2 w g 0 C0.toArray := holds_ownQ (n := C0.length) C0.toArray (by simp) (by simpa using h)
  have eg : ∀ args w, (callFunc 85 args).run Try.prog w = .ok (.enter 85 args) w := enters_of Try.func85 (by kernel_rfl) rfl
  have hcon := AnyQ.slices_SortFunc lay_sortPlaces 2 Try.isAgg89 Try.sizeOf89 encQ (fun _ => rfl) (fun x v hv => by simp [encQ] at hv; rcases hv with rfl | rfl <;> rfl) cfQ swoQ 85 #[] g 0 c C0.toArray w eg (cmpLaysQ g 0 _ w) hH hgl (by simp; omega)
  change Calls Try.prog 99 _ _ _ at hcon
  rw [show C0.toArray.size = C0.length by simp] at hcon
  refine hcon.mono ?_
  rintro e w' ⟨rfl, d', m, os, hp, hs, rfl⟩
  have hsz : d'.size = C0.length := hp.1.trans (by simp)
  have hpl : d'.toList.Perm C0 := by
    have h3 := hp.2.2
    have e1 : d'.extract 0 C0.length = d' := by rw [← hsz]; simp
    rw [e1] at h3
    simpa using h3
  refine ⟨rfl, d'.toList, hpl, fun i j hij hj => ?_, own_sortQ h d' hsz m os, fr_sortWorld encQ 2 w g 0 m d' os⟩
  have hj' : j < d'.size := by simpa using hj
  have h8 := hs i j (Nat.zero_le _) hij (by omega)
  rw [getElem!_pos d' j hj', getElem!_pos d' i (by omega), ltQ] at h8
  simpa using of_decide_eq_false h8
end Go.Proofs.Ytakdaandbdbdnaa
namespace Go.Proofs.Ytakdaandbdbdnaa
open Go.RowKit Go.Maps
set_option linter.unusedVariables false
set_option maxRecDepth 100000

/-- The places of a list of files, in order. -/
def placesF (f : PF) : List QV := (List.range (f.2.length / 128)).map fun (t : Nat) => (f.1, (t : Int))
def placesOf (L : List PF) : List QV := L.flatMap placesF
theorem mem_placesF {f : PF} {x : QV} : x ∈ placesF f ↔ x.1 = f.1 ∧ 0 ≤ x.2 ∧ x.2 < (f.2.length : Int) / 128 := by
  unfold placesF
  rw [List.mem_map]
  constructor
  · rintro ⟨t, ht, rfl⟩
    have := List.mem_range.1 ht
    exact ⟨rfl, by show (0 : Int) ≤ (t : Int); omega, by show (t : Int) < _; omega⟩
  · rintro ⟨h1, h2, h3⟩
    obtain ⟨t, ht⟩ := Int.eq_ofNat_of_zero_le h2
    refine ⟨t, List.mem_range.2 (by omega), Prod.ext h1.symm ht.symm⟩
theorem placesF_sorted (f : PF) : (placesF f).Pairwise ltP := by
  unfold placesF
  rw [List.pairwise_map]
  refine List.pairwise_lt_range.imp fun {a b} h => ?_
  exact .inr ⟨rfl, by show (a : Int) < (b : Int); omega⟩
theorem placesOf_sorted {L : List PF} (h : SortedN L) : (placesOf L).Pairwise ltP := by
  induction L with
  | nil => exact List.Pairwise.nil
  | cons f r ih =>
    have hr := (List.pairwise_cons.1 h)
    unfold placesOf
    rw [List.flatMap_cons]
    refine List.pairwise_append.2 ⟨placesF_sorted f, ih hr.2, fun x hx y hy => ?_⟩
    obtain ⟨g, hg, hyg⟩ := List.mem_flatMap.1 hy
    have h1 := (mem_placesF.1 hx).1
    have h2 := (mem_placesF.1 hyg).1
    exact .inl (by rw [h1, h2]; exact hr.1 g hg)
theorem mem_placesOf {L : List PF} (h : Inv L) {x : QV} : x ∈ placesOf L ↔ ∃ bs, pageOf L x.1 x.2 = some bs := by
  unfold placesOf
  rw [List.mem_flatMap]
  constructor
  · rintro ⟨f, hf, hx⟩
    obtain ⟨h1, h2, h3⟩ := mem_placesF.1 hx
    obtain ⟨i, hi, rfl⟩ := List.getElem_of_mem hf
    have e : L.getD i (ByteArray.empty, []) = L[i] := by simp [List.getD, List.getElem?_eq_getElem hi]
    have hd := dataN_of h hi
    have hp := h.pg i hi
    rw [e] at hd hp
    rw [pageOf_data, h1, hd]
    unfold pageF
    rw [if_pos (by omega)]
    exact ⟨_, rfl⟩
  · rintro ⟨bs, hb⟩
    rw [pageOf_data] at hb
    unfold pageF at hb
    split at hb
    · rename_i hc
      have hf : findN L x.1 < L.length := Decidable.byContradiction fun hn => by rw [dataN_none hn] at hc; simp at hc; omega
      refine ⟨L.getD (findN L x.1) (ByteArray.empty, []), ?_, mem_placesF.2 ⟨(findN_name hf).symm, hc.1, ?_⟩⟩
      · rw [List.getD, List.getElem?_eq_getElem hf]; exact List.getElem_mem hf
      · have : dataN L x.1 = (L.getD (findN L x.1) (ByteArray.empty, [])).2 := by unfold dataN; rw [if_pos hf]
        rw [← this]; omega
    · cases hb
theorem sorted_of {C : List QV} (h : ∀ i j (hij : i < j) (hj : j < C.length), ¬ ltP (C[j]'hj) (C[i]'(Nat.lt_trans hij hj))) (hn : C.Nodup) : C.Pairwise ltP := by
  rw [List.pairwise_iff_getElem]
  intro i j hi hj hij
  have h1 := h i j hij hj
  refine Decidable.byContradiction fun h2 => ?_
  have h3 := ltP_total h2 h1
  exact (List.pairwise_iff_getElem.1 hn i j hi hj hij) h3
/-- The places of a map that reads as a list of files, each once and in order, are the list's. -/
theorem places_eq {L : List PF} (hs : SortedN L) (hI : Inv L) (hnm : ∀ f ∈ L, f.1.size ≤ maxLen) (hsm : ∀ f ∈ L, f.2.length ≤ 1048576) {D : DataW Unit} (hR : RepS D (pageOf L)) {ss : List Pl} (hk : KeysP D ss) {C : List QV} (hp : C.Perm (ss.map (·.1))) (hC : ∀ i j (hij : i < j) (hj : j < C.length), ¬ ltP (C[j]'hj) (C[i]'(Nat.lt_trans hij hj))) : C = placesOf L := by
  have hnd : (ss.map (·.1)).Nodup := List.pairwise_map.2 (hk.1.imp fun {a b} hne e => hne (Subtype.ext e))
  have hCn : C.Nodup := hp.symm.pairwise hnd (fun h => h.symm)
  have hCs := sorted_of hC hCn
  refine List.Perm.eq_of_pairwise (le := ltP) (fun a b _ _ h1 h2 => (ltP_irrefl a (ltP_trans h1 h2)).elim) hCs (placesOf_sorted hs) ?_
  refine (List.perm_ext_iff_of_nodup hCn ((placesOf_sorted hs).imp fun {a b} h e => by subst e; exact ltP_irrefl a h)).2 fun x => ?_
  rw [hp.mem_iff, mem_placesOf hI, List.mem_map]
  constructor
  · rintro ⟨y, hy, rfl⟩
    have h1 := (hk.2.1 y).1 hy
    have h2 := hR y.1.1 y.1.2 y.2.1 y.2.2
    cases hS : pageOf L y.1.1 y.1.2 with
    | some bs => exact ⟨bs, rfl⟩
    | none =>
      rw [hS] at h2
      have h3 : has D (litPl y) = false := has_false_of_atKey h2
      rw [h1] at h3; cases h3
  · rintro ⟨bs, hb⟩
    have hm := (mem_placesOf hI).2 ⟨bs, hb⟩
    obtain ⟨f, hf, hx⟩ := List.mem_flatMap.1 hm
    obtain ⟨h1, h2, h3⟩ := mem_placesF.1 hx
    have hw : (Lit.int .i64 x.2).wf = true := WalkArith.wf_i64 (by have := hsm f hf; omega)
    have hz : x.1.size ≤ maxLen := by rw [h1]; exact hnm f hf
    refine ⟨⟨x, hz, hw⟩, (hk.2.1 _).2 ?_, rfl⟩
    have h4 := hR x.1 x.2 hz hw
    rw [hb] at h4
    exact has_true_of_atKey h4
end Go.Proofs.Ytakdaandbdbdnaa
namespace Go.Proofs.Ytakdaandbdbdnaa
open Go.RowKit Go.Maps
set_option linter.unusedVariables false
set_option maxRecDepth 100000

/-- What slices.SortedFunc answers over maps.Keys' value. -/
def SortedOk : Prop := ∀ (Bm b nn : Nat) (D0 : DataW Unit) (w : World), Bm < w.heap.size → w.cell? ⟨Bm, 0, none⟩ = some (.map (some b)) → MapS w b nn D0 → Maps.size D0 ≤ 1073741824 →
    Calls Try.prog 83 #[.func (.func 100) #[] #[.pointer (some ⟨Bm, 0, none⟩)], .func (.func 85) #[] #[]] w fun e w' => ∃ (v : Value) (C : List QV) (ss : List Pl), e = .returned v ∧ KeysP D0 ss ∧ C.Perm (ss.map (·.1)) ∧ (∀ i j (hij : i < j) (hj : j < C.length), ¬ ltP (C[j]'hj) (C[i]'(Nat.lt_trans hij hj))) ∧ w'.ownsRow w.heap.size 89 2 v C.length (plC C) ∧ Below w.heap.size w w'
/-- How many places the first i files have. -/
def cntF (L : List PF) (i : Nat) : Nat := (placesOf (L.take i)).length
def pagesN (L : List PF) (i : Nat) : Nat := (L.getD i (ByteArray.empty, [])).2.length / 128
theorem placesF_len (f : PF) : (placesF f).length = f.2.length / 128 := by simp [placesF]
theorem cntF_succ {L : List PF} {i : Nat} (h : i < L.length) : cntF L (i + 1) = cntF L i + pagesN L i := by
  unfold cntF pagesN placesOf
  rw [List.take_succ_eq_append_getElem h, List.flatMap_append, List.length_append, List.flatMap_singleton, placesF_len]
  simp [List.getD, List.getElem?_eq_getElem h]
theorem cntF_all (L : List PF) : cntF L L.length = (placesOf L).length := by unfold cntF; rw [List.take_length]
theorem cntF_le {L : List PF} {i : Nat} (h : i < L.length) : cntF L i + pagesN L i ≤ (placesOf L).length := by
  rw [← cntF_succ h]
  unfold cntF placesOf
  conv => rhs; rw [← List.take_append_drop (i + 1) L, List.flatMap_append, List.length_append]
  omega
theorem place_at {L : List PF} {i j : Nat} (h : i < L.length) (hj : j < pagesN L i) : (placesOf L)[cntF L i + j]? = some ((L.getD i (ByteArray.empty, [])).1, (j : Int)) := by
  have e : L = L.take i ++ (L[i] :: L.drop (i + 1)) := by rw [← List.drop_eq_getElem_cons h, List.take_append_drop]
  have hg : L.getD i (ByteArray.empty, []) = L[i] := by simp [List.getD, List.getElem?_eq_getElem h]
  unfold pagesN at hj
  rw [hg] at hj ⊢
  unfold cntF
  have e2 : placesOf L = placesOf (L.take i) ++ (placesF L[i] ++ placesOf (L.drop (i + 1))) := by
    conv => lhs; rw [e]
    unfold placesOf
    rw [List.flatMap_append, List.flatMap_cons]
  rw [e2, List.getElem?_append_right (by omega), Nat.add_sub_cancel_left, List.getElem?_append_left (by rw [placesF_len]; exact hj)]
  simp [placesF, hj]
/-- The files when j pages of file i have been met. -/
def curF (L : List PF) (i j : Nat) : List PF := if j = 0 then L.take i else someF L i j
theorem curF_next {L : List PF} (h : Inv L) {i j : Nat} (hi : i < L.length) (hj : j + 1 = pagesN L i) : someF L i (j + 1) = curF L (i + 1) 0 := by
  have hp := h.pg i hi
  unfold curF someF
  rw [if_pos rfl, List.take_succ_eq_append_getElem hi]
  have hg : L.getD i (ByteArray.empty, []) = L[i] := by simp [List.getD, List.getElem?_eq_getElem hi]
  unfold pagesN at hj
  rw [hg] at hj hp ⊢
  have ht : L[i].2.take ((j + 1) * 128) = L[i].2 := List.take_of_length_le (by omega)
  rw [ht]
theorem curF_step (L : List PF) (i j : Nat) : someF L i (j + 1) = curF L i (j + 1) := by unfold curF; rw [if_neg (by omega)]
theorem page_i {L : List PF} (h : Inv L) {i j : Nat} (hi : i < L.length) (hj : j < pagesN L i) : pageOf L (L.getD i (ByteArray.empty, [])).1 (j : Int) = some (((L.getD i (ByteArray.empty, [])).2.drop (j * 128)).take 128) := by
  rw [pageOf_data, dataN_of h hi]
  unfold pagesN at hj
  unfold pageF
  rw [if_pos (by omega)]
  rfl
theorem take_more (ds : List Int) (j : Nat) : ds.take ((j + 1) * 128) = ds.take (j * 128) ++ (ds.drop (j * 128)).take 128 := by
  rw [show (j + 1) * 128 = j * 128 + 128 by omega, List.take_add]
end Go.Proofs.Ytakdaandbdbdnaa
namespace Go.Proofs.Ytakdaandbdbdnaa
open Go.RowKit Go.Maps
set_option linter.unusedVariables false
set_option maxRecDepth 100000

theorem plC_nil : plC [] = [] := rfl
set_option maxHeartbeats 1000000 in
/-- slices.SortedFunc, where slices.SortFunc does nothing to a nil slice. -/
theorem sorted_any (hnone : ∀ w : World, Calls Try.prog 99 #[.slice none 0 0, .func (.func 85) #[] #[]] w fun e w' => e = .returned (.tuple #[]) ∧ w' = w) : SortedOk := by
  intro Bm b nn D0 w hBm hm hown hsz
  go_enter Try.func83, Try.ntmps83
  go_wp2_with fail
  refine (collectKeys Bm b nn D0 w hBm hm hown hsz).mono ?_
  rintro e w1 ⟨v, ss, rfl, hk, hrow, hb1⟩
  rcases hrow.2 with ⟨rfl, h0⟩ | ⟨g, cap, cur, rfl, hbase, hgb, r1, r2, r3, r4⟩
  · have hss : ss = [] := List.eq_nil_of_length_eq_zero h0
    subst hss
    go_wp2_with fail
    refine (hnone w1).mono ?_
    rintro e w2 ⟨rfl, rfl⟩
    go_wp2
    go_ret
    exact ⟨_, [], [], rfl, hk, List.Perm.refl _, fun i j hij hj => absurd hj (Nat.not_lt_zero _), World.ownsRow_nil _ _ _ _, hb1⟩
  · have hlen : ss.length ≤ 1073741824 := Nat.le_trans hk.2.2 hsz
    rw [plC_of] at hrow
    go_wp2_with fail
    refine (sortPlaces_own g ss.length cap (ss.map (·.1)) w.heap.size w1 (by simp) hrow hlen).mono ?_
    rintro e w2 ⟨rfl, C, hp, hC, hrow2, hF2⟩
    have hCl : C.length = ss.length := by rw [hp.length_eq]; simp
    go_wp2
    go_ret
    exact ⟨_, C, ss, rfl, hk, hp, hC, by rw [hCl]; exact hrow2, hb1.trans (hF2.below hb1.size (fun x e => by omega))⟩
theorem sortedOk : SortedOk := sorted_any fun w => by
  have h := AnyF.slices_SortFunc_none lay_sortPlaces none 0 (.func (.func 85) #[] #[]) w
  change Calls Try.prog 99 _ _ _ at h
  exact h
end Go.Proofs.Ytakdaandbdbdnaa
namespace Go.Proofs.Ytakdaandbdbdnaa
open Go.RowKit Go.Maps
set_option linter.unusedVariables false
set_option maxRecDepth 100000

theorem run_sliceAll2 (g : Nat) (w : World) : (Instr.sliceAt 86 (.pointer (some ⟨g, 0, none⟩)) none none none).run Try.prog w = .ok (.slice (some ⟨g, 0, none⟩) 128 128) w := by
  rw [run_sliceAt_array_all w 86 _ arrSheet, elemSheet, show (sizeOf 5).run Try.prog w = .ok 1 w by kernel_rfl]
  simp [slicedAt, go_sem, Addr.add]
theorem someF_zero {L : List PF} {i : Nat} {nm : ByteArray} (h : nm = (L.getD i (ByteArray.empty, [])).1) : someF L i 0 = curF L i 0 ++ [(nm, [])] := by
  unfold someF curF
  rw [if_pos rfl, ← h]
  simp
theorem someF_len {L : List PF} {i j : Nat} (h : i < L.length) : (someF L i j).length = i + 1 := by unfold someF; simp; omega
/-- The page that is met, in any world behind the sort. -/
theorem met_page {L : List PF} {D : DataW Unit} {w2 w3 : World} {mb q i j : Nat} {nm : ByteArray} (hM : MapS w2 mb q D) (hmb : mb < w2.heap.size) (hB : Below w2.heap.size w2 w3) (hR : RepS D (pageOf L)) (hBF : ByteF L) (hnm : nm.size ≤ maxLen) (hjw : (Lit.int .i64 (j : Int)).wf = true) (hp : pageOf L nm (j : Int) = some (((L.getD i (ByteArray.empty, [])).2.drop (j * 128)).take 128)) :
    ∃ pgb : List Int, Hid (pgb = ((L.getD i (ByteArray.empty, [])).2.drop (j * 128)).take 128) ∧ pgb.length = 128 ∧ (∀ x ∈ pgb, 0 ≤ x ∧ x ≤ 255) ∧ (Instr.lookup 80 (.map (some mb)) (.agg #[.string nm, .int .i64 (j : Int)]) false).run Try.prog w3 = .ok (.agg (u8s pgb).toArray) w3 := by
  obtain ⟨h1, h2, h3⟩ := look_plF (hM.to (hB.block mb hmb)) hR hnm hjw (fun bs hb => page_byte hBF nm (j : Int) bs hb)
  refine ⟨_, ?_, h2, h3, h1⟩
  show _ = _
  unfold oldS
  rw [hp]
  rfl
theorem u8s_app2 (a b : List Int) : u8s a ++ u8s b = u8s (a ++ b) := by simp [u8s]
/-- A page behind the bytes of a file. -/
theorem edit_page {w4 w4' w5 : World} {base : Nat} {dv : Value} {ua : Option Addr} {uc : Nat} {old pgb : List Int} (hw : w4.os = w4'.os ∧ w4.tape = w4'.tape ∧ w4.output = w4'.output ∧ w4.heap = w4'.heap) (hown : w5.ownsRow base 5 1 (.slice ua (old.length + 128) uc) (old.length + 128) (u8s old ++ u8s pgb)) (hgr : w4'.grownBy w5 dv.ownBlock) (hl : (Value.slice ua (old.length + 128) uc).ownBlock = dv.ownBlock ∨ ∀ g, (Value.slice ua (old.length + 128) uc).ownBlock = some g → w4'.heap.size ≤ g) (hpl : pgb.length = 128) : Edit w4 w5 base dv (.slice ua (old.length + 128) uc) (old ++ pgb) := by
  obtain ⟨e1, e2, e3, e4⟩ := hw
  refine ⟨?_, ⟨hgr.os.trans e1.symm, hgr.tape.trans e2.symm, hgr.output.trans e3.symm, by rw [e4]; exact hgr.size, fun k hk hne => by rw [e4] at hk ⊢; exact hgr.block k hk hne⟩, by rw [e4]; exact hl⟩
  rw [List.length_append, hpl, ← u8s_app2]
  exact hown
theorem edit_cell {w1 wr : World} {base g n c i : Nat} {bv : Value} {fs : List PF} {xs vs : List Value} {l : List Int} (h : OwnF w1 base (.slice (some ⟨g, 0, none⟩) n c) fs xs vs) (hi : i < fs.length) (he : Edit w1 wr base (vs.getD i (.slice none 0 0)) bv l) : wr.cell? ⟨g, i * 2 + 1, none⟩ = some (vs.getD i (.slice none 0 0)) ∧ wr.frozen? ⟨g, i * 2 + 1, none⟩ = false := by
  have hk := h.row.kept he.grown (by
    rcases own_ne h.row (h.data i hi) with h1 | h1
    · exact .inr (by rw [h1]; simp [Value.ownBlock])
    · exact .inr (fun e => h1 e.symm))
  have hn : n = fs.length := h.rowF.1
  subst hn
  exact ⟨(hk.cellAt (i * 2 + 1) (by omega)).trans (h.val i hi), hk.frozenAt _⟩
theorem someF_set {L : List PF} {i j : Nat} (h : i < L.length) {pgb : List Int} (hp : pgb = ((L.getD i (ByteArray.empty, [])).2.drop (j * 128)).take 128) : (someF L i j).set i (((someF L i j).getD i (ByteArray.empty, [])).1, (L.getD i (ByteArray.empty, [])).2.take (j * 128) ++ pgb) = someF L i (j + 1) := by
  have hl : (L.take i).length = i := by simp; omega
  unfold someF
  have hg : (L.take i ++ [((L.getD i (ByteArray.empty, [])).1, (L.getD i (ByteArray.empty, [])).2.take (j * 128))]).getD i (ByteArray.empty, []) = ((L.getD i (ByteArray.empty, [])).1, (L.getD i (ByteArray.empty, [])).2.take (j * 128)) := by
    rw [List.getD, List.getElem?_append_right (by omega), hl]; simp
  rw [hg, List.set_append_right _ _ (by omega), hl, Nat.sub_self, hp, take_more]
  rfl
theorem someF_data {L : List PF} {i j : Nat} (h : i < L.length) : ((someF L i j).getD i (ByteArray.empty, [])).2 = (L.getD i (ByteArray.empty, [])).2.take (j * 128) := by
  have hl : (L.take i).length = i := by simp; omega
  unfold someF
  rw [List.getD, List.getElem?_append_right (by omega), hl]; simp
set_option maxHeartbeats 6400000 in
theorem files_any (mb q : Nat) (D : DataW Unit) (L : List PF) (w : World) (hM : MapS w mb q D) (hR : RepS D (pageOf L)) (hs : SortedN L) (hI : Inv L) (hBF : ByteF L) (hn : L.length ≤ 12) (hnm : ∀ f ∈ L, f.1.size ≤ maxLen) (hsm : ∀ f ∈ L, f.2.length ≤ 1048576) (hsz : Maps.size D ≤ 1073741824) :
    Calls Try.prog 52 #[.map (some mb)] w fun e w' => ∃ v xs vs, e = .returned v ∧ OwnF w' w.heap.size v L xs vs ∧ Below w.heap.size w w' := by
  have hmb : mb < w.heap.size := World.ownsMap.lt hM
  have hb0 : Below w.heap.size w (w.alloc (.cells #[.map (some mb)] 80)) := (Below.refl _ _).alloc (Nat.le_refl _) _
  have hm0 : (w.alloc (.cells #[.map (some mb)] 80)).cell? ⟨w.heap.size, 0, none⟩ = some (.map (some mb)) := by simp
  obtain ⟨i0, hiu, hz0, hz1, hz2⟩ := info_parts info_u8
  obtain ⟨i1, hi1, hy0, hy1, hy2⟩ := info_parts info_File
  go_enter Try.func52, Try.ntmps52
  go_wp2_with fail
  refine (keysCall (some mb) w).mono ?_
  rintro e w1 ⟨rfl, rfl⟩
  go_wp2_with fail
  refine (sortedOk w.heap.size mb q D _ (by simp) hm0 (World.ownsMap.alloc hM _) hsz).mono ?_
  rintro e w2 ⟨v, C, ss, rfl, hk, hp, hC, hrow, hb2⟩
  have hCe := places_eq hs hI hnm hsm hR hk hp hC
  subst hCe
  obtain ⟨a, c, rfl⟩ := own_shape hrow
  have hM2 : MapS w2 mb q D := MapS.to (World.ownsMap.alloc hM _) (hb2.block mb (by simp; omega))
  have hg2 : Below w.heap.size w w2 := hb0.trans (hb2.mono (by simp))
  have hz2' : w.heap.size ≤ w2.heap.size := hg2.size
  have hTot : (placesOf L).length ≤ 1048576 * 12 := by
    have h1 : ∀ M : List PF, (∀ f ∈ M, f.2.length ≤ 1048576) → (placesOf M).length ≤ 1048576 * M.length := fun M => by
      induction M with
      | nil => intro _; simp [placesOf]
      | cons f r ih =>
        intro hM
        have h2 := ih (fun g hg => hM g (List.mem_cons_of_mem _ hg))
        have h3 := hM f List.mem_cons_self
        unfold placesOf at h2 ⊢
        rw [List.flatMap_cons, List.length_append, placesF_len, List.length_cons]
        omega
    have := h1 L hsm
    omega
  have HROW : Hid (∀ t (i j : Nat), t = cntF L i + j → i < L.length → j < pagesN L i → ∃ g, a = some ⟨g, 0, none⟩ ∧ g < w2.heap.size ∧ w2.cell? ⟨g, t * 2, none⟩ = some (.string (L.getD i (ByteArray.empty, [])).1) ∧ w2.cell? ⟨g, t * 2 + 1, none⟩ = some (.int .i64 (j : Int))) := by
    intro t i j ht hi hj
    have hle := cntF_le hi
    have hpl := place_at hi hj
    rw [← ht] at hpl
    have htl : t < (placesOf L).length := by omega
    obtain ⟨g, rfl⟩ : ∃ g, a = some ⟨g, 0, none⟩ := by
      rcases hrow.2 with ⟨_, h0⟩ | ⟨g, cap, cur, h0, _⟩
      · omega
      · injection h0 with h1; exact ⟨g, h1⟩
    have hgt := plC_get (placesOf L) t htl
    have hx : (placesOf L)[t] = ((L.getD i (ByteArray.empty, [])).1, (j : Int)) := by
      have := List.getElem?_eq_getElem htl
      rw [hpl] at this
      injection this with this
      exact this.symm
    rw [hx] at hgt
    exact ⟨g, rfl, (hrow.lt g rfl).2, (hrow.cellAt (t * 2) (by omega)).trans hgt.1, (hrow.cellAt (t * 2 + 1) (by omega)).trans hgt.2⟩
  have HM : Hid (MapS w2 mb q D) := hM2
  have HR : Hid (RepS D (pageOf L)) := hR
  have HI : Hid (Inv L) := hI
  have HBF : Hid (ByteF L) := hBF
  have HNM : Hid (∀ f ∈ L, f.1.size ≤ maxLen) := hnm
  have HSM : Hid (∀ f ∈ L, f.2.length ≤ 1048576) := hsm
  have HG2 : Hid (Below w.heap.size w w2) := hg2
  have hcm : c ≤ 9223372036854775807 ∧ (placesOf L).length ≤ c := by
    rcases hrow.2 with ⟨e, _⟩ | ⟨g, cap, cur, e, _, _, h3, h4, _⟩
    · simp only [Value.slice.injEq] at e; omega
    · simp only [Value.slice.injEq] at e
      unfold maxLen at h4
      omega
  obtain ⟨m, hm⟩ : ∃ m, m = (placesOf L).length := ⟨_, rfl⟩
  have HMM : Hid (m = (placesOf L).length) := hm
  rw [← hm] at hTot hcm ⊢
  clear hm hrow hM2 hM hR hI hBF hnm hsm hg2 hb2 hb0 hm0 hk hp hC hs hsz
  go_wp2
  go_loopw [3, 5, 6, 7, 12] (fun v _ _ _ k wr => ∃ (t i j : Nat) (xs vs : List Value), t ≤ m ∧ k = .int .i64 t ∧ t = cntF L i + j ∧ ((i < L.length ∧ j < pagesN L i) ∨ (i = L.length ∧ j = 0)) ∧ Hid (OwnF wr w2.heap.size v (curF L i j) xs vs) ∧ Hid (Below w2.heap.size w2 wr)) (fun _ _ _ _ k _ => m - (intOf k).toNat)
  case atStart =>
    refine ⟨0, 0, 0, [], [], Nat.zero_le _, rfl, by simp [cntF, placesOf], ?_, ?_, Below.refl _ _⟩
    · by_cases hl : 0 < L.length
      · refine .inl ⟨hl, ?_⟩
        have := (HI.out.pg _ hl).1
        unfold pagesN
        omega
      · exact .inr ⟨by omega, rfl⟩
    · exact OwnF.nil (World.ownsRow_nil _ _ _ _)
  case round =>
    obtain ⟨t, i, j, xs, vs, ht, rfl, htc, hcase, HO, HB⟩ := hrel
    obtain ⟨va, vn, vc, rfl, hvn, hfa⟩ := HO.out.files
    have HVN : Hid (vn = (curF L i j).length) := hvn
    have hrowF : wr.ownsRow w2.heap.size 92 2 (.slice va vn vc) vn xs := by rw [hvn]; rw [hvn] at HO; exact HO.out.row
    have hvn12 : vn ≤ 12 := by
      rw [hvn]
      unfold curF someF
      split
      · simp; omega
      · rcases hcase with h | h
        · simp; omega
        · omega
    clear hvn
    have HFA : Hid (FilesAt wr w2.heap.size wr.heap.size va vn vc (curF L i j)) := hfa
    have hvc := hfa.2.1
    have hvm := hfa.2.2.1
    unfold maxLen at hvm
    clear hfa
    by_cases hlt : t < m
    · obtain ⟨hi, hj⟩ : i < L.length ∧ j < pagesN L i := by
        rcases hcase with h | ⟨h1, h2⟩
        · exact h
        · subst h1 h2
          have := cntF_all L
          have := HMM.out
          omega
      obtain ⟨g, rfl, hg, c0, c1⟩ := HROW.out t i j htc hi hj
      have hsW := HB.out.size
      have d0 := (HB.out.cell (p := ⟨g, t * 2, none⟩) hg).trans c0
      have d1 := (HB.out.cell (p := ⟨g, t * 2 + 1, none⟩) hg).trans c1
      have hgl : g < wr.heap.size := by omega
      have hpi := page_i HI.out hi hj
      have hnmi : (L.getD i (ByteArray.empty, [])).1.size ≤ maxLen := by
        have e : L.getD i (ByteArray.empty, []) = L[i] := by simp [List.getD, List.getElem?_eq_getElem hi]
        rw [e]; exact HNM.out _ (List.getElem_mem hi)
      have hjw : (Lit.int .i64 (j : Int)).wf = true := WalkArith.wf_i64 (by
        have e : L.getD i (ByteArray.empty, []) = L[i] := by simp [List.getD, List.getElem?_eq_getElem hi]
        have := HSM.out _ (List.getElem_mem hi)
        unfold pagesN at hj
        rw [e] at hj
        omega)
      obtain ⟨nm, hnmE⟩ : ∃ nm, nm = (L.getD i (ByteArray.empty, [])).1 := ⟨_, rfl⟩
      have HNE : Hid (nm = (L.getD i (ByteArray.empty, [])).1) := hnmE
      rw [← hnmE] at d0 hpi hnmi
      have HTC : Hid (t = cntF L i + j) := htc
      have HPI : Hid (pageOf L nm (j : Int) = some (((L.getD i (ByteArray.empty, [])).2.drop (j * 128)).take 128)) := hpi
      clear c0 c1 hnmE hcase HROW htc hpi
      by_cases hj0 : j = 0
      · have htz : (((j : Nat) : Int) == 0) = true := by simp [hj0]
        have HJ0 : Hid (j = 0) := hj0
        have hvi : vn = i := by rw [HVN.out]; unfold curF; rw [if_pos hj0]; simp; omega
        subst hvi
        clear hj0
        have hcells : ∀ (k : Nat) (u : Value), [Value.string nm, .slice none 0 0][k]? = some u → ((wr.alloc (.cells #[.string nm, .int .i64 (j : Int)] 89)).alloc (.cells #[.string nm, .slice none 0 0] 92)).cell? ((⟨wr.heap.size + 1, 0, none⟩ : Addr).add k) = some u := by
          have := cell_two_new (wr.alloc (.cells #[.string nm, .int .i64 (j : Int)] 89)) (.string nm) (.slice none 0 0) 92
          rw [show (wr.alloc (.cells #[.string nm, .int .i64 (j : Int)] 89)).heap.size = wr.heap.size + 1 by simp] at this
          exact this
        go_wp2_with (at_builtin; refine wpList_append_own2 _ rfl _ _ 23 rfl w2.heap.size 92 i1 _ 2 40 Try.underlying23 hi1 hy0 hy1 hy2 rfl (by decide) _ _ _ rfl ((hrowF.alloc _).alloc _) ⟨wr.heap.size + 1, 0, none⟩ 1 1 [.string nm, .slice none 0 0] rfl rfl hcells (by simp [Value.oneCell']) (by unfold maxLen; omega) (by omega) (by simp; omega) ?_; intro v' w3 hown' hgr hat; obtain ⟨g', cap', rfl⟩ := ownsRow_succ hown'; have hB3 : Below w2.heap.size w2 w3 := ((HB.out.alloc hsW _).alloc (by simp; omega) _).grown hgr (by simp; omega) (fun k e => (hrowF.lt k e).1); have b0 : w3.heap[wr.heap.size]? = some (.cells #[.string nm, .int .i64 (j : Int)] 89) := (hgr.block wr.heap.size (by simp; omega) (fun e => by have := hrowF.lt _ e.symm; omega)).trans (by rw [heap_alloc_old _ _ (by simp)]; exact heap_alloc_new _ _); obtain ⟨p0, p1⟩ := box_two2D b0; obtain ⟨pgb, HPG, hpl, hpr, hlk⟩ := met_page HM.out (by omega) hB3 HR.out HBF.out hnmi hjw HPI.out; have hst := storeCells_new w3 pgb hpl; have hul : (u8s pgb).length = 128 := (by simp [u8s, hpl]); have hsl := run_sliceAll2 w3.heap.size; have hgl3 := (hown'.lt g' rfl).2; have hlt3 : wr.heap.size < w3.heap.size := (Array.getElem?_eq_some_iff.1 b0).1; have hxl := hrowF.1; have hd0 : w3.cell? ⟨g', vn * 2 + 1, none⟩ = some (.slice none 0 0) := (hown'.cellAt (vn * 2 + 1) (by omega)).trans (by rw [List.getElem?_append_right (by omega), show vn * 2 + 1 - xs.length = 1 by omega]; rfl))
        have O3 : Hid (OwnF w3 w2.heap.size (.slice (some ⟨g', 0, none⟩) (vn + 1) cap') (someF L vn j) (xs ++ [.string nm, .slice none 0 0]) (vs ++ [.slice none 0 0])) := by
          have hx := OwnF.push (f := (nm, [])) HO.out hsW ((Below.refl _ wr).alloc (Nat.le_refl _) (.cells #[.string nm, .int .i64 (j : Int)] 89)) (World.ownsRow_nil _ _ _ _) hnmi (by simp) ((Below.refl _ _).alloc (Nat.le_refl _) _) (by rw [← HVN.out]; exact hown') hgr
          have e : someF L vn j = curF L vn j ++ [(nm, [])] := by rw [HJ0.out]; exact someF_zero HNE.out
          show OwnF _ _ _ _ _ _
          rw [e]; exact hx
        obtain ⟨G, XS, VS, CAP, hG, hXS, hVS, hCAP⟩ : ∃ (G : Nat) (XS VS : List Value) (CAP : Nat), G = g' ∧ XS = xs ++ [.string nm, .slice none 0 0] ∧ VS = vs ++ [.slice none 0 0] ∧ CAP = cap' := ⟨_, _, _, _, rfl, rfl, rfl, rfl⟩
        rw [← hXS, ← hVS] at O3
        subst hG hCAP
        clear hXS hVS hown' hgr hat hd0 b0 p0 p1 hcells hlk hst
        have HIX : Hid (vn < (someF L vn j).length) := by show _ < _; rw [someF_len hi]; omega
        have hdlen : (L.getD vn (ByteArray.empty, [])).2.length ≤ 1048576 := by
          have e : L.getD vn (ByteArray.empty, []) = L[vn] := by simp [List.getD, List.getElem?_eq_getElem hi]
          rw [e]; exact HSM.out _ (List.getElem_mem hi)
        obtain ⟨old, hold⟩ : ∃ old, old = (L.getD vn (ByteArray.empty, [])).2.take (j * 128) := ⟨_, rfl⟩
        have HOLD : Hid (old = (L.getD vn (ByteArray.empty, [])).2.take (j * 128)) := hold
        have hol : old.length ≤ 1048576 := by rw [hold, List.length_take]; omega
        have hal4 : Below w3.heap.size w3 (w3.alloc (.cells (u8s pgb).toArray 86)) := (Below.refl _ _).alloc (Nat.le_refl _) _
        have O4 := O3.out.below hal4
        have hdr := O4.data vn HIX.out
        rw [someF_data hi, ← hold] at hdr
        have hdc := (edit_cell O4 HIX.out (Edit.start (O4.data vn HIX.out))).1
        have hby4 := O4.byte vn HIX.out
        rw [someF_data hi, ← hold] at hby4
        have hnew : ∀ (k : Nat) (u : Value), (u8s pgb)[k]? = some u → (w3.alloc (.cells (u8s pgb).toArray 86)).cell? ((⟨w3.heap.size, 0, none⟩ : Addr).add k) = some u := fun k u hu => by
          rw [Addr.add_mid, Nat.zero_add, cell_of_row _ _ k _ _ _ (heap_alloc_new w3 _)]
          simpa using hu
        have hB4 := hB3.trans (hal4.mono hB3.size)
        generalize w3.alloc (.cells (u8s pgb).toArray 86) = w4 at hal4 O4 hdr hdc hnew hB4 ⊢
        have HOF4 : Hid (OwnF w4 w2.heap.size (.slice (some ⟨G, 0, none⟩) (vn + 1) CAP) (someF L vn j) XS VS) := O4
        obtain ⟨dv, hdv⟩ : ∃ dv, dv = VS.getD vn (.slice none 0 0) := ⟨_, rfl⟩
        have HDV : Hid (dv = VS.getD vn (.slice none 0 0)) := hdv
        rw [← hdv] at hdr hdc
        have HDROW : Hid (w4.drew.ownsRow w2.heap.size 5 1 dv old.length (u8s old)) := hdr
        have HNEWS : Hid (∀ (k : Nat) (u : Value), (u8s pgb)[k]? = some u → w4.drew.cell? ((⟨w3.heap.size, 0, none⟩ : Addr).add k) = some u) := hnew
        have HONE : Hid (∀ u ∈ u8s pgb, u.oneCell' = true) := fun u hu => by simp only [u8s, List.mem_map] at hu; obtain ⟨x, _, rfl⟩ := hu; rfl
        have HBS : Hid (w2.heap.size ≤ w4.drew.heap.size) := hB4.size
        have HDW : Hid (w4.os = w4.drew.os ∧ w4.tape = w4.drew.tape ∧ w4.output = w4.drew.output ∧ w4.heap = w4.drew.heap) := ⟨rfl, rfl, rfl, rfl⟩
        have HOLDB : Hid (∀ x ∈ old ++ pgb, 0 ≤ x ∧ x ≤ 255) := fun x hx => (List.mem_append.1 hx).elim (hby4 x) (hpr x)
        have HB4 : Hid (Below w2.heap.size w2 w4) := hB4
        clear hdv hold hdr hnew O4 O3 hby4 hB4 hal4 hB3
        refine wp_region_noPanic ?_
        refine wp_region_held_drew (S := (fun _ => True)) (by kernel_rfl) ?_ (fun hHeld => ?_)
        · trivial
        refine wpAnyH_take (i := 0) (oi := { dst := some 33, op := Op.move (Operand.tmp 7), type := 124, pos := "l1_disk.go:273", after := #[], guard := none }) (v := ?_) rfl (by kernel_rfl) (by kernel_rfl) (by kernel_rfl) (fun _ _ _ h => h) (Or.inl ⟨by rfl, ?_⟩) (by assumption) ?_
        rotate_left 1
        · intro w hSw; (try dsimp only at hSw); go_simp; try (with_reducible rfl)
        try simp only [Act.put, List.setIfInBounds_toArray, List.set_cons_zero, List.set_cons_succ]
        refine wpAnyH_take (i := 1) (oi := { dst := some 34, op := Op.move (Operand.tmp 7), type := 124, pos := "l1_disk.go:273", after := #[], guard := none }) (v := ?_) rfl (by kernel_rfl) (by kernel_rfl) (by kernel_rfl) (fun _ _ _ h => h) (Or.inl ⟨by rfl, ?_⟩) (by assumption) ?_
        rotate_left 1
        · intro w hSw; (try dsimp only at hSw); go_simp; try (with_reducible rfl)
        try simp only [Act.put, List.setIfInBounds_toArray, List.set_cons_zero, List.set_cons_succ]
        refine wpAnyH_take (i := 2) (oi := { dst := some 35, op := Op.nilCheck (Operand.tmp 34), type := 0, pos := "l1_disk.go:273", after := #[{ on := 1, ground := Ground.data }], guard := none }) (v := ?_) rfl (by kernel_rfl) (by kernel_rfl) (by kernel_rfl) (fun _ _ _ h => h) (Or.inl ⟨by rfl, ?_⟩) (by assumption) ?_
        rotate_left 1
        · intro w hSw; (try dsimp only at hSw); go_simp; try (with_reducible rfl)
        try simp only [Act.put, List.setIfInBounds_toArray, List.set_cons_zero, List.set_cons_succ]
        refine wpAnyH_take (i := 3) (oi := { dst := some 36, op := Op.fieldAddr 92 (Operand.tmp 35) 1, type := 0, pos := "l1_disk.go:273", after := #[{ on := 2, ground := Ground.data }], guard := none }) (v := ?_) rfl (by kernel_rfl) (by kernel_rfl) (by kernel_rfl) (fun _ _ _ h => h) (Or.inl ⟨by rfl, ?_⟩) (by assumption) ?_
        rotate_left 1
        · intro w hSw; (try dsimp only at hSw); go_simp; try (with_reducible rfl)
        try simp only [Act.put, List.setIfInBounds_toArray, List.set_cons_zero, List.set_cons_succ]
        refine wpAnyH_take (i := 5) (oi := { dst := some 38, op := Op.slice 86 (Operand.tmp 6) none none none, type := 22, pos := "l1_disk.go:273", after := #[], guard := none }) (v := .slice (some ⟨w3.heap.size, 0, none⟩) 128 128) rfl (by kernel_rfl) (by kernel_rfl) (by kernel_rfl) (fun _ _ _ h => h) (Or.inl ⟨by rfl, ?_⟩) (by assumption) ?_
        · intro w hSw; (try dsimp only at hSw); have hsl := run_sliceAll2 (w3.heap.size) w; go_simp
        try simp only [Act.put, List.setIfInBounds_toArray, List.set_cons_zero, List.set_cons_succ]
        refine wpAnyH_ready (rs := [4]) (by kernel_rfl) (by simp) ?_
        refine AllReadyH.cons (o := { dst := some 37, op := Op.load 22 (Operand.tmp 36), type := 22, pos := "l1_disk.go:273", after := #[{ on := 3, ground := Ground.data }], guard := none }) rfl (fun K hK => ?_) ?_
        rotate_left 1
        exact AllReadyH.nil
        go_simp
        refine hK.out _ _ trivial (fun hHeld => ?_)
        clear hK K
        try simp only [Act.put, List.setIfInBounds_toArray, List.set_cons_zero, List.set_cons_succ]
        refine wpAnyH_ready (rs := [6]) (by kernel_rfl) (by simp) ?_
        refine AllReadyH.cons (o := { dst := some 39, op := Op.call { callee := Callee.builtin Builtin.append, args := #[Operand.tmp 37, Operand.tmp 38], argTypes := #[22, 22] }, type := 22, pos := "l1_disk.go:273", after := #[{ on := 4, ground := Ground.data }, { on := 5, ground := Ground.data }], guard := none }) rfl (fun K hK => ?_) ?_
        rotate_left 1
        exact AllReadyH.nil
        refine step_append_ownD rfl (.tmp 37) (.tmp 38) 22 rfl w2.heap.size 5 i0 _ 1 1 Try.underlying22 hiu hz0 hz1 hz2 rfl (by decide) dv old.length (u8s old) (by simp [Act.eval]) HDROW.out ⟨w3.heap.size, 0, none⟩ 128 128 (u8s pgb) (by simp [Act.eval]) (by rw [hul]) HNEWS.out HONE.out (by unfold maxLen; omega) (by omega) HBS.out ?_
        intro u4 w5 hown5 hgr5 hlies5
        obtain ⟨ua, uc, rfl⟩ := own_shape hown5
        have hE5 := edit_page HDW.out hown5 hgr5 hlies5 hpl
        rw [HDV.out] at hE5
        have hO5 := HOF4.out.edit HIX.out hE5 HOLDB.out
        have hcell5 := edit_cell HOF4.out HIX.out hE5
        obtain ⟨hc5, hf5⟩ := hcell5
        refine hK.out _ _ trivial (fun hHeld => ?_)
        clear hK K
        try simp only [Act.put, List.setIfInBounds_toArray, List.set_cons_zero, List.set_cons_succ]
        refine wpAnyH_take (i := 7) (oi := { dst := some 40, op := Op.nilCheck (Operand.tmp 33), type := 0, pos := "l1_disk.go:273", after := #[{ on := 0, ground := Ground.data }, { on := 0, ground := Ground.phase }, { on := 1, ground := Ground.phase }, { on := 2, ground := Ground.phase }, { on := 3, ground := Ground.phase }, { on := 4, ground := Ground.phase }, { on := 5, ground := Ground.phase }, { on := 6, ground := Ground.phase }], guard := none }) (v := ?_) rfl (by kernel_rfl) (by kernel_rfl) (by kernel_rfl) (fun _ _ _ h => h) (Or.inl ⟨by rfl, ?_⟩) (by assumption) ?_
        rotate_left 1
        · intro w hSw; (try dsimp only at hSw); go_simp; try (with_reducible rfl)
        try simp only [Act.put, List.setIfInBounds_toArray, List.set_cons_zero, List.set_cons_succ]
        refine wpAnyH_take (i := 8) (oi := { dst := some 41, op := Op.fieldAddr 92 (Operand.tmp 40) 1, type := 0, pos := "l1_disk.go:273", after := #[{ on := 7, ground := Ground.data }, { on := 0, ground := Ground.phase }, { on := 1, ground := Ground.phase }, { on := 2, ground := Ground.phase }, { on := 3, ground := Ground.phase }, { on := 4, ground := Ground.phase }, { on := 5, ground := Ground.phase }, { on := 6, ground := Ground.phase }], guard := none }) (v := ?_) rfl (by kernel_rfl) (by kernel_rfl) (by kernel_rfl) (fun _ _ _ h => h) (Or.inl ⟨by rfl, ?_⟩) (by assumption) ?_
        rotate_left 1
        · intro w hSw; (try dsimp only at hSw); go_simp; try (with_reducible rfl)
        try simp only [Act.put, List.setIfInBounds_toArray, List.set_cons_zero, List.set_cons_succ]
        refine wpAnyH_ready (rs := [9]) (by kernel_rfl) (by simp) ?_
        refine AllReadyH.cons (o := { dst := none, op := Op.store 22 (Operand.tmp 41) (Operand.tmp 39), type := 0, pos := "l1_disk.go:273", after := #[{ on := 8, ground := Ground.data }, { on := 6, ground := Ground.data }, { on := 6, ground := Ground.chain }, { on := 0, ground := Ground.phase }, { on := 1, ground := Ground.phase }, { on := 2, ground := Ground.phase }, { on := 3, ground := Ground.phase }, { on := 4, ground := Ground.phase }, { on := 5, ground := Ground.phase }, { on := 6, ground := Ground.phase }], guard := none }) rfl (fun K hK => ?_) ?_
        rotate_left 1
        exact AllReadyH.nil
        go_simp
        refine hK.out _ _ trivial (fun hHeld => ?_)
        clear hK K
        try simp only [Act.put, List.setIfInBounds_toArray, List.set_cons_zero, List.set_cons_succ]
        refine wpAnyH_done (by kernel_rfl) ?_ _
        refine NoPanic.normal ?_
        have e6 := someF_set hi HPG.out
        rw [← HOLD.out] at e6
        rw [e6] at hO5
        have hGb : w2.heap.size ≤ G := (HOF4.out.row.lt G rfl).1
        have hBE : Below w2.heap.size w2 (w5.setCell ⟨G, vn * 2 + 1, none⟩ (.slice ua (old.length + 128) uc)) := ((HB4.out.grown hE5.grown HB4.out.size (fun k e => ((HOF4.out.data vn HIX.out).lt k e).1)).setCell (p := ⟨G, vn * 2 + 1, none⟩) hGb _)
        have HBE : Hid (Below w2.heap.size w2 (w5.setCell ⟨G, vn * 2 + 1, none⟩ (.slice ua (old.length + 128) uc))) := hBE
        obtain ⟨i', j', XS', VS', HT', hcase', HO'⟩ : ∃ (i' j' : Nat) (XS' VS' : List Value), Hid (t + 1 = cntF L i' + j') ∧ Hid ((i' < L.length ∧ j' < pagesN L i') ∨ (i' = L.length ∧ j' = 0)) ∧ Hid (OwnF (w5.setCell ⟨G, vn * 2 + 1, none⟩ (.slice ua (old.length + 128) uc)) w2.heap.size (.slice (some ⟨G, 0, none⟩) (vn + 1) CAP) (curF L i' j') XS' VS') := by
          have htc := HTC.out
          by_cases hlast : j + 1 = pagesN L vn
          · refine ⟨vn + 1, 0, XS.set (vn * 2 + 1) (.slice ua (old.length + 128) uc), VS.set vn (.slice ua (old.length + 128) uc), ?_, ?_, ?_⟩
            · show _ = _
              rw [cntF_succ hi]; omega
            · show _ ∨ _
              by_cases hl : vn + 1 < L.length
              · refine .inl ⟨hl, ?_⟩
                have := (HI.out.pg _ hl).1
                unfold pagesN
                omega
              · exact .inr ⟨by omega, rfl⟩
            · rw [curF_next HI.out hi hlast] at hO5
              exact hO5
          · refine ⟨vn, j + 1, XS.set (vn * 2 + 1) (.slice ua (old.length + 128) uc), VS.set vn (.slice ua (old.length + 128) uc), ?_, ?_, ?_⟩
            · show _ = _
              omega
            · exact .inl ⟨hi, by omega⟩
            · rw [curF_step] at hO5
              exact hO5
        clear hO5 hE5 hown5 hgr5 hlies5 hc5 hf5 hBE e6 hGb
        go_wp2
        go_roundw
        case rel => exact ⟨t + 1, i', j', XS', VS', by omega, by go_num, HT'.out, hcase'.out, HO', HBE⟩
        case measure => simp [intOf]; omega
      · have htz : (((j : Nat) : Int) == 0) = false := by rw [beq_eq_false_iff_ne]; omega
        have hcur : curF L i j = someF L i j := by unfold curF; rw [if_neg hj0]
        have hvi : vn = i + 1 := by rw [HVN.out, hcur]; exact someF_len hi
        subst hvi
        obtain ⟨G, hG⟩ : ∃ G, va = some ⟨G, 0, none⟩ := by
          rcases hrowF.2 with ⟨_, h0⟩ | ⟨G, cap, cur, h0, _⟩
          · omega
          · injection h0 with h1; exact ⟨G, h1⟩
        subst hG
        obtain ⟨XS, hXS⟩ : ∃ XS, XS = xs := ⟨_, rfl⟩
        obtain ⟨VS, hVS⟩ : ∃ VS, VS = vs := ⟨_, rfl⟩
        obtain ⟨CAP, hCAP⟩ : ∃ CAP, CAP = vc := ⟨_, rfl⟩
        have OB := HO.out
        rw [hcur, ← hXS, ← hVS] at OB
        subst hCAP
        clear hXS hVS
        have hB3 : Below w2.heap.size w2 (wr.alloc (.cells #[.string nm, .int .i64 (j : Int)] 89)) := HB.out.alloc hsW _
        obtain ⟨pgb, HPG, hpl, hpr, hlk⟩ := met_page HM.out (by omega) hB3 HR.out HBF.out hnmi hjw HPI.out
        have hst := storeCells_new (wr.alloc (.cells #[.string nm, .int .i64 (j : Int)] 89)) pgb hpl
        rw [show (wr.alloc (.cells #[.string nm, .int .i64 (j : Int)] 89)).heap.size = wr.heap.size + 1 by simp] at hst
        have hul : (u8s pgb).length = 128 := by simp [u8s, hpl]
        have hsl := run_sliceAll2 (wr.heap.size + 1)
        have hgl3 := (hrowF.lt G rfl).2
        have HCUR : Hid (curF L i j = someF L i j) := hcur
        clear hcur hj0 hB3
        go_wp2_with fail
        clear hlk hst
        have HIX : Hid (i < (someF L i j).length) := by show _ < _; rw [someF_len hi]; omega
        have hdlen : (L.getD i (ByteArray.empty, [])).2.length ≤ 1048576 := by
          have e : L.getD i (ByteArray.empty, []) = L[i] := by simp [List.getD, List.getElem?_eq_getElem hi]
          rw [e]; exact HSM.out _ (List.getElem_mem hi)
        obtain ⟨old, hold⟩ : ∃ old, old = (L.getD i (ByteArray.empty, [])).2.take (j * 128) := ⟨_, rfl⟩
        have HOLD : Hid (old = (L.getD i (ByteArray.empty, [])).2.take (j * 128)) := hold
        have hol : old.length ≤ 1048576 := by rw [hold, List.length_take]; omega
        have hal4 : Below wr.heap.size wr ((wr.alloc (.cells #[.string nm, .int .i64 (j : Int)] 89)).alloc (.cells (u8s pgb).toArray 86)) := ((Below.refl _ _).alloc (Nat.le_refl _) _).alloc (by simp) _
        have O4 := OB.below hal4
        have hdr := O4.data i HIX.out
        rw [someF_data hi, ← hold] at hdr
        have hdc := (edit_cell O4 HIX.out (Edit.start (O4.data i HIX.out))).1
        have hby4 := O4.byte i HIX.out
        rw [someF_data hi, ← hold] at hby4
        have hnew : ∀ (k : Nat) (u : Value), (u8s pgb)[k]? = some u → ((wr.alloc (.cells #[.string nm, .int .i64 (j : Int)] 89)).alloc (.cells (u8s pgb).toArray 86)).cell? ((⟨wr.heap.size + 1, 0, none⟩ : Addr).add k) = some u := fun k u hu => by
          have hnw := heap_alloc_new (wr.alloc (.cells #[.string nm, .int .i64 (j : Int)] 89)) (.cells (u8s pgb).toArray 86)
          rw [show (wr.alloc (.cells #[.string nm, .int .i64 (j : Int)] 89)).heap.size = wr.heap.size + 1 by simp] at hnw
          rw [Addr.add_mid, Nat.zero_add, cell_of_row _ _ k _ _ _ hnw]
          simpa using hu
        have hB4 := HB.out.trans (hal4.mono HB.out.size)
        generalize (wr.alloc (.cells #[.string nm, .int .i64 (j : Int)] 89)).alloc (.cells (u8s pgb).toArray 86) = w4 at hal4 O4 hdr hdc hnew hB4 ⊢
        have HOF4 : Hid (OwnF w4 w2.heap.size (.slice (some ⟨G, 0, none⟩) (i + 1) CAP) (someF L i j) XS VS) := O4
        obtain ⟨dv, hdv⟩ : ∃ dv, dv = VS.getD i (.slice none 0 0) := ⟨_, rfl⟩
        have HDV : Hid (dv = VS.getD i (.slice none 0 0)) := hdv
        rw [← hdv] at hdr hdc
        have HDROW : Hid (w4.drew.ownsRow w2.heap.size 5 1 dv old.length (u8s old)) := hdr
        have HNEWS : Hid (∀ (k : Nat) (u : Value), (u8s pgb)[k]? = some u → w4.drew.cell? ((⟨wr.heap.size + 1, 0, none⟩ : Addr).add k) = some u) := hnew
        have HONE : Hid (∀ u ∈ u8s pgb, u.oneCell' = true) := fun u hu => by simp only [u8s, List.mem_map] at hu; obtain ⟨x, _, rfl⟩ := hu; rfl
        have HBS : Hid (w2.heap.size ≤ w4.drew.heap.size) := hB4.size
        have HDW : Hid (w4.os = w4.drew.os ∧ w4.tape = w4.drew.tape ∧ w4.output = w4.drew.output ∧ w4.heap = w4.drew.heap) := ⟨rfl, rfl, rfl, rfl⟩
        have HOLDB : Hid (∀ x ∈ old ++ pgb, 0 ≤ x ∧ x ≤ 255) := fun x hx => (List.mem_append.1 hx).elim (hby4 x) (hpr x)
        have HB4 : Hid (Below w2.heap.size w2 w4) := hB4
        clear hdv hold hdr hnew O4 OB hby4 hB4 hal4
        refine wp_region_noPanic ?_
        refine wp_region_held_drew (S := (fun _ => True)) (by kernel_rfl) ?_ (fun hHeld => ?_)
        · trivial
        refine wpAnyH_take (i := 0) (oi := { dst := some 33, op := Op.move (Operand.tmp 7), type := 124, pos := "l1_disk.go:273", after := #[], guard := none }) (v := ?_) rfl (by kernel_rfl) (by kernel_rfl) (by kernel_rfl) (fun _ _ _ h => h) (Or.inl ⟨by rfl, ?_⟩) (by assumption) ?_
        rotate_left 1
        · intro w hSw; (try dsimp only at hSw); go_simp; try (with_reducible rfl)
        try simp only [Act.put, List.setIfInBounds_toArray, List.set_cons_zero, List.set_cons_succ]
        refine wpAnyH_take (i := 1) (oi := { dst := some 34, op := Op.move (Operand.tmp 7), type := 124, pos := "l1_disk.go:273", after := #[], guard := none }) (v := ?_) rfl (by kernel_rfl) (by kernel_rfl) (by kernel_rfl) (fun _ _ _ h => h) (Or.inl ⟨by rfl, ?_⟩) (by assumption) ?_
        rotate_left 1
        · intro w hSw; (try dsimp only at hSw); go_simp; try (with_reducible rfl)
        try simp only [Act.put, List.setIfInBounds_toArray, List.set_cons_zero, List.set_cons_succ]
        refine wpAnyH_take (i := 2) (oi := { dst := some 35, op := Op.nilCheck (Operand.tmp 34), type := 0, pos := "l1_disk.go:273", after := #[{ on := 1, ground := Ground.data }], guard := none }) (v := ?_) rfl (by kernel_rfl) (by kernel_rfl) (by kernel_rfl) (fun _ _ _ h => h) (Or.inl ⟨by rfl, ?_⟩) (by assumption) ?_
        rotate_left 1
        · intro w hSw; (try dsimp only at hSw); go_simp; try (with_reducible rfl)
        try simp only [Act.put, List.setIfInBounds_toArray, List.set_cons_zero, List.set_cons_succ]
        refine wpAnyH_take (i := 3) (oi := { dst := some 36, op := Op.fieldAddr 92 (Operand.tmp 35) 1, type := 0, pos := "l1_disk.go:273", after := #[{ on := 2, ground := Ground.data }], guard := none }) (v := ?_) rfl (by kernel_rfl) (by kernel_rfl) (by kernel_rfl) (fun _ _ _ h => h) (Or.inl ⟨by rfl, ?_⟩) (by assumption) ?_
        rotate_left 1
        · intro w hSw; (try dsimp only at hSw); go_simp; try (with_reducible rfl)
        try simp only [Act.put, List.setIfInBounds_toArray, List.set_cons_zero, List.set_cons_succ]
        refine wpAnyH_take (i := 5) (oi := { dst := some 38, op := Op.slice 86 (Operand.tmp 6) none none none, type := 22, pos := "l1_disk.go:273", after := #[], guard := none }) (v := .slice (some ⟨wr.heap.size + 1, 0, none⟩) 128 128) rfl (by kernel_rfl) (by kernel_rfl) (by kernel_rfl) (fun _ _ _ h => h) (Or.inl ⟨by rfl, ?_⟩) (by assumption) ?_
        · intro w hSw; (try dsimp only at hSw); have hsl := run_sliceAll2 (wr.heap.size + 1) w; go_simp
        try simp only [Act.put, List.setIfInBounds_toArray, List.set_cons_zero, List.set_cons_succ]
        refine wpAnyH_ready (rs := [4]) (by kernel_rfl) (by simp) ?_
        refine AllReadyH.cons (o := { dst := some 37, op := Op.load 22 (Operand.tmp 36), type := 22, pos := "l1_disk.go:273", after := #[{ on := 3, ground := Ground.data }], guard := none }) rfl (fun K hK => ?_) ?_
        rotate_left 1
        exact AllReadyH.nil
        go_simp
        refine hK.out _ _ trivial (fun hHeld => ?_)
        clear hK K
        try simp only [Act.put, List.setIfInBounds_toArray, List.set_cons_zero, List.set_cons_succ]
        refine wpAnyH_ready (rs := [6]) (by kernel_rfl) (by simp) ?_
        refine AllReadyH.cons (o := { dst := some 39, op := Op.call { callee := Callee.builtin Builtin.append, args := #[Operand.tmp 37, Operand.tmp 38], argTypes := #[22, 22] }, type := 22, pos := "l1_disk.go:273", after := #[{ on := 4, ground := Ground.data }, { on := 5, ground := Ground.data }], guard := none }) rfl (fun K hK => ?_) ?_
        rotate_left 1
        exact AllReadyH.nil
        refine step_append_ownD rfl (.tmp 37) (.tmp 38) 22 rfl w2.heap.size 5 i0 _ 1 1 Try.underlying22 hiu hz0 hz1 hz2 rfl (by decide) dv old.length (u8s old) (by simp [Act.eval]) HDROW.out ⟨wr.heap.size + 1, 0, none⟩ 128 128 (u8s pgb) (by simp [Act.eval]) (by rw [hul]) HNEWS.out HONE.out (by unfold maxLen; omega) (by omega) HBS.out ?_
        intro u4 w5 hown5 hgr5 hlies5
        obtain ⟨ua, uc, rfl⟩ := own_shape hown5
        have hE5 := edit_page HDW.out hown5 hgr5 hlies5 hpl
        rw [HDV.out] at hE5
        have hO5 := HOF4.out.edit HIX.out hE5 HOLDB.out
        have hcell5 := edit_cell HOF4.out HIX.out hE5
        obtain ⟨hc5, hf5⟩ := hcell5
        refine hK.out _ _ trivial (fun hHeld => ?_)
        clear hK K
        try simp only [Act.put, List.setIfInBounds_toArray, List.set_cons_zero, List.set_cons_succ]
        refine wpAnyH_take (i := 7) (oi := { dst := some 40, op := Op.nilCheck (Operand.tmp 33), type := 0, pos := "l1_disk.go:273", after := #[{ on := 0, ground := Ground.data }, { on := 0, ground := Ground.phase }, { on := 1, ground := Ground.phase }, { on := 2, ground := Ground.phase }, { on := 3, ground := Ground.phase }, { on := 4, ground := Ground.phase }, { on := 5, ground := Ground.phase }, { on := 6, ground := Ground.phase }], guard := none }) (v := ?_) rfl (by kernel_rfl) (by kernel_rfl) (by kernel_rfl) (fun _ _ _ h => h) (Or.inl ⟨by rfl, ?_⟩) (by assumption) ?_
        rotate_left 1
        · intro w hSw; (try dsimp only at hSw); go_simp; try (with_reducible rfl)
        try simp only [Act.put, List.setIfInBounds_toArray, List.set_cons_zero, List.set_cons_succ]
        refine wpAnyH_take (i := 8) (oi := { dst := some 41, op := Op.fieldAddr 92 (Operand.tmp 40) 1, type := 0, pos := "l1_disk.go:273", after := #[{ on := 7, ground := Ground.data }, { on := 0, ground := Ground.phase }, { on := 1, ground := Ground.phase }, { on := 2, ground := Ground.phase }, { on := 3, ground := Ground.phase }, { on := 4, ground := Ground.phase }, { on := 5, ground := Ground.phase }, { on := 6, ground := Ground.phase }], guard := none }) (v := ?_) rfl (by kernel_rfl) (by kernel_rfl) (by kernel_rfl) (fun _ _ _ h => h) (Or.inl ⟨by rfl, ?_⟩) (by assumption) ?_
        rotate_left 1
        · intro w hSw; (try dsimp only at hSw); go_simp; try (with_reducible rfl)
        try simp only [Act.put, List.setIfInBounds_toArray, List.set_cons_zero, List.set_cons_succ]
        refine wpAnyH_ready (rs := [9]) (by kernel_rfl) (by simp) ?_
        refine AllReadyH.cons (o := { dst := none, op := Op.store 22 (Operand.tmp 41) (Operand.tmp 39), type := 0, pos := "l1_disk.go:273", after := #[{ on := 8, ground := Ground.data }, { on := 6, ground := Ground.data }, { on := 6, ground := Ground.chain }, { on := 0, ground := Ground.phase }, { on := 1, ground := Ground.phase }, { on := 2, ground := Ground.phase }, { on := 3, ground := Ground.phase }, { on := 4, ground := Ground.phase }, { on := 5, ground := Ground.phase }, { on := 6, ground := Ground.phase }], guard := none }) rfl (fun K hK => ?_) ?_
        rotate_left 1
        exact AllReadyH.nil
        go_simp
        refine hK.out _ _ trivial (fun hHeld => ?_)
        clear hK K
        try simp only [Act.put, List.setIfInBounds_toArray, List.set_cons_zero, List.set_cons_succ]
        refine wpAnyH_done (by kernel_rfl) ?_ _
        refine NoPanic.normal ?_
        have e6 := someF_set hi HPG.out
        rw [← HOLD.out] at e6
        rw [e6] at hO5
        have hGb : w2.heap.size ≤ G := (HOF4.out.row.lt G rfl).1
        have hBE : Below w2.heap.size w2 (w5.setCell ⟨G, i * 2 + 1, none⟩ (.slice ua (old.length + 128) uc)) := ((HB4.out.grown hE5.grown HB4.out.size (fun k e => ((HOF4.out.data i HIX.out).lt k e).1)).setCell (p := ⟨G, i * 2 + 1, none⟩) hGb _)
        have HBE : Hid (Below w2.heap.size w2 (w5.setCell ⟨G, i * 2 + 1, none⟩ (.slice ua (old.length + 128) uc))) := hBE
        obtain ⟨i', j', XS', VS', HT', hcase', HO'⟩ : ∃ (i' j' : Nat) (XS' VS' : List Value), Hid (t + 1 = cntF L i' + j') ∧ Hid ((i' < L.length ∧ j' < pagesN L i') ∨ (i' = L.length ∧ j' = 0)) ∧ Hid (OwnF (w5.setCell ⟨G, i * 2 + 1, none⟩ (.slice ua (old.length + 128) uc)) w2.heap.size (.slice (some ⟨G, 0, none⟩) (i + 1) CAP) (curF L i' j') XS' VS') := by
          have htc := HTC.out
          by_cases hlast : j + 1 = pagesN L i
          · refine ⟨i + 1, 0, XS.set (i * 2 + 1) (.slice ua (old.length + 128) uc), VS.set i (.slice ua (old.length + 128) uc), ?_, ?_, ?_⟩
            · show _ = _
              rw [cntF_succ hi]; omega
            · show _ ∨ _
              by_cases hl : i + 1 < L.length
              · refine .inl ⟨hl, ?_⟩
                have := (HI.out.pg _ hl).1
                unfold pagesN
                omega
              · exact .inr ⟨by omega, rfl⟩
            · rw [curF_next HI.out hi hlast] at hO5
              exact hO5
          · refine ⟨i, j + 1, XS.set (i * 2 + 1) (.slice ua (old.length + 128) uc), VS.set i (.slice ua (old.length + 128) uc), ?_, ?_, ?_⟩
            · show _ = _
              omega
            · exact .inl ⟨hi, by omega⟩
            · rw [curF_step] at hO5
              exact hO5
        clear hO5 hE5 hown5 hgr5 hlies5 hc5 hf5 hBE e6 hGb
        go_wp2
        go_roundw
        case rel => exact ⟨t + 1, i', j', XS', VS', by omega, by go_num, HT'.out, hcase'.out, HO', HBE⟩
        case measure => simp [intOf]; omega
    · have hend : i = L.length ∧ j = 0 := by
        rcases hcase with ⟨h1, h2⟩ | h
        · have := cntF_le h1
          have := HMM.out
          omega
        · exact h
      obtain ⟨rfl, rfl⟩ := hend
      have HL : Hid (curF L L.length 0 = L) := by show _ = _; unfold curF; rw [if_pos rfl, List.take_length]
      clear htc hcase
      go_wp2
      go_ret
      refine ⟨_, xs, vs, rfl, ?_, HG2.out.trans (HB.out.mono hz2')⟩
      have := HO.out.lower hz2'
      rw [HL.out] at this
      exact this
end Go.Proofs.Ytakdaandbdbdnaa
