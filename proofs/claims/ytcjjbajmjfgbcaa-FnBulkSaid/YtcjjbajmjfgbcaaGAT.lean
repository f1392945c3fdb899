import Derived.Test.YtcjjbajmjfgbcaaTgh
import Derived.Shelf.Spec.SlicesInsertGrow
import Derived.Laws.CopyRow
import Derived.Sort.Walk0
import Derived.Laws.Cover1
namespace Go.Proofs.Ytcjjbajmjfgbcaa
open Go.RowKit
set_option linter.unusedVariables false
set_option linter.unusedSimpArgs false
set_option maxRecDepth 100000
theorem run_copy_rowS {P : Program} (w : World) (dT sT ty elem : TypeId) (g o dLen dCap : Nat) (a : Addr) (sLen sCap : Nat) (cur : Array Value) (t : TypeId) (cs : List Value) (s : Nat)
  (hu : P.underlying dT = some (.slice elem)) (hs : (P.info? elem).map (·.size) = some s)
  (hg : w.heap[g]? = some (.cells cur t (0, 0))) (hn : cs.length = Nat.min sLen dLen * s)
  (hsrc : ∀ j v, cs[j]? = some v → w.cell? (a.add j) = some v) (hfit : o + cs.length ≤ cur.size) (h1 : ∀ v ∈ cs, v.oneCell' = true) :
  (Builtin.copy_ #[dT, sT] ty #[.slice (some ⟨g, o, none⟩) dLen dCap, .slice (some a) sLen sCap]).run P w =
   .ok (goInt (Nat.min sLen dLen)) (w.setRow g (cur.toList.take o ++ cs ++ cur.toList.drop (o + cs.length)).toArray) := by
 have hl := run_loadCells_list (P := P) w a cs hsrc
 have hst := run_storeCells_at P g o t cs 0 cur w hg (by simpa using hfit) h1
 cases hq : P.info? elem with
 | none => simp [hq] at hs
 | some i =>
  have hi : i.size = s := by simpa [hq] using hs
  simp [Builtin.copy_, run_underlying hu, Builtin.lenOf, Builtin.firstCells, sizeOf, typeInfo, hq, hi, ← hn, hl, hst]
theorem splice_two {α : Type} (R xs x : List α) (p q m : Nat) (hp : p ≤ xs.length) (hx : x.length = q) (hR : R.length = m) (hm : xs.length + q ≤ m) (hh : R.take p = xs.take p) :
  ((R.take p ++ x ++ R.drop (p + q)).take (p + q) ++ xs.drop p ++ (R.take p ++ x ++ R.drop (p + q)).drop (p + q + (xs.length - p))).take (xs.length + q) = xs.take p ++ x ++ xs.drop p := by
 have e1 : (R.take p ++ x ++ R.drop (p + q)).take (p + q) = xs.take p ++ x := by
  rw [List.take_append_of_le_length (by simp; omega), List.take_of_length_le (by simp; omega), hh]
 rw [e1, List.take_append_of_le_length (by simp; omega), List.take_of_length_le (by simp; omega)]
theorem splice_in {α : Type} (C xs x : List α) (p q m : Nat) (hp : p ≤ xs.length) (hx : x.length = q) (hC : C.length = m) (hm : xs.length + q ≤ m) (hh : C.take xs.length = xs) :
  ((C.take (p + q) ++ xs.drop p ++ C.drop (p + q + (xs.length - p))).take p ++ x ++ (C.take (p + q) ++ xs.drop p ++ C.drop (p + q + (xs.length - p))).drop (p + q)).take (xs.length + q) = xs.take p ++ x ++ xs.drop p := by
 have h0 : C.take p = xs.take p := by
  have := congrArg (List.take p) hh
  rwa [List.take_take, Nat.min_eq_left hp] at this
 have e1 : (C.take (p + q) ++ xs.drop p ++ C.drop (p + q + (xs.length - p))).take p = xs.take p := by
  rw [List.append_assoc, List.take_append_of_le_length (by simp; omega), List.take_take, Nat.min_eq_left (by omega), h0]
 have e2 : (C.take (p + q) ++ xs.drop p ++ C.drop (p + q + (xs.length - p))).drop (p + q) = xs.drop p ++ C.drop (p + q + (xs.length - p)) := by
  rw [List.append_assoc, List.drop_append_of_le_length (by simp; omega), List.drop_of_length_le (by simp; omega), List.nil_append]
 rw [e1, e2, ← List.append_assoc, List.take_append_of_le_length (by simp; omega), List.take_of_length_le (by simp; omega)]
theorem splice_len {α : Type} (C x : List α) (p q m : Nat) (hx : x.length = q) (hC : C.length = m) (h : p + q ≤ m) : (C.take p ++ x ++ C.drop (p + q)).toArray.size = m := by
 simp [hx, hC]
 omega
theorem growOf {w w' : World} {g : Nat} (h : Below w.heap.size w w') (v : Option Nat) : w.grownBy w' v := ⟨h.os, h.tape, h.output, h.size, fun k hk _ => h.block k hk⟩
set_option maxHeartbeats 1000000 in
theorem insGrowSlot (i n c vb b N G : Nat) (ROW R2 R3 : Array Value) (w W1 : World) (hin : i < n) (hn : n ≤ 1000) (hr : c < n + 1) (hnc : n ≤ c) (hGn : n + 1 ≤ G) (hG63 : G ≤ 9223372036854775807)
  (hrz : ∀ ty, (Builtin.append_ #[70, 3] ty #[.slice (some ⟨b, 0, none⟩) i c, .int .i64 ((n : Int) + 1 - (i : Int))]).run Try.prog w = .ok (.slice (some ⟨N, 0, none⟩) (n + 1) G) W1)
  (hcpA : ∀ ty dc, (Builtin.copy_ #[70, 70] ty #[.slice (some ⟨N, i * 3, none⟩) (n + 1 - i) dc, .slice (some ⟨vb, 0, none⟩) 1 1]).run Try.prog W1 = .ok (goInt 1) (W1.setRow N R2))
  (hcpB : ∀ ty dc sc, (Builtin.copy_ #[70, 70] ty #[.slice (some ⟨N, (i + 1) * 3, none⟩) (n - i) dc, .slice (some ⟨b, i * 3, none⟩) (n - i) sc]).run Try.prog (W1.setRow N R2).drew = .ok (goInt ((n - i : Nat) : Int)) ((W1.setRow N R2).drew.setRow N R3)) :
  Calls Try.prog 84 #[.slice (some ⟨b, 0, none⟩) n c, .int .i64 i, .slice (some ⟨vb, 0, none⟩) 1 1] w fun e w' => e = .returned (.slice (some ⟨N, 0, none⟩) (n + 1) G) ∧ w' = (W1.setRow N R2).drew.setRow N R3 := by
 have hb1 : (0 : Int) ≤ (i : Int) + 1 := by omega
 have ni : ¬ ((i : Int) = (n : Int)) := by omega
 have hw1 : IntKind.i64.wrap ((i : Int) + 1) = (i : Int) + 1 := by rw [IntKind.wrap_i64]; omega
 have htn : ((i : Int) + 1).toNat = i + 1 := by omega
 have hci : ¬ (c = i) := by omega
 have hGi : ¬ (G = i) := by omega
 have hGi1 : ¬ (G = i + 1) := by omega
 have hz3 : (c : Int) < (n : Int) + 1 := by omega
 have hin' : i ≤ n := by omega
 have hb3 : (i : Int) ≤ (n : Int) := by omega
 go_enter Try.func84, Try.ntmps84
 go_wp2_with (first
  | (at_builtin; refine Lib.wpList_append_run _ rfl _ _ _ _ rfl _ _ rfl rfl _ _ (hrz _) ?_)
  | (at_builtin; refine wpList_copy_runI _ rfl _ _ 70 70 rfl (.slice (some ⟨N, i * 3, none⟩) (n + 1 - i) (G - i)) (.slice (some ⟨vb, 0, none⟩) 1 1) (by simp [Act.eval, Act.put]) (by simp [Act.eval, Act.put]) (hcpA _ _) ?_))
 go_region_law (refine step_copy_runI rfl _ _ 70 70 rfl (.slice (some ⟨N, (i + 1) * 3, none⟩) (n - i) (G - (i + 1))) (.slice (some ⟨b, i * 3, none⟩) (n - i) (c - i)) (by simp [Act.eval, Act.put]) (by simp [Act.eval, Act.put]) (hcpB _ _ _) ?_)
 go_wp2
 go_ret
 exact ⟨rfl, rfl⟩
set_option maxHeartbeats 1000000 in
theorem insShiftSlot (i n c vb b kA kB tA tB : Nat) (R2 R3 : Array Value) (w : World) (hin : i < n) (hn : n ≤ 1000) (hr : n + 1 ≤ c) (hc63 : c ≤ 9223372036854775807) (hvb : vb ≠ b)
  (hsa : w.shape? vb = some (tA, kA)) (hsb : w.shape? b = some (tB, kB)) (hkB : kB ≠ 0) (hfa : w.frozen? ⟨vb, 0, none⟩ = false) (hfe : w.frozen? ⟨vb, kA, none⟩ = false)
  (hcpA : ∀ ty dc sc, (Builtin.copy_ #[70, 70] ty #[.slice (some ⟨b, (i + 1) * 3, none⟩) (n - i) dc, .slice (some ⟨b, i * 3, none⟩) (n + 1 - i) sc]).run Try.prog w.drew = .ok (goInt ((n - i : Nat) : Int)) (w.drew.setRow b R2))
  (hcpB : ∀ ty dc, (Builtin.copy_ #[70, 70] ty #[.slice (some ⟨b, i * 3, none⟩) (n + 1 - i) dc, .slice (some ⟨vb, 0, none⟩) 1 1]).run Try.prog (w.drew.setRow b R2) = .ok (goInt 1) ((w.drew.setRow b R2).setRow b R3)) :
  Calls Try.prog 84 #[.slice (some ⟨b, 0, none⟩) n c, .int .i64 i, .slice (some ⟨vb, 0, none⟩) 1 1] w fun e w' => e = .returned (.slice (some ⟨b, 0, none⟩) (n + 1) c) ∧ w' = (w.drew.setRow b R2).setRow b R3 := by
 have hb1 : (0 : Int) ≤ (i : Int) + 1 := by omega
 have ni : ¬ ((i : Int) = (n : Int)) := by omega
 have hov : ∀ lb cb, (callFunc 88 #[.slice (some ⟨vb, 0, none⟩) 1 1, .slice (some ⟨b, (i + 1) * 3, none⟩) lb cb]).run Try.prog w = .ok (.value (.bool false)) w := fun lb cb => by
  rw [run_callFunc_extern Try.func88 (by kernel_rfl) (by kernel_rfl) (by kernel_rfl) (e := Extern.SlicesOverlaps.overlaps #[70, 70] #[4]) (by kernel_rfl),
   Lib.run_overlaps_apart w 70 4 73 Try.underlying70 3 (fun w => by kernel_rfl) ⟨vb, 0, none⟩ ⟨b, (i + 1) * 3, none⟩ 1 1 lb cb hvb tA tB kA kB hsa hsb hkB hfa hfe]
  rfl
 have hw1 : IntKind.i64.wrap ((i : Int) + 1) = (i : Int) + 1 := by rw [IntKind.wrap_i64]; omega
 have htn : ((i : Int) + 1).toNat = i + 1 := by omega
 have hci : ¬ (c = i) := by omega
 have hci1 : ¬ (c = i + 1) := by omega
 have hin' : i ≤ n := by omega
 have hb3 : (i : Int) ≤ (n : Int) + 1 := by omega
 go_enter Try.func84, Try.ntmps84
 go_wp2_with (simp only [hov])
 go_region_law (refine step_copy_runI rfl _ _ 70 70 rfl (.slice (some ⟨b, (i + 1) * 3, none⟩) (n - i) (c - (i + 1))) (.slice (some ⟨b, i * 3, none⟩) (n + 1 - i) (c - i)) (by simp [Act.eval, Act.put]) (by simp [Act.eval, Act.put]) (hcpA _ _ _) ?_)
 go_wp2_with (at_builtin; refine wpList_copy_runI _ rfl _ _ 70 70 rfl (.slice (some ⟨b, i * 3, none⟩) (n + 1 - i) (c - i)) (.slice (some ⟨vb, 0, none⟩) 1 1) (by simp [Act.eval, Act.put]) (by simp [Act.eval, Act.put]) (hcpB _ _) ?_)
 go_ret
 exact ⟨rfl, rfl⟩
set_option maxHeartbeats 1000000 in
theorem insertSlot_any (i n c vb : Nat) (a : Option Addr) (xs x : List Value) (w : World) (hrow : w.ownsRow 0 73 3 (.slice a n c) n xs) (hi : i ≤ n) (hn : n ≤ 1000) (hx : x.length = 3) (hbox : w.heap[vb]? = some (.cells x.toArray 73)) (hvb : (Value.slice a n c).ownBlock ≠ some vb) (h1x : ∀ u ∈ x, u.oneCell' = true) (h1 : ∀ u ∈ xs, u.oneCell' = true) :
  Calls Try.prog 84 #[.slice a n c, .int .i64 i, .slice (some ⟨vb, 0, none⟩) 1 1] w fun e w' => ∃ a' c', e = .returned (.slice a' (n + 1) c') ∧ w'.ownsRow 0 73 3 (.slice a' (n + 1) c') (n + 1) (xs.take (i * 3) ++ x ++ xs.drop (i * 3)) ∧ w.grownBy w' (Value.slice a n c).ownBlock ∧ ((Value.slice a' (n + 1) c').ownBlock = (Value.slice a n c).ownBlock ∨ ∀ g, (Value.slice a' (n + 1) c').ownBlock = some g → w.heap.size ≤ g) := by
 obtain ⟨i0, hi0, hz0, hz1, hz2⟩ := info_parts info_slot
 have hxl := hrow.1
 have hvl : vb < w.heap.size := (Array.getElem?_eq_some_iff.1 hbox).1
 have hvc : ∀ j u, x[j]? = some u → w.cell? ⟨vb, j, none⟩ = some u := fun j u hj => by simp [World.cell?, hbox, hj]
 have hadd : ∀ (b o k : Nat), (⟨b, o, none⟩ : Addr).add k = ⟨b, o + k, none⟩ := fun b o k => by simp [Addr.add]
 by_cases hie : i = n
 ·subst hie
  have HX : Hid (xs.take (i * 3) ++ x ++ xs.drop (i * 3) = xs ++ x) := by
   show _ = _
   rw [List.take_of_length_le (by omega), List.drop_of_length_le (by omega), List.append_nil]
  rw [HX.out]
  have hvc0 : ∀ j u, x[j]? = some u → w.cell? ((⟨vb, 0, none⟩ : Addr).add j) = some u := fun j u hj => by rw [hadd, Nat.zero_add]; exact hvc j u hj
  have HC : Hid (a = none ∨ ∃ b, a = some ⟨b, 0, none⟩) := by
   rcases hrow.2 with ⟨e, _⟩ | ⟨b, cap, cur, e, _⟩
   ·simp only [Value.slice.injEq] at e; exact .inl e.1
   ·simp only [Value.slice.injEq] at e; exact .inr ⟨b, e.1⟩
  have hcm : i ≤ c ∧ c ≤ maxLen := by
   rcases hrow.2 with ⟨e, e2⟩ | ⟨b, cap, cur, e, _, _, h3, h4, _⟩
   ·simp only [Value.slice.injEq] at e; exact ⟨by omega, by omega⟩
   ·simp only [Value.slice.injEq] at e; obtain ⟨_, _, rfl⟩ := e; exact ⟨h3, h4⟩
  have hcc := hcm.1
  have hc63 := hcm.2
  unfold maxLen at hc63
  clear hbox hvc hi hcm
  rcases HC.out with rfl | ⟨b, rfl⟩
  all_goals
   have HROW : Hid _ := hrow
   clear hrow HC
   go_enter Try.func84, Try.ntmps84
   go_wp2_with (at_builtin; refine wpList_append_ownD _ rfl _ _ 70 rfl 0 73 i0 _ 3 40 Try.underlying70 hi0 hz0 hz1 hz2 rfl (by decide) _ i xs rfl HROW.out ⟨vb, 0, none⟩ 1 1 x rfl (by omega) hvc0 h1x (by unfold maxLen; omega) (by omega) (Nat.zero_le _) ?_; intro v' w4 g1 g2 g3; obtain ⟨a', c', rfl⟩ := own_shape g1; have G1 : Hid _ := g1; have G2 : Hid _ := g2; have G3 : Hid _ := g3; clear g1 g2 g3 HROW)
   all_goals (go_ret; exact ⟨a', c', rfl, G1.out, G2.out, G3.out⟩)
 ·have hin : i < n := by omega
  rcases hrow.2 with ⟨e, e2⟩ | ⟨b, cap, cur, e, _, hg, hnc, hcm, hcs, htk⟩
  ·omega
  simp only [Value.slice.injEq] at e
  obtain ⟨rfl, _, rfl⟩ := e
  have hbv : b ≠ vb := fun e => hvb (by rw [e]; rfl)
  have hbl : b < w.heap.size := (Array.getElem?_eq_some_iff.1 hg).1
  have hcell : ∀ j u, xs[j]? = some u → w.cell? ⟨b, j, none⟩ = some u := fun j u hj => by
   have hjl := (List.getElem?_eq_some_iff.1 hj).1
   rw [hrow.cellAt j (by omega)]; exact hj
  have hsz : (Try.prog.info? 73).map (·.size) = some 3 := by rw [hi0]; simp [hz1]
  have ni : ¬ ((i : Int) = (n : Int)) := by omega
  have hmn : Nat.min 1 (n + 1 - i) = 1 := Nat.min_eq_left (by omega)
  have hdl : (xs.drop (i * 3)).length = (n - i) * 3 := by rw [List.length_drop, hxl]; omega
  have h1d : ∀ u ∈ xs.drop (i * 3), u.oneCell' = true := fun u hu => h1 u (List.mem_of_mem_drop hu)
  have hc63 := hcm
  unfold maxLen at hc63
  have hw1 : IntKind.i64.wrap ((i : Int) + 1) = (i : Int) + 1 := by rw [IntKind.wrap_i64]; omega
  have htn : ((i : Int) + 1).toNat = i + 1 := by omega
  by_cases hr : c < n + 1
  ·                     
   have hce : c = n := by omega
   obtain ⟨Z, hZ⟩ : ∃ Z : Value, i0.zero = some Z ∧ Z.cells.size = 3 := ⟨_, hz0, rfl⟩
   have hold : (Builtin.firstCells i0.size i (.slice (some ⟨b, 0, none⟩) i c)).run Try.prog w.drew = .ok (xs.take (i * 3)).toArray w.drew := by
    rw [hz1]
    exact run_firstCells_some w.drew 3 i ⟨b, 0, none⟩ i c (xs.take (i * 3)) (by rw [List.length_take]; omega) (fun j u hj => by
     rw [hadd, Nat.zero_add]
     rw [List.getElem?_take] at hj
     split at hj
     ·exact hcell j u hj
     ·cases hj)
   have hik : i + (n + 1 - i) = n + 1 := by omega
   have hkk : (n : Int) + 1 - (i : Int) = ((n + 1 - i : Nat) : Int) := by omega
   obtain ⟨G, hG⟩ : ∃ G, G = grownCap w (n + 1) c 73 := ⟨_, rfl⟩
   obtain ⟨ROW, hROW⟩ : ∃ ROW : Array Value, ROW = (xs.take (i * 3)).toArray ++ Builtin.zeroCells Z.cells (n + 1 - i) ++ Builtin.zeroCells Z.cells (G - (n + 1)) := ⟨_, rfl⟩
   have hGn : n + 1 ≤ G := by rw [hG]; exact grownCap_ge w _ _ _
   have hGm : G ≤ maxLen := by rw [hG]; exact grownCap_le_maxLen w (n + 1) c _ (by unfold maxLen; omega)
   have hG63 := hGm
   unfold maxLen at hG63
   have hrz : ∀ ty, (Builtin.append_ #[70, 3] ty #[.slice (some ⟨b, 0, none⟩) i c, .int .i64 ((n : Int) + 1 - (i : Int))]).run Try.prog w = .ok (.slice (some ⟨w.heap.size, 0, none⟩) (n + 1) G) (w.drew.alloc (.cells ROW 73)) := fun ty => by
    have h := Lib.run_append_grow_zeros w 70 3 ty 73 i0 Z .i64 .i64 Try.underlying70 Try.underlying3 hi0 hZ.1 (some ⟨b, 0, none⟩) i c (xs.take (i * 3)) hold (n + 1 - i) (by omega) (by omega) (by omega) (by omega) (by rw [hz2]; omega) (by rw [hz2, hik]; exact growslice_fits (by omega) (by omega))
    rw [hik, ← hG, ← hROW] at h
    rw [hkk]
    exact h
   have hRs : ROW.size = G * 3 := by
    rw [hROW]
    simp [Builtin.zeroCells, hZ.2, hxl]
    omega
   have hRt : ROW.toList.take (i * 3) = xs.take (i * 3) := by
    rw [hROW]
    simp only [Array.toList_append, List.append_assoc]
    rw [List.take_append_of_le_length (by simp; omega), List.take_of_length_le (by simp; omega)]
   obtain ⟨N, hN⟩ : ∃ N, w.heap.size = N := ⟨_, rfl⟩
   obtain ⟨W1, hW1⟩ : ∃ W1, w.drew.alloc (.cells ROW 73) = W1 := ⟨_, rfl⟩
   have hg1 : W1.heap[N]? = some (.cells ROW 73) := by rw [← hW1, ← hN]; exact heap_alloc_new w.drew _
   have hB1 : Below N w W1 := by rw [← hW1, ← hN]; exact ((Below.refl w.heap.size w).drew).alloc (Nat.le_refl _) _
   have hcb1 : ∀ j u, xs[j]? = some u → W1.cell? ⟨b, j, none⟩ = some u := fun j u hj => (World.cell?_of_block (w := w) (a := ⟨b, j, none⟩) (hB1.block b (by omega))).trans (hcell j u hj)
   have hcv1 : ∀ j u, x[j]? = some u → W1.cell? ⟨vb, j, none⟩ = some u := fun j u hj => (World.cell?_of_block (w := w) (a := ⟨vb, j, none⟩) (hB1.block vb (by omega))).trans (hvc j u hj)
   obtain ⟨R2, hR2⟩ : ∃ R2 : Array Value, (ROW.toList.take (i * 3) ++ x ++ ROW.toList.drop (i * 3 + x.length)).toArray = R2 := ⟨_, rfl⟩
   have hcpA : ∀ ty dc, (Builtin.copy_ #[70, 70] ty #[.slice (some ⟨N, i * 3, none⟩) (n + 1 - i) dc, .slice (some ⟨vb, 0, none⟩) 1 1]).run Try.prog W1 = .ok (goInt 1) (W1.setRow N R2) := fun ty dc => by
    have := run_copy_rowS (P := Try.prog) W1 70 70 ty 73 N (i * 3) (n + 1 - i) dc ⟨vb, 0, none⟩ 1 1 ROW 73 x 3 Try.underlying70 hsz hg1 (by rw [hmn]; omega) (fun j u hj => by rw [hadd, Nat.zero_add]; exact hcv1 j u hj) (by rw [hRs]; omega) h1x
    rw [hmn, hR2] at this
    exact this
   obtain ⟨R3, hR3⟩ : ∃ R3 : Array Value, (R2.toList.take ((i + 1) * 3) ++ xs.drop (i * 3) ++ R2.toList.drop ((i + 1) * 3 + (xs.drop (i * 3)).length)).toArray = R3 := ⟨_, rfl⟩
   have hR2s : R2.size = G * 3 := by rw [← hR2, hx]; exact splice_len ROW.toList x _ _ _ hx (by simpa using hRs) (by omega)
   have hg2 : (W1.setRow N R2).drew.heap[N]? = some (.cells R2 73) := setRow_heap W1 N ROW R2 _ _ hg1
   have hmn2 : Nat.min (n - i) (n - i) = n - i := Nat.min_self _
   have hcpB : ∀ ty dc sc, (Builtin.copy_ #[70, 70] ty #[.slice (some ⟨N, (i + 1) * 3, none⟩) (n - i) dc, .slice (some ⟨b, i * 3, none⟩) (n - i) sc]).run Try.prog (W1.setRow N R2).drew = .ok (goInt ((n - i : Nat) : Int)) ((W1.setRow N R2).drew.setRow N R3) := fun ty dc sc => by
    have := run_copy_rowS (P := Try.prog) (W1.setRow N R2).drew 70 70 ty 73 N ((i + 1) * 3) (n - i) dc ⟨b, i * 3, none⟩ (n - i) sc R2 73 (xs.drop (i * 3)) 3 Try.underlying70 hsz hg2 (by rw [hmn2, hdl] <;> omega) (fun j u hj => by
     rw [hadd]
     rw [List.getElem?_drop] at hj
     exact (World.cell?_of_block (w := W1) (a := ⟨b, i * 3 + j, none⟩) (setRow_other W1 N b R2 (by omega))).trans (hcb1 _ u hj)) (by rw [hR2s, hdl]; omega) h1d
    rw [hmn2, hR3] at this
    exact this
   have HFIN : Hid (∃ a' c', Ending.returned (.slice (some ⟨N, 0, none⟩) (n + 1) G) = .returned (.slice a' (n + 1) c') ∧ ((W1.setRow N R2).drew.setRow N R3).ownsRow 0 73 3 (.slice a' (n + 1) c') (n + 1) (xs.take (i * 3) ++ x ++ xs.drop (i * 3)) ∧ w.grownBy ((W1.setRow N R2).drew.setRow N R3) (Value.slice (some ⟨b, 0, none⟩) n c).ownBlock ∧ ((Value.slice a' (n + 1) c').ownBlock = (Value.slice (some ⟨b, 0, none⟩) n c).ownBlock ∨ ∀ g, (Value.slice a' (n + 1) c').ownBlock = some g → w.heap.size ≤ g)) := by
    refine ⟨_, _, rfl, ⟨by simp [hx, hxl]; omega, .inr ⟨N, G, R3, rfl, Nat.zero_le _, setRow_heap _ N R2 R3 _ _ hg2, hGn, hGm, ?_, ?_⟩⟩, ⟨hB1.os, hB1.tape, hB1.output, by simp; have := hB1.size; omega, fun k hk _ => ?_⟩, .inr (fun g hgg => ?_)⟩
    ·rw [← hR3, hdl]; exact splice_len R2.toList (xs.drop (i * 3)) _ _ _ hdl (by simpa using hR2s) (by omega)
    ·rw [← hR3, ← hR2, hx]
     have := splice_two ROW.toList xs x (i * 3) 3 (G * 3) (by omega) hx (by simp [hRs]) (by omega) hRt
     rw [hdl]
     rw [show xs.length - i * 3 = (n - i) * 3 by omega] at this
     simpa [show (i + 1) * 3 = i * 3 + 3 by omega, show (n + 1) * 3 = xs.length + 3 by omega] using this
    ·rw [setRow_other _ N k R3 (by omega)]
     show (W1.setRow N R2).heap[k]? = _
     rw [setRow_other _ N k R2 (by omega)]
     exact hB1.block k (by omega)
    ·have hgN : N = g := by simpa [Value.ownBlock] using hgg
     omega
   rw [hN, hW1] at hrz
   refine (insGrowSlot i n c vb b N G ROW R2 R3 w W1 hin hn hr hnc hGn hG63 hrz hcpA hcpB).mono ?_
   rintro e w' ⟨rfl, rfl⟩
   exact HFIN.out
  ·have hmn2 : Nat.min (n + 1 - i) (n - i) = n - i := Nat.min_eq_right (by omega)
   obtain ⟨R2, hR2⟩ : ∃ R2 : Array Value, (cur.toList.take ((i + 1) * 3) ++ xs.drop (i * 3) ++ cur.toList.drop ((i + 1) * 3 + (xs.drop (i * 3)).length)).toArray = R2 := ⟨_, rfl⟩
   have hcpA : ∀ ty dc sc, (Builtin.copy_ #[70, 70] ty #[.slice (some ⟨b, (i + 1) * 3, none⟩) (n - i) dc, .slice (some ⟨b, i * 3, none⟩) (n + 1 - i) sc]).run Try.prog w.drew = .ok (goInt ((n - i : Nat) : Int)) (w.drew.setRow b R2) := fun ty dc sc => by
    have := run_copy_rowS (P := Try.prog) w.drew 70 70 ty 73 b ((i + 1) * 3) (n - i) dc ⟨b, i * 3, none⟩ (n + 1 - i) sc cur 73 (xs.drop (i * 3)) 3 Try.underlying70 hsz hg (by rw [hmn2, hdl] <;> omega) (fun j u hj => by
     rw [hadd]
     rw [List.getElem?_drop] at hj
     exact hcell _ u hj) (by rw [hcs, hdl]; omega) h1d
    rw [hmn2, hR2] at this
    exact this
   have hR2s : R2.size = c * 3 := by rw [← hR2, hdl]; exact splice_len cur.toList (xs.drop (i * 3)) _ _ _ hdl (by simpa using hcs) (by omega)
   have hg2 : (w.drew.setRow b R2).heap[b]? = some (.cells R2 73) := setRow_heap w.drew b cur R2 _ _ hg
   obtain ⟨R3, hR3⟩ : ∃ R3 : Array Value, (R2.toList.take (i * 3) ++ x ++ R2.toList.drop (i * 3 + x.length)).toArray = R3 := ⟨_, rfl⟩
   have hcpB : ∀ ty dc, (Builtin.copy_ #[70, 70] ty #[.slice (some ⟨b, i * 3, none⟩) (n + 1 - i) dc, .slice (some ⟨vb, 0, none⟩) 1 1]).run Try.prog (w.drew.setRow b R2) = .ok (goInt 1) ((w.drew.setRow b R2).setRow b R3) := fun ty dc => by
    have := run_copy_rowS (P := Try.prog) (w.drew.setRow b R2) 70 70 ty 73 b (i * 3) (n + 1 - i) dc ⟨vb, 0, none⟩ 1 1 R2 73 x 3 Try.underlying70 hsz hg2 (by rw [hmn]; omega) (fun j u hj => by
     rw [hadd, Nat.zero_add]
     exact (World.cell?_of_block (w := w) (a := ⟨vb, j, none⟩) (setRow_other w.drew b vb R2 (Ne.symm hbv))).trans (hvc j u hj)) (by rw [hR2s]; omega) h1x
    rw [hmn, hR3] at this
    exact this
   refine (insShiftSlot i n c vb b x.length cur.size 73 73 R2 R3 w hin hn (by omega) hc63 (Ne.symm hbv) (by simp [World.shape?, hbox]) (by simp [World.shape?, hg]) (by omega) (by simp [World.frozen?, hbox]) (by simp [World.frozen?, hbox]) hcpA hcpB).mono ?_
   rintro e w' ⟨rfl, rfl⟩
   refine ⟨_, _, rfl, ⟨by simp [hx, hxl]; omega, .inr ⟨b, c, R3, rfl, Nat.zero_le _, setRow_heap _ b R2 R3 _ _ hg2, by omega, hcm, ?_, ?_⟩⟩, ⟨rfl, rfl, rfl, by simp, fun k hk hkb => ?_⟩, .inl rfl⟩
   ·rw [← hR3, hx]; exact splice_len R2.toList x _ _ _ hx (by simpa using hR2s) (by omega)
   ·rw [← hR3, ← hR2, hx, hdl]
    have := splice_in cur.toList xs x (i * 3) 3 (c * 3) (by omega) hx (by simpa using hcs) (by omega) (by rw [hxl]; exact htk)
    rw [show xs.length - i * 3 = (n - i) * 3 by omega] at this
    simpa [show (i + 1) * 3 = i * 3 + 3 by omega, show (n + 1) * 3 = xs.length + 3 by omega] using this
   ·have hkb2 : k ≠ b := fun e => hkb (by rw [e]; rfl)
    rw [setRow_other _ b k R3 hkb2, setRow_other _ b k R2 hkb2]
    rfl
set_option maxHeartbeats 1000000 in
theorem insGrowNode (i n c vb b N G : Nat) (ROW R2 R3 : Array Value) (w W1 : World) (hin : i < n) (hn : n ≤ 1000) (hr : c < n + 1) (hnc : n ≤ c) (hGn : n + 1 ≤ G) (hG63 : G ≤ 9223372036854775807)
  (hrz : ∀ ty, (Builtin.append_ #[46, 3] ty #[.slice (some ⟨b, 0, none⟩) i c, .int .i64 ((n : Int) + 1 - (i : Int))]).run Try.prog w = .ok (.slice (some ⟨N, 0, none⟩) (n + 1) G) W1)
  (hcpA : ∀ ty dc, (Builtin.copy_ #[46, 46] ty #[.slice (some ⟨N, i, none⟩) (n + 1 - i) dc, .slice (some ⟨vb, 0, none⟩) 1 1]).run Try.prog W1 = .ok (goInt 1) (W1.setRow N R2))
  (hcpB : ∀ ty dc sc, (Builtin.copy_ #[46, 46] ty #[.slice (some ⟨N, (i + 1), none⟩) (n - i) dc, .slice (some ⟨b, i, none⟩) (n - i) sc]).run Try.prog (W1.setRow N R2).drew = .ok (goInt ((n - i : Nat) : Int)) ((W1.setRow N R2).drew.setRow N R3)) :
  Calls Try.prog 102 #[.slice (some ⟨b, 0, none⟩) n c, .int .i64 i, .slice (some ⟨vb, 0, none⟩) 1 1] w fun e w' => e = .returned (.slice (some ⟨N, 0, none⟩) (n + 1) G) ∧ w' = (W1.setRow N R2).drew.setRow N R3 := by
 have hb1 : (0 : Int) ≤ (i : Int) + 1 := by omega
 have ni : ¬ ((i : Int) = (n : Int)) := by omega
 have hw1 : IntKind.i64.wrap ((i : Int) + 1) = (i : Int) + 1 := by rw [IntKind.wrap_i64]; omega
 have htn : ((i : Int) + 1).toNat = i + 1 := by omega
 have hci : ¬ (c = i) := by omega
 have hGi : ¬ (G = i) := by omega
 have hGi1 : ¬ (G = i + 1) := by omega
 have hz3 : (c : Int) < (n : Int) + 1 := by omega
 have hin' : i ≤ n := by omega
 have hb3 : (i : Int) ≤ (n : Int) := by omega
 go_enter Try.func102, Try.ntmps102
 go_wp2_with (first
  | (at_builtin; refine Lib.wpList_append_run _ rfl _ _ _ _ rfl _ _ rfl rfl _ _ (hrz _) ?_)
  | (at_builtin; refine wpList_copy_runI _ rfl _ _ 46 46 rfl (.slice (some ⟨N, i, none⟩) (n + 1 - i) (G - i)) (.slice (some ⟨vb, 0, none⟩) 1 1) (by simp [Act.eval, Act.put]) (by simp [Act.eval, Act.put]) (hcpA _ _) ?_))
 go_region_law (refine step_copy_runI rfl _ _ 46 46 rfl (.slice (some ⟨N, (i + 1), none⟩) (n - i) (G - (i + 1))) (.slice (some ⟨b, i, none⟩) (n - i) (c - i)) (by simp [Act.eval, Act.put]) (by simp [Act.eval, Act.put]) (hcpB _ _ _) ?_)
 go_wp2
 go_ret
 exact ⟨rfl, rfl⟩
set_option maxHeartbeats 1000000 in
theorem insShiftNode (i n c vb b kA kB tA tB : Nat) (R2 R3 : Array Value) (w : World) (hin : i < n) (hn : n ≤ 1000) (hr : n + 1 ≤ c) (hc63 : c ≤ 9223372036854775807) (hvb : vb ≠ b)
  (hsa : w.shape? vb = some (tA, kA)) (hsb : w.shape? b = some (tB, kB)) (hkB : kB ≠ 0) (hfa : w.frozen? ⟨vb, 0, none⟩ = false) (hfe : w.frozen? ⟨vb, kA, none⟩ = false)
  (hcpA : ∀ ty dc sc, (Builtin.copy_ #[46, 46] ty #[.slice (some ⟨b, (i + 1), none⟩) (n - i) dc, .slice (some ⟨b, i, none⟩) (n + 1 - i) sc]).run Try.prog w.drew = .ok (goInt ((n - i : Nat) : Int)) (w.drew.setRow b R2))
  (hcpB : ∀ ty dc, (Builtin.copy_ #[46, 46] ty #[.slice (some ⟨b, i, none⟩) (n + 1 - i) dc, .slice (some ⟨vb, 0, none⟩) 1 1]).run Try.prog (w.drew.setRow b R2) = .ok (goInt 1) ((w.drew.setRow b R2).setRow b R3)) :
  Calls Try.prog 102 #[.slice (some ⟨b, 0, none⟩) n c, .int .i64 i, .slice (some ⟨vb, 0, none⟩) 1 1] w fun e w' => e = .returned (.slice (some ⟨b, 0, none⟩) (n + 1) c) ∧ w' = (w.drew.setRow b R2).setRow b R3 := by
 have hb1 : (0 : Int) ≤ (i : Int) + 1 := by omega
 have ni : ¬ ((i : Int) = (n : Int)) := by omega
 have hov : ∀ lb cb, (callFunc 103 #[.slice (some ⟨vb, 0, none⟩) 1 1, .slice (some ⟨b, (i + 1), none⟩) lb cb]).run Try.prog w = .ok (.value (.bool false)) w := fun lb cb => by
  rw [run_callFunc_extern Try.func103 (by kernel_rfl) (by kernel_rfl) (by kernel_rfl) (e := Extern.SlicesOverlaps.overlaps #[46, 46] #[4]) (by kernel_rfl),
   Lib.run_overlaps_apart w 46 4 51 Try.underlying46 1 (fun w => by kernel_rfl) ⟨vb, 0, none⟩ ⟨b, (i + 1), none⟩ 1 1 lb cb hvb tA tB kA kB hsa hsb hkB hfa hfe]
  rfl
 have hw1 : IntKind.i64.wrap ((i : Int) + 1) = (i : Int) + 1 := by rw [IntKind.wrap_i64]; omega
 have htn : ((i : Int) + 1).toNat = i + 1 := by omega
 have hci : ¬ (c = i) := by omega
 have hci1 : ¬ (c = i + 1) := by omega
 have hin' : i ≤ n := by omega
 have hb3 : (i : Int) ≤ (n : Int) + 1 := by omega
 go_enter Try.func102, Try.ntmps102
 go_wp2_with (simp only [hov])
 go_region_law (refine step_copy_runI rfl _ _ 46 46 rfl (.slice (some ⟨b, (i + 1), none⟩) (n - i) (c - (i + 1))) (.slice (some ⟨b, i, none⟩) (n + 1 - i) (c - i)) (by simp [Act.eval, Act.put]) (by simp [Act.eval, Act.put]) (hcpA _ _ _) ?_)
 go_wp2_with (at_builtin; refine wpList_copy_runI _ rfl _ _ 46 46 rfl (.slice (some ⟨b, i, none⟩) (n + 1 - i) (c - i)) (.slice (some ⟨vb, 0, none⟩) 1 1) (by simp [Act.eval, Act.put]) (by simp [Act.eval, Act.put]) (hcpB _ _) ?_)
 go_ret
 exact ⟨rfl, rfl⟩
set_option maxHeartbeats 1000000 in
theorem insertNode_any (i n c vb : Nat) (a : Option Addr) (xs x : List Value) (w : World) (hrow : w.ownsRow 0 51 1 (.slice a n c) n xs) (hi : i ≤ n) (hn : n ≤ 1000) (hx : x.length = 1) (hbox : w.heap[vb]? = some (.cells x.toArray 51)) (hvb : (Value.slice a n c).ownBlock ≠ some vb) (h1x : ∀ u ∈ x, u.oneCell' = true) (h1 : ∀ u ∈ xs, u.oneCell' = true) :
  Calls Try.prog 102 #[.slice a n c, .int .i64 i, .slice (some ⟨vb, 0, none⟩) 1 1] w fun e w' => ∃ a' c', e = .returned (.slice a' (n + 1) c') ∧ w'.ownsRow 0 51 1 (.slice a' (n + 1) c') (n + 1) (xs.take (i) ++ x ++ xs.drop (i)) ∧ w.grownBy w' (Value.slice a n c).ownBlock ∧ ((Value.slice a' (n + 1) c').ownBlock = (Value.slice a n c).ownBlock ∨ ∀ g, (Value.slice a' (n + 1) c').ownBlock = some g → w.heap.size ≤ g) := by
 obtain ⟨i0, hi0, hz0, hz1, hz2⟩ := info_parts info_node
 have hxl := hrow.1
 have hvl : vb < w.heap.size := (Array.getElem?_eq_some_iff.1 hbox).1
 have hvc : ∀ j u, x[j]? = some u → w.cell? ⟨vb, j, none⟩ = some u := fun j u hj => by simp [World.cell?, hbox, hj]
 have hadd : ∀ (b o k : Nat), (⟨b, o, none⟩ : Addr).add k = ⟨b, o + k, none⟩ := fun b o k => by simp [Addr.add]
 by_cases hie : i = n
 ·subst hie
  have HX : Hid (xs.take (i) ++ x ++ xs.drop (i) = xs ++ x) := by
   show _ = _
   rw [List.take_of_length_le (by omega), List.drop_of_length_le (by omega), List.append_nil]
  rw [HX.out]
  have hvc0 : ∀ j u, x[j]? = some u → w.cell? ((⟨vb, 0, none⟩ : Addr).add j) = some u := fun j u hj => by rw [hadd, Nat.zero_add]; exact hvc j u hj
  have HC : Hid (a = none ∨ ∃ b, a = some ⟨b, 0, none⟩) := by
   rcases hrow.2 with ⟨e, _⟩ | ⟨b, cap, cur, e, _⟩
   ·simp only [Value.slice.injEq] at e; exact .inl e.1
   ·simp only [Value.slice.injEq] at e; exact .inr ⟨b, e.1⟩
  have hcm : i ≤ c ∧ c ≤ maxLen := by
   rcases hrow.2 with ⟨e, e2⟩ | ⟨b, cap, cur, e, _, _, h3, h4, _⟩
   ·simp only [Value.slice.injEq] at e; exact ⟨by omega, by omega⟩
   ·simp only [Value.slice.injEq] at e; obtain ⟨_, _, rfl⟩ := e; exact ⟨h3, h4⟩
  have hcc := hcm.1
  have hc63 := hcm.2
  unfold maxLen at hc63
  clear hbox hvc hi hcm
  rcases HC.out with rfl | ⟨b, rfl⟩
  all_goals
   have HROW : Hid _ := hrow
   clear hrow HC
   go_enter Try.func102, Try.ntmps102
   go_wp2_with (at_builtin; refine wpList_append_ownD _ rfl _ _ 46 rfl 0 51 i0 _ 1 16 Try.underlying46 hi0 hz0 hz1 hz2 rfl (by decide) _ i xs rfl HROW.out ⟨vb, 0, none⟩ 1 1 x rfl (by omega) hvc0 h1x (by unfold maxLen; omega) (by omega) (Nat.zero_le _) ?_; intro v' w4 g1 g2 g3; obtain ⟨a', c', rfl⟩ := own_shape g1; have G1 : Hid _ := g1; have G2 : Hid _ := g2; have G3 : Hid _ := g3; clear g1 g2 g3 HROW)
   all_goals (go_ret; exact ⟨a', c', rfl, G1.out, G2.out, G3.out⟩)
 ·have hin : i < n := by omega
  rcases hrow.2 with ⟨e, e2⟩ | ⟨b, cap, cur, e, _, hg, hnc, hcm, hcs, htk⟩
  ·omega
  simp only [Value.slice.injEq] at e
  obtain ⟨rfl, _, rfl⟩ := e
  have hbv : b ≠ vb := fun e => hvb (by rw [e]; rfl)
  have hbl : b < w.heap.size := (Array.getElem?_eq_some_iff.1 hg).1
  have hcell : ∀ j u, xs[j]? = some u → w.cell? ⟨b, j, none⟩ = some u := fun j u hj => by
   have hjl := (List.getElem?_eq_some_iff.1 hj).1
   rw [hrow.cellAt j (by omega)]; exact hj
  have hsz : (Try.prog.info? 51).map (·.size) = some 1 := by rw [hi0]; simp [hz1]
  have ni : ¬ ((i : Int) = (n : Int)) := by omega
  have hmn : Nat.min 1 (n + 1 - i) = 1 := Nat.min_eq_left (by omega)
  have hdl : (xs.drop (i)).length = (n - i) := by rw [List.length_drop, hxl]; omega
  have h1d : ∀ u ∈ xs.drop (i), u.oneCell' = true := fun u hu => h1 u (List.mem_of_mem_drop hu)
  have hc63 := hcm
  unfold maxLen at hc63
  have hw1 : IntKind.i64.wrap ((i : Int) + 1) = (i : Int) + 1 := by rw [IntKind.wrap_i64]; omega
  have htn : ((i : Int) + 1).toNat = i + 1 := by omega
  by_cases hr : c < n + 1
  ·                     
   have hce : c = n := by omega
   obtain ⟨Z, hZ⟩ : ∃ Z : Value, i0.zero = some Z ∧ Z.cells.size = 1 := ⟨_, hz0, rfl⟩
   have hold : (Builtin.firstCells i0.size i (.slice (some ⟨b, 0, none⟩) i c)).run Try.prog w.drew = .ok (xs.take (i)).toArray w.drew := by
    rw [hz1]
    exact run_firstCells_some w.drew 1 i ⟨b, 0, none⟩ i c (xs.take (i)) (by rw [List.length_take]; omega) (fun j u hj => by
     rw [hadd, Nat.zero_add]
     rw [List.getElem?_take] at hj
     split at hj
     ·exact hcell j u hj
     ·cases hj)
   have hik : i + (n + 1 - i) = n + 1 := by omega
   have hkk : (n : Int) + 1 - (i : Int) = ((n + 1 - i : Nat) : Int) := by omega
   obtain ⟨G, hG⟩ : ∃ G, G = grownCap w (n + 1) c 51 := ⟨_, rfl⟩
   obtain ⟨ROW, hROW⟩ : ∃ ROW : Array Value, ROW = (xs.take (i)).toArray ++ Builtin.zeroCells Z.cells (n + 1 - i) ++ Builtin.zeroCells Z.cells (G - (n + 1)) := ⟨_, rfl⟩
   have hGn : n + 1 ≤ G := by rw [hG]; exact grownCap_ge w _ _ _
   have hGm : G ≤ maxLen := by rw [hG]; exact grownCap_le_maxLen w (n + 1) c _ (by unfold maxLen; omega)
   have hG63 := hGm
   unfold maxLen at hG63
   have hrz : ∀ ty, (Builtin.append_ #[46, 3] ty #[.slice (some ⟨b, 0, none⟩) i c, .int .i64 ((n : Int) + 1 - (i : Int))]).run Try.prog w = .ok (.slice (some ⟨w.heap.size, 0, none⟩) (n + 1) G) (w.drew.alloc (.cells ROW 51)) := fun ty => by
    have h := Lib.run_append_grow_zeros w 46 3 ty 51 i0 Z .i64 .i64 Try.underlying46 Try.underlying3 hi0 hZ.1 (some ⟨b, 0, none⟩) i c (xs.take (i)) hold (n + 1 - i) (by omega) (by omega) (by omega) (by omega) (by rw [hz2]; omega) (by rw [hz2, hik]; exact growslice_fits (by omega) (by omega))
    rw [hik, ← hG, ← hROW] at h
    rw [hkk]
    exact h
   have hRs : ROW.size = G := by
    rw [hROW]
    simp [Builtin.zeroCells, hZ.2, hxl]
    omega
   have hRt : ROW.toList.take (i) = xs.take (i) := by
    rw [hROW]
    simp only [Array.toList_append, List.append_assoc]
    rw [List.take_append_of_le_length (by simp; omega), List.take_of_length_le (by simp; omega)]
   obtain ⟨N, hN⟩ : ∃ N, w.heap.size = N := ⟨_, rfl⟩
   obtain ⟨W1, hW1⟩ : ∃ W1, w.drew.alloc (.cells ROW 51) = W1 := ⟨_, rfl⟩
   have hg1 : W1.heap[N]? = some (.cells ROW 51) := by rw [← hW1, ← hN]; exact heap_alloc_new w.drew _
   have hB1 : Below N w W1 := by rw [← hW1, ← hN]; exact ((Below.refl w.heap.size w).drew).alloc (Nat.le_refl _) _
   have hcb1 : ∀ j u, xs[j]? = some u → W1.cell? ⟨b, j, none⟩ = some u := fun j u hj => (World.cell?_of_block (w := w) (a := ⟨b, j, none⟩) (hB1.block b (by omega))).trans (hcell j u hj)
   have hcv1 : ∀ j u, x[j]? = some u → W1.cell? ⟨vb, j, none⟩ = some u := fun j u hj => (World.cell?_of_block (w := w) (a := ⟨vb, j, none⟩) (hB1.block vb (by omega))).trans (hvc j u hj)
   obtain ⟨R2, hR2⟩ : ∃ R2 : Array Value, (ROW.toList.take (i) ++ x ++ ROW.toList.drop (i + x.length)).toArray = R2 := ⟨_, rfl⟩
   have hcpA : ∀ ty dc, (Builtin.copy_ #[46, 46] ty #[.slice (some ⟨N, i, none⟩) (n + 1 - i) dc, .slice (some ⟨vb, 0, none⟩) 1 1]).run Try.prog W1 = .ok (goInt 1) (W1.setRow N R2) := fun ty dc => by
    have := run_copy_rowS (P := Try.prog) W1 46 46 ty 51 N (i) (n + 1 - i) dc ⟨vb, 0, none⟩ 1 1 ROW 51 x 1 Try.underlying46 hsz hg1 (by rw [hmn]; omega) (fun j u hj => by rw [hadd, Nat.zero_add]; exact hcv1 j u hj) (by rw [hRs]; omega) h1x
    rw [hmn, hR2] at this
    exact this
   obtain ⟨R3, hR3⟩ : ∃ R3 : Array Value, (R2.toList.take ((i + 1)) ++ xs.drop (i) ++ R2.toList.drop ((i + 1) + (xs.drop (i)).length)).toArray = R3 := ⟨_, rfl⟩
   have hR2s : R2.size = G := by rw [← hR2, hx]; exact splice_len ROW.toList x _ _ _ hx (by simpa using hRs) (by omega)
   have hg2 : (W1.setRow N R2).drew.heap[N]? = some (.cells R2 51) := setRow_heap W1 N ROW R2 _ _ hg1
   have hmn2 : Nat.min (n - i) (n - i) = n - i := Nat.min_self _
   have hcpB : ∀ ty dc sc, (Builtin.copy_ #[46, 46] ty #[.slice (some ⟨N, (i + 1), none⟩) (n - i) dc, .slice (some ⟨b, i, none⟩) (n - i) sc]).run Try.prog (W1.setRow N R2).drew = .ok (goInt ((n - i : Nat) : Int)) ((W1.setRow N R2).drew.setRow N R3) := fun ty dc sc => by
    have := run_copy_rowS (P := Try.prog) (W1.setRow N R2).drew 46 46 ty 51 N ((i + 1)) (n - i) dc ⟨b, i, none⟩ (n - i) sc R2 51 (xs.drop (i)) 1 Try.underlying46 hsz hg2 (by rw [hmn2, hdl] <;> omega) (fun j u hj => by
     rw [hadd]
     rw [List.getElem?_drop] at hj
     exact (World.cell?_of_block (w := W1) (a := ⟨b, i + j, none⟩) (setRow_other W1 N b R2 (by omega))).trans (hcb1 _ u hj)) (by rw [hR2s, hdl]; omega) h1d
    rw [hmn2, hR3] at this
    exact this
   have HFIN : Hid (∃ a' c', Ending.returned (.slice (some ⟨N, 0, none⟩) (n + 1) G) = .returned (.slice a' (n + 1) c') ∧ ((W1.setRow N R2).drew.setRow N R3).ownsRow 0 51 1 (.slice a' (n + 1) c') (n + 1) (xs.take (i) ++ x ++ xs.drop (i)) ∧ w.grownBy ((W1.setRow N R2).drew.setRow N R3) (Value.slice (some ⟨b, 0, none⟩) n c).ownBlock ∧ ((Value.slice a' (n + 1) c').ownBlock = (Value.slice (some ⟨b, 0, none⟩) n c).ownBlock ∨ ∀ g, (Value.slice a' (n + 1) c').ownBlock = some g → w.heap.size ≤ g)) := by
    refine ⟨_, _, rfl, ⟨by simp [hx, hxl]; omega, .inr ⟨N, G, R3, rfl, Nat.zero_le _, setRow_heap _ N R2 R3 _ _ hg2, hGn, hGm, ?_, ?_⟩⟩, ⟨hB1.os, hB1.tape, hB1.output, by simp; have := hB1.size; omega, fun k hk _ => ?_⟩, .inr (fun g hgg => ?_)⟩
    ·rw [← hR3, hdl]; exact splice_len R2.toList (xs.drop (i)) _ _ _ hdl (by simpa using hR2s) (by omega)
    ·rw [← hR3, ← hR2, hx]
     have := splice_two ROW.toList xs x (i) 1 (G) (by omega) hx (by simp [hRs]) (by omega) hRt
     rw [hdl]
     rw [show xs.length - i = (n - i) by omega] at this
     simpa [show (i + 1) = i + 1 by omega, show (n + 1) = xs.length + 1 by omega] using this
    ·rw [setRow_other _ N k R3 (by omega)]
     show (W1.setRow N R2).heap[k]? = _
     rw [setRow_other _ N k R2 (by omega)]
     exact hB1.block k (by omega)
    ·have hgN : N = g := by simpa [Value.ownBlock] using hgg
     omega
   rw [hN, hW1] at hrz
   refine (insGrowNode i n c vb b N G ROW R2 R3 w W1 hin hn hr hnc hGn hG63 hrz hcpA hcpB).mono ?_
   rintro e w' ⟨rfl, rfl⟩
   exact HFIN.out
  ·have hmn2 : Nat.min (n + 1 - i) (n - i) = n - i := Nat.min_eq_right (by omega)
   obtain ⟨R2, hR2⟩ : ∃ R2 : Array Value, (cur.toList.take ((i + 1)) ++ xs.drop (i) ++ cur.toList.drop ((i + 1) + (xs.drop (i)).length)).toArray = R2 := ⟨_, rfl⟩
   have hcpA : ∀ ty dc sc, (Builtin.copy_ #[46, 46] ty #[.slice (some ⟨b, (i + 1), none⟩) (n - i) dc, .slice (some ⟨b, i, none⟩) (n + 1 - i) sc]).run Try.prog w.drew = .ok (goInt ((n - i : Nat) : Int)) (w.drew.setRow b R2) := fun ty dc sc => by
    have := run_copy_rowS (P := Try.prog) w.drew 46 46 ty 51 b ((i + 1)) (n - i) dc ⟨b, i, none⟩ (n + 1 - i) sc cur 51 (xs.drop (i)) 1 Try.underlying46 hsz hg (by rw [hmn2, hdl] <;> omega) (fun j u hj => by
     rw [hadd]
     rw [List.getElem?_drop] at hj
     exact hcell _ u hj) (by rw [hcs, hdl]; omega) h1d
    rw [hmn2, hR2] at this
    exact this
   have hR2s : R2.size = c := by rw [← hR2, hdl]; exact splice_len cur.toList (xs.drop (i)) _ _ _ hdl (by simpa using hcs) (by omega)
   have hg2 : (w.drew.setRow b R2).heap[b]? = some (.cells R2 51) := setRow_heap w.drew b cur R2 _ _ hg
   obtain ⟨R3, hR3⟩ : ∃ R3 : Array Value, (R2.toList.take (i) ++ x ++ R2.toList.drop (i + x.length)).toArray = R3 := ⟨_, rfl⟩
   have hcpB : ∀ ty dc, (Builtin.copy_ #[46, 46] ty #[.slice (some ⟨b, i, none⟩) (n + 1 - i) dc, .slice (some ⟨vb, 0, none⟩) 1 1]).run Try.prog (w.drew.setRow b R2) = .ok (goInt 1) ((w.drew.setRow b R2).setRow b R3) := fun ty dc => by
    have := run_copy_rowS (P := Try.prog) (w.drew.setRow b R2) 46 46 ty 51 b (i) (n + 1 - i) dc ⟨vb, 0, none⟩ 1 1 R2 51 x 1 Try.underlying46 hsz hg2 (by rw [hmn]; omega) (fun j u hj => by
     rw [hadd, Nat.zero_add]
     exact (World.cell?_of_block (w := w) (a := ⟨vb, j, none⟩) (setRow_other w.drew b vb R2 (Ne.symm hbv))).trans (hvc j u hj)) (by rw [hR2s]; omega) h1x
    rw [hmn, hR3] at this
    exact this
   refine (insShiftNode i n c vb b x.length cur.size 51 51 R2 R3 w hin hn (by omega) hc63 (Ne.symm hbv) (by simp [World.shape?, hbox]) (by simp [World.shape?, hg]) (by omega) (by simp [World.frozen?, hbox]) (by simp [World.frozen?, hbox]) hcpA hcpB).mono ?_
   rintro e w' ⟨rfl, rfl⟩
   refine ⟨_, _, rfl, ⟨by simp [hx, hxl]; omega, .inr ⟨b, c, R3, rfl, Nat.zero_le _, setRow_heap _ b R2 R3 _ _ hg2, by omega, hcm, ?_, ?_⟩⟩, ⟨rfl, rfl, rfl, by simp, fun k hk hkb => ?_⟩, .inl rfl⟩
   ·rw [← hR3, hx]; exact splice_len R2.toList x _ _ _ hx (by simpa using hR2s) (by omega)
   ·rw [← hR3, ← hR2, hx, hdl]
    have := splice_in cur.toList xs x (i) 1 (c) (by omega) hx (by simpa using hcs) (by omega) (by rw [hxl]; exact htk)
    rw [show xs.length - i = (n - i) by omega] at this
    simpa [show (i + 1) = i + 1 by omega, show (n + 1) = xs.length + 1 by omega] using this
   ·have hkb2 : k ≠ b := fun e => hkb (by rw [e]; rfl)
    rw [setRow_other _ b k R3 hkb2, setRow_other _ b k R2 hkb2]
    rfl
theorem less_iff (a b : ByteArray) : lessB a b = true ↔ a.toList < b.toList := by
 unfold lessB
 rw [bytesLess_eq, decide_eq_true_eq]
theorem less_trans {a b c : ByteArray} (h1 : lessB a b = true) (h2 : lessB b c = true) : lessB a c = true := by
 rw [less_iff] at h1 h2 ⊢
 exact List.lt_trans h1 h2
theorem less_irrefl (a : ByteArray) : ¬ lessB a a = true := by
 rw [less_iff]
 exact List.lt_irrefl _
theorem less_tri {a b : ByteArray} (h1 : ¬ lessB a b = true) (h2 : ¬ lessB b a = true) : a = b := by
 rw [less_iff] at h1 h2
 exact listG_inj (List.le_antisymm h2 h1)
theorem asc_pair {l : List ByteArray} {n : Nat} (h : ascTo l n) : ∀ d i, i + d + 1 < n → lessB (l.getD i ByteArray.empty) (l.getD (i + d + 1) ByteArray.empty) = true
 | 0, i, hi => h i hi
 | d + 1, i, hi => less_trans (asc_pair h d i (by omega)) (h (i + d + 1) (by omega))
theorem asc_lt {l : List ByteArray} {n i k : Nat} (h : ascTo l n) (hik : i < k) (hk : k < n) : lessB (l.getD i ByteArray.empty) (l.getD k ByteArray.empty) = true := by
 have := asc_pair h (k - i - 1) i (by omega)
 rwa [show i + (k - i - 1) + 1 = k by omega] at this
def cmpT (x y : ByteArray) : Int := if lessB x y = true then -1 else if lessB y x = true then 1 else 0
theorem cmpStrT_any (x y : ByteArray) (W : World) : Calls Try.prog 87 #[.string x, .string y] W fun e w' => e = .returned (.int .i64 (cmpT x y)) ∧ w' = W := by
 have n1 : (x.toList == x.toList) = true := by simp
 have n2 : (y.toList == y.toList) = true := by simp
 cases h1 : Op.bytesLess x.toList y.toList with
 | true =>
  have H : Hid (cmpT x y = -1) := by show _ = _; simp [cmpT, lessB, h1]
  go_enter Try.func87, Try.ntmps87
  go_wp2
  go_ret
  exact ⟨by rw [H.out]; rfl, rfl⟩
 | false =>
  cases h2 : Op.bytesLess y.toList x.toList with
  | true =>
   have H : Hid (cmpT x y = 1) := by show _ = _; simp [cmpT, lessB, h1, h2]
   have h3 : (x.toList == y.toList) = false := by
    rw [bytesLess_eq] at h2
    have h2' := of_decide_eq_true h2
    rw [beq_eq_false_iff_ne]
    intro e; rw [e] at h2'; exact List.lt_irrefl _ h2'
   go_enter Try.func87, Try.ntmps87
   go_wp2
   go_ret
   exact ⟨by rw [H.out]; rfl, rfl⟩
  | false =>
   have H : Hid (cmpT x y = 0) := by show _ = _; simp [cmpT, lessB, h1, h2]
   have h3 : (x.toList == y.toList) = true := by
    rw [bytesLess_eq] at h1 h2
    have h1' := of_decide_eq_false h1
    have h2' := of_decide_eq_false h2
    rw [beq_iff_eq]
    exact List.le_antisymm h2' h1'
   go_enter Try.func87, Try.ntmps87
   go_wp2
   go_ret
   exact ⟨by rw [H.out]; rfl, rfl⟩
theorem searchC_any (k v : ByteArray) (o : Int) (key : ByteArray) (w : World) : Calls Try.prog 86 #[.agg #[.string k, .string v, .int .i64 o], .string key] w fun e w' => e = .returned (.int .i64 (cmpT k key)) ∧ Below w.heap.size w w' := by
 have ab := (Below.refl w.heap.size w).alloc (Nat.le_refl _) (.cells #[.string k, .string v, .int .i64 o] 73)
 have hc := fun W => cmpStrT_any k key W
 generalize cmpT k key = cv at hc ⊢
 go_enter Try.func86, Try.ntmps86
 go_wp2_with fail
 refine (hc _).mono ?_
 rintro e w' ⟨rfl, rfl⟩
 go_wp2_with fail
 go_ret
 exact ⟨rfl, ab⟩
def PosIs (zs : List (ByteArray × ByteArray × Int)) (key : ByteArray) (i : Nat) : Prop := i ≤ zs.length ∧ (∀ k, k < i → lessB (zs.getD k (ByteArray.empty, ByteArray.empty, 0)).1 key = true) ∧ ∀ k, i ≤ k → k < zs.length → ¬ lessB (zs.getD k (ByteArray.empty, ByteArray.empty, 0)).1 key = true
def SearchAns (zs : List (ByteArray × ByteArray × Int)) (key : ByteArray) (w : World) (e : Ending) (w' : World) : Prop :=
 ∃ (i : Nat) (b : Bool), e = .returned (.tuple #[.int .i64 i, .bool b]) ∧ (b = true → i < zs.length ∧ (zs.getD i (ByteArray.empty, ByteArray.empty, 0)).1 = key) ∧ (b = false → ∀ k, k < zs.length → (zs.getD k (ByteArray.empty, ByteArray.empty, 0)).1 ≠ key) ∧ PosIs zs key i ∧ Below w.heap.size w w'
theorem SlAt.at {w : World} {P : Nat → Prop} {a : Option Addr} {n c : Nat} {zs : List (ByteArray × ByteArray × Int)} (h : SlAt w P a n c zs) {j : Nat} (hj : j < n) : ∃ b, a = some ⟨b, 0, none⟩ ∧ P b ∧ w.cell? ⟨b, j * 3, none⟩ = some (.string (zs.getD j (ByteArray.empty, ByteArray.empty, 0)).1) ∧ w.cell? ⟨b, j * 3 + 1, none⟩ = some (.string (zs.getD j (ByteArray.empty, ByteArray.empty, 0)).2.1) ∧ w.cell? ⟨b, j * 3 + 2, none⟩ = some (.int .i64 (zs.getD j (ByteArray.empty, ByteArray.empty, 0)).2.2) := by
 obtain ⟨h1, h2, h3, h4⟩ := h
 obtain ⟨b, e, hb, hc⟩ := h4 (by omega)
 have hcc : ∀ r, r < 3 → w.cell? ⟨b, j * 3 + r, none⟩ = (slCells (zs.getD j (ByteArray.empty, ByteArray.empty, 0)))[r]? := fun r hr => by
  rw [hc (j * 3 + r) (by omega)]
  exact rowsOf_get sl3 _ zs j r (by omega) hr
 exact ⟨b, e, hb, by simpa [slCells] using hcc 0 (by omega), by simpa [slCells] using hcc 1 (by omega), by simpa [slCells] using hcc 2 (by omega)⟩
set_option maxHeartbeats 4000000 in
theorem binSearch_any (zs : List (ByteArray × ByteArray × Int)) (hasc : ascTo (zs.map (fun s => s.1)) zs.length) (key : ByteArray) (P : Nat → Prop) (a : Option Addr) (n c : Nat) (w : World) (h : SlAt w P a n c zs) (hn : n ≤ 1000) :
  Calls Try.prog 85 #[.slice a n c, .string key, .func (.func 86) #[] #[]] w fun e w' => SearchAns zs key w e w' := by
 have HL : Hid (zs.length = n) := h.1
 have HC : Hid (∀ wr, Below w.heap.size w wr → ∀ j, j < n → ∃ b, a = some ⟨b, 0, none⟩ ∧ b < wr.heap.size ∧ wr.cell? ⟨b, j * 3, none⟩ = some (.string (zs.getD j (ByteArray.empty, ByteArray.empty, 0)).1) ∧ wr.cell? ⟨b, j * 3 + 1, none⟩ = some (.string (zs.getD j (ByteArray.empty, ByteArray.empty, 0)).2.1) ∧ wr.cell? ⟨b, j * 3 + 2, none⟩ = some (.int .i64 (zs.getD j (ByteArray.empty, ByteArray.empty, 0)).2.2)) := fun wr hb j hj => by
  obtain ⟨b, e, _, c0, c1, c2⟩ := h.at hj
  have hbl := lt_of_cellG c0
  have hk := hb.block b hbl
  exact ⟨b, e, Nat.lt_of_lt_of_le hbl hb.size, (World.cell?_of_block (w := w) (a := ⟨b, j * 3, none⟩) hk).trans c0, (World.cell?_of_block (w := w) (a := ⟨b, j * 3 + 1, none⟩) hk).trans c1, (World.cell?_of_block (w := w) (a := ⟨b, j * 3 + 2, none⟩) hk).trans c2⟩
 have HASC : Hid (∀ i k, i < k → k < n → lessB (zs.getD i (ByteArray.empty, ByteArray.empty, 0)).1 (zs.getD k (ByteArray.empty, ByteArray.empty, 0)).1 = true) := fun i k hik hk => by
  have := asc_lt hasc hik (by have := HL.out; omega)
  have hl := HL.out
  simpa [List.getD, show i < zs.length by omega, show k < zs.length by omega] using this
 clear h hasc
 go_enter Try.func85, Try.ntmps85
 go_wp2_with fail
 go_loopw [9, 10] (fun iv jv wr => ∃ (i j : Nat), i ≤ j ∧ j ≤ n ∧ iv = .int .i64 i ∧ jv = .int .i64 j ∧ Hid ((∀ k, k < i → lessB (zs.getD k (ByteArray.empty, ByteArray.empty, 0)).1 key = true) ∧ (∀ k, j ≤ k → k < n → ¬ lessB (zs.getD k (ByteArray.empty, ByteArray.empty, 0)).1 key = true)) ∧ Below w.heap.size w wr) (fun iv jv _ => (intOf jv).toNat - (intOf iv).toNat)
 case atStart => exact ⟨0, n, Nat.zero_le _, Nat.le_refl _, rfl, rfl, ⟨fun k hk => by omega, fun k h1 h2 => by omega⟩, Below.refl _ _⟩
 case round =>
  obtain ⟨i, j, hij, hjn, rfl, rfl, HI, hbel⟩ := hrel
  by_cases hlt : i < j
  ·obtain ⟨hh, hhh⟩ : ∃ hh, (i + j) / 2 = hh := ⟨_, rfl⟩
   have h1 : i ≤ hh ∧ hh < j := by omega
   obtain ⟨b, rfl, hbl, c0, c1, c2⟩ := HC.out wr hbel hh (by omega)
   have hcast : ((i : Int) + (j : Int)) / 2 = (hh : Int) := by omega
   have HP : Hid (∀ b, lessB (zs.getD hh (ByteArray.empty, ByteArray.empty, 0)).1 key = b → (b = true → (∀ k, k < hh + 1 → lessB (zs.getD k (ByteArray.empty, ByteArray.empty, 0)).1 key = true) ∧ (∀ k, j ≤ k → k < n → ¬ lessB (zs.getD k (ByteArray.empty, ByteArray.empty, 0)).1 key = true)) ∧ (b = false → (∀ k, k < i → lessB (zs.getD k (ByteArray.empty, ByteArray.empty, 0)).1 key = true) ∧ (∀ k, hh ≤ k → k < n → ¬ lessB (zs.getD k (ByteArray.empty, ByteArray.empty, 0)).1 key = true))) := by
    intro b0 hb0
    constructor
    ·rintro rfl
     refine ⟨fun k hk => ?_, HI.out.2⟩
     by_cases hkh : k = hh
     ·rw [hkh]; exact hb0
     ·exact less_trans (HASC.out k hh (by omega) (by omega)) hb0
    ·rintro rfl
     refine ⟨HI.out.1, fun k hk1 hk2 hle => ?_⟩
     by_cases hkh : k = hh
     ·rw [hkh, hb0] at hle; cases hle
     ·have := less_trans (HASC.out hh k (by omega) hk2) hle
      rw [hb0] at this
      cases this
   have hcm := fun W => searchC_any (zs.getD hh (ByteArray.empty, ByteArray.empty, 0)).1 (zs.getD hh (ByteArray.empty, ByteArray.empty, 0)).2.1 (zs.getD hh (ByteArray.empty, ByteArray.empty, 0)).2.2 key W
   generalize (zs.getD hh (ByteArray.empty, ByteArray.empty, 0)).2.1 = sv at *
   generalize (zs.getD hh (ByteArray.empty, ByteArray.empty, 0)).2.2 = so at *
   obtain ⟨sk, hsk⟩ : ∃ sk, (zs.getD hh (ByteArray.empty, ByteArray.empty, 0)).1 = sk := ⟨_, rfl⟩
   rw [hsk] at c0 hcm HP
   clear hsk
   obtain ⟨lb, hlb⟩ : ∃ lb, lessB sk key = lb := ⟨_, rfl⟩
   have hP1 := HP.out lb hlb
   have HCV : Hid (cmpT sk key < 0 ↔ lb = true) := by
    show _ ↔ _
    unfold cmpT
    rw [hlb]
    cases lb
    ·simp only [Bool.false_eq_true, if_false, iff_false]
     split <;> omega
    ·simp
   generalize cmpT sk key = cv at hcm HCV
   clear HP hlb HI hhh
   go_wp2_with fail
   refine (hcm _).mono ?_
   rintro e w1 ⟨rfl, hb1⟩
   have hbel2 := hbel.trans (hb1.mono hbel.size)
   clear c0 c1 c2 hcm hb1 hbel
   cases lb
   ·have hcv : ¬ cv < 0 := by rw [HCV.out]; simp
    have HI2 : Hid _ := hP1.2 rfl
    clear hP1 HCV
    go_wp2_with fail
    go_roundw
    case rel => exact ⟨i, hh, by omega, by omega, rfl, rfl, HI2, hbel2⟩
    case measure => simp [intOf]; omega
   ·have hcv : cv < 0 := by rw [HCV.out]
    have HI2 : Hid _ := hP1.1 rfl
    clear hP1 HCV
    go_wp2_with fail
    go_roundw
    case rel => exact ⟨hh + 1, j, by omega, hjn, by go_num, rfl, HI2, hbel2⟩
    case measure => simp [intOf]; omega
  ·have hije : i = j := by omega
   subst hije
   have HPO : Hid (PosIs zs key i) := ⟨by have := HL.out; omega, HI.out.1, fun k h1 h2 => HI.out.2 k h1 (by have := HL.out; omega)⟩
   by_cases hin : i < n
   ·obtain ⟨b, rfl, hbl, c0, c1, c2⟩ := HC.out wr hbel i hin
    have hcm := fun W => searchC_any (zs.getD i (ByteArray.empty, ByteArray.empty, 0)).1 (zs.getD i (ByteArray.empty, ByteArray.empty, 0)).2.1 (zs.getD i (ByteArray.empty, ByteArray.empty, 0)).2.2 key W
    have HE : Hid ((cmpT (zs.getD i (ByteArray.empty, ByteArray.empty, 0)).1 key = 0 → i < zs.length ∧ (zs.getD i (ByteArray.empty, ByteArray.empty, 0)).1 = key) ∧ (¬ cmpT (zs.getD i (ByteArray.empty, ByteArray.empty, 0)).1 key = 0 → ∀ k, k < zs.length → (zs.getD k (ByteArray.empty, ByteArray.empty, 0)).1 ≠ key)) := by
     have hnl := HI.out.2 i (Nat.le_refl _) hin
     have hlen := HL.out
     constructor
     ·intro h0
      refine ⟨by omega, ?_⟩
      unfold cmpT at h0
      rw [if_neg hnl] at h0
      by_cases h2 : lessB key (zs.getD i (ByteArray.empty, ByteArray.empty, 0)).1 = true
      ·rw [if_pos h2] at h0; omega
      ·exact less_tri hnl h2
     ·intro h0 k hk e
      by_cases hki : k < i
      ·have := HI.out.1 k hki
       rw [e] at this
       exact less_irrefl _ this
      ·by_cases hke : k = i
       ·rw [hke] at e
        apply h0
        rw [e]
        unfold cmpT
        rw [if_neg (less_irrefl _), if_neg (less_irrefl _)]
       ·have h3 := HASC.out i k (by omega) (by omega)
        rw [e] at h3
        exact hnl h3
    generalize (zs.getD i (ByteArray.empty, ByteArray.empty, 0)).2.1 = sv at *
    generalize (zs.getD i (ByteArray.empty, ByteArray.empty, 0)).2.2 = so at *
    obtain ⟨sk, hsk⟩ : ∃ sk, (zs.getD i (ByteArray.empty, ByteArray.empty, 0)).1 = sk := ⟨_, rfl⟩
    rw [hsk] at c0 hcm
    have HSK : Hid ((zs.getD i (ByteArray.empty, ByteArray.empty, 0)).1 = sk) := hsk
    clear hsk
    obtain ⟨cv, hcv⟩ : ∃ cv, cmpT sk key = cv := ⟨_, rfl⟩
    rw [HSK.out, hcv] at HE
    have hcm2 : ∀ W : World, Calls Try.prog 86 #[.agg #[.string sk, .string sv, .int .i64 so], .string key] W fun e w' => e = .returned (.int .i64 cv) ∧ Below W.heap.size W w' := fun W => by rw [← hcv]; exact hcm W
    clear hcm hcv HI
    go_wp2_with fail
    refine (hcm2 _).mono ?_
    rintro e w1 ⟨rfl, hb1⟩
    have hbel2 := hbel.trans (hb1.mono hbel.size)
    clear c0 c1 c2 hcm2 hb1 hbel
    obtain ⟨rb, hrb⟩ : ∃ rb, (cv == 0) = rb := ⟨_, rfl⟩
    have HRB : Hid ((cv == 0) = rb) := hrb
    go_wp2_with fail
    refine bodyPost_ret (v := .tuple #[.int .i64 i, .bool rb]) (by simp [results, Try.results85, go_sem]) rfl ?_
    refine ⟨i, rb, rfl, fun h => ?_, fun h => ?_, HPO.out, hbel2⟩
    ·have := HE.out.1 (by have := HRB.out; rw [h] at this; simpa using this)
     exact ⟨this.1, by rw [HSK.out]; exact this.2⟩
    ·exact HE.out.2 (by have := HRB.out; rw [h] at this; simpa using this)
   ·have HNO : Hid (∀ k, k < zs.length → (zs.getD k (ByteArray.empty, ByteArray.empty, 0)).1 ≠ key) := fun k hk e => by
     have hl := HL.out
     have := HI.out.1 k (by omega)
     rw [e] at this
     exact less_irrefl _ this
    clear HI
    go_wp2_with fail
    refine bodyPost_ret (v := .tuple #[.int .i64 i, .bool false]) (by simp [results, Try.results85, go_sem]) rfl ?_
    exact ⟨i, false, rfl, (fun h => by cases h), fun _ => HNO.out, HPO.out, hbel⟩
end Go.Proofs.Ytcjjbajmjfgbcaa
