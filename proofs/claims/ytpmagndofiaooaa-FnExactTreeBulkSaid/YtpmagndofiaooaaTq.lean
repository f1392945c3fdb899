import Derived.Test.YtpmagndofiaooaaTu
import Derived.Deep.QuietTactic
import Derived.BigQuiet
import Derived.Deep.RegionWith
namespace Go.Proofs.Ytpmagndofiaooaa
open Go.RowKit
set_option linter.unusedVariables false
set_option maxRecDepth 100000

set_option maxHeartbeats 400000 in
theorem eqStringS_same (a : Option Addr) (n c : Nat) (a2 : Option Addr) (c2 : Nat) (xs : List ByteArray) (w : World) (A B A2 B2 : Nat) (hB : B ≤ w.heap.size) (hB2 : B2 ≤ w.heap.size) (h : StrsAt w A B a n c xs) (k : StrsAt w A2 B2 a2 n c2 xs) :
    Calls Try.prog 70 #[.slice a n c, .slice a2 n c2] w fun e w' => e = .returned (.bool true) ∧ Below w.heap.size w w' := by
  have hc := Nat.le_trans h.2.1 h.2.2.1
  unfold maxLen at hc
  have hne : ((n : Int) != (n : Int)) = false := by simp
  go_enter Try.func70, Try.ntmps70
  go_wp2
  go_loopw [5] (fun i wr => ∃ k : Nat, k ≤ n ∧ i = .int .i64 k ∧ Below w.heap.size w wr) (fun i _ => n - (intOf i).toNat)
  case atStart => exact ⟨0, Nat.zero_le _, rfl, Below.refl _ _⟩
  case round =>
    obtain ⟨j, hj, rfl, hbel⟩ := hrel
    by_cases hlt : j < n
    · obtain ⟨b, off, rfl, hb, hfit, e0⟩ := StrsAt.at (h.below (hbel.mono hB)) hlt
      obtain ⟨b2, off2, rfl, hb2, hfit2, f0⟩ := StrsAt.at (k.below (hbel.mono hB2)) hlt
      clear h k
      generalize xs.getD j ByteArray.empty = s at e0 f0 hfit hfit2
      have hd := hbel.drew
      go_wp2
      go_quiet (fail)
      go_wp2
      go_roundw
      case rel => exact ⟨j + 1, by omega, by go_num, hbel.trans ⟨rfl, rfl, rfl, Nat.le_refl _, fun _ _ => rfl⟩⟩
      case measure => simp [intOf]; omega
    · go_wp2
      go_ret
      exact ⟨rfl, hbel⟩
theorem intsT_at {fit : Int → Prop} {w : World} {A B : Nat} {a : Option Addr} {n c : Nat} {xs : List Int} (h : RowsAt w A B 1 intCells fit 0 a n c xs) {i : Nat} (hi : i < n) :
    ∃ b off, a = some ⟨b, off, none⟩ ∧ (A ≤ b ∧ b < B) ∧ fit (xs.getD i 0) ∧ w.cell? ⟨b, off + i, none⟩ = some (.int .i64 (xs.getD i 0)) := by
  obtain ⟨h1, h2, h3, h4, h5⟩ := h
  obtain ⟨b, off, rfl, hlt, hc⟩ := h5 (by omega)
  exact ⟨b, off, rfl, hlt, h4 i hi, by simpa [intCells] using hc i hi 0 (by omega)⟩
set_option maxHeartbeats 400000 in
theorem eqInt64S_same {fit fit2 : Int → Prop} (a : Option Addr) (n c : Nat) (a2 : Option Addr) (c2 : Nat) (xs : List Int) (w : World) (A B A2 B2 : Nat) (hB : B ≤ w.heap.size) (hB2 : B2 ≤ w.heap.size) (h : RowsAt w A B 1 intCells fit 0 a n c xs) (k : RowsAt w A2 B2 1 intCells fit2 0 a2 n c2 xs) :
    Calls Try.prog 71 #[.slice a n c, .slice a2 n c2] w fun e w' => e = .returned (.bool true) ∧ Below w.heap.size w w' := by
  have hc := Nat.le_trans h.2.1 h.2.2.1
  unfold maxLen at hc
  have hne : ((n : Int) != (n : Int)) = false := by simp
  go_enter Try.func71, Try.ntmps71
  go_wp2
  go_loopw [5] (fun i wr => ∃ k : Nat, k ≤ n ∧ i = .int .i64 k ∧ Below w.heap.size w wr) (fun i _ => n - (intOf i).toNat)
  case atStart => exact ⟨0, Nat.zero_le _, rfl, Below.refl _ _⟩
  case round =>
    obtain ⟨j, hj, rfl, hbel⟩ := hrel
    by_cases hlt : j < n
    · obtain ⟨b, off, rfl, hb, hfit, e0⟩ := intsT_at (h.below (hbel.mono hB)) hlt
      obtain ⟨b2, off2, rfl, hb2, hfit2, f0⟩ := intsT_at (k.below (hbel.mono hB2)) hlt
      clear h k
      generalize xs.getD j 0 = s at e0 f0 hfit hfit2
      have hd := hbel.drew
      have hsb : (s != s) = false := by simp
      go_wp2
      go_quiet (fail)
      go_wp2
      go_roundw
      case rel => exact ⟨j + 1, by omega, by go_num, hbel.trans ⟨rfl, rfl, rfl, Nat.le_refl _, fun _ _ => rfl⟩⟩
      case measure => simp [intOf]; omega
    · go_wp2
      go_ret
      exact ⟨rfl, hbel⟩
set_option maxHeartbeats 1000000 in
theorem eqTNode_same (lf : Bool) (pg : Int) (ks vs : List ByteArray) (os ys : List Int) (ka : Option Addr) (kn kc : Nat) (va : Option Addr) (vn vc : Nat) (oa : Option Addr) (on oc : Nat) (ya : Option Addr) (yn yc : Nat) (ka2 : Option Addr) (kc2 : Nat) (va2 : Option Addr) (vc2 : Nat) (oa2 : Option Addr) (oc2 : Nat) (ya2 : Option Addr) (yc2 : Nat) (w : World) (A B A2 B2 : Nat) (hB : B ≤ w.heap.size) (hB2 : B2 ≤ w.heap.size)
    (hK : StrsAt w A B ka kn kc ks) (hV : StrsAt w A B va vn vc vs) (hO : IntsAt w A B oa on oc os) (hY : IntsAt w A B ya yn yc ys) (hK2 : StrsAt w A2 B2 ka2 kn kc2 ks) (hV2 : StrsAt w A2 B2 va2 vn vc2 vs) (hO2 : IntsAt w A2 B2 oa2 on oc2 os) (hY2 : IntsAt w A2 B2 ya2 yn yc2 ys) :
    Calls Try.prog 55 #[.agg #[.bool lf, .int .i64 pg, .slice ka kn kc, .slice va vn vc, .slice oa on oc, .slice ya yn yc], .agg #[.bool lf, .int .i64 pg, .slice ka2 kn kc2, .slice va2 vn vc2, .slice oa2 on oc2, .slice ya2 yn yc2]] w fun e w' => e = .returned (.bool true) ∧ Below w.heap.size w w' := by
  obtain ⟨N, hN⟩ : ∃ N, w.heap.size = N := ⟨_, rfl⟩
  have s1 : (w.alloc (.cells #[.bool lf, .int .i64 pg, .slice ka kn kc, .slice va vn vc, .slice oa on oc, .slice ya yn yc] 92)).heap.size = N + 1 := by simp [hN]
  have k0 := heap_alloc_new w (.cells #[.bool lf, .int .i64 pg, .slice ka kn kc, .slice va vn vc, .slice oa on oc, .slice ya yn yc] 92)
  have k1 := heap_alloc_new (w.alloc (.cells #[.bool lf, .int .i64 pg, .slice ka kn kc, .slice va vn vc, .slice oa on oc, .slice ya yn yc] 92)) (.cells #[.bool lf, .int .i64 pg, .slice ka2 kn kc2, .slice va2 vn vc2, .slice oa2 on oc2, .slice ya2 yn yc2] 92)
  have kb := (Below.refl (w.alloc (.cells #[.bool lf, .int .i64 pg, .slice ka kn kc, .slice va vn vc, .slice oa on oc, .slice ya yn yc] 92)).heap.size _).alloc (Nat.le_refl _) (.cells #[.bool lf, .int .i64 pg, .slice ka2 kn kc2, .slice va2 vn vc2, .slice oa2 on oc2, .slice ya2 yn yc2] 92)
  have b0 : Below w.heap.size w ((w.alloc (.cells #[.bool lf, .int .i64 pg, .slice ka kn kc, .slice va vn vc, .slice oa on oc, .slice ya yn yc] 92)).alloc (.cells #[.bool lf, .int .i64 pg, .slice ka2 kn kc2, .slice va2 vn vc2, .slice oa2 on oc2, .slice ya2 yn yc2] 92)) := ((Below.refl _ _).alloc (Nat.le_refl _) _).alloc (by simp) _
  have k00 := (kb.block w.heap.size (by omega)).trans k0
  have z0 : ((w.alloc (.cells #[.bool lf, .int .i64 pg, .slice ka kn kc, .slice va vn vc, .slice oa on oc, .slice ya yn yc] 92)).alloc (.cells #[.bool lf, .int .i64 pg, .slice ka2 kn kc2, .slice va2 vn vc2, .slice oa2 on oc2, .slice ya2 yn yc2] 92)).heap.size = N + 2 := by simp [hN]
  rw [s1] at k1
  rw [hN] at k00
  clear k0 kb s1
  have e1 : (lf != lf) = false := by simp
  have e2 : (pg != pg) = false := by simp
  go_enter Try.func55, Try.ntmps55
  go_wp2_with fail
  generalize ((w.alloc (.cells #[.bool lf, .int .i64 pg, .slice ka kn kc, .slice va vn vc, .slice oa on oc, .slice ya yn yc] 92)).alloc (.cells #[.bool lf, .int .i64 pg, .slice ka2 kn kc2, .slice va2 vn vc2, .slice oa2 on oc2, .slice ya2 yn yc2] 92)) = W0 at k1 k00 b0 z0 ⊢
  refine (eqStringS_same _ _ _ _ _ ks W0 A B A2 B2 (by omega) (by omega) (hK.below (b0.mono hB)) (hK2.below (b0.mono hB2))).mono ?_
  rintro e w1 ⟨rfl, h1⟩
  have b1 := b0.trans (h1.mono (by omega))
  have z1 : N + 2 ≤ w1.heap.size := by have := h1.size; omega
  have j0 := (h1.block _ (by omega)).trans k00
  have j1 := (h1.block _ (by omega)).trans k1
  obtain ⟨x0, x1, x2, x3, x4, x5⟩ := box6 j0
  obtain ⟨y0, y1, y2, y3, y4, y5⟩ := box6 j1
  have l0 : N < w1.heap.size := by omega
  have l1 : N + 1 < w1.heap.size := by omega
  clear k00 k1 b0 z0 h1 hK hK2
  go_wp2_with fail
  refine (eqStringS_same _ _ _ _ _ vs w1 A B A2 B2 (by omega) (by omega) (hV.below (b1.mono hB)) (hV2.below (b1.mono hB2))).mono ?_
  rintro e w2 ⟨rfl, h2⟩
  have b2 := b1.trans (h2.mono (by omega))
  have z2 : N + 2 ≤ w2.heap.size := by have := h2.size; omega
  have i0 := (h2.block _ (by omega)).trans j0
  have i1 := (h2.block _ (by omega)).trans j1
  clear x0 x1 x2 x3 x4 x5 y0 y1 y2 y3 y4 y5 j0 j1 b1 z1 h2 hV hV2 l0 l1
  obtain ⟨x0, x1, x2, x3, x4, x5⟩ := box6 i0
  obtain ⟨y0, y1, y2, y3, y4, y5⟩ := box6 i1
  have l0 : N < w2.heap.size := by omega
  have l1 : N + 1 < w2.heap.size := by omega
  go_wp2_with fail
  refine (eqInt64S_same _ _ _ _ _ os w2 A B A2 B2 (by omega) (by omega) (hO.below (b2.mono hB)) (hO2.below (b2.mono hB2))).mono ?_
  rintro e w3 ⟨rfl, h3⟩
  have b3 := b2.trans (h3.mono (by omega))
  have z3 : N + 2 ≤ w3.heap.size := by have := h3.size; omega
  have j0 := (h3.block _ (by omega)).trans i0
  have j1 := (h3.block _ (by omega)).trans i1
  clear x0 x1 x2 x3 x4 x5 y0 y1 y2 y3 y4 y5 i0 i1 b2 z2 h3 hO hO2 l0 l1
  obtain ⟨x0, x1, x2, x3, x4, x5⟩ := box6 j0
  obtain ⟨y0, y1, y2, y3, y4, y5⟩ := box6 j1
  have l0 : N < w3.heap.size := by omega
  have l1 : N + 1 < w3.heap.size := by omega
  go_wp2_with fail
  refine (eqInt64S_same _ _ _ _ _ ys w3 A B A2 B2 (by omega) (by omega) (hY.below (b3.mono hB)) (hY2.below (b3.mono hB2))).mono ?_
  rintro e w4 ⟨rfl, h4⟩
  have b4 := b3.trans (h4.mono (by omega))
  go_wp2_with fail
  go_ret
  exact ⟨rfl, b4⟩
set_option maxHeartbeats 1000000 in
theorem eqTNodeS_same (a : Option Addr) (n c : Nat) (a2 : Option Addr) (c2 : Nat) (ts : List TN) (w : World) (A B A2 B2 : Nat) (hB : B ≤ w.heap.size) (hB2 : B2 ≤ w.heap.size) (h : NodesAt w A B a n c ts) (k : NodesAt w A2 B2 a2 n c2 ts) :
    Calls Try.prog 38 #[.slice a n c, .slice a2 n c2] w fun e w' => e = .returned (.bool true) ∧ Below w.heap.size w w' := by
  have hc := Nat.le_trans h.2.1 h.2.2.1
  unfold maxLen at hc
  have hne : ((n : Int) != (n : Int)) = false := by simp
  go_enter Try.func38, Try.ntmps38
  go_wp2
  go_loopw [5] (fun i wr => ∃ k : Nat, k ≤ n ∧ i = .int .i64 k ∧ Below w.heap.size w wr) (fun i _ => n - (intOf i).toNat)
  case atStart => exact ⟨0, Nat.zero_le _, rfl, Below.refl _ _⟩
  case round =>
    obtain ⟨j, hj, rfl, hbel⟩ := hrel
    by_cases hlt : j < n
    · obtain ⟨b, off, rfl, hb, ka, kn, kc, va, vn, vc, oa, on, oc, ya, yn, yc, hN⟩ := NodesAt.at (h.below (hbel.mono hB)) hlt
      obtain ⟨b2, off2, rfl, hb2, ka2, kn2, kc2, va2, vn2, vc2, oa2, on2, oc2, ya2, yn2, yc2, hN2⟩ := NodesAt.at (k.below (hbel.mono hB2)) hlt
      clear h k
      generalize ts.getD j dT = t at hN hN2
      obtain ⟨c0, c1, c2, c3, c4, c5, hpg, hK, hV, hO, hY⟩ := hN
      obtain ⟨d0, d1, d2, d3, d4, d5, hpg2, hK2, hV2, hO2, hY2⟩ := hN2
      obtain rfl : kn2 = kn := hK2.1.symm.trans hK.1
      obtain rfl : vn2 = vn := hV2.1.symm.trans hV.1
      obtain rfl : on2 = on := hO2.1.symm.trans hO.1
      obtain rfl : yn2 = yn := hY2.1.symm.trans hY.1
      have hs := hbel.size
      have hsd : wr.drew.heap.size = wr.heap.size := rfl
      go_wp2
      go_region_with (go_at_call 55; refine (eqTNode_same t.leaf t.page t.keys t.vals t.over t.kids ka kn2 kc va vn2 vc oa on2 oc ya yn2 yc ka2 kc2 va2 vc2 oa2 oc2 ya2 yc2 _ A B A2 B2 ?_ ?_ ?_ ?_ ?_ ?_ ?_ ?_ ?_ ?_).mono ?_; exact Nat.le_trans hB hs; exact Nat.le_trans hB2 hs; exact hK; exact hV; exact hO; exact hY; exact hK2; exact hV2; exact hO2; exact hY2; rintro e w1 ⟨rfl, hb1⟩)
      all_goals
        go_wp2
        go_roundw
        case rel => exact ⟨j + 1, by omega, by go_num, (hbel.drew).trans (hb1.mono hs)⟩
        case measure => simp [intOf]; omega
    · go_wp2
      go_ret
      exact ⟨rfl, hbel⟩
set_option maxHeartbeats 400000 in
theorem eqTree_same (a : Option Addr) (n c : Nat) (a2 : Option Addr) (c2 : Nat) (ts : List TN) (w : World) (A B A2 B2 : Nat) (hB : B ≤ w.heap.size) (hB2 : B2 ≤ w.heap.size) (h : NodesAt w A B a n c ts) (k : NodesAt w A2 B2 a2 n c2 ts) :
    Calls Try.prog 11 #[.agg #[.slice a n c], .agg #[.slice a2 n c2]] w fun e w' => e = .returned (.bool true) ∧ Below w.heap.size w w' := by
  have hb0 : Below w.heap.size w ((w.alloc (.cells #[.slice a n c] 26)).alloc (.cells #[.slice a2 n c2] 26)) := ((Below.refl _ _).alloc (Nat.le_refl _) _).alloc (by simp) _
  have hs := hb0.size
  go_enter Try.func11, Try.ntmps11
  go_wp2_with (go_at_call 38; refine (eqTNodeS_same a n c a2 c2 ts _ A B A2 B2 (by omega) (by omega) (h.below (hb0.mono hB)) (k.below (hb0.mono hB2))).mono ?_; rintro e w1 ⟨rfl, hb1⟩)
  go_ret
  exact ⟨rfl, hb0.trans (hb1.mono hb0.size)⟩
end Go.Proofs.Ytpmagndofiaooaa
