import Derived.Test.YtpmagndofiaooaaTfe
import Derived.Test.YtpmagndofiaooaaVTL
namespace Go.Proofs.Ytpmagndofiaooaa
open Go.RowKit
set_option linter.unusedVariables false
set_option linter.unusedSimpArgs false
set_option maxRecDepth 100000

theorem eqGetRes_same (b : Bool) (v : ByteArray) (w : World) : Calls Try.prog 22 #[.agg #[.bool b, .string v], .agg #[.bool b, .string v]] w fun e w' => e = .returned (.bool true) ∧ Below w.heap.size w w' := by
  have hb0 : Below w.heap.size w ((w.alloc (.cells #[.bool b, .string v] 43)).alloc (.cells #[.bool b, .string v] 43)) := ((Below.refl _ _).alloc (Nat.le_refl _) _).alloc (by simp) _
  have hbb : (b != b) = false := by cases b <;> rfl
  go_enter Try.func22, Try.ntmps22
  go_wp2
  go_ret
  exact ⟨rfl, hb0⟩
set_option maxHeartbeats 4000000 in
theorem law_TreeGet (a : Option Addr) (n c : Nat) (ts : List TN) (key : ByteArray) (hkey : key.size ≤ maxLen) (w : World) (hT : NodesAt w 0 w.heap.size a n c ts) :
    Calls Try.prog 5 #[.agg #[.slice a n c], .string key] w fun e w' => e = .returned (.bool true) ∧ Below w.heap.size w w' := by
  have hb0 : Below w.heap.size w (w.alloc (.cells #[.slice a n c] 37)) := (Below.refl _ _).alloc (Nat.le_refl _) _
  unfold maxLen at hkey
  obtain ⟨N, hN⟩ : ∃ N, w.heap.size = N := ⟨_, rfl⟩
  have A0 := heap_alloc_new w (.cells #[.slice a n c] 37)
  have z0 : (w.alloc (.cells #[.slice a n c] 37)).heap.size = N + 1 := by simp [hN]
  rw [hN] at hb0 A0 hT ⊢
  have HT : Hid (NodesAt w 0 N a n c ts) := hT
  clear hT
  go_enter Try.func5, Try.ntmps5
  go_upto_region 1 with fail
  generalize w.alloc (.cells #[.slice a n c] 37) = W0 at hb0 A0 z0 ⊢
  have x00 := cell_one_at A0
  have l0 : N < W0.heap.size := by omega
  by_cases t1 : 1048576 < key.size
  · go_wp2_with fail
    go_ret
    exact ⟨rfl, hb0⟩
  have hsz := szTree_any a n c ts 1048576 W0 (by omega) (by omega) 0 N (by omega) (HT.out.below hb0)
  go_wp2_with fail
  refine hsz.mono ?_
  rintro e w1 ⟨r, rfl, hr, hb1⟩
  have g1 := hb0.trans (hb1.mono (by omega))
  have s1 := hb1.size
  have A1 := (hb1.block N l0).trans A0
  have x10 := cell_one_at A1
  have l1 : N < w1.heap.size := by omega
  clear hsz x00 hb1
  by_cases t3 : r < 0
  · go_wp2_with fail
    go_ret
    exact ⟨rfl, g1⟩
  have hw := hr.2.2 (by omega)
  obtain ⟨hn, hall⟩ := smallT_of HT.out.1 (by omega)
  have HA : Hid (SmallT ts) := hall
  clear hw hr hall
  have hc := toTree_any a n c ts w1 0 N (by omega) (HT.out.below g1) hn HA.out
  go_wp2_with fail
  refine hc.mono ?_
  rintro e w2 ⟨ga, rfl, hT2, hb2⟩
  have g2 := g1.trans (hb2.mono (by omega))
  have s2 := hb2.size
  have A2 := (hb2.block N l1).trans A1
  clear hc x10
  have hc := specGet_any ts key _ n n w1.heap.size w2.heap.size w2 (Nat.le_refl _) hT2
  go_wp2_with fail
  refine hc.mono ?_
  rintro e w3 ⟨s, hs, rfl, hb3⟩
  have HSP : Hid (specGet ts key s) := hs
  obtain ⟨sb, hsb⟩ : ∃ sb, s.isSome = sb := ⟨_, rfl⟩
  obtain ⟨sy, hsy⟩ : ∃ sy, valT s = sy := ⟨_, rfl⟩
  have HV : Hid (s.isSome = sb ∧ valT s = sy) := ⟨hsb, hsy⟩
  rw [hsb, hsy]
  have ab3 := (Below.refl w3.heap.size w3).alloc (Nat.le_refl _) (.cells #[.bool sb, .string sy] 43)
  have R3 := heap_alloc_new w3 (.cells #[.bool sb, .string sy] 43)
  have z3 : (w3.alloc (.cells #[.bool sb, .string sy] 43)).heap.size = w3.heap.size + 1 := by simp
  have s3 := hb3.size
  have g3 := (g2.trans (hb3.mono (by omega))).trans (ab3.mono (by omega))
  have A3 := (ab3.block N (by omega)).trans ((hb3.block N (by omega)).trans A2)
  clear hc hT2 hb2 hb3 A1 A2 hs hsb hsy ab3
  go_upto_region 8 with fail
  generalize w3.alloc (.cells #[.bool sb, .string sy] 43) = W3 at *
  obtain ⟨R, hR⟩ : ∃ R, w3.heap.size = R := ⟨_, rfl⟩
  rw [hR] at R3 z3 s3
  have x30 := cell_one_at A3
  have l3 : N < W3.heap.size := by omega
  have hc := toTree_any a n c ts W3 0 N (by omega) (HT.out.below g3) hn HA.out
  go_wp2_with fail
  refine hc.mono ?_
  rintro e w4 ⟨gc, rfl, hT4, hb4⟩
  have ab4 := (Below.refl w4.heap.size w4).alloc (Nat.le_refl _) (.cells #[.slice (some ⟨gc, 0, none⟩) n n] 26)
  have X4 := heap_alloc_new w4 (.cells #[.slice (some ⟨gc, 0, none⟩) n n] 26)
  have z4 : (w4.alloc (.cells #[.slice (some ⟨gc, 0, none⟩) n n] 26)).heap.size = w4.heap.size + 1 := by simp
  have s4 := hb4.size
  have g4 := (g3.trans (hb4.mono (by omega))).trans (ab4.mono (by omega))
  have A4 := (ab4.block N (by omega)).trans ((hb4.block N l3).trans A3)
  have R4 := (ab4.block R (by omega)).trans ((hb4.block R (by omega)).trans R3)
  have hT5 := hT4.below ab4
  clear hc x30 A3 R3 hb4 hT4 ab4
  go_upto_region 9 with fail
  generalize w4.alloc (.cells #[.slice (some ⟨gc, 0, none⟩) n n] 26) = W4 at *
  obtain ⟨X, hX⟩ : ∃ X, w4.heap.size = X := ⟨_, rfl⟩
  rw [hX] at X4 z4 s4 hT5
  have y40 := cell_one_at X4
  have lX : X < W4.heap.size := by omega
  have hc := implGet_any ts key _ n n W3.heap.size X W4 (by omega) hT5
  go_wp2_with fail
  refine hc.mono ?_
  rintro e w5 ⟨u, hu, rfl, hb5⟩
  have hus : u = s := get_eq HSP.out hu
  subst hus
  rw [HV.out.1, HV.out.2]
  have ab5 := (Below.refl w5.heap.size w5).alloc (Nat.le_refl _) (.cells #[.bool sb, .string sy] 43)
  have Q5 := heap_alloc_new w5 (.cells #[.bool sb, .string sy] 43)
  have z5 : (w5.alloc (.cells #[.bool sb, .string sy] 43)).heap.size = w5.heap.size + 1 := by simp
  have s5 := hb5.size
  have g5 := (g4.trans (hb5.mono (by omega))).trans (ab5.mono (by omega))
  have A5 : Hid ((w5.alloc (.cells #[.bool sb, .string sy] 43)).heap[N]? = some (.cells #[.slice a n c] 37)) := (ab5.block N (by omega)).trans ((hb5.block N (by omega)).trans A4)
  have R5 := (ab5.block R (by omega)).trans ((hb5.block R (by omega)).trans R4)
  have X5 : Hid ((w5.alloc (.cells #[.bool sb, .string sy] 43)).heap[X]? = some (.cells #[.slice (some ⟨gc, 0, none⟩) n n] 26)) := (ab5.block X (by omega)).trans ((hb5.block X lX).trans X4)
  have hT6 := (hT5.below (hb5.mono (by omega))).below (ab5.mono (by omega))
  clear hc y40 A4 R4 X4 hb5 hT5 ab5 hu
  go_upto_region 10 with fail
  generalize w5.alloc (.cells #[.bool sb, .string sy] 43) = W5 at *
  obtain ⟨Y, hY⟩ : ∃ Y, w5.heap.size = Y := ⟨_, rfl⟩
  rw [hY] at Q5 z5 s5
  obtain ⟨p0, p1⟩ := box_twoG Q5
  obtain ⟨p2, p3⟩ := box_twoG R5
  have lR : R < W5.heap.size := by omega
  have lY : Y < W5.heap.size := by omega
  have hc := eqGetRes_same sb sy W5
  go_wp2_with fail
  refine hc.mono ?_
  rintro e w7 ⟨rfl, hb7⟩
  have g7 := g5.trans (hb7.mono (by omega))
  have s7 := hb7.size
  have A7 : Hid (w7.heap[N]? = some (.cells #[.slice a n c] 37)) := (hb7.block N (by omega)).trans A5.out
  have X7 : Hid (w7.heap[X]? = some (.cells #[.slice (some ⟨gc, 0, none⟩) n n] 26)) := (hb7.block X (by omega)).trans X5.out
  have hT7 := hT6.below (hb7.mono (by omega))
  clear hc hb7 A5 X5 hT6 p0 p1 p2 p3 Q5 R5
  have x70 := cell_one_at A7.out
  have y70 := cell_one_at X7.out
  have l7 : N < w7.heap.size := by omega
  have lX7 : X < w7.heap.size := by omega
  have hTd : NodesAt w7.drew 0 N a n c ts := HT.out.below g7.drew
  go_upto_region 12 with fail
  go_region_with (first | (go_at_call 18; refine (toTree_any a n c ts w7.drew 0 N (by show N ≤ w7.heap.size; omega) hTd hn HA.out).mono ?_; rintro e w8 ⟨ge, rfl, hT8, hb8⟩; have hb8' : Below w7.heap.size w7 w8 := ((Below.refl _ w7).drew).trans hb8; have y80 := cell_one_at ((hb8'.block _ lX7).trans X7.out); have lX8 := Nat.lt_of_lt_of_le lX7 hb8.size) | (go_at_call 11; refine (eqTree_same _ n n _ n ts w8 W3.heap.size X w7.drew.heap.size w8.heap.size ?_ (Nat.le_refl _) ?_ hT8).mono ?_; exact Nat.le_of_lt lX8; exact hT7.below (hb8'.mono (Nat.le_of_lt lX7)); rintro e w9 ⟨rfl, hb9⟩))
  all_goals
    have g9 : Below N w w9 := (g7.trans (hb8'.mono (by omega))).trans (hb9.mono (Nat.le_trans (by omega) hb8'.size))
    go_wp2_with fail
    go_ret
    exact ⟨rfl, g9⟩
end Go.Proofs.Ytpmagndofiaooaa
