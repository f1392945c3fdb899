import Derived.Test.YtjbifddhbcfdcaaGreatSz
import Derived.Test.YtjbifddhbcfdcaaGreatDH
import Derived.Test.YtjbifddhbcfdcaaGreatMti
import Derived.Deep.CutRange
namespace Go.Proofs.YtjbifddhbcfdcaaGreat
open Go.RowKit
set_option linter.unusedVariables false
set_option maxRecDepth 100000

theorem meta_same (fs : List PF) (ps : List PP) (cp fu : Int) (nm : ByteArray) : metaI fs ps cp fu nm = metaS fs ps cp fu nm := by
  unfold metaI metaS fileB
  rw [valid_eq]
  split
  · exact pages_same _ _ _
  · exact (empty_file 2).symm
set_option maxHeartbeats 800000 in
theorem eqMeta_same (ri rr rc : Int) (w : World) :
    Calls Tryz.prog 19 #[.agg #[.int .i64 ri, .int .i64 rr, .int .i64 rc], .agg #[.int .i64 ri, .int .i64 rr, .int .i64 rc]] w fun e w' => e = .returned (.bool true) ∧ Below w.heap.size w w' := by
  have hb : Below w.heap.size w ((w.alloc (.cells #[.int .i64 ri, .int .i64 rr, .int .i64 rc] 28)).alloc (.cells #[.int .i64 ri, .int .i64 rr, .int .i64 rc] 28)) := ((Below.refl _ _).alloc (Nat.le_refl _) _).alloc (by simp) _
  have h1 : (ri != ri) = false := by simp
  have h2 : (rr != rr) = false := by simp
  have h3 : (rc != rc) = false := by simp
  go_enter Tryz.func19, Tryz.ntmps19
  go_wp2
  go_ret
  exact ⟨rfl, hb⟩
set_option maxHeartbeats 800000 in
theorem eqMetaRes_same (ro : Bool) (rx ri rr rc : Int) (w : World) :
    Calls Tryz.prog 8 #[.agg #[.bool ro, .int .i64 rx, .int .i64 ri, .int .i64 rr, .int .i64 rc], .agg #[.bool ro, .int .i64 rx, .int .i64 ri, .int .i64 rr, .int .i64 rc]] w fun e w' => e = .returned (.bool true) ∧ Below w.heap.size w w' := by
  have hb : Below w.heap.size w ((w.alloc (.cells #[.bool ro, .int .i64 rx, .int .i64 ri, .int .i64 rr, .int .i64 rc] 30)).alloc (.cells #[.bool ro, .int .i64 rx, .int .i64 ri, .int .i64 rr, .int .i64 rc] 30)) := ((Below.refl _ _).alloc (Nat.le_refl _) _).alloc (by simp) _
  have h0 : (ro != ro) = false := by simp
  have h1 : (rx != rx) = false := by simp
  go_enter Tryz.func8, Tryz.ntmps8
  go_wp2_with fail
  generalize (w.alloc (.cells #[.bool ro, .int .i64 rx, .int .i64 ri, .int .i64 rr, .int .i64 rc] 30)).alloc (.cells #[.bool ro, .int .i64 rx, .int .i64 ri, .int .i64 rr, .int .i64 rc] 30) = W0 at hb ⊢
  refine (eqMeta_same ri rr rc W0).mono ?_
  rintro e w1 ⟨rfl, hb1⟩
  have b1 := hb.trans (hb1.mono hb.size)
  clear hb hb1
  go_wp2_with fail
  go_ret
  exact ⟨rfl, b1⟩
set_option maxHeartbeats 3200000 in
theorem law_ReadMeta (nm : ByteArray) (h_nm : nm.size ≤ maxLen) (a : Option Addr) (n c : Nat) (fs : List PF) (b : Option Addr) (m d : Nat) (ps : List PP) (cp fu : Int) (de : Bool) (w : World) (hF : FilesAt w 0 w.heap.size a n c fs) (hP : PendsAt w 0 w.heap.size b m d ps) :
    Calls Tryz.prog 3 #[.agg #[.slice a n c, .slice b m d, .int .i64 cp, .int .i64 fu, .bool de], .string nm] w fun e w' => e = .returned (.bool true) ∧ Below w.heap.size w w' := by
  have hb0 : Below w.heap.size w (w.alloc (.cells #[.slice a n c, .slice b m d, .int .i64 cp, .int .i64 fu, .bool de] 25)) := (Below.refl _ _).alloc (Nat.le_refl _) _
  have l_nm := h_nm
  unfold maxLen at l_nm
  have HNM : Hid (nm.size ≤ maxLen) := h_nm
  have HF : Hid (∀ W, Below w.heap.size w W → FilesAt W 0 w.heap.size a n c fs) := fun W hW => hF.below hW
  have HP : Hid (∀ W, Below w.heap.size w W → PendsAt W 0 w.heap.size b m d ps) := fun W hW => hP.below hW
  have HFL : Hid (fs.length = n) := hF.1
  have HPL : Hid (ps.length = m) := hP.1
  clear hF hP h_nm
  by_cases t_nm : 1048576 < nm.size
  · have s_nm : decide ((1048576 : Int) < (nm.size : Int)) = true := by simp; omega
    go_enter Tryz.func3, Tryz.ntmps3
    go_wp2_with fail
    go_ret
    exact ⟨rfl, hb0⟩
  have s_nm : decide ((1048576 : Int) < (nm.size : Int)) = false := by simp; omega
  go_enter Tryz.func3, Tryz.ntmps3
  go_wp2_with fail
  refine (szDisk_any _ _ _ fs _ _ _ ps _ _ _ _ _ (by omega) (by omega) 0 w.heap.size (by simp) (HF.out _ hb0) (HP.out _ hb0)).mono ?_
  rintro e w1 ⟨r, rfl, hr, hb1⟩
  have g1 := hb0.trans (hb1.mono (by simp))
  have hz1 := hb1.size
  simp at hz1
  have k1 : w.heap.size < w1.heap.size := by omega
  have A1 : Hid (w1.heap[w.heap.size]? = some (.cells #[.slice a n c, .slice b m d, .int .i64 cp, .int .i64 fu, .bool de] 25)) := (hb1.block _ (by simp)).trans (heap_alloc_new w _)
  obtain ⟨x10, x11, x12, x13, x14⟩ := box_fiveC A1.out
  by_cases t1 : r < 0
  · go_wp2_with fail
    go_ret
    exact ⟨rfl, g1⟩
  have hw := hr.2.2 (by omega)
  have hwf := wFiles_nonneg fs
  have hwp := wPends_nonneg ps
  have hn : n ≤ 1048576 := by omega
  have hm : m ≤ 1048576 := by omega
  have HA : Hid (∀ j, j < n → (fs.getD j (ByteArray.empty, [])).2.length ≤ 1048576) := fun j hj => by have := wFiles_get fs j (by rw [HFL.out]; exact hj); omega
  have HA2 : Hid (∀ j, j < m → (ps.getD j (ByteArray.empty, 0, [])).2.2.length ≤ 1048576) := fun j hj => by have := wPends_get ps j (by rw [HPL.out]; exact hj); omega
  clear hw hr hwf hwp hb1
  go_wp2_with fail
  refine (toDisk_z _ _ _ fs _ _ _ ps _ _ _ w1 0 w.heap.size g1.size (HF.out _ g1) (HP.out _ g1) hn hm HA.out HA2.out).mono ?_
  rintro e w3 ⟨ga, gb, rfl, z3, hb3⟩
  have g3 := g1.trans (hb3.mono g1.size)
  have s3 := hb3.size
  have A3 : Hid _ := box_below A1.out hb3
  clear x10 x11 x12 x13 x14
  go_wp2_with fail
  refine (specMeta_any nm HNM.out _ _ _ fs _ _ _ ps _ _ _ w3 w1.heap.size w3.heap.size (Nat.le_refl _) z3.files z3.pends HA.out).mono ?_
  rintro e w4 ⟨rfl, hb4⟩
  obtain ⟨R, hR⟩ : ∃ R, R = metaS fs ps cp fu nm := ⟨_, rfl⟩
  rw [← hR]
  have HR : Hid (metaI fs ps cp fu nm = R) := by rw [hR]; exact meta_same fs ps cp fu nm
  clear hR
  obtain ⟨ro, rx, ri, rr, rc⟩ := R
  simp only [MR.cells]
  have g4 := g3.trans (hb4.mono g3.size)
  have s4 := hb4.size
  have k4 : w.heap.size < w4.heap.size := by omega
  have A4 : Hid _ := box_below A3.out hb4
  obtain ⟨x0, x1, x2, x3, x4⟩ := box_fiveC A4.out
  clear z3 hb3 hb4 A1 A3
  go_wp2_with fail
  clear x0 x1 x2 x3 x4
  have hal := (Below.refl w4.heap.size w4).alloc (Nat.le_refl _) (.cells #[.bool ro, .int .i64 rx, .int .i64 ri, .int .i64 rr, .int .i64 rc] 30)
  have X5 : Hid _ := heap_alloc_new w4 (.cells #[.bool ro, .int .i64 rx, .int .i64 ri, .int .i64 rr, .int .i64 rc] 30)
  have g5 := g4.trans (hal.mono g4.size)
  have A5 : Hid _ := box_below A4.out hal
  generalize w4.alloc (.cells #[.bool ro, .int .i64 rx, .int .i64 ri, .int .i64 rr, .int .i64 rc] 30) = w5 at hal X5 g5 A5 ⊢
  have s45 : w4.heap.size < w5.heap.size := (Array.getElem?_eq_some_iff.1 X5.out).1
  clear hal A4 g4
  generalize w4.heap.size = N4 at X5 s45 s4 k4 ⊢
  refine (toDisk_z _ _ _ fs _ _ _ ps _ _ _ w5 0 w.heap.size g5.size (HF.out _ g5) (HP.out _ g5) hn hm HA.out HA2.out).mono ?_
  rintro e w6 ⟨ga6, gb6, rfl, z6, hb6⟩
  have g6 := g5.trans (hb6.mono g5.size)
  have s6 := hb6.size
  have A6 : Hid _ := box_below A5.out hb6
  have X6 : Hid _ := box_below X5.out hb6
  clear A5 X5 hb6 g5
  go_wp2_with fail
  have hal := (Below.refl w6.heap.size w6).alloc (Nat.le_refl _) (.cells #[.slice (some ⟨ga6, 0, none⟩) n n, .slice (some ⟨gb6, 0, none⟩) m m, .int .i64 cp, .int .i64 fu, .bool de] 35)
  have Y8 : Hid _ := heap_alloc_new w6 (.cells #[.slice (some ⟨ga6, 0, none⟩) n n, .slice (some ⟨gb6, 0, none⟩) m m, .int .i64 cp, .int .i64 fu, .bool de] 35)
  have g8 := g6.trans (hal.mono g6.size)
  have A8 : Hid _ := box_below A6.out hal
  have X8 : Hid _ := box_below X6.out hal
  have z8 := z6.below hal
  generalize w6.alloc (.cells #[.slice (some ⟨ga6, 0, none⟩) n n, .slice (some ⟨gb6, 0, none⟩) m m, .int .i64 cp, .int .i64 fu, .bool de] 35) = w8 at hal Y8 g8 A8 X8 z8 ⊢
  have s68 : w6.heap.size < w8.heap.size := (Array.getElem?_eq_some_iff.1 Y8.out).1
  clear hal A6 X6 z6 g6
  generalize w6.heap.size = N6 at Y8 z8 s68 s6 ⊢
  refine (implMeta_any nm HNM.out _ _ _ fs _ _ _ ps _ _ _ w8 w5.heap.size w8.heap.size (Nat.le_refl _) z8.files z8.pends HA.out).mono ?_
  rintro e w9 ⟨rfl, hb9⟩
  rw [HR.out]
  simp only [MR.cells]
  have g9 := g8.trans (hb9.mono g8.size)
  have s9 := hb9.size
  have A9 : Hid _ := box_below A8.out hb9
  have X9 : Hid _ := box_below X8.out hb9
  have Y9 : Hid _ := box_below Y8.out hb9
  have z9 := z8.below hb9
  clear A8 X8 Y8 z8 hb9 g8
  obtain ⟨x0, x1, x2, x3, x4⟩ := box_fiveC X9.out
  have k9 : N4 < w9.heap.size := by omega
  go_wp2_with fail
  clear x0 x1 x2 x3 x4
  have hal := (Below.refl w9.heap.size w9).alloc (Nat.le_refl _) (.cells #[.bool ro, .int .i64 rx, .int .i64 ri, .int .i64 rr, .int .i64 rc] 30)
  have g10 := g9.trans (hal.mono g9.size)
  have A10 : Hid _ := box_below A9.out hal
  have Y10 : Hid _ := box_below Y9.out hal
  have z10 := z9.below hal
  have s10 := hal.size
  generalize w9.alloc (.cells #[.bool ro, .int .i64 rx, .int .i64 ri, .int .i64 rr, .int .i64 rc] 30) = w10 at hal g10 A10 Y10 z10 s10 ⊢
  clear hal A9 X9 Y9 z9 g9
  refine (eqMetaRes_same ro rx ri rr rc w10).mono ?_
  rintro e w11 ⟨rfl, hb11⟩
  have g11 := g10.trans (hb11.mono g10.size)
  have s11 := hb11.size
  have A11 : Hid _ := box_below A10.out hb11
  have Y11 : Hid _ := box_below Y10.out hb11
  have z11 := z10.below hb11
  clear A10 Y10 z10 hb11 g10
  obtain ⟨x0, x1, x2, x3, x4⟩ := box_fiveC A11.out
  obtain ⟨y0, y1, y2, y3, y4⟩ := box_fiveC Y11.out
  have k11 : w.heap.size < w11.heap.size := by omega
  have k11' : N6 < w11.heap.size := by omega
  have hFd : FilesAt w11.drew 0 w.heap.size a n c fs := HF.out _ g11.drew
  have hPd : PendsAt w11.drew 0 w.heap.size b m d ps := HP.out _ g11.drew
  go_wp2_with fail
  go_region_with (first | (go_at_call 6; refine (toDisk_z _ _ _ fs _ _ _ ps _ _ _ w11.drew 0 w.heap.size g11.size hFd hPd hn hm HA.out HA2.out).mono ?_; rintro e w12 ⟨ge, gf, rfl, v12, hb12⟩; have hb12' : Below w11.heap.size w11 w12 := ((Below.refl _ w11).drew).trans hb12; obtain ⟨u0, u1, u2, u3, u4⟩ := box_fiveC (box_below Y11.out hb12')) | (go_at_call 9; refine (eqDisk_same _ _ _ fs _ _ _ ps _ _ _ _ _ _ _ w12 w5.heap.size w12.heap.size w11.drew.heap.size w12.heap.size (Nat.le_refl _) (Nat.le_refl _) ?_ ?_ v12.files v12.pends).mono ?_; exact (z11.below hb12').files; exact (z11.below hb12').pends; rintro e w13 ⟨rfl, hb13⟩))
  all_goals
    have g13 : Below w.heap.size w w13 := (g11.trans (hb12'.mono g11.size)).trans (hb13.mono (Nat.le_trans g11.size hb12'.size))
    clear hb12 hb12' hb13 v12 hFd hPd g11 x0 x1 x2 x3 x4 y0 y1 y2 y3 y4 u0 u1 u2 u3 u4 z11
    go_wp2
    go_ret
    exact ⟨rfl, g13⟩
end Go.Proofs.YtjbifddhbcfdcaaGreat
