import Derived.Test.YtmmdkjeoadlikaaPlain
import Derived.Test.YtmmdkjeoadlikaaSz
import Derived.Test.YtmmdkjeoadlikaaJN2
import Derived.Test.YtmmdkjeoadlikaaRnq
namespace Go.Proofs.Ytmmdkjeoadlikaa
open Go.RowKit
set_option linter.unusedVariables false
set_option maxRecDepth 100000

set_option maxHeartbeats 8000000 in
theorem core_RenameFile (fr : ByteArray) (h_fr : fr.size ≤ maxLen) (to : ByteArray) (h_to : to.size ≤ maxLen) (a : Option Addr) (n c : Nat) (fs : List PF) (b : Option Addr) (m d : Nat) (ps : List PP) (cp fu : Int) (de : Bool) (er fu2 : Int) (de2 : Bool) (gs : List PF) (qs : List PP) (w : World) (hF : FilesAt w 0 w.heap.size a n c fs) (hP : PendsAt w 0 w.heap.size b m d ps)
    (hI : n ≤ 1048576 → m ≤ 1048576 → (∀ j, j < n → (fs.getD j (ByteArray.empty, [])).2.length ≤ 1048576) → (∀ j, j < m → (ps.getD j (ByteArray.empty, 0, [])).2.2.length ≤ 1048576) → ∀ (a1 : Option Addr) (c1 : Nat) (b1 : Option Addr) (d1 : Nat) (W : World) (A B : Nat), B ≤ W.heap.size → FilesAt W A B a1 n c1 fs → PendsAt W A B b1 m d1 ps → Calls Try.prog 23 #[.agg #[.slice a1 n c1, .slice b1 m d1, .int .i64 cp, .int .i64 fu, .bool de], .string fr, .string to] W fun e w' => ResAt W e w' er gs qs cp fu2 de2)
    (hS : n ≤ 1048576 → m ≤ 1048576 → (∀ j, j < n → (fs.getD j (ByteArray.empty, [])).2.length ≤ 1048576) → (∀ j, j < m → (ps.getD j (ByteArray.empty, 0, [])).2.2.length ≤ 1048576) → ∀ (a1 : Option Addr) (c1 : Nat) (b1 : Option Addr) (d1 : Nat) (W : World) (A B : Nat), B ≤ W.heap.size → FilesAt W A B a1 n c1 fs → PendsAt W A B b1 m d1 ps → Calls Try.prog 22 #[.agg #[.slice a1 n c1, .slice b1 m d1, .int .i64 cp, .int .i64 fu, .bool de], .string fr, .string to] W fun e w' => ResAt W e w' er gs qs cp fu2 de2)
    (hk : fr.size ≤ 1048576 → to.size ≤ 1048576 → (n : Int) + wFiles fs + m + wPends ps ≤ 1048576 → kP (kF 1 gs) qs ≤ 1099511627776) :
    Calls Try.prog 5 #[.agg #[.slice a n c, .slice b m d, .int .i64 cp, .int .i64 fu, .bool de], .string fr, .string to] w fun e w' => e = .returned (.bool true) ∧ Below w.heap.size w w' := by
  have hb0 : Below w.heap.size w (w.alloc (.cells #[.slice a n c, .slice b m d, .int .i64 cp, .int .i64 fu, .bool de] 25)) := (Below.refl _ _).alloc (Nat.le_refl _) _
  have l_fr := h_fr
  unfold maxLen at l_fr
  have l_to := h_to
  unfold maxLen at l_to
  have HF : Hid (∀ W, Below w.heap.size w W → FilesAt W 0 w.heap.size a n c fs) := fun W hW => hF.below hW
  have HP : Hid (∀ W, Below w.heap.size w W → PendsAt W 0 w.heap.size b m d ps) := fun W hW => hP.below hW
  have HFL : Hid (fs.length = n) := hF.1
  have HPL : Hid (ps.length = m) := hP.1
  have HI : Hid (n ≤ 1048576 → m ≤ 1048576 → (∀ j, j < n → (fs.getD j (ByteArray.empty, [])).2.length ≤ 1048576) → (∀ j, j < m → (ps.getD j (ByteArray.empty, 0, [])).2.2.length ≤ 1048576) → ∀ (a1 : Option Addr) (c1 : Nat) (b1 : Option Addr) (d1 : Nat) (W : World) (A B : Nat), B ≤ W.heap.size → FilesAt W A B a1 n c1 fs → PendsAt W A B b1 m d1 ps → Calls Try.prog 23 #[.agg #[.slice a1 n c1, .slice b1 m d1, .int .i64 cp, .int .i64 fu, .bool de], .string fr, .string to] W fun e w' => ResAt W e w' er gs qs cp fu2 de2) := hI
  have HS : Hid (n ≤ 1048576 → m ≤ 1048576 → (∀ j, j < n → (fs.getD j (ByteArray.empty, [])).2.length ≤ 1048576) → (∀ j, j < m → (ps.getD j (ByteArray.empty, 0, [])).2.2.length ≤ 1048576) → ∀ (a1 : Option Addr) (c1 : Nat) (b1 : Option Addr) (d1 : Nat) (W : World) (A B : Nat), B ≤ W.heap.size → FilesAt W A B a1 n c1 fs → PendsAt W A B b1 m d1 ps → Calls Try.prog 22 #[.agg #[.slice a1 n c1, .slice b1 m d1, .int .i64 cp, .int .i64 fu, .bool de], .string fr, .string to] W fun e w' => ResAt W e w' er gs qs cp fu2 de2) := hS
  have HK : Hid (fr.size ≤ 1048576 → to.size ≤ 1048576 → (n : Int) + wFiles fs + m + wPends ps ≤ 1048576 → kP (kF 1 gs) qs ≤ 1099511627776) := hk
  clear hF hP hI hS hk
  by_cases t_fr : 1048576 < fr.size
  · have s_fr : decide ((1048576 : Int) < (fr.size : Int)) = true := by simp; omega
    go_enter Try.func5, Try.ntmps5
    go_wp2_with fail
    go_ret
    exact ⟨rfl, hb0⟩
  have s_fr : decide ((1048576 : Int) < (fr.size : Int)) = false := by simp; omega
  by_cases t_to : 1048576 < to.size
  · have s_to : decide ((1048576 : Int) < (to.size : Int)) = true := by simp; omega
    go_enter Try.func5, Try.ntmps5
    go_wp2_with fail
    go_ret
    exact ⟨rfl, hb0⟩
  have s_to : decide ((1048576 : Int) < (to.size : Int)) = false := by simp; omega
  go_enter Try.func5, Try.ntmps5
  go_wp2_with fail
  refine (szDisk_any _ _ _ fs _ _ _ ps _ _ _ _ _ (by omega) (by omega) 0 w.heap.size (by simp) (HF.out _ hb0) (HP.out _ hb0)).mono ?_
  rintro e w1 ⟨r, rfl, hr, hb1⟩
  have g1 := hb0.trans (hb1.mono (by simp))
  have hz1 := hb1.size
  simp at hz1
  have k1 : w.heap.size < w1.heap.size := by omega
  have A1 : Hid (w1.heap[w.heap.size]? = some (.cells #[.slice a n c, .slice b m d, .int .i64 cp, .int .i64 fu, .bool de] 25)) := (hb1.block _ (by simp)).trans (heap_alloc_new w _)
  obtain ⟨x10, x11, x12, x13, x14⟩ := box_fiveC A1.out
  by_cases t1 : r < 0
  · go_wp2_with fail
    go_ret
    exact ⟨rfl, g1⟩
  have hw := hr.2.2 (by omega)
  have hwf := wFiles_nonneg fs
  have hwp := wPends_nonneg ps
  have hn : n ≤ 1048576 := by omega
  have hm : m ≤ 1048576 := by omega
  have HA : Hid (∀ j, j < n → (fs.getD j (ByteArray.empty, [])).2.length ≤ 1048576) := fun j hj => by have := wFiles_get fs j (by rw [HFL.out]; exact hj); omega
  have HA2 : Hid (∀ j, j < m → (ps.getD j (ByteArray.empty, 0, [])).2.2.length ≤ 1048576) := fun j hj => by have := wPends_get ps j (by rw [HPL.out]; exact hj); omega
  have hk2 := HK.out (by omega) (by omega) (by omega)
  have hkx : kP (kF 1 fs) ps ≤ 4194304 := by
    have h1 := kF_bound 1 fs
    have h2 := kP_bound (kF 1 fs) ps
    rw [HFL.out] at h1
    rw [HPL.out] at h2
    omega
  clear hw hr hwf hwp HK hb1
  go_wp2_with fail
  refine (toDisk_z _ _ _ fs _ _ _ ps _ _ _ w1 0 w.heap.size g1.size (HF.out _ g1) (HP.out _ g1) hn hm HA.out HA2.out).mono ?_
  rintro e w3 ⟨ga, gb, rfl, z3, hb3⟩
  have g3 := g1.trans (hb3.mono g1.size)
  have s3 := hb3.size
  have A3 : Hid _ := box_below A1.out hb3
  clear x10 x11 x12 x13 x14
  go_wp2_with fail
  refine (HS.out hn hm HA.out HA2.out _ _ _ _ w3 w1.heap.size w3.heap.size (Nat.le_refl _) z3.files z3.pends).mono ?_
  rintro e w4 hR4
  obtain ⟨a4, c4, b4, d4, rfl, z4, hb4⟩ := hR4.z
  have g4 := g3.trans (hb4.mono g3.size)
  have s4 := hb4.size
  have k4 : w.heap.size < w4.heap.size := by omega
  have A4 : Hid _ := box_below A3.out hb4
  obtain ⟨x0, x1, x2, x3, x4⟩ := box_fiveC A4.out
  clear z3 hR4 hb3 hb4 A1 A3
  go_wp2_with fail
  clear x0 x1 x2 x3 x4
  have hal := (Below.refl w4.heap.size w4).alloc (Nat.le_refl _) (.cells #[.int .i64 er, .slice a4 gs.length c4, .slice b4 qs.length d4, .int .i64 cp, .int .i64 fu2, .bool de2] 40)
  have X5 : Hid _ := heap_alloc_new w4 (.cells #[.int .i64 er, .slice a4 gs.length c4, .slice b4 qs.length d4, .int .i64 cp, .int .i64 fu2, .bool de2] 40)
  have g5 := g4.trans (hal.mono g4.size)
  have A5 : Hid _ := box_below A4.out hal
  have z5 := z4.below hal
  generalize w4.alloc (.cells #[.int .i64 er, .slice a4 gs.length c4, .slice b4 qs.length d4, .int .i64 cp, .int .i64 fu2, .bool de2] 40) = w5 at hal X5 g5 A5 z5 ⊢
  have s45 : w4.heap.size < w5.heap.size := (Array.getElem?_eq_some_iff.1 X5.out).1
  clear hal A4 z4 g4
  generalize w4.heap.size = N4 at X5 z5 s45 s4 k4 ⊢
  refine (toDisk_z _ _ _ fs _ _ _ ps _ _ _ w5 0 w.heap.size g5.size (HF.out _ g5) (HP.out _ g5) hn hm HA.out HA2.out).mono ?_
  rintro e w6 ⟨ga6, gb6, rfl, z6, hb6⟩
  have g6 := g5.trans (hb6.mono g5.size)
  have s6 := hb6.size
  have A6 : Hid _ := box_below A5.out hb6
  have X6 : Hid _ := box_below X5.out hb6
  have y6 := z5.below hb6
  clear A5 X5 z5 hb6 g5
  go_wp2_with fail
  have hal := (Below.refl w6.heap.size w6).alloc (Nat.le_refl _) (.cells #[.slice (some ⟨ga6, 0, none⟩) n n, .slice (some ⟨gb6, 0, none⟩) m m, .int .i64 cp, .int .i64 fu, .bool de] 32)
  have Y8 : Hid _ := heap_alloc_new w6 (.cells #[.slice (some ⟨ga6, 0, none⟩) n n, .slice (some ⟨gb6, 0, none⟩) m m, .int .i64 cp, .int .i64 fu, .bool de] 32)
  have g8 := g6.trans (hal.mono g6.size)
  have A8 : Hid _ := box_below A6.out hal
  have X8 : Hid _ := box_below X6.out hal
  have y8 := y6.below hal
  have z8 := z6.below hal
  generalize w6.alloc (.cells #[.slice (some ⟨ga6, 0, none⟩) n n, .slice (some ⟨gb6, 0, none⟩) m m, .int .i64 cp, .int .i64 fu, .bool de] 32) = w8 at hal Y8 g8 A8 X8 y8 z8 ⊢
  have s68 : w6.heap.size < w8.heap.size := (Array.getElem?_eq_some_iff.1 Y8.out).1
  clear hal A6 X6 y6 z6 g6
  generalize w5.heap.size = A5 at z8 s45 s6 ⊢
  generalize w6.heap.size = N6 at Y8 z8 s68 s6 ⊢
  have g8s := g8.size
  refine (HI.out hn hm HA.out HA2.out _ _ _ _ w8 A5 w8.heap.size (Nat.le_refl _) z8.files z8.pends).mono ?_
  rintro e w9 hR9
  obtain ⟨a9, c9, b9, d9, rfl, q9, hb9⟩ := hR9.z
  have g9 := g8.trans (hb9.mono g8.size)
  have s9 := hb9.size
  have A9 : Hid _ := box_below A8.out hb9
  have X9 : Hid _ := box_below X8.out hb9
  have Y9 : Hid _ := box_below Y8.out hb9
  have y9 := y8.below hb9
  have z9 := z8.below hb9
  clear A8 X8 Y8 y8 z8 hb9 g8 hR9
  obtain ⟨x0, x1, x2, x3, x4, x5⟩ := box_sixR X9.out
  have k9 : N4 < w9.heap.size := by omega
  go_wp2_with fail
  clear x0 x1 x2 x3 x4 x5
  have hal := (Below.refl w9.heap.size w9).alloc (Nat.le_refl _) (.cells #[.int .i64 er, .slice a9 gs.length c9, .slice b9 qs.length d9, .int .i64 cp, .int .i64 fu2, .bool de2] 40)
  have Z10 : Hid _ := heap_alloc_new w9 (.cells #[.int .i64 er, .slice a9 gs.length c9, .slice b9 qs.length d9, .int .i64 cp, .int .i64 fu2, .bool de2] 40)
  have g10 := g9.trans (hal.mono g9.size)
  have A10 : Hid _ := box_below A9.out hal
  have X10 : Hid _ := box_below X9.out hal
  have Y10 : Hid _ := box_below Y9.out hal
  have y10 := y9.below hal
  have z10 := z9.below hal
  have q10 := q9.below hal
  generalize w9.alloc (.cells #[.int .i64 er, .slice a9 gs.length c9, .slice b9 qs.length d9, .int .i64 cp, .int .i64 fu2, .bool de2] 40) = w10 at hal Z10 g10 A10 X10 Y10 y10 z10 q10 ⊢
  have s910 : w9.heap.size < w10.heap.size := (Array.getElem?_eq_some_iff.1 Z10.out).1
  clear hal A9 X9 Y9 y9 z9 q9 g9
  generalize w9.heap.size = N9 at Z10 q10 s910 s9 k9 ⊢
  refine (eqDiskRes_same er _ _ _ gs _ _ _ qs _ _ _ _ cp fu2 de2 w10 _ _ _ _ (Nat.le_refl _) (Nat.le_refl _) q10.files q10.pends y10.files y10.pends).mono ?_
  rintro e w11 ⟨rfl, hb11⟩
  have g11 := g10.trans (hb11.mono g10.size)
  have s11 := hb11.size
  have A11 : Hid _ := box_below A10.out hb11
  have X11 : Hid _ := box_below X10.out hb11
  have Y11 : Hid _ := box_below Y10.out hb11
  have Z11 : Hid _ := box_below Z10.out hb11
  have y11 := y10.below hb11
  have z11 := z10.below hb11
  have q11 := q10.below hb11
  clear A10 X10 Y10 Z10 y10 z10 q10 hb11 g10
  obtain ⟨x0, x1, x2, x3, x4⟩ := box_fiveC A11.out
  obtain ⟨y0, y1, y2, y3, y4⟩ := box_fiveC Y11.out
  have k11 : w.heap.size < w11.heap.size := by omega
  have k11' : N6 < w11.heap.size := by omega
  have hFd : FilesAt w11.drew 0 w.heap.size a n c fs := HF.out _ g11.drew
  have hPd : PendsAt w11.drew 0 w.heap.size b m d ps := HP.out _ g11.drew
  go_wp2_with fail
  go_region_with (first | (go_at_call 9; refine (toDisk_z _ _ _ fs _ _ _ ps _ _ _ w11.drew 0 w.heap.size g11.size hFd hPd hn hm HA.out HA2.out).mono ?_; rintro e w12 ⟨ge, gf, rfl, v12, hb12⟩; have hb12' : Below w11.heap.size w11 w12 := ((Below.refl _ w11).drew).trans hb12; obtain ⟨u0, u1, u2, u3, u4⟩ := box_fiveC (box_below Y11.out hb12')) | (go_at_call 12; refine (eqDisk_same _ _ _ fs _ _ _ ps _ _ _ _ _ _ _ w12 A5 w12.heap.size w11.drew.heap.size w12.heap.size (Nat.le_refl _) (Nat.le_refl _) ?_ ?_ v12.files v12.pends).mono ?_; exact (z11.below hb12').files; exact (z11.below hb12').pends; rintro e w13 ⟨rfl, hb13⟩))
  all_goals
    have g13 : Below w.heap.size w w13 := (g11.trans (hb12'.mono g11.size)).trans (hb13.mono (Nat.le_trans g11.size hb12'.size))
    have h1113 : Below w11.heap.size w11 w13 := hb12'.trans (hb13.mono hb12'.size)
    have s15 := h1113.size
    have A15 : Hid _ := box_below A11.out h1113
    have X15 : Hid _ := box_below X11.out h1113
    have Y15 : Hid _ := box_below Y11.out h1113
    have Z15 : Hid _ := box_below Z11.out h1113
    have p15 := y11.below h1113
    have z15 := z11.below h1113
    have q15 := q11.below h1113
    clear A11 X11 Y11 Z11 y11 z11 q11 h1113 hb12 hb12' hb13 v12 hFd hPd g11 x0 x1 x2 x3 x4 y0 y1 y2 y3 y4 u0 u1 u2 u3 u4
    obtain ⟨y0, y1, y2, y3, y4⟩ := box_fiveC Y15.out
    go_wp2_with fail
    clear y0 y1 y2 y3 y4
    refine (markDisk_z _ _ _ _ _ _ _ _ _ 1 A5 N6 fs ps w13 z15 HFL.out.symm HPL.out.symm (by omega) (by omega)).mono ?_
    rintro e w17 ⟨rfl, _, f17⟩
    have s17 := f17.size
    have g17 := g13.trans (f17.below g13.size (fun g e => by omega))
    have A17 : Hid _ := box_fr A15.out f17 (by omega)
    have X17 : Hid _ := box_fr X15.out f17 (by omega)
    have Z17 : Hid _ := box_fr Z15.out f17 (by omega)
    have p17 := p15.fr f17 (fun g e => by omega)
    have q17 := q15.fr f17 (fun g e => by omega)
    clear A15 X15 Y15 Z15 p15 z15 q15 f17 g13 hkx
    generalize kP (kF 1 fs) ps = kx
    have hk4 : ¬ ((kx : Nat) : Int) < 0 := by omega
    obtain ⟨x0, x1, x2, x3, x4, x5⟩ := box_sixR X17.out
    obtain ⟨z0, z1, z2, z3, z4, z5⟩ := box_sixR Z17.out
    go_wp2_with fail
    clear x0 x1 x2 x3 x4 x5 z0 z1 z2 z3 z4 z5
    refine (eqDiskRes_same er _ _ _ gs _ _ _ qs _ _ _ _ cp fu2 de2 w17 _ _ _ _ (Nat.le_refl _) (Nat.le_refl _) q17.files q17.pends p17.files p17.pends).mono ?_
    rintro e w18 ⟨rfl, hb18⟩
    have s18 := hb18.size
    have g18 := g17.trans (hb18.mono g17.size)
    have A18 : Hid _ := box_below A17.out hb18
    have X18 : Hid _ := box_below X17.out hb18
    have Z18 : Hid _ := box_below Z17.out hb18
    have p18 := p17.below hb18
    have q18 := q17.below hb18
    clear A17 X17 Z17 p17 q17 hb18 g17 hk4
    obtain ⟨z0, z1, z2, z3, z4, z5⟩ := box_sixR Z18.out
    go_wp2_with fail
    clear z0 z1 z2 z3 z4 z5
    refine (markDiskRes_z er _ _ _ _ _ _ cp fu2 de2 1 w8.heap.size N9 gs qs w18 q18 rfl rfl (by omega) hk2).mono ?_
    rintro e w19 ⟨rfl, q19, f19⟩
    have s19 := f19.size
    have g19 := g18.trans (f19.below g18.size (fun g e => by have := g8s; omega))
    have A19 : Hid _ := box_fr A18.out f19 (by omega)
    have X19 : Hid _ := box_fr X18.out f19 (by omega)
    have Z19 : Hid _ := box_fr Z18.out f19 (by omega)
    have p19 := p18.fr f19 (fun g e => by omega)
    clear A18 X18 Z18 p18 q18 f19 g18
    obtain ⟨z0, z1, z2, z3, z4, z5⟩ := box_sixR Z19.out
    have HK2 : Hid (kP (kF 1 gs) qs ≤ 1099511627776) := hk2
    clear hk2
    go_wp2_with fail
    clear z0 z1 z2 z3 z4 z5
    refine (heldDiskRes_any er _ _ _ _ _ _ cp fu2 de2 1 _ _ gs qs w19 q19.files q19.pends (Nat.le_refl _) HK2.out).mono ?_
    rintro e w20 ⟨rfl, hb20⟩
    have s20 := hb20.size
    have g20 := g19.trans (hb20.mono g19.size)
    have A20 : Hid _ := box_below A19.out hb20
    have X20 : Hid _ := box_below X19.out hb20
    have p20 := p19.below hb20
    clear A19 X19 Z19 p19 q19 hb20 g19 HK2
    generalize kP (kF 1 gs) qs = ky
    have hq0 : ¬ ((ky : Nat) : Int) < 0 := by omega
    have hqm : (((ky : Nat) : Int) != ((ky : Nat) : Int)) = false := by simp
    obtain ⟨x0, x1, x2, x3, x4⟩ := box_fiveC A20.out
    go_wp2_with fail
    clear x0 x1 x2 x3 x4 hq0 hqm
    refine (toDisk_z _ _ _ fs _ _ _ ps _ _ _ w20 0 w.heap.size g20.size (HF.out _ g20) (HP.out _ g20) hn hm HA.out HA2.out).mono ?_
    rintro e w22 ⟨gh, gi, rfl, z22, hb22⟩
    have s22 := hb22.size
    have g22 := g20.trans (hb22.mono g20.size)
    have X22 : Hid _ := box_below X20.out hb22
    have p22 := p20.below hb22
    clear A20 X20 p20 hb22 g20
    go_wp2_with fail
    refine (HI.out hn hm HA.out HA2.out _ _ _ _ w22 w20.heap.size w22.heap.size (Nat.le_refl _) z22.files z22.pends).mono ?_
    rintro e w23 hR23
    obtain ⟨a23, c23, b23, d23, rfl, q23, hb23⟩ := hR23.z
    have s23 := hb23.size
    have g23 := g22.trans (hb23.mono g22.size)
    have X23 : Hid _ := box_below X22.out hb23
    have p23 := p22.below hb23
    have k23 : N4 < w23.heap.size := by omega
    clear X22 p22 z22 hR23 hb23 g22
    obtain ⟨x0, x1, x2, x3, x4, x5⟩ := box_sixR X23.out
    go_wp2_with fail
    clear x0 x1 x2 x3 x4 x5
    have hal := (Below.refl w23.heap.size w23).alloc (Nat.le_refl _) (.cells #[.int .i64 er, .slice a23 gs.length c23, .slice b23 qs.length d23, .int .i64 cp, .int .i64 fu2, .bool de2] 40)
    have g24 := g23.trans (hal.mono g23.size)
    have p24 := p23.below hal
    have q24 := q23.below hal
    generalize w23.alloc (.cells #[.int .i64 er, .slice a23 gs.length c23, .slice b23 qs.length d23, .int .i64 cp, .int .i64 fu2, .bool de2] 40) = w24 at hal g24 p24 q24 ⊢
    clear X23 p23 q23 hal g23
    refine (eqDiskRes_same er _ _ _ gs _ _ _ qs _ _ _ _ cp fu2 de2 w24 _ _ _ _ (Nat.le_refl _) (Nat.le_refl _) q24.files q24.pends p24.files p24.pends).mono ?_
    rintro e w25 ⟨rfl, hb25⟩
    have g25 := g24.trans (hb25.mono g24.size)
    clear p24 q24 hb25 g24
    go_wp2
    go_ret
    exact ⟨rfl, g25⟩
theorem wFiles_filterN (fs : List PF) (p : PF → Bool) : wFiles (fs.filter p) ≤ wFiles fs ∧ (fs.filter p).length ≤ fs.length := by
  induction fs with
  | nil => simp [wFiles]
  | cons x r ih =>
    rw [List.filter_cons]
    have : 0 ≤ wFile x := by unfold wFile; omega
    split <;> simp only [wFiles, List.length_cons] <;> omega
theorem wFiles_ins (l : List PF) (f : PF) : wFiles (insF l f) = wFiles l + wFile f ∧ (insF l f).length = l.length + 1 := by
  have e : l.takeWhile (fun g => !gtB g.1 f.1) ++ l.dropWhile (fun g => !gtB g.1 f.1) = l := List.takeWhile_append_dropWhile
  have h1 := wFiles_append (l.takeWhile (fun g => !gtB g.1 f.1)) (l.dropWhile (fun g => !gtB g.1 f.1))
  have h2 := congrArg List.length e
  rw [e] at h1
  rw [List.length_append] at h2
  unfold insF
  rw [wFiles_append]
  simp only [wFiles, List.length_append, List.length_cons]
  omega
theorem ren_weight (fs : List PF) (fr to : ByteArray) : wFiles (renF fs fr to) ≤ 2 * wFiles fs + to.size ∧ (renF fs fr to).length ≤ fs.length + 1 := by
  obtain ⟨a1, a2⟩ := wFiles_filterN (remF fs fr) (fun f => !decide (f.1 = to))
  obtain ⟨b1, b2⟩ := wFiles_filterN fs (fun f => !decide (f.1 = fr))
  have w0 := wFiles_nonneg fs
  unfold renF
  obtain ⟨c1, c2⟩ := wFiles_ins (remF (remF fs fr) to) (to, (fs.getD (findN fs fr) (ByteArray.empty, [])).2)
  rw [c1, c2]
  have hd : ((fs.getD (findN fs fr) (ByteArray.empty, [])).2.length : Int) ≤ wFiles fs := by
    by_cases h : findN fs fr < fs.length
    · have := wFiles_get fs _ h; omega
    · simp [List.getD, List.getElem?_eq_none (show fs.length ≤ findN fs fr by omega)]; omega
  have e1 : remF (remF fs fr) to = (remF fs fr).filter (fun f => !decide (f.1 = to)) := rfl
  have e2 : remF fs fr = fs.filter (fun f => !decide (f.1 = fr)) := rfl
  rw [← e1] at a1 a2
  rw [← e2] at b1 b2
  have e3 : wFile (to, (fs.getD (findN fs fr) (ByteArray.empty, [])).2) = (to.size : Int) + ((fs.getD (findN fs fr) (ByteArray.empty, [])).2.length : Int) := rfl
  rw [e3]
  omega
theorem law_RenameFile (fr to : ByteArray) (hsf : fr.size ≤ maxLen) (hst : to.size ≤ maxLen) (a : Option Addr) (n c : Nat) (fs : List PF) (b : Option Addr) (m d : Nat) (ps : List PP) (cp fu : Int) (hfu : -9223372036854775808 ≤ fu ∧ fu ≤ 9223372036854775807) (de : Bool) (w : World) (hF : FilesAt w 0 w.heap.size a n c fs) (hP : PendsAt w 0 w.heap.size b m d ps) :
    Calls Try.prog 5 #[.agg #[.slice a n c, .slice b m d, .int .i64 cp, .int .i64 fu, .bool de], .string fr, .string to] w fun e w' => e = .returned (.bool true) ∧ Below w.heap.size w w' := by
  refine core_RenameFile fr hsf to hst a n c fs b m d ps cp fu de _ _ _ _ _ w hF hP (fun hn hm hall hall2 a1 c1 b1 d1 W A B hB kF kP => implRename_any a1 n c1 fs b1 m d1 ps cp fu de fr to W A B hB kF kP hsf hst hfu hn hm hall hall2) (fun hn hm hall hall2 a1 c1 b1 d1 W A B hB kF kP => specRename_any a1 n c1 fs b1 m d1 ps cp fu de fr to W A B hB kF kP hsf hst hfu hn hm hall hall2) ?_
  intro h1 h2 h3
  have e1 := hF.1
  have e2 := hP.1
  have w1 := wFiles_nonneg fs
  have w2 := wPends_nonneg ps
  obtain ⟨f3, f4⟩ := ren_weight fs fr to
  have hps : dsX (rnI fs ps cp fu de fr to) fu ps ps = ps := by unfold dsX; split <;> rfl
  rw [hps]
  have f2 := kP_bound (kF 1 (dsX (rnI fs ps cp fu de fr to) fu fs (renF fs fr to))) ps
  have f1 := kF_bound 1 (dsX (rnI fs ps cp fu de fr to) fu fs (renF fs fr to))
  have hle : ((dsX (rnI fs ps cp fu de fr to) fu fs (renF fs fr to)).length : Int) + wFiles (dsX (rnI fs ps cp fu de fr to) fu fs (renF fs fr to)) ≤ fs.length + 1 + 2 * wFiles fs + to.size := by
    unfold dsX
    split <;> omega
  omega
end Go.Proofs.Ytmmdkjeoadlikaa
