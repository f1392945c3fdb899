import Derived.Test.YtmmdkjeoadlikaaPlain
import Derived.Test.YtmmdkjeoadlikaaSz
import Derived.Test.YtmmdkjeoadlikaaJS2
import Derived.Test.YtmmdkjeoadlikaaJS3
namespace Go.Proofs.Ytmmdkjeoadlikaa
open Go.RowKit
set_option linter.unusedVariables false
set_option maxRecDepth 100000

set_option maxHeartbeats 8000000 in
theorem law_ReadPage (nm : ByteArray) (h_nm : nm.size ≤ maxLen) (pg : Int) (hp : (Lit.int .i64 pg).wf = true) (a : Option Addr) (n c : Nat) (fs : List PF) (b : Option Addr) (m d : Nat) (ps : List PP) (cp fu : Int) (de : Bool) (w : World) (hF : FilesAt w 0 w.heap.size a n c fs) (hP : PendsAt w 0 w.heap.size b m d ps) :
    Calls Try.prog 3 #[.agg #[.slice a n c, .slice b m d, .int .i64 cp, .int .i64 fu, .bool de], .string nm, .int .i64 pg] w fun e w' => e = .returned (.bool true) ∧ Below w.heap.size w w' := by
  have hb0 : Below w.heap.size w (w.alloc (.cells #[.slice a n c, .slice b m d, .int .i64 cp, .int .i64 fu, .bool de] 25)) := (Below.refl _ _).alloc (Nat.le_refl _) _
  have l_nm := h_nm
  unfold maxLen at l_nm
  have HF : Hid (∀ W, Below w.heap.size w W → FilesAt W 0 w.heap.size a n c fs) := fun W hW => hF.below hW
  have HP : Hid (∀ W, Below w.heap.size w W → PendsAt W 0 w.heap.size b m d ps) := fun W hW => hP.below hW
  have HFL : Hid (fs.length = n) := hF.1
  have HPL : Hid (ps.length = m) := hP.1
  have HPW : Hid ((Lit.int .i64 pg).wf = true) := hp
  obtain ⟨R, hR⟩ : ∃ R, R = readP fs ps cp fu nm pg := ⟨_, rfl⟩
  have HI : Hid ((∀ j, j < n → (fs.getD j (ByteArray.empty, [])).2.length ≤ 1048576) → ∀ (a1 : Option Addr) (c1 : Nat) (b1 : Option Addr) (d1 : Nat) (W : World) (A B : Nat), B ≤ W.heap.size → FilesAt W A B a1 n c1 fs → PendsAt W A B b1 m d1 ps → Calls Try.prog 10 #[.agg #[.slice a1 n c1, .slice b1 m d1, .int .i64 cp, .int .i64 fu, .bool de], .string nm, .int .i64 pg] W fun e w' => ∃ va vc, e = .returned (.slice va R.length vc) ∧ RowZ w' W.heap.size w'.heap.size va R.length vc R ∧ Below W.heap.size W w') := by
    intro hall a1 c1 b1 d1 W A B hB hF1 hP1
    refine (implRead_any a1 n c1 fs b1 m d1 ps cp fu de nm h_nm pg W A B hB hF1 hP1 hp hall).mono ?_
    rintro e w' ⟨va, vn, vc, ty, rfl, h1, h2, h3, h4, h5⟩
    rw [← hR] at h1 h2 h3
    subst h1
    exact ⟨va, vc, rfl, RowZ.mk' h2 h3, h5⟩
  have HS : Hid ((∀ j, j < n → (fs.getD j (ByteArray.empty, [])).2.length ≤ 1048576) → ∀ (a1 : Option Addr) (c1 : Nat) (b1 : Option Addr) (d1 : Nat) (W : World) (A B : Nat), B ≤ W.heap.size → FilesAt W A B a1 n c1 fs → PendsAt W A B b1 m d1 ps → Calls Try.prog 8 #[.agg #[.slice a1 n c1, .slice b1 m d1, .int .i64 cp, .int .i64 fu, .bool de], .string nm, .int .i64 pg] W fun e w' => ∃ va vc, e = .returned (.slice va R.length vc) ∧ RowZ w' W.heap.size w'.heap.size va R.length vc R ∧ Below W.heap.size W w') := by
    intro hall a1 c1 b1 d1 W A B hB hF1 hP1
    refine (specRead_any a1 n c1 fs b1 m d1 ps cp fu de nm pg W A B hB hF1 hP1 hp hall).mono ?_
    rintro e w' ⟨va, vn, vc, rfl, h1, h2, h3, h5⟩
    rw [← hR] at h1 h2 h3
    subst h1
    exact ⟨va, vc, rfl, RowZ.mk' h2 h3, h5⟩
  have hRl : R.length ≤ 128 := by rw [hR]; exact readP_len _ _ _ _ _ _
  clear hF hP hR hp
  by_cases t_nm : 1048576 < nm.size
  · have s_nm : decide ((1048576 : Int) < (nm.size : Int)) = true := by simp; omega
    go_enter Try.func3, Try.ntmps3
    go_wp2_with fail
    go_ret
    exact ⟨rfl, hb0⟩
  have s_nm : decide ((1048576 : Int) < (nm.size : Int)) = false := by simp; omega
  go_enter Try.func3, Try.ntmps3
  go_wp2_with fail
  refine (szDisk_any _ _ _ fs _ _ _ ps _ _ _ _ _ (by omega) (by omega) 0 w.heap.size (by simp) (HF.out _ hb0) (HP.out _ hb0)).mono ?_
  rintro e w1 ⟨r, rfl, hr, hb1⟩
  have g1 := hb0.trans (hb1.mono (by simp))
  have hz1 := hb1.size
  simp at hz1
  have k1 : w.heap.size < w1.heap.size := by omega
  have A1 : Hid (w1.heap[w.heap.size]? = some (.cells #[.slice a n c, .slice b m d, .int .i64 cp, .int .i64 fu, .bool de] 25)) := (hb1.block _ (by simp)).trans (heap_alloc_new w _)
  obtain ⟨x10, x11, x12, x13, x14⟩ := box_fiveC A1.out
  by_cases t1 : r < 0
  · go_wp2_with fail
    go_ret
    exact ⟨rfl, g1⟩
  have hw := hr.2.2 (by omega)
  have hwf := wFiles_nonneg fs
  have hwp := wPends_nonneg ps
  have hn : n ≤ 1048576 := by omega
  have hm : m ≤ 1048576 := by omega
  have HA : Hid (∀ j, j < n → (fs.getD j (ByteArray.empty, [])).2.length ≤ 1048576) := fun j hj => by have := wFiles_get fs j (by rw [HFL.out]; exact hj); omega
  have HA2 : Hid (∀ j, j < m → (ps.getD j (ByteArray.empty, 0, [])).2.2.length ≤ 1048576) := fun j hj => by have := wPends_get ps j (by rw [HPL.out]; exact hj); omega
  have hkx : kP (kF 1 fs) ps ≤ 4194304 := by
    have h1 := kF_bound 1 fs
    have h2 := kP_bound (kF 1 fs) ps
    rw [HFL.out] at h1
    rw [HPL.out] at h2
    omega
  clear hw hr hwf hwp hb1
  go_wp2_with fail
  refine (toDisk_z _ _ _ fs _ _ _ ps _ _ _ w1 0 w.heap.size g1.size (HF.out _ g1) (HP.out _ g1) hn hm HA.out HA2.out).mono ?_
  rintro e w3 ⟨ga, gb, rfl, z3, hb3⟩
  have g3 := g1.trans (hb3.mono g1.size)
  have s3 := hb3.size
  have A3 : Hid _ := box_below A1.out hb3
  clear x10 x11 x12 x13 x14
  go_wp2_with fail
  refine (HS.out HA.out _ _ _ _ w3 w1.heap.size w3.heap.size (Nat.le_refl _) z3.files z3.pends).mono ?_
  rintro e w4 ⟨a4, c4, rfl, y4, hb4⟩
  have g4 := g3.trans (hb4.mono g3.size)
  have s4 := hb4.size
  have k4 : w.heap.size < w4.heap.size := by omega
  have A4 : Hid _ := box_below A3.out hb4
  obtain ⟨x0, x1, x2, x3, x4⟩ := box_fiveC A4.out
  clear z3 hb3 hb4 A1 A3
  go_wp2_with fail
  clear x0 x1 x2 x3 x4
  generalize w3.heap.size = N3 at y4 s3 s4 g3 ⊢
  refine (toDisk_z _ _ _ fs _ _ _ ps _ _ _ w4 0 w.heap.size g4.size (HF.out _ g4) (HP.out _ g4) hn hm HA.out HA2.out).mono ?_
  rintro e w6 ⟨ga6, gb6, rfl, z6, hb6⟩
  have g6 := g4.trans (hb6.mono g4.size)
  have s6 := hb6.size
  have A6 : Hid _ := box_below A4.out hb6
  have y6 := y4.below hb6
  clear A4 y4 hb6 g4
  go_wp2_with fail
  have hal := (Below.refl w6.heap.size w6).alloc (Nat.le_refl _) (.cells #[.slice (some ⟨ga6, 0, none⟩) n n, .slice (some ⟨gb6, 0, none⟩) m m, .int .i64 cp, .int .i64 fu, .bool de] 32)
  have Y8 : Hid _ := heap_alloc_new w6 (.cells #[.slice (some ⟨ga6, 0, none⟩) n n, .slice (some ⟨gb6, 0, none⟩) m m, .int .i64 cp, .int .i64 fu, .bool de] 32)
  have g8 := g6.trans (hal.mono g6.size)
  have A8 : Hid _ := box_below A6.out hal
  have y8 := y6.below hal
  have z8 := z6.below hal
  generalize w6.alloc (.cells #[.slice (some ⟨ga6, 0, none⟩) n n, .slice (some ⟨gb6, 0, none⟩) m m, .int .i64 cp, .int .i64 fu, .bool de] 32) = w8 at hal Y8 g8 A8 y8 z8 ⊢
  have s68 : w6.heap.size < w8.heap.size := (Array.getElem?_eq_some_iff.1 Y8.out).1
  clear hal A6 y6 z6 g6
  generalize w4.heap.size = A5 at y8 z8 s4 s6 k4 ⊢
  generalize w6.heap.size = N6 at Y8 z8 s68 s6 ⊢
  have g8s := g8.size
  refine (HI.out HA.out _ _ _ _ w8 A5 w8.heap.size (Nat.le_refl _) z8.files z8.pends).mono ?_
  rintro e w9 ⟨a9, c9, rfl, q9, hb9⟩
  have g9 := g8.trans (hb9.mono g8.size)
  have s9 := hb9.size
  have A9 : Hid _ := box_below A8.out hb9
  have Y9 : Hid _ := box_below Y8.out hb9
  have y9 := y8.below hb9
  have z9 := z8.below hb9
  clear A8 Y8 y8 z8 hb9 g8
  go_wp2_with fail
  refine (eqByteS_z _ _ _ _ _ R w9 _ _ _ _ q9 y9).mono ?_
  rintro e w11 ⟨rfl, hb11⟩
  have g11 := g9.trans (hb11.mono g9.size)
  have s11 := hb11.size
  have A11 : Hid _ := box_below A9.out hb11
  have Y11 : Hid _ := box_below Y9.out hb11
  have y11 := y9.below hb11
  have z11 := z9.below hb11
  have q11 := q9.below hb11
  clear A9 Y9 y9 z9 q9 hb11 g9
  generalize w9.heap.size = N9 at q11 s9 s11 ⊢
  obtain ⟨x0, x1, x2, x3, x4⟩ := box_fiveC A11.out
  obtain ⟨y0, y1, y2, y3, y4⟩ := box_fiveC Y11.out
  have k11 : w.heap.size < w11.heap.size := by omega
  have k11' : N6 < w11.heap.size := by omega
  have hFd : FilesAt w11.drew 0 w.heap.size a n c fs := HF.out _ g11.drew
  have hPd : PendsAt w11.drew 0 w.heap.size b m d ps := HP.out _ g11.drew
  go_wp2_with fail
  go_region_with (first | (go_at_call 9; refine (toDisk_z _ _ _ fs _ _ _ ps _ _ _ w11.drew 0 w.heap.size g11.size hFd hPd hn hm HA.out HA2.out).mono ?_; rintro e w12 ⟨ge, gf, rfl, v12, hb12⟩; have hb12' : Below w11.heap.size w11 w12 := ((Below.refl _ w11).drew).trans hb12; obtain ⟨u0, u1, u2, u3, u4⟩ := box_fiveC (box_below Y11.out hb12')) | (go_at_call 12; refine (eqDisk_same _ _ _ fs _ _ _ ps _ _ _ _ _ _ _ w12 A5 w12.heap.size w11.drew.heap.size w12.heap.size (Nat.le_refl _) (Nat.le_refl _) ?_ ?_ v12.files v12.pends).mono ?_; exact (z11.below hb12').files; exact (z11.below hb12').pends; rintro e w13 ⟨rfl, hb13⟩))
  all_goals
    have g13 : Below w.heap.size w w13 := (g11.trans (hb12'.mono g11.size)).trans (hb13.mono (Nat.le_trans g11.size hb12'.size))
    have h1113 : Below w11.heap.size w11 w13 := hb12'.trans (hb13.mono hb12'.size)
    have s15 := h1113.size
    have A15 : Hid _ := box_below A11.out h1113
    have Y15 : Hid _ := box_below Y11.out h1113
    have p15 := y11.below h1113
    have z15 := z11.below h1113
    have q15 := q11.below h1113
    clear A11 Y11 y11 z11 q11 h1113 hb12 hb12' hb13 v12 hFd hPd g11 x0 x1 x2 x3 x4 y0 y1 y2 y3 y4 u0 u1 u2 u3 u4
    obtain ⟨y0, y1, y2, y3, y4⟩ := box_fiveC Y15.out
    go_wp2_with fail
    clear y0 y1 y2 y3 y4
    refine (markDisk_z _ _ _ _ _ _ _ _ _ 1 A5 N6 fs ps w13 z15 HFL.out.symm HPL.out.symm (by omega) (by omega)).mono ?_
    rintro e w17 ⟨rfl, _, f17⟩
    have s17 := f17.size
    have g17 := g13.trans (f17.below g13.size (fun g e => by omega))
    have A17 : Hid _ := box_fr A15.out f17 (by omega)
    have p17 := p15.fr f17 (fun g e => by omega)
    have q17 := q15.fr f17 (fun g e => by omega)
    clear A15 Y15 p15 z15 q15 f17 g13 hkx
    generalize kP (kF 1 fs) ps = kx
    have hk4 : ¬ ((kx : Nat) : Int) < 0 := by omega
    go_wp2_with fail
    refine (eqByteS_z _ _ _ _ _ R w17 _ _ _ _ q17 p17).mono ?_
    rintro e w18 ⟨rfl, hb18⟩
    have s18 := hb18.size
    have g18 := g17.trans (hb18.mono g17.size)
    have A18 : Hid _ := box_below A17.out hb18
    have p18 := p17.below hb18
    have q18 := q17.below hb18
    clear A17 p17 q17 hb18 g17 hk4
    go_wp2_with fail
    refine (markByteS_z _ _ _ 1 _ _ R w18 q18 (by omega)).mono ?_
    rintro e w19 ⟨rfl, q19, f19⟩
    have s19 := f19.size
    have g19 := g18.trans (f19.below g18.size (fun g e => by have := g8s; omega))
    have A19 : Hid _ := box_fr A18.out f19 (by omega)
    have p19 := p18.fr f19 (fun g e => by omega)
    clear A18 p18 q18 f19 g18
    go_wp2_with fail
    refine (heldByteS_any _ _ _ 1 w19 _ _ q19.bytes (by omega)).mono ?_
    rintro e w20 ⟨rfl, rfl⟩
    have hq0 : ¬ (((1 + R.length : Nat)) : Int) < 0 := by omega
    have hqm : ((((1 + R.length : Nat)) : Int) != (((1 + R.length : Nat)) : Int)) = false := by simp
    clear q19
    obtain ⟨x0, x1, x2, x3, x4⟩ := box_fiveC A19.out
    have k19 : w.heap.size < w20.heap.size := by omega
    go_wp2_with fail
    clear x0 x1 x2 x3 x4 hq0 hqm
    refine (toDisk_z _ _ _ fs _ _ _ ps _ _ _ w20 0 w.heap.size g19.size (HF.out _ g19) (HP.out _ g19) hn hm HA.out HA2.out).mono ?_
    rintro e w22 ⟨gh, gi, rfl, z22, hb22⟩
    have s22 := hb22.size
    have g22 := g19.trans (hb22.mono g19.size)
    have p22 := p19.below hb22
    clear A19 p19 hb22 g19
    go_wp2_with fail
    refine (HI.out HA.out _ _ _ _ w22 w20.heap.size w22.heap.size (Nat.le_refl _) z22.files z22.pends).mono ?_
    rintro e w23 ⟨a23, c23, rfl, q23, hb23⟩
    have s23 := hb23.size
    have g23 := g22.trans (hb23.mono g22.size)
    have p23 := p22.below hb23
    clear p22 z22 hb23 g22
    go_wp2_with fail
    refine (eqByteS_z _ _ _ _ _ R w23 _ _ _ _ q23 p23).mono ?_
    rintro e w25 ⟨rfl, hb25⟩
    have g25 := g23.trans (hb25.mono g23.size)
    clear p23 q23 hb25 g23
    go_wp2
    go_ret
    exact ⟨rfl, g25⟩
end Go.Proofs.Ytmmdkjeoadlikaa
