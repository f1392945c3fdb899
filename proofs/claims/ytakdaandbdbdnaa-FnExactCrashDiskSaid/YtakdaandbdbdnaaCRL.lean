import Derived.Test.YtakdaandbdbdnaaEq
import Derived.Test.YtakdaandbdbdnaaHdD
import Derived.Test.YtakdaandbdbdnaaSz
import Derived.Test.YtakdaandbdbdnaaCri
import Derived.Deep.CutRange
import Derived.Deep.RegionHeld3
namespace Go.Proofs.Ytakdaandbdbdnaa
open Go.RowKit
set_option linter.unusedVariables false
set_option maxRecDepth 100000

/-- What is kept of an answer that lies in a variable. -/
structure Fin5 (wS wx : World) (Z lo : Nat) (a4 : Option Addr) (c4 : Nat) (gs : List PF) (cp2 fu2 : Int) : Prop where
  bx : wx.heap[Z]? = some (.cells #[.slice a4 gs.length c4, .slice none 0 0, .int .i64 cp2, .int .i64 fu2, .bool false] 26)
  zone : OwnZ wx lo wx.heap.size (.slice a4 gs.length c4) (.slice none 0 0) gs []
  bel : Below wS.heap.size wS wx
  hz : wS.heap.size ≤ Z ∧ wS.heap.size ≤ lo
theorem fin_last {wS w4 : World} {lo : Nat} {a4 : Option Addr} {c4 : Nat} {gs : List PF} {cp2 fu2 : Int} (hb : Below wS.heap.size wS w4) (hlo : wS.heap.size ≤ lo) (z4 : OwnZ w4 lo w4.heap.size (.slice a4 gs.length c4) (.slice none 0 0) gs []) :
    Fin5 wS (w4.alloc (.cells #[.slice a4 gs.length c4, .slice none 0 0, .int .i64 cp2, .int .i64 fu2, .bool false] 26)) w4.heap.size lo a4 c4 gs cp2 fu2 := by
  have hal := (Below.refl w4.heap.size w4).alloc (Nat.le_refl _) (.cells #[.slice a4 gs.length c4, .slice none 0 0, .int .i64 cp2, .int .i64 fu2, .bool false] 26)
  exact ⟨heap_alloc_new _ _, (z4.below hal).up hal.size, hb.trans (hal.mono hb.size), hb.size, hlo⟩
theorem fin_put {wS w4 : World} {Z lo : Nat} {a4 : Option Addr} {c4 : Nat} {gs : List PF} {cp2 fu2 : Int} (hb : Below wS.heap.size wS w4) (hbx : w4.heap[Z]? = some (.cells #[.slice none 0 0, .slice none 0 0, .int .i64 0, .int .i64 0, .bool false] 26)) (hZ : wS.heap.size ≤ Z) (hZl : Z < lo) (z4 : OwnZ w4 lo w4.heap.size (.slice a4 gs.length c4) (.slice none 0 0) gs []) :
    Fin5 wS (put5C w4 Z (.slice a4 gs.length c4) (.slice none 0 0) (.int .i64 cp2) (.int .i64 fu2) (.bool false)) Z lo a4 c4 gs cp2 fu2 := by
  have hf := put5C_fr w4 Z (.slice a4 gs.length c4) (.slice none 0 0) (.int .i64 cp2) (.int .i64 fu2) (.bool false)
  exact ⟨put5C_box hbx _ _ _ _ _, (z4.fr hf (fun g e => .inl (by omega))).up hf.size, hb.trans (hf.below hb.size (fun g e => by omega)), hZ, by omega⟩
theorem fin_put2 {wS w4 : World} {Z lo hi : Nat} {a4 : Option Addr} {c4 : Nat} {gs : List PF} {cp2 fu2 : Int} (hb : Below wS.heap.size wS w4) (hbx : w4.heap[Z]? = some (.cells #[.slice none 0 0, .slice none 0 0, .int .i64 0, .int .i64 0, .bool false] 26)) (hZ : wS.heap.size ≤ Z) (hlo : wS.heap.size ≤ lo) (hZl : Z < lo ∨ hi ≤ Z) (hh : hi ≤ w4.heap.size) (z4 : OwnZ w4 lo hi (.slice a4 gs.length c4) (.slice none 0 0) gs []) :
    Fin5 wS (put5C w4 Z (.slice a4 gs.length c4) (.slice none 0 0) (.int .i64 cp2) (.int .i64 fu2) (.bool false)) Z lo a4 c4 gs cp2 fu2 := by
  have hf := put5C_fr w4 Z (.slice a4 gs.length c4) (.slice none 0 0) (.int .i64 cp2) (.int .i64 fu2) (.bool false)
  exact ⟨put5C_box hbx _ _ _ _ _, (z4.fr hf (fun g e => by omega)).up (Nat.le_trans hh hf.size), hb.trans (hf.below hb.size (fun g e => by omega)), hZ, hlo⟩
theorem BoolsAt.up {w : World} {A B A' B' : Nat} {a : Option Addr} {n c : Nat} {ks : List Bool} (h : BoolsAt w A B a n c ks) (hA : A' ≤ A) (hB : B ≤ B') : BoolsAt w A' B' a n c ks := by
  obtain ⟨h1, h2, h3, h5⟩ := h
  refine ⟨h1, h2, h3, fun hn => ?_⟩
  obtain ⟨b, off, rfl, hlt, hc⟩ := h5 hn
  exact ⟨b, off, rfl, ⟨by omega, by omega⟩, hc⟩
theorem bl_al {w : World} (o : Obj) : Below w.heap.size w (w.alloc o) := (Below.refl _ _).alloc (Nat.le_refl _) _
theorem bl_dr (w : World) : Below w.heap.size w w.drew := (Below.refl _ _).drew
theorem box_lt {w : World} {N : Nat} {x : Obj} (h : w.heap[N]? = some x) : N < w.heap.size := (Array.getElem?_eq_some_iff.1 h).1

set_option maxHeartbeats 8000000 in
theorem core_CrashDisk (a : Option Addr) (n c : Nat) (fs : List PF) (b : Option Addr) (m d : Nat) (ps : List PP) (cp fu : Int) (de : Bool) (ka : Option Addr) (kn kc : Nat) (ks : List Bool) (tr ta : Int) (cp2 fu2 : Int) (gs : List PF) (w : World) (hF : FilesAt w 0 w.heap.size a n c fs) (hP : PendsAt w 0 w.heap.size b m d ps) (hKS : BoolsAt w 0 w.heap.size ka kn kc ks)
    (hI : (∀ j, j < n → (fs.getD j (ByteArray.empty, [])).2.length ≤ 1048576) → ∀ (a1 : Option Addr) (c1 : Nat) (b1 : Option Addr) (d1 : Nat) (ka1 : Option Addr) (kc1 : Nat) (W : World) (A B : Nat), B ≤ W.heap.size → FilesAt W A B a1 n c1 fs → PendsAt W A B b1 m d1 ps → BoolsAt W A B ka1 kn kc1 ks → Calls Try.prog 9 #[.agg #[.slice a1 n c1, .slice b1 m d1, .int .i64 cp, .int .i64 fu, .bool de], .agg #[.slice ka1 kn kc1, .int .i64 tr, .int .i64 ta]] W fun e w' => DskAt W e w' gs cp2 fu2)
    (hS : (∀ j, j < n → (fs.getD j (ByteArray.empty, [])).2.length ≤ 1048576) → ∀ (a1 : Option Addr) (c1 : Nat) (b1 : Option Addr) (d1 : Nat) (ka1 : Option Addr) (kc1 : Nat) (W : World) (A B : Nat), B ≤ W.heap.size → FilesAt W A B a1 n c1 fs → PendsAt W A B b1 m d1 ps → BoolsAt W A B ka1 kn kc1 ks → Calls Try.prog 24 #[.agg #[.slice a1 n c1, .slice b1 m d1, .int .i64 cp, .int .i64 fu, .bool de], .agg #[.slice ka1 kn kc1, .int .i64 tr, .int .i64 ta]] W fun e w' => DskAt W e w' gs cp2 fu2)
    (hk : (n : Int) + wFiles fs + m + wPends ps ≤ 1048576 → kF 1 gs ≤ 1099511627776) :
    Calls Try.prog 5 #[.agg #[.slice a n c, .slice b m d, .int .i64 cp, .int .i64 fu, .bool de], .agg #[.slice ka kn kc, .int .i64 tr, .int .i64 ta]] w fun e w' => e = .returned (.bool true) ∧ Below w.heap.size w w' := by
  have HF : Hid (∀ W, Below w.heap.size w W → FilesAt W 0 w.heap.size a n c fs) := fun W hW => hF.below hW
  have HP : Hid (∀ W, Below w.heap.size w W → PendsAt W 0 w.heap.size b m d ps) := fun W hW => hP.below hW
  have HKS : Hid (∀ W, Below w.heap.size w W → BoolsAt W 0 w.heap.size ka kn kc ks) := fun W hW => hKS.below hW
  have HFL : Hid (fs.length = n) := hF.1
  have HPL : Hid (ps.length = m) := hP.1
  have HI : Hid ((∀ j, j < n → (fs.getD j (ByteArray.empty, [])).2.length ≤ 1048576) → ∀ (a1 : Option Addr) (c1 : Nat) (b1 : Option Addr) (d1 : Nat) (ka1 : Option Addr) (kc1 : Nat) (W : World) (A B : Nat), B ≤ W.heap.size → FilesAt W A B a1 n c1 fs → PendsAt W A B b1 m d1 ps → BoolsAt W A B ka1 kn kc1 ks → Calls Try.prog 9 #[.agg #[.slice a1 n c1, .slice b1 m d1, .int .i64 cp, .int .i64 fu, .bool de], .agg #[.slice ka1 kn kc1, .int .i64 tr, .int .i64 ta]] W fun e w' => DskAt W e w' gs cp2 fu2) := hI
  have HS : Hid ((∀ j, j < n → (fs.getD j (ByteArray.empty, [])).2.length ≤ 1048576) → ∀ (a1 : Option Addr) (c1 : Nat) (b1 : Option Addr) (d1 : Nat) (ka1 : Option Addr) (kc1 : Nat) (W : World) (A B : Nat), B ≤ W.heap.size → FilesAt W A B a1 n c1 fs → PendsAt W A B b1 m d1 ps → BoolsAt W A B ka1 kn kc1 ks → Calls Try.prog 24 #[.agg #[.slice a1 n c1, .slice b1 m d1, .int .i64 cp, .int .i64 fu, .bool de], .agg #[.slice ka1 kn kc1, .int .i64 tr, .int .i64 ta]] W fun e w' => DskAt W e w' gs cp2 fu2) := hS
  have HK : Hid ((n : Int) + wFiles fs + m + wPends ps ≤ 1048576 → kF 1 gs ≤ 1099511627776) := hk
  have hknc := hKS.2.1
  have hkc0 := hKS.2.2.1
  have hkn63 : kn ≤ maxLen := by omega
  clear hF hP hI hS hk hKS
  go_enter Try.func5, Try.ntmps5
  go_wp2_with fail
  have hb0 : Below w.heap.size w ((w.alloc (.cells #[.slice a n c, .slice b m d, .int .i64 cp, .int .i64 fu, .bool de] 44)).alloc (.cells #[.slice ka kn kc, .int .i64 tr, .int .i64 ta] 52)) := ((Below.refl _ _).alloc (Nat.le_refl _) _).alloc (by simp) _
  have A0 := heap_alloc_new w (.cells #[.slice a n c, .slice b m d, .int .i64 cp, .int .i64 fu, .bool de] 44)
  have A0' : ((w.alloc (.cells #[.slice a n c, .slice b m d, .int .i64 cp, .int .i64 fu, .bool de] 44)).alloc (.cells #[.slice ka kn kc, .int .i64 tr, .int .i64 ta] 52)).heap[w.heap.size]? = some (.cells #[.slice a n c, .slice b m d, .int .i64 cp, .int .i64 fu, .bool de] 44) := by rw [heap_alloc_old _ _ (by simp)]; exact A0
  have C0 : ((w.alloc (.cells #[.slice a n c, .slice b m d, .int .i64 cp, .int .i64 fu, .bool de] 44)).alloc (.cells #[.slice ka kn kc, .int .i64 tr, .int .i64 ta] 52)).heap[w.heap.size + 1]? = some (.cells #[.slice ka kn kc, .int .i64 tr, .int .i64 ta] 52) := by have := heap_alloc_new (w.alloc (.cells #[.slice a n c, .slice b m d, .int .i64 cp, .int .i64 fu, .bool de] 44)) (.cells #[.slice ka kn kc, .int .i64 tr, .int .i64 ta] 52); simpa using this
  have z0 : ((w.alloc (.cells #[.slice a n c, .slice b m d, .int .i64 cp, .int .i64 fu, .bool de] 44)).alloc (.cells #[.slice ka kn kc, .int .i64 tr, .int .i64 ta] 52)).heap.size = w.heap.size + 2 := by simp
  clear A0
  generalize ((w.alloc (.cells #[.slice a n c, .slice b m d, .int .i64 cp, .int .i64 fu, .bool de] 44)).alloc (.cells #[.slice ka kn kc, .int .i64 tr, .int .i64 ta] 52)) = W0 at hb0 A0' C0 z0 ⊢
  refine (szDisk_any _ _ _ fs _ _ _ ps _ _ _ _ W0 (by omega) (by omega) 0 w.heap.size (by omega) (HF.out _ hb0) (HP.out _ hb0)).mono ?_
  rintro e w1 ⟨r, rfl, hr, hb1⟩
  have g1 := hb0.trans (hb1.mono (by omega))
  have hz1 := hb1.size
  have A1 : Hid _ := box_below A0' hb1
  have C1 : Hid _ := box_below C0 hb1
  have l0 : w.heap.size < w1.heap.size := by omega
  have l1 : w.heap.size + 1 < w1.heap.size := by omega
  obtain ⟨c0, c1, c2⟩ := box_threeC C1.out
  clear hb0 hb1 A0' C0 z0 hz1
  by_cases t1 : r < 0
  · go_wp2_with fail
    go_ret
    exact ⟨rfl, g1⟩
  have hw := hr.2.2 (by omega)
  have hr2 := hr.2.1
  have hwf := wFiles_nonneg fs
  have hwp := wPends_nonneg ps
  have hn : n ≤ 1048576 := by omega
  have hm : m ≤ 1048576 := by omega
  have HA : Hid (∀ j, j < n → (fs.getD j (ByteArray.empty, [])).2.length ≤ 1048576) := fun j hj => by have := wFiles_get fs j (by rw [HFL.out]; exact hj); omega
  have HA2 : Hid (∀ j, j < m → (ps.getD j (ByteArray.empty, 0, [])).2.2.length ≤ 1048576) := fun j hj => by have := wPends_get ps j (by rw [HPL.out]; exact hj); omega
  have hk2 := HK.out (by omega)
  have hkx : kP (kF 1 fs) ps ≤ 4194304 := by
    have h1 := kF_bound 1 fs
    have h2 := kP_bound (kF 1 fs) ps
    rw [HFL.out] at h1
    rw [HPL.out] at h2
    omega
  clear hw hr hwf hwp HK
  go_wp2_with fail
  refine (szCrash_any _ _ _ _ _ _ w1 (by omega) (by omega) hkn63).mono ?_
  rintro e wS ⟨r2, rfl, hrr, hb2⟩
  have gS := g1.trans (hb2.mono g1.size)
  have hzS := hb2.size
  have AS : Hid _ := box_below A1.out hb2
  have CS : Hid _ := box_below C1.out hb2
  have l0' : w.heap.size < wS.heap.size := by omega
  have l1' : w.heap.size + 1 < wS.heap.size := by omega
  clear c0 c1 c2 A1 C1 hb2 g1 t1 l0 l1
  have l0 := l0'
  have l1 := l1'
  clear l0' l1'
  by_cases t2 : r2 < 0
  · go_wp2_with fail
    go_ret
    exact ⟨rfl, gS⟩
  have hkn : kn ≤ 1048576 := by have := hrr.2.2 (by omega); omega
  clear hrr hzS hr2
  obtain ⟨x0, x1, x2, x3, x4⟩ := box_fiveC AS.out
  obtain ⟨c0, c1, c2⟩ := box_threeC CS.out
  have HZS : Hid (∀ W, Below wS.heap.size wS W → Below w.heap.size w W) := fun W hW => gS.trans (hW.mono gS.size)
  have hSn : w.heap.size ≤ wS.heap.size := gS.size

  go_upto_region 8 with fail
  go_cut [6] from 14 (fun p wx => ∃ (Z lo : Nat) (a4 : Option Addr) (c4 : Nat), p = .pointer (some ⟨Z, 0, none⟩) ∧ Hid (Fin5 wS wx Z lo a4 c4 gs cp2 fu2))
  case first =>
    have BD : Below wS.heap.size wS wS.drew := bl_dr _
    refine wp_region_noPanic ?_
    refine wp_region_held_drew (S := (fun w' => Below wS.heap.size wS w')) (by kernel_rfl) ?_ (fun hHeld => ?_)
    · exact bl_dr _
    refine wpAnyH_take (i := 0) (oi := { dst := some 24, op := Op.load 44 (Operand.tmp 2), type := 44, pos := "exact.go:2455", after := #[], guard := none }) (v := .agg #[.slice a n c, .slice b m d, .int .i64 cp, .int .i64 fu, .bool de]) rfl (by kernel_rfl) (by kernel_rfl) (by kernel_rfl) (fun _ _ _ h => h) (Or.inl ⟨by rfl, ?_⟩) (by assumption) ?_
    · intro wq hSw; (try dsimp only at hSw); obtain ⟨b0, b1, b2, b3, b4⟩ := box_fiveC (box_below AS.out hSw); go_simp
    try simp only [Act.put, List.setIfInBounds_toArray, List.set_cons_zero, List.set_cons_succ]
    refine wpAnyH_take (i := 2) (oi := { dst := some 26, op := Op.load 52 (Operand.tmp 3), type := 52, pos := "exact.go:2455", after := #[], guard := none }) (v := .agg #[.slice ka kn kc, .int .i64 tr, .int .i64 ta]) rfl (by kernel_rfl) (by kernel_rfl) (by kernel_rfl) (fun _ _ _ h => h) (Or.inl ⟨by rfl, ?_⟩) (by assumption) ?_
    · intro wq hSw; (try dsimp only at hSw); obtain ⟨b0, b1, b2⟩ := box_threeC (box_below CS.out hSw); go_simp
    try simp only [Act.put, List.setIfInBounds_toArray, List.set_cons_zero, List.set_cons_succ]
    refine wpAnyH_ready (rs := [1, 5]) (by kernel_rfl) (by simp) ?_
    refine AllReadyH.cons (o := { dst := some 25, op := Op.call { callee := Callee.value (Operand.func 17), args := #[Operand.tmp 24], argTypes := #[44] }, type := 26, pos := "exact.go:2455", after := #[{ on := 0, ground := Ground.data }], guard := none }) rfl (fun K hK => ?_) ?_
    rotate_left 1
    refine AllReadyH.cons (o := { dst := some 6, op := Op.alloc 26, type := 0, pos := "exact.go:2455", after := #[], guard := none }) rfl (fun K hK => ?_) ?_
    rotate_left 1
    exact AllReadyH.nil
    · go_simp
      refine (toDisk_z _ _ _ fs _ _ _ ps _ _ _ wS.drew 0 w.heap.size (HZS.out _ BD).size (HF.out _ (HZS.out _ BD)) (HP.out _ (HZS.out _ BD)) hn hm HA.out HA2.out).mono ?_
      rintro e w2 ⟨ga2, gb2, rfl, zz2, hb2⟩
      have hoz : wS.heap.size ≤ _ := BD.size
      have Bd : Below wS.heap.size wS w2 := BD.trans (hb2.mono BD.size)
      go_wp2_with fail
      refine hK.out _ _ Bd (fun hHeld => ?_)
      clear hK K
      try simp only [Act.put, List.setIfInBounds_toArray, List.set_cons_zero, List.set_cons_succ]
      refine wpAnyH_ready (rs := [3, 5]) (by kernel_rfl) (by simp) ?_
      refine AllReadyH.cons (o := { dst := some 27, op := Op.call { callee := Callee.value (Operand.func 25), args := #[Operand.tmp 26], argTypes := #[52] }, type := 34, pos := "exact.go:2455", after := #[{ on := 2, ground := Ground.data }, { on := 1, ground := Ground.chain }], guard := none }) rfl (fun K hK => ?_) ?_
      rotate_left 1
      refine AllReadyH.cons (o := { dst := some 6, op := Op.alloc 26, type := 0, pos := "exact.go:2455", after := #[], guard := none }) rfl (fun K hK => ?_) ?_
      rotate_left 1
      exact AllReadyH.nil
      · go_simp
        refine (toCrash_own tr ta _ _ _ ks w2 0 w.heap.size (HZS.out _ Bd).size (HKS.out _ (HZS.out _ Bd)) hkn).mono ?_
        rintro e w3 ⟨gk3, rfl, yy3, hb3⟩
        have hoy : wS.heap.size ≤ _ := Bd.size
        have zc := zz2.below hb3
        have Bc : Below wS.heap.size wS w3 := Bd.trans (hb3.mono Bd.size)
        go_wp2_with fail
        refine hK.out _ _ Bc (fun hHeld => ?_)
        clear hK K
        try simp only [Act.put, List.setIfInBounds_toArray, List.set_cons_zero, List.set_cons_succ]
        refine wpAnyH_ready (rs := [4, 5]) (by kernel_rfl) (by simp) ?_
        refine AllReadyH.cons (o := { dst := some 28, op := Op.call { callee := Callee.value (Operand.func 24), args := #[Operand.tmp 25, Operand.tmp 27], argTypes := #[26, 34] }, type := 26, pos := "exact.go:2455", after := #[{ on := 1, ground := Ground.data }, { on := 3, ground := Ground.data }, { on := 3, ground := Ground.chain }], guard := none }) rfl (fun K hK => ?_) ?_
        rotate_left 1
        refine AllReadyH.cons (o := { dst := some 6, op := Op.alloc 26, type := 0, pos := "exact.go:2455", after := #[], guard := none }) rfl (fun K hK => ?_) ?_
        rotate_left 1
        exact AllReadyH.nil
        · go_simp
          refine (HS.out HA.out _ _ _ _ _ _ w3 wS.heap.size w3.heap.size (Nat.le_refl _) (zc.files.up hoz (Nat.le_refl _)) (zc.pends.up hoz (Nat.le_refl _)) (yy3.bools.up hoy (Nat.le_refl _))).mono ?_
          rintro e w4 hR4
          obtain ⟨a4, c4, rfl, qq4, hb4⟩ := hR4.ex
          have hoq : wS.heap.size ≤ w3.heap.size := Bc.size
          clear hR4
          have zr := zc.below hb4
          have yr := yy3.below hb4
          have Br : Below wS.heap.size wS w4 := Bc.trans (hb4.mono Bc.size)
          go_wp2_with fail
          refine hK.out _ _ Br (fun hHeld => ?_)
          clear hK K
          try simp only [Act.put, List.setIfInBounds_toArray, List.set_cons_zero, List.set_cons_succ]
          refine wpAnyH_ready (rs := [5]) (by kernel_rfl) (by simp) ?_
          refine AllReadyH.cons (o := { dst := some 6, op := Op.alloc 26, type := 0, pos := "exact.go:2455", after := #[], guard := none }) rfl (fun K hK => ?_) ?_
          rotate_left 1
          exact AllReadyH.nil
          · have hal := bl_al (w := w4) (.cells #[.slice none 0 0, .slice none 0 0, .int .i64 0, .int .i64 0, .bool false] 26)
            have Zba : (w4.alloc (.cells #[.slice none 0 0, .slice none 0 0, .int .i64 0, .int .i64 0, .bool false] 26)).heap[w4.heap.size]? = some (.cells #[.slice none 0 0, .slice none 0 0, .int .i64 0, .int .i64 0, .bool false] 26) := heap_alloc_new w4 (.cells #[.slice none 0 0, .slice none 0 0, .int .i64 0, .int .i64 0, .bool false] 26)
            have hzw : wS.heap.size ≤ w4.heap.size := Br.size
            have za := zr.below hal
            have ya := yr.below hal
            have qa := qq4.below hal
            have Ba : Below wS.heap.size wS (w4.alloc (.cells #[.slice none 0 0, .slice none 0 0, .int .i64 0, .int .i64 0, .bool false] 26)) := Br.trans (hal.mono Br.size)
            have hzl := hal.size
            go_simp
            refine hK.out _ _ Ba (fun hHeld => ?_)
            generalize (w4.alloc (.cells #[.slice none 0 0, .slice none 0 0, .int .i64 0, .int .i64 0, .bool false] 26)) = wz at za ya qa Zba Ba hzl ⊢
            clear hK K
            try simp only [Act.put, List.setIfInBounds_toArray, List.set_cons_zero, List.set_cons_succ]
            refine wpAnyH_ready (rs := [6]) (by kernel_rfl) (by simp) ?_
            refine AllReadyH.cons (o := { dst := none, op := Op.store 26 (Operand.tmp 6) (Operand.tmp 28), type := 0, pos := "exact.go:2455", after := #[{ on := 5, ground := Ground.data }, { on := 4, ground := Ground.data }, { on := 4, ground := Ground.chain }, { on := 0, ground := Ground.phase }, { on := 1, ground := Ground.phase }, { on := 2, ground := Ground.phase }, { on := 3, ground := Ground.phase }, { on := 4, ground := Ground.phase }, { on := 5, ground := Ground.phase }], guard := none }) rfl (fun K hK => ?_) ?_
            rotate_left 1
            exact AllReadyH.nil
            · obtain ⟨v0, v1, v2, v3, v4⟩ := box_fiveC Zba
              have fz := box_thawC Zba
              have lz := box_lt Zba
              have fin := fin_put2 (cp2 := cp2) (fu2 := fu2) (hi := w4.heap.size) Ba Zba hzw hoq (.inr (Nat.le_refl _)) (hzl) qa
              have FB := fin.bel
              go_simp
              clear v0 v1 v2 v3 v4 fz lz
              refine hK.out _ _ FB (fun hHeld => ?_)
              clear hK K
              try simp only [Act.put, List.setIfInBounds_toArray, List.set_cons_zero, List.set_cons_succ]
              refine wpAnyH_done (by kernel_rfl) ?_ _
              refine NoPanic.normal ?_
              go_wp2_with fail
              go_meet
              exact ⟨_, _, a4, c4, rfl, fin⟩
        · have hal := bl_al (w := w3) (.cells #[.slice none 0 0, .slice none 0 0, .int .i64 0, .int .i64 0, .bool false] 26)
          have Zba : (w3.alloc (.cells #[.slice none 0 0, .slice none 0 0, .int .i64 0, .int .i64 0, .bool false] 26)).heap[w3.heap.size]? = some (.cells #[.slice none 0 0, .slice none 0 0, .int .i64 0, .int .i64 0, .bool false] 26) := heap_alloc_new w3 (.cells #[.slice none 0 0, .slice none 0 0, .int .i64 0, .int .i64 0, .bool false] 26)
          have hzw : wS.heap.size ≤ w3.heap.size := Bc.size
          have za := zc.below hal
          have ya := yy3.below hal
          have Ba : Below wS.heap.size wS (w3.alloc (.cells #[.slice none 0 0, .slice none 0 0, .int .i64 0, .int .i64 0, .bool false] 26)) := Bc.trans (hal.mono Bc.size)
          go_simp
          refine hK.out _ _ Ba (fun hHeld => ?_)
          generalize (w3.alloc (.cells #[.slice none 0 0, .slice none 0 0, .int .i64 0, .int .i64 0, .bool false] 26)) = wz at za ya Zba Ba  ⊢
          clear hK K
          try simp only [Act.put, List.setIfInBounds_toArray, List.set_cons_zero, List.set_cons_succ]
          refine wpAnyH_ready (rs := [4]) (by kernel_rfl) (by simp) ?_
          refine AllReadyH.cons (o := { dst := some 28, op := Op.call { callee := Callee.value (Operand.func 24), args := #[Operand.tmp 25, Operand.tmp 27], argTypes := #[26, 34] }, type := 26, pos := "exact.go:2455", after := #[{ on := 1, ground := Ground.data }, { on := 3, ground := Ground.data }, { on := 3, ground := Ground.chain }], guard := none }) rfl (fun K hK => ?_) ?_
          rotate_left 1
          exact AllReadyH.nil
          · go_simp
            refine (HS.out HA.out _ _ _ _ _ _ wz wS.heap.size wz.heap.size (Nat.le_refl _) (za.files.up hoz (Nat.le_refl _)) (za.pends.up hoz (Nat.le_refl _)) (ya.bools.up hoy (Nat.le_refl _))).mono ?_
            rintro e w4 hR4
            obtain ⟨a4, c4, rfl, qq4, hb4⟩ := hR4.ex
            have hoq : wS.heap.size ≤ wz.heap.size := Ba.size
            have hzl := box_lt Zba
            clear hR4
            have zr := za.below hb4
            have yr := ya.below hb4
            have Zbr := box_below Zba hb4
            have Br : Below wS.heap.size wS w4 := Ba.trans (hb4.mono Ba.size)
            go_wp2_with fail
            refine hK.out _ _ Br (fun hHeld => ?_)
            clear hK K
            try simp only [Act.put, List.setIfInBounds_toArray, List.set_cons_zero, List.set_cons_succ]
            refine wpAnyH_ready (rs := [6]) (by kernel_rfl) (by simp) ?_
            refine AllReadyH.cons (o := { dst := none, op := Op.store 26 (Operand.tmp 6) (Operand.tmp 28), type := 0, pos := "exact.go:2455", after := #[{ on := 5, ground := Ground.data }, { on := 4, ground := Ground.data }, { on := 4, ground := Ground.chain }, { on := 0, ground := Ground.phase }, { on := 1, ground := Ground.phase }, { on := 2, ground := Ground.phase }, { on := 3, ground := Ground.phase }, { on := 4, ground := Ground.phase }, { on := 5, ground := Ground.phase }], guard := none }) rfl (fun K hK => ?_) ?_
            rotate_left 1
            exact AllReadyH.nil
            · obtain ⟨v0, v1, v2, v3, v4⟩ := box_fiveC Zbr
              have fz := box_thawC Zbr
              have lz := box_lt Zbr
              have fin := fin_put2 (cp2 := cp2) (fu2 := fu2) (hi := w4.heap.size) Br Zbr hzw hoq (.inl hzl) (Nat.le_refl _) qq4
              have FB := fin.bel
              go_simp
              clear v0 v1 v2 v3 v4 fz lz
              refine hK.out _ _ FB (fun hHeld => ?_)
              clear hK K
              try simp only [Act.put, List.setIfInBounds_toArray, List.set_cons_zero, List.set_cons_succ]
              refine wpAnyH_done (by kernel_rfl) ?_ _
              refine NoPanic.normal ?_
              go_wp2_with fail
              go_meet
              exact ⟨_, _, a4, c4, rfl, fin⟩
      · have hal := bl_al (w := w2) (.cells #[.slice none 0 0, .slice none 0 0, .int .i64 0, .int .i64 0, .bool false] 26)
        have Zba : (w2.alloc (.cells #[.slice none 0 0, .slice none 0 0, .int .i64 0, .int .i64 0, .bool false] 26)).heap[w2.heap.size]? = some (.cells #[.slice none 0 0, .slice none 0 0, .int .i64 0, .int .i64 0, .bool false] 26) := heap_alloc_new w2 (.cells #[.slice none 0 0, .slice none 0 0, .int .i64 0, .int .i64 0, .bool false] 26)
        have hzw : wS.heap.size ≤ w2.heap.size := Bd.size
        have za := zz2.below hal
        have Ba : Below wS.heap.size wS (w2.alloc (.cells #[.slice none 0 0, .slice none 0 0, .int .i64 0, .int .i64 0, .bool false] 26)) := Bd.trans (hal.mono Bd.size)
        go_simp
        refine hK.out _ _ Ba (fun hHeld => ?_)
        generalize (w2.alloc (.cells #[.slice none 0 0, .slice none 0 0, .int .i64 0, .int .i64 0, .bool false] 26)) = wz at za Zba Ba  ⊢
        clear hK K
        try simp only [Act.put, List.setIfInBounds_toArray, List.set_cons_zero, List.set_cons_succ]
        refine wpAnyH_ready (rs := [3]) (by kernel_rfl) (by simp) ?_
        refine AllReadyH.cons (o := { dst := some 27, op := Op.call { callee := Callee.value (Operand.func 25), args := #[Operand.tmp 26], argTypes := #[52] }, type := 34, pos := "exact.go:2455", after := #[{ on := 2, ground := Ground.data }, { on := 1, ground := Ground.chain }], guard := none }) rfl (fun K hK => ?_) ?_
        rotate_left 1
        exact AllReadyH.nil
        · go_simp
          refine (toCrash_own tr ta _ _ _ ks wz 0 w.heap.size (HZS.out _ Ba).size (HKS.out _ (HZS.out _ Ba)) hkn).mono ?_
          rintro e w3 ⟨gk3, rfl, yy3, hb3⟩
          have hoy : wS.heap.size ≤ _ := Ba.size
          have zc := za.below hb3
          have Zbc := box_below Zba hb3
          have Bc : Below wS.heap.size wS w3 := Ba.trans (hb3.mono Ba.size)
          go_wp2_with fail
          refine hK.out _ _ Bc (fun hHeld => ?_)
          clear hK K
          try simp only [Act.put, List.setIfInBounds_toArray, List.set_cons_zero, List.set_cons_succ]
          refine wpAnyH_ready (rs := [4]) (by kernel_rfl) (by simp) ?_
          refine AllReadyH.cons (o := { dst := some 28, op := Op.call { callee := Callee.value (Operand.func 24), args := #[Operand.tmp 25, Operand.tmp 27], argTypes := #[26, 34] }, type := 26, pos := "exact.go:2455", after := #[{ on := 1, ground := Ground.data }, { on := 3, ground := Ground.data }, { on := 3, ground := Ground.chain }], guard := none }) rfl (fun K hK => ?_) ?_
          rotate_left 1
          exact AllReadyH.nil
          · go_simp
            refine (HS.out HA.out _ _ _ _ _ _ w3 wS.heap.size w3.heap.size (Nat.le_refl _) (zc.files.up hoz (Nat.le_refl _)) (zc.pends.up hoz (Nat.le_refl _)) (yy3.bools.up hoy (Nat.le_refl _))).mono ?_
            rintro e w4 hR4
            obtain ⟨a4, c4, rfl, qq4, hb4⟩ := hR4.ex
            have hoq : wS.heap.size ≤ w3.heap.size := Bc.size
            have hzl := box_lt Zbc
            clear hR4
            have zr := zc.below hb4
            have yr := yy3.below hb4
            have Zbr := box_below Zbc hb4
            have Br : Below wS.heap.size wS w4 := Bc.trans (hb4.mono Bc.size)
            go_wp2_with fail
            refine hK.out _ _ Br (fun hHeld => ?_)
            clear hK K
            try simp only [Act.put, List.setIfInBounds_toArray, List.set_cons_zero, List.set_cons_succ]
            refine wpAnyH_ready (rs := [6]) (by kernel_rfl) (by simp) ?_
            refine AllReadyH.cons (o := { dst := none, op := Op.store 26 (Operand.tmp 6) (Operand.tmp 28), type := 0, pos := "exact.go:2455", after := #[{ on := 5, ground := Ground.data }, { on := 4, ground := Ground.data }, { on := 4, ground := Ground.chain }, { on := 0, ground := Ground.phase }, { on := 1, ground := Ground.phase }, { on := 2, ground := Ground.phase }, { on := 3, ground := Ground.phase }, { on := 4, ground := Ground.phase }, { on := 5, ground := Ground.phase }], guard := none }) rfl (fun K hK => ?_) ?_
            rotate_left 1
            exact AllReadyH.nil
            · obtain ⟨v0, v1, v2, v3, v4⟩ := box_fiveC Zbr
              have fz := box_thawC Zbr
              have lz := box_lt Zbr
              have fin := fin_put2 (cp2 := cp2) (fu2 := fu2) (hi := w4.heap.size) Br Zbr hzw hoq (.inl hzl) (Nat.le_refl _) qq4
              have FB := fin.bel
              go_simp
              clear v0 v1 v2 v3 v4 fz lz
              refine hK.out _ _ FB (fun hHeld => ?_)
              clear hK K
              try simp only [Act.put, List.setIfInBounds_toArray, List.set_cons_zero, List.set_cons_succ]
              refine wpAnyH_done (by kernel_rfl) ?_ _
              refine NoPanic.normal ?_
              go_wp2_with fail
              go_meet
              exact ⟨_, _, a4, c4, rfl, fin⟩
    · have Ba : Below wS.heap.size wS (wS.alloc (.cells #[.slice none 0 0, .slice none 0 0, .int .i64 0, .int .i64 0, .bool false] 26)).drew := (bl_al (w := wS) (.cells #[.slice none 0 0, .slice none 0 0, .int .i64 0, .int .i64 0, .bool false] 26)).drew
      have Zba : (wS.alloc (.cells #[.slice none 0 0, .slice none 0 0, .int .i64 0, .int .i64 0, .bool false] 26)).drew.heap[wS.heap.size]? = some (.cells #[.slice none 0 0, .slice none 0 0, .int .i64 0, .int .i64 0, .bool false] 26) := heap_alloc_new wS (.cells #[.slice none 0 0, .slice none 0 0, .int .i64 0, .int .i64 0, .bool false] 26)
      have hzw : wS.heap.size ≤ wS.heap.size := Nat.le_refl _
      go_simp
      refine hK.out _ _ Ba (fun hHeld => ?_)
      generalize (wS.alloc (.cells #[.slice none 0 0, .slice none 0 0, .int .i64 0, .int .i64 0, .bool false] 26)).drew = wz at Zba Ba  ⊢
      clear hK K
      try simp only [Act.put, List.setIfInBounds_toArray, List.set_cons_zero, List.set_cons_succ]
      refine wpAnyH_ready (rs := [1]) (by kernel_rfl) (by simp) ?_
      refine AllReadyH.cons (o := { dst := some 25, op := Op.call { callee := Callee.value (Operand.func 17), args := #[Operand.tmp 24], argTypes := #[44] }, type := 26, pos := "exact.go:2455", after := #[{ on := 0, ground := Ground.data }], guard := none }) rfl (fun K hK => ?_) ?_
      rotate_left 1
      exact AllReadyH.nil
      · go_simp
        refine (toDisk_z _ _ _ fs _ _ _ ps _ _ _ wz 0 w.heap.size (HZS.out _ Ba).size (HF.out _ (HZS.out _ Ba)) (HP.out _ (HZS.out _ Ba)) hn hm HA.out HA2.out).mono ?_
        rintro e w2 ⟨ga2, gb2, rfl, zz2, hb2⟩
        have hoz : wS.heap.size ≤ _ := Ba.size
        have Zbd := box_below Zba hb2
        have Bd : Below wS.heap.size wS w2 := Ba.trans (hb2.mono Ba.size)
        go_wp2_with fail
        refine hK.out _ _ Bd (fun hHeld => ?_)
        clear hK K
        try simp only [Act.put, List.setIfInBounds_toArray, List.set_cons_zero, List.set_cons_succ]
        refine wpAnyH_ready (rs := [3]) (by kernel_rfl) (by simp) ?_
        refine AllReadyH.cons (o := { dst := some 27, op := Op.call { callee := Callee.value (Operand.func 25), args := #[Operand.tmp 26], argTypes := #[52] }, type := 34, pos := "exact.go:2455", after := #[{ on := 2, ground := Ground.data }, { on := 1, ground := Ground.chain }], guard := none }) rfl (fun K hK => ?_) ?_
        rotate_left 1
        exact AllReadyH.nil
        · go_simp
          refine (toCrash_own tr ta _ _ _ ks w2 0 w.heap.size (HZS.out _ Bd).size (HKS.out _ (HZS.out _ Bd)) hkn).mono ?_
          rintro e w3 ⟨gk3, rfl, yy3, hb3⟩
          have hoy : wS.heap.size ≤ _ := Bd.size
          have zc := zz2.below hb3
          have Zbc := box_below Zbd hb3
          have Bc : Below wS.heap.size wS w3 := Bd.trans (hb3.mono Bd.size)
          go_wp2_with fail
          refine hK.out _ _ Bc (fun hHeld => ?_)
          clear hK K
          try simp only [Act.put, List.setIfInBounds_toArray, List.set_cons_zero, List.set_cons_succ]
          refine wpAnyH_ready (rs := [4]) (by kernel_rfl) (by simp) ?_
          refine AllReadyH.cons (o := { dst := some 28, op := Op.call { callee := Callee.value (Operand.func 24), args := #[Operand.tmp 25, Operand.tmp 27], argTypes := #[26, 34] }, type := 26, pos := "exact.go:2455", after := #[{ on := 1, ground := Ground.data }, { on := 3, ground := Ground.data }, { on := 3, ground := Ground.chain }], guard := none }) rfl (fun K hK => ?_) ?_
          rotate_left 1
          exact AllReadyH.nil
          · go_simp
            refine (HS.out HA.out _ _ _ _ _ _ w3 wS.heap.size w3.heap.size (Nat.le_refl _) (zc.files.up hoz (Nat.le_refl _)) (zc.pends.up hoz (Nat.le_refl _)) (yy3.bools.up hoy (Nat.le_refl _))).mono ?_
            rintro e w4 hR4
            obtain ⟨a4, c4, rfl, qq4, hb4⟩ := hR4.ex
            have hoq : wS.heap.size ≤ w3.heap.size := Bc.size
            have hzl := box_lt Zbc
            clear hR4
            have zr := zc.below hb4
            have yr := yy3.below hb4
            have Zbr := box_below Zbc hb4
            have Br : Below wS.heap.size wS w4 := Bc.trans (hb4.mono Bc.size)
            go_wp2_with fail
            refine hK.out _ _ Br (fun hHeld => ?_)
            clear hK K
            try simp only [Act.put, List.setIfInBounds_toArray, List.set_cons_zero, List.set_cons_succ]
            refine wpAnyH_ready (rs := [6]) (by kernel_rfl) (by simp) ?_
            refine AllReadyH.cons (o := { dst := none, op := Op.store 26 (Operand.tmp 6) (Operand.tmp 28), type := 0, pos := "exact.go:2455", after := #[{ on := 5, ground := Ground.data }, { on := 4, ground := Ground.data }, { on := 4, ground := Ground.chain }, { on := 0, ground := Ground.phase }, { on := 1, ground := Ground.phase }, { on := 2, ground := Ground.phase }, { on := 3, ground := Ground.phase }, { on := 4, ground := Ground.phase }, { on := 5, ground := Ground.phase }], guard := none }) rfl (fun K hK => ?_) ?_
            rotate_left 1
            exact AllReadyH.nil
            · obtain ⟨v0, v1, v2, v3, v4⟩ := box_fiveC Zbr
              have fz := box_thawC Zbr
              have lz := box_lt Zbr
              have fin := fin_put2 (cp2 := cp2) (fu2 := fu2) (hi := w4.heap.size) Br Zbr hzw hoq (.inl hzl) (Nat.le_refl _) qq4
              have FB := fin.bel
              go_simp
              clear v0 v1 v2 v3 v4 fz lz
              refine hK.out _ _ FB (fun hHeld => ?_)
              clear hK K
              try simp only [Act.put, List.setIfInBounds_toArray, List.set_cons_zero, List.set_cons_succ]
              refine wpAnyH_done (by kernel_rfl) ?_ _
              refine NoPanic.normal ?_
              go_wp2_with fail
              go_meet
              exact ⟨_, _, a4, c4, rfl, fin⟩
  case rest =>
    obtain ⟨w5, hw5⟩ : ∃ x, x = wc := ⟨_, rfl⟩
    subst hw5
    obtain ⟨Z0, lo0, a4, c4, rfl, HF5⟩ := hcut
    have B5 := HF5.out.bel
    have g5 := HZS.out _ B5
    have A5 : Hid _ := box_below AS.out B5
    have C5 : Hid _ := box_below CS.out B5
    have X5 : Hid _ := HF5.out.bx
    have y5 := HF5.out.zone
    have s5 := B5.size
    have hZ0 := box_lt X5.out
    clear x0 x1 x2 x3 x4 c0 c1 c2 HF5 HS HZS AS CS B5
    obtain ⟨x0, x1, x2, x3, x4⟩ := box_fiveC A5.out
    obtain ⟨c0, c1, c2⟩ := box_threeC C5.out
    have l5 : w.heap.size + 1 < w5.heap.size := by omega
    have m5 : w.heap.size < w5.heap.size := by omega
    clear l0 l1 hSn gS
    go_wp2_with fail
    refine (toDisk_z _ _ _ fs _ _ _ ps _ _ _ w5 0 w.heap.size g5.size (HF.out _ g5) (HP.out _ g5) hn hm HA.out HA2.out).mono ?_
    rintro e w6 ⟨ga6, gb6, rfl, z6, hb6⟩
    clear x0 x1 x2 x3 x4 c0 c1 c2
    have A6 : Hid _ := box_below A5.out hb6
    have C6 : Hid _ := box_below C5.out hb6
    have X6 : Hid _ := box_below X5.out hb6
    have y6 := y5.below hb6
    have g6 := g5.trans (hb6.mono g5.size)
    have s6 := hb6.size
    clear A5 C5 X5 y5 g5 hb6
    obtain ⟨c0, c1, c2⟩ := box_threeC C6.out
    have l6 : w.heap.size + 1 < w6.heap.size := by omega
    go_wp2_with fail
    clear c0 c1 c2
    have hal := bl_al (w := w6) (.cells #[.slice (some ⟨ga6, 0, none⟩) n n, .slice (some ⟨gb6, 0, none⟩) m m, .int .i64 cp, .int .i64 fu, .bool de] 26)
    have Yn : Hid _ := heap_alloc_new w6 (.cells #[.slice (some ⟨ga6, 0, none⟩) n n, .slice (some ⟨gb6, 0, none⟩) m m, .int .i64 cp, .int .i64 fu, .bool de] 26)
    have A7 : Hid _ := box_below A6.out hal
    have C7 : Hid _ := box_below C6.out hal
    have X7 : Hid _ := box_below X6.out hal
    have y7 := y6.below hal
    have z7 := z6.below hal
    have g7 := g6.trans (hal.mono g6.size)
    have s7 := hal.size
    clear A6 C6 X6 y6 z6 g6 hal
    generalize hgen : w6.alloc (.cells #[.slice (some ⟨ga6, 0, none⟩) n n, .slice (some ⟨gb6, 0, none⟩) m m, .int .i64 cp, .int .i64 fu, .bool de] 26) = w7 at Yn s7 g7 A7 C7 X7 y7 z7 ⊢
    clear hgen
    have Y7 : Hid _ := Yn.out
    clear Yn
    have t7 := box_lt Y7.out
    refine (toCrash_own tr ta _ _ _ ks w7 0 w.heap.size g7.size (HKS.out _ g7) hkn).mono ?_
    rintro e w8 ⟨gk8, rfl, r8, hb8⟩
    have A8 : Hid _ := box_below A7.out hb8
    have C8 : Hid _ := box_below C7.out hb8
    have X8 : Hid _ := box_below X7.out hb8
    have Y8 : Hid _ := box_below Y7.out hb8
    have y8 := y7.below hb8
    have z8 := z7.below hb8
    have g8 := g7.trans (hb8.mono g7.size)
    have s8 := hb8.size
    clear A7 C7 X7 Y7 y7 z7 g7 hb8
    obtain ⟨y0, y1, y2, y3, y4⟩ := box_fiveC Y8.out
    have l8 : w6.heap.size < w8.heap.size := by omega
    go_wp2_with fail
    clear y0 y1 y2 y3 y4
    have hal := bl_al (w := w8) (.cells #[.slice (some ⟨gk8, 0, none⟩) kn kn, .int .i64 tr, .int .i64 ta] 34)
    have Vn : Hid _ := heap_alloc_new w8 (.cells #[.slice (some ⟨gk8, 0, none⟩) kn kn, .int .i64 tr, .int .i64 ta] 34)
    have A9 : Hid _ := box_below A8.out hal
    have C9 : Hid _ := box_below C8.out hal
    have X9 : Hid _ := box_below X8.out hal
    have Y9 : Hid _ := box_below Y8.out hal
    have y9 := y8.below hal
    have z9 := z8.below hal
    have r9 := r8.below hal
    have g9 := g8.trans (hal.mono g8.size)
    have s9 := hal.size
    clear A8 C8 X8 Y8 y8 z8 r8 g8 hal
    generalize hgen : w8.alloc (.cells #[.slice (some ⟨gk8, 0, none⟩) kn kn, .int .i64 tr, .int .i64 ta] 34) = w9 at Vn s9 g9 A9 C9 X9 Y9 y9 z9 r9 ⊢
    clear hgen
    have V9 : Hid _ := Vn.out
    clear Vn
    have t9 := box_lt V9.out
    refine (HI.out HA.out _ _ _ _ _ _ w9 w5.heap.size w9.heap.size (Nat.le_refl _) z9.files z9.pends (r9.bools.up (by omega) (Nat.le_refl _))).mono ?_
    rintro e w10 hR10
    obtain ⟨a10, c10, rfl, q10, hb10⟩ := hR10.ex
    clear hR10
    have A10 : Hid _ := box_below A9.out hb10
    have C10 : Hid _ := box_below C9.out hb10
    have X10 : Hid _ := box_below X9.out hb10
    have Y10 : Hid _ := box_below Y9.out hb10
    have V10 : Hid _ := box_below V9.out hb10
    have y10 := y9.below hb10
    have z10 := z9.below hb10
    have r10 := r9.below hb10
    have g10 := g9.trans (hb10.mono g9.size)
    have s10 := hb10.size
    clear A9 C9 X9 Y9 V9 y9 z9 r9 g9 hb10
    obtain ⟨x0, x1, x2, x3, x4⟩ := box_fiveC X10.out
    have l10 : Z0 < w10.heap.size := by omega
    go_wp2_with fail
    clear x0 x1 x2 x3 x4
    have hal := bl_al (w := w10) (.cells #[.slice a10 gs.length c10, .slice none 0 0, .int .i64 cp2, .int .i64 fu2, .bool false] 26)
    have Gn : Hid _ := heap_alloc_new w10 (.cells #[.slice a10 gs.length c10, .slice none 0 0, .int .i64 cp2, .int .i64 fu2, .bool false] 26)
    have A11 : Hid _ := box_below A10.out hal
    have C11 : Hid _ := box_below C10.out hal
    have X11 : Hid _ := box_below X10.out hal
    have Y11 : Hid _ := box_below Y10.out hal
    have V11 : Hid _ := box_below V10.out hal
    have y11 := y10.below hal
    have z11 := z10.below hal
    have r11 := r10.below hal
    have q11 := q10.below hal
    have g11 := g10.trans (hal.mono g10.size)
    have s11 := hal.size
    clear A10 C10 X10 Y10 V10 y10 z10 r10 q10 g10 hal
    generalize hgen : w10.alloc (.cells #[.slice a10 gs.length c10, .slice none 0 0, .int .i64 cp2, .int .i64 fu2, .bool false] 26) = w11 at Gn s11 g11 A11 C11 X11 Y11 V11 y11 z11 r11 q11 ⊢
    clear hgen
    have G11 : Hid _ := Gn.out
    clear Gn
    have t11 := box_lt G11.out
    refine (eqDisk_same _ _ _ gs _ _ _ [] _ _ _ _ cp2 fu2 false w11 _ _ _ _ (Nat.le_refl _) (Nat.le_refl _) q11.files q11.pends y11.files y11.pends).mono ?_
    rintro e w12 ⟨rfl, hb12⟩
    have A12 : Hid _ := box_below A11.out hb12
    have C12 : Hid _ := box_below C11.out hb12
    have X12 : Hid _ := box_below X11.out hb12
    have Y12 : Hid _ := box_below Y11.out hb12
    have V12 : Hid _ := box_below V11.out hb12
    have G12 : Hid _ := box_below G11.out hb12
    have y12 := y11.below hb12
    have z12 := z11.below hb12
    have r12 := r11.below hb12
    have q12 := q11.below hb12
    have g12 := g11.trans (hb12.mono g11.size)
    have s12 := hb12.size
    clear A11 C11 X11 Y11 V11 G11 y11 z11 r11 q11 g11 hb12
    obtain ⟨x0, x1, x2, x3, x4⟩ := box_fiveC A12.out
    obtain ⟨y0, y1, y2, y3, y4⟩ := box_fiveC Y12.out
    have l12 : w.heap.size < w12.heap.size := by omega
    have m12 : w6.heap.size < w12.heap.size := by omega
    have hFd : FilesAt w12.drew 0 w.heap.size a n c fs := HF.out _ g12.drew
    have hPd : PendsAt w12.drew 0 w.heap.size b m d ps := HP.out _ g12.drew
    go_upto_region 14 with fail
    go_cut [44] from 14 (fun v wx => v = .bool false ∧ Hid (Below w12.heap.size w12 wx))
    case first =>
      go_region_with (first | (go_at_call 17; refine (toDisk_z _ _ _ fs _ _ _ ps _ _ _ w12.drew 0 w.heap.size g12.size hFd hPd hn hm HA.out HA2.out).mono ?_; rintro e w13 ⟨ge, gf, rfl, v13, hb13⟩; have hb13' : Below w12.heap.size w12 w13 := (bl_dr _).trans hb13; obtain ⟨u0, u1, u2, u3, u4⟩ := box_fiveC (box_below Y12.out hb13'); have l13 := Nat.lt_of_lt_of_le m12 hb13'.size) | (go_at_call 19; refine (eqDisk_same _ _ _ fs _ _ _ ps _ _ _ _ _ _ _ w13 w5.heap.size w13.heap.size w12.drew.heap.size w13.heap.size (Nat.le_refl _) (Nat.le_refl _) ?_ ?_ v13.files v13.pends).mono ?_; exact (z12.below hb13').files; exact (z12.below hb13').pends; rintro e w14 ⟨rfl, hb14⟩))
      all_goals
        go_wp2_with fail
        go_meet
        exact ⟨rfl, hb13'.trans (hb14.mono hb13'.size)⟩
    case rest =>
      obtain ⟨w14, hw14⟩ : ∃ x, x = wc := ⟨_, rfl⟩
      subst hw14
      obtain ⟨rfl, HB14⟩ := hcut
      have hb14 := HB14.out
      clear x0 x1 x2 x3 x4 y0 y1 y2 y3 y4 hFd hPd HB14
      have A14 : Hid _ := box_below A12.out hb14
      have C14 : Hid _ := box_below C12.out hb14
      have X14 : Hid _ := box_below X12.out hb14
      have Y14 : Hid _ := box_below Y12.out hb14
      have V14 : Hid _ := box_below V12.out hb14
      have G14 : Hid _ := box_below G12.out hb14
      have y14 := y12.below hb14
      have z14 := z12.below hb14
      have r14 := r12.below hb14
      have q14 := q12.below hb14
      have g14 := g12.trans (hb14.mono g12.size)
      have s14 := hb14.size
      clear A12 C12 X12 Y12 V12 G12 y12 z12 r12 q12 g12 hb14
      obtain ⟨c0, c1, c2⟩ := box_threeC C14.out
      obtain ⟨v0, v1, v2⟩ := box_threeC V14.out
      have l14 : w.heap.size + 1 < w14.heap.size := by omega
      have m14 : w8.heap.size < w14.heap.size := by omega
      have hKd : BoolsAt w14.drew 0 w.heap.size ka kn kc ks := HKS.out _ g14.drew
      go_upto_region 16 with fail
      go_cut [49] from 14 (fun v wx => v = .bool false ∧ Hid (Below w14.heap.size w14 wx))
      case first =>
        go_region_with (first | (go_at_call 25; refine (toCrash_own tr ta _ _ _ ks w14.drew 0 w.heap.size g14.size hKd hkn).mono ?_; rintro e w15 ⟨ge, rfl, v15, hb15⟩; have hb15' : Below w14.heap.size w14 w15 := (bl_dr _).trans hb15; obtain ⟨u0, u1, u2⟩ := box_threeC (box_below V14.out hb15'); have l15 := Nat.lt_of_lt_of_le m14 hb15'.size) | (go_at_call 26; refine (eqCrash_same tr ta _ _ _ _ _ ks w15 _ w15.heap.size _ w15.heap.size (Nat.le_refl _) (Nat.le_refl _) (r14.below hb15').bools v15.bools).mono ?_; rintro e w16 ⟨rfl, hb16⟩))
        all_goals
          go_wp2_with fail
          go_meet
          exact ⟨rfl, hb15'.trans (hb16.mono hb15'.size)⟩
      case rest =>
        obtain ⟨w16, hw16⟩ : ∃ x, x = wc := ⟨_, rfl⟩
        subst hw16
        obtain ⟨rfl, HB16⟩ := hcut
        have hb16 := HB16.out
        clear c0 c1 c2 v0 v1 v2 hKd HB16
        have A16 : Hid _ := box_below A14.out hb16
        have C16 : Hid _ := box_below C14.out hb16
        have X16 : Hid _ := box_below X14.out hb16
        have Y16 : Hid _ := box_below Y14.out hb16
        have V16 : Hid _ := box_below V14.out hb16
        have G16 : Hid _ := box_below G14.out hb16
        have y16 := y14.below hb16
        have z16 := z14.below hb16
        have r16 := r14.below hb16
        have q16 := q14.below hb16
        have g16 := g14.trans (hb16.mono g14.size)
        have s16 := hb16.size
        clear A14 C14 X14 Y14 V14 G14 y14 z14 r14 q14 g14 hb16
        obtain ⟨y0, y1, y2, y3, y4⟩ := box_fiveC Y16.out
        have m16 : w6.heap.size < w16.heap.size := by omega
        go_wp2_with fail
        clear y0 y1 y2 y3 y4
        refine (markDisk_z _ _ _ _ _ _ _ _ _ 1 w5.heap.size w6.heap.size fs ps w16 z16 HFL.out.symm HPL.out.symm (by omega) (by omega)).mono ?_
        rintro e w17 ⟨rfl, _, f17⟩
        have A17 : Hid _ := box_fr A16.out f17 (by omega)
        have C17 : Hid _ := box_fr C16.out f17 (by omega)
        have X17 : Hid _ := box_fr X16.out f17 (by omega)
        have V17 : Hid _ := box_fr V16.out f17 (by omega)
        have G17 : Hid _ := box_fr G16.out f17 (by omega)
        have y17 := y16.fr f17 (fun g e => by omega)
        have r17 := r16.fr f17 (fun g e => by omega)
        have q17 := q16.fr f17 (fun g e => by omega)
        have g17 := g16.trans (f17.below g16.size (fun g e => by omega))
        have s17 := f17.size
        clear A16 C16 X16 Y16 V16 G16 y16 z16 r16 q16 g16 f17
        obtain ⟨v0, v1, v2⟩ := box_threeC V17.out
        obtain ⟨kx, hkxe⟩ : ∃ x, x = kP (kF 1 fs) ps := ⟨_, rfl⟩
        rw [← hkxe] at hkx ⊢
        clear hkxe
        have m17 : w8.heap.size < w17.heap.size := by omega
        go_wp2_with fail
        clear v0 v1 v2
        refine (markCrash_z tr ta _ kn kn kx w7.heap.size w8.heap.size ks w17 r17 (by omega)).mono ?_
        rintro e w18 ⟨rfl, f18⟩
        have A18 : Hid _ := box_fr A17.out f18 (by omega)
        have C18 : Hid _ := box_fr C17.out f18 (by omega)
        have X18 : Hid _ := box_fr X17.out f18 (by omega)
        have G18 : Hid _ := box_fr G17.out f18 (by omega)
        have y18 := y17.fr f18 (fun g e => by omega)
        have q18 := q17.fr f18 (fun g e => by omega)
        have g18 := g17.trans (f18.below g17.size (fun g e => by omega))
        have s18 := f18.size
        clear A17 C17 X17 V17 G17 y17 r17 q17 g17 f18
        obtain ⟨x0, x1, x2, x3, x4⟩ := box_fiveC X18.out
        obtain ⟨h0, h1, h2, h3, h4⟩ := box_fiveC G18.out
        have hk4 : ¬ ((kx + kn : Nat) : Int) < 0 := by omega
        have l18 : Z0 < w18.heap.size := by omega
        have m18 : w10.heap.size < w18.heap.size := by omega
        go_wp2_with fail
        clear x0 x1 x2 x3 x4 h0 h1 h2 h3 h4
        refine (eqDisk_same _ _ _ gs _ _ _ [] _ _ _ _ cp2 fu2 false w18 _ _ _ _ (Nat.le_refl _) (Nat.le_refl _) q18.files q18.pends y18.files y18.pends).mono ?_
        rintro e w19 ⟨rfl, hb19⟩
        have A19 : Hid _ := box_below A18.out hb19
        have C19 : Hid _ := box_below C18.out hb19
        have X19 : Hid _ := box_below X18.out hb19
        have G19 : Hid _ := box_below G18.out hb19
        have y19 := y18.below hb19
        have q19 := q18.below hb19
        have g19 := g18.trans (hb19.mono g18.size)
        have s19 := hb19.size
        clear A18 C18 X18 G18 y18 q18 g18 hb19
        obtain ⟨h0, h1, h2, h3, h4⟩ := box_fiveC G19.out
        have m19 : w10.heap.size < w19.heap.size := by omega
        go_wp2_with fail
        clear h0 h1 h2 h3 h4
        refine (markDisk_z _ _ _ _ _ _ _ _ _ 1 w9.heap.size w10.heap.size gs [] w19 q19 rfl rfl (by omega) hk2).mono ?_
        rintro e w20 ⟨rfl, q20, f20⟩
        have A20 : Hid _ := box_fr A19.out f20 (by omega)
        have C20 : Hid _ := box_fr C19.out f20 (by omega)
        have X20 : Hid _ := box_fr X19.out f20 (by omega)
        have G20 : Hid _ := box_fr G19.out f20 (by omega)
        have y20 := y19.fr f20 (fun g e => by omega)
        have g20 := g19.trans (f20.below g19.size (fun g e => by omega))
        have s20 := f20.size
        clear A19 C19 X19 G19 y19 q19 g19 f20
        obtain ⟨h0, h1, h2, h3, h4⟩ := box_fiveC G20.out
        have m20 : w10.heap.size < w20.heap.size := by omega
        have HK2 : Hid (kP (kF 1 gs) [] ≤ 1099511627776) := hk2
        clear hk2
        go_wp2_with fail
        clear h0 h1 h2 h3 h4
        refine (heldDisk_any _ _ _ _ _ _ _ _ _ 1 _ _ gs [] w20 q20.files q20.pends (Nat.le_refl _) HK2.out).mono ?_
        rintro e w21 ⟨rfl, hb21⟩
        clear q20
        have A21 : Hid _ := box_below A20.out hb21
        have C21 : Hid _ := box_below C20.out hb21
        have X21 : Hid _ := box_below X20.out hb21
        have y21 := y20.below hb21
        have g21 := g20.trans (hb21.mono g20.size)
        have s21 := hb21.size
        clear A20 C20 X20 y20 g20 hb21
        generalize kP (kF 1 gs) [] = ky
        have hq0 : ¬ ((ky : Nat) : Int) < 0 := by omega
        have hqm : (((ky : Nat) : Int) != ((ky : Nat) : Int)) = false := by simp
        have l0 : w.heap.size < w21.heap.size := by omega
        have l1 : w.heap.size + 1 < w21.heap.size := by omega
        obtain ⟨x0, x1, x2, x3, x4⟩ := box_fiveC A21.out
        obtain ⟨c0, c1, c2⟩ := box_threeC C21.out
        have HZ21 : Hid (∀ W, Below w21.heap.size w21 W → Below w.heap.size w W) := fun W hW => g21.trans (hW.mono g21.size)
        go_upto_region 31 with fail
        go_cut [13] from 14 (fun p wx => ∃ (Z lo : Nat) (a4 : Option Addr) (c4 : Nat), p = .pointer (some ⟨Z, 0, none⟩) ∧ Hid (Fin5 w21 wx Z lo a4 c4 gs cp2 fu2))
        case first =>
          have BD : Below w21.heap.size w21 w21.drew := bl_dr _
          refine wp_region_noPanic ?_
          refine wp_region_held_drew (S := (fun w' => Below w21.heap.size w21 w')) (by kernel_rfl) ?_ (fun hHeld => ?_)
          · exact bl_dr _
          refine wpAnyH_take (i := 0) (oi := { dst := some 75, op := Op.load 44 (Operand.tmp 2), type := 44, pos := "exact.go:2484", after := #[], guard := none }) (v := .agg #[.slice a n c, .slice b m d, .int .i64 cp, .int .i64 fu, .bool de]) rfl (by kernel_rfl) (by kernel_rfl) (by kernel_rfl) (fun _ _ _ h => h) (Or.inl ⟨by rfl, ?_⟩) (by assumption) ?_
          · intro wq hSw; (try dsimp only at hSw); obtain ⟨b0, b1, b2, b3, b4⟩ := box_fiveC (box_below A21.out hSw); go_simp
          try simp only [Act.put, List.setIfInBounds_toArray, List.set_cons_zero, List.set_cons_succ]
          refine wpAnyH_take (i := 2) (oi := { dst := some 77, op := Op.load 52 (Operand.tmp 3), type := 52, pos := "exact.go:2484", after := #[], guard := none }) (v := .agg #[.slice ka kn kc, .int .i64 tr, .int .i64 ta]) rfl (by kernel_rfl) (by kernel_rfl) (by kernel_rfl) (fun _ _ _ h => h) (Or.inl ⟨by rfl, ?_⟩) (by assumption) ?_
          · intro wq hSw; (try dsimp only at hSw); obtain ⟨b0, b1, b2⟩ := box_threeC (box_below C21.out hSw); go_simp
          try simp only [Act.put, List.setIfInBounds_toArray, List.set_cons_zero, List.set_cons_succ]
          refine wpAnyH_ready (rs := [1, 5]) (by kernel_rfl) (by simp) ?_
          refine AllReadyH.cons (o := { dst := some 76, op := Op.call { callee := Callee.value (Operand.func 17), args := #[Operand.tmp 75], argTypes := #[44] }, type := 26, pos := "exact.go:2484", after := #[{ on := 0, ground := Ground.data }], guard := none }) rfl (fun K hK => ?_) ?_
          rotate_left 1
          refine AllReadyH.cons (o := { dst := some 13, op := Op.alloc 26, type := 0, pos := "exact.go:2484", after := #[], guard := none }) rfl (fun K hK => ?_) ?_
          rotate_left 1
          exact AllReadyH.nil
          · go_simp
            refine (toDisk_z _ _ _ fs _ _ _ ps _ _ _ w21.drew 0 w.heap.size (HZ21.out _ BD).size (HF.out _ (HZ21.out _ BD)) (HP.out _ (HZ21.out _ BD)) hn hm HA.out HA2.out).mono ?_
            rintro e w2 ⟨ga2, gb2, rfl, zz2, hb2⟩
            have hoz : w21.heap.size ≤ _ := BD.size
            have Bd : Below w21.heap.size w21 w2 := BD.trans (hb2.mono BD.size)
            go_wp2_with fail
            refine hK.out _ _ Bd (fun hHeld => ?_)
            clear hK K
            try simp only [Act.put, List.setIfInBounds_toArray, List.set_cons_zero, List.set_cons_succ]
            refine wpAnyH_ready (rs := [3, 5]) (by kernel_rfl) (by simp) ?_
            refine AllReadyH.cons (o := { dst := some 78, op := Op.call { callee := Callee.value (Operand.func 25), args := #[Operand.tmp 77], argTypes := #[52] }, type := 34, pos := "exact.go:2484", after := #[{ on := 2, ground := Ground.data }, { on := 1, ground := Ground.chain }], guard := none }) rfl (fun K hK => ?_) ?_
            rotate_left 1
            refine AllReadyH.cons (o := { dst := some 13, op := Op.alloc 26, type := 0, pos := "exact.go:2484", after := #[], guard := none }) rfl (fun K hK => ?_) ?_
            rotate_left 1
            exact AllReadyH.nil
            · go_simp
              refine (toCrash_own tr ta _ _ _ ks w2 0 w.heap.size (HZ21.out _ Bd).size (HKS.out _ (HZ21.out _ Bd)) hkn).mono ?_
              rintro e w3 ⟨gk3, rfl, yy3, hb3⟩
              have hoy : w21.heap.size ≤ _ := Bd.size
              have zc := zz2.below hb3
              have Bc : Below w21.heap.size w21 w3 := Bd.trans (hb3.mono Bd.size)
              go_wp2_with fail
              refine hK.out _ _ Bc (fun hHeld => ?_)
              clear hK K
              try simp only [Act.put, List.setIfInBounds_toArray, List.set_cons_zero, List.set_cons_succ]
              refine wpAnyH_ready (rs := [4, 5]) (by kernel_rfl) (by simp) ?_
              refine AllReadyH.cons (o := { dst := some 79, op := Op.call { callee := Callee.value (Operand.func 9), args := #[Operand.tmp 76, Operand.tmp 78], argTypes := #[26, 34] }, type := 26, pos := "exact.go:2484", after := #[{ on := 1, ground := Ground.data }, { on := 3, ground := Ground.data }, { on := 3, ground := Ground.chain }], guard := none }) rfl (fun K hK => ?_) ?_
              rotate_left 1
              refine AllReadyH.cons (o := { dst := some 13, op := Op.alloc 26, type := 0, pos := "exact.go:2484", after := #[], guard := none }) rfl (fun K hK => ?_) ?_
              rotate_left 1
              exact AllReadyH.nil
              · go_simp
                refine (HI.out HA.out _ _ _ _ _ _ w3 w21.heap.size w3.heap.size (Nat.le_refl _) (zc.files.up hoz (Nat.le_refl _)) (zc.pends.up hoz (Nat.le_refl _)) (yy3.bools.up hoy (Nat.le_refl _))).mono ?_
                rintro e w4 hR4
                obtain ⟨a4, c4, rfl, qq4, hb4⟩ := hR4.ex
                have hoq : w21.heap.size ≤ w3.heap.size := Bc.size
                clear hR4
                have zr := zc.below hb4
                have yr := yy3.below hb4
                have Br : Below w21.heap.size w21 w4 := Bc.trans (hb4.mono Bc.size)
                go_wp2_with fail
                refine hK.out _ _ Br (fun hHeld => ?_)
                clear hK K
                try simp only [Act.put, List.setIfInBounds_toArray, List.set_cons_zero, List.set_cons_succ]
                refine wpAnyH_ready (rs := [5]) (by kernel_rfl) (by simp) ?_
                refine AllReadyH.cons (o := { dst := some 13, op := Op.alloc 26, type := 0, pos := "exact.go:2484", after := #[], guard := none }) rfl (fun K hK => ?_) ?_
                rotate_left 1
                exact AllReadyH.nil
                · have hal := bl_al (w := w4) (.cells #[.slice none 0 0, .slice none 0 0, .int .i64 0, .int .i64 0, .bool false] 26)
                  have Zba : (w4.alloc (.cells #[.slice none 0 0, .slice none 0 0, .int .i64 0, .int .i64 0, .bool false] 26)).heap[w4.heap.size]? = some (.cells #[.slice none 0 0, .slice none 0 0, .int .i64 0, .int .i64 0, .bool false] 26) := heap_alloc_new w4 (.cells #[.slice none 0 0, .slice none 0 0, .int .i64 0, .int .i64 0, .bool false] 26)
                  have hzw : w21.heap.size ≤ w4.heap.size := Br.size
                  have za := zr.below hal
                  have ya := yr.below hal
                  have qa := qq4.below hal
                  have Ba : Below w21.heap.size w21 (w4.alloc (.cells #[.slice none 0 0, .slice none 0 0, .int .i64 0, .int .i64 0, .bool false] 26)) := Br.trans (hal.mono Br.size)
                  have hzl := hal.size
                  go_simp
                  refine hK.out _ _ Ba (fun hHeld => ?_)
                  generalize (w4.alloc (.cells #[.slice none 0 0, .slice none 0 0, .int .i64 0, .int .i64 0, .bool false] 26)) = wz at za ya qa Zba Ba hzl ⊢
                  clear hK K
                  try simp only [Act.put, List.setIfInBounds_toArray, List.set_cons_zero, List.set_cons_succ]
                  refine wpAnyH_ready (rs := [6]) (by kernel_rfl) (by simp) ?_
                  refine AllReadyH.cons (o := { dst := none, op := Op.store 26 (Operand.tmp 13) (Operand.tmp 79), type := 0, pos := "exact.go:2484", after := #[{ on := 5, ground := Ground.data }, { on := 4, ground := Ground.data }, { on := 4, ground := Ground.chain }, { on := 0, ground := Ground.phase }, { on := 1, ground := Ground.phase }, { on := 2, ground := Ground.phase }, { on := 3, ground := Ground.phase }, { on := 4, ground := Ground.phase }, { on := 5, ground := Ground.phase }], guard := none }) rfl (fun K hK => ?_) ?_
                  rotate_left 1
                  exact AllReadyH.nil
                  · obtain ⟨v0, v1, v2, v3, v4⟩ := box_fiveC Zba
                    have fz := box_thawC Zba
                    have lz := box_lt Zba
                    have fin := fin_put2 (cp2 := cp2) (fu2 := fu2) (hi := w4.heap.size) Ba Zba hzw hoq (.inr (Nat.le_refl _)) (hzl) qa
                    have FB := fin.bel
                    go_simp
                    clear v0 v1 v2 v3 v4 fz lz
                    refine hK.out _ _ FB (fun hHeld => ?_)
                    clear hK K
                    try simp only [Act.put, List.setIfInBounds_toArray, List.set_cons_zero, List.set_cons_succ]
                    refine wpAnyH_done (by kernel_rfl) ?_ _
                    refine NoPanic.normal ?_
                    go_wp2_with fail
                    go_meet
                    exact ⟨_, _, a4, c4, rfl, fin⟩
              · have hal := bl_al (w := w3) (.cells #[.slice none 0 0, .slice none 0 0, .int .i64 0, .int .i64 0, .bool false] 26)
                have Zba : (w3.alloc (.cells #[.slice none 0 0, .slice none 0 0, .int .i64 0, .int .i64 0, .bool false] 26)).heap[w3.heap.size]? = some (.cells #[.slice none 0 0, .slice none 0 0, .int .i64 0, .int .i64 0, .bool false] 26) := heap_alloc_new w3 (.cells #[.slice none 0 0, .slice none 0 0, .int .i64 0, .int .i64 0, .bool false] 26)
                have hzw : w21.heap.size ≤ w3.heap.size := Bc.size
                have za := zc.below hal
                have ya := yy3.below hal
                have Ba : Below w21.heap.size w21 (w3.alloc (.cells #[.slice none 0 0, .slice none 0 0, .int .i64 0, .int .i64 0, .bool false] 26)) := Bc.trans (hal.mono Bc.size)
                go_simp
                refine hK.out _ _ Ba (fun hHeld => ?_)
                generalize (w3.alloc (.cells #[.slice none 0 0, .slice none 0 0, .int .i64 0, .int .i64 0, .bool false] 26)) = wz at za ya Zba Ba  ⊢
                clear hK K
                try simp only [Act.put, List.setIfInBounds_toArray, List.set_cons_zero, List.set_cons_succ]
                refine wpAnyH_ready (rs := [4]) (by kernel_rfl) (by simp) ?_
                refine AllReadyH.cons (o := { dst := some 79, op := Op.call { callee := Callee.value (Operand.func 9), args := #[Operand.tmp 76, Operand.tmp 78], argTypes := #[26, 34] }, type := 26, pos := "exact.go:2484", after := #[{ on := 1, ground := Ground.data }, { on := 3, ground := Ground.data }, { on := 3, ground := Ground.chain }], guard := none }) rfl (fun K hK => ?_) ?_
                rotate_left 1
                exact AllReadyH.nil
                · go_simp
                  refine (HI.out HA.out _ _ _ _ _ _ wz w21.heap.size wz.heap.size (Nat.le_refl _) (za.files.up hoz (Nat.le_refl _)) (za.pends.up hoz (Nat.le_refl _)) (ya.bools.up hoy (Nat.le_refl _))).mono ?_
                  rintro e w4 hR4
                  obtain ⟨a4, c4, rfl, qq4, hb4⟩ := hR4.ex
                  have hoq : w21.heap.size ≤ wz.heap.size := Ba.size
                  have hzl := box_lt Zba
                  clear hR4
                  have zr := za.below hb4
                  have yr := ya.below hb4
                  have Zbr := box_below Zba hb4
                  have Br : Below w21.heap.size w21 w4 := Ba.trans (hb4.mono Ba.size)
                  go_wp2_with fail
                  refine hK.out _ _ Br (fun hHeld => ?_)
                  clear hK K
                  try simp only [Act.put, List.setIfInBounds_toArray, List.set_cons_zero, List.set_cons_succ]
                  refine wpAnyH_ready (rs := [6]) (by kernel_rfl) (by simp) ?_
                  refine AllReadyH.cons (o := { dst := none, op := Op.store 26 (Operand.tmp 13) (Operand.tmp 79), type := 0, pos := "exact.go:2484", after := #[{ on := 5, ground := Ground.data }, { on := 4, ground := Ground.data }, { on := 4, ground := Ground.chain }, { on := 0, ground := Ground.phase }, { on := 1, ground := Ground.phase }, { on := 2, ground := Ground.phase }, { on := 3, ground := Ground.phase }, { on := 4, ground := Ground.phase }, { on := 5, ground := Ground.phase }], guard := none }) rfl (fun K hK => ?_) ?_
                  rotate_left 1
                  exact AllReadyH.nil
                  · obtain ⟨v0, v1, v2, v3, v4⟩ := box_fiveC Zbr
                    have fz := box_thawC Zbr
                    have lz := box_lt Zbr
                    have fin := fin_put2 (cp2 := cp2) (fu2 := fu2) (hi := w4.heap.size) Br Zbr hzw hoq (.inl hzl) (Nat.le_refl _) qq4
                    have FB := fin.bel
                    go_simp
                    clear v0 v1 v2 v3 v4 fz lz
                    refine hK.out _ _ FB (fun hHeld => ?_)
                    clear hK K
                    try simp only [Act.put, List.setIfInBounds_toArray, List.set_cons_zero, List.set_cons_succ]
                    refine wpAnyH_done (by kernel_rfl) ?_ _
                    refine NoPanic.normal ?_
                    go_wp2_with fail
                    go_meet
                    exact ⟨_, _, a4, c4, rfl, fin⟩
            · have hal := bl_al (w := w2) (.cells #[.slice none 0 0, .slice none 0 0, .int .i64 0, .int .i64 0, .bool false] 26)
              have Zba : (w2.alloc (.cells #[.slice none 0 0, .slice none 0 0, .int .i64 0, .int .i64 0, .bool false] 26)).heap[w2.heap.size]? = some (.cells #[.slice none 0 0, .slice none 0 0, .int .i64 0, .int .i64 0, .bool false] 26) := heap_alloc_new w2 (.cells #[.slice none 0 0, .slice none 0 0, .int .i64 0, .int .i64 0, .bool false] 26)
              have hzw : w21.heap.size ≤ w2.heap.size := Bd.size
              have za := zz2.below hal
              have Ba : Below w21.heap.size w21 (w2.alloc (.cells #[.slice none 0 0, .slice none 0 0, .int .i64 0, .int .i64 0, .bool false] 26)) := Bd.trans (hal.mono Bd.size)
              go_simp
              refine hK.out _ _ Ba (fun hHeld => ?_)
              generalize (w2.alloc (.cells #[.slice none 0 0, .slice none 0 0, .int .i64 0, .int .i64 0, .bool false] 26)) = wz at za Zba Ba  ⊢
              clear hK K
              try simp only [Act.put, List.setIfInBounds_toArray, List.set_cons_zero, List.set_cons_succ]
              refine wpAnyH_ready (rs := [3]) (by kernel_rfl) (by simp) ?_
              refine AllReadyH.cons (o := { dst := some 78, op := Op.call { callee := Callee.value (Operand.func 25), args := #[Operand.tmp 77], argTypes := #[52] }, type := 34, pos := "exact.go:2484", after := #[{ on := 2, ground := Ground.data }, { on := 1, ground := Ground.chain }], guard := none }) rfl (fun K hK => ?_) ?_
              rotate_left 1
              exact AllReadyH.nil
              · go_simp
                refine (toCrash_own tr ta _ _ _ ks wz 0 w.heap.size (HZ21.out _ Ba).size (HKS.out _ (HZ21.out _ Ba)) hkn).mono ?_
                rintro e w3 ⟨gk3, rfl, yy3, hb3⟩
                have hoy : w21.heap.size ≤ _ := Ba.size
                have zc := za.below hb3
                have Zbc := box_below Zba hb3
                have Bc : Below w21.heap.size w21 w3 := Ba.trans (hb3.mono Ba.size)
                go_wp2_with fail
                refine hK.out _ _ Bc (fun hHeld => ?_)
                clear hK K
                try simp only [Act.put, List.setIfInBounds_toArray, List.set_cons_zero, List.set_cons_succ]
                refine wpAnyH_ready (rs := [4]) (by kernel_rfl) (by simp) ?_
                refine AllReadyH.cons (o := { dst := some 79, op := Op.call { callee := Callee.value (Operand.func 9), args := #[Operand.tmp 76, Operand.tmp 78], argTypes := #[26, 34] }, type := 26, pos := "exact.go:2484", after := #[{ on := 1, ground := Ground.data }, { on := 3, ground := Ground.data }, { on := 3, ground := Ground.chain }], guard := none }) rfl (fun K hK => ?_) ?_
                rotate_left 1
                exact AllReadyH.nil
                · go_simp
                  refine (HI.out HA.out _ _ _ _ _ _ w3 w21.heap.size w3.heap.size (Nat.le_refl _) (zc.files.up hoz (Nat.le_refl _)) (zc.pends.up hoz (Nat.le_refl _)) (yy3.bools.up hoy (Nat.le_refl _))).mono ?_
                  rintro e w4 hR4
                  obtain ⟨a4, c4, rfl, qq4, hb4⟩ := hR4.ex
                  have hoq : w21.heap.size ≤ w3.heap.size := Bc.size
                  have hzl := box_lt Zbc
                  clear hR4
                  have zr := zc.below hb4
                  have yr := yy3.below hb4
                  have Zbr := box_below Zbc hb4
                  have Br : Below w21.heap.size w21 w4 := Bc.trans (hb4.mono Bc.size)
                  go_wp2_with fail
                  refine hK.out _ _ Br (fun hHeld => ?_)
                  clear hK K
                  try simp only [Act.put, List.setIfInBounds_toArray, List.set_cons_zero, List.set_cons_succ]
                  refine wpAnyH_ready (rs := [6]) (by kernel_rfl) (by simp) ?_
                  refine AllReadyH.cons (o := { dst := none, op := Op.store 26 (Operand.tmp 13) (Operand.tmp 79), type := 0, pos := "exact.go:2484", after := #[{ on := 5, ground := Ground.data }, { on := 4, ground := Ground.data }, { on := 4, ground := Ground.chain }, { on := 0, ground := Ground.phase }, { on := 1, ground := Ground.phase }, { on := 2, ground := Ground.phase }, { on := 3, ground := Ground.phase }, { on := 4, ground := Ground.phase }, { on := 5, ground := Ground.phase }], guard := none }) rfl (fun K hK => ?_) ?_
                  rotate_left 1
                  exact AllReadyH.nil
                  · obtain ⟨v0, v1, v2, v3, v4⟩ := box_fiveC Zbr
                    have fz := box_thawC Zbr
                    have lz := box_lt Zbr
                    have fin := fin_put2 (cp2 := cp2) (fu2 := fu2) (hi := w4.heap.size) Br Zbr hzw hoq (.inl hzl) (Nat.le_refl _) qq4
                    have FB := fin.bel
                    go_simp
                    clear v0 v1 v2 v3 v4 fz lz
                    refine hK.out _ _ FB (fun hHeld => ?_)
                    clear hK K
                    try simp only [Act.put, List.setIfInBounds_toArray, List.set_cons_zero, List.set_cons_succ]
                    refine wpAnyH_done (by kernel_rfl) ?_ _
                    refine NoPanic.normal ?_
                    go_wp2_with fail
                    go_meet
                    exact ⟨_, _, a4, c4, rfl, fin⟩
          · have Ba : Below w21.heap.size w21 (w21.alloc (.cells #[.slice none 0 0, .slice none 0 0, .int .i64 0, .int .i64 0, .bool false] 26)).drew := (bl_al (w := w21) (.cells #[.slice none 0 0, .slice none 0 0, .int .i64 0, .int .i64 0, .bool false] 26)).drew
            have Zba : (w21.alloc (.cells #[.slice none 0 0, .slice none 0 0, .int .i64 0, .int .i64 0, .bool false] 26)).drew.heap[w21.heap.size]? = some (.cells #[.slice none 0 0, .slice none 0 0, .int .i64 0, .int .i64 0, .bool false] 26) := heap_alloc_new w21 (.cells #[.slice none 0 0, .slice none 0 0, .int .i64 0, .int .i64 0, .bool false] 26)
            have hzw : w21.heap.size ≤ w21.heap.size := Nat.le_refl _
            go_simp
            refine hK.out _ _ Ba (fun hHeld => ?_)
            generalize (w21.alloc (.cells #[.slice none 0 0, .slice none 0 0, .int .i64 0, .int .i64 0, .bool false] 26)).drew = wz at Zba Ba  ⊢
            clear hK K
            try simp only [Act.put, List.setIfInBounds_toArray, List.set_cons_zero, List.set_cons_succ]
            refine wpAnyH_ready (rs := [1]) (by kernel_rfl) (by simp) ?_
            refine AllReadyH.cons (o := { dst := some 76, op := Op.call { callee := Callee.value (Operand.func 17), args := #[Operand.tmp 75], argTypes := #[44] }, type := 26, pos := "exact.go:2484", after := #[{ on := 0, ground := Ground.data }], guard := none }) rfl (fun K hK => ?_) ?_
            rotate_left 1
            exact AllReadyH.nil
            · go_simp
              refine (toDisk_z _ _ _ fs _ _ _ ps _ _ _ wz 0 w.heap.size (HZ21.out _ Ba).size (HF.out _ (HZ21.out _ Ba)) (HP.out _ (HZ21.out _ Ba)) hn hm HA.out HA2.out).mono ?_
              rintro e w2 ⟨ga2, gb2, rfl, zz2, hb2⟩
              have hoz : w21.heap.size ≤ _ := Ba.size
              have Zbd := box_below Zba hb2
              have Bd : Below w21.heap.size w21 w2 := Ba.trans (hb2.mono Ba.size)
              go_wp2_with fail
              refine hK.out _ _ Bd (fun hHeld => ?_)
              clear hK K
              try simp only [Act.put, List.setIfInBounds_toArray, List.set_cons_zero, List.set_cons_succ]
              refine wpAnyH_ready (rs := [3]) (by kernel_rfl) (by simp) ?_
              refine AllReadyH.cons (o := { dst := some 78, op := Op.call { callee := Callee.value (Operand.func 25), args := #[Operand.tmp 77], argTypes := #[52] }, type := 34, pos := "exact.go:2484", after := #[{ on := 2, ground := Ground.data }, { on := 1, ground := Ground.chain }], guard := none }) rfl (fun K hK => ?_) ?_
              rotate_left 1
              exact AllReadyH.nil
              · go_simp
                refine (toCrash_own tr ta _ _ _ ks w2 0 w.heap.size (HZ21.out _ Bd).size (HKS.out _ (HZ21.out _ Bd)) hkn).mono ?_
                rintro e w3 ⟨gk3, rfl, yy3, hb3⟩
                have hoy : w21.heap.size ≤ _ := Bd.size
                have zc := zz2.below hb3
                have Zbc := box_below Zbd hb3
                have Bc : Below w21.heap.size w21 w3 := Bd.trans (hb3.mono Bd.size)
                go_wp2_with fail
                refine hK.out _ _ Bc (fun hHeld => ?_)
                clear hK K
                try simp only [Act.put, List.setIfInBounds_toArray, List.set_cons_zero, List.set_cons_succ]
                refine wpAnyH_ready (rs := [4]) (by kernel_rfl) (by simp) ?_
                refine AllReadyH.cons (o := { dst := some 79, op := Op.call { callee := Callee.value (Operand.func 9), args := #[Operand.tmp 76, Operand.tmp 78], argTypes := #[26, 34] }, type := 26, pos := "exact.go:2484", after := #[{ on := 1, ground := Ground.data }, { on := 3, ground := Ground.data }, { on := 3, ground := Ground.chain }], guard := none }) rfl (fun K hK => ?_) ?_
                rotate_left 1
                exact AllReadyH.nil
                · go_simp
                  refine (HI.out HA.out _ _ _ _ _ _ w3 w21.heap.size w3.heap.size (Nat.le_refl _) (zc.files.up hoz (Nat.le_refl _)) (zc.pends.up hoz (Nat.le_refl _)) (yy3.bools.up hoy (Nat.le_refl _))).mono ?_
                  rintro e w4 hR4
                  obtain ⟨a4, c4, rfl, qq4, hb4⟩ := hR4.ex
                  have hoq : w21.heap.size ≤ w3.heap.size := Bc.size
                  have hzl := box_lt Zbc
                  clear hR4
                  have zr := zc.below hb4
                  have yr := yy3.below hb4
                  have Zbr := box_below Zbc hb4
                  have Br : Below w21.heap.size w21 w4 := Bc.trans (hb4.mono Bc.size)
                  go_wp2_with fail
                  refine hK.out _ _ Br (fun hHeld => ?_)
                  clear hK K
                  try simp only [Act.put, List.setIfInBounds_toArray, List.set_cons_zero, List.set_cons_succ]
                  refine wpAnyH_ready (rs := [6]) (by kernel_rfl) (by simp) ?_
                  refine AllReadyH.cons (o := { dst := none, op := Op.store 26 (Operand.tmp 13) (Operand.tmp 79), type := 0, pos := "exact.go:2484", after := #[{ on := 5, ground := Ground.data }, { on := 4, ground := Ground.data }, { on := 4, ground := Ground.chain }, { on := 0, ground := Ground.phase }, { on := 1, ground := Ground.phase }, { on := 2, ground := Ground.phase }, { on := 3, ground := Ground.phase }, { on := 4, ground := Ground.phase }, { on := 5, ground := Ground.phase }], guard := none }) rfl (fun K hK => ?_) ?_
                  rotate_left 1
                  exact AllReadyH.nil
                  · obtain ⟨v0, v1, v2, v3, v4⟩ := box_fiveC Zbr
                    have fz := box_thawC Zbr
                    have lz := box_lt Zbr
                    have fin := fin_put2 (cp2 := cp2) (fu2 := fu2) (hi := w4.heap.size) Br Zbr hzw hoq (.inl hzl) (Nat.le_refl _) qq4
                    have FB := fin.bel
                    go_simp
                    clear v0 v1 v2 v3 v4 fz lz
                    refine hK.out _ _ FB (fun hHeld => ?_)
                    clear hK K
                    try simp only [Act.put, List.setIfInBounds_toArray, List.set_cons_zero, List.set_cons_succ]
                    refine wpAnyH_done (by kernel_rfl) ?_ _
                    refine NoPanic.normal ?_
                    go_wp2_with fail
                    go_meet
                    exact ⟨_, _, a4, c4, rfl, fin⟩
        case rest =>
          obtain ⟨w22, hw22⟩ : ∃ x, x = wc := ⟨_, rfl⟩
          subst hw22
          obtain ⟨Z1, lo1, a22, c22, rfl, HF22⟩ := hcut
          have B22 := HF22.out.bel
          have g22 := HZ21.out _ B22
          have X22 : Hid _ := box_below X21.out B22
          have H22 : Hid _ := HF22.out.bx
          have y22 := y21.below B22
          have q22 := HF22.out.zone
          have hZ1 := box_lt H22.out
          have hZ2 := box_lt X22.out
          clear x0 x1 x2 x3 x4 c0 c1 c2 HF22 B22 HZ21 A21 C21 X21 y21
          obtain ⟨x0, x1, x2, x3, x4⟩ := box_fiveC X22.out
          obtain ⟨h0, h1, h2, h3, h4⟩ := box_fiveC H22.out
          go_wp2_with fail
          clear x0 x1 x2 x3 x4 h0 h1 h2 h3 h4
          refine (eqDisk_same _ _ _ gs _ _ _ [] _ _ _ _ cp2 fu2 false w22 _ _ _ _ (Nat.le_refl _) (Nat.le_refl _) q22.files q22.pends y22.files y22.pends).mono ?_
          rintro e w25 ⟨rfl, hb25⟩
          have g25 := g22.trans (hb25.mono g22.size)
          clear q22 y22 hb25 g22
          go_wp2
          go_ret
          exact ⟨rfl, g25⟩
end Go.Proofs.Ytakdaandbdbdnaa
