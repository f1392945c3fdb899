import Derived.Test.YtpmagndofiaooaaTsb
import Derived.Test.YtpmagndofiaooaaTmb
import Derived.Test.YtpmagndofiaooaaVTL
namespace Go.Proofs.Ytpmagndofiaooaa
open Go.RowKit
set_option linter.unusedVariables false
set_option linter.unusedSimpArgs false
set_option maxRecDepth 100000

theorem scan_len {ts : List TN} {lo hi : ByteArray} {zs : List (ByteArray × ByteArray × Int)} (h : specScan ts lo hi zs) : zs.length ≤ 4000 := by
  by_cases hs : SpecOk ts
  · rw [h.2 hs]
    obtain ⟨⟨_, h2⟩, t, hrd, hg, _, _, hn, _⟩ := hs
    rw [hrd]
    have := slots_len t ⟨true, hg⟩
    have : (scanL lo hi t.slots).length ≤ t.slots.length := List.length_filter_le ..
    show (scanL lo hi t.slots).length ≤ _
    omega
  · rw [h.1 hs]; simp
theorem keeps_mk {lo hi A B : Nat} {w w' : World} (h : MkW lo hi w w') (hB : B ≤ w.heap.size) (hd : B ≤ lo ∨ hi ≤ A) : Keeps A B w w' := fun k h1 h2 => h.fr.block k (by omega) (by omega)
set_option maxHeartbeats 8000000 in
theorem law_TreeScan (a : Option Addr) (n c : Nat) (ts : List TN) (lo hi : ByteArray) (hlo : lo.size ≤ maxLen) (hhi : hi.size ≤ maxLen) (w : World) (hT : NodesAt w 0 w.heap.size a n c ts) :
    Calls Try.prog 6 #[.agg #[.slice a n c], .string lo, .string hi] w fun e w' => e = .returned (.bool true) ∧ Below w.heap.size w w' := by
  have hb0 : Below w.heap.size w (w.alloc (.cells #[.slice a n c] 37)) := (Below.refl _ _).alloc (Nat.le_refl _) _
  unfold maxLen at hlo hhi
  obtain ⟨N, hN⟩ : ∃ N, w.heap.size = N := ⟨_, rfl⟩
  have A0 := heap_alloc_new w (.cells #[.slice a n c] 37)
  have z0 : (w.alloc (.cells #[.slice a n c] 37)).heap.size = N + 1 := by simp [hN]
  rw [hN] at hb0 A0 hT ⊢
  have HT : Hid (NodesAt w 0 N a n c ts) := hT
  clear hT
  go_enter Try.func6, Try.ntmps6
  go_upto_region 1 with fail
  generalize w.alloc (.cells #[.slice a n c] 37) = W0 at hb0 A0 z0 ⊢
  have x00 := cell_one_at A0
  have l0 : N < W0.heap.size := by omega
  by_cases t1 : 1048576 < lo.size
  · go_wp2_with fail
    go_ret
    exact ⟨rfl, hb0⟩
  by_cases t2 : 1048576 < hi.size
  · go_wp2_with fail
    go_ret
    exact ⟨rfl, hb0⟩
  have hsz := szTree_any a n c ts 1048576 W0 (by omega) (by omega) 0 N (by omega) (HT.out.below hb0)
  go_wp2_with fail
  refine hsz.mono ?_
  rintro e w1 ⟨r, rfl, hr, hb1⟩
  have g1 := hb0.trans (hb1.mono (by omega))
  have s1 := hb1.size
  have A1 := (hb1.block N l0).trans A0
  have x10 := cell_one_at A1
  have l1 : N < w1.heap.size := by omega
  clear hsz x00 hb1
  by_cases t3 : r < 0
  · go_wp2_with fail
    go_ret
    exact ⟨rfl, g1⟩
  have hw := hr.2.2 (by omega)
  obtain ⟨hn, hall⟩ := smallT_of HT.out.1 (by omega)
  have HA : Hid (SmallT ts) := hall
  have hml : 1 + mLens ts ≤ 100000000 := by have := mLens_le ts; omega
  clear hw hr hall
  have hc := toTree_any a n c ts w1 0 N (by omega) (HT.out.below g1) hn HA.out
  go_wp2_with fail
  refine hc.mono ?_
  rintro e w2 ⟨ga, rfl, hT2, hb2⟩
  have g2 := g1.trans (hb2.mono (by omega))
  have s2 := hb2.size
  have A2 := (hb2.block N l1).trans A1
  clear hc x10
  have hc := specScan_any ts lo hi _ n n w1.heap.size w2.heap.size w2 (Nat.le_refl _) hT2
  go_wp2_with fail
  refine hc.mono ?_
  rintro e w3 ⟨zs, hzs, a0, c0, rfl, own0, hb3⟩
  have hzl := scan_len hzs
  have HZS : Hid (specScan ts lo hi zs) := hzs
  obtain ⟨m, hm⟩ : ∃ m, zs.length = m := ⟨_, rfl⟩
  have HM : Hid (zs.length = m) := hm
  rw [hm] at own0 hzl ⊢
  have g3 := g2.trans (hb3.mono (by omega))
  have s3 := hb3.size
  have A3 := (hb3.block N (by omega)).trans A2
  have x30 := cell_one_at A3
  obtain ⟨_, _, e9, P0⟩ := pairs_of_own own0 hm
  cases e9
  have P3 : Hid (PairsAt w3 w2.heap.size w3.heap.size a0 m c0 zs) := P0
  clear hc hT2 hb2 hb3 A1 A2 hzs own0 P0 hm
  have l3 : N < w3.heap.size := by omega
  have hc := toTree_mark a n c ts w3 0 N (by omega) (HT.out.below g3) hn HA.out
  go_wp2_with fail
  refine hc.mono ?_
  rintro e w4 ⟨gc, rfl, hT4, hb4, mk4⟩
  have MU4 : Hid (MarkU w4 w3.heap.size w4.heap.size gc n ts) := mk4.u
  have g4 := g3.trans (hb4.mono (by omega))
  have s4 := hb4.size
  have A4 := (hb4.block N l3).trans A3
  have P4 : Hid (PairsAt w4 w2.heap.size w3.heap.size a0 m c0 zs) := P3.out.below hb4
  clear hc x30 A3 hb4 mk4 P3
  have b5 : Below w4.heap.size w4 (w4.alloc (.cells #[.slice (some ⟨gc, 0, none⟩) n n] 26)) := (Below.refl _ _).alloc (Nat.le_refl _) _
  have X5 := heap_alloc_new w4 (.cells #[.slice (some ⟨gc, 0, none⟩) n n] 26)
  have z5 : (w4.alloc (.cells #[.slice (some ⟨gc, 0, none⟩) n n] 26)).heap.size = w4.heap.size + 1 := by simp
  have hT5 := hT4.below b5
  go_upto_region 11 with fail
  generalize w4.alloc (.cells #[.slice (some ⟨gc, 0, none⟩) n n] 26) = W5 at b5 X5 z5 hT5 ⊢
  have MU5 : Hid (MarkU W5 w3.heap.size w4.heap.size gc n ts) := MU4.out.below b5 (Nat.le_refl _)
  have g5 := g4.trans (b5.mono (by omega))
  have A5 := (b5.block N (by omega)).trans A4
  have P5 : Hid (PairsAt W5 w2.heap.size w3.heap.size a0 m c0 zs) := P4.out.below (b5.mono (by omega))
  clear MU4 P4 A4 hT4
  obtain ⟨X, hX⟩ : ∃ X, w4.heap.size = X := ⟨_, rfl⟩
  rw [hX] at X5 z5 hT5 MU5
  have y50 := cell_one_at X5
  have lX : X < W5.heap.size := by omega
  have hc := implScan_any ts lo hi _ n n w3.heap.size X W5 (by omega) hT5
  go_wp2_with fail
  refine hc.mono ?_
  rintro e w6 ⟨ys, hys, a1, c1, rfl, own6, hb6⟩
  have hyz : ys = zs := scan_eq HZS.out hys
  subst hyz
  rw [HM.out] at own6 ⊢
  have g6 := g5.trans (hb6.mono (by omega))
  have s6 := hb6.size
  have A6 := (hb6.block N (by omega)).trans A5
  have X6 := (hb6.block X lX).trans X5
  have hT6 := hT5.below (hb6.mono (by omega))
  have MU6 : Hid (MarkU w6 w3.heap.size X gc n ts) := MU5.out.below hb6 (by omega)
  have P6 : Hid (PairsAt w6 w2.heap.size w3.heap.size a0 m c0 ys) := P5.out.below (hb6.mono (by omega))
  obtain ⟨_, _, e9, Q0⟩ := pairs_of_own own6 HM.out
  cases e9
  have Q6 : Hid (PairsAt w6 W5.heap.size w6.heap.size a1 m c1 ys) := Q0
  have OW6 : Hid (w6.ownsRow W5.heap.size 53 2 (.slice a1 m c1) m (rowsOf prCells ys)) := own6
  clear hc hT5 hb6 A5 X5 MU5 P5 y50 hys own6 Q0 b5
  have hc := eqPairS_same a1 m c1 a0 c0 ys w6 W5.heap.size w6.heap.size w2.heap.size w3.heap.size (Nat.le_refl _) (by omega) Q6.out P6.out
  go_wp2_with fail
  refine hc.mono ?_
  rintro e w7 ⟨rfl, hb7⟩
  have g7 := g6.trans (hb7.mono (by omega))
  have s7 := hb7.size
  have A7 : Hid (w7.heap[N]? = some (.cells #[.slice a n c] 37)) := (hb7.block N (by omega)).trans A6
  have X7 : Hid (w7.heap[X]? = some (.cells #[.slice (some ⟨gc, 0, none⟩) n n] 26)) := (hb7.block X (by omega)).trans X6
  have hT7 := hT6.below (hb7.mono (by omega))
  have MU7 : Hid (MarkU w7 w3.heap.size X gc n ts) := MU6.out.below hb7 (by omega)
  have P7 : Hid (PairsAt w7 w2.heap.size w3.heap.size a0 m c0 ys) := P6.out.below (hb7.mono (by omega))
  have Q7 : Hid (PairsAt w7 W5.heap.size w6.heap.size a1 m c1 ys) := Q6.out.below hb7
  have OW7 : Hid (w7.ownsRow W5.heap.size 53 2 (.slice a1 m c1) m (rowsOf prCells ys)) := owns_below OW6.out hb7
  clear hc hb7 A6 X6 MU6 P6 Q6 OW6 hT6
  have x70 := cell_one_at A7.out
  have y70 := cell_one_at X7.out
  have l7 : N < w7.heap.size := by omega
  have lX7 : X < w7.heap.size := by omega
  have hTd : NodesAt w7.drew 0 N a n c ts := HT.out.below g7.drew
  go_upto_region 14 with fail
  go_cut [45] (fun v wx => v = .bool false ∧ Below w7.heap.size w7 wx)
  case first =>
    go_region_with (first | (go_at_call 18; refine (toTree_any a n c ts w7.drew 0 N (by show N ≤ w7.heap.size; omega) hTd hn HA.out).mono ?_; rintro e w8 ⟨ge, rfl, hT8, hb8⟩; have hb8' : Below w7.heap.size w7 w8 := ((Below.refl _ w7).drew).trans hb8; have y80 := cell_one_at ((hb8'.block _ lX7).trans X7.out); have lX8 := Nat.lt_of_lt_of_le lX7 hb8.size) | (go_at_call 11; refine (eqTree_same _ n n _ n ts w8 w3.heap.size X w7.drew.heap.size w8.heap.size ?_ (Nat.le_refl _) ?_ hT8).mono ?_; exact Nat.le_of_lt lX8; exact hT7.below (hb8'.mono (Nat.le_of_lt lX7)); rintro e w9 ⟨rfl, hb9⟩))
    all_goals
      have hb9' : Below w7.heap.size w7 w9 := hb8'.trans (hb9.mono hb8'.size)
      clear hb8 hb9 hb8' hT8
      go_wp2_with fail
      go_meet
      exact ⟨rfl, hb9'⟩
  case rest =>
    obtain ⟨rfl, hb9⟩ := hcut
    clear x70 y70 hTd
    have g9 := g7.trans (hb9.mono (by omega))
    have s9 := hb9.size
    have A9 : Hid (wc.heap[N]? = some (.cells #[.slice a n c] 37)) := (hb9.block N l7).trans A7.out
    have X9 : Hid (wc.heap[X]? = some (.cells #[.slice (some ⟨gc, 0, none⟩) n n] 26)) := (hb9.block X lX7).trans X7.out
    have MU9 : Hid (MarkU wc w3.heap.size X gc n ts) := MU7.out.below hb9 (by omega)
    have P9 : Hid (PairsAt wc w2.heap.size w3.heap.size a0 m c0 ys) := P7.out.below (hb9.mono (by omega))
    have Q9 : Hid (PairsAt wc W5.heap.size w6.heap.size a1 m c1 ys) := Q7.out.below (hb9.mono (by omega))
    have OW9 : Hid (wc.ownsRow W5.heap.size 53 2 (.slice a1 m c1) m (rowsOf prCells ys)) := owns_below OW7.out hb9
    clear hb9 A7 X7 MU7 P7 Q7 OW7 hT7
    generalize wc = w9 at *
    have y90 := cell_one_at X9.out
    have lX9 : X < w9.heap.size := by omega
    have hc := markTree_room gc n 1 w3.heap.size X ts w9 MU9.out (by omega) hml
    obtain ⟨kr, hkr⟩ : ∃ kr, 1 + mLens ts = kr := ⟨_, rfl⟩
    rw [hkr] at hc hml
    have hc1 : Calls Try.prog 14 #[.agg #[.slice (some ⟨gc, 0, none⟩) n n], .int .i64 1] w9 fun e w' => e = .returned (.int .i64 (kr : Int)) ∧ MkW w3.heap.size X w9 w' := hc
    clear hc hkr
    go_upto_region 18 with (go_at_call 14; refine hc1.mono ?_; rintro e w10 ⟨rfl, hm10⟩)
    have g10 := g9.trans (hm10.fr.below (B := N) (by omega) (fun k hk => by omega))
    have s10 := hm10.fr.size
    have A10 : Hid (w10.heap[N]? = some (.cells #[.slice a n c] 37)) := (hm10.fr.block N (by omega) (by omega)).trans A9.out
    have P10 : Hid (PairsAt w10 w2.heap.size w3.heap.size a0 m c0 ys) := P9.out.keep (keeps_mk hm10 (by omega) (.inl (Nat.le_refl _)))
    have Q10 : Hid (PairsAt w10 W5.heap.size w6.heap.size a1 m c1 ys) := Q9.out.keep (keeps_mk hm10 (by omega) (.inr (by omega)))
    have OW10 : Hid (w10.ownsRow W5.heap.size 53 2 (.slice a1 m c1) m (rowsOf prCells ys)) := owns_fr OW9.out hm10.fr (fun g hg e => by have := (OW9.out.lt g hg).1; omega)
    clear hc1 hm10 A9 X9 MU9 P9 Q9 OW9 y90
    have hc := eqPairS_same a1 m c1 a0 c0 ys w10 W5.heap.size w6.heap.size w2.heap.size w3.heap.size (by omega) (by omega) Q10.out P10.out
    have hkd : decide ((kr : Int) < 0) = false := by simp
    go_upto_region 20 with (go_at_call 12; refine hc.mono ?_; rintro e w11 ⟨rfl, hb11⟩)
    have g11 := g10.trans (hb11.mono (by omega))
    have s11 := hb11.size
    have A11 : Hid (w11.heap[N]? = some (.cells #[.slice a n c] 37)) := (hb11.block N (by omega)).trans A10.out
    have P11 : Hid (PairsAt w11 w2.heap.size w3.heap.size a0 m c0 ys) := P10.out.below (hb11.mono (by omega))
    have OW11 : Hid (w11.ownsRow W5.heap.size 53 2 (.slice a1 m c1) m (rowsOf prCells ys)) := owns_below OW10.out hb11
    clear hc hb11 A10 P10 Q10 OW10 hkd
    have hc := markPairS_own a1 m c1 1 W5.heap.size _ w11 OW11.out (by omega)
    obtain ⟨kq, hkq⟩ : ∃ kq, 1 + 2 * m = kq := ⟨_, rfl⟩
    have hkq1 : kq ≤ 100000 := by omega
    rw [hkq] at hc
    have hc1 : Calls Try.prog 13 #[.slice a1 m c1, .int .i64 1] w11 fun e w' => e = .returned (.int .i64 (kq : Int)) ∧ w'.ownsRow W5.heap.size 53 2 (.slice a1 m c1) m (rowsOf prCells (mkZs 1 m)) ∧ Fr (fun b => some b = (Value.slice a1 m c1).ownBlock) w11 w' := hc
    have HKQ : Hid (1 + 2 * m = kq) := hkq
    have hlow : ∀ g, (Value.slice a1 m c1).ownBlock = some g → W5.heap.size ≤ g := fun g hg => (OW11.out.lt g hg).1
    clear hc hkq
    go_upto_region 22 with (go_at_call 13; refine hc1.mono ?_; rintro e w12 ⟨rfl, own12, fr12⟩)
    have fr12' : Fr (fun k => W5.heap.size ≤ k) w11 w12 := fr12.weak (fun k hk => hlow k hk.symm)
    have g12 := g11.trans (fr12'.below (B := N) (by omega) (fun k hk => by omega))
    have s12 := fr12.size
    have A12 : Hid (w12.heap[N]? = some (.cells #[.slice a n c] 37)) := (fr12'.block N (by omega) (by omega)).trans A11.out
    have P12 : Hid (PairsAt w12 w2.heap.size w3.heap.size a0 m c0 ys) := P11.out.keep (fun k h1 h2 => fr12'.block k (by omega) (by omega))
    obtain ⟨_, _, e9, Q12⟩ := pairs_of_own own12 (mkZs_len 1 m)
    cases e9
    have hc := heldPairS_same a1 m c1 1 w12 W5.heap.size w12.heap.size (Nat.le_refl _) Q12 (by omega)
    rw [HKQ.out] at hc
    have hc2 : Calls Try.prog 25 #[.slice a1 m c1, .int .i64 1] w12 fun e w' => e = .returned (.int .i64 (kq : Int)) ∧ Below w12.heap.size w12 w' := hc
    clear hc hc1 fr12 fr12' A11 P11 OW11 own12 Q12 hlow
    have hkd : decide ((kq : Int) < 0) = false := by simp
    have hkn : ((kq : Int) != (kq : Int)) = false := by simp
    go_upto_region 28 with (go_at_call 25; refine hc2.mono ?_; rintro e w13 ⟨rfl, hb13⟩)
    have g13 := g12.trans (hb13.mono (by omega))
    have s13 := hb13.size
    have A13 : Hid (w13.heap[N]? = some (.cells #[.slice a n c] 37)) := (hb13.block N (by omega)).trans A12.out
    have P13 : Hid (PairsAt w13 w2.heap.size w3.heap.size a0 m c0 ys) := P12.out.below (hb13.mono (by omega))
    clear hc2 hb13 A12 P12 hkd hkn
    have x130 := cell_one_at A13.out
    have l13 : N < w13.heap.size := by omega
    have hc := toTree_any a n c ts w13 0 N (by omega) (HT.out.below g13) hn HA.out
    go_wp2_with fail
    refine hc.mono ?_
    rintro e w14 ⟨gf, rfl, hT14, hb14⟩
    have g14 := g13.trans (hb14.mono (by omega))
    have s14 := hb14.size
    have P14 : Hid (PairsAt w14 w2.heap.size w3.heap.size a0 m c0 ys) := P13.out.below (hb14.mono (by omega))
    clear hc hb14 A13 P13 x130
    have hc := implScan_any ts lo hi _ n n w13.heap.size w14.heap.size w14 (Nat.le_refl _) hT14
    go_wp2_with fail
    refine hc.mono ?_
    rintro e w15 ⟨vs, hvs, a2, c2, rfl, own15, hb15⟩
    have hvz : vs = ys := scan_eq HZS.out hvs
    subst hvz
    rw [HM.out] at own15 ⊢
    have g15 := g14.trans (hb15.mono (by omega))
    have s15 := hb15.size
    have P15 : Hid (PairsAt w15 w2.heap.size w3.heap.size a0 m c0 vs) := P14.out.below (hb15.mono (by omega))
    obtain ⟨_, _, e9, Q15⟩ := pairs_of_own own15 HM.out
    cases e9
    have hc2 := eqPairS_same a2 m c2 a0 c0 vs w15 w14.heap.size w15.heap.size w2.heap.size w3.heap.size (Nat.le_refl _) (by omega) Q15 P15.out
    clear hc hb15 P14 own15 Q15 hvs hT14
    go_wp2_with fail
    refine hc2.mono ?_
    rintro e w16 ⟨rfl, hb16⟩
    have g16 := g15.trans (hb16.mono (by omega))
    clear hc2 hb16
    go_wp2_with fail
    go_ret
    exact ⟨rfl, g16⟩
end Go.Proofs.Ytpmagndofiaooaa
