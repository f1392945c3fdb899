import Derived.Test.YtpmagndofiaooaaTu
import Derived.Deep.QuietTactic
import Derived.BigQuiet
import Derived.Deep.RegionWith
import Derived.Deep.DeepCutAuto
namespace Go.Proofs.Ytpmagndofiaooaa
open Go.RowKit
set_option linter.unusedVariables false
set_option linter.unusedSimpArgs false
set_option maxRecDepth 100000

/-- As far as they are told alike. -/
def sameTo {α : Type} (xs ys : List α) (d : α) (j : Nat) : Prop := ∀ i, i < j → xs.getD i d = ys.getD i d
theorem sameTo.eq {α : Type} {xs ys : List α} {d : α} {n : Nat} (h : sameTo xs ys d n) (h1 : xs.length = n) (h2 : ys.length = n) : xs = ys := by
  apply List.ext_getElem (by omega)
  intro i hi hj
  have := h i (by omega)
  simpa [List.getD, hi, hj] using this
theorem sameTo.succ {α : Type} {xs ys : List α} {d : α} {j : Nat} (h : sameTo xs ys d j) (e : xs.getD j d = ys.getD j d) : sameTo xs ys d (j + 1) := fun i hi => by
  by_cases hij : i = j
  · subst hij; exact e
  · exact h i (by omega)
theorem listT_inj {a b : ByteArray} (h : a.toList = b.toList) : a = b := by
  have h1 := ByteArray.toList_eq a
  have h2 := ByteArray.toList_eq b
  rw [h1, h2] at h
  cases a; cases b
  simp at h ⊢
  exact h
theorem listT_ne {a b : ByteArray} (h : ¬ a = b) : (a.toList == b.toList) = false := by
  simpa using fun e => h (listT_inj e)
theorem drewB (w : World) (n : Nat) : Below w.heap.size w (w.drewN n) := ⟨rfl, rfl, rfl, Nat.le_refl _, fun _ _ => rfl⟩
set_option maxHeartbeats 4000000 in
theorem l3SameNode_any (x y : TN) (hov : x.over.length = x.vals.length) (ka : Option Addr) (kn kc : Nat) (va : Option Addr) (vn vc : Nat) (oa : Option Addr) (on oc : Nat) (ya : Option Addr) (yn yc : Nat) (ka2 : Option Addr) (kn2 kc2 : Nat) (va2 : Option Addr) (vn2 vc2 : Nat) (oa2 : Option Addr) (on2 oc2 : Nat) (ya2 : Option Addr) (yn2 yc2 : Nat) (w : World) (A B A2 B2 : Nat) (hB : B ≤ w.heap.size) (hB2 : B2 ≤ w.heap.size)
    (hK : StrsAt w A B ka kn kc x.keys) (hV : StrsAt w A B va vn vc x.vals) (hO : IntsAt w A B oa on oc x.over) (hY : IntsAt w A B ya yn yc x.kids) (hK2 : StrsAt w A2 B2 ka2 kn2 kc2 y.keys) (hV2 : StrsAt w A2 B2 va2 vn2 vc2 y.vals) (hO2 : IntsAt w A2 B2 oa2 on2 oc2 y.over) (hY2 : IntsAt w A2 B2 ya2 yn2 yc2 y.kids) :
    Calls Try.prog 65 #[.agg #[.bool x.leaf, .int .i64 x.page, .slice ka kn kc, .slice va vn vc, .slice oa on oc, .slice ya yn yc], .agg #[.bool y.leaf, .int .i64 y.page, .slice ka2 kn2 kc2, .slice va2 vn2 vc2, .slice oa2 on2 oc2, .slice ya2 yn2 yc2]] w fun e w' => ∃ r, e = .returned (.bool r) ∧ (r = true ↔ x = y) ∧ Below w.heap.size w w' := by
  obtain ⟨N, hN⟩ : ∃ N, w.heap.size = N := ⟨_, rfl⟩
  have HLEN : Hid (x.keys.length = kn ∧ x.vals.length = vn ∧ x.over.length = on ∧ x.kids.length = yn ∧ y.keys.length = kn2 ∧ y.vals.length = vn2 ∧ y.over.length = on2 ∧ y.kids.length = yn2) := ⟨hK.1, hV.1, hO.1, hY.1, hK2.1, hV2.1, hO2.1, hY2.1⟩
  have hovn : on = vn := by have := HLEN.out; omega
  subst hovn
  have b1 := Nat.le_trans hK.2.1 hK.2.2.1
  have b2 := Nat.le_trans hV.2.1 hV.2.2.1
  have b4 := Nat.le_trans hY.2.1 hY.2.2.1
  unfold maxLen at b1 b2 b4
  have HEX : Hid (x = y ↔ x.leaf = y.leaf ∧ x.page = y.page ∧ x.keys = y.keys ∧ x.vals = y.vals ∧ x.over = y.over ∧ x.kids = y.kids) := by
    show _ ↔ _
    constructor
    · rintro rfl; exact ⟨rfl, rfl, rfl, rfl, rfl, rfl⟩
    · intro h; cases x; cases y; simp at h ⊢; exact h
  obtain ⟨lf, hlf⟩ : ∃ q, q = x.leaf := ⟨_, rfl⟩
  obtain ⟨lf2, hlf2⟩ : ∃ q, q = y.leaf := ⟨_, rfl⟩
  obtain ⟨pg, hpg⟩ : ∃ q, q = x.page := ⟨_, rfl⟩
  obtain ⟨pg2, hpg2⟩ : ∃ q, q = y.page := ⟨_, rfl⟩
  rw [← hlf, ← hlf2, ← hpg, ← hpg2] at HEX ⊢
  clear hlf hlf2 hpg hpg2 hov
  have a2 := heap_alloc_new (w.alloc (.cells #[.bool lf, .int .i64 pg, .slice ka kn kc, .slice va on vc, .slice oa on oc, .slice ya yn yc] 92)) (.cells #[.bool lf2, .int .i64 pg2, .slice ka2 kn2 kc2, .slice va2 vn2 vc2, .slice oa2 on2 oc2, .slice ya2 yn2 yc2] 92)
  have a1 := heap_alloc_new w (.cells #[.bool lf, .int .i64 pg, .slice ka kn kc, .slice va on vc, .slice oa on oc, .slice ya yn yc] 92)
  have s1 : (w.alloc (.cells #[.bool lf, .int .i64 pg, .slice ka kn kc, .slice va on vc, .slice oa on oc, .slice ya yn yc] 92)).heap.size = N + 1 := by simp [hN]
  have kb := (Below.refl (w.alloc (.cells #[.bool lf, .int .i64 pg, .slice ka kn kc, .slice va on vc, .slice oa on oc, .slice ya yn yc] 92)).heap.size _).alloc (Nat.le_refl _) (.cells #[.bool lf2, .int .i64 pg2, .slice ka2 kn2 kc2, .slice va2 vn2 vc2, .slice oa2 on2 oc2, .slice ya2 yn2 yc2] 92)
  have bb : Below w.heap.size w ((w.alloc (.cells #[.bool lf, .int .i64 pg, .slice ka kn kc, .slice va on vc, .slice oa on oc, .slice ya yn yc] 92)).alloc (.cells #[.bool lf2, .int .i64 pg2, .slice ka2 kn2 kc2, .slice va2 vn2 vc2, .slice oa2 on2 oc2, .slice ya2 yn2 yc2] 92)) := ((Below.refl _ _).alloc (Nat.le_refl _) _).alloc (by simp) _
  rw [hN] at a1
  have a1' := (kb.block N (by omega)).trans a1
  have s2 : ((w.alloc (.cells #[.bool lf, .int .i64 pg, .slice ka kn kc, .slice va on vc, .slice oa on oc, .slice ya yn yc] 92)).alloc (.cells #[.bool lf2, .int .i64 pg2, .slice ka2 kn2 kc2, .slice va2 vn2 vc2, .slice oa2 on2 oc2, .slice ya2 yn2 yc2] 92)).heap.size = N + 2 := by simp [hN]
  rw [s1] at a2
  have cK := hK.below (bb.mono hB)
  have cV := hV.below (bb.mono hB)
  have cO := hO.below (bb.mono hB)
  have cY := hY.below (bb.mono hB)
  have cK2 := hK2.below (bb.mono hB2)
  have cV2 := hV2.below (bb.mono hB2)
  have cO2 := hO2.below (bb.mono hB2)
  have cY2 := hY2.below (bb.mono hB2)
  clear a1 s1 kb hK hV hO hY hK2 hV2 hO2 hY2
  go_enter Try.func65, Try.ntmps65
  go_upto_region 1 with fail
  generalize ((w.alloc (.cells #[.bool lf, .int .i64 pg, .slice ka kn kc, .slice va on vc, .slice oa on oc, .slice ya yn yc] 92)).alloc (.cells #[.bool lf2, .int .i64 pg2, .slice ka2 kn2 kc2, .slice va2 vn2 vc2, .slice oa2 on2 oc2, .slice ya2 yn2 yc2] 92)) = W0 at a1' a2 s2 bb cK cV cO cY cK2 cV2 cO2 cY2 ⊢
  obtain ⟨x0, x1, x2, x3, x4, x5⟩ := box6 a1'
  obtain ⟨y0, y1, y2, y3, y4, y5⟩ := box6 a2
  have l0 : N < W0.heap.size := by omega
  have l1 : N + 1 < W0.heap.size := by omega
  obtain ⟨G, hG⟩ : ∃ G, G = (decide (lf = lf2) && decide (pg = pg2) && decide (kn = kn2) && decide (on = vn2) && decide (on = on2) && decide (yn = yn2)) := ⟨_, rfl⟩
  have HG : Hid (G = (decide (lf = lf2) && decide (pg = pg2) && decide (kn = kn2) && decide (on = vn2) && decide (on = on2) && decide (yn = yn2))) := hG
  clear hG
  go_cut [55] (fun c wx => c = .bool (!G) ∧ wx = W0)
  case first =>
    by_cases t1 : lf = lf2
    rotate_left
    · have hz : G = false := by rw [HG.out]; simp [t1]
      have sb : (lf != lf2) = true := by cases lf <;> cases lf2 <;> first | rfl | exact absurd rfl t1
      go_wp2_with fail
      go_meet
      exact ⟨by rw [hz]; rfl, rfl⟩
    subst t1
    have sb : (lf != lf) = false := by simp
    by_cases t2 : pg = pg2
    rotate_left
    · have hz : G = false := by rw [HG.out]; simp [t2]
      have sp : (pg != pg2) = true := by simpa using t2
      go_wp2_with fail
      go_meet
      exact ⟨by rw [hz]; rfl, rfl⟩
    subst t2
    have sp : (pg != pg) = false := by simp
    by_cases t3 : kn = kn2
    rotate_left
    · have hz : G = false := by rw [HG.out]; simp [t3]
      have sk : ((kn : Int) != (kn2 : Int)) = true := by simp; omega
      go_wp2_with fail
      go_meet
      exact ⟨by rw [hz]; rfl, rfl⟩
    subst t3
    have sk : ((kn : Int) != (kn : Int)) = false := by simp
    by_cases t4 : on = vn2
    rotate_left
    · have hz : G = false := by rw [HG.out]; simp [t4]
      have sv : ((on : Int) != (vn2 : Int)) = true := by simp; omega
      go_wp2_with fail
      go_meet
      exact ⟨by rw [hz]; rfl, rfl⟩
    subst t4
    have sv : ((on : Int) != (on : Int)) = false := by simp
    by_cases t5 : on = on2
    rotate_left
    · have hz : G = false := by rw [HG.out]; simp [t5]
      have so : ((on : Int) != (on2 : Int)) = true := by simp; omega
      go_wp2_with fail
      go_meet
      exact ⟨by rw [hz]; rfl, rfl⟩
    subst t5
    have hz : G = decide (yn = yn2) := by rw [HG.out]; simp
    go_wp2_with fail
    go_meet
    exact ⟨by rw [hz]; by_cases h : yn = yn2 <;> simp [h]; omega, rfl⟩
  case rest =>
    obtain ⟨rfl, rfl⟩ := hcut
    by_cases tg : G = true
    rotate_left
    · have sg : G = false := by simpa using tg
      have hne : ¬ x = y := by
        rw [HEX.out]
        rintro ⟨h1, h2, h3, h4, h5, h6⟩
        have hl := HLEN.out
        have := HG.out
        rw [sg] at this
        rw [h3, h4, h5, h6] at hl
        simp [h1, h2] at this
        omega
      subst sg
      go_wp2_with fail
      go_ret
      exact ⟨false, rfl, by simp [hne], bb⟩
    subst tg
    have hall := HG.out
    simp only [Bool.true_eq, Bool.and_eq_true, decide_eq_true_eq] at hall
    obtain ⟨⟨⟨⟨⟨rfl, rfl⟩, rfl⟩, rfl⟩, hoo⟩, rfl⟩ := hall
    subst hoo
    clear HG x0 x1 x2 x3 x4 x5 y0 y1 y2 y3 y4 y5
    have sk : ((kn : Int) != (kn : Int)) = false := by simp
    go_wp2_with fail
    go_loopw [5] (fun i wr => ∃ j : Nat, j ≤ kn ∧ i = .int .i64 j ∧ Hid (sameTo x.keys y.keys ByteArray.empty j) ∧ Below wc.heap.size wc wr) (fun i _ => kn - (intOf i).toNat)
    case atStart => exact ⟨0, Nat.zero_le _, rfl, fun i hi => by omega, Below.refl _ _⟩
    case round =>
      obtain ⟨j, hj, rfl, HS, hbel⟩ := hrel
      have e1 := (hbel.block N (by omega)).trans a1'
      have e2 := (hbel.block (N + 1) (by omega)).trans a2
      obtain ⟨x0, x1, x2, x3, x4, x5⟩ := box6 e1
      obtain ⟨y0, y1, y2, y3, y4, y5⟩ := box6 e2
      have m0 : N < wr.heap.size := by have := hbel.size; omega
      have m1 : N + 1 < wr.heap.size := by have := hbel.size; omega
      by_cases hlt : j < kn
      · obtain ⟨kb, koff, rfl, hkb, hfk, ek⟩ := StrsAt.at (cK.below (hbel.mono (by omega))) hlt
        obtain ⟨kb2, koff2, rfl, hkb2, hfk2, ek2⟩ := StrsAt.at (cK2.below (hbel.mono (by omega))) hlt
        have hs := hbel.size
        have u1 : kb < wr.heap.size := by omega
        have u2 : kb2 < wr.heap.size := by omega
        have HSU : Hid (x.keys.getD j ByteArray.empty = y.keys.getD j ByteArray.empty → sameTo x.keys y.keys ByteArray.empty (j + 1)) := fun e => HS.out.succ e
        have HNE : Hid (¬ x.keys.getD j ByteArray.empty = y.keys.getD j ByteArray.empty → ¬ x = y) := fun h e => h (by rw [e])
        generalize x.keys.getD j ByteArray.empty = s1 at ek HSU HNE hfk
        generalize y.keys.getD j ByteArray.empty = s2 at ek2 HSU HNE hfk2
        by_cases te : s1 = s2
        · subst te
          have HS2 : Hid _ := HSU.out rfl
          clear HSU HNE HS
          go_wp2_with fail
          go_quiet (fail)
          have hb2 := hbel.trans ((drewB wr nq).mono hbel.size)
          go_wp2_with fail
          go_roundw
          case rel => exact ⟨j + 1, by omega, by go_num, HS2, hb2⟩
          case measure => simp [intOf]; omega
        · have hne := HNE.out te
          have sf := listT_ne te
          clear HSU HNE HS
          go_wp2_with fail
          go_quiet (fail)
          go_wp2_with fail
          go_ret
          exact ⟨false, rfl, by simp [hne], bb.trans ((hbel.trans ((drewB wr nq).mono hbel.size)).mono (by omega))⟩
      · have HKE : Hid (x.keys = y.keys) := by
          have hl := HLEN.out
          obtain rfl : j = kn := by omega
          exact HS.out.eq hl.1 hl.2.2.2.2.1
        generalize wr = V at hbel e1 e2 x0 x1 x2 x3 x4 x5 y0 y1 y2 y3 y4 y5 m0 m1 ⊢
        go_wp2_with fail
        clear x0 x1 x2 x3 x4 x5 y0 y1 y2 y3 y4 y5 e1 e2 m0 m1 HS hlt hj
        go_loopw [6] (fun i wr => ∃ j : Nat, j ≤ on ∧ i = .int .i64 j ∧ Hid (sameTo x.vals y.vals ByteArray.empty j ∧ sameTo x.over y.over 0 j) ∧ Below wc.heap.size wc wr) (fun i _ => on - (intOf i).toNat)
        case atStart => exact ⟨0, Nat.zero_le _, rfl, ⟨fun i hi => by omega, fun i hi => by omega⟩, hbel⟩
        case round =>
          clear hbel
          obtain ⟨j, hj, rfl, HS, hbel⟩ := hrel
          have e1 := (hbel.block N (by omega)).trans a1'
          have e2 := (hbel.block (N + 1) (by omega)).trans a2
          obtain ⟨x0, x1, x2, x3, x4, x5⟩ := box6 e1
          obtain ⟨y0, y1, y2, y3, y4, y5⟩ := box6 e2
          have m0 : N < wr.heap.size := by have := hbel.size; omega
          have m1 : N + 1 < wr.heap.size := by have := hbel.size; omega
          by_cases hlt : j < on
          · obtain ⟨kb, koff, rfl, hkb, hfk, ek⟩ := StrsAt.at (cV.below (hbel.mono (by omega))) hlt
            obtain ⟨kb2, koff2, rfl, hkb2, hfk2, ek2⟩ := StrsAt.at (cV2.below (hbel.mono (by omega))) hlt
            obtain ⟨ob, ooff, rfl, hob, hfo, eo⟩ := IntsAt.at (cO.below (hbel.mono (by omega))) hlt
            obtain ⟨ob2, ooff2, rfl, hob2, hfo2, eo2⟩ := IntsAt.at (cO2.below (hbel.mono (by omega))) hlt
            have hs := hbel.size
            have u1 : kb < wr.heap.size := by omega
            have u2 : kb2 < wr.heap.size := by omega
            have u3 : ob < wr.heap.size := by omega
            have u4 : ob2 < wr.heap.size := by omega
            have HSU : Hid (x.vals.getD j ByteArray.empty = y.vals.getD j ByteArray.empty → x.over.getD j 0 = y.over.getD j 0 → sameTo x.vals y.vals ByteArray.empty (j + 1) ∧ sameTo x.over y.over 0 (j + 1)) := fun e e' => ⟨HS.out.1.succ e, HS.out.2.succ e'⟩
            have HNE : Hid (¬ (x.vals.getD j ByteArray.empty = y.vals.getD j ByteArray.empty ∧ x.over.getD j 0 = y.over.getD j 0) → ¬ x = y) := fun h e => h (by rw [e]; exact ⟨rfl, rfl⟩)
            generalize x.vals.getD j ByteArray.empty = s1 at ek HSU HNE hfk
            generalize y.vals.getD j ByteArray.empty = s2 at ek2 HSU HNE hfk2
            generalize x.over.getD j 0 = o1 at eo HSU HNE hfo
            generalize y.over.getD j 0 = o2 at eo2 HSU HNE hfo2
            by_cases te : s1 = s2
            · subst te
              by_cases tz : o1 = o2
              · subst tz
                have so : (o1 != o1) = false := by simp
                have HS2 : Hid _ := HSU.out rfl rfl
                clear HSU HNE HS
                go_wp2_with fail
                go_quiet (fail)
                have hb2 := hbel.trans ((drewB wr nq).mono hbel.size)
                go_wp2_with fail
                go_roundw
                case rel => exact ⟨j + 1, by omega, by go_num, HS2, hb2⟩
                case measure => simp [intOf]; omega
              · have hne := HNE.out (fun h => tz h.2)
                have so : (o1 != o2) = true := by simpa using tz
                clear HSU HNE HS tz
                go_wp2_with fail
                go_quiet (fail)
                go_wp2_with fail
                go_ret
                exact ⟨false, rfl, by simp [hne], bb.trans ((hbel.trans ((drewB wr nq).mono hbel.size)).mono (by omega))⟩
            · have hne := HNE.out (fun h => te h.1)
              have sf := listT_ne te
              clear HSU HNE HS
              go_wp2_with fail
              go_quiet (fail)
              go_wp2_with fail
              go_ret
              exact ⟨false, rfl, by simp [hne], bb.trans ((hbel.trans ((drewB wr nq).mono hbel.size)).mono (by omega))⟩
          · have HVE : Hid (x.vals = y.vals ∧ x.over = y.over) := by
              have hl := HLEN.out
              obtain rfl : j = on := by omega
              exact ⟨HS.out.1.eq hl.2.1 hl.2.2.2.2.2.1, HS.out.2.eq hl.2.2.1 hl.2.2.2.2.2.2.1⟩
            generalize wr = V at hbel e1 e2 x0 x1 x2 x3 x4 x5 y0 y1 y2 y3 y4 y5 m0 m1 ⊢
            go_wp2_with fail
            clear x0 x1 x2 x3 x4 x5 y0 y1 y2 y3 y4 y5 e1 e2 m0 m1 HS hlt hj
            go_loopw [7] (fun i wr => ∃ j : Nat, j ≤ yn ∧ i = .int .i64 j ∧ Hid (sameTo x.kids y.kids 0 j) ∧ Below wc.heap.size wc wr) (fun i _ => yn - (intOf i).toNat)
            case atStart => exact ⟨0, Nat.zero_le _, rfl, fun i hi => by omega, hbel⟩
            case round =>
              clear hbel
              obtain ⟨j, hj, rfl, HS, hbel⟩ := hrel
              have e1 := (hbel.block N (by omega)).trans a1'
              have e2 := (hbel.block (N + 1) (by omega)).trans a2
              obtain ⟨x0, x1, x2, x3, x4, x5⟩ := box6 e1
              obtain ⟨y0, y1, y2, y3, y4, y5⟩ := box6 e2
              have m0 : N < wr.heap.size := by have := hbel.size; omega
              have m1 : N + 1 < wr.heap.size := by have := hbel.size; omega
              by_cases hlt : j < yn
              · obtain ⟨ob, ooff, rfl, hob, hfo, eo⟩ := IntsAt.at (cY.below (hbel.mono (by omega))) hlt
                obtain ⟨ob2, ooff2, rfl, hob2, hfo2, eo2⟩ := IntsAt.at (cY2.below (hbel.mono (by omega))) hlt
                have hs := hbel.size
                have u3 : ob < wr.heap.size := by omega
                have u4 : ob2 < wr.heap.size := by omega
                have HSU : Hid (x.kids.getD j 0 = y.kids.getD j 0 → sameTo x.kids y.kids 0 (j + 1)) := fun e => HS.out.succ e
                have HNE : Hid (¬ x.kids.getD j 0 = y.kids.getD j 0 → ¬ x = y) := fun h e => h (by rw [e])
                generalize x.kids.getD j 0 = o1 at eo HSU HNE hfo
                generalize y.kids.getD j 0 = o2 at eo2 HSU HNE hfo2
                by_cases tz : o1 = o2
                · subst tz
                  have so : (o1 != o1) = false := by simp
                  have HS2 : Hid _ := HSU.out rfl
                  clear HSU HNE HS
                  go_wp2_with fail
                  go_quiet (fail)
                  have hb2 := hbel.trans ((drewB wr nq).mono hbel.size)
                  go_wp2_with fail
                  go_roundw
                  case rel => exact ⟨j + 1, by omega, by go_num, HS2, hb2⟩
                  case measure => simp [intOf]; omega
                · have hne := HNE.out tz
                  have so : (o1 != o2) = true := by simpa using tz
                  clear HSU HNE HS tz
                  go_wp2_with fail
                  go_quiet (fail)
                  go_wp2_with fail
                  go_ret
                  exact ⟨false, rfl, by simp [hne], bb.trans ((hbel.trans ((drewB wr nq).mono hbel.size)).mono (by omega))⟩
              · have hyes : x = y := by
                  have hl := HLEN.out
                  obtain rfl : j = yn := by omega
                  rw [HEX.out]
                  exact ⟨trivial, trivial, HKE.out, HVE.out.1, HVE.out.2, HS.out.eq hl.2.2.2.1 hl.2.2.2.2.2.2.2⟩
                have HYE : Hid (x = y) := hyes
                clear hyes HS
                go_wp2_with fail
                go_ret
                exact ⟨true, rfl, by simp [HYE.out], bb.trans (hbel.mono (by omega))⟩
end Go.Proofs.Ytpmagndofiaooaa
