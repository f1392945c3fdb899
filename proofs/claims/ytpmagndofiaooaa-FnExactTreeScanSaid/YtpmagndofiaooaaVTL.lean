import Derived.Test.YtpmagndofiaooaaTgh
import Derived.Test.YtpmagndofiaooaaTq
import Derived.Test.YtpmagndofiaooaaTu
import Derived.Deep.RegionWith
namespace Go.Proofs.Ytpmagndofiaooaa
open Go.RowKit
set_option linter.unusedVariables false
set_option linter.unusedSimpArgs false
set_option maxRecDepth 100000

theorem smallT_of {ts : List TN} {n : Nat} (hl : ts.length = n) (hw : wTNs ts ≤ 1048576) : n ≤ 1048576 ∧ SmallT ts := by
  have h1 := wTNs_len ts
  refine ⟨by omega, fun j hj => ?_⟩
  have h2 := wTNs_get ts j hj
  have h3 := wStrs_len (ts.getD j dT).keys
  have h4 := wStrs_len (ts.getD j dT).vals
  unfold wTN at h2
  omega
set_option maxHeartbeats 2000000 in
theorem law_ValidTree (a : Option Addr) (n c : Nat) (ts : List TN) (w : World) (hT : NodesAt w 0 w.heap.size a n c ts) :
    Calls Try.prog 4 #[.agg #[.slice a n c]] w fun e w' => e = .returned (.bool true) ∧ Below w.heap.size w w' := by
  have hb0 : Below w.heap.size w (w.alloc (.cells #[.slice a n c] 37)) := (Below.refl _ _).alloc (Nat.le_refl _) _
  go_enter Try.func4, Try.ntmps4
  go_wp2_with fail
  refine (szTree_any a n c ts _ _ (by omega) (by omega) 0 w.heap.size (by simp) (hT.below hb0)).mono ?_
  rintro e w1 ⟨r, rfl, hr, hb1⟩
  have g1 := hb0.trans (hb1.mono (by simp))
  have hz1 := hb1.size
  simp at hz1
  have k1 : w.heap.size < w1.heap.size := by omega
  have A1 : Hid (w1.heap[w.heap.size]? = some (.cells #[.slice a n c] 37)) := (hb1.block _ (by simp)).trans (heap_alloc_new w _)
  have x10 := cell_one_at A1.out
  by_cases t1 : r < 0
  · go_wp2_with fail
    go_ret
    exact ⟨rfl, g1⟩
  · have hw := hr.2.2 (by omega)
    obtain ⟨hn, hall⟩ := smallT_of hT.1 (by omega)
    have HA : Hid (SmallT ts) := hall
    have HT : Hid (NodesAt w 0 w.heap.size a n c ts) := hT
    clear hw hr hall hT
    go_wp2_with fail
    refine (toTree_any a n c ts _ 0 w.heap.size g1.size (HT.out.below g1) hn HA.out).mono ?_
    rintro e w2 ⟨ga, rfl, hT2, hb2⟩
    have g2 := g1.trans (hb2.mono g1.size)
    have hz2 := hb2.size
    have k2 : w.heap.size < w2.heap.size := by omega
    have A2 : Hid (w2.heap[w.heap.size]? = some (.cells #[.slice a n c] 37)) := (hb2.block _ k1).trans A1.out
    have x20 := cell_one_at A2.out
    go_wp2_with fail
    refine (specValidT_any ts _ n n w1.heap.size w2.heap.size w2 (Nat.le_refl _) hT2).mono ?_
    rintro e w3 ⟨r1, rfl, hr1, hb3⟩
    have g3 := g2.trans (hb3.mono g2.size)
    have hz3 := hb3.size
    have k3 : w.heap.size < w3.heap.size := by omega
    have A3 : Hid (w3.heap[w.heap.size]? = some (.cells #[.slice a n c] 37)) := (hb3.block _ k2).trans A2.out
    have x30 := cell_one_at A3.out
    clear hT2 hb1 hb2 hb3 x10 x20
    go_wp2_with fail
    refine (toTree_any a n c ts _ 0 w.heap.size g3.size (HT.out.below g3) hn HA.out).mono ?_
    rintro e w4 ⟨gc, rfl, hT4, hb4⟩
    have g4 := g3.trans (hb4.mono g3.size)
    have hz4 := hb4.size
    have k4 : w.heap.size < w4.heap.size := by omega
    have A4 : Hid (w4.heap[w.heap.size]? = some (.cells #[.slice a n c] 37)) := (hb4.block _ k3).trans A3.out
    go_wp2_with fail
    have b5 : Below w4.heap.size w4 (w4.alloc (.cells #[.slice (some ⟨gc, 0, none⟩) n n] 26)) := (Below.refl _ _).alloc (Nat.le_refl _) _
    have hT5 := hT4.below b5
    have g5 := g4.alloc (by omega) (.cells #[.slice (some ⟨gc, 0, none⟩) n n] 26)
    refine (implValidT_any ts _ n n w3.heap.size w4.heap.size _ (by simp) hT5).mono ?_
    rintro e w6 ⟨r2, rfl, hr2, hb6⟩
    have g6 := g5.trans (hb6.mono (by simp; omega))
    have hz6 := hb6.size
    simp at hz6
    have k6 : w.heap.size < w6.heap.size := by omega
    have A6 : Hid (w6.heap[w.heap.size]? = some (.cells #[.slice a n c] 37)) := (hb6.block _ (by simp; omega)).trans ((b5.block _ k4).trans A4.out)
    have X6 : Hid (w6.heap[w4.heap.size]? = some (.cells #[.slice (some ⟨gc, 0, none⟩) n n] 26)) := (hb6.block _ (by simp)).trans (heap_alloc_new w4 _)
    have x60 := cell_one_at A6.out
    have y60 := cell_one_at X6.out
    have hT6 := hT5.below (hb6.mono (by simp))
    have hre : r2 = r1 := by
      rw [Bool.eq_iff_iff]
      exact hr2.trans ((valid_iff ts).symm.trans hr1.symm)
    subst hre
    have sV : (r2 != r2) = false := by cases r2 <;> rfl
    clear hT5 hT4 b5 hb4 x30 hr1 hr2
    go_upto_region 10 with fail
    have hTd : NodesAt w6.drew 0 w.heap.size a n c ts := HT.out.below g6.drew
    have k46 : w4.heap.size < w6.heap.size := by omega
    go_region_with (first | (go_at_call 18; refine (toTree_any a n c ts w6.drew 0 w.heap.size g6.size hTd hn HA.out).mono ?_; rintro e w7 ⟨ge, rfl, hT7, hb7⟩; have hb7' : Below w6.heap.size w6 w7 := ((Below.refl _ w6).drew).trans hb7; have y70 := cell_one_at ((hb7'.block _ k46).trans X6.out)) | (go_at_call 11; refine (eqTree_same _ n n _ n ts w7 w3.heap.size w4.heap.size w6.drew.heap.size w7.heap.size ?_ (Nat.le_refl _) ?_ hT7).mono ?_; exact Nat.le_trans (Nat.le_of_lt k46) hb7'.size; exact hT6.below (hb7'.mono (Nat.le_of_lt k46)); rintro e w8 ⟨rfl, hb8⟩))
    all_goals
      have g8 : Below w.heap.size w w8 := (g6.trans (hb7'.mono g6.size)).trans (hb8.mono (Nat.le_trans g6.size hb7'.size))
      go_wp2_with fail
      go_ret
      exact ⟨rfl, g8⟩
end Go.Proofs.Ytpmagndofiaooaa
