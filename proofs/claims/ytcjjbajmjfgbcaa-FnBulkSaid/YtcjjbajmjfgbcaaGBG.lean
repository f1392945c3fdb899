import Derived.Test.YtcjjbajmjfgbcaaTlr
import Derived.Test.YtcjjbajmjfgbcaaTgh
import Derived.Test.YtcjjbajmjfgbcaaGBF
import Derived.Laws.Cover1
namespace Go.Proofs.Ytcjjbajmjfgbcaa
open Go.RowKit
set_option linter.unusedVariables false
set_option linter.unusedSimpArgs false
set_option maxRecDepth 100000
def topT (ts : List TN) : Option T := match gr ts (ts.length + 1) 0 (fun _ => false) with
 | some (t, nx, _) => if ts.length ≤ 1000 ∧ nx = ts.length ∧ t.slots.all (fun s => kyB s.1) = true ∧ ascB (t.slots.map (fun s => s.1)) = true then some t else none
 | none => none
theorem topT_no {ts : List TN} (h : ¬ ImplOk ts) : topT ts = none := by
 unfold topT
 split
 ·rename_i t nx met hg
  split
  ·rename_i hc
   obtain ⟨h1, rfl, h3, h4⟩ := hc
   exact absurd ⟨h1, t, met, hg, h3, h4⟩ h
  ·rfl
 ·rfl
theorem topT_yes {ts : List TN} {t : T} {met : Int → Bool} (h : ImplOk ts) (hg : gr ts (ts.length + 1) 0 (fun _ => false) = some (t, ts.length, met)) : topT ts = some t := by
 obtain ⟨h1, t2, m2, e, h3, h4⟩ := h
 rw [hg] at e
 simp only [Option.some.injEq, Prod.mk.injEq] at e
 obtain ⟨rfl, _, rfl⟩ := e
 unfold topT
 rw [hg]
 simp only [h1, h3, h4, and_self, if_true]
theorem topT_good {ts : List TN} {t : T} (h : topT ts = some t) : ImplOk ts ∧ (∃ met, gr ts (ts.length + 1) 0 (fun _ => false) = some (t, ts.length, met)) ∧ t.good true = true ∧ Shape t ∧ 0 ≤ t.ht ∧ t.nodes ≤ 1000 ∧ SortT t.slots ∧ t.slots.all (fun s => kyB s.1) = true := by
 by_cases hi : ImplOk ts
 ·obtain ⟨h1, t2, m2, e, h3, h4⟩ := hi
  have := topT_yes ⟨h1, t2, m2, e, h3, h4⟩ e
  rw [h] at this
  simp only [Option.some.injEq] at this
  subst this
  obtain ⟨gs1, gs2, gs3, gs4, gs5, gs6, gs7, gs8⟩ := gr_some ts _ 0 _ t _ _ (Nat.zero_le _) e
  exact ⟨⟨h1, t, m2, e, h3, h4⟩, ⟨m2, e⟩, gs5, gs3, gs6, by have := gs4.1; omega, sort_of_asc h4, h3⟩
 ·rw [topT_no hi] at h; cases h
def putR (ts : List TN) (key val : ByteArray) : Bool × List TN := match topT ts with
 | none => (false, ts)
 | some t => if kyB key = true ∧ val.size ≤ 400 ∧ (rootP key val t).nodes ≤ 1000 then (true, (rootP key val t).flat 0) else (false, ts)
def TreeAns (w : World) (r : Bool × List TN) (e : Ending) (w' : World) : Prop := ∃ oa oc us, e = .returned (.agg #[.bool r.1, .slice oa r.2.length oc]) ∧ OwnT w' w.heap.size (.slice oa r.2.length oc) (r.2.map TN.nd) us ∧ Below w.heap.size w w'
theorem box_twoR {w : World} {N : Nat} {v0 v1 : Value} {t : TypeId} (h : w.heap[N]? = some (.cells #[v0, v1] t)) : w.cell? ⟨N, 0, none⟩ = some v0 ∧ w.cell? ⟨N, 1, none⟩ = some v1 := by
 simp [World.cell?, h]
theorem treeAns_lay {w V : World} {R b m c : Nat} {oa : Option Addr} {ns : List ND} {us : Nat → Nat → Value} {v0 v1 : Value} (hR : w.heap.size ≤ R) (hbx : V.heap[R]? = some (.cells #[v0, v1] 34)) (hO : OwnT V b (.slice oa m c) ns us) (hb : R < b) (hbel : Below w.heap.size w V) (ok : Bool) :
  OwnT ((V.setCell ⟨R, 0, none⟩ (.bool ok)).setCell ⟨R, 1, none⟩ (.slice oa m c)) w.heap.size (.slice oa m c) ns us ∧ Below w.heap.size w ((V.setCell ⟨R, 0, none⟩ (.bool ok)).setCell ⟨R, 1, none⟩ (.slice oa m c)) ∧ ((V.setCell ⟨R, 0, none⟩ (.bool ok)).setCell ⟨R, 1, none⟩ (.slice oa m c)).heap[R]? = some (.cells #[.bool ok, .slice oa m c] 34) := by
 have f1 := fr_setT V R 0 (.bool ok)
 have f2 := fr_setT (V.setCell ⟨R, 0, none⟩ (.bool ok)) R 1 (.slice oa m c)
 have hlR := (Array.getElem?_eq_some_iff.1 hbx).1
 have f3 : Fr (fun k => k = R) V ((V.setCell ⟨R, 0, none⟩ (.bool ok)).setCell ⟨R, 1, none⟩ (.slice oa m c)) := f1.trans f2
 refine ⟨(hO.fr f3 (fun g hg e => by have := (hO.blk hg).1; omega)).lower (by omega), hbel.trans (f3.below hbel.size (fun g e => by omega)), ?_⟩
 have h1 := heap_setT hbx 0 (.bool ok)
 have h2 := heap_setT h1 1 (.slice oa m c)
 simpa using h2
set_option maxHeartbeats 8000000 in
theorem implPut_any (ts : List TN) (a : Option Addr) (n c A B : Nat) (w : World) (hB : B ≤ w.heap.size) (hT : NodesAt w A B a n c ts) (hn : n ≤ 1048576) (hb : ∀ x ∈ ts, NodeLen x) (key val : ByteArray) (hvs : val.size ≤ 1048576) :
  Calls Try.prog 11 #[.agg #[.slice a n c], .string key, .string val] w fun e w' => TreeAns w (putR ts key val) e w' := by
 obtain ⟨N, hN⟩ : ∃ N, w.heap.size = N := ⟨_, rfl⟩
 obtain ⟨W, hW⟩ : ∃ W, W = (w.alloc (.cells #[.slice a n c] 27)).alloc (.cells #[.bool false, .slice none 0 0] 34) := ⟨_, rfl⟩
 have hbw : Below w.heap.size w W := by rw [hW]; exact ((Below.refl _ _).alloc (Nat.le_refl _) _).alloc (by simp) _
 have sW : W.heap.size = N + 2 := by rw [hW]; simp [hN]
 have k0 : W.heap[N]? = some (.cells #[.slice a n c] 27) := by
  rw [hW, ← hN]
  exact (((Below.refl (w.alloc (.cells #[.slice a n c] 27)).heap.size _).alloc (Nat.le_refl _) _).block w.heap.size (by simp)).trans (heap_alloc_new w _)
 have k1 : W.heap[N + 1]? = some (.cells #[.bool false, .slice none 0 0] 34) := by
  rw [hW]
  have := heap_alloc_new (w.alloc (.cells #[.slice a n c] 27)) (.cells #[.bool false, .slice none 0 0] 34)
  rwa [show (w.alloc (.cells #[.slice a n c] 27)).heap.size = N + 1 by simp [hN]] at this
 have HT : Hid (∀ V, Below N w V → NodesAt V A B a n c ts) := fun V h => hT.below (h.mono (by omega))
 have HL : Hid (ts.length = n) := hT.1
 have HNB : Hid (∀ x ∈ ts, NodeLen x) := hb
 rw [hN] at hbw
 have hgrow := grow_any ts a n c A B W (by omega) (HT.out W hbw)
 have hky := isKey_any key
 have x0 : W.cell? ⟨N, 0, none⟩ = some (.slice a n c) := by simp [World.cell?, k0]
 have l0 : N < W.heap.size := by omega
 have HCP : Hid (∀ V, Below N w V → Calls Try.prog 33 #[.agg #[.slice a n c]] V fun e w' => ∃ oa oc us, e = .returned (.agg #[.slice oa n oc]) ∧ OwnT w' V.heap.size (.slice oa n oc) (ts.map TN.nd) us ∧ Below V.heap.size V w') := fun V h => copyTree_any ts a n c A B V (by have := h.size; omega) (HT.out V h) hn hb
 clear hT hb
 go_enter Try.func11, Try.ntmps11
 go_upto_region 1 with fail
 rw [← hW]
 clear hW
 go_wp2_with fail
 refine hgrow.mono ?_
 rintro e w1 ⟨hno, hyes, hb1⟩
 have s1 := hb1.size
 have k01 := (hb1.block N (by omega)).trans k0
 have k11 := (hb1.block (N + 1) (by omega)).trans k1
 have bw1 : Below N w w1 := hbw.trans (hb1.mono (by omega))
 clear hgrow x0 k0 k1
 have x0 : w1.cell? ⟨N, 0, none⟩ = some (.slice a n c) := by simp [World.cell?, k01]
 have l0 : N < w1.heap.size := by omega
 by_cases hok : ImplOk ts
 ·obtain ⟨t, met, u, hgr, hkys, hasc, rfl, hGM⟩ := hyes hok
  have htop := topT_yes hok hgr
  obtain ⟨_, _, g5, g3, g6, gn, gso, gky⟩ := topT_good htop
  obtain ⟨ty, v, rfl⟩ := hGM.shape
  clear hno hyes
  by_cases hk : kyB key = true
  ·by_cases hv : val.size ≤ 400
   ·have hd : ¬ ((400 : Int) < (val.size : Int)) := by omega
    have HOK : Hid (topT ts = some t) := htop
    obtain ⟨hna, f, r, hme, hcf, hcall⟩ := putOk_all key val hv t true (by omega) g5 g6 g3 gso w1 _ ty v hGM (fun b hb => hb.2)
    have hcf2 := hcf (.agg #[.string key, .string val, .int .i64 0])
    obtain ⟨rg, rs, rw', rn, rk⟩ := rootP_ok (key := key) (val := val) hv hk g5 g3 gky
    have HRP : Hid ((rootP key val t).whole = true ∧ (rootP key val t).nodes ≤ 2001 ∧ Shape (rootP key val t)) := ⟨rw', by omega, rs⟩
    have hs5 : (putT key val t).size ≤ 5 := (soft_put key val hv t true g5 g3).size.2
    have HKV : Hid (kyB key = true ∧ val.size ≤ 400) := ⟨hk, hv⟩
    have HHK : Hid (∀ W, Calls Try.prog 17 #[.string key] W fun e w' => e = .returned (.bool true) ∧ w' = W) := fun W => by have := hky W; rw [hk] at this; exact this
    have HRT : Hid (rootP key val t = if (putT key val t).size ≤ 4 then putT key val t else ⟨false, 0, [], [], [], cutT (putT key val t)⟩) := rfl
    have HPR : Hid (putR ts key val = if kyB key = true ∧ val.size ≤ 400 ∧ (rootP key val t).nodes ≤ 1000 then (true, (rootP key val t).flat 0) else (false, ts)) := by
     show _ = _
     unfold putR
     rw [htop]
    clear hky hcf htop hgr hkys hasc hGM g5 g3 g6 gn gso gky rg rs rw' rn rk hok hk hv
    have hkc := HHK.out w1
    generalize rootP key val t = T9 at *
    generalize putT key val t = k' at *
    go_wp2_with fail
    refine hkc.mono ?_
    rintro e wz ⟨rfl, rfl⟩
    go_wp2_with fail
    refine hcall.mono ?_
    rintro e V ⟨rfl, ⟨Pm, hgm, hpm⟩, hfm⟩
    have sV := hfm.size
    have bwV : Below N w V := bw1.trans (hfm.below (by omega) (fun g e => by have := e.1; omega))
    have k0V := (hfm.block N (by omega) (fun e => by have := e.1; omega)).trans k01
    have k1V := (hfm.block (N + 1) (by omega) (fun e => by have := e.1; omega)).trans k11
    obtain ⟨hns, f2, r2, hms, hcs2, hsize⟩ := hgm.size
    obtain ⟨s, hs⟩ : ∃ s, k'.size = s := ⟨_, rfl⟩
    have HS : Hid (k'.size = s) := hs
    rw [hs] at hsize hs5
    clear hcall hna hme hcf2 hfm hs k01 k11 x0 l0 hkc hb1
    go_wp2_with fail
    refine hsize.mono ?_
    rintro e V2 ⟨rfl, rfl⟩
    by_cases h4 : s ≤ 4
    ·have hd4 : ¬ ((4 : Int) < (s : Int)) := by omega
     have hT9 : T9 = k' := by rw [HRT.out, if_pos (by rw [HS.out]; exact h4)]
     rw [← hT9] at hgm
     have htold := told_any V2 HRP.out.1 (GM.see _ _ _ hgm) (fun b hb => (hpm b hb).2) (by have := HRP.out.2.1; omega)
     clear hT9 hgm hsize hms hns hcs2
     go_wp2_with fail
     refine htold.mono ?_
     rintro e w5 ⟨oa, oc, us, rfl, hO5, hb5⟩
     have s5 := hb5.size
     have ab5 : Below w5.heap.size w5 (w5.alloc (.cells #[.slice oa T9.nodes oc] 27)) := (Below.refl _ _).alloc (Nat.le_refl _) _
     have kb5 := heap_alloc_new w5 (.cells #[.slice oa T9.nodes oc] 27)
     have k05 := (ab5.block N (by omega)).trans ((hb5.block N (by omega)).trans k0V)
     have k15 := (ab5.block (N + 1) (by omega)).trans ((hb5.block (N + 1) (by omega)).trans k1V)
     have hO6 := hO5.below ab5
     have bw6 : Below N w (w5.alloc (.cells #[.slice oa T9.nodes oc] 27)) := (bwV.trans (hb5.mono (by omega))).trans (ab5.mono (by omega))
     have s6 := ab5.size
     have HN9 : Hid (∃ m, T9.nodes = m) := ⟨_, rfl⟩
     obtain ⟨m, hm⟩ := HN9.out
     have HM : Hid (T9.nodes = m) := hm
     have hm2 : m ≤ 2001 := by have := HRP.out.2.1; omega
     rw [hm] at kb5 hO6 k05 k15 bw6 ab5 s6 ⊢
     obtain ⟨Y, hY⟩ : ∃ Y, w5.heap.size = Y := ⟨_, rfl⟩
     rw [hY] at kb5 s6
     go_upto_region 8 with fail
     generalize w5.alloc (.cells #[.slice oa m oc] 27) = W6 at *
     have x6 : W6.cell? ⟨Y, 0, none⟩ = some (.slice oa m oc) := by simp [World.cell?, kb5]
     have x0 : W6.cell? ⟨N, 0, none⟩ = some (.slice a n c) := by simp [World.cell?, k05]
     have lY : Y < W6.heap.size := (Array.getElem?_eq_some_iff.1 kb5).1
     have lN : N < W6.heap.size := by omega
     clear htold hO5 hb5 ab5
     by_cases h10 : m ≤ 1000
     ·have hd10 : ¬ ((1000 : Int) < (m : Int)) := by omega
      obtain ⟨q0, q1⟩ := box_twoR k15
      have f7 := thawT k15
      have l7 : N + 1 < W6.heap.size := by omega
      obtain ⟨O8, B8, R8⟩ := treeAns_lay (w := w) (R := N + 1) (by omega) k15 hO6 (by omega) (by rw [hN]; exact bw6) true
      obtain ⟨r0, r1⟩ := box_twoR R8
      have HFIN : Hid (TreeAns w (putR ts key val) (.returned (.agg #[.bool true, .slice oa m oc])) ((W6.setCell ⟨N + 1, 0, none⟩ (.bool true)).setCell ⟨N + 1, 1, none⟩ (.slice oa m oc))) := by
       rw [HPR.out, if_pos ⟨HKV.out.1, HKV.out.2, by rw [HM.out]; exact h10⟩]
       have hfl : (T9.flat 0).length = m := by rw [flat_len T9 HRP.out.2.2, HM.out]
       refine ⟨oa, oc, us, ?_, ?_, B8⟩
       ·show _ = Ending.returned (.agg #[.bool true, .slice oa (T9.flat 0).length oc])
        rw [hfl]
       ·show OwnT _ _ (.slice oa (T9.flat 0).length oc) _ _
        rw [hfl]; exact O8
      clear O8 B8 R8 hO6 k15 k05 bw6
      go_wp2_with fail
      exact bodyPost_ret (v := .agg #[.bool true, .slice oa m oc]) (by simp [results, Try.results11, go_sem, r0, r1]) rfl HFIN.out
     ·have hd10 : (1000 : Int) < (m : Int) := by omega
      have HP : Hid (putR ts key val = (false, ts)) := by
       show _ = _
       rw [HPR.out, if_neg (fun h => h10 (by rw [← HM.out]; exact h.2.2))]
      clear hO6
      have hcp := HCP.out W6 bw6
      go_wp2_with fail
      refine hcp.mono ?_
      rintro e w7 ⟨oa7, oc7, us7, rfl, hO7, hb7⟩
      have s7 := hb7.size
      have k17 := (hb7.block (N + 1) (by omega)).trans k15
      obtain ⟨q0, q1⟩ := box_twoR k17
      have f7 := thawT k17
      have l7 : N + 1 < w7.heap.size := by omega
      have bw7 : Below w.heap.size w w7 := by rw [hN]; exact bw6.trans (hb7.mono (by omega))
      obtain ⟨O8, B8, R8⟩ := treeAns_lay (w := w) (R := N + 1) (by omega) k17 hO7 (by omega) bw7 false
      obtain ⟨r0, r1⟩ := box_twoR R8
      have HFIN : Hid (TreeAns w (putR ts key val) (.returned (.agg #[.bool false, .slice oa7 n oc7])) ((w7.setCell ⟨N + 1, 0, none⟩ (.bool false)).setCell ⟨N + 1, 1, none⟩ (.slice oa7 n oc7))) := by
       rw [HP.out]
       refine ⟨oa7, oc7, us7, ?_, ?_, B8⟩
       ·show _ = Ending.returned (.agg #[.bool false, .slice oa7 ts.length oc7])
        rw [HL.out]
       ·show OwnT _ _ (.slice oa7 ts.length oc7) _ _
        rw [HL.out]; exact O8
      clear hcp hO7 O8 B8 R8 hb7 bw7 k17
      go_wp2_with fail
      exact bodyPost_ret (v := .agg #[.bool false, .slice oa7 n oc7]) (by simp [results, Try.results11, go_sem, r0, r1]) rfl HFIN.out
    ·have hd4 : (4 : Int) < (s : Int) := by omega
     have hpart := part_any hgm 3 (by omega) (by rw [HS.out]; omega) (by rw [HS.out]; omega) (fun x hx => (hpm x hx).2)
     clear hsize hms hns hcs2
     go_wp2_with fail
     refine hpart.mono ?_
     rintro e w3 ⟨u2, rfl, ⟨P1, P2, hg1, hg2, hdis, hpp⟩, hf3⟩
     obtain ⟨ty2, v2, rfl⟩ := hg2.shape
     have s3 := hf3.size
     have hpmN : ∀ x, Pm x → N + 2 ≤ x := fun x hx => by
      rcases (hpm x hx).1 with e | e
      ·omega
      ·omega
     have bw3 : Below N w w3 := bwV.trans (hf3.below (by omega) (fun g e => by have := hpmN g e; omega))
     have k03 := (hf3.block N (by omega) (fun e => by have := hpmN _ e; omega)).trans k0V
     have k13 := (hf3.block (N + 1) (by omega) (fun e => by have := hpmN _ e; omega)).trans k1V
     obtain ⟨M, hM⟩ : ∃ M, w3.heap.size = M := ⟨_, rfl⟩
     obtain ⟨V3, hV3⟩ : ∃ V3, V3 = (w3.alloc (.cells #[.iface ty v, .iface ty2 v2] 51)).alloc (.cells #[.int .i64 0, .slice (some ⟨M, 0, none⟩) 2 2] 85) := ⟨_, rfl⟩
     have b33 : Below w3.heap.size w3 V3 := by rw [hV3]; exact ((Below.refl _ _).alloc (Nat.le_refl _) _).alloc (by simp) _
     have sV3 : V3.heap.size = M + 2 := by rw [hV3]; simp [hM]
     have m0 : V3.heap[M]? = some (.cells #[.iface ty v, .iface ty2 v2] 51) := by
      rw [hV3, ← hM]
      exact (((Below.refl (w3.alloc (.cells #[.iface ty v, .iface ty2 v2] 51)).heap.size _).alloc (Nat.le_refl _) _).block w3.heap.size (by simp)).trans (heap_alloc_new w3 _)
     have m1 : V3.heap[M + 1]? = some (.cells #[.int .i64 0, .slice (some ⟨M, 0, none⟩) 2 2] 85) := by
      rw [hV3]
      have := heap_alloc_new (w3.alloc (.cells #[.iface ty v, .iface ty2 v2] 51)) (.cells #[.int .i64 0, .slice (some ⟨M, 0, none⟩) 2 2] 85)
      rwa [show (w3.alloc (.cells #[.iface ty v, .iface ty2 v2] 51)).heap.size = M + 1 by simp [hM]] at this
     have hT9 : T9 = ⟨false, 0, [], [], [], [k'.fore 3, k'.rest 3]⟩ := by
      rw [HRT.out, if_neg (by rw [HS.out]; exact h4)]
      unfold cutT
      rw [if_neg (by rw [HS.out]; exact h4)]
     have hgi : GIs V3 (fun b => b < M + 2) T9 (.iface 82 (.pointer (some ⟨M + 1, 0, none⟩))) := by
      rw [hT9]
      refine GInner.is (t := ⟨false, 0, [], [], [], [k'.fore 3, k'.rest 3]⟩) (a := some ⟨M, 0, none⟩) (n := 2) (c := 2) (us := fun i => if i = 0 then .iface ty v else .iface ty2 v2) ⟨by show M + 1 < M + 2; omega, m1, ⟨rfl, Nat.le_refl _, by unfold maxLen; omega⟩, fun _ => ⟨M, rfl, by show M < M + 2; omega, fun i hi => ?_⟩, fun i z hm hi => ?_⟩ rfl
      ·have hi2 : i = 0 ∨ i = 1 := by omega
       rcases hi2 with rfl | rfl <;> simp [World.cell?, m0]
      ·have hi2 : i = 0 ∨ i = 1 := by
        have := (List.getElem?_eq_some_iff.1 hi).1
        simp at this
        omega
       rcases hi2 with rfl | rfl
       ·simp at hi
        subst hi
        exact GIs.keep (fun x hx => b33.block x (hpp x (.inl hx)).2) (fun x hx => by have := (hpp x (.inl hx)).2; show x < M + 2; omega) _ _ (GM.see _ _ _ hg1)
       ·simp at hi
        subst hi
        exact GIs.keep (fun x hx => b33.block x (hpp x (.inr hx)).2) (fun x hx => by have := (hpp x (.inr hx)).2; show x < M + 2; omega) _ _ (GM.see _ _ _ hg2)
     have htold := told_any V3 HRP.out.1 hgi (fun b hb => by have : b < M + 2 := hb; omega) (by have := HRP.out.2.1; omega)
     have bwV3 : Below N w V3 := bw3.trans (b33.mono (by omega))
     have k0V3 := (b33.block N (by omega)).trans k03
     have k1V3 := (b33.block (N + 1) (by omega)).trans k13
     clear hgi hT9 hg1 hg2 hdis hpp hf3 hpart hgm hpm hpmN m0 m1 b33 k03 k13 k0V k1V bwV bw3
     go_upto_region 7 with fail
     rw [← hV3]
     clear hV3
     go_wp2_with fail
     refine htold.mono ?_
     rintro e w5 ⟨oa, oc, us, rfl, hO5, hb5⟩
     have s5 := hb5.size
     have ab5 : Below w5.heap.size w5 (w5.alloc (.cells #[.slice oa T9.nodes oc] 27)) := (Below.refl _ _).alloc (Nat.le_refl _) _
     have kb5 := heap_alloc_new w5 (.cells #[.slice oa T9.nodes oc] 27)
     have k05 := (ab5.block N (by omega)).trans ((hb5.block N (by omega)).trans k0V3)
     have k15 := (ab5.block (N + 1) (by omega)).trans ((hb5.block (N + 1) (by omega)).trans k1V3)
     have hO6 := hO5.below ab5
     have bw6 : Below N w (w5.alloc (.cells #[.slice oa T9.nodes oc] 27)) := (bwV3.trans (hb5.mono (by omega))).trans (ab5.mono (by omega))
     have s6 := ab5.size
     have HN9 : Hid (∃ m, T9.nodes = m) := ⟨_, rfl⟩
     obtain ⟨m, hm⟩ := HN9.out
     have HM : Hid (T9.nodes = m) := hm
     have hm2 : m ≤ 2001 := by have := HRP.out.2.1; omega
     rw [hm] at kb5 hO6 k05 k15 bw6 ab5 s6 ⊢
     obtain ⟨Y, hY⟩ : ∃ Y, w5.heap.size = Y := ⟨_, rfl⟩
     rw [hY] at kb5 s6
     go_upto_region 8 with fail
     generalize w5.alloc (.cells #[.slice oa m oc] 27) = W6 at *
     have x6 : W6.cell? ⟨Y, 0, none⟩ = some (.slice oa m oc) := by simp [World.cell?, kb5]
     have x0 : W6.cell? ⟨N, 0, none⟩ = some (.slice a n c) := by simp [World.cell?, k05]
     have lY : Y < W6.heap.size := (Array.getElem?_eq_some_iff.1 kb5).1
     have lN : N < W6.heap.size := by omega
     clear htold hO5 hb5 ab5
     by_cases h10 : m ≤ 1000
     ·have hd10 : ¬ ((1000 : Int) < (m : Int)) := by omega
      obtain ⟨q0, q1⟩ := box_twoR k15
      have f7 := thawT k15
      have l7 : N + 1 < W6.heap.size := by omega
      obtain ⟨O8, B8, R8⟩ := treeAns_lay (w := w) (R := N + 1) (by omega) k15 hO6 (by omega) (by rw [hN]; exact bw6) true
      obtain ⟨r0, r1⟩ := box_twoR R8
      have HFIN : Hid (TreeAns w (putR ts key val) (.returned (.agg #[.bool true, .slice oa m oc])) ((W6.setCell ⟨N + 1, 0, none⟩ (.bool true)).setCell ⟨N + 1, 1, none⟩ (.slice oa m oc))) := by
       rw [HPR.out, if_pos ⟨HKV.out.1, HKV.out.2, by rw [HM.out]; exact h10⟩]
       have hfl : (T9.flat 0).length = m := by rw [flat_len T9 HRP.out.2.2, HM.out]
       refine ⟨oa, oc, us, ?_, ?_, B8⟩
       ·show _ = Ending.returned (.agg #[.bool true, .slice oa (T9.flat 0).length oc])
        rw [hfl]
       ·show OwnT _ _ (.slice oa (T9.flat 0).length oc) _ _
        rw [hfl]; exact O8
      clear O8 B8 R8 hO6 k15 k05 bw6
      go_wp2_with fail
      exact bodyPost_ret (v := .agg #[.bool true, .slice oa m oc]) (by simp [results, Try.results11, go_sem, r0, r1]) rfl HFIN.out
     ·have hd10 : (1000 : Int) < (m : Int) := by omega
      have HP : Hid (putR ts key val = (false, ts)) := by
       show _ = _
       rw [HPR.out, if_neg (fun h => h10 (by rw [← HM.out]; exact h.2.2))]
      clear hO6
      have hcp := HCP.out W6 bw6
      go_wp2_with fail
      refine hcp.mono ?_
      rintro e w7 ⟨oa7, oc7, us7, rfl, hO7, hb7⟩
      have s7 := hb7.size
      have k17 := (hb7.block (N + 1) (by omega)).trans k15
      obtain ⟨q0, q1⟩ := box_twoR k17
      have f7 := thawT k17
      have l7 : N + 1 < w7.heap.size := by omega
      have bw7 : Below w.heap.size w w7 := by rw [hN]; exact bw6.trans (hb7.mono (by omega))
      obtain ⟨O8, B8, R8⟩ := treeAns_lay (w := w) (R := N + 1) (by omega) k17 hO7 (by omega) bw7 false
      obtain ⟨r0, r1⟩ := box_twoR R8
      have HFIN : Hid (TreeAns w (putR ts key val) (.returned (.agg #[.bool false, .slice oa7 n oc7])) ((w7.setCell ⟨N + 1, 0, none⟩ (.bool false)).setCell ⟨N + 1, 1, none⟩ (.slice oa7 n oc7))) := by
       rw [HP.out]
       refine ⟨oa7, oc7, us7, ?_, ?_, B8⟩
       ·show _ = Ending.returned (.agg #[.bool false, .slice oa7 ts.length oc7])
        rw [HL.out]
       ·show OwnT _ _ (.slice oa7 ts.length oc7) _ _
        rw [HL.out]; exact O8
      clear hcp hO7 O8 B8 R8 hb7 bw7 k17
      go_wp2_with fail
      exact bodyPost_ret (v := .agg #[.bool false, .slice oa7 n oc7]) (by simp [results, Try.results11, go_sem, r0, r1]) rfl HFIN.out
   ·have hd : (400 : Int) < (val.size : Int) := by omega
    have HP : Hid (putR ts key val = (false, ts)) := by
     show _ = _
     unfold putR
     rw [htop]
     simp only []
     rw [if_neg (fun h => hv h.2.1)]
    have hkc : Calls Try.prog 17 #[.string key] w1 fun e w' => e = .returned (.bool true) ∧ w' = w1 := by have := hky w1; rw [hk] at this; exact this
    clear hky htop hgr hkys hasc hGM g5 g3 g6 gn gso gky hok hk hv
    go_wp2_with fail
    refine hkc.mono ?_
    rintro e wz ⟨rfl, rfl⟩
    have hcp := HCP.out wz bw1
    go_wp2_with fail
    refine hcp.mono ?_
    rintro e w7 ⟨oa, oc, us, rfl, hO7, hb7⟩
    have s7 := hb7.size
    have k17 := (hb7.block (N + 1) (by omega)).trans k11
    obtain ⟨q0, q1⟩ := box_twoR k17
    have f7 := thawT k17
    have l7 : N + 1 < w7.heap.size := by omega
    have bw7 : Below w.heap.size w w7 := by rw [hN]; exact bw1.trans (hb7.mono (by omega))
    obtain ⟨O8, B8, R8⟩ := treeAns_lay (w := w) (R := N + 1) (by omega) k17 hO7 (by omega) bw7 false
    obtain ⟨r0, r1⟩ := box_twoR R8
    have HFIN : Hid (TreeAns w (putR ts key val) (.returned (.agg #[.bool false, .slice oa n oc])) ((w7.setCell ⟨N + 1, 0, none⟩ (.bool false)).setCell ⟨N + 1, 1, none⟩ (.slice oa n oc))) := by
     rw [HP.out]
     refine ⟨oa, oc, us, ?_, ?_, B8⟩
     ·show _ = Ending.returned (.agg #[.bool false, .slice oa ts.length oc])
      rw [HL.out]
     ·show OwnT _ _ (.slice oa ts.length oc) _ _
      rw [HL.out]; exact O8
    clear hcp hO7 O8 B8 R8 hb7 bw7 k17
    go_wp2_with fail
    exact bodyPost_ret (v := .agg #[.bool false, .slice oa n oc]) (by simp [results, Try.results11, go_sem, r0, r1]) rfl HFIN.out
  ·have hkf : kyB key = false := by simpa using hk
   have HP : Hid (putR ts key val = (false, ts)) := by
    show _ = _
    unfold putR
    rw [htop]
    simp only []
    rw [if_neg (fun h => hk h.1)]
   have hkc : Calls Try.prog 17 #[.string key] w1 fun e w' => e = .returned (.bool false) ∧ w' = w1 := by have := hky w1; rw [hkf] at this; exact this
   clear hky htop hgr hkys hasc hGM g5 g3 g6 gn gso gky hok hk hkf
   go_wp2_with fail
   refine hkc.mono ?_
   rintro e wz ⟨rfl, rfl⟩
   have hcp := HCP.out wz bw1
   go_wp2_with fail
   refine hcp.mono ?_
   rintro e w7 ⟨oa, oc, us, rfl, hO7, hb7⟩
   have s7 := hb7.size
   have k17 := (hb7.block (N + 1) (by omega)).trans k11
   obtain ⟨q0, q1⟩ := box_twoR k17
   have f7 := thawT k17
   have l7 : N + 1 < w7.heap.size := by omega
   have bw7 : Below w.heap.size w w7 := by rw [hN]; exact bw1.trans (hb7.mono (by omega))
   obtain ⟨O8, B8, R8⟩ := treeAns_lay (w := w) (R := N + 1) (by omega) k17 hO7 (by omega) bw7 false
   obtain ⟨r0, r1⟩ := box_twoR R8
   have HFIN : Hid (TreeAns w (putR ts key val) (.returned (.agg #[.bool false, .slice oa n oc])) ((w7.setCell ⟨N + 1, 0, none⟩ (.bool false)).setCell ⟨N + 1, 1, none⟩ (.slice oa n oc))) := by
    rw [HP.out]
    refine ⟨oa, oc, us, ?_, ?_, B8⟩
    ·show _ = Ending.returned (.agg #[.bool false, .slice oa ts.length oc])
     rw [HL.out]
    ·show OwnT _ _ (.slice oa ts.length oc) _ _
     rw [HL.out]; exact O8
   clear hcp hO7 O8 B8 R8 hb7 bw7 k17
   go_wp2_with fail
   exact bodyPost_ret (v := .agg #[.bool false, .slice oa n oc]) (by simp [results, Try.results11, go_sem, r0, r1]) rfl HFIN.out
 ·obtain rfl := hno hok
  have HP : Hid (putR ts key val = (false, ts)) := by
   show _ = _
   unfold putR
   rw [topT_no hok]
  clear hyes hky hok
  have hcp := HCP.out w1 bw1
  go_wp2_with fail
  refine hcp.mono ?_
  rintro e w7 ⟨oa, oc, us, rfl, hO7, hb7⟩
  have s7 := hb7.size
  have k17 := (hb7.block (N + 1) (by omega)).trans k11
  obtain ⟨q0, q1⟩ := box_twoR k17
  have f7 := thawT k17
  have l7 : N + 1 < w7.heap.size := by omega
  have bw7 : Below w.heap.size w w7 := by rw [hN]; exact bw1.trans (hb7.mono (by omega))
  obtain ⟨O8, B8, R8⟩ := treeAns_lay (w := w) (R := N + 1) (by omega) k17 hO7 (by omega) bw7 false
  obtain ⟨r0, r1⟩ := box_twoR R8
  have HFIN : Hid (TreeAns w (putR ts key val) (.returned (.agg #[.bool false, .slice oa n oc])) ((w7.setCell ⟨N + 1, 0, none⟩ (.bool false)).setCell ⟨N + 1, 1, none⟩ (.slice oa n oc))) := by
   rw [HP.out]
   refine ⟨oa, oc, us, ?_, ?_, B8⟩
   ·show _ = Ending.returned (.agg #[.bool false, .slice oa ts.length oc])
    rw [HL.out]
   ·show OwnT _ _ (.slice oa ts.length oc) _ _
    rw [HL.out]; exact O8
  clear hcp hO7 O8 B8 R8 hb7 bw7 k17
  go_wp2_with fail
  exact bodyPost_ret (v := .agg #[.bool false, .slice oa n oc]) (by simp [results, Try.results11, go_sem, r0, r1]) rfl HFIN.out
def scanB (lo hi k : ByteArray) : Bool := (Op.bytesLess lo.toList k.toList || lo.toList == k.toList) && (hi.toList.isEmpty || Op.bytesLess k.toList hi.toList)
def scanL (lo hi : ByteArray) (zs : List (ByteArray × ByteArray × Int)) : List (ByteArray × ByteArray × Int) := zs.filter (fun s => scanB lo hi s.1)
theorem scan_snoc (lo hi : ByteArray) (zs : List (ByteArray × ByteArray × Int)) (j : Nat) (hj : j < zs.length) (d : ByteArray × ByteArray × Int) : scanL lo hi (zs.take (j + 1)) = scanL lo hi (zs.take j) ++ (if scanB lo hi (zs.getD j d).1 then [zs.getD j d] else []) := by
 unfold scanL
 rw [List.take_succ_eq_append_getElem hj, List.filter_append]
 congr 1
 simp only [List.getD, List.getElem?_eq_getElem hj, Option.getD_some]
 cases h : scanB lo hi zs[j].1 <;> simp [h]
def ScanAns (zs : List (ByteArray × ByteArray × Int)) (w : World) (e : Ending) (w' : World) : Prop := ∃ a c, e = .returned (.slice a zs.length c) ∧ w'.ownsRow w.heap.size 37 2 (.slice a zs.length c) zs.length (rowsOf prCells zs) ∧ Below w.heap.size w w'
def specScan (ts : List TN) (lo hi : ByteArray) (zs : List (ByteArray × ByteArray × Int)) : Prop := (¬ SpecOk ts → zs = []) ∧ (SpecOk ts → zs = scanL lo hi (rd ts (ts.length + 1) 0).1.slots)
def implScan (ts : List TN) (lo hi : ByteArray) (zs : List (ByteArray × ByteArray × Int)) : Prop := (¬ ImplOk ts → zs = []) ∧ (ImplOk ts → ∃ t met, gr ts (ts.length + 1) 0 (fun _ => false) = some (t, ts.length, met) ∧ zs = scanL lo hi t.slots)
theorem sl_cells {w : World} {base : Nat} {oa : Option Addr} {m oc : Nat} {zs : List (ByteArray × ByteArray × Int)} (hown : w.ownsRow base 73 3 (.slice oa m oc) m (rowsOf slCells zs)) (hlen : zs.length = m) {wr : World} (hb : Below w.heap.size w wr) {j : Nat} (hj : j < m) : ∃ g, oa = some ⟨g, 0, none⟩ ∧ g < wr.heap.size ∧ wr.cell? ⟨g, j * 3, none⟩ = some (.string (zs.getD j (ByteArray.empty, ByteArray.empty, 0)).1) ∧ wr.cell? ⟨g, j * 3 + 1, none⟩ = some (.string (zs.getD j (ByteArray.empty, ByteArray.empty, 0)).2.1) ∧ wr.cell? ⟨g, j * 3 + 2, none⟩ = some (.int .i64 (zs.getD j (ByteArray.empty, ByteArray.empty, 0)).2.2) := by
 rcases hown.2 with ⟨e, e2⟩ | ⟨g, cap, cur, e, _⟩
 ·omega
 ·simp only [Value.slice.injEq] at e
  obtain ⟨rfl, _, rfl⟩ := e
  have hl := hown.lt g rfl
  have hc : ∀ r, r < 3 → wr.cell? ⟨g, j * 3 + r, none⟩ = (slCells (zs.getD j (ByteArray.empty, ByteArray.empty, 0)))[r]? := fun r hr => by
   rw [World.cell?_of_block (w := w) (a := ⟨g, j * 3 + r, none⟩) (hb.block g hl.2), hown.cellAt (j * 3 + r) (by omega)]
   exact rowsOf_get sl3 _ zs j r (by omega) hr
  exact ⟨g, rfl, Nat.lt_of_lt_of_le hl.2 hb.size, by simpa [slCells] using hc 0 (by omega), by simpa [slCells] using hc 1 (by omega), by simpa [slCells] using hc 2 (by omega)⟩
set_option maxHeartbeats 4000000 in
theorem implScan_any (ts : List TN) (lo hi : ByteArray) (a : Option Addr) (n c A B : Nat) (w : World) (hB : B ≤ w.heap.size) (hT : NodesAt w A B a n c ts) :
  Calls Try.prog 9 #[.agg #[.slice a n c], .string lo, .string hi] w fun e w' => ∃ zs, implScan ts lo hi zs ∧ ScanAns zs w e w' := by
 obtain ⟨N, hN⟩ : ∃ N, w.heap.size = N := ⟨_, rfl⟩
 have b0 := (Below.refl w.heap.size w).alloc (Nat.le_refl _) (.cells #[.slice a n c] 27)
 have z0 : (w.alloc (.cells #[.slice a n c] 27)).heap.size = N + 1 := by simp [hN]
 have hcall := grow_any ts a n c A B _ (Nat.le_trans hB b0.size) (hT.below (b0.mono hB))
 obtain ⟨ip, hip, hp0, hp1, hp2⟩ := info_parts info_Pair
 clear hT
 go_enter Try.func9, Try.ntmps9
 go_wp2_with fail
 refine hcall.mono ?_
 rintro e w1 ⟨hno, hyes, hb⟩
 have b1 := b0.trans (hb.mono b0.size)
 have hs1 := hb.size
 clear hcall
 by_cases h : ImplOk ts
 ·obtain ⟨t, met, u, hgr, hky, hasc, rfl, hGI⟩ := hyes h
  obtain ⟨ty, v, rfl⟩ := hGI.shape
  obtain ⟨gs1, gs2, gs3, gs4, gs5, gs6, gs7, gs8⟩ := gr_some ts _ 0 _ t _ _ (Nat.zero_le _) hgr
  have HOK : Hid (ImplOk ts ∧ gr ts (ts.length + 1) 0 (fun _ => false) = some (t, ts.length, met)) := ⟨h, hgr⟩
  have hsl := slots_len t ⟨true, gs5⟩
  have hn3 := h.1
  have hS4 : t.slots.length ≤ 4000 := by have := gs4.1; omega
  obtain ⟨ha, f9, r9, hme, hcf, hcl⟩ := GIs.slots (base := w1.heap.size) (P := fun b => (w.alloc (.cells #[.slice a n c] 27)).heap.size ≤ b ∧ b < w1.heap.size) (fun b hb => hb.2) t ty v gs3 (GM.see _ _ _ hGI)
  have hcl2 := hcl w1 (Below.refl _ w1) none 0 0 [] (World.ownsRow_nil _ _ _ _) (by omega) (Nat.le_refl _)
  simp only [Nat.zero_add, List.nil_append] at hcl2
  obtain ⟨S, hS⟩ : ∃ S, t.slots = S := ⟨_, rfl⟩
  have HS : Hid (t.slots = S) := hS
  rw [hS] at hcl2 hS4
  have HSL : Hid (Calls Try.prog f9 #[r9, .slice none 0 0] w1 fun e w2 => ∃ oa' oc', e = .returned (.slice oa' S.length oc') ∧ w2.ownsRow w1.heap.size 73 3 (.slice oa' S.length oc') S.length (rowsOf slCells S) ∧ Fr (fun k => w1.heap.size ≤ k) w1 w2) := hcl2
  have hcf2 := hcf (.slice none 0 0)
  clear hno hyes h hgr hky hasc hGI gs1 gs2 gs3 gs4 gs5 gs6 gs7 gs8 hsl hn3 hcl hcl2 hcf hS
  go_wp2_with fail
  refine HSL.out.mono ?_
  rintro e w2 ⟨oa', oc', rfl, hown2, hfr2⟩
  have b2 := b1.trans (hfr2.below (by omega) (fun k hk => by omega))
  obtain ⟨sl, hsl⟩ : ∃ sl, S.length = sl := ⟨_, rfl⟩
  have HSN : Hid (S.length = sl) := hsl
  rw [hsl] at hown2 hS4 ⊢
  have HCE : Hid (∀ wr, Below w2.heap.size w2 wr → ∀ j, j < sl → ∃ g, oa' = some ⟨g, 0, none⟩ ∧ g < wr.heap.size ∧ wr.cell? ⟨g, j * 3, none⟩ = some (.string (S.getD j (ByteArray.empty, ByteArray.empty, 0)).1) ∧ wr.cell? ⟨g, j * 3 + 1, none⟩ = some (.string (S.getD j (ByteArray.empty, ByteArray.empty, 0)).2.1) ∧ wr.cell? ⟨g, j * 3 + 2, none⟩ = some (.int .i64 (S.getD j (ByteArray.empty, ByteArray.empty, 0)).2.2)) := fun wr hb j hj => sl_cells hown2 hsl hb hj
  have HB2 : Hid (∀ wr, Below w2.heap.size w2 wr → Below w.heap.size w wr) := fun wr hb => b2.trans (hb.mono b2.size)
  have hsz2 := b2.size
  clear hown2 hfr2 HSL hsl b1 b2 b0 hb ha hme hcf2
  go_wp2_with fail
  go_loopw [9, 22] (fun o i wr => ∃ (j m : Nat) (va : Option Addr) (vc : Nat), j ≤ sl ∧ i = .int .i64 j ∧ o = .slice va m vc ∧ m ≤ j ∧ Hid (m = (scanL lo hi (S.take j)).length) ∧ wr.ownsRow w2.heap.size 37 2 (.slice va m vc) m (rowsOf prCells (scanL lo hi (S.take j))) ∧ Below w2.heap.size w2 wr) (fun _ i _ => sl - (intOf i).toNat)
  case atStart => exact ⟨0, 0, none, 0, Nat.zero_le _, rfl, rfl, Nat.le_refl _, by show _ = _; simp [scanL], by simpa [scanL, rowsOf] using World.ownsRow_nil _ _ _ _, Below.refl _ _⟩
  case round =>
   obtain ⟨j, m, va, vc, hj, rfl, rfl, hmj, HMM, hown, hbel⟩ := hrel
   have hszr := hbel.size
   by_cases hlt : j < sl
   ·obtain ⟨gp, rfl, hgl, c0, c1, c2⟩ := HCE.out wr hbel j hlt
    have hsn := scan_snoc lo hi S j (by have := HSN.out; omega) (ByteArray.empty, ByteArray.empty, 0)
    obtain ⟨s, hs⟩ : ∃ s, S.getD j (ByteArray.empty, ByteArray.empty, 0) = s := ⟨_, rfl⟩
    rw [hs] at c0 c1 c2 hsn
    clear hs
    obtain ⟨sk, sv, so⟩ := s
    simp only at c0 c1 c2 hsn
    obtain ⟨sb, hsb⟩ : ∃ sb, scanB lo hi sk = sb := ⟨_, rfl⟩
    rw [hsb] at hsn
    have ab1 := (Below.refl wr.heap.size wr).alloc (Nat.le_refl _) (.cells #[.string sk, .string sv, .int .i64 so] 73)
    have ab2 := (Below.refl (wr.alloc (.cells #[.string sk, .string sv, .int .i64 so] 73)).heap.size _).alloc (Nat.le_refl _) (.cells #[.string sk, .string sv] 37)
    have z1 : (wr.alloc (.cells #[.string sk, .string sv, .int .i64 so] 73)).heap.size = wr.heap.size + 1 := by simp
    have hb1 := hbel.trans (ab1.mono hszr)
    have hb2 := hb1.trans (ab2.mono (by omega))
    have HSKIP : Hid (sb = false → Hid (m = (scanL lo hi (S.take (j + 1))).length) ∧ (wr.alloc (.cells #[.string sk, .string sv, .int .i64 so] 73)).ownsRow w2.heap.size 37 2 (.slice va m vc) m (rowsOf prCells (scanL lo hi (S.take (j + 1))))) := fun h => by
     rw [h] at hsn
     simp at hsn
     rw [hsn]
     exact ⟨HMM, owns_below hown ab1⟩
    have HRW : Hid (((wr.alloc (.cells #[.string sk, .string sv, .int .i64 so] 73)).alloc (.cells #[.string sk, .string sv] 37)).ownsRow w2.heap.size 37 2 (.slice va m vc) m (rowsOf prCells (scanL lo hi (S.take j)))) := owns_below (owns_below hown ab1) ab2
    have hNs : w2.heap.size ≤ ((wr.alloc (.cells #[.string sk, .string sv, .int .i64 so] 73)).alloc (.cells #[.string sk, .string sv] 37)).heap.size := by have := ab1.size; have := ab2.size; omega
    have hcl := fun k hk => (owns_below (owns_below hown ab1) ab2).lt k hk
    have HPU0 : Hid (sb = true → ∀ v' w6, w6.ownsRow w2.heap.size 37 2 v' (m + 1) (rowsOf prCells (scanL lo hi (S.take j)) ++ [.string sk, .string sv]) → ((wr.alloc (.cells #[.string sk, .string sv, .int .i64 so] 73)).alloc (.cells #[.string sk, .string sv] 37)).grownBy w6 (Value.slice va m vc).ownBlock → ∃ va' vc', v' = .slice va' (m + 1) vc' ∧ w6.ownsRow w2.heap.size 37 2 (.slice va' (m + 1) vc') (m + 1) (rowsOf prCells (scanL lo hi (S.take (j + 1)))) ∧ Below w2.heap.size w2 w6 ∧ Hid (m + 1 = (scanL lo hi (S.take (j + 1))).length)) := fun h v' w6 h1 h2 => by
     rw [h] at hsn
     simp only [if_true] at hsn
     obtain ⟨va', vc', rfl⟩ := own_shape h1
     refine ⟨va', vc', rfl, by rw [hsn, rowsOf_append]; exact h1, hb2.trans ((Fr.of_grown (S := fun k => w2.heap.size ≤ k) h2 (fun k e => (hcl k e).1)).below hNs (fun k hk => hk)), ?_⟩
     show _ = _
     rw [hsn, List.length_append, ← HMM.out]
     rfl
    unfold scanB at hsb
    have HSB : Hid (((Op.bytesLess lo.toList sk.toList || lo.toList == sk.toList) && (hi.toList.isEmpty || Op.bytesLess sk.toList hi.toList)) = sb) := hsb
    have hcells := cell_two_newT (wr.alloc (.cells #[.string sk, .string sv, .int .i64 so] 73)) (.string sk) (.string sv) 37
    rw [z1] at hcells
    clear hsn hsb ab1 ab2 hown HMM hcl hb2
    by_cases t1 : (Op.bytesLess lo.toList sk.toList || lo.toList == sk.toList) = true
    ·by_cases t2 : hi.toList = []
     ·have hsb : sb = true := by rw [← HSB.out, t1, t2]; rfl
      have HPU : Hid _ := HPU0.out hsb
      clear HPU0 HSKIP HSB hsb
      go_wp2_with (at_builtin; refine wpList_append_ownD _ rfl _ _ 23 rfl w2.heap.size 37 ip _ 2 32 Try.underlying23 hip hp0 hp1 hp2 rfl (by decide) (.slice va m vc) m _ rfl HRW.out ⟨wr.heap.size + 1, 0, none⟩ 1 1 [.string sk, .string sv] rfl rfl hcells (by simp [Value.oneCell']) (by unfold maxLen; omega) (by omega) hNs ?_; intro v' w6 h1 h2 h3; obtain ⟨va', vc', rfl, R1, R2, R3⟩ := HPU.out v' w6 h1 h2; clear h1 h2 h3 HPU HRW)
      go_roundw
      case rel => exact ⟨j + 1, m + 1, va', vc', by omega, by go_num, rfl, by omega, R3, R1, R2⟩
      case measure => simp [intOf]; omega
     ·have t2' : hi.toList.isEmpty = false := by simpa using t2
      by_cases t3 : Op.bytesLess sk.toList hi.toList = true
      ·have hsb : sb = true := by rw [← HSB.out, t1, t3]; simp
       have HPU : Hid _ := HPU0.out hsb
       clear HPU0 HSKIP HSB hsb
       go_wp2_with (at_builtin; refine wpList_append_ownD _ rfl _ _ 23 rfl w2.heap.size 37 ip _ 2 32 Try.underlying23 hip hp0 hp1 hp2 rfl (by decide) (.slice va m vc) m _ rfl HRW.out ⟨wr.heap.size + 1, 0, none⟩ 1 1 [.string sk, .string sv] rfl rfl hcells (by simp [Value.oneCell']) (by unfold maxLen; omega) (by omega) hNs ?_; intro v' w6 h1 h2 h3; obtain ⟨va', vc', rfl, R1, R2, R3⟩ := HPU.out v' w6 h1 h2; clear h1 h2 h3 HPU HRW)
       go_roundw
       case rel => exact ⟨j + 1, m + 1, va', vc', by omega, by go_num, rfl, by omega, R3, R1, R2⟩
       case measure => simp [intOf]; omega
      ·have t3' : Op.bytesLess sk.toList hi.toList = false := by simpa using t3
       have hsb : sb = false := by rw [← HSB.out, t1, t3']; simpa using t2
       subst hsb
       clear HPU0 HSB HRW t3
       go_wp2_with fail
       go_roundw
       case rel => exact ⟨j + 1, m, va, vc, by omega, by go_num, rfl, by omega, (HSKIP.out rfl).1, (HSKIP.out rfl).2, hb1⟩
       case measure => simp [intOf]; omega
    ·have t1' : (Op.bytesLess lo.toList sk.toList || lo.toList == sk.toList) = false := by simpa using t1
     have hsb : sb = false := by rw [← HSB.out, t1']; rfl
     subst hsb
     clear HPU0 HSB HRW t1
     go_wp2_with fail
     go_roundw
     case rel => exact ⟨j + 1, m, va, vc, by omega, by go_num, rfl, by omega, (HSKIP.out rfl).1, (HSKIP.out rfl).2, hb1⟩
     case measure => simp [intOf]; omega
   ·have HALL : Hid (scanL lo hi (S.take j) = scanL lo hi S) := by
     show _ = _
     rw [List.take_of_length_le (by have := HSN.out; omega)]
    rw [HALL.out] at hown HMM
    have hm2 : m = (scanL lo hi S).length := HMM.out
    have HFIN : Hid (ScanAns (scanL lo hi S) w (.returned (.slice va m vc)) wr) := ⟨va, vc, by rw [hm2], by rw [← hm2]; exact owns_base hown hsz2, HB2.out wr hbel⟩
    clear hown HMM hm2 HALL
    go_wp2_with fail
    go_ret
    exact ⟨scanL lo hi S, ⟨fun h => absurd HOK.out.1 h, fun _ => ⟨t, met, HOK.out.2, by rw [HS.out]⟩⟩, HFIN.out⟩
 ·obtain rfl := hno h
  have HNO : Hid (¬ ImplOk ts) := h
  clear hno hyes h
  go_wp2_with fail
  go_ret
  exact ⟨[], ⟨fun _ => rfl, fun h => absurd h HNO.out⟩, none, 0, rfl, World.ownsRow_nil _ _ _ _, b1⟩
def NFit (x : TN) : Prop := I64 x.page ∧ (∀ s ∈ x.keys, strFit s) ∧ (∀ s ∈ x.vals, strFit s) ∧ (∀ z ∈ x.over, I64 z) ∧ ∀ z ∈ x.kids, I64 z
theorem offs_mem2 {x : TN} : ∀ (gs : List (Nat → List TN)) (s : Nat), x ∈ offs s gs → ∃ g ∈ gs, ∃ s', x ∈ g s' ∧ s ≤ s' ∧ s' + (g s').length ≤ s + (offs s gs).length
 | [], s, h => by simp [offs] at h
 | g :: r, s, h => by
  rw [offs, List.mem_append] at h
  rw [offs, List.length_append]
  rcases h with h | h
  ·exact ⟨g, List.mem_cons_self .., s, h, Nat.le_refl _, by omega⟩
  ·obtain ⟨g', hg, s', hx, h1, h2⟩ := offs_mem2 r _ h
   exact ⟨g', List.mem_cons_of_mem _ hg, s', hx, by omega, by omega⟩
theorem starts_mem {z : Int} : ∀ (l : List Nat) (s : Nat), z ∈ startsN s l → (s : Int) ≤ z ∧ z ≤ ((s + l.sum : Nat) : Int)
 | [], s, h => by simp [startsN] at h
 | n :: r, s, h => by
  rw [startsN, List.mem_cons] at h
  rw [List.sum_cons]
  rcases h with rfl | h
  ·omega
  ·have := starts_mem r _ h; omega
theorem leaf_keys {t : T} {r : Bool} (hl : t.leaf = true) (hg : t.good r = true) (hk : t.slots.all (fun s => kyB s.1) = true) : ∀ k ∈ t.keys, kyB k = true := by
 intro k hm
 obtain ⟨i, hi, rfl⟩ := List.mem_iff_getElem.1 hm
 rw [T.good_eq] at hg
 simp only [Bool.and_eq_true, decide_eq_true_eq] at hg
 have h3 := hg.1.1.2
 rw [hl] at h3
 simp only [Bool.not_true, Bool.false_or, Bool.and_eq_true, decide_eq_true_eq] at h3
 rw [T.slots_eq, hl, if_pos rfl, List.all_append, Bool.and_eq_true] at hk
 have hz : i < (t.keys.zip (t.vals.zip t.over)).length := by simp; omega
 have := List.all_eq_true.1 hk.1 _ (List.getElem_mem hz)
 simpa [List.getElem_zip] using this
theorem key_low (t : T) : (∃ r, t.good r = true) → t.slots.all (fun s => kyB s.1) = true → t.low.size ≤ 8 := by
 induction t using T.ind with
 | h t ih =>
  rintro ⟨r, hg⟩ hk
  cases hl : t.leaf
  ·cases hy : t.kids with
   | nil =>
    obtain ⟨l, p, k, v, o, y⟩ := t
    simp only at hl hy
    subst hl hy
    simp [T.low]
   | cons k rest =>
    rw [T.low_inner hl hy]
    have hm : k ∈ t.kids := by rw [hy]; exact List.mem_cons_self ..
    refine ih k hm ⟨false, good_kid hg hm⟩ ?_
    rw [T.slots_eq, hy, List.map_cons, List.flatten_cons, List.all_append, List.all_append, Bool.and_eq_true, Bool.and_eq_true] at hk
    exact hk.2.1
  ·rw [T.low_leaf hl]
   have h1 := leaf_keys hl hg hk
   cases hy : t.keys with
   | nil => simp
   | cons k rest =>
    have := h1 k (by rw [hy]; exact List.mem_cons_self ..)
    unfold kyB at this
    simp only [Bool.and_eq_true, decide_eq_true_eq] at this
    exact this.2
theorem ky_fit {s : ByteArray} (h : s.size ≤ 400) : strFit s := by unfold strFit maxLen; omega
theorem pg_fit {x : Int} (h : (x == 0 || pgB x) = true) : I64 x := by
 simp only [Bool.or_eq_true, beq_iff_eq] at h
 unfold I64
 rcases h with h | h
 ·omega
 ·unfold pgB at h; simp only [decide_eq_true_eq] at h; omega
theorem kid_keys {t k : T} (h : t.slots.all (fun s => kyB s.1) = true) (hk : k ∈ t.kids) : k.slots.all (fun s => kyB s.1) = true := by
 rw [T.slots_eq, List.all_append, Bool.and_eq_true] at h
 rw [List.all_eq_true]
 intro s hs
 exact List.all_eq_true.1 h.2 s (List.mem_flatten.2 ⟨k.slots, List.mem_map.2 ⟨k, hk, rfl⟩, hs⟩)
theorem flat_fit (t : T) : (∃ r, t.good r = true) → Neat t → t.slots.all (fun s => kyB s.1) = true → ∀ s, s + t.nodes ≤ 1000000 → ∀ x ∈ t.flat s, NFit x := by
 induction t using T.ind with
 | h t ih =>
  rintro ⟨r, hg⟩ hn hk s hs x hx
  have hg0 := hg
  rw [T.good_eq] at hg
  simp only [Bool.and_eq_true] at hg
  have hp := pg_fit hg.1.1.1.2
  have hn' := (neat_eq t).1 hn
  have hfl := flat_len t hn.shape s
  rw [T.flat_eq] at hx hfl
  cases hl : t.leaf
  ·rw [hl] at hx hfl
   simp only [Bool.false_eq_true, if_false, List.mem_cons, List.length_cons] at hx hfl
   rcases hx with rfl | hx
   ·refine ⟨hp, fun k hm => ?_, (fun k hm => by cases hm), (fun k hm => by cases hm), fun z hm => ?_⟩
    ·obtain ⟨y, hy, rfl⟩ := List.mem_map.1 hm
     have hy2 : y ∈ t.kids := List.mem_of_mem_tail hy
     exact ky_fit (Nat.le_trans (key_low y ⟨false, good_kid hg0 hy2⟩ (kid_keys hk hy2)) (by omega))
    ·have := starts_mem _ _ hm
     rw [T.nodes_eq] at hs
     unfold I64
     omega
   ·obtain ⟨g, hgm, s', hx, h1, h2⟩ := offs_mem2 _ _ hx
    obtain ⟨y, hy, rfl⟩ := List.mem_map.1 hgm
    have hny := hn'.2.2 y hy
    rw [flat_len y hny.shape] at h2
    exact ih y hy ⟨false, good_kid hg0 hy⟩ hny (kid_keys hk hy) s' (by omega) x hx
  ·rw [hl] at hx
   simp only [if_true, List.mem_singleton] at hx
   subst hx
   have h3 := hg.1.1.2
   rw [hl] at h3
   simp only [Bool.not_true, Bool.false_or, Bool.and_eq_true, decide_eq_true_eq] at h3
   have hst : ∀ i (h1 : i < t.vals.length) (h2 : i < t.over.length), standB t.page t.vals[i] t.over[i] = true := fun i h1 h2 => by
    have hz : i < (t.vals.zip t.over).length := by simp; omega
    have := List.all_eq_true.1 h3.2 _ (List.getElem_mem hz)
    simpa [List.getElem_zip] using this
   refine ⟨hp, fun k hm => ?_, fun k hm => ?_, fun z hm => ?_, (fun z hm => by cases hm)⟩
   ·have := leaf_keys hl hg0 hk k hm
    unfold kyB at this
    simp only [Bool.and_eq_true, decide_eq_true_eq] at this
    exact ky_fit (by omega)
   ·obtain ⟨i, hi, rfl⟩ := List.mem_iff_getElem.1 hm
    simp only at hi
    have := hst i hi (by omega)
    unfold standB at this
    simp only [Bool.and_eq_true, decide_eq_true_eq] at this
    exact ky_fit this.1.1.1
   ·obtain ⟨i, hi, rfl⟩ := List.mem_iff_getElem.1 hm
    simp only at hi
    have := hst i (by omega) hi
    unfold standB at this
    simp only [Bool.and_eq_true, decide_eq_true_eq] at this
    exact pg_fit this.1.1.2
theorem OwnT.nodesF {w : World} {base n c : Nat} {a : Option Addr} {ts : List TN} {us : Nat → Nat → Value} (h : OwnT w base (.slice a n c) (ts.map TN.nd) us) (hn : n = ts.length) (hS : ∀ x ∈ ts, NFit x) : NodesAt w base w.heap.size a n c ts := by
 have hl : (ts.map TN.nd).length = n := by rw [List.length_map, hn]
 rcases h.row.2 with ⟨e, e2⟩ | ⟨g, cap, cur, e, hg1, hg2, h1, h2, _⟩
 ·simp only [Value.slice.injEq] at e
  obtain ⟨rfl, rfl, rfl⟩ := e
  exact ⟨hn.symm, Nat.le_refl _, by unfold maxLen; exact Nat.zero_le _, fun h0 => absurd h0 (by omega)⟩
 ·simp only [Value.slice.injEq] at e
  obtain ⟨rfl, _, rfl⟩ := e
  refine ⟨hn.symm, by omega, h2, fun h0 => ⟨g, 0, rfl, h.row.lt g rfl, fun i hi => ?_⟩⟩
  have hil : i < (ts.map TN.nd).length := by omega
  have hg : (ts.map TN.nd).getD i dN = TN.nd (ts.getD i dT) := by simp [List.getD, show i < ts.length by omega]
  have hcell := fun j hj => h.cell (i := i) (j := j) hil hj
  have hd := h.data i hil
  rw [hg] at hcell hd
  have hT : NFit (ts.getD i dT) := hS _ (by rw [show ts.getD i dT = ts[i]'(by omega) by simp [List.getD, show i < ts.length by omega]]; exact List.getElem_mem _)
  have d0 := hd 0 (by omega)
  have d1 := hd 1 (by omega)
  have d2 := hd 2 (by omega)
  have d3 := hd 3 (by omega)
  replace d0 : w.ownsRow base 9 1 (us i 0) (rowsOf strCells (ts.getD i dT).keys).length (rowsOf strCells (ts.getD i dT).keys) := d0
  replace d1 : w.ownsRow base 9 1 (us i 1) (rowsOf strCells (ts.getD i dT).vals).length (rowsOf strCells (ts.getD i dT).vals) := d1
  replace d2 : w.ownsRow base 2 1 (us i 2) (rowsOf intCells (ts.getD i dT).over).length (rowsOf intCells (ts.getD i dT).over) := d2
  replace d3 : w.ownsRow base 2 1 (us i 3) (rowsOf intCells (ts.getD i dT).kids).length (rowsOf intCells (ts.getD i dT).kids) := d3
  rw [rows_len1 sc1] at d0 d1
  rw [rows_len1 ic1] at d2 d3
  have hgd : ∀ {α : Type} (d : α) (l : List α) (j : Nat), j < l.length → l.getD j d ∈ l := fun d l j hj => by
   rw [show l.getD j d = l[j] by simp [List.getD, hj]]; exact List.getElem_mem _
  obtain ⟨a0, c0, e0, r0⟩ := RowsAt.of_owns (fit := strFit) (d := ByteArray.empty) sc1 d0 rfl (fun j hj => hT.2.1 _ (hgd _ _ j hj))
  obtain ⟨a1, c1, e1, r1⟩ := RowsAt.of_owns (fit := strFit) (d := ByteArray.empty) sc1 d1 rfl (fun j hj => hT.2.2.1 _ (hgd _ _ j hj))
  obtain ⟨a3, c3, e3, r3⟩ := RowsAt.of_owns (fit := I64) (d := 0) ic1 d2 rfl (fun j hj => hT.2.2.2.1 _ (hgd _ _ j hj))
  obtain ⟨a4, c4, e4, r4⟩ := RowsAt.of_owns (fit := I64) (d := 0) ic1 d3 rfl (fun j hj => hT.2.2.2.2 _ (hgd _ _ j hj))
  refine ⟨a0, _, c0, a1, _, c1, a3, _, c3, a4, _, c4, ?_, ?_, ?_, ?_, ?_, ?_, hT.1, r0, r1, r3, r4⟩
  ·rw [Nat.zero_add]; exact hcell 0 (by omega)
  ·rw [Nat.zero_add]; exact hcell 1 (by omega)
  ·rw [Nat.zero_add, ← e0]; exact hcell 2 (by omega)
  ·rw [Nat.zero_add, ← e1]; exact hcell 3 (by omega)
  ·rw [Nat.zero_add, ← e3]; exact hcell 4 (by omega)
  ·rw [Nat.zero_add, ← e4]; exact hcell 5 (by omega)
theorem scan_all (zs : List (ByteArray × ByteArray × Int)) : scanL ⟨#[]⟩ ⟨#[]⟩ zs = zs := by
 unfold scanL
 rw [List.filter_eq_self]
 intro s _
 unfold scanB
 have e : (⟨#[]⟩ : ByteArray).toList = [] := by rw [ByteArray.toList_eq]
 rw [e]
 cases s.1.toList with
 | nil => rfl
 | cons c cs => rfl
theorem made_valid {zs : List (ByteArray × ByteArray)} {t : T} (h : Made zs t) (hm : t.nodes ≤ 1000) : SpecOk (t.flat 0) ∧ topT (t.flat 0) = some t ∧ ∀ ys, implScan (t.flat 0) ⟨#[]⟩ ⟨#[]⟩ ys → ys = slB zs := by
 obtain ⟨s1, s2⟩ := flat_ok h.good h.neat h.ht hm h.keys (sort_ascB _ h.sort) h.nums
 have hI := (valid_iff _).1 s1
 obtain ⟨⟨h1, h2⟩, t', hr, hg, hk, hh, hn, ha, hf, hd⟩ := id s1
 rw [s2] at hr
 simp only [Prod.mk.injEq, and_true] at hr
 subst hr
 obtain ⟨met, e, _⟩ := gr_ok (t.flat 0) _ 0 (fun _ => false) t (t.flat 0).length s2 ⟨by omega, by rw [hn]; simp⟩ hg hh ⟨hd, fun _ _ => rfl⟩
 refine ⟨s1, topT_yes hI e, fun ys hy => ?_⟩
 obtain ⟨t2, m2, e2, rfl⟩ := hy.2 hI
 rw [e] at e2
 simp only [Option.some.injEq, Prod.mk.injEq] at e2
 rw [← e2.1, scan_all, h.slots]
theorem made_use {zs : List (ByteArray × ByteArray)} {t : T} (h : Made zs t) (hm : t.nodes ≤ 1000) : (∀ x ∈ t.flat 0, NFit x) ∧ (∀ x ∈ t.flat 0, NodeLen x) ∧ (t.flat 0).length = t.nodes := by
 refine ⟨flat_fit t ⟨true, h.good⟩ h.neat h.keys 0 (by omega), fun x hx => ?_, flat_len t h.neat.shape 0⟩
 have := flat_short t ⟨true, h.good⟩ 0 x hx
 obtain ⟨h1, h2, h3, h4⟩ := this
 exact ⟨by omega, by omega, by omega, by omega⟩
theorem bulk_made {zs : List (ByteArray × ByteArray)} (h : bulkNs zs ≠ []) : bulkOk zs = true ∧ ∃ t, Made zs t ∧ t.nodes ≤ 1000 ∧ bulkNs zs = t.flat 0 ∧ ∀ u, Made zs u → t.nodes ≤ u.nodes := by
 have hok : bulkOk zs = true := by
  cases e : bulkOk zs with
  | true => rfl
  | false => exact absurd (by unfold bulkNs; rw [if_pos e]) h
 refine ⟨hok, ?_⟩
 have h1 : ∀ u : T, 1 ≤ u.nodes := fun u => by rw [T.nodes_eq]; omega
 rcases Nat.eq_zero_or_pos zs.length with h0 | h0
 ·obtain rfl : zs = [] := List.eq_nil_of_length_eq_zero h0
  refine ⟨leafT, made_nil, by simp [leafT, T.nodes], ?_, fun u _ => by have := h1 u; simpa [leafT, T.nodes] using this⟩
  unfold bulkNs
  rw [if_neg (by rw [hok]; simp), if_pos (show ([] : List (ByteArray × ByteArray)).length = 0 from rfl), T.flat_eq]
  rfl
 ·have hm : (rootT zs).nodes ≤ 1000 := by
   rcases Nat.lt_or_ge 1000 (rootT zs).nodes with hb | hb
   ·exact absurd (by unfold bulkNs; rw [if_neg (by rw [hok]; simp), if_neg (by omega), if_pos hb]) h
   ·exact hb
  obtain ⟨a1, a2, a3, a4⟩ := bulk_root h0
  obtain ⟨v1, v2, v3, v4⟩ := bulk_valid hok h0 hm
  obtain ⟨_, t', hr, hg, hk, hh, hn, ha, hf, hd⟩ := v1
  rw [v2] at hr
  simp only [Prod.mk.injEq, and_true] at hr
  subst hr
  refine ⟨rootT zs, ⟨hg, a1, a2, hk, hd, a4, by rw [a4]; exact bulk_sortT hok⟩, hm, v4, fun u hu => ?_⟩
  exact bulk_least h0 hu.good hu.neat hu.ht (by rw [hu.slots]; simp [slB])
theorem made_next {zs : List (ByteArray × ByteArray)} (hok : bulkOk zs = true) {j : Nat} (hj : j < zs.length) (h100 : zs.length ≤ 100) {u : T} (h : Made (zs.take j) u) (hm : u.nodes ≤ 1000) : (zs.getD j dP).2.size ≤ 1048576 ∧ ∃ u2, Made (zs.take (j + 1)) u2 ∧ u2.nodes ≤ 1000 ∧ putR (u.flat 0) (zs.getD j dP).1 (zs.getD j dP).2 = (true, u2.flat 0) := by
 have hz : zs.getD j dP ∈ zs := by rw [show zs.getD j dP = zs[j] by simp [List.getD, hj]]; exact List.getElem_mem _
 have hb := bulk_at hok _ hz
 have hlen : (zs.take j).length = j := by simp; omega
 have ha : ∀ z ∈ zs.take j, lessB z.1 (zs.getD j dP).1 = true := by
  intro z hz
  obtain ⟨i, hi, rfl⟩ := List.mem_iff_getElem.1 hz
  have := bulk_sort hok i j (by omega) hj
  rwa [show zs.getD i dP = (zs.take j)[i] by simp [List.getD, List.getElem?_eq_getElem (show i < zs.length by omega)]] at this
 obtain ⟨m1, m2, _, _⟩ := made_put h hb.1 hb.2 ha (by omega)
 refine ⟨by have := hb.2; omega, rootP (zs.getD j dP).1 (zs.getD j dP).2 u, ?_, m2, ?_⟩
 ·rw [List.take_succ_eq_append_getElem hj]
  rwa [show zs[j] = ((zs.getD j dP).1, (zs.getD j dP).2) by simp [List.getD, hj]]
 ·unfold putR
  rw [(made_valid h hm).2.1]
  simp only []
  rw [if_pos ⟨hb.1, hb.2, m2⟩]
end Go.Proofs.Ytcjjbajmjfgbcaa
