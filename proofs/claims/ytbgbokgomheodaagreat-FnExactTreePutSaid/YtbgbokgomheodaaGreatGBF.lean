import Derived.Test.YtbgbokgomheodaaGreatGAA
import Derived.Test.YtbgbokgomheodaaGreatGAO
import Derived.Test.YtbgbokgomheodaaGreatGAP
import Derived.Test.YtbgbokgomheodaaGreatTlr
import Derived.Test.YtbgbokgomheodaaGreatGAX
import Derived.Test.YtbgbokgomheodaaGreatGBD
import Derived.Test.YtbgbokgomheodaaGreatTwi
import Derived.Deep.QuietTactic
import Derived.BigQuiet
import Derived.Deep.RegionWith
namespace Go.Proofs.YtbgbokgomheodaaGreat
open Go.RowKit
set_option linter.unusedVariables false
set_option linter.unusedSimpArgs false
set_option maxRecDepth 100000
theorem topT_rd {ts : List TN} (h : SpecOk ts) : topT ts = some (rd ts (ts.length + 1) 0).1 := by
 have hi := (valid_iff ts).1 h
 obtain ⟨h1, t, met, e, h3, h4⟩ := hi
 obtain ⟨a1, _⟩ := gr_some ts _ 0 _ _ _ _ (Nat.zero_le _) e
 rw [topT_yes ⟨h1, t, met, e, h3, h4⟩ e, a1]
def SpecTree (w : World) (r : Bool × List TN) (e : Ending) (w' : World) : Prop := ∃ oa oc, e = .returned (.agg #[.bool r.1, .slice oa r.2.length oc]) ∧ NodesAt w' w.heap.size w'.heap.size oa r.2.length oc r.2 ∧ Below w.heap.size w w'
theorem specAns_lay {w V : World} {R b B m c : Nat} {oa : Option Addr} {ts : List TN} {v0 v1 : Value} (hR : w.heap.size ≤ R) (hbx : V.heap[R]? = some (.cells #[v0, v1] 30)) (hO : NodesAt V b B oa m c ts) (hb : R < b) (hBV : B ≤ V.heap.size) (hbel : Below w.heap.size w V) (ok : Bool) :
  NodesAt ((V.setCell ⟨R, 0, none⟩ (.bool ok)).setCell ⟨R, 1, none⟩ (.slice oa m c)) w.heap.size ((V.setCell ⟨R, 0, none⟩ (.bool ok)).setCell ⟨R, 1, none⟩ (.slice oa m c)).heap.size oa m c ts ∧ Below w.heap.size w ((V.setCell ⟨R, 0, none⟩ (.bool ok)).setCell ⟨R, 1, none⟩ (.slice oa m c)) ∧ ((V.setCell ⟨R, 0, none⟩ (.bool ok)).setCell ⟨R, 1, none⟩ (.slice oa m c)).heap[R]? = some (.cells #[.bool ok, .slice oa m c] 30) := by
 have f1 := fr_setT V R 0 (.bool ok)
 have f2 := fr_setT (V.setCell ⟨R, 0, none⟩ (.bool ok)) R 1 (.slice oa m c)
 have hlR := (Array.getElem?_eq_some_iff.1 hbx).1
 have f3 : Fr (fun k => k = R) V ((V.setCell ⟨R, 0, none⟩ (.bool ok)).setCell ⟨R, 1, none⟩ (.slice oa m c)) := f1.trans f2
 refine ⟨(hO.keep (fun k h1 h2 => f3.block k (by omega) (by omega))).up (by omega) (by have := f3.size; omega), hbel.trans (f3.below hbel.size (fun g e => by omega)), ?_⟩
 have h1 := heap_setT hbx 0 (.bool ok)
 have h2 := heap_setT h1 1 (.slice oa m c)
 simpa using h2
set_option maxHeartbeats 8000000 in
theorem specPut_any (ts : List TN) (a : Option Addr) (n c A B : Nat) (w : World) (hB : B ≤ w.heap.size) (hT : NodesAt w A B a n c ts) (hn : n ≤ 1048576) (hb : ∀ x ∈ ts, NodeLen x) (key val : ByteArray) (hks : key.size ≤ 1048576) (hvs : val.size ≤ 1048576) :
  Calls Tryz.prog 6 #[.agg #[.slice a n c], .string key, .string val] w fun e w' => SpecTree w (putR ts key val) e w' := by
 obtain ⟨N, hN⟩ : ∃ N, w.heap.size = N := ⟨_, rfl⟩
 obtain ⟨W, hW⟩ : ∃ W, W = ((w.alloc (.cells #[.slice a n c] 28)).alloc (.cells #[.bool false, .slice none 0 0] 30)) := ⟨_, rfl⟩
 have al := alloc2N w (.cells #[.slice a n c] 28) (.cells #[.bool false, .slice none 0 0] 30)
 rw [← hW, hN] at al
 obtain ⟨k0, k1, sW, bW⟩ := al
 have HT : Hid (∀ V, Below N w V → NodesAt V A B a n c ts) := fun V h => hT.below (h.mono (by omega))
 have HL : Hid (ts.length = n) := hT.1
 have HKM : Hid (key.size ≤ maxLen) := by show _ ≤ _; unfold maxLen; omega
 have hcp := l3Copy_any ts a n c A B W (by omega) (HT.out W bW) hn hb
 have x0 := cell_one_at k0
 have lN : N < W.heap.size := by omega
 clear hT hb
 go_enter Tryz.func6, Tryz.ntmps6
 go_upto_region 1 with fail
 rw [← hW]
 clear hW
 go_upto_region 2 with (go_at_call 17; refine hcp.mono ?_; rintro e w1 ⟨a1, c1, rfl, hN1, hb1⟩)
 have s1 := hb1.size
 have kb := heap_alloc_new w1 (.cells #[.bool false, .slice a1 n c1] 30)
 have ab := (Below.refl w1.heap.size w1).alloc (Nat.le_refl _) (.cells #[.bool false, .slice a1 n c1] 30)
 have sb : (w1.alloc (.cells #[.bool false, .slice a1 n c1] 30)).heap.size = w1.heap.size + 1 := by simp
 generalize w1.alloc (.cells #[.bool false, .slice a1 n c1] 30) = W1 at kb ab sb ⊢
 obtain ⟨Mb, hMb⟩ : ∃ Mb, w1.heap.size = Mb := ⟨_, rfl⟩
 rw [hMb] at kb ab sb s1 hN1 ⊢
 have b01 := hb1.trans (ab.mono (by omega))
 have kA := (b01.block N (by omega)).trans k0
 have kN := (b01.block (N + 1) (by omega)).trans k1
 have b1 : Below N w W1 := bW.trans (b01.mono (by omega))
 have nd := hN1.below ab
 clear hcp x0 lN k0 k1 hb1 ab b01 hN1 bW hMb
 clear w1
 rw [sW] at s1 nd
 -- W1: kb, kA, kN, b1, nd
 have hsp := specValid_any ts a n c A B W1 (by omega) (HT.out W1 b1)
 have x0 := cell_one_at kA
 have lN : N < W1.heap.size := by omega
 go_wp2_with fail
 refine hsp.mono ?_
 rintro e w2 ⟨r, rfl, hr, hb2⟩
 have s2 := hb2.size
 have kb2 := (hb2.block Mb (by omega)).trans kb
 have kA2 := (hb2.block N (by omega)).trans kA
 have kN2 := (hb2.block (N + 1) (by omega)).trans kN
 have b2 : Below N w w2 := b1.trans (hb2.mono (by omega))
 have nd2 := nd.below (hb2.mono (by omega))
 clear hsp x0 lN kb kA kN b1 nd hb2
 cases r
 ·have HNO : Hid (¬ SpecOk ts) := fun h => by simpa using hr.2 h
  clear hr
  obtain ⟨FN, FB, FK⟩ := specAns_lay (w := w) (R := N + 1) (by omega) kN2 nd2 (by omega) (by omega) (by rw [hN]; exact b2) false
  have HFN : Hid _ := FN
  have HFB : Hid _ := FB
  obtain ⟨q0, q1⟩ := box_twoR kb2
  obtain ⟨q2, q3⟩ := box_twoR kN2
  have ff := thawT kN2
  have lb := (Array.getElem?_eq_some_iff.1 kb2).1
  have ln := (Array.getElem?_eq_some_iff.1 kN2).1
  obtain ⟨q4, q5⟩ := box_twoR FK
  have HPR : Hid (putR ts key val = (false, ts)) := by
   show _ = _
   unfold putR; rw [topT_no (fun h => HNO.out ((valid_iff ts).2 h))]
  clear FN FB
  go_wp2_with fail
  show bodyPost _ _ _ _ _ ((w2.setCell ⟨N + 1, 0, none⟩ (.bool false)).setCell ⟨N + 1, 1, none⟩ (.slice a1 n c1))
  refine bodyPost_ret (v := .agg #[.bool false, .slice a1 n c1]) (by simp [results, Tryz.results6, go_sem, q4, q5]) rfl ?_
  rw [HPR.out]
  exact ⟨a1, c1, by rw [HL.out], by rw [HL.out]; exact HFN.out, HFB.out⟩
 ·have HOK : Hid (SpecOk ts) := hr.1 rfl
  clear hr
  have hky := l2Key_t key HKM.out w2
  go_wp2_with fail
  refine hky.mono ?_
  rintro e w3 ⟨rfl, e3⟩
  obtain rfl : w2 = w3 := e3.symm
  clear hky
  cases hkb : kyB key
  ·have HKN : Hid (¬ kyB key = true) := by show ¬ _; rw [hkb]; simp
   obtain ⟨FN, FB, FK⟩ := specAns_lay (w := w) (R := N + 1) (by omega) kN2 nd2 (by omega) (by omega) (by rw [hN]; exact b2) false
   have HFN : Hid _ := FN
   have HFB : Hid _ := FB
   obtain ⟨q0, q1⟩ := box_twoR kb2
   obtain ⟨q2, q3⟩ := box_twoR kN2
   have ff := thawT kN2
   have lb := (Array.getElem?_eq_some_iff.1 kb2).1
   have ln := (Array.getElem?_eq_some_iff.1 kN2).1
   obtain ⟨q4, q5⟩ := box_twoR FK
   have HPR : Hid (putR ts key val = (false, ts)) := by
    show _ = _
    unfold putR; rw [topT_rd HOK.out]; simp only []; rw [if_neg (by exact fun h => HKN.out h.1)]
   clear FN FB
   go_wp2_with fail
   show bodyPost _ _ _ _ _ ((w2.setCell ⟨N + 1, 0, none⟩ (.bool false)).setCell ⟨N + 1, 1, none⟩ (.slice a1 n c1))
   refine bodyPost_ret (v := .agg #[.bool false, .slice a1 n c1]) (by simp [results, Tryz.results6, go_sem, q4, q5]) rfl ?_
   rw [HPR.out]
   exact ⟨a1, c1, by rw [HL.out], by rw [HL.out]; exact HFN.out, HFB.out⟩
  have HKY : Hid (kyB key = true) := hkb
  clear hkb
  by_cases hv4 : 400 < val.size
  ·obtain ⟨FN, FB, FK⟩ := specAns_lay (w := w) (R := N + 1) (by omega) kN2 nd2 (by omega) (by omega) (by rw [hN]; exact b2) false
   have HFN : Hid _ := FN
   have HFB : Hid _ := FB
   obtain ⟨q0, q1⟩ := box_twoR kb2
   obtain ⟨q2, q3⟩ := box_twoR kN2
   have ff := thawT kN2
   have lb := (Array.getElem?_eq_some_iff.1 kb2).1
   have ln := (Array.getElem?_eq_some_iff.1 kN2).1
   obtain ⟨q4, q5⟩ := box_twoR FK
   have HPR : Hid (putR ts key val = (false, ts)) := by
    show _ = _
    unfold putR; rw [topT_rd HOK.out]; simp only []; rw [if_neg (by exact fun h => by have := h.2.1; omega)]
   clear FN FB
   go_wp2_with fail
   show bodyPost _ _ _ _ _ ((w2.setCell ⟨N + 1, 0, none⟩ (.bool false)).setCell ⟨N + 1, 1, none⟩ (.slice a1 n c1))
   refine bodyPost_ret (v := .agg #[.bool false, .slice a1 n c1]) (by simp [results, Tryz.results6, go_sem, q4, q5]) rfl ?_
   rw [HPR.out]
   exact ⟨a1, c1, by rw [HL.out], by rw [HL.out]; exact HFN.out, HFB.out⟩
  have HVS : Hid (val.size ≤ 400) := by show _ ≤ _; omega
  have x0 := cell_one_at kA2
  have lN : N < w2.heap.size := by omega
  have hn3 : ts.length ≤ 1000 := HOK.out.1.2
  have hdeep := l3Deep_any ts hn3 a n c A B w2 (by omega) (HT.out w2 b2)
  go_upto_region 5 with (go_at_call 20; refine hdeep.mono ?_; rintro e w4 ⟨ka, kn, kc, va, vn, vc, oa, on, oc, ya, yc, css, rfl, hX4, hb4⟩)
  clear hdeep x0 lN
  obtain ⟨t, ht⟩ : ∃ t, (rd ts (ts.length + 1) 0).1 = t := ⟨_, rfl⟩
  have HT4 : Hid ((rd ts (ts.length + 1) 0).1 = t) := ht
  rw [ht] at hX4 ⊢
  clear ht
  generalize (!(rd ts (ts.length + 1) 0).2.2 && decide ((rd ts (ts.length + 1) 0).2.1 = n)) = okb
  obtain ⟨hio, _, hg, hsh, hht, htn, hso, hky8⟩ := topT_good (by rw [topT_rd HOK.out, HT4.out] : topT ts = some t)
  have HTN : Hid (t.nodes ≤ 1000) := htn
  have HRO : Hid _ := rootP_ok (key := key) (val := val) HVS.out HKY.out hg hsh hky8
  have hs4 := hb4.size
  have hX4' : NodeX w4 0 w4.heap.size (fun b => b < w4.heap.size) t ka kn kc va vn vc oa on oc ya yc css := hX4.wide (fun _ _ _ => rfl) (fun _ _ => rfl) (fun b hb => hb.2) (Nat.zero_le _) (by omega)
  have k4 := heap_alloc_new w4 (.cells #[.bool t.leaf, .int .i64 t.page, .slice ka kn kc, .slice va vn vc, .slice oa on oc, .slice ya t.kids.length yc] 48)
  have ab4 := (Below.refl w4.heap.size w4).alloc (Nat.le_refl _) (.cells #[.bool t.leaf, .int .i64 t.page, .slice ka kn kc, .slice va vn vc, .slice oa on oc, .slice ya t.kids.length yc] 48)
  have sb4 : (w4.alloc (.cells #[.bool t.leaf, .int .i64 t.page, .slice ka kn kc, .slice va vn vc, .slice oa on oc, .slice ya t.kids.length yc] 48)).heap.size = w4.heap.size + 1 := by simp
  have hSN : SN (w4.alloc (.cells #[.bool t.leaf, .int .i64 t.page, .slice ka kn kc, .slice va vn vc, .slice oa on oc, .slice ya t.kids.length yc] 48)) (fun b => b < w4.heap.size) t (.agg #[.bool t.leaf, .int .i64 t.page, .slice ka kn kc, .slice va vn vc, .slice oa on oc, .slice ya t.kids.length yc]) := SN.below ⟨_, _, _, _, _, _, _, _, _, _, _, _, rfl, hX4'.q⟩ ab4
  generalize w4.alloc (.cells #[.bool t.leaf, .int .i64 t.page, .slice ka kn kc, .slice va vn vc, .slice oa on oc, .slice ya t.kids.length yc] 48) = W4 at k4 ab4 sb4 hSN ⊢
  have b24 := hb4.trans (ab4.mono (by omega))
  have kb4 := (b24.block Mb (by omega)).trans kb2
  have kN4 := (b24.block (N + 1) (by omega)).trans kN2
  have b4 : Below N w W4 := b2.trans (b24.mono (by omega))
  have nd4 := nd2.below (b24.mono (by omega))
  have hput := l3Put_any key val HKM.out HVS.out t hsh ⟨true, hg⟩ W4 _ _ (fun b hb => by omega) hSN
  obtain ⟨K4, hK4⟩ : ∃ K4, w4.heap.size = K4 := ⟨_, rfl⟩
  rw [hK4] at k4 sb4
  obtain ⟨q0, q1, q2, q3, q4, q5⟩ := box6g k4
  have l4 : K4 < W4.heap.size := by omega
  have HSO : Hid ((putT key val t).size ≤ 5) := (soft_put key val HVS.out t true hg hsh).size.2
  clear hX4 hX4' hb4 ab4 b24 kb2 kN2 kA2 b2 nd2 hSN hg hsh hht htn hso hky8 hio hn3
  obtain ⟨CP, hCP⟩ : ∃ CP, cutT (putT key val t) = CP := ⟨_, rfl⟩
  have HCP : Hid (cutT (putT key val t) = CP) := hCP
  rw [hCP] at hput
  have hc1 : 1 ≤ CP.length := by rw [← hCP]; exact (cut_len _).1
  clear hCP
  go_upto_region 6 with (go_at_call 21; refine hput.mono ?_; rintro e w5 ⟨v5, rfl, hSL, hb5⟩; obtain ⟨ya5, yc5, css5, rfl, hQ5⟩ := hSL)
  have s5 := hb5.size
  have kb5 := (hb5.block Mb (by omega)).trans kb4
  have kN5 := (hb5.block (N + 1) (by omega)).trans kN4
  have b5 : Below N w w5 := b4.trans (hb5.mono (by omega))
  have nd5 := nd4.below (hb5.mono (by omega))
  clear hput q0 q1 q2 q3 q4 q5 k4 kb4 kN4 b4 nd4 hb5
  obtain ⟨bb, off, rfl, hbl, k, hki, hkm, ka', kn', kc', va', vn', vc', oa', on', oc', ya', yc', hSk, d0, d1, d2, d3, d4, d5⟩ := kid_at hQ5 (i := 0) (by show 0 < CP.length; omega)
  simp only [Nat.zero_mul, Nat.add_zero] at d0 d1 d2 d3 d4 d5
  have hcy := hQ5.nx.cap
  have hcy1 : CP.length ≤ yc5 := hcy.1
  have hcy2 := hcy.2
  unfold maxLen at hcy2
  have k6 := heap_alloc_new w5 (.cells #[.bool k.leaf, .int .i64 k.page, .slice ka' kn' kc', .slice va' vn' vc', .slice oa' on' oc', .slice ya' k.kids.length yc'] 48)
  have ab6 := (Below.refl w5.heap.size w5).alloc (Nat.le_refl _) (.cells #[.bool k.leaf, .int .i64 k.page, .slice ka' kn' kc', .slice va' vn' vc', .slice oa' on' oc', .slice ya' k.kids.length yc'] 48)
  have sb6 : (w5.alloc (.cells #[.bool k.leaf, .int .i64 k.page, .slice ka' kn' kc', .slice va' vn' vc', .slice oa' on' oc', .slice ya' k.kids.length yc'] 48)).heap.size = w5.heap.size + 1 := by simp
  go_upto_region 7 with fail
  generalize w5.alloc (.cells #[.bool k.leaf, .int .i64 k.page, .slice ka' kn' kc', .slice va' vn' vc', .slice oa' on' oc', .slice ya' k.kids.length yc'] 48) = W6 at k6 ab6 sb6 ⊢
  obtain ⟨K5, hK5⟩ : ∃ K5, w5.heap.size = K5 := ⟨_, rfl⟩
  rw [hK5] at k6 ab6 sb6 hbl
  have kb6 := (ab6.block Mb (by omega)).trans kb5
  have kN6 := (ab6.block (N + 1) (by omega)).trans kN5
  have b6 : Below N w W6 := b5.trans (ab6.mono (by omega))
  have nd6 := nd5.below (ab6.mono (by omega))
  clear d0 d1 d2 d3 d4 d5 kb5 kN5 b5 nd5
  by_cases hs4' : (putT key val t).size ≤ 4
  ·have hCP1 : CP = [putT key val t] := by rw [← HCP.out]; unfold cutT; rw [if_pos hs4']
   have hke : putT key val t = k := by
    have h9 : CP[0]? = some k := hki
    rw [hCP1] at h9
    simpa using h9
   have HRT : Hid (rootP key val t = k) := by show _ = _; unfold rootP; rw [if_pos hs4', hke]
   have hl1 : CP.length = 1 := by rw [hCP1]; rfl
   obtain ⟨e0, e1, e2, e3, e4, e5, e6, e7, e8, e9, e10, cs9, ee, hkX⟩ := hSk
   cases ee
   obtain ⟨X, hXe⟩ : ∃ X, W6 = X := ⟨_, rfl⟩
   have hRX : NodeX X 0 K5 (fun b => b < K5) k ka' kn' kc' va' vn' vc' oa' on' oc' ya' yc' cs9 := by rw [← hXe]; exact (hK5 ▸ hkX.nx).belowC ab6
   rw [hl1]
   rw [hXe] at k6 kb6 kN6 b6 nd6 sb6 ⊢
   have kO := k6
   have kbX := kb6
   have kNX := kN6
   have bX := b6
   have ndX := nd6
   clear hki hkm hCP1 hke hkX k6 kb6 kN6 b6 nd6 hXe ab6 hQ5
   have hnc : Calls Tryz.prog 22 #[.agg #[.bool k.leaf, .int .i64 k.page, .slice ka' kn' kc', .slice va' vn' vc', .slice oa' on' oc', .slice ya' k.kids.length yc']] X fun e w' => e = .returned (.int .i64 (k).nodes) ∧ Below X.heap.size X w' := l3Nodes_any K5 k (by have := HRO.out.2.2.2.1; rw [HRT.out] at this; have := HTN.out; omega) X ka' kn' kc' va' vn' vc' oa' on' oc' ya' yc' cs9 (by omega) hRX
   have hnodes : (k).nodes ≤ 2001 := by have := HRO.out.2.2.2.1; rw [HRT.out] at this; have := HTN.out; omega
   obtain ⟨nn, hnn⟩ : ∃ nn, (k).nodes = nn := ⟨_, rfl⟩
   have HNN : Hid ((k).nodes = nn) := hnn
   rw [hnn] at hnc hnodes
   clear hnn
   obtain ⟨q0, q1, q2, q3, q4, q5⟩ := box6g kO
   have lO : K5 < X.heap.size := (Array.getElem?_eq_some_iff.1 kO).1
   go_wp2_with fail
   refine hnc.mono ?_
   rintro e w7 ⟨rfl, hb7⟩
   have s7 := hb7.size
   have kb7 := (hb7.block Mb (by omega)).trans kbX
   have kN7 := (hb7.block (N + 1) (by omega)).trans kNX
   have kO7 := (hb7.block K5 lO).trans kO
   have b7 : Below N w w7 := bX.trans (hb7.mono (by omega))
   have nd7 := ndX.below (hb7.mono (by omega))
   have hR7 := hRX.belowC (hb7.mono (show K5 ≤ X.heap.size by omega))
   clear hnc hRX kO kbX kNX bX ndX hb7 q0 q1 q2 q3 q4 q5 lO
   by_cases hbig : 1000 < nn
   ·obtain ⟨FN, FB, FK⟩ := specAns_lay (w := w) (R := N + 1) (by omega) kN7 nd7 (by omega) (by omega) (by rw [hN]; exact b7) false
    have HFN : Hid _ := FN
    have HFB : Hid _ := FB
    obtain ⟨q0, q1⟩ := box_twoR kb7
    obtain ⟨q2, q3⟩ := box_twoR kN7
    have ff := thawT kN7
    have lb := (Array.getElem?_eq_some_iff.1 kb7).1
    have ln := (Array.getElem?_eq_some_iff.1 kN7).1
    obtain ⟨q4, q5⟩ := box_twoR FK
    have HPR : Hid (putR ts key val = (false, ts)) := by
     show _ = _
     unfold putR; rw [topT_rd HOK.out, HT4.out]; simp only []; rw [if_neg (fun h => by have h1 := h.2.2; rw [HRT.out] at h1; have := HNN.out; omega)]
    clear FN FB
    go_wp2_with fail
    show bodyPost _ _ _ _ _ ((w7.setCell ⟨N + 1, 0, none⟩ (.bool false)).setCell ⟨N + 1, 1, none⟩ (.slice a1 n c1))
    refine bodyPost_ret (v := .agg #[.bool false, .slice a1 n c1]) (by simp [results, Tryz.results6, go_sem, q4, q5]) rfl ?_
    rw [HPR.out]
    exact ⟨a1, c1, by rw [HL.out], by rw [HL.out]; exact HFN.out, HFB.out⟩
   ·have htr : Calls Tryz.prog 23 #[.agg #[.bool k.leaf, .int .i64 k.page, .slice ka' kn' kc', .slice va' vn' vc', .slice oa' on' oc', .slice ya' k.kids.length yc']] w7 fun e w' => ∃ g c css, e = .returned (.agg #[.slice (some ⟨g, 0, none⟩) ((k).flat 0).length c]) ∧ FlatAt w' w7.heap.size g c css ((k).flat 0) ∧ Below w7.heap.size w7 w' := l3Tree_any K5 k ⟨true, by have := HRO.out.1; rw [HRT.out] at this; exact this⟩ (by have := HNN.out; omega) (by have := HRO.out.2.2.2.2; rw [HRT.out] at this; exact this) w7 ka' kn' kc' va' vn' vc' oa' on' oc' ya' yc' cs9 (by omega) hR7
    have HPR : Hid (putR ts key val = (true, (k).flat 0)) := by
     show _ = _
     unfold putR
     rw [topT_rd HOK.out, HT4.out]
     simp only []
     rw [if_pos ⟨HKY.out, HVS.out, by rw [HRT.out]; have := HNN.out; omega⟩, HRT.out]
    obtain ⟨q0, q1, q2, q3, q4, q5⟩ := box6g kO7
    have lO : K5 < w7.heap.size := (Array.getElem?_eq_some_iff.1 kO7).1
    obtain ⟨fl, hfl⟩ : ∃ fl, (k).flat 0 = fl := ⟨_, rfl⟩
    rw [hfl] at htr HPR
    clear hfl
    go_wp2_with fail
    refine htr.mono ?_
    rintro e w8 ⟨g8, c8, css8, rfl, hF8, hb8⟩
    have s8 := hb8.size
    have kN8 := (hb8.block (N + 1) (by omega)).trans kN7
    obtain ⟨FN, FB, FK⟩ := specAns_lay (w := w) (R := N + 1) (by omega) kN8 hF8.nodes (by omega) (Nat.le_refl _) (by rw [hN]; exact b7.trans (hb8.mono (by omega))) true
    have HFN : Hid _ := FN
    have HFB : Hid _ := FB
    obtain ⟨r2, r3⟩ := box_twoR kN8
    have ff := thawT kN8
    have ln := (Array.getElem?_eq_some_iff.1 kN8).1
    obtain ⟨r4, r5⟩ := box_twoR FK
    clear FN FB htr hF8 hb8 q0 q1 q2 q3 q4 q5
    go_wp2_with fail
    show bodyPost _ _ _ _ _ ((w8.setCell ⟨N + 1, 0, none⟩ (.bool true)).setCell ⟨N + 1, 1, none⟩ (.slice (some ⟨g8, 0, none⟩) fl.length c8))
    refine bodyPost_ret (v := .agg #[.bool true, .slice (some ⟨g8, 0, none⟩) fl.length c8]) (by simp [results, Tryz.results6, go_sem, r4, r5]) rfl ?_
    rw [HPR.out]
    exact ⟨_, c8, rfl, ⟨rfl, HFN.out.2⟩, HFB.out⟩
  ·have hCP2 : CP.length = 2 := by rw [← HCP.out]; unfold cutT; rw [if_neg hs4']; rfl
   have HRT : Hid (rootP key val t = innT CP) := by show _ = _; unfold rootP; rw [if_neg hs4', HCP.out]; rfl
   have f6 := thawT k6
   obtain ⟨q0, q1, q2, q3, q4, q5⟩ := box6g k6
   have l6 : K5 < W6.heap.size := by omega
   obtain ⟨cs9, hc9⟩ : ∃ cs9, css5 = cs9 := ⟨_, rfl⟩
   have hRX0 : NodeX w5 0 K5 (fun b => b < K5) (innT CP) none 0 0 none 0 0 none 0 0 (some ⟨bb, off, none⟩) yc5 cs9 := by rw [← hc9]; exact hK5 ▸ hQ5.nx
   have HLEN : Hid ((innT CP).kids.length = 2) := hCP2
   rw [hCP2]
   go_upto_region 9 with fail
   obtain ⟨X, hXe⟩ : ∃ X, put6T W6 K5 (.bool false) (.int .i64 0) (.slice none 0 0) (.slice none 0 0) (.slice none 0 0) (.slice (some ⟨bb, off, none⟩) 2 yc5) = X := ⟨_, rfl⟩
   have eX : ((((((W6.setCell ⟨K5, 0, none⟩ (.bool false)).setCell ⟨K5, 1, none⟩ (.int .i64 0)).setCell ⟨K5, 2, none⟩ (.slice none 0 0)).setCell ⟨K5, 3, none⟩ (.slice none 0 0)).setCell ⟨K5, 4, none⟩ (.slice none 0 0)).setCell ⟨K5, 5, none⟩ (.slice (some ⟨bb, off, none⟩) 2 yc5)) = X := (put6T_eq W6 K5 (.bool false) (.int .i64 0) (.slice none 0 0) (.slice none 0 0) (.slice none 0 0) (.slice (some ⟨bb, off, none⟩) 2 yc5)).trans hXe
   have hp := put6T_fr W6 K5 (.bool false) (.int .i64 0) (.slice none 0 0) (.slice none 0 0) (.slice none 0 0) (.slice (some ⟨bb, off, none⟩) 2 yc5)
   have kO := put6T_box k6 (.bool false) (.int .i64 0) (.slice none 0 0) (.slice none 0 0) (.slice none 0 0) (.slice (some ⟨bb, off, none⟩) 2 yc5)
   rw [hXe] at hp kO
   try rw [eX]
   clear eX hXe
   have sp := hp.size
   have bp : Below K5 W6 X := hp.below (by omega) (fun g e => by omega)
   have hRX := (hRX0.belowC ab6).belowC bp
   have kbX := (bp.block Mb (by omega)).trans kb6
   have kNX := (bp.block (N + 1) (by omega)).trans kN6
   have bX : Below N w X := b6.trans (bp.mono (by omega))
   have ndX := nd6.below (bp.mono (by omega))
   clear hki hkm hp bp k6 kb6 kN6 b6 nd6 f6 q0 q1 q2 q3 q4 q5 hRX0 hc9 hQ5 ab6 hSk
   have hnc : Calls Tryz.prog 22 #[.agg #[.bool false, .int .i64 0, .slice none 0 0, .slice none 0 0, .slice none 0 0, .slice (some ⟨bb, off, none⟩) 2 yc5]] X fun e w' => e = .returned (.int .i64 ((innT CP)).nodes) ∧ Below X.heap.size X w' := by
    have h1 := l3Nodes_any K5 (innT CP) (by have := HRO.out.2.2.2.1; rw [HRT.out] at this; have := HTN.out; omega) X none 0 0 none 0 0 none 0 0 (some ⟨bb, off, none⟩) yc5 cs9 (by omega) hRX
    rw [HLEN.out] at h1
    exact h1
   have hnodes : ((innT CP)).nodes ≤ 2001 := by have := HRO.out.2.2.2.1; rw [HRT.out] at this; have := HTN.out; omega
   obtain ⟨nn, hnn⟩ : ∃ nn, ((innT CP)).nodes = nn := ⟨_, rfl⟩
   have HNN : Hid (((innT CP)).nodes = nn) := hnn
   rw [hnn] at hnc hnodes
   clear hnn
   obtain ⟨q0, q1, q2, q3, q4, q5⟩ := box6g kO
   have lO : K5 < X.heap.size := (Array.getElem?_eq_some_iff.1 kO).1
   go_wp2_with fail
   refine hnc.mono ?_
   rintro e w7 ⟨rfl, hb7⟩
   have s7 := hb7.size
   have kb7 := (hb7.block Mb (by omega)).trans kbX
   have kN7 := (hb7.block (N + 1) (by omega)).trans kNX
   have kO7 := (hb7.block K5 lO).trans kO
   have b7 : Below N w w7 := bX.trans (hb7.mono (by omega))
   have nd7 := ndX.below (hb7.mono (by omega))
   have hR7 := hRX.belowC (hb7.mono (show K5 ≤ X.heap.size by omega))
   clear hnc hRX kO kbX kNX bX ndX hb7 q0 q1 q2 q3 q4 q5 lO
   by_cases hbig : 1000 < nn
   ·obtain ⟨FN, FB, FK⟩ := specAns_lay (w := w) (R := N + 1) (by omega) kN7 nd7 (by omega) (by omega) (by rw [hN]; exact b7) false
    have HFN : Hid _ := FN
    have HFB : Hid _ := FB
    obtain ⟨q0, q1⟩ := box_twoR kb7
    obtain ⟨q2, q3⟩ := box_twoR kN7
    have ff := thawT kN7
    have lb := (Array.getElem?_eq_some_iff.1 kb7).1
    have ln := (Array.getElem?_eq_some_iff.1 kN7).1
    obtain ⟨q4, q5⟩ := box_twoR FK
    have HPR : Hid (putR ts key val = (false, ts)) := by
     show _ = _
     unfold putR; rw [topT_rd HOK.out, HT4.out]; simp only []; rw [if_neg (fun h => by have h1 := h.2.2; rw [HRT.out] at h1; have := HNN.out; omega)]
    clear FN FB
    go_wp2_with fail
    show bodyPost _ _ _ _ _ ((w7.setCell ⟨N + 1, 0, none⟩ (.bool false)).setCell ⟨N + 1, 1, none⟩ (.slice a1 n c1))
    refine bodyPost_ret (v := .agg #[.bool false, .slice a1 n c1]) (by simp [results, Tryz.results6, go_sem, q4, q5]) rfl ?_
    rw [HPR.out]
    exact ⟨a1, c1, by rw [HL.out], by rw [HL.out]; exact HFN.out, HFB.out⟩
   ·have htr : Calls Tryz.prog 23 #[.agg #[.bool false, .int .i64 0, .slice none 0 0, .slice none 0 0, .slice none 0 0, .slice (some ⟨bb, off, none⟩) 2 yc5]] w7 fun e w' => ∃ g c css, e = .returned (.agg #[.slice (some ⟨g, 0, none⟩) (((innT CP)).flat 0).length c]) ∧ FlatAt w' w7.heap.size g c css (((innT CP)).flat 0) ∧ Below w7.heap.size w7 w' := by
     have h1 := l3Tree_any K5 (innT CP) ⟨true, by have := HRO.out.1; rw [HRT.out] at this; exact this⟩ (by have := HNN.out; omega) (by have := HRO.out.2.2.2.2; rw [HRT.out] at this; exact this) w7 none 0 0 none 0 0 none 0 0 (some ⟨bb, off, none⟩) yc5 cs9 (by omega) hR7
     rw [HLEN.out] at h1
     exact h1
    have HPR : Hid (putR ts key val = (true, ((innT CP)).flat 0)) := by
     show _ = _
     unfold putR
     rw [topT_rd HOK.out, HT4.out]
     simp only []
     rw [if_pos ⟨HKY.out, HVS.out, by rw [HRT.out]; have := HNN.out; omega⟩, HRT.out]
    obtain ⟨q0, q1, q2, q3, q4, q5⟩ := box6g kO7
    have lO : K5 < w7.heap.size := (Array.getElem?_eq_some_iff.1 kO7).1
    obtain ⟨fl, hfl⟩ : ∃ fl, ((innT CP)).flat 0 = fl := ⟨_, rfl⟩
    rw [hfl] at htr HPR
    clear hfl
    go_wp2_with fail
    refine htr.mono ?_
    rintro e w8 ⟨g8, c8, css8, rfl, hF8, hb8⟩
    have s8 := hb8.size
    have kN8 := (hb8.block (N + 1) (by omega)).trans kN7
    obtain ⟨FN, FB, FK⟩ := specAns_lay (w := w) (R := N + 1) (by omega) kN8 hF8.nodes (by omega) (Nat.le_refl _) (by rw [hN]; exact b7.trans (hb8.mono (by omega))) true
    have HFN : Hid _ := FN
    have HFB : Hid _ := FB
    obtain ⟨r2, r3⟩ := box_twoR kN8
    have ff := thawT kN8
    have ln := (Array.getElem?_eq_some_iff.1 kN8).1
    obtain ⟨r4, r5⟩ := box_twoR FK
    clear FN FB htr hF8 hb8 q0 q1 q2 q3 q4 q5
    go_wp2_with fail
    show bodyPost _ _ _ _ _ ((w8.setCell ⟨N + 1, 0, none⟩ (.bool true)).setCell ⟨N + 1, 1, none⟩ (.slice (some ⟨g8, 0, none⟩) fl.length c8))
    refine bodyPost_ret (v := .agg #[.bool true, .slice (some ⟨g8, 0, none⟩) fl.length c8]) (by simp [results, Tryz.results6, go_sem, r4, r5]) rfl ?_
    rw [HPR.out]
    exact ⟨_, c8, rfl, ⟨rfl, HFN.out.2⟩, HFB.out⟩
set_option maxHeartbeats 400000 in
theorem eqStringS_same (a : Option Addr) (n c : Nat) (a2 : Option Addr) (c2 : Nat) (xs : List ByteArray) (w : World) (A B A2 B2 : Nat) (hB : B ≤ w.heap.size) (hB2 : B2 ≤ w.heap.size) (h : StrsAt w A B a n c xs) (k : StrsAt w A2 B2 a2 n c2 xs) :
  Calls Tryz.prog 72 #[.slice a n c, .slice a2 n c2] w fun e w' => e = .returned (.bool true) ∧ Below w.heap.size w w' := by
 have hc := Nat.le_trans h.2.1 h.2.2.1
 unfold maxLen at hc
 have hne : ((n : Int) != (n : Int)) = false := by simp
 go_enter Tryz.func72, Tryz.ntmps72
 go_wp2
 go_loopw [5] (fun i wr => ∃ k : Nat, k ≤ n ∧ i = .int .i64 k ∧ Below w.heap.size w wr) (fun i _ => n - (intOf i).toNat)
 case atStart => exact ⟨0, Nat.zero_le _, rfl, Below.refl _ _⟩
 case round =>
  obtain ⟨j, hj, rfl, hbel⟩ := hrel
  by_cases hlt : j < n
  ·obtain ⟨b, off, rfl, hb, hfit, e0⟩ := StrsAt.at (h.below (hbel.mono hB)) hlt
   obtain ⟨b2, off2, rfl, hb2, hfit2, f0⟩ := StrsAt.at (k.below (hbel.mono hB2)) hlt
   clear h k
   generalize xs.getD j ByteArray.empty = s at e0 f0 hfit hfit2
   have hd := hbel.drew
   go_wp2
   go_quiet (fail)
   go_wp2
   go_roundw
   case rel => exact ⟨j + 1, by omega, by go_num, hbel.trans ⟨rfl, rfl, rfl, Nat.le_refl _, fun _ _ => rfl⟩⟩
   case measure => simp [intOf]; omega
  ·go_wp2
   go_ret
   exact ⟨rfl, hbel⟩
set_option maxHeartbeats 400000 in
theorem eqInt64S_same (a : Option Addr) (n c : Nat) (a2 : Option Addr) (c2 : Nat) (xs : List Int) (w : World) (A B A2 B2 : Nat) (hB : B ≤ w.heap.size) (hB2 : B2 ≤ w.heap.size) (h : IntsAt w A B a n c xs) (k : IntsAt w A2 B2 a2 n c2 xs) :
  Calls Tryz.prog 73 #[.slice a n c, .slice a2 n c2] w fun e w' => e = .returned (.bool true) ∧ Below w.heap.size w w' := by
 have hc := Nat.le_trans h.2.1 h.2.2.1
 unfold maxLen at hc
 have hne : ((n : Int) != (n : Int)) = false := by simp
 go_enter Tryz.func73, Tryz.ntmps73
 go_wp2
 go_loopw [5] (fun i wr => ∃ k : Nat, k ≤ n ∧ i = .int .i64 k ∧ Below w.heap.size w wr) (fun i _ => n - (intOf i).toNat)
 case atStart => exact ⟨0, Nat.zero_le _, rfl, Below.refl _ _⟩
 case round =>
  obtain ⟨j, hj, rfl, hbel⟩ := hrel
  by_cases hlt : j < n
  ·obtain ⟨b, off, rfl, hb, hfit, e0⟩ := IntsAt.at (h.below (hbel.mono hB)) hlt
   obtain ⟨b2, off2, rfl, hb2, hfit2, f0⟩ := IntsAt.at (k.below (hbel.mono hB2)) hlt
   clear h k
   generalize xs.getD j 0 = s at e0 f0 hfit hfit2
   have hd := hbel.drew
   have hsb : (s != s) = false := by simp
   go_wp2
   go_quiet (fail)
   go_wp2
   go_roundw
   case rel => exact ⟨j + 1, by omega, by go_num, hbel.trans ⟨rfl, rfl, rfl, Nat.le_refl _, fun _ _ => rfl⟩⟩
   case measure => simp [intOf]; omega
  ·go_wp2
   go_ret
   exact ⟨rfl, hbel⟩
set_option maxHeartbeats 1000000 in
theorem eqTNode_same (lf : Bool) (pg : Int) (ks vs : List ByteArray) (os ys : List Int) (ka : Option Addr) (kn kc : Nat) (va : Option Addr) (vn vc : Nat) (oa : Option Addr) (on oc : Nat) (ya : Option Addr) (yn yc : Nat) (ka2 : Option Addr) (kc2 : Nat) (va2 : Option Addr) (vc2 : Nat) (oa2 : Option Addr) (oc2 : Nat) (ya2 : Option Addr) (yc2 : Nat) (w : World) (A B A2 B2 : Nat) (hB : B ≤ w.heap.size) (hB2 : B2 ≤ w.heap.size)
  (hK : StrsAt w A B ka kn kc ks) (hV : StrsAt w A B va vn vc vs) (hO : IntsAt w A B oa on oc os) (hY : IntsAt w A B ya yn yc ys) (hK2 : StrsAt w A2 B2 ka2 kn kc2 ks) (hV2 : StrsAt w A2 B2 va2 vn vc2 vs) (hO2 : IntsAt w A2 B2 oa2 on oc2 os) (hY2 : IntsAt w A2 B2 ya2 yn yc2 ys) :
  Calls Tryz.prog 55 #[.agg #[.bool lf, .int .i64 pg, .slice ka kn kc, .slice va vn vc, .slice oa on oc, .slice ya yn yc], .agg #[.bool lf, .int .i64 pg, .slice ka2 kn kc2, .slice va2 vn vc2, .slice oa2 on oc2, .slice ya2 yn yc2]] w fun e w' => e = .returned (.bool true) ∧ Below w.heap.size w w' := by
 obtain ⟨N, hN⟩ : ∃ N, w.heap.size = N := ⟨_, rfl⟩
 have s1 : (w.alloc (.cells #[.bool lf, .int .i64 pg, .slice ka kn kc, .slice va vn vc, .slice oa on oc, .slice ya yn yc] 81)).heap.size = N + 1 := by simp [hN]
 have k0 := heap_alloc_new w (.cells #[.bool lf, .int .i64 pg, .slice ka kn kc, .slice va vn vc, .slice oa on oc, .slice ya yn yc] 81)
 have k1 := heap_alloc_new (w.alloc (.cells #[.bool lf, .int .i64 pg, .slice ka kn kc, .slice va vn vc, .slice oa on oc, .slice ya yn yc] 81)) (.cells #[.bool lf, .int .i64 pg, .slice ka2 kn kc2, .slice va2 vn vc2, .slice oa2 on oc2, .slice ya2 yn yc2] 81)
 have kb := (Below.refl (w.alloc (.cells #[.bool lf, .int .i64 pg, .slice ka kn kc, .slice va vn vc, .slice oa on oc, .slice ya yn yc] 81)).heap.size _).alloc (Nat.le_refl _) (.cells #[.bool lf, .int .i64 pg, .slice ka2 kn kc2, .slice va2 vn vc2, .slice oa2 on oc2, .slice ya2 yn yc2] 81)
 have b0 : Below w.heap.size w ((w.alloc (.cells #[.bool lf, .int .i64 pg, .slice ka kn kc, .slice va vn vc, .slice oa on oc, .slice ya yn yc] 81)).alloc (.cells #[.bool lf, .int .i64 pg, .slice ka2 kn kc2, .slice va2 vn vc2, .slice oa2 on oc2, .slice ya2 yn yc2] 81)) := ((Below.refl _ _).alloc (Nat.le_refl _) _).alloc (by simp) _
 have k00 := (kb.block w.heap.size (by omega)).trans k0
 have z0 : ((w.alloc (.cells #[.bool lf, .int .i64 pg, .slice ka kn kc, .slice va vn vc, .slice oa on oc, .slice ya yn yc] 81)).alloc (.cells #[.bool lf, .int .i64 pg, .slice ka2 kn kc2, .slice va2 vn vc2, .slice oa2 on oc2, .slice ya2 yn yc2] 81)).heap.size = N + 2 := by simp [hN]
 rw [s1] at k1
 rw [hN] at k00
 clear k0 kb s1
 have e1 : (lf != lf) = false := by simp
 have e2 : (pg != pg) = false := by simp
 go_enter Tryz.func55, Tryz.ntmps55
 go_wp2_with fail
 generalize ((w.alloc (.cells #[.bool lf, .int .i64 pg, .slice ka kn kc, .slice va vn vc, .slice oa on oc, .slice ya yn yc] 81)).alloc (.cells #[.bool lf, .int .i64 pg, .slice ka2 kn kc2, .slice va2 vn vc2, .slice oa2 on oc2, .slice ya2 yn yc2] 81)) = W0 at k1 k00 b0 z0 ⊢
 refine (eqStringS_same _ _ _ _ _ ks W0 A B A2 B2 (by omega) (by omega) (hK.below (b0.mono hB)) (hK2.below (b0.mono hB2))).mono ?_
 rintro e w1 ⟨rfl, h1⟩
 have b1 := b0.trans (h1.mono (by omega))
 have z1 : N + 2 ≤ w1.heap.size := by have := h1.size; omega
 have j0 := (h1.block _ (by omega)).trans k00
 have j1 := (h1.block _ (by omega)).trans k1
 obtain ⟨x0, x1, x2, x3, x4, x5⟩ := box6 j0
 obtain ⟨y0, y1, y2, y3, y4, y5⟩ := box6 j1
 have l0 : N < w1.heap.size := by omega
 have l1 : N + 1 < w1.heap.size := by omega
 clear k00 k1 b0 z0 h1 hK hK2
 go_wp2_with fail
 refine (eqStringS_same _ _ _ _ _ vs w1 A B A2 B2 (by omega) (by omega) (hV.below (b1.mono hB)) (hV2.below (b1.mono hB2))).mono ?_
 rintro e w2 ⟨rfl, h2⟩
 have b2 := b1.trans (h2.mono (by omega))
 have z2 : N + 2 ≤ w2.heap.size := by have := h2.size; omega
 have i0 := (h2.block _ (by omega)).trans j0
 have i1 := (h2.block _ (by omega)).trans j1
 clear x0 x1 x2 x3 x4 x5 y0 y1 y2 y3 y4 y5 j0 j1 b1 z1 h2 hV hV2 l0 l1
 obtain ⟨x0, x1, x2, x3, x4, x5⟩ := box6 i0
 obtain ⟨y0, y1, y2, y3, y4, y5⟩ := box6 i1
 have l0 : N < w2.heap.size := by omega
 have l1 : N + 1 < w2.heap.size := by omega
 go_wp2_with fail
 refine (eqInt64S_same _ _ _ _ _ os w2 A B A2 B2 (by omega) (by omega) (hO.below (b2.mono hB)) (hO2.below (b2.mono hB2))).mono ?_
 rintro e w3 ⟨rfl, h3⟩
 have b3 := b2.trans (h3.mono (by omega))
 have z3 : N + 2 ≤ w3.heap.size := by have := h3.size; omega
 have j0 := (h3.block _ (by omega)).trans i0
 have j1 := (h3.block _ (by omega)).trans i1
 clear x0 x1 x2 x3 x4 x5 y0 y1 y2 y3 y4 y5 i0 i1 b2 z2 h3 hO hO2 l0 l1
 obtain ⟨x0, x1, x2, x3, x4, x5⟩ := box6 j0
 obtain ⟨y0, y1, y2, y3, y4, y5⟩ := box6 j1
 have l0 : N < w3.heap.size := by omega
 have l1 : N + 1 < w3.heap.size := by omega
 go_wp2_with fail
 refine (eqInt64S_same _ _ _ _ _ ys w3 A B A2 B2 (by omega) (by omega) (hY.below (b3.mono hB)) (hY2.below (b3.mono hB2))).mono ?_
 rintro e w4 ⟨rfl, h4⟩
 have b4 := b3.trans (h4.mono (by omega))
 go_wp2_with fail
 go_ret
 exact ⟨rfl, b4⟩
set_option maxHeartbeats 1000000 in
theorem eqTNodeS_same (a : Option Addr) (n c : Nat) (a2 : Option Addr) (c2 : Nat) (ts : List TN) (w : World) (A B A2 B2 : Nat) (hB : B ≤ w.heap.size) (hB2 : B2 ≤ w.heap.size) (h : NodesAt w A B a n c ts) (k : NodesAt w A2 B2 a2 n c2 ts) :
  Calls Tryz.prog 30 #[.slice a n c, .slice a2 n c2] w fun e w' => e = .returned (.bool true) ∧ Below w.heap.size w w' := by
 have hc := Nat.le_trans h.2.1 h.2.2.1
 unfold maxLen at hc
 have hne : ((n : Int) != (n : Int)) = false := by simp
 go_enter Tryz.func30, Tryz.ntmps30
 go_wp2
 go_loopw [5] (fun i wr => ∃ k : Nat, k ≤ n ∧ i = .int .i64 k ∧ Below w.heap.size w wr) (fun i _ => n - (intOf i).toNat)
 case atStart => exact ⟨0, Nat.zero_le _, rfl, Below.refl _ _⟩
 case round =>
  obtain ⟨j, hj, rfl, hbel⟩ := hrel
  by_cases hlt : j < n
  ·obtain ⟨b, off, rfl, hb, ka, kn, kc, va, vn, vc, oa, on, oc, ya, yn, yc, hN⟩ := NodesAt.at (h.below (hbel.mono hB)) hlt
   obtain ⟨b2, off2, rfl, hb2, ka2, kn2, kc2, va2, vn2, vc2, oa2, on2, oc2, ya2, yn2, yc2, hN2⟩ := NodesAt.at (k.below (hbel.mono hB2)) hlt
   clear h k
   generalize ts.getD j dT = t at hN hN2
   obtain ⟨c0, c1, c2, c3, c4, c5, hpg, hK, hV, hO, hY⟩ := hN
   obtain ⟨d0, d1, d2, d3, d4, d5, hpg2, hK2, hV2, hO2, hY2⟩ := hN2
   obtain rfl : kn2 = kn := hK2.1.symm.trans hK.1
   obtain rfl : vn2 = vn := hV2.1.symm.trans hV.1
   obtain rfl : on2 = on := hO2.1.symm.trans hO.1
   obtain rfl : yn2 = yn := hY2.1.symm.trans hY.1
   have hs := hbel.size
   have hsd : wr.drew.heap.size = wr.heap.size := rfl
   go_wp2
   go_region_with (go_at_call 55; refine (eqTNode_same t.leaf t.page t.keys t.vals t.over t.kids ka kn2 kc va vn2 vc oa on2 oc ya yn2 yc ka2 kc2 va2 vc2 oa2 oc2 ya2 yc2 _ A B A2 B2 ?_ ?_ ?_ ?_ ?_ ?_ ?_ ?_ ?_ ?_).mono ?_; exact Nat.le_trans hB hs; exact Nat.le_trans hB2 hs; exact hK; exact hV; exact hO; exact hY; exact hK2; exact hV2; exact hO2; exact hY2; rintro e w1 ⟨rfl, hb1⟩)
   all_goals
    go_wp2
    go_roundw
    case rel => exact ⟨j + 1, by omega, by go_num, (hbel.drew).trans (hb1.mono hs)⟩
    case measure => simp [intOf]; omega
  ·go_wp2
   go_ret
   exact ⟨rfl, hbel⟩
set_option maxHeartbeats 400000 in
theorem eqTree_same (a : Option Addr) (n c : Nat) (a2 : Option Addr) (c2 : Nat) (ts : List TN) (w : World) (A B A2 B2 : Nat) (hB : B ≤ w.heap.size) (hB2 : B2 ≤ w.heap.size) (h : NodesAt w A B a n c ts) (k : NodesAt w A2 B2 a2 n c2 ts) :
  Calls Tryz.prog 10 #[.agg #[.slice a n c], .agg #[.slice a2 n c2]] w fun e w' => e = .returned (.bool true) ∧ Below w.heap.size w w' := by
 have hb0 : Below w.heap.size w ((w.alloc (.cells #[.slice a n c] 28)).alloc (.cells #[.slice a2 n c2] 28)) := ((Below.refl _ _).alloc (Nat.le_refl _) _).alloc (by simp) _
 have hs := hb0.size
 go_enter Tryz.func10, Tryz.ntmps10
 go_wp2_with (go_at_call 30; refine (eqTNodeS_same a n c a2 c2 ts _ A B A2 B2 (by omega) (by omega) (h.below (hb0.mono hB)) (k.below (hb0.mono hB2))).mono ?_; rintro e w1 ⟨rfl, hb1⟩)
 go_ret
 exact ⟨rfl, hb0.trans (hb1.mono hb0.size)⟩
abbrev dP : ByteArray × ByteArray := (ByteArray.empty, ByteArray.empty)
def okAt (zs : List (ByteArray × ByteArray)) (j : Nat) : Bool := kyB (zs.getD j dP).1 && decide ((zs.getD j dP).2.size ≤ 400) && (decide (j = 0) || lessB (zs.getD (j - 1) dP).1 (zs.getD j dP).1)
def bulkOk (zs : List (ByteArray × ByteArray)) : Bool := (List.range zs.length).all (okAt zs)
def bulkNs (zs : List (ByteArray × ByteArray)) : List TN := if bulkOk zs = false then [] else if zs.length = 0 then [⟨true, 0, [], [], [], []⟩] else if 1000 < (rootT zs).nodes then [] else (rootT zs).flat 0
def BulkAns (w : World) (zs : List (ByteArray × ByteArray)) (e : Ending) (w' : World) : Prop := ∃ oa oc us, e = .returned (.agg #[.slice oa (bulkNs zs).length oc]) ∧ OwnT w' w.heap.size (.slice oa (bulkNs zs).length oc) ((bulkNs zs).map TN.nd) us ∧ Below w.heap.size w w'

def keysOk (t : T) : Prop := t.slots.all (fun s => kyB s.1) = true
structure LvGd (ts : List T) : Prop where
 all : ∀ t ∈ ts, t.good true = true ∧ keysOk t
 two : 2 ≤ ts.length → ∀ t ∈ ts, t.good false = true
def RowsP {α : Type} (w : World) (P : Nat → Prop) (m : Nat) (cs : α → List Value) (fit : α → Prop) (d : α) (a : Option Addr) (n c : Nat) (xs : List α) : Prop :=
 xs.length = n ∧ n ≤ c ∧ c ≤ maxLen ∧ (∀ i, i < n → fit (xs.getD i d)) ∧ (0 < n → ∃ b off, a = some ⟨b, off, none⟩ ∧ P b ∧ ∀ i, i < n → ∀ j, j < m → w.cell? ⟨b, off + i * m + j, none⟩ = (cs (xs.getD i d))[j]?)
def SIs (w : World) (P : Nat → Prop) : T → List Value → Prop
 | ⟨l, p, k, v, o, y⟩, cs => ∃ (ka : Option Addr) (kn kc : Nat) (va : Option Addr) (vn vc : Nat) (oa : Option Addr) (on oc : Nat) (ya : Option Addr) (yc : Nat) (css : Nat → List Value), cs = [.bool l, .int .i64 p, .slice ka kn kc, .slice va vn vc, .slice oa on oc, .slice ya y.length yc] ∧ I64 p ∧ RowsP w P 1 strCells strFit ByteArray.empty ka kn kc k ∧ RowsP w P 1 strCells strFit ByteArray.empty va vn vc v ∧ RowsP w P 1 intCells I64 0 oa on oc o ∧ (y.length ≤ yc ∧ yc ≤ maxLen) ∧
  (0 < y.length → ∃ b off, ya = some ⟨b, off, none⟩ ∧ P b ∧ ∀ i, i < y.length → ∀ j, j < 6 → w.cell? ⟨b, off + i * 6 + j, none⟩ = (css i)[j]?) ∧ ∀ i, ∀ t ∈ y, y[i]? = some t → SIs w P t (css i)
structure SX (w : World) (P : Nat → Prop) (t : T) (ka : Option Addr) (kn kc : Nat) (va : Option Addr) (vn vc : Nat) (oa : Option Addr) (on oc : Nat) (ya : Option Addr) (yc : Nat) (css : Nat → List Value) : Prop where
 page : I64 t.page
 keys : RowsP w P 1 strCells strFit ByteArray.empty ka kn kc t.keys
 vals : RowsP w P 1 strCells strFit ByteArray.empty va vn vc t.vals
 over : RowsP w P 1 intCells I64 0 oa on oc t.over
 cap : t.kids.length ≤ yc ∧ yc ≤ maxLen
 cell : 0 < t.kids.length → ∃ b off, ya = some ⟨b, off, none⟩ ∧ P b ∧ ∀ i, i < t.kids.length → ∀ j, j < 6 → w.cell? ⟨b, off + i * 6 + j, none⟩ = (css i)[j]?
 kid : ∀ i, ∀ k ∈ t.kids, t.kids[i]? = some k → SIs w P k (css i)
structure SLv (w0 wr : World) (lo m c : Nat) (a : Option Addr) (ts : List T) (css : Nat → List Value) : Prop where
 row : wr.ownsRow lo 48 6 (.slice a m c) m (rowsC css m)
 len : ts.length = m
 node : ∀ (i : Nat) (t : T), ts[i]? = some t → (css i).length = 6 ∧ SIs wr (fun b => lo ≤ b ∧ b < wr.heap.size ∧ (Value.slice a m c).ownBlock ≠ some b) t (css i)
 bel : Below lo w0 wr
structure SFl (w' wr : World) (N : Nat) (u : Nat → Value) (l : Nat → List Value) : Prop where
 box : wr.heap[N]? = some (.cells #[.bool true, .int .i64 0, u 0, u 1, u 2, u 3] 48)
 ll : LL wr (N + 1) u l
 fr : Fr (fun g => N ≤ g) w' wr
def SBulkAns (w : World) (zs : List (ByteArray × ByteArray)) (e : Ending) (w' : World) : Prop := ∃ oa oc, e = .returned (.agg #[.slice oa (bulkNs zs).length oc]) ∧ NodesAt w' w.heap.size w'.heap.size oa (bulkNs zs).length oc (bulkNs zs) ∧ Below w.heap.size w w'

end Go.Proofs.YtbgbokgomheodaaGreat
