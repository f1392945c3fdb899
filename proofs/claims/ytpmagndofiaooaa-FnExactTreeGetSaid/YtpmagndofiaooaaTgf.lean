import Derived.Test.YtpmagndofiaooaaTge
import Derived.BigQuiet
namespace Go.Proofs.Ytpmagndofiaooaa
open Go.RowKit
set_option linter.unusedVariables false
set_option linter.unusedSimpArgs false
set_option maxRecDepth 100000

theorem GrowAns.up {w w1 w' : World} {G : Nat} {a : Option Addr} {n c : Nat} {res : Option (T × Nat × (Int → Bool))} {e : Ending} (h : GrowAns w1 G a n c res e w') (hf : Fr (fun k => k = G) w w1) : GrowAns w G a n c res e w' := by
  obtain ⟨h1, h2, h3⟩ := h
  refine ⟨h1, fun t nx' met' hr => ?_, hf.trans h3⟩
  obtain ⟨u, e1, hg, hgr⟩ := h2 t nx' met' hr
  have := hf.size
  exact ⟨u, e1, GM.keep t _ _ u (fun _ _ => rfl) (fun b hb => ⟨by omega, hb.2⟩) hg, hgr⟩
theorem gr_leaf {ts : List TN} {f nx : Nat} {met m : Int → Bool} (hne : ¬ nx = ts.length) (hm : meetB met (ts.getD nx dT).page = some m) (hl : (ts.getD nx dT).leaf = true) : gr ts (f + 1) nx met = leafRes (ts.getD nx dT) (nx + 1) m := by
  unfold gr leafRes
  rw [if_neg hne, hm]
  simp only [hl, if_true]
  generalize ts.getD nx dT = x
  by_cases hc : 4 < x.keys.length ∨ x.vals.length ≠ x.keys.length ∨ x.over.length ≠ x.keys.length ∨ 0 < x.kids.length
  · rw [if_pos hc, if_pos hc]
  · rw [if_neg hc, if_neg hc]
    cases meetL x.page (x.vals.zip x.over) m <;> rfl
theorem gr_inner {ts : List TN} {f nx : Nat} {met m : Int → Bool} (hne : ¬ nx = ts.length) (hm : meetB met (ts.getD nx dT).page = some m) (hl : (ts.getD nx dT).leaf = false) : gr ts (f + 1) nx met = innerRes ts f (ts.getD nx dT) (nx + 1) m := by
  unfold gr innerRes
  rw [if_neg hne, hm]
  simp only [hl, Bool.false_eq_true, if_false]
  generalize ts.getD nx dT = x
  by_cases hc : x.kids.length < 2 ∨ 4 < x.kids.length ∨ x.keys.length + 1 ≠ x.kids.length ∨ 0 < x.vals.length ∨ 0 < x.over.length
  · rw [if_pos hc, if_pos hc]
  · rw [if_neg hc, if_neg hc]
    cases grK x.page x.keys (gr ts f) x.kids [] (nx + 1) m with
    | none => rfl
    | some v => obtain ⟨ys, nx', m'⟩ := v; rfl
theorem gr_meet {ts : List TN} {f nx : Nat} {met : Int → Bool} (hm : meetB met (ts.getD nx dT).page = none) : gr ts (f + 1) nx met = none := by
  unfold gr
  split
  · rfl
  · rw [hm]
theorem gr_end {ts : List TN} {f nx : Nat} {met : Int → Bool} (h : nx = ts.length) : gr ts (f + 1) nx met = none := by
  unfold gr
  rw [if_pos h]
set_option maxHeartbeats 4000000 in
theorem growNode_any (ts : List TN) (hts : ts.length ≤ 1000) (a : Option Addr) (n c A B G : Nat) (hB : B ≤ G) : ∀ f, GNCall ts f a n c A B G
  | 0 => fun nx met w h1 h2 _ _ => by omega
  | f + 1 => by
    have IH := growNode_any ts hts a n c A B G hB f
    intro nx met w hnx hfu hT hG
    have g0 := hG.c0
    have g1 := hG.c1
    have gl := hG.lt
    have HL : Hid (ts.length = n) := hT.1
    by_cases te : nx = ts.length
    · have hgn : gr ts (f + 1) nx met = none := gr_end te
      have HNO : Hid (gr ts (f + 1) nx met = none) := hgn
      have hnn : nx = n := by have := HL.out; omega
      rw [hgn]
      clear hgn te hT hG IH
      subst hnn
      have s0 : ((nx : Int) == (nx : Int)) = true := by simp
      go_enter Try.func67, Try.ntmps67
      go_upto_region 1 with fail
      go_quiet (fail)
      go_wp2_with fail
      refine bodyPost_ret (v := .tuple #[.nilIface, .bool false]) (by simp [results, Try.results67, go_sem]) rfl ?_
      exact ⟨fun _ => rfl, (fun t' nx' met' h => by cases h), ⟨rfl, rfl, rfl, Nat.le_refl _, fun _ _ _ => rfl⟩⟩
    · have hlt : nx < n := by have := HL.out; omega
      obtain ⟨b, off, rfl, hb, ka, kn, kc, va, vn, vc, oa, on, oc, ya, yn, yc, hX⟩ := hT.at hlt
      have HNE : Hid (¬ nx = ts.length) := te
      have IH2 : Hid (GNCall ts f (some ⟨b, off, none⟩) n c A B G) := IH
      have HT : Hid (NodesAt w A B (some ⟨b, off, none⟩) n c ts) := hT
      have HG : Hid (GrAt w G (some ⟨b, off, none⟩) n c nx met) := hG
      have HX : Hid (StrsAt w A B ka kn kc (ts.getD nx dT).keys ∧ StrsAt w A B va vn vc (ts.getD nx dT).vals ∧ IntsAt w A B oa on oc (ts.getD nx dT).over ∧ IntsAt w A B ya yn yc (ts.getD nx dT).kids) := ⟨hX.keys, hX.vals, hX.over, hX.kids⟩
      obtain ⟨c0, c1, c2, c3, c4, c5, _, _, _, _, _⟩ := hX
      obtain ⟨x, hx⟩ : ∃ x, ts.getD nx dT = x := ⟨_, rfl⟩
      have HXX : Hid (ts.getD nx dT = x) := hx
      rw [hx] at HX c0 c1
      obtain ⟨lf, hlf⟩ : ∃ lf, x.leaf = lf := ⟨_, rfl⟩
      obtain ⟨pg, hpg⟩ : ∃ pg, x.page = pg := ⟨_, rfl⟩
      have HLF : Hid (x.leaf = lf ∧ x.page = pg) := ⟨hlf, hpg⟩
      rw [hlf] at c0
      rw [hpg] at c1
      have hbl : b < w.heap.size := lt_of_cellG c0
      have s0 : ((nx : Int) == (n : Int)) = false := by simp; omega
      obtain ⟨res, hres⟩ : ∃ res, gr ts (f + 1) nx met = res := ⟨_, rfl⟩
      have HRES : Hid (gr ts (f + 1) nx met = res) := hres
      rw [hres]
      obtain ⟨N, hN⟩ : ∃ N, w.heap.size = N := ⟨_, rfl⟩
      have hn3 : n ≤ 1000 := by have := HL.out; omega
      clear hT hG IH te hx hlf hpg hres
      go_enter Try.func67, Try.ntmps67
      go_upto_region 1 with fail
      go_quiet (fail)
      have HF0 : Hid (Fr (fun k => k = G) w (w.drewN nq)) := ⟨rfl, rfl, rfl, Nat.le_refl _, fun _ _ _ => rfl⟩
      have HG1 : Hid (GrAt (w.drewN nq) G (some ⟨b, off, none⟩) n c nx met) := HG.out.keep rfl
      have hN1 : (w.drewN nq).heap.size = N := hN
      have e0 : (w.drewN nq).cell? ⟨b, off + nx * 6, none⟩ = some (.bool lf) := c0
      have e1 : (w.drewN nq).cell? ⟨b, off + nx * 6 + 1, none⟩ = some (.int .i64 pg) := c1
      have e2 : (w.drewN nq).cell? ⟨b, off + nx * 6 + 2, none⟩ = some (.slice ka kn kc) := c2
      have e3 : (w.drewN nq).cell? ⟨b, off + nx * 6 + 3, none⟩ = some (.slice va vn vc) := c3
      have e4 : (w.drewN nq).cell? ⟨b, off + nx * 6 + 4, none⟩ = some (.slice oa on oc) := c4
      have e5 : (w.drewN nq).cell? ⟨b, off + nx * 6 + 5, none⟩ = some (.slice ya yn yc) := c5
      have f0 : (w.drewN nq).cell? ⟨G, 0, none⟩ = some (.slice (some ⟨b, off, none⟩) n c) := g0
      have f1 : (w.drewN nq).cell? ⟨G, 1, none⟩ = some (.int .i64 nx) := g1
      clear c0 c1 c2 c3 c4 c5 g0 g1 HG
      generalize w.drewN nq = W at *
      have hbl1 : b < W.heap.size := by omega
      have hgl1 : G < W.heap.size := by omega
      go_upto_region 3 with fail
      go_cut [4] (fun v wx => v = .pointer (some ⟨N, 0, none⟩) ∧ wx.heap[N]? = some (.cells #[.bool lf, .int .i64 pg, .slice ka kn kc, .slice va vn vc, .slice oa on oc, .slice ya yn yc] 92) ∧ Below W.heap.size W wx)
      case first =>
        go_region_held3 (fun w' => w'.cell? ⟨G, 0, none⟩ = some (.slice (some ⟨b, off, none⟩) n c) ∧ w'.cell? ⟨G, 1, none⟩ = some (.int .i64 nx) ∧ w'.cell? ⟨b, off + nx * 6, none⟩ = some (.bool lf) ∧ w'.cell? ⟨b, off + nx * 6 + 1, none⟩ = some (.int .i64 pg) ∧ w'.cell? ⟨b, off + nx * 6 + 2, none⟩ = some (.slice ka kn kc) ∧ w'.cell? ⟨b, off + nx * 6 + 3, none⟩ = some (.slice va vn vc) ∧ w'.cell? ⟨b, off + nx * 6 + 4, none⟩ = some (.slice oa on oc) ∧ w'.cell? ⟨b, off + nx * 6 + 5, none⟩ = some (.slice ya yn yc)) (go_keep) (fail)
        have hz := (Below.refl W.heap.size W).alloc (Nat.le_refl _) (.cells #[.bool lf, .int .i64 pg, .slice ka kn kc, .slice va vn vc, .slice oa on oc, .slice ya yn yc] 92)
        have hz2 := heap_alloc_new W (.cells #[.bool lf, .int .i64 pg, .slice ka kn kc, .slice va vn vc, .slice oa on oc, .slice ya yn yc] 92)
        rw [hN1] at hz2
        go_wp2_with fail
        go_meet
        exact ⟨rfl, hz2, hz.drew⟩
      case rest =>
        obtain ⟨rfl, hxb, hbx⟩ := hcut
        have G2 := HG1.out.keep (hbx.block G hgl1)
        have FR2 : Hid (Fr (fun k => k = G) w wc) := HF0.out.trans (Fr.of_below hbx)
        have hlN : N < wc.heap.size := (Array.getElem?_eq_some_iff.1 hxb).1
        have G3 := G2.step (nx + 1)
        have hst := fr_setT wc G 1 (.int .i64 ((nx + 1 : Nat) : Int))
        have FR3 : Hid (Fr (fun k => k = G) w (wc.setCell ⟨G, 1, none⟩ (.int .i64 ((nx + 1 : Nat) : Int)))) := FR2.out.trans hst
        have hxb3 := (hst.block N hlN (by omega)).trans hxb
        have h1 := G2.c1
        have hth := G2.thaw
        have hgl2 := G2.lt
        have hcast : ((nx + 1 : Nat) : Int) = (nx : Int) + 1 := by omega
        rw [hcast] at G3 FR3 hxb3
        clear e0 e1 e2 e3 e4 e5 f0 f1 hbx hst hxb G2
        go_upto_region 5 with fail
        generalize wc.setCell ⟨G, 1, none⟩ (.int .i64 ((nx : Int) + 1)) = V at *
        obtain ⟨y0, y1, y2, y3, y4, y5⟩ := box6g hxb3
        have hlV : N < V.heap.size := (Array.getElem?_eq_some_iff.1 hxb3).1
        have hmt := meet_any V G (some ⟨b, off, none⟩) n c (nx + 1) met pg G3
        clear h1 hth hgl2
        go_wp2_with fail
        refine hmt.mono ?_
        rintro e w1 ⟨r, rfl, hyes, hno, hf1⟩
        have FR4 : Hid (Fr (fun k => k = G) w w1) := FR3.out.trans hf1
        have hxb4 := (hf1.block N hlV (by omega)).trans hxb3
        clear hmt y0 y1 y2 y3 y4 y5 G3 hf1 hxb3
        cases r
        · have HNO : Hid (res = none) := by
            show _ = _
            rw [← HRES.out]
            refine gr_meet ?_
            rw [HXX.out, HLF.out.2]
            exact hno rfl
          clear hyes hno hxb4
          go_wp2_with fail
          refine bodyPost_ret (v := .tuple #[.nilIface, .bool false]) (by simp [results, Try.results67, go_sem]) rfl ?_
          exact ⟨fun _ => rfl, (fun t' nx' met' h => by rw [HNO.out] at h; cases h), FR4.out⟩
        · obtain ⟨m1, hm1, G4⟩ := hyes rfl
          clear hyes hno
          obtain ⟨y0, y1, y2, y3, y4, y5⟩ := box6g hxb4
          have hl4 : N < w1.heap.size := (Array.getElem?_eq_some_iff.1 hxb4).1
          have hk : Keeps A B w w1 := fun k h1 h2 => FR4.out.block k (by omega) (by omega)
          have hT4 := HT.out.keep hk
          obtain ⟨hK0, hV0, hO0, hY0⟩ := HX.out
          have hK4 := hK0.keep hk
          have hV4 := hV0.keep hk
          have hO4 := hO0.keep hk
          have hY4 := hY0.keep hk
          clear hK0 hV0 hO0 hY0
          cases lf
          · have hres : res = innerRes ts f x (nx + 1) m1 := by
              rw [← HRES.out, ← HXX.out]
              exact gr_inner HNE.out (by rw [HXX.out, HLF.out.2]; exact hm1) (by rw [HXX.out]; exact HLF.out.1)
            have hc := growInner_any ts hts f (some ⟨b, off, none⟩) n c A B G IH2.out x ka kn kc va vn vc oa on oc ya yn yc false w1 (nx + 1) m1 hB (by have := HL.out; omega) (by omega) hT4 G4 hK4 hV4 hO4 hY4
            rw [← hres, HLF.out.2] at hc
            clear hres hT4 hK4 hV4 hO4 hY4 hk hxb4 G4
            go_wp2_with fail
            refine hc.mono ?_
            intro e w2 hA
            have hA2 := hA.up FR4.out
            clear hA hc
            cases res with
            | none =>
              obtain rfl := hA2.1 rfl
              go_wp2_with fail
              refine bodyPost_ret (v := .tuple #[.nilIface, .bool false]) (by simp [results, Try.results67, go_sem]) rfl ?_
              exact hA2
            | some val =>
              obtain ⟨t', nx', m'⟩ := val
              obtain ⟨u, rfl, _⟩ := hA2.2.1 t' nx' m' rfl
              go_wp2_with fail
              refine bodyPost_ret (v := .tuple #[u, .bool true]) (by simp [results, Try.results67, go_sem]) rfl ?_
              exact hA2
          · have hres : res = leafRes x (nx + 1) m1 := by
              rw [← HRES.out, ← HXX.out]
              exact gr_leaf HNE.out (by rw [HXX.out, HLF.out.2]; exact hm1) (by rw [HXX.out]; exact HLF.out.1)
            have hc := growLeaf_any x ka kn kc va vn vc oa on oc ya yn yc true w1 G (some ⟨b, off, none⟩) n c (nx + 1) m1 A B hB G4 hK4 hV4 hO4 hY4
            rw [← hres, HLF.out.2] at hc
            clear hres hT4 hK4 hV4 hO4 hY4 hk hxb4 G4
            go_wp2_with fail
            refine hc.mono ?_
            intro e w2 hA
            have hA2 := hA.up FR4.out
            clear hA hc
            cases res with
            | none =>
              obtain rfl := hA2.1 rfl
              go_wp2_with fail
              refine bodyPost_ret (v := .tuple #[.nilIface, .bool false]) (by simp [results, Try.results67, go_sem]) rfl ?_
              exact hA2
            | some val =>
              obtain ⟨t', nx', m'⟩ := val
              obtain ⟨u, rfl, _⟩ := hA2.2.1 t' nx' m' rfl
              go_wp2_with fail
              refine bodyPost_ret (v := .tuple #[u, .bool true]) (by simp [results, Try.results67, go_sem]) rfl ?_
              exact hA2
end Go.Proofs.Ytpmagndofiaooaa
