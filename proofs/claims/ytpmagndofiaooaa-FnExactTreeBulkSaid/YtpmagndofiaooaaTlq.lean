import Derived.Test.YtpmagndofiaooaaTlp
import Derived.Test.YtpmagndofiaooaaTlk
namespace Go.Proofs.Ytpmagndofiaooaa
open Go.RowKit
set_option linter.unusedVariables false
set_option linter.unusedSimpArgs false
set_option maxRecDepth 100000

theorem Off.lower {w : World} {lo lo' g : Nat} {R : World → Nat → Nat → Prop} (h : Off w lo g R) (hl : lo' ≤ lo) : Off w lo' g R := by
  obtain ⟨A, h1, h2⟩ := h
  exact ⟨A, by omega, h2⟩
theorem FlatAt.lower {w : World} {lo lo' g c : Nat} {css : Nat → List Value} {ts : List TN} (h : FlatAt w lo g c css ts) (hl : lo' ≤ lo) : FlatAt w lo' g c css ts :=
  ⟨owns_base h.row hl, fun i t hi => ⟨(h.node i t hi).1, by
    obtain ⟨ka, kn, kc, va, vn, vc, oa, on, oc, ya, yn, yc, e, h0, h1, h2, h3, h4⟩ := (h.node i t hi).2
    exact ⟨ka, kn, kc, va, vn, vc, oa, on, oc, ya, yn, yc, e, h0, h1.lower hl, h2.lower hl, h3.lower hl, h4.lower hl⟩⟩⟩
theorem flat_le (t : T) : ∀ s, (t.flat s).length ≤ t.nodes := by
  induction t using T.ind with
  | h t ih =>
    intro s
    rw [T.flat_eq, T.nodes_eq]
    split
    · simp
    · have : ∀ (ys : List T) (s : Nat), (∀ y ∈ ys, ∀ s, (y.flat s).length ≤ y.nodes) → (offs s (ys.map T.flat)).length ≤ (ys.map T.nodes).sum := by
        intro ys
        induction ys with
        | nil => intro s h; simp [offs]
        | cons y r ihr =>
          intro s h
          simp only [List.map_cons, offs, List.length_append, List.sum_cons]
          have h1 := h y (List.mem_cons_self ..) s
          have h2 := ihr (s + (y.flat s).length) (fun y hy => h y (List.mem_cons_of_mem _ hy))
          omega
      have h := this t.kids (s + 1) ih
      rw [List.length_cons]
      omega
set_option maxHeartbeats 2000000 in
theorem l3Tree_any (C : Nat) (t : T) (hg : ∃ r, t.good r = true) (hn : t.nodes ≤ 100000) (hk : t.slots.all (fun s => kyB s.1) = true) : CallAt 31 C t [] (fun w e w' => ∃ g c css, e = .returned (.agg #[.slice (some ⟨g, 0, none⟩) (t.flat 0).length c]) ∧ FlatAt w' w.heap.size g c css (t.flat 0) ∧ Below w.heap.size w w') := by
  intro w ka kn kc va vn vc oa on oc ya yc css hC hX
  have hcall := l3Flat_any C t hg hn hk
  have hfl := flat_le t 0
  obtain ⟨N, hN⟩ : ∃ N, w.heap.size = N := ⟨_, rfl⟩
  have HX : Hid (NodeX w 0 C (fun b => b < C) t ka kn kc va vn vc oa on oc ya yc css) := hX
  have HC : Hid (FlatCall C t) := hcall
  obtain ⟨F, hF⟩ : ∃ F, t.flat 0 = F := ⟨_, rfl⟩
  have HFF : Hid (t.flat 0 = F) := hF
  rw [hF] at hfl ⊢
  clear hX hcall hF hg hk
  obtain ⟨m, hm⟩ : ∃ m, F.length = m := ⟨_, rfl⟩
  have HM : Hid (F.length = m) := hm
  rw [hm] at hfl ⊢
  clear hm
  have a3 := alloc3 w (.cells #[.bool t.leaf, .int .i64 t.page, .slice ka kn kc, .slice va vn vc, .slice oa on oc, .slice ya t.kids.length yc] 61) (.cells #[.slice none 0 0] 26) (.cells #[] 92)
  have b3 : Below w.heap.size w (((w.alloc (.cells #[.bool t.leaf, .int .i64 t.page, .slice ka kn kc, .slice va vn vc, .slice oa on oc, .slice ya t.kids.length yc] 61)).alloc (.cells #[.slice none 0 0] 26)).alloc (.cells #[] 92)) := (((Below.refl _ _).alloc (Nat.le_refl _) _).alloc (by simp) _).alloc (by simp; omega) _
  have e3 := owns_empty ((w.alloc (.cells #[.bool t.leaf, .int .i64 t.page, .slice ka kn kc, .slice va vn vc, .slice oa on oc, .slice ya t.kids.length yc] 61)).alloc (.cells #[.slice none 0 0] 26)) 92 6
  have z2 : ((w.alloc (.cells #[.bool t.leaf, .int .i64 t.page, .slice ka kn kc, .slice va vn vc, .slice oa on oc, .slice ya t.kids.length yc] 61)).alloc (.cells #[.slice none 0 0] 26)).heap.size = N + 1 + 1 := by simp [hN]
  have z3 : (((w.alloc (.cells #[.bool t.leaf, .int .i64 t.page, .slice ka kn kc, .slice va vn vc, .slice oa on oc, .slice ya t.kids.length yc] 61)).alloc (.cells #[.slice none 0 0] 26)).alloc (.cells #[] 92)).heap.size = N + 3 := by simp [hN]
  rw [hN] at a3
  rw [z2] at e3
  have HW : Hid (∀ W3, Below w.heap.size w W3 → W3.ownsRow (N + 1 + 1) 92 6 (.slice (some ⟨N + 1 + 1, 0, none⟩) 0 0) 0 [] → Calls Try.prog 52 #[.slice (some ⟨N + 1 + 1, 0, none⟩) 0 0, .agg #[.bool t.leaf, .int .i64 t.page, .slice ka kn kc, .slice va vn vc, .slice oa on oc, .slice ya t.kids.length yc]] W3 fun e w' => ∃ g' c' css', e = .returned (.slice (some ⟨g', 0, none⟩) m c') ∧ FlatAt w' (N + 1 + 1) g' c' css' F ∧ Fr (fun k => k = N + 1 + 1) W3 w' ∧ (g' = N + 1 + 1 ∨ W3.heap.size ≤ g')) := by
    intro W3 hb he
    have h := HC.out W3 (N + 1 + 1) (N + 1 + 1) 0 (fun _ => []) [] ka kn kc va vn vc oa on oc ya yc css (by omega) ⟨he, fun i t hi => by simp at hi⟩ (HX.out.belowC (hb.mono hC)) (by simp only [List.length_nil]; have := HFF.out; rw [this, HM.out]; omega)
    simp only [List.length_nil, List.nil_append, HFF.out, HM.out, Nat.zero_add] at h
    exact h
  clear HC HX HFF HM
  generalize t.leaf = lf at *
  generalize t.page = pg at *
  generalize t.kids.length = yn at *
  go_enter Try.func31, Try.ntmps31
  obtain ⟨n0, n1, n2, n3, n4, n5⟩ := box6 a3.1
  have l0 : N < (((w.alloc (.cells #[.bool lf, .int .i64 pg, .slice ka kn kc, .slice va vn vc, .slice oa on oc, .slice ya yn yc] 61)).alloc (.cells #[.slice none 0 0] 26)).alloc (.cells #[] 92)).heap.size := by omega
  go_upto_region 1 with fail
  go_wp2_with fail
  generalize (((w.alloc (.cells #[.bool lf, .int .i64 pg, .slice ka kn kc, .slice va vn vc, .slice oa on oc, .slice ya yn yc] 61)).alloc (.cells #[.slice none 0 0] 26)).alloc (.cells #[] 92)) = W3 at *
  refine (HW.out W3 b3 e3).mono ?_
  rintro e w4 ⟨g', c', css', rfl, F4, fr4, hg4⟩
  have R4 := (fr4.block (N + 1) (by omega) (by omega)).trans a3.2.1
  have x0 : w4.cell? ⟨N + 1, 0, none⟩ = some (.slice none 0 0) := by
    simp [World.cell?, R4]
  have ff := thawT R4
  have l4 : N + 1 < w4.heap.size := (Array.getElem?_eq_some_iff.1 R4).1
  have F5 := F4.fr (fr_setT w4 (N + 1) 0 (.slice (some ⟨g', 0, none⟩) m c')) (fun k h1 h2 => by omega)
  have R5 := heap_setT R4 0 (.slice (some ⟨g', 0, none⟩) m c')
  have hset := fr_setT w4 (N + 1) 0 (.slice (some ⟨g', 0, none⟩) m c')
  have hbel : Below w.heap.size w (w4.setCell ⟨N + 1, 0, none⟩ (.slice (some ⟨g', 0, none⟩) m c')) := (b3.trans (fr4.below (by omega) (fun g e => by omega))).trans (hset.below (by have := fr4.size; omega) (fun g e => by omega))
  clear n0 n1 n2 n3 n4 n5 l0 F4 HW
  go_wp2_with fail
  generalize w4.setCell ⟨N + 1, 0, none⟩ (.slice (some ⟨g', 0, none⟩) m c') = W5 at *
  have x5 : W5.cell? ⟨N + 1, 0, none⟩ = some (.slice (some ⟨g', 0, none⟩) m c') := by
    simp [World.cell?, R5]
  refine bodyPost_ret (v := .agg #[.slice (some ⟨g', 0, none⟩) m c']) (by simp [results, Try.results31, go_sem, x5]) rfl ?_
  exact ⟨g', c', css', rfl, by rw [hN]; exact F5.lower (by omega), hbel⟩
set_option maxHeartbeats 4000000 in
theorem l3Same_any (a : Option Addr) (n c : Nat) (a2 : Option Addr) (n2 c2 : Nat) (xs ys : List TN) (w : World) (A B A2 B2 : Nat) (hB : B ≤ w.heap.size) (hB2 : B2 ≤ w.heap.size) (h : NodesAt w A B a n c xs) (h2 : NodesAt w A2 B2 a2 n2 c2 ys) (hov : ∀ x ∈ xs, x.over.length = x.vals.length) :
    Calls Try.prog 48 #[.agg #[.slice a n c], .agg #[.slice a2 n2 c2]] w fun e w' => ∃ r, e = .returned (.bool r) ∧ (r = true ↔ xs = ys) ∧ Below w.heap.size w w' := by
  have hb0 : Below w.heap.size w ((w.alloc (.cells #[.slice a n c] 26)).alloc (.cells #[.slice a2 n2 c2] 26)) := ((Below.refl _ _).alloc (Nat.le_refl _) _).alloc (by simp) _
  obtain ⟨N, hN⟩ : ∃ N, w.heap.size = N := ⟨_, rfl⟩
  have z1 : (w.alloc (.cells #[.slice a n c] 26)).heap.size = N + 1 := by simp [hN]
  have k1 := heap_alloc_new (w.alloc (.cells #[.slice a n c] 26)) (.cells #[.slice a2 n2 c2] 26)
  have k0 := (((Below.refl _ _).alloc (Nat.le_refl (w.alloc (.cells #[.slice a n c] 26)).heap.size) (.cells #[.slice a2 n2 c2] 26)).block N (by omega)).trans (hN ▸ heap_alloc_new w (.cells #[.slice a n c] 26))
  have z2 : ((w.alloc (.cells #[.slice a n c] 26)).alloc (.cells #[.slice a2 n2 c2] 26)).heap.size = N + 2 := by simp [hN]
  rw [z1] at k1
  have HL : Hid (xs.length = n ∧ ys.length = n2) := ⟨h.1, h2.1⟩
  have hc := Nat.le_trans h.2.1 h.2.2.1
  unfold maxLen at hc
  have H1 : Hid (NodesAt w A B a n c xs) := h
  have H2 : Hid (NodesAt w A2 B2 a2 n2 c2 ys) := h2
  have HOV : Hid (∀ x ∈ xs, x.over.length = x.vals.length) := hov
  clear h h2 hov
  go_enter Try.func48, Try.ntmps48
  go_upto_region 1 with fail
  generalize ((w.alloc (.cells #[.slice a n c] 26)).alloc (.cells #[.slice a2 n2 c2] 26)) = W at hb0 k1 k0 z2 ⊢
  have x0 : W.cell? ⟨N, 0, none⟩ = some (.slice a n c) := by simp [World.cell?, k0]
  have y0 : W.cell? ⟨N + 1, 0, none⟩ = some (.slice a2 n2 c2) := by simp [World.cell?, k1]
  have l0 : N < W.heap.size := by omega
  have l1 : N + 1 < W.heap.size := by omega
  by_cases hnn : n = n2
  · subst hnn
    have hne : ((n : Int) != (n : Int)) = false := by simp
    go_wp2_with fail
    clear x0 y0
    go_loopw [5] (fun i wr => ∃ k : Nat, k ≤ n ∧ i = .int .i64 k ∧ Hid (sameTo xs ys dT k) ∧ Below W.heap.size W wr) (fun i _ => n - (intOf i).toNat)
    case atStart => exact ⟨0, Nat.zero_le _, rfl, fun i hi => by omega, Below.refl _ _⟩
    case round =>
      obtain ⟨j, hj, rfl, HS, hbel⟩ := hrel
      have x0 : wr.cell? ⟨N, 0, none⟩ = some (.slice a n c) := by simp [World.cell?, hbel.block N l0, k0]
      have y0 : wr.cell? ⟨N + 1, 0, none⟩ = some (.slice a2 n c2) := by simp [World.cell?, hbel.block (N + 1) l1, k1]
      have hbw := hb0.trans (hbel.mono (by omega))
      have hs := hbel.size
      have l0 : N < wr.heap.size := by omega
      have l1 : N + 1 < wr.heap.size := by omega
      by_cases hlt : j < n
      · obtain ⟨b, off, rfl, hb, ka, kn, kc, va, vn, vc, oa, on, oc, ya, yn, yc, hN1⟩ := NodesAt.at (H1.out.below (hbw.mono hB)) hlt
        obtain ⟨b2, off2, rfl, hb2, ka2, kn2, kc2, va2, vn2, vc2, oa2, on2, oc2, ya2, yn2, yc2, hN2⟩ := NodesAt.at (H2.out.below (hbw.mono hB2)) hlt
        have hov1 := HOV.out (xs.getD j dT) (by have := HL.out.1; simp [List.getD, show j < xs.length by omega])
        have HG : Hid (∀ r : Bool, (r = true ↔ xs.getD j dT = ys.getD j dT) → (r = true → sameTo xs ys dT (j + 1)) ∧ (r = false → ¬ xs = ys)) := by
          intro r hr
          refine ⟨fun e => HS.out.succ (hr.1 e), fun e => ?_⟩
          intro he
          rw [he] at hr
          have := hr.2 rfl
          rw [e] at this
          cases this
        generalize xs.getD j dT = tx at *
        generalize ys.getD j dT = ty at *
        obtain ⟨c0, c1, c2, c3, c4, c5, hpg, hK, hV, hO, hY⟩ := hN1
        obtain ⟨d0, d1, d2, d3, d4, d5, hpg2, hK2, hV2, hO2, hY2⟩ := hN2
        have hcall : ∀ W' : World, W'.heap = wr.heap → _ := fun W' e => l3SameNode_any tx ty hov1 ka kn kc va vn vc oa on oc ya yn yc ka2 kn2 kc2 va2 vn2 vc2 oa2 on2 oc2 ya2 yn2 yc2 W' A B A2 B2 (by rw [e]; omega) (by rw [e]; omega)
        have hsd : wr.drew.heap.size = wr.heap.size := rfl
        have hBw : B ≤ wr.drew.heap.size := by rw [hsd]; omega
        have hBw2 : B2 ≤ wr.drew.heap.size := by rw [hsd]; omega
        clear hcall
        go_upto_region 6 with fail
        go_region_with (go_at_call 65; refine (l3SameNode_any tx ty hov1 ka kn kc va vn vc oa on oc ya yn yc ka2 kn2 kc2 va2 vn2 vc2 oa2 on2 oc2 ya2 yn2 yc2 _ A B A2 B2 ?_ ?_ ?_ ?_ ?_ ?_ ?_ ?_ ?_ ?_).mono ?_; exact hBw; exact hBw2; exact hK; exact hV; exact hO; exact hY; exact hK2; exact hV2; exact hO2; exact hY2; rintro e w1 ⟨r, rfl, hr, hb1⟩)
        all_goals
          obtain ⟨hy, hn⟩ := HG.out r hr
          have hbel2 : Below W.heap.size W w1 := (hbel.drew).trans (hb1.mono hs)
          clear c0 c1 c2 c3 c4 c5 d0 d1 d2 d3 d4 d5 hK hV hO hY hK2 hV2 hO2 hY2 hr hb1
          cases r
          · have HNE : Hid (¬ xs = ys) := hn rfl
            clear hy hn
            go_wp2_with fail
            go_ret
            exact ⟨false, rfl, by simp [HNE.out], hb0.trans (hbel2.mono (by omega))⟩
          · have HS2 : Hid (sameTo xs ys dT (j + 1)) := hy rfl
            clear hy hn
            go_wp2_with fail
            go_roundw
            case rel => exact ⟨j + 1, by omega, by go_num, HS2, hbel2⟩
            case measure => simp [intOf]; omega
      · have HE : Hid (xs = ys) := by
          obtain rfl : j = n := by omega
          exact HS.out.eq HL.out.1 HL.out.2
        go_wp2_with fail
        go_ret
        exact ⟨true, rfl, by simp [HE.out], hbw⟩
  · have hne : ((n : Int) != (n2 : Int)) = true := by simp; omega
    have HNE : Hid (¬ xs = ys) := by
      intro e
      have := HL.out
      rw [e] at this
      omega
    clear hnn
    go_wp2_with fail
    go_ret
    exact ⟨false, rfl, by simp [HNE.out], hb0⟩
end Go.Proofs.Ytpmagndofiaooaa
