import Derived.Test.YtmlpmglmnhjajaaTlp
import Derived.Test.YtmlpmglmnhjajaaTlk
namespace Go.Proofs.Ytmlpmglmnhjajaa
open Go.RowKit
set_option linter.unusedVariables false
set_option linter.unusedSimpArgs false
set_option maxRecDepth 100000

theorem Off.lower {w : World} {lo lo' g : Nat} {R : World → Nat → Nat → Prop} (h : Off w lo g R) (hl : lo' ≤ lo) : Off w lo' g R := by
  obtain ⟨A, h1, h2⟩ := h
  exact ⟨A, by omega, h2⟩
theorem FlatAt.lower {w : World} {lo lo' g c : Nat} {css : Nat → List Value} {ts : List TN} (h : FlatAt w lo g c css ts) (hl : lo' ≤ lo) : FlatAt w lo' g c css ts :=
  ⟨owns_base h.row hl, fun i t hi => ⟨(h.node i t hi).1, by
    obtain ⟨ka, kn, kc, va, vn, vc, oa, on, oc, ya, yn, yc, e, h0, h1, h2, h3, h4⟩ := (h.node i t hi).2
    exact ⟨ka, kn, kc, va, vn, vc, oa, on, oc, ya, yn, yc, e, h0, h1.lower hl, h2.lower hl, h3.lower hl, h4.lower hl⟩⟩⟩
theorem flat_le (t : T) : ∀ s, (t.flat s).length ≤ t.nodes := by
  induction t using T.ind with
  | h t ih =>
    intro s
    rw [T.flat_eq, T.nodes_eq]
    split
    · simp
    · have : ∀ (ys : List T) (s : Nat), (∀ y ∈ ys, ∀ s, (y.flat s).length ≤ y.nodes) → (offs s (ys.map T.flat)).length ≤ (ys.map T.nodes).sum := by
        intro ys
        induction ys with
        | nil => intro s h; simp [offs]
        | cons y r ihr =>
          intro s h
          simp only [List.map_cons, offs, List.length_append, List.sum_cons]
          have h1 := h y (List.mem_cons_self ..) s
          have h2 := ihr (s + (y.flat s).length) (fun y hy => h y (List.mem_cons_of_mem _ hy))
          omega
      have h := this t.kids (s + 1) ih
      rw [List.length_cons]
      omega
set_option maxHeartbeats 2000000 in
theorem l3Tree_any (C : Nat) (t : T) (hg : ∃ r, t.good r = true) (hn : t.nodes ≤ 100000) (hk : t.slots.all (fun s => kyB s.1) = true) : CallAt 18 C t [] (fun w e w' => ∃ g c css, e = .returned (.agg #[.slice (some ⟨g, 0, none⟩) (t.flat 0).length c]) ∧ FlatAt w' w.heap.size g c css (t.flat 0) ∧ Below w.heap.size w w') := by
  intro w ka kn kc va vn vc oa on oc ya yc css hC hX
  have hcall := l3Flat_any C t hg hn hk
  have hfl := flat_le t 0
  obtain ⟨N, hN⟩ : ∃ N, w.heap.size = N := ⟨_, rfl⟩
  have HX : Hid (NodeX w 0 C (fun b => b < C) t ka kn kc va vn vc oa on oc ya yc css) := hX
  have HC : Hid (FlatCall C t) := hcall
  obtain ⟨F, hF⟩ : ∃ F, t.flat 0 = F := ⟨_, rfl⟩
  have HFF : Hid (t.flat 0 = F) := hF
  rw [hF] at hfl ⊢
  clear hX hcall hF hg hk
  obtain ⟨m, hm⟩ : ∃ m, F.length = m := ⟨_, rfl⟩
  have HM : Hid (F.length = m) := hm
  rw [hm] at hfl ⊢
  clear hm
  have a3 := alloc3 w (.cells #[.bool t.leaf, .int .i64 t.page, .slice ka kn kc, .slice va vn vc, .slice oa on oc, .slice ya t.kids.length yc] 47) (.cells #[.slice none 0 0] 26) (.cells #[] 62)
  have b3 : Below w.heap.size w (((w.alloc (.cells #[.bool t.leaf, .int .i64 t.page, .slice ka kn kc, .slice va vn vc, .slice oa on oc, .slice ya t.kids.length yc] 47)).alloc (.cells #[.slice none 0 0] 26)).alloc (.cells #[] 62)) := (((Below.refl _ _).alloc (Nat.le_refl _) _).alloc (by simp) _).alloc (by simp; omega) _
  have e3 := owns_empty ((w.alloc (.cells #[.bool t.leaf, .int .i64 t.page, .slice ka kn kc, .slice va vn vc, .slice oa on oc, .slice ya t.kids.length yc] 47)).alloc (.cells #[.slice none 0 0] 26)) 62 6
  have z2 : ((w.alloc (.cells #[.bool t.leaf, .int .i64 t.page, .slice ka kn kc, .slice va vn vc, .slice oa on oc, .slice ya t.kids.length yc] 47)).alloc (.cells #[.slice none 0 0] 26)).heap.size = N + 1 + 1 := by simp [hN]
  have z3 : (((w.alloc (.cells #[.bool t.leaf, .int .i64 t.page, .slice ka kn kc, .slice va vn vc, .slice oa on oc, .slice ya t.kids.length yc] 47)).alloc (.cells #[.slice none 0 0] 26)).alloc (.cells #[] 62)).heap.size = N + 3 := by simp [hN]
  rw [hN] at a3
  rw [z2] at e3
  have HW : Hid (∀ W3, Below w.heap.size w W3 → W3.ownsRow (N + 1 + 1) 62 6 (.slice (some ⟨N + 1 + 1, 0, none⟩) 0 0) 0 [] → Calls Try.prog 30 #[.slice (some ⟨N + 1 + 1, 0, none⟩) 0 0, .agg #[.bool t.leaf, .int .i64 t.page, .slice ka kn kc, .slice va vn vc, .slice oa on oc, .slice ya t.kids.length yc]] W3 fun e w' => ∃ g' c' css', e = .returned (.slice (some ⟨g', 0, none⟩) m c') ∧ FlatAt w' (N + 1 + 1) g' c' css' F ∧ Fr (fun k => k = N + 1 + 1) W3 w' ∧ (g' = N + 1 + 1 ∨ W3.heap.size ≤ g')) := by
    intro W3 hb he
    have h := HC.out W3 (N + 1 + 1) (N + 1 + 1) 0 (fun _ => []) [] ka kn kc va vn vc oa on oc ya yc css (by omega) ⟨he, fun i t hi => by simp at hi⟩ (HX.out.belowC (hb.mono hC)) (by simp only [List.length_nil]; have := HFF.out; rw [this, HM.out]; omega)
    simp only [List.length_nil, List.nil_append, HFF.out, HM.out, Nat.zero_add] at h
    exact h
  clear HC HX HFF HM
  generalize t.leaf = lf at *
  generalize t.page = pg at *
  generalize t.kids.length = yn at *
  go_enter Try.func18, Try.ntmps18
  obtain ⟨n0, n1, n2, n3, n4, n5⟩ := box6 a3.1
  have l0 : N < (((w.alloc (.cells #[.bool lf, .int .i64 pg, .slice ka kn kc, .slice va vn vc, .slice oa on oc, .slice ya yn yc] 47)).alloc (.cells #[.slice none 0 0] 26)).alloc (.cells #[] 62)).heap.size := by omega
  go_upto_region 1 with fail
  go_wp2_with fail
  generalize (((w.alloc (.cells #[.bool lf, .int .i64 pg, .slice ka kn kc, .slice va vn vc, .slice oa on oc, .slice ya yn yc] 47)).alloc (.cells #[.slice none 0 0] 26)).alloc (.cells #[] 62)) = W3 at *
  refine (HW.out W3 b3 e3).mono ?_
  rintro e w4 ⟨g', c', css', rfl, F4, fr4, hg4⟩
  have R4 := (fr4.block (N + 1) (by omega) (by omega)).trans a3.2.1
  have x0 : w4.cell? ⟨N + 1, 0, none⟩ = some (.slice none 0 0) := by
    simp [World.cell?, R4]
  have ff := thawT R4
  have l4 : N + 1 < w4.heap.size := (Array.getElem?_eq_some_iff.1 R4).1
  have F5 := F4.fr (fr_setT w4 (N + 1) 0 (.slice (some ⟨g', 0, none⟩) m c')) (fun k h1 h2 => by omega)
  have R5 := heap_setT R4 0 (.slice (some ⟨g', 0, none⟩) m c')
  have hset := fr_setT w4 (N + 1) 0 (.slice (some ⟨g', 0, none⟩) m c')
  have hbel : Below w.heap.size w (w4.setCell ⟨N + 1, 0, none⟩ (.slice (some ⟨g', 0, none⟩) m c')) := (b3.trans (fr4.below (by omega) (fun g e => by omega))).trans (hset.below (by have := fr4.size; omega) (fun g e => by omega))
  clear n0 n1 n2 n3 n4 n5 l0 F4 HW
  go_wp2_with fail
  generalize w4.setCell ⟨N + 1, 0, none⟩ (.slice (some ⟨g', 0, none⟩) m c') = W5 at *
  have x5 : W5.cell? ⟨N + 1, 0, none⟩ = some (.slice (some ⟨g', 0, none⟩) m c') := by
    simp [World.cell?, R5]
  refine bodyPost_ret (v := .agg #[.slice (some ⟨g', 0, none⟩) m c']) (by simp [results, Try.results18, go_sem, x5]) rfl ?_
  exact ⟨g', c', css', rfl, by rw [hN]; exact F5.lower (by omega), hbel⟩
end Go.Proofs.Ytmlpmglmnhjajaa
