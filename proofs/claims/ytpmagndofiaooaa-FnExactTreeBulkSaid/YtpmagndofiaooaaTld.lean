import Derived.Test.YtpmagndofiaooaaTlc
namespace Go.Proofs.Ytpmagndofiaooaa
open Go.RowKit
set_option linter.unusedVariables false
set_option linter.unusedSimpArgs false
set_option maxRecDepth 100000

set_option maxHeartbeats 4000000 in
theorem l3Good_inner (C : Nat) (t : T) (hl : t.leaf = false) (root : Bool) (ih : ∀ k ∈ t.kids, CallAt 45 C k [.bool false] (fun w e w' => e = .returned (.bool (k.good false && k.slots.all (fun s => kyB s.1))) ∧ Below w.heap.size w w')) : CallAt 45 C t [.bool root] (fun w e w' => e = .returned (.bool (t.good root && t.slots.all (fun s => kyB s.1))) ∧ Below w.heap.size w w') := by
  intro w ka kn kc va vn vc oa on oc ya yc css hC hX
  have hb0 := BoxN.new w #[.bool t.leaf, .int .i64 t.page, .slice ka kn kc, .slice va vn vc, .slice oa on oc, .slice ya t.kids.length yc]
  have hX0 := hX.belowC (hb0.bel.mono hC)
  have HG := good_innerB hl root
  have HSZ : Hid (t.size = t.kids.length) := by show _ = _; unfold T.size; rw [hl]; rfl
  have hle : t.kids.length ≤ maxLen := Nat.le_trans hX.cap.1 hX.cap.2
  have hkn : kn ≤ maxLen := Nat.le_trans hX.keys.2.1 hX.keys.2.2.1
  unfold maxLen at hle hkn
  obtain ⟨n, hn⟩ : ∃ n, n = t.kids.length := ⟨_, rfl⟩
  have HNN : Hid (n = t.kids.length) := hn
  have HSize : Hid (∀ W, Calls Try.prog 62 #[.agg #[.bool false, .int .i64 t.page, .slice ka kn kc, .slice va vn vc, .slice oa on oc, .slice ya n yc]] W fun e w' => e = .returned (.int .i64 n) ∧ Below W.heap.size W w') := fun W => by
    have := l3Size_any t ka kn kc va vn vc oa on oc ya yc W hX.keys.1
    rw [hl, HSZ.out, ← hn] at this
    exact this
  have IH : Hid (∀ k ∈ t.kids, CallAt 45 C k [.bool false] (fun w e w' => e = .returned (.bool (k.good false && k.slots.all (fun s => kyB s.1))) ∧ Below w.heap.size w w')) := ih
  clear hX ih
  obtain ⟨R, hR⟩ : ∃ R, R = (t.good root && t.slots.all (fun s => kyB s.1)) := ⟨_, rfl⟩
  rw [← hR] at HG ⊢
  clear hR
  rw [← hn] at hb0 hX0 hle HG ⊢
  clear hn
  rw [hl] at hb0 hX0 ⊢
  have HX : Hid _ := hX0
  obtain ⟨p, hp⟩ : ∃ p, p = t.page := ⟨_, rfl⟩
  rw [← hp] at hb0 hX0 HSize HG ⊢
  rw [← hp] at HX
  clear hp hX0
  obtain ⟨G1, hG1⟩ : ∃ G1, G1 = (decide (2 ≤ n ∧ n ≤ 4) && (p == 0 || pgB p)) := ⟨_, rfl⟩
  rw [← hG1] at HG
  have HG1 : Hid (G1 = (decide (2 ≤ n ∧ n ≤ 4) && (p == 0 || pgB p))) := hG1
  have HR : Hid (R = (G1 && t.kids.all (fun k => (k.good false && k.slots.all (fun s => kyB s.1)) && !(p != 0 && k.page == 0)))) := HG
  clear hG1 HG
  generalize hW0 : w.alloc (.cells #[.bool false, .int .i64 p, .slice ka kn kc, .slice va vn vc, .slice oa on oc, .slice ya n yc] 61) = W0 at hb0 HX
  have HW0 : Hid (w.alloc (.cells #[.bool false, .int .i64 p, .slice ka kn kc, .slice va vn vc, .slice oa on oc, .slice ya n yc] 61) = W0) := hW0
  clear hW0
  have hw0 : C ≤ W0.heap.size := Nat.le_trans hC (Nat.le_of_lt hb0.lt)
  cases root
  all_goals
    go_enter Try.func45, Try.ntmps45
    go_upto_region 4 with fail
    rw [HW0.out]
    have l0 := hb0.lt
    obtain ⟨x0, x1, x2, x3, x4, x5⟩ := box6 hb0.box
    go_cut [33] (fun v wx => v = .bool (!G1) ∧ Below W0.heap.size W0 wx)
    case first =>
      go_wp2_with fail
      refine (HSize.out W0).mono ?_
      rintro e w1 ⟨rfl, hb1⟩
      have X1 := hb0.below hb1
      have l1 := X1.lt
      clear x0 x1 x2 x3 x4 x5
      obtain ⟨x0, x1, x2, x3, x4, x5⟩ := box6 X1.box
      by_cases t1 : n < 2
      · have hz : G1 = false := by rw [HG1.out]; simp; omega
        go_wp2_with fail
        go_meet
        exact ⟨by rw [hz]; rfl, hb1⟩
      · have d1 : decide ((n : Int) < 2) = false := by simp <;> omega
        go_wp2_with fail
        refine (HSize.out w1).mono ?_
        rintro e w2 ⟨rfl, hb2⟩
        have X2 := X1.below hb2
        have B2 := hb1.trans (hb2.mono hb1.size)
        have l2 := X2.lt
        clear x0 x1 x2 x3 x4 x5
        obtain ⟨x0, x1, x2, x3, x4, x5⟩ := box6 X2.box
        by_cases t2 : 4 < n
        · have hz : G1 = false := by rw [HG1.out]; simp; omega
          go_wp2_with fail
          go_meet
          exact ⟨by rw [hz]; rfl, B2⟩
        · have d2 : decide ((4 : Int) < n) = false := by simp; omega
          by_cases t3 : p = 0
          · have s3 : (p != 0) = false := by simpa using t3
            have hz : G1 = true := by rw [HG1.out]; simp [t3]; omega
            clear t3
            go_wp2_with fail
            go_meet
            exact ⟨by rw [hz]; rfl, B2⟩
          · have s3 : (p != 0) = true := by simpa using t3
            have hz : G1 = pgB p := by
              rw [HG1.out, show decide (2 ≤ n ∧ n ≤ 4) = true by simp; omega, show (p == 0) = false by simpa using t3]
              simp
            go_wp2_with (go_at_call 63; refine (l1In_any _ _ _ _).mono ?_; rintro e w3 ⟨rfl, rfl⟩)
            go_meet
            exact ⟨by rw [hz]; simp [pgB], B2⟩
    case rest =>
      obtain ⟨rfl, B2⟩ := hcut
      have X2 := hb0.below B2
      have l2 := X2.lt
      clear x0 x1 x2 x3 x4 x5
      obtain ⟨x0, x1, x2, x3, x4, x5⟩ := box6 X2.box
      by_cases tg : G1 = true
      rotate_left
      · have sg : G1 = false := by simpa using tg
        have hz : R = false := by rw [HR.out, sg]; simp
        subst sg
        go_wp2_with fail
        go_ret
        exact ⟨by rw [hz]; rfl, X2.bel⟩
      subst tg
      have HZ : Hid (R = t.kids.all (fun k => (k.good false && k.slots.all (fun s => kyB s.1)) && !(p != 0 && k.page == 0))) := by show _ = _; rw [HR.out]; simp
      clear HR HG1
      go_wp2_with fail
      clear x0 x1 x2 x3 x4 x5
      go_loopw [6, 7] (fun i o wr => i = .int .i64 0 ∧ o = undef ∧ Below W0.heap.size W0 wr) (fun i _ _ => 0)
      case atStart => exact ⟨rfl, rfl, B2⟩
      case round =>
        obtain ⟨rfl, rfl, hbel⟩ := hrel
        clear B2 X2 l2
        have X3 := hb0.below hbel
        have l3 := X3.lt
        obtain ⟨x0, x1, x2, x3, x4, x5⟩ := box6 X3.box
        go_wp2_with fail
        all_goals
          clear x0 x1 x2 x3 x4 x5
          go_loopw [8] (fun i wr => ∃ (j : Nat), j ≤ n ∧ i = .int .i64 j ∧ Hid (∀ i k, i < j → t.kids[i]? = some k → ((k.good false && k.slots.all (fun s => kyB s.1)) && !(p != 0 && k.page == 0)) = true) ∧ Below W0.heap.size W0 wr) (fun i _ => n - (intOf i).toNat)
          case atStart => exact ⟨0, Nat.zero_le _, rfl, fun i k hi => by omega, hbel⟩
          case round =>
            clear hbel X3 l3
            obtain ⟨j, hj, rfl, HR, hbel⟩ := hrel
            have X3 := hb0.below hbel
            have l3 := X3.lt
            obtain ⟨x0, x1, x2, x3, x4, x5⟩ := box6 X3.box
            by_cases hlt : j < n
            · obtain ⟨b, off, rfl, hbl, k, hki, hkm, ka', kn', kc', va', vn', vc', oa', on', oc', ya', yc', css', hXk, c0, c1, c2, c3, c4, c5⟩ := (HX.out.belowC (hbel.mono hw0)).at (i := j) (by have := HNN.out; omega)
              have IHk := IH.out k hkm
              obtain ⟨E, hE⟩ : ∃ E, E = (k.good false && k.slots.all (fun s => kyB s.1)) := ⟨_, rfl⟩
              rw [← hE] at IHk
              have HB : Hid (((E && !(p != 0 && k.page == 0)) = false → R = false) ∧ ((E && !(p != 0 && k.page == 0)) = true → ∀ i k, i < j + 1 → t.kids[i]? = some k → ((k.good false && k.slots.all (fun s => kyB s.1)) && !(p != 0 && k.page == 0)) = true)) := by
                refine ⟨fun h => ?_, fun h i k' hi hk' => ?_⟩
                · rw [HZ.out, ← Bool.not_eq_true]
                  intro hc
                  have := List.all_eq_true.1 hc k hkm
                  rw [← hE, h] at this
                  cases this
                · by_cases hij : i = j
                  · subst hij
                    rw [hki] at hk'
                    cases hk'
                    rw [← hE]
                    exact h
                  · exact HR.out i k' (by omega) hk'
              clear hki hkm hE
              go_wp2_with fail
              refine (IHk wr ka' kn' kc' va' vn' vc' oa' on' oc' ya' yc' css' (by omega) hXk).mono ?_
              rintro e w1 ⟨rfl, hb1⟩
              have hbel2 := hbel.trans (hb1.mono hbel.size)
              have X4 := hb0.below hbel2
              have l4 := X4.lt
              have d1 := (hb1.cell (p := ⟨b, off + j * 6 + 1, none⟩) (show b < wr.heap.size by have := hb0.lt; omega)).trans c1
              have lb : b < w1.heap.size := by have := hb1.size; omega
              clear c0 c1 c2 c3 c4 c5 hXk IHk x0 x1 x2 x3 x4 x5
              obtain ⟨x0, x1, x2, x3, x4, x5⟩ := box6 X4.box
              generalize k.page = q at *
              by_cases te : E = true
              · subst te
                by_cases tp : p = 0
                · have sp : (p != 0) = false := by simpa using tp
                  have hre : Hid (∀ i k, i < j + 1 → t.kids[i]? = some k → ((k.good false && k.slots.all (fun s => kyB s.1)) && !(p != 0 && k.page == 0)) = true) := HB.out.2 (by simp [sp])
                  clear HB HR tp
                  go_wp2_with fail
                  go_roundw
                  case rel => exact ⟨j + 1, by omega, by go_num, hre, hbel2⟩
                  case measure => simp [intOf]; omega
                · have sp : (p != 0) = true := by simpa using tp
                  by_cases tq : q = 0
                  · have sq : (q == 0) = true := by simpa using tq
                    have hz := HB.out.1 (by simp [sp, sq])
                    clear HB HR tp tq
                    go_wp2_with fail
                    go_ret
                    exact ⟨by rw [hz]; rfl, X4.bel⟩
                  · have sq : (q == 0) = false := by simpa using tq
                    have hre : Hid (∀ i k, i < j + 1 → t.kids[i]? = some k → ((k.good false && k.slots.all (fun s => kyB s.1)) && !(p != 0 && k.page == 0)) = true) := HB.out.2 (by simp [sq])
                    clear HB HR tp tq
                    go_wp2_with fail
                    go_roundw
                    case rel => exact ⟨j + 1, by omega, by go_num, hre, hbel2⟩
                    case measure => simp [intOf]; omega
              · have se : E = false := by simpa using te
                subst se
                have hz := HB.out.1 (by simp)
                clear HB HR
                go_wp2_with fail
                go_ret
                exact ⟨by rw [hz]; rfl, X4.bel⟩
            · have hen : R = true := by
                rw [HZ.out, List.all_eq_true]
                intro k hk
                obtain ⟨i, hi⟩ := List.mem_iff_getElem?.1 hk
                exact HR.out i k (by have := (List.getElem?_eq_some_iff.1 hi).1; have := HNN.out; omega) hi
              go_wp2_with fail
              go_ret
              exact ⟨by rw [hen]; rfl, X3.bel⟩
theorem l3Good_any (C : Nat) (t : T) (hs : Shape t) : ∀ root, CallAt 45 C t [.bool root] (fun w e w' => e = .returned (.bool (t.good root && t.slots.all (fun s => kyB s.1))) ∧ Below w.heap.size w w') := by
  induction t using T.ind with
  | h t ih =>
    intro root
    by_cases hl : t.leaf = true
    · cases root
      · exact l3Good_leaf0 C t hs hl
      · exact l3Good_leaf1 C t hs hl
    · exact l3Good_inner C t (by simpa using hl) root (fun k hk => ih k hk (((shape_eq t).1 hs).2 k hk) false)
end Go.Proofs.Ytpmagndofiaooaa
