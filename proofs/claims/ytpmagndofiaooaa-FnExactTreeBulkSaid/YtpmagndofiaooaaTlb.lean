import Derived.Test.YtpmagndofiaooaaTla
namespace Go.Proofs.Ytpmagndofiaooaa
open Go.RowKit
set_option linter.unusedVariables false
set_option maxRecDepth 100000

theorem sum_take_succ {l : List Nat} {k : Nat} (h : k < l.length) : (l.take (k + 1)).sum = (l.take k).sum + l[k] := by
  rw [List.take_succ_eq_append_getElem h, List.sum_append]; simp
theorem sum_take_le (l : List Nat) (k : Nat) : (l.take k).sum ≤ l.sum := by
  have := List.take_append_drop k l
  have h2 := congrArg List.sum this
  rw [List.sum_append] at h2
  omega
theorem nodes_kid {t k : T} {i : Nat} (h : t.kids[i]? = some k) : k.nodes < t.nodes := by
  rw [T.nodes_eq t]
  obtain ⟨hi, e⟩ := List.getElem?_eq_some_iff.1 h
  have h1 := sum_take_succ (l := t.kids.map T.nodes) (k := i) (by simpa using hi)
  have h2 := sum_take_le (t.kids.map T.nodes) (i + 1)
  simp [e] at h1
  omega
set_option maxHeartbeats 800000 in
theorem l3Nodes_any (C : Nat) : ∀ (t : T), t.nodes ≤ 1000000 → ∀ (w : World) (ka : Option Addr) (kn kc : Nat) (va : Option Addr) (vn vc : Nat) (oa : Option Addr) (on oc : Nat) (ya : Option Addr) (yc : Nat) (css : Nat → List Value), C ≤ w.heap.size → NodeX w 0 C (fun b => b < C) t ka kn kc va vn vc oa on oc ya yc css →
    Calls Try.prog 30 #[.agg #[.bool t.leaf, .int .i64 t.page, .slice ka kn kc, .slice va vn vc, .slice oa on oc, .slice ya t.kids.length yc]] w fun e w' => e = .returned (.int .i64 t.nodes) ∧ Below w.heap.size w w' := by
  intro t
  induction t using T.ind with
  | h t ih =>
    intro hN w ka kn kc va vn vc oa on oc ya yc css hC hX
    have hb0 : Below w.heap.size w (w.alloc (.cells #[.bool t.leaf, .int .i64 t.page, .slice ka kn kc, .slice va vn vc, .slice oa on oc, .slice ya t.kids.length yc] 61)) := (Below.refl _ _).alloc (Nat.le_refl _) _
    have hX0 := hX.belowC (hb0.mono hC)
    have A0 := heap_alloc_new w (.cells #[.bool t.leaf, .int .i64 t.page, .slice ka kn kc, .slice va vn vc, .slice oa on oc, .slice ya t.kids.length yc] 61)
    have s0 : (w.alloc (.cells #[.bool t.leaf, .int .i64 t.page, .slice ka kn kc, .slice va vn vc, .slice oa on oc, .slice ya t.kids.length yc] 61)).heap.size = w.heap.size + 1 := by simp
    have HT : Hid (t.nodes = 1 + (t.kids.map T.nodes).sum) := T.nodes_eq t
    have hle : t.kids.length ≤ maxLen := Nat.le_trans hX.cap.1 hX.cap.2
    unfold maxLen at hle
    have IH : Hid (∀ (i : Nat) (k : T), t.kids[i]? = some k → k ∈ t.kids → k.nodes ≤ 1000000 → ∀ (w : World) (ka : Option Addr) (kn kc : Nat) (va : Option Addr) (vn vc : Nat) (oa : Option Addr) (on oc : Nat) (ya : Option Addr) (yc : Nat) (css : Nat → List Value), C ≤ w.heap.size → NodeX w 0 C (fun b => b < C) k ka kn kc va vn vc oa on oc ya yc css →
      Calls Try.prog 30 #[.agg #[.bool k.leaf, .int .i64 k.page, .slice ka kn kc, .slice va vn vc, .slice oa on oc, .slice ya k.kids.length yc]] w fun e w' => e = .returned (.int .i64 k.nodes) ∧ Below w.heap.size w w') := fun i k _ hm => ih k hm
    have HX : Hid (NodeX (w.alloc (.cells #[.bool t.leaf, .int .i64 t.page, .slice ka kn kc, .slice va vn vc, .slice oa on oc, .slice ya t.kids.length yc] 61)) 0 C (fun b => b < C) t ka kn kc va vn vc oa on oc ya yc css) := hX0
    clear hX hX0 ih
    obtain ⟨n, hn⟩ : ∃ n, n = t.kids.length := ⟨_, rfl⟩
    have HNN : Hid (n = t.kids.length) := hn
    rw [← hn] at hb0 A0 s0 hle ⊢
    rw [← hn] at HX
    clear hn
    generalize t.leaf = lf at hb0 A0 s0 HX ⊢
    generalize t.page = p at hb0 A0 s0 HX ⊢
    go_enter Try.func30, Try.ntmps30
    go_wp2
    generalize w.alloc (.cells #[.bool lf, .int .i64 p, .slice ka kn kc, .slice va vn vc, .slice oa on oc, .slice ya n yc] 61) = W0 at hb0 A0 s0 HX ⊢
    go_loopw [3, 4] (fun o i wr => ∃ (j : Nat) (r : Nat), j ≤ n ∧ i = .int .i64 j ∧ o = .int .i64 r ∧ r ≤ 1000000 ∧ Hid (r = 1 + ((t.kids.map T.nodes).take j).sum) ∧ Below W0.heap.size W0 wr) (fun _ i _ => n - (intOf i).toNat)
    case atStart => exact ⟨0, 1, Nat.zero_le _, rfl, rfl, by omega, by show _ = _; simp, Below.refl _ _⟩
    case round =>
      obtain ⟨j, r, hj, rfl, rfl, hr, HR, hbel⟩ := hrel
      have A1 := (hbel.block _ (by omega)).trans A0
      obtain ⟨x0, x1, x2, x3, x4, x5⟩ := box6 A1
      have l1 : w.heap.size < wr.heap.size := by have := hbel.size; omega
      by_cases hlt : j < n
      · obtain ⟨b, off, rfl, hbl, k, hki, hkm, ka', kn', kc', va', vn', vc', oa', on', oc', ya', yc', css', hXk, c0, c1, c2, c3, c4, c5⟩ := (HX.out.belowC (hbel.mono (by omega))).at (i := j) (by have := HNN.out; omega)
        have hnk := nodes_kid hki
        have HS : Hid (((t.kids.map T.nodes).take (j + 1)).sum = ((t.kids.map T.nodes).take j).sum + k.nodes ∧ ((t.kids.map T.nodes).take (j + 1)).sum ≤ (t.kids.map T.nodes).sum) := by
          refine ⟨?_, sum_take_le _ _⟩
          have := sum_take_succ (l := t.kids.map T.nodes) (k := j) (by simp; have := HNN.out; omega)
          obtain ⟨hi, e⟩ := List.getElem?_eq_some_iff.1 hki
          simp only [List.getElem_map, e] at this
          exact this
        have IHk := IH.out j k hki hkm (by omega)
        clear hki hkm
        go_wp2_with fail
        refine (IHk wr ka' kn' kc' va' vn' vc' oa' on' oc' ya' yc' css' (by omega) hXk).mono ?_
        rintro e w1 ⟨rfl, hb1⟩
        have HR2 : Hid (r + k.nodes = 1 + ((t.kids.map T.nodes).take (j + 1)).sum) := by
          have e1 := HR.out; have e2 := HS.out.1
          show _ = _
          omega
        have hr2 : r + k.nodes ≤ 1000000 := by
          have e1 := HR2.out; have e2 := HS.out.2; have e3 := HT.out
          omega
        have hbel2 := hbel.trans (hb1.mono hbel.size)
        clear c0 c1 c2 c3 c4 c5 hXk IHk HS hnk x0 x1 x2 x3 x4 x5 A1
        generalize k.nodes = m at *
        go_wp2
        go_roundw
        case rel => exact ⟨j + 1, r + m, by omega, by go_num, by go_num, hr2, HR2, hbel2⟩
        case measure => simp [intOf]; omega
      · have HE : Hid (t.nodes = r) := by
          have e1 := HR.out; have e2 := HT.out; have e3 := HNN.out
          rw [List.take_of_length_le (by simp; omega)] at e1
          show _ = _
          omega
        go_wp2
        go_ret
        exact ⟨by rw [HE.out]; rfl, hb0.trans (hbel.mono (by omega))⟩
/-- A call at every node that lies below C. -/
def CallAt (f C : Nat) (t : T) (more : List Value) (Q : World → Ending → World → Prop) : Prop :=
  ∀ (w : World) (ka : Option Addr) (kn kc : Nat) (va : Option Addr) (vn vc : Nat) (oa : Option Addr) (on oc : Nat) (ya : Option Addr) (yc : Nat) (css : Nat → List Value), C ≤ w.heap.size → NodeX w 0 C (fun b => b < C) t ka kn kc va vn vc oa on oc ya yc css →
    Calls Try.prog f ((Value.agg #[.bool t.leaf, .int .i64 t.page, .slice ka kn kc, .slice va vn vc, .slice oa on oc, .slice ya t.kids.length yc]) :: more).toArray w (Q w)
theorem sum_get_le {l : List Nat} {x : Nat} (h : x ∈ l) : x ≤ l.sum := by
  induction l with
  | nil => cases h
  | cons a r ih =>
    rcases List.mem_cons.1 h with rfl | h
    · simp
    · have := ih h; simp; omega
theorem ht_le (t : T) : -1 ≤ t.ht ∧ t.ht < t.nodes := by
  induction t using T.ind with
  | h t ih =>
    rw [T.ht_eq, T.nodes_eq]
    split
    · omega
    · match e : t.kids with
      | [] => simp [T.htOf]
      | k :: r =>
        have h1 := ih k (by rw [e]; exact List.mem_cons_self ..)
        simp only [List.map_cons, List.sum_cons]
        have e2 : T.htOf (k.ht :: r.map T.ht) = (if k.ht < 0 then (-1 : Int) else if (r.map T.ht).all (fun x => x == k.ht) then k.ht + 1 else -1) := rfl
        rw [e2]
        split
        · have := h1.1; omega
        · split <;> omega
theorem htOf_bad {l : List Int} {j : Nat} {v h : Int} (hj : l[j]? = some v) (hall : ∀ i x, i < j → l[i]? = some x → x = h ∧ 0 ≤ h) (hv : v < 0 ∨ (0 < j ∧ v ≠ h)) : T.htOf l = -1 := by
  cases l with
  | nil => simp at hj
  | cons a r =>
    show (if a < 0 then (-1 : Int) else if r.all (fun x => x == a) then a + 1 else -1) = -1
    cases j with
    | zero =>
      simp at hj
      subst hj
      rw [if_pos (by omega)]
    | succ j =>
      have ha := hall 0 a (by omega) (by simp)
      rw [if_neg (by omega), if_neg]
      intro hc
      have := List.all_eq_true.1 hc v (by simp at hj; exact List.mem_of_getElem? hj)
      simp at this
      omega
theorem htOf_end {l : List Int} {h : Int} (hall : ∀ i x, i < l.length → l[i]? = some x → x = h ∧ 0 ≤ h) (h0 : l.length = 0 → h = -1) : T.htOf l = h + 1 := by
  cases l with
  | nil => rw [h0 rfl]; rfl
  | cons a r =>
    have ha := hall 0 a (by simp) (by simp)
    rw [htOf_all (by omega)]
    · omega
    · intro x hx
      obtain ⟨i, hi⟩ := List.mem_iff_getElem?.1 hx
      have := hall (i + 1) x (by have := (List.getElem?_eq_some_iff.1 hi).1; simp; omega) (by simpa using hi)
      omega
set_option maxHeartbeats 1000000 in
theorem l3Height_any (C : Nat) : ∀ (t : T), t.nodes ≤ 1000000 → CallAt 46 C t [] (fun w e w' => e = .returned (.int .i64 t.ht) ∧ Below w.heap.size w w') := by
  intro t
  induction t using T.ind with
  | h t ih =>
    intro hN w ka kn kc va vn vc oa on oc ya yc css hC hX
    have hb0 : Below w.heap.size w (w.alloc (.cells #[.bool t.leaf, .int .i64 t.page, .slice ka kn kc, .slice va vn vc, .slice oa on oc, .slice ya t.kids.length yc] 61)) := (Below.refl _ _).alloc (Nat.le_refl _) _
    have hX0 := hX.belowC (hb0.mono hC)
    have A0 := heap_alloc_new w (.cells #[.bool t.leaf, .int .i64 t.page, .slice ka kn kc, .slice va vn vc, .slice oa on oc, .slice ya t.kids.length yc] 61)
    have s0 : (w.alloc (.cells #[.bool t.leaf, .int .i64 t.page, .slice ka kn kc, .slice va vn vc, .slice oa on oc, .slice ya t.kids.length yc] 61)).heap.size = w.heap.size + 1 := by simp
    have HT : Hid (t.ht = if t.leaf then 0 else T.htOf (t.kids.map T.ht)) := T.ht_eq t
    have hle : t.kids.length ≤ maxLen := Nat.le_trans hX.cap.1 hX.cap.2
    unfold maxLen at hle
    have IH : Hid (∀ (i : Nat) (k : T), t.kids[i]? = some k → k ∈ t.kids → CallAt 46 C k [] (fun w e w' => e = .returned (.int .i64 k.ht) ∧ Below w.heap.size w w')) := fun i k hi hm => ih k hm (by have := nodes_kid hi; omega)
    have HX : Hid (NodeX (w.alloc (.cells #[.bool t.leaf, .int .i64 t.page, .slice ka kn kc, .slice va vn vc, .slice oa on oc, .slice ya t.kids.length yc] 61)) 0 C (fun b => b < C) t ka kn kc va vn vc oa on oc ya yc css) := hX0
    have HB : Hid (∀ (i : Nat) (k : T), t.kids[i]? = some k → -1 ≤ k.ht ∧ k.ht < 1000000) := fun i k hi => by have := nodes_kid hi; have := ht_le k; omega
    clear hX hX0 ih
    obtain ⟨n, hn⟩ : ∃ n, n = t.kids.length := ⟨_, rfl⟩
    have HNN : Hid (n = t.kids.length) := hn
    rw [← hn] at hb0 A0 s0 hle ⊢
    rw [← hn] at HX
    clear hn
    by_cases hl : t.leaf = true
    · have HE : Hid (t.ht = 0) := by show _ = _; rw [HT.out, if_pos hl]
      rw [hl] at hb0 ⊢
      generalize t.page = p at hb0 ⊢
      clear A0 s0 HX HT hl
      go_enter Try.func46, Try.ntmps46
      go_wp2
      go_ret
      exact ⟨by rw [HE.out]; rfl, hb0⟩
    have HE : Hid (t.ht = T.htOf (t.kids.map T.ht)) := by show _ = _; rw [HT.out, if_neg hl]
    have hl2 : t.leaf = false := by simpa using hl
    rw [hl2] at hb0 A0 s0 HX ⊢
    clear hl hl2 HT
    generalize t.page = p at hb0 A0 s0 HX ⊢
    go_enter Try.func46, Try.ntmps46
    go_wp2
    generalize w.alloc (.cells #[.bool false, .int .i64 p, .slice ka kn kc, .slice va vn vc, .slice oa on oc, .slice ya n yc] 61) = W0 at hb0 A0 s0 HX ⊢
    go_loopw [3, 4] (fun o i wr => ∃ (j : Nat) (h : Int), j ≤ n ∧ i = .int .i64 j ∧ o = .int .i64 h ∧ (-1 ≤ h ∧ h < 1000000) ∧ Hid ((∀ i x, i < j → (t.kids.map T.ht)[i]? = some x → x = h ∧ 0 ≤ h) ∧ (j = 0 → h = -1)) ∧ Below W0.heap.size W0 wr) (fun _ i _ => n - (intOf i).toNat)
    case atStart => exact ⟨0, -1, Nat.zero_le _, rfl, rfl, by omega, ⟨fun i x hi => by omega, fun _ => rfl⟩, Below.refl _ _⟩
    case round =>
      obtain ⟨j, h, hj, rfl, rfl, hh, HR, hbel⟩ := hrel
      have A1 := (hbel.block _ (by omega)).trans A0
      obtain ⟨x0, x1, x2, x3, x4, x5⟩ := box6 A1
      have l1 : w.heap.size < wr.heap.size := by have := hbel.size; omega
      by_cases hlt : j < n
      · obtain ⟨b, off, rfl, hbl, k, hki, hkm, ka', kn', kc', va', vn', vc', oa', on', oc', ya', yc', css', hXk, c0, c1, c2, c3, c4, c5⟩ := (HX.out.belowC (hbel.mono (by omega))).at (i := j) (by have := HNN.out; omega)
        have HM : Hid ((t.kids.map T.ht)[j]? = some k.ht) := by show _ = _; rw [List.getElem?_map, hki]; rfl
        have hkb := HB.out j k hki
        have IHk := IH.out j k hki hkm
        clear hki hkm
        go_wp2_with fail
        refine (IHk wr ka' kn' kc' va' vn' vc' oa' on' oc' ya' yc' css' (by omega) hXk).mono ?_
        rintro e w1 ⟨rfl, hb1⟩
        have hbel2 := hbel.trans (hb1.mono hbel.size)
        clear c0 c1 c2 c3 c4 c5 hXk IHk x0 x1 x2 x3 x4 x5 A1
        generalize k.ht = v at *
        by_cases t1 : v < 0
        · have HZ : Hid (t.ht = -1) := by show _ = _; rw [HE.out]; exact htOf_bad HM.out HR.out.1 (.inl t1)
          go_wp2
          go_ret
          exact ⟨by rw [HZ.out]; rfl, hb0.trans (hbel2.mono (by omega))⟩
        · by_cases t2 : 0 < j
          · by_cases t3 : v = h
            · have s3 : (v != h) = false := by simp [t3]
              have HR2 : Hid ((∀ i x, i < j + 1 → (t.kids.map T.ht)[i]? = some x → x = v ∧ 0 ≤ v) ∧ (j + 1 = 0 → v = -1)) := by
                refine ⟨fun i x hi hx => ?_, fun h => by omega⟩
                by_cases hij : i = j
                · subst hij
                  rw [HM.out] at hx
                  simp at hx
                  omega
                · have := HR.out.1 i x (by omega) hx
                  omega
              clear HR t3
              go_wp2
              go_roundw
              case rel => exact ⟨j + 1, v, by omega, by go_num, rfl, by omega, HR2, hbel2⟩
              case measure => simp [intOf]; omega
            · have s3 : (v != h) = true := by simpa using t3
              have HZ : Hid (t.ht = -1) := by show _ = _; rw [HE.out]; exact htOf_bad HM.out HR.out.1 (.inr ⟨t2, t3⟩)
              clear t3
              go_wp2
              go_ret
              exact ⟨by rw [HZ.out]; rfl, hb0.trans (hbel2.mono (by omega))⟩
          · have HR2 : Hid ((∀ i x, i < j + 1 → (t.kids.map T.ht)[i]? = some x → x = v ∧ 0 ≤ v) ∧ (j + 1 = 0 → v = -1)) := by
              refine ⟨fun i x hi hx => ?_, fun h => by omega⟩
              have hij : i = j := by omega
              subst hij
              rw [HM.out] at hx
              simp at hx
              omega
            clear HR
            go_wp2
            go_roundw
            case rel => exact ⟨j + 1, v, by omega, by go_num, rfl, by omega, HR2, hbel2⟩
            case measure => simp [intOf]; omega
      · have HZ : Hid (t.ht = h + 1) := by
          have e3 := HNN.out
          show _ = _
          rw [HE.out]
          exact htOf_end (fun i x hi hx => HR.out.1 i x (by simp at hi; omega) hx) (fun h => HR.out.2 (by simp at h; rw [h] at e3; simp at e3; omega))
        go_wp2
        go_ret
        exact ⟨by rw [HZ.out]; rfl, hb0.trans (hbel.mono (by omega))⟩
end Go.Proofs.Ytpmagndofiaooaa
