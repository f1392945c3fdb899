import Derived.Test.YtpmagndofiaooaaTn
namespace Go.Proofs.Ytpmagndofiaooaa
open Go.RowKit
set_option linter.unusedVariables false
set_option maxRecDepth 100000

theorem good_kid {t k : T} {r : Bool} (h : t.good r = true) (hk : k ∈ t.kids) : k.good false = true := by
  rw [T.good_eq] at h
  simp only [Bool.and_eq_true] at h
  exact List.all_eq_true.1 h.1.2 (k.good false) (List.mem_map.2 ⟨k, hk, rfl⟩)
theorem good_two {t : T} {r : Bool} (h : t.good r = true) (hl : t.leaf = false) : 2 ≤ t.kids.length ∧ t.kids.length ≤ 4 := by
  rw [T.good_eq] at h
  simp only [Bool.and_eq_true, decide_eq_true_eq] at h
  have := h.1.1.1.1
  simpa [T.size, hl] using this
set_option maxHeartbeats 400000 in
theorem l3Size_any (t : T) (ka : Option Addr) (kn kc : Nat) (va : Option Addr) (vn vc : Nat) (oa : Option Addr) (on oc : Nat) (ya : Option Addr) (yc : Nat) (w : World) (hk : t.keys.length = kn) :
    Calls Try.prog 62 #[.agg #[.bool t.leaf, .int .i64 t.page, .slice ka kn kc, .slice va vn vc, .slice oa on oc, .slice ya t.kids.length yc]] w fun e w' => e = .returned (.int .i64 t.size) ∧ Below w.heap.size w w' := by
  have HK : Hid (t.keys.length = kn) := hk
  clear hk
  obtain ⟨n, hn⟩ : ∃ n, n = t.kids.length := ⟨_, rfl⟩
  have HN : Hid (n = t.kids.length) := hn
  rw [← hn]
  clear hn
  generalize t.page = p
  by_cases hl : t.leaf = true
  · have HS : Hid (t.size = kn) := by show _ = _; unfold T.size; rw [if_pos hl]; exact HK.out
    rw [hl]
    go_enter Try.func62, Try.ntmps62
    go_wp2
    go_ret
    exact ⟨by rw [HS.out]; rfl, (Below.refl _ _).alloc (Nat.le_refl _) _⟩
  · have hl2 : t.leaf = false := by simpa using hl
    have HS : Hid (t.size = n) := by show _ = _; unfold T.size; rw [if_neg hl]; exact HN.out.symm
    rw [hl2]
    clear hl hl2
    go_enter Try.func62, Try.ntmps62
    go_wp2
    go_ret
    exact ⟨by rw [HS.out]; rfl, (Below.refl _ _).alloc (Nat.le_refl _) _⟩
set_option maxHeartbeats 800000 in
theorem l3Low_any (C : Nat) : ∀ (t : T), (∃ r, t.good r = true) → ∀ (w : World) (ka : Option Addr) (kn kc : Nat) (va : Option Addr) (vn vc : Nat) (oa : Option Addr) (on oc : Nat) (ya : Option Addr) (yc : Nat) (css : Nat → List Value), C ≤ w.heap.size → NodeX w 0 C (fun b => b < C) t ka kn kc va vn vc oa on oc ya yc css →
    Calls Try.prog 69 #[.agg #[.bool t.leaf, .int .i64 t.page, .slice ka kn kc, .slice va vn vc, .slice oa on oc, .slice ya t.kids.length yc]] w fun e w' => e = .returned (.string t.low) ∧ Below w.heap.size w w' := by
  intro t
  induction t using T.ind with
  | h t ih =>
    rintro ⟨r, hg⟩ w ka kn kc va vn vc oa on oc ya yc css hC hX
    have hb0 : Below w.heap.size w (w.alloc (.cells #[.bool t.leaf, .int .i64 t.page, .slice ka kn kc, .slice va vn vc, .slice oa on oc, .slice ya t.kids.length yc] 61)) := (Below.refl _ _).alloc (Nat.le_refl _) _
    have hX0 := hX.belowC (hb0.mono hC)
    by_cases hl : t.leaf = true
    · have HW : Hid (t.low = t.keys.headD ByteArray.empty) := T.low_leaf hl
      have hK := hX0.keys
      have HK : Hid (t.keys.length = kn) := hK.1
      clear hX hX0 ih
      obtain ⟨n, hn⟩ : ∃ n, n = t.kids.length := ⟨_, rfl⟩
      rw [← hn] at hb0 hK ⊢
      clear hn
      rw [hl] at hb0 hK ⊢
      generalize t.page = p at hb0 hK ⊢
      clear hl
      by_cases hk : kn = 0
      · subst hk
        have HE : Hid (t.low = ByteArray.empty) := by
          show _ = _
          rw [HW.out, List.eq_nil_of_length_eq_zero HK.out]
          rfl
        go_enter Try.func69, Try.ntmps69
        go_wp2
        go_ret
        exact ⟨by rw [HE.out]; rfl, hb0⟩
      · obtain ⟨b, off, rfl, _, _, e0⟩ := StrsAt.at hK (i := 0) (by omega)
        have HE : Hid (t.low = t.keys.getD 0 ByteArray.empty) := by
          show _ = _
          rw [HW.out]
          cases t.keys <;> rfl
        rw [Nat.add_zero] at e0
        generalize t.keys.getD 0 ByteArray.empty = s at e0 HE
        clear hK HW
        go_enter Try.func69, Try.ntmps69
        go_wp2
        go_ret
        exact ⟨by rw [HE.out]; rfl, hb0⟩
    · have hl2 : t.leaf = false := by simpa using hl
      obtain ⟨h2, h4⟩ := good_two hg hl2
      obtain ⟨b, off, rfl, hbl, k, hki, hkm, ka', kn', kc', va', vn', vc', oa', on', oc', ya', yc', css', hXk, c0, c1, c2, c3, c4, c5⟩ := hX0.at (i := 0) (by omega)
      have HW : Hid (t.low = k.low) := by
        show _ = _
        cases e : t.kids with
        | nil => rw [e] at h2; simp at h2
        | cons a r => rw [e] at hki; simp at hki; subst hki; exact T.low_inner hl2 e
      have IH := ih k hkm ⟨false, good_kid hg hkm⟩
      simp only [Nat.zero_mul, Nat.add_zero] at c0 c1 c2 c3 c4 c5
      clear hX hX0 hki hkm ih
      obtain ⟨n, hn⟩ : ∃ n, n = t.kids.length := ⟨_, rfl⟩
      rw [← hn] at hb0 hXk c0 c1 c2 c3 c4 c5 h2 h4 ⊢
      clear hn
      rw [hl2] at hb0 hXk c0 c1 c2 c3 c4 c5 ⊢
      generalize t.page = p at hb0 hXk c0 c1 c2 c3 c4 c5 ⊢
      clear hl hl2
      go_enter Try.func69, Try.ntmps69
      go_wp2_with fail
      refine (IH _ ka' kn' kc' va' vn' vc' oa' on' oc' ya' yc' css' (by simp; omega) hXk).mono ?_
      rintro e w1 ⟨rfl, hb1⟩
      go_wp2_with fail
      go_ret
      exact ⟨by rw [HW.out]; rfl, hb0.trans (hb1.mono (by simp))⟩
end Go.Proofs.Ytpmagndofiaooaa
