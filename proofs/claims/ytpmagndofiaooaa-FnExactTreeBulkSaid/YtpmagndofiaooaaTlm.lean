import Derived.Test.YtpmagndofiaooaaTll
namespace Go.Proofs.Ytpmagndofiaooaa
open Go.RowKit
set_option linter.unusedVariables false
set_option linter.unusedSimpArgs false
set_option maxRecDepth 100000

/-- The two variables of l3Flat. -/
structure XSt (w wr : World) (N : Nat) (bx xs : Array Value) : Prop where
  bn : wr.heap[N]? = some (.cells bx 61)
  xn : wr.heap[N + 1]? = some (.cells xs 92)
  bel : Below N w wr
theorem XSt.lt {w wr : World} {N : Nat} {bx xs : Array Value} (h : XSt w wr N bx xs) : N + 1 < wr.heap.size := (Array.getElem?_eq_some_iff.1 h.xn).1
theorem XSt.fr {S : Nat → Prop} {w wr w1 : World} {N : Nat} {bx xs : Array Value} (h : XSt w wr N bx xs) (hf : Fr S wr w1) (hS : ∀ k, k < N + 2 → ¬ S k) : XSt w w1 N bx xs :=
  ⟨(hf.block N (by have := h.lt; omega) (hS _ (by omega))).trans h.bn, (hf.block (N + 1) h.lt (hS _ (by omega))).trans h.xn, h.bel.trans ⟨hf.os, hf.tape, hf.output, hf.size, fun k hk => hf.block k (by have := h.lt; omega) (hS k (by omega))⟩⟩
theorem XSt.below {w wr w1 : World} {N : Nat} {bx xs : Array Value} (h : XSt w wr N bx xs) (hb : Below wr.heap.size wr w1) : XSt w w1 N bx xs := h.fr (S := fun _ => False) (Fr.of_below hb) (fun _ _ e => e)
theorem XSt.grown {w wr w1 : World} {N g : Nat} {bx xs : Array Value} (h : XSt w wr N bx xs) (hg : wr.grownBy w1 (some g)) (hl : N + 2 ≤ g) : XSt w w1 N bx xs := h.fr (S := fun k => k = g) (Fr.of_grown hg (fun k e => by cases e; rfl)) (fun k hk e => by omega)
theorem XSt.set {w wr : World} {N : Nat} {bx xs : Array Value} (h : XSt w wr N bx xs) (i : Nat) (v : Value) : XSt w (wr.setCell ⟨N + 1, i, none⟩ v) N bx (xs.setIfInBounds i v) := by
  have hf := fr_setT wr (N + 1) i v
  have l := h.lt
  exact ⟨(hf.block N (by omega) (by omega)).trans h.bn, heap_setT h.xn i v, h.bel.trans ⟨hf.os, hf.tape, hf.output, hf.size, fun k hk => hf.block k (by omega) (by omega)⟩⟩
/-- A row of one's own behind the two variables. -/
theorem own_after {w w1 : World} {base e g n c : Nat} {xs : List Value} (h : w.ownsRow base e 1 (.slice (some ⟨g, 0, none⟩) n c) n xs) (hk : w1.heap[g]? = w.heap[g]?) : w1.ownsRow base e 1 (.slice (some ⟨g, 0, none⟩) n c) n xs := by
  refine ⟨h.1, ?_⟩
  rcases h.2 with ⟨e, _⟩ | ⟨g0, cap, cur, e, h1, h2, h3⟩
  · simp at e
  · refine .inr ⟨g0, cap, cur, e, h1, ?_, h3⟩
    simp only [Value.slice.injEq, Option.some.injEq, Addr.mk.injEq] at e
    obtain ⟨⟨rfl, _⟩, _⟩ := e
    rw [hk]; exact h2
theorem off_rows {α : Type} {w : World} {base e g gx n c lo : Nat} {cs : α → List Value} {fit : α → Prop} {d : α} {xs : List α} (hm : ∀ x, (cs x).length = 1) (h : w.ownsRow base e 1 (.slice (some ⟨g, 0, none⟩) n c) n (rowsOf cs xs)) (hl : xs.length = n) (hf : ∀ i, i < n → fit (xs.getD i d)) (hlo : lo ≤ base) (hg : gx < base) : Off w lo gx (fun w A B => RowsAt w A B 1 cs fit d (some ⟨g, 0, none⟩) n c xs) := by
  have hlt := h.lt g rfl
  obtain ⟨a, c', e, hr⟩ := RowsAt.of_owns (fit := fit) (d := d) hm h hl hf
  simp only [Value.slice.injEq] at e
  obtain ⟨rfl, _, rfl⟩ := e
  refine ⟨g, by omega, by omega, hlt.2, hr.1, hr.2.1, hr.2.2.1, hr.2.2.2.1, fun hn => ?_⟩
  obtain ⟨b, off, e, hb, hc⟩ := hr.2.2.2.2 hn
  simp only [Option.some.injEq, Addr.mk.injEq] at e
  obtain ⟨rfl, rfl, _⟩ := e
  exact ⟨g, 0, rfl, by omega, hc⟩
/-- What l3Flat does at a node. -/
def FlatCall (C : Nat) (t : T) : Prop := ∀ (w : World) (lo g c : Nat) (css0 : Nat → List Value) (ts0 : List TN) (ka : Option Addr) (kn kc : Nat) (va : Option Addr) (vn vc : Nat) (oa : Option Addr) (on oc : Nat) (ya : Option Addr) (yc : Nat) (css : Nat → List Value), C ≤ lo → FlatAt w lo g c css0 ts0 → NodeX w 0 C (fun b => b < C) t ka kn kc va vn vc oa on oc ya yc css → ts0.length + (t.flat ts0.length).length ≤ 100000 →
  Calls Try.prog 52 #[.slice (some ⟨g, 0, none⟩) ts0.length c, .agg #[.bool t.leaf, .int .i64 t.page, .slice ka kn kc, .slice va vn vc, .slice oa on oc, .slice ya t.kids.length yc]] w fun e w' => ∃ g' c' css', e = .returned (.slice (some ⟨g', 0, none⟩) (ts0.length + (t.flat ts0.length).length) c') ∧ FlatAt w' lo g' c' css' (ts0 ++ t.flat ts0.length) ∧ Fr (fun k => k = g) w w' ∧ (g' = g ∨ w.heap.size ≤ g')
set_option maxHeartbeats 4000000 in
theorem l3Flat_leaf (C : Nat) (t : T) (hl : t.leaf = true) (hsm : t.keys.length ≤ 1000 ∧ t.vals.length ≤ 1000 ∧ t.over.length ≤ 1000) : FlatCall C t := by
  intro w lo g c css0 ts0 ka kn kc va vn vc oa on oc ya yc css hC hF hX hbd
  have HFL : Hid (t.flat ts0.length = [⟨true, t.page, t.keys, t.vals, t.over, []⟩]) := by show _ = _; rw [T.flat_eq, if_pos hl]
  rw [HFL.out] at hbd ⊢
  have hp := hX.page
  obtain ⟨N, hN⟩ : ∃ N, w.heap.size = N := ⟨_, rfl⟩
  have hgl := hF.lt
  have hCN : C ≤ N := by omega
  have hK : StrsAt w 0 C ka kn kc t.keys := hX.keys
  have hV : StrsAt w 0 C va vn vc t.vals := hX.vals
  have hO : IntsAt w 0 C oa on oc t.over := hX.over
  have hkn : kn ≤ 1000 := by have := hK.1; omega
  have hvn : vn ≤ 1000 := by have := hV.1; omega
  have hon : on ≤ 1000 := by have := hO.1; omega
  have b1 := (Below.refl w.heap.size w).alloc (Nat.le_refl _) (.cells #[.bool true, .int .i64 t.page, .slice ka kn kc, .slice va vn vc, .slice oa on oc, .slice ya t.kids.length yc] 61)
  have b2 := (Below.refl (w.alloc (.cells #[.bool true, .int .i64 t.page, .slice ka kn kc, .slice va vn vc, .slice oa on oc, .slice ya t.kids.length yc] 61)).heap.size _).alloc (Nat.le_refl _) (.cells #[.bool true, .int .i64 t.page, .slice none 0 0, .slice none 0 0, .slice none 0 0, .slice none 0 0] 92)
  have s1 : (w.alloc (.cells #[.bool true, .int .i64 t.page, .slice ka kn kc, .slice va vn vc, .slice oa on oc, .slice ya t.kids.length yc] 61)).heap.size = N + 1 := by simp [hN]
  have X1 : XSt w ((w.alloc (.cells #[.bool true, .int .i64 t.page, .slice ka kn kc, .slice va vn vc, .slice oa on oc, .slice ya t.kids.length yc] 61)).alloc (.cells #[.bool true, .int .i64 t.page, .slice none 0 0, .slice none 0 0, .slice none 0 0, .slice none 0 0] 92)) N #[.bool true, .int .i64 t.page, .slice ka kn kc, .slice va vn vc, .slice oa on oc, .slice ya t.kids.length yc] #[.bool true, .int .i64 t.page, .slice none 0 0, .slice none 0 0, .slice none 0 0, .slice none 0 0] := by
    refine ⟨(b2.block N (by omega)).trans (hN ▸ heap_alloc_new w _), by rw [← s1]; exact heap_alloc_new _ _, ?_⟩
    exact (hN ▸ b1 : Below N w _).trans (b2.mono (by omega))
  have z1 : ((w.alloc (.cells #[.bool true, .int .i64 t.page, .slice ka kn kc, .slice va vn vc, .slice oa on oc, .slice ya t.kids.length yc] 61)).alloc (.cells #[.bool true, .int .i64 t.page, .slice none 0 0, .slice none 0 0, .slice none 0 0, .slice none 0 0] 92)).heap.size = N + 2 := by simp [hN]
  rw [hl]
  obtain ⟨m0, hm0⟩ : ∃ m0, ts0.length = m0 := ⟨_, rfl⟩
  have HM0 : Hid (ts0.length = m0) := hm0
  have HF : Hid (FlatAt w lo g c css0 ts0) := hF
  rw [hm0] at hbd ⊢
  have hmb : m0 + 1 ≤ 100000 := by simpa using hbd
  clear hbd hX hF b1 b2 hm0
  obtain ⟨yn, hyn⟩ : ∃ yn, yn = t.kids.length := ⟨_, rfl⟩
  rw [← hyn] at X1 s1 z1 ⊢
  clear hyn
  obtain ⟨p, hpp⟩ : ∃ p, p = t.page := ⟨_, rfl⟩
  rw [← hpp] at X1 s1 z1 hp HFL ⊢
  clear hpp
  have HK : Hid (StrsAt w 0 C ka kn kc t.keys) := hK
  have HV : Hid (StrsAt w 0 C va vn vc t.vals) := hV
  have HO : Hid (IntsAt w 0 C oa on oc t.over) := hO
  clear hK hV hO hsm
  obtain ⟨is, his, hs0, hs1, hs2⟩ := info_parts info_string
  obtain ⟨ii, hii, hi0, hi1, hi2⟩ := info_parts info_int64
  obtain ⟨ix, hix, hx0, hx1, hx2⟩ := info_parts info_TNodeT
  go_enter Try.func52, Try.ntmps52
  go_upto_region 2 with fail
  generalize ((w.alloc (.cells #[.bool true, .int .i64 p, .slice ka kn kc, .slice va vn vc, .slice oa on oc, .slice ya yn yc] 61)).alloc (.cells #[.bool true, .int .i64 p, .slice none 0 0, .slice none 0 0, .slice none 0 0, .slice none 0 0] 92)) = W1 at X1 z1 ⊢
  -- the keys
  have X2 := X1.below ((Below.refl _ _).alloc (Nat.le_refl _) (.cells #[] 9))
  have e2 := owns_empty W1 9 1
  have z2 : (W1.alloc (.cells #[] 9)).heap.size = N + 3 := by simp [z1]
  rw [z1] at e2
  obtain ⟨n0, n1, n2, n3, n4, n5⟩ := box6 X1.bn
  have l0 : N < W1.heap.size := by omega
  have k2 : StrsAt (W1.alloc (.cells #[] 9)) 0 C ka kn kc t.keys := HK.out.below (X2.bel.mono hCN)
  go_upto_region 4 with (at_builtin; refine wpList_append_rowsT _ rfl _ _ 58 rfl (N + 2) 9 is _ 16 Try.underlying58 his hs0 hs1 hs2 rfl (N + 2) 0 0 [] rfl e2 sc1 one_str1 rfl k2 (by unfold maxLen; omega) (by omega) (by omega) ?_; intro g1 c1 w3 o1 gr1; have X3 := X2.grown gr1 (Nat.le_refl _); have fx3 := thawT X3.xn; obtain ⟨x0, x1, x2, x3, x4, x5⟩ := box6 X3.xn; have lx := X3.lt)
  have X4 := X3.set 2 (.slice (some ⟨g1, 0, none⟩) kn c1)
  have hg1 := o1.lt g1 rfl
  have r1 : (w3.setCell ⟨N + 1, 2, none⟩ (.slice (some ⟨g1, 0, none⟩) kn c1)).ownsRow (N + 2) 9 1 (.slice (some ⟨g1, 0, none⟩) kn c1) kn (rowsOf strCells t.keys) := own_after (by simpa using o1) ((fr_setT w3 (N + 1) 2 _).block g1 hg1.2 (by omega))
  have f4 : Fr (fun k => N ≤ k) w (w3.setCell ⟨N + 1, 2, none⟩ (.slice (some ⟨g1, 0, none⟩) kn c1)) := ⟨X4.bel.os, X4.bel.tape, X4.bel.output, X4.bel.size, fun k _ hk => X4.bel.block k (by omega)⟩
  simp only [List.setIfInBounds_toArray, List.set_cons_succ, List.set_cons_zero] at X4
  generalize w3.setCell ⟨N + 1, 2, none⟩ (.slice (some ⟨g1, 0, none⟩) kn c1) = W4 at X4 r1 ⊢
  clear X1 X2 X3 z1 z2 e2 k2 o1 gr1 fx3 x0 x1 x2 x3 x4 x5 lx n0 n1 n2 n3 n4 n5 l0 hg1 f4
  -- the values
  have hg1 := r1.lt g1 rfl
  have X5 := X4.below ((Below.refl _ _).alloc (Nat.le_refl _) (.cells #[] 9))
  have e2 := owns_empty W4 9 1
  obtain ⟨n0, n1, n2, n3, n4, n5⟩ := box6 X4.bn
  have l0 : N < W4.heap.size := by have := X4.lt; omega
  have l9 := X4.lt
  have k2 : StrsAt (W4.alloc (.cells #[] 9)) 0 C va vn vc t.vals := HV.out.below (X5.bel.mono hCN)
  have z2 : (W4.alloc (.cells #[] 9)).heap.size = W4.heap.size + 1 := by simp
  go_upto_region 5 with (at_builtin; refine wpList_append_rowsT _ rfl _ _ 58 rfl W4.heap.size 9 is _ 16 Try.underlying58 his hs0 hs1 hs2 rfl W4.heap.size 0 0 [] rfl e2 sc1 one_str1 rfl k2 (by unfold maxLen; omega) (by omega) (by omega) ?_; intro g2 c2 w3 o1 gr1; have X3 := X5.grown gr1 (by omega); have fx3 := thawT X3.xn; obtain ⟨x0, x1, x2, x3, x4, x5⟩ := box6 X3.xn; have lx := X3.lt)
  have X6 := X3.set 3 (.slice (some ⟨g2, 0, none⟩) vn c2)
  have hg2 := o1.lt g2 rfl
  have hs3 := gr1.size
  have q1 : (w3.setCell ⟨N + 1, 3, none⟩ (.slice (some ⟨g2, 0, none⟩) vn c2)).ownsRow (N + 2) 9 1 (.slice (some ⟨g1, 0, none⟩) kn c1) kn (rowsOf strCells t.keys) := own_after r1 (((fr_setT w3 (N + 1) 3 _).block g1 (by omega) (by omega)).trans ((gr1.block g1 (by omega) (by simp; omega)).trans (((Below.refl _ _).alloc (Nat.le_refl _) (.cells #[] 9)).block g1 hg1.2)))
  have q2 : (w3.setCell ⟨N + 1, 3, none⟩ (.slice (some ⟨g2, 0, none⟩) vn c2)).ownsRow (N + 2) 9 1 (.slice (some ⟨g2, 0, none⟩) vn c2) vn (rowsOf strCells t.vals) := owns_base (own_after (by simpa using o1) ((fr_setT w3 (N + 1) 3 _).block g2 hg2.2 (by omega))) (by omega)
  simp only [List.setIfInBounds_toArray, List.set_cons_succ, List.set_cons_zero] at X6
  generalize w3.setCell ⟨N + 1, 3, none⟩ (.slice (some ⟨g2, 0, none⟩) vn c2) = W6 at X6 q1 q2 ⊢
  clear X3 X4 X5 r1 z2 e2 k2 o1 gr1 fx3 x0 x1 x2 x3 x4 x5 lx n0 n1 n2 n3 n4 n5 l0 hg1 hg2 hs3 l9
  -- the numbers
  have hg1 := q1.lt g1 rfl
  have hg2 := q2.lt g2 rfl
  have X5 := X6.below ((Below.refl _ _).alloc (Nat.le_refl _) (.cells #[] 2))
  have e2 := owns_empty W6 2 1
  obtain ⟨n0, n1, n2, n3, n4, n5⟩ := box6 X6.bn
  have l0 : N < W6.heap.size := by have := X6.lt; omega
  have l9 := X6.lt
  have k2 : IntsAt (W6.alloc (.cells #[] 2)) 0 C oa on oc t.over := HO.out.below (X5.bel.mono hCN)
  have z2 : (W6.alloc (.cells #[] 2)).heap.size = W6.heap.size + 1 := by simp
  go_upto_region 6 with (at_builtin; refine wpList_append_rowsT _ rfl _ _ 59 rfl W6.heap.size 2 ii _ 8 Try.underlying59 hii hi0 hi1 hi2 rfl W6.heap.size 0 0 [] rfl e2 ic1 one_int1 rfl k2 (by unfold maxLen; omega) (by omega) (by omega) ?_; intro g3 c3 w3 o1 gr1; have X3 := X5.grown gr1 (by omega); have fx3 := thawT X3.xn; obtain ⟨x0, x1, x2, x3, x4, x5⟩ := box6 X3.xn; have lx := X3.lt)
  have X7 := X3.set 4 (.slice (some ⟨g3, 0, none⟩) on c3)
  have hg3 := o1.lt g3 rfl
  have hs3 := gr1.size
  have hkeep : ∀ q, q < W6.heap.size → N + 2 ≤ q → (w3.setCell ⟨N + 1, 4, none⟩ (.slice (some ⟨g3, 0, none⟩) on c3)).heap[q]? = W6.heap[q]? := fun q h1 h2 => ((fr_setT w3 (N + 1) 4 _).block q (by omega) (by omega)).trans ((gr1.block q (by omega) (by simp; omega)).trans (((Below.refl _ _).alloc (Nat.le_refl _) (.cells #[] 2)).block q h1))
  have r1 : (w3.setCell ⟨N + 1, 4, none⟩ (.slice (some ⟨g3, 0, none⟩) on c3)).ownsRow (N + 2) 9 1 (.slice (some ⟨g1, 0, none⟩) kn c1) kn (rowsOf strCells t.keys) := own_after q1 (hkeep g1 hg1.2 hg1.1)
  have r2 : (w3.setCell ⟨N + 1, 4, none⟩ (.slice (some ⟨g3, 0, none⟩) on c3)).ownsRow (N + 2) 9 1 (.slice (some ⟨g2, 0, none⟩) vn c2) vn (rowsOf strCells t.vals) := own_after q2 (hkeep g2 hg2.2 hg2.1)
  have r3 : (w3.setCell ⟨N + 1, 4, none⟩ (.slice (some ⟨g3, 0, none⟩) on c3)).ownsRow (N + 2) 2 1 (.slice (some ⟨g3, 0, none⟩) on c3) on (rowsOf intCells t.over) := owns_base (own_after (by simpa using o1) ((fr_setT w3 (N + 1) 4 _).block g3 hg3.2 (by omega))) (by omega)
  simp only [List.setIfInBounds_toArray, List.set_cons_succ, List.set_cons_zero] at X7
  generalize w3.setCell ⟨N + 1, 4, none⟩ (.slice (some ⟨g3, 0, none⟩) on c3) = W7 at X7 r1 r2 r3 ⊢
  clear X3 X6 X5 q1 q2 z2 e2 k2 o1 gr1 fx3 x0 x1 x2 x3 x4 x5 lx n0 n1 n2 n3 n4 n5 l0 hg1 hg2 hg3 hs3 l9 hkeep
  -- the node itself
  have hlt := X7.lt
  have F7 : FlatAt W7 lo g c css0 ts0 := HF.out.fr (S := fun k => N ≤ k) ⟨X7.bel.os, X7.bel.tape, X7.bel.output, X7.bel.size, fun k _ hk => X7.bel.block k (by omega)⟩ (fun k _ hk => by omega)
  have N7 : FNode W7 lo g ⟨true, p, t.keys, t.vals, t.over, []⟩ [.bool true, .int .i64 p, .slice (some ⟨g1, 0, none⟩) kn c1, .slice (some ⟨g2, 0, none⟩) vn c2, .slice (some ⟨g3, 0, none⟩) on c3, .slice none 0 0] :=
    ⟨_, _, _, _, _, _, _, _, _, none, 0, 0, rfl, hp, off_rows sc1 r1 HK.out.1 HK.out.2.2.2.1 (by omega) (by omega), off_rows sc1 r2 HV.out.1 HV.out.2.2.2.1 (by omega) (by omega), off_rows ic1 r3 HO.out.1 HO.out.2.2.2.1 (by omega) (by omega), ⟨N, by omega, by omega, by omega, rfl, Nat.le_refl _, Nat.zero_le _, fun i hi => absurd hi (Nat.not_lt_zero _), fun h => absurd h (Nat.lt_irrefl _)⟩⟩
  have ab := (Below.refl W7.heap.size W7).alloc (Nat.le_refl _) (.cells #[.bool true, .int .i64 p, .slice (some ⟨g1, 0, none⟩) kn c1, .slice (some ⟨g2, 0, none⟩) vn c2, .slice (some ⟨g3, 0, none⟩) on c3, .slice none 0 0] 92)
  have F8 := F7.below ab
  have N8 := N7.keep (w' := (W7.alloc (.cells #[.bool true, .int .i64 p, .slice (some ⟨g1, 0, none⟩) kn c1, .slice (some ⟨g2, 0, none⟩) vn c2, .slice (some ⟨g3, 0, none⟩) on c3, .slice none 0 0] 92))) (fun k _ h2 _ => ab.block k h2) (.inl rfl) ab.size
  obtain ⟨x0, x1, x2, x3, x4, x5⟩ := box6 X7.xn
  have hrow := F8.row
  rw [HM0.out] at hrow
  have hcells := cell_six_new W7 (.bool true) (.int .i64 p) (.slice (some ⟨g1, 0, none⟩) kn c1) (.slice (some ⟨g2, 0, none⟩) vn c2) (.slice (some ⟨g3, 0, none⟩) on c3) (.slice none 0 0) 92
  have HBW : Hid (Below N w W7) := X7.bel
  have HEND : Hid (∀ g' c' w4, w4.ownsRow lo 92 6 (.slice (some ⟨g', 0, none⟩) (m0 + 1) c') (m0 + 1) (rowsC css0 m0 ++ [.bool true, .int .i64 p, .slice (some ⟨g1, 0, none⟩) kn c1, .slice (some ⟨g2, 0, none⟩) vn c2, .slice (some ⟨g3, 0, none⟩) on c3, .slice none 0 0]) → (W7.alloc (.cells #[.bool true, .int .i64 p, .slice (some ⟨g1, 0, none⟩) kn c1, .slice (some ⟨g2, 0, none⟩) vn c2, .slice (some ⟨g3, 0, none⟩) on c3, .slice none 0 0] 92)).grownBy w4 (some g) → (g' = g ∨ (W7.alloc (.cells #[.bool true, .int .i64 p, .slice (some ⟨g1, 0, none⟩) kn c1, .slice (some ⟨g2, 0, none⟩) vn c2, .slice (some ⟨g3, 0, none⟩) on c3, .slice none 0 0] 92)).heap.size ≤ g') → FlatAt w4 lo g' c' (fun i => if i = ts0.length then [.bool true, .int .i64 p, .slice (some ⟨g1, 0, none⟩) kn c1, .slice (some ⟨g2, 0, none⟩) vn c2, .slice (some ⟨g3, 0, none⟩) on c3, .slice none 0 0] else css0 i) (ts0 ++ [⟨true, p, t.keys, t.vals, t.over, []⟩]) ∧ Fr (fun k => k = g) w w4 ∧ (g' = g ∨ w.heap.size ≤ g')) := by
    intro g' c' w4 h1 h2 h3
    rw [← HM0.out] at h1
    have hb := HBW.out
    refine ⟨F8.push rfl N8 h1 h2 h3, ?_, h3.imp id (fun e => Nat.le_trans hb.size (Nat.le_trans ab.size e))⟩
    exact ⟨h2.os.trans (ab.os.trans hb.os), h2.tape.trans (ab.tape.trans hb.tape), h2.output.trans (ab.output.trans hb.output), Nat.le_trans hb.size (Nat.le_trans ab.size h2.size), fun k hk1 hk2 => (h2.block k (by have := hb.size; have := ab.size; omega) (by simpa using hk2)).trans ((ab.block k (by have := hb.size; omega)).trans (hb.block k (by omega)))⟩
  have hlo : lo ≤ (W7.alloc (.cells #[.bool true, .int .i64 p, .slice (some ⟨g1, 0, none⟩) kn c1, .slice (some ⟨g2, 0, none⟩) vn c2, .slice (some ⟨g3, 0, none⟩) on c3, .slice none 0 0] 92)).heap.size := by have := ab.size; omega
  clear F7 N7 F8 N8 ab r1 r2 r3 X7
  go_wp2_with (at_builtin; refine wpList_append_nodeT _ rfl _ _ 24 rfl lo 92 ix _ 6 112 Try.underlying24 hix hx0 hx1 hx2 rfl (by decide) g m0 c _ rfl hrow ⟨W7.heap.size, 0, none⟩ 1 [.bool true, .int .i64 p, .slice (some ⟨g1, 0, none⟩) kn c1, .slice (some ⟨g2, 0, none⟩) vn c2, .slice (some ⟨g3, 0, none⟩) on c3, .slice none 0 0] rfl rfl hcells (by simp [Value.oneCell']) (by unfold maxLen; omega) (by omega) hlo ?_; intro g' c' w4 h1 h2 h3; obtain ⟨R1, R2, R3⟩ := HEND.out g' c' w4 h1 h2 h3; clear h1 h2 h3 HEND hrow hcells)
  go_ret
  exact ⟨g', c', _, rfl, R1, R2, R3⟩
end Go.Proofs.Ytpmagndofiaooaa
