import Derived.Test.YtbgbokgomheodaaGreatGAA
import Derived.Test.YtbgbokgomheodaaGreatTwd
import Derived.Test.YtbgbokgomheodaaGreatGBD
namespace Go.Proofs.YtbgbokgomheodaaGreat
open Go.RowKit
set_option linter.unusedVariables false
set_option linter.unusedSimpArgs false
set_option maxRecDepth 100000

theorem qa_mono2 {α : Type} {w : World} {B m : Nat} {cs : α → List Value} {fit : α → Prop} {d : α} {a : Option Addr} {n c : Nat} {xs : List α} {Q Q' : Nat → Prop} (hr : RowsAt w 0 B m cs fit d a n c xs) (hq : QA Q a n) (hQ : ∀ b, Q b → b < B → Q' b) : QA Q' a n := fun h0 => by
 obtain ⟨b, off, e, hb, _⟩ := hr.2.2.2.2 h0
 obtain ⟨b2, off2, e2, h2⟩ := hq h0
 rw [e] at e2
 cases e2
 exact ⟨b, off, e, hQ b h2 hb.2⟩
def TNQ (w : World) (B : Nat) (Q : Nat → Prop) (t : TN) (cs : List Value) : Prop := ∃ (ka : Option Addr) (kn kc : Nat) (va : Option Addr) (vn vc : Nat) (oa : Option Addr) (on oc : Nat) (ya : Option Addr) (yn yc : Nat), cs = [.bool t.leaf, .int .i64 t.page, .slice ka kn kc, .slice va vn vc, .slice oa on oc, .slice ya yn yc] ∧ I64 t.page ∧ (StrsAt w 0 B ka kn kc t.keys ∧ QA Q ka kn) ∧ (StrsAt w 0 B va vn vc t.vals ∧ QA Q va vn) ∧ (IntsAt w 0 B oa on oc t.over ∧ QA Q oa on) ∧ IntsAt w 0 B ya yn yc t.kids ∧ QA Q ya yn
theorem TNQ.keep {w w' : World} {B B' : Nat} {Q Q' : Nat → Prop} {t : TN} {cs : List Value} (h : TNQ w B Q t cs) (hk : ∀ b, Q b → b < B → w'.heap[b]? = w.heap[b]?) (hQ : ∀ b, Q b → b < B → Q' b) (hB : B ≤ B') : TNQ w' B' Q' t cs := by
 obtain ⟨ka, kn, kc, va, vn, vc, oa, on, oc, ya, yn, yc, e, h0, ⟨h1, q1⟩, ⟨h2, q2⟩, ⟨h3, q3⟩, h4, q4⟩ := h
 exact ⟨ka, kn, kc, va, vn, vc, oa, on, oc, ya, yn, yc, e, h0, ⟨rows_keepQ h1 q1 hk hB, qa_mono2 h1 q1 hQ⟩, ⟨rows_keepQ h2 q2 hk hB, qa_mono2 h2 q2 hQ⟩, ⟨rows_keepQ h3 q3 hk hB, qa_mono2 h3 q3 hQ⟩, rows_keepQ h4 q4 hk hB, qa_mono2 h4 q4 hQ⟩
theorem TNQ.len {w : World} {B : Nat} {Q : Nat → Prop} {t : TN} {cs : List Value} (h : TNQ w B Q t cs) : cs.length = 6 := by
 obtain ⟨ka, kn, kc, va, vn, vc, oa, on, oc, ya, yn, yc, rfl, _⟩ := h
 rfl
theorem rows_from {α : Type} {w : World} {A B m : Nat} {cs : α → List Value} {fit : α → Prop} {d : α} {a : Option Addr} {n c : Nat} {xs : List α} {Q : Nat → Prop} (hr : RowsAt w 0 B m cs fit d a n c xs) (hq : QA Q a n) (hQ : ∀ b, Q b → A ≤ b) : RowsAt w A B m cs fit d a n c xs := by
 obtain ⟨h1, h2, h3, h4, h5⟩ := hr
 refine ⟨h1, h2, h3, h4, fun hn => ?_⟩
 obtain ⟨b, off, e, hb, hc⟩ := h5 hn
 obtain ⟨b2, off2, e2, hb2⟩ := hq hn
 rw [e] at e2
 cases e2
 exact ⟨b, off, e, ⟨hQ b hb2, hb.2⟩, hc⟩
structure CI (w wr : World) (N : Nat) (a : Option Addr) (n c : Nat) (ts : List TN) (j : Nat) (oa : Option Addr) (oc : Nat) (css : Nat → List Value) : Prop where
 bel : Below N w wr
 sz : N + 3 ≤ wr.heap.size
 k0 : wr.heap[N]? = some (.cells #[.slice a n c] 28)
 k1 : wr.heap[N + 1]? = some (.cells #[.slice none 0 0] 28)
 k2 : wr.heap[N + 2]? = some (.cells #[.slice oa j oc] 28)
 row : wr.ownsRow (N + 3) 81 6 (.slice oa j oc) j (rowsC css j)
 nd : ∀ i, i < j → TNQ wr wr.heap.size (fun b => N + 3 ≤ b ∧ (Value.slice oa j oc).ownBlock ≠ some b) (ts.getD i dT) (css i)
theorem ci_step {w wr w1 w5 : World} {N n c j : Nat} {a oa : Option Addr} {oc : Nat} {ts : List TN} {css : Nat → List Value} (h : CI w wr N a n c ts j oa oc css) {xc : Obj} (hf : Fr (fun g => wr.heap.size + 1 ≤ g) (wr.alloc xc).drew w1) {cs : List Value} (hn : TNQ w1 w1.heap.size (fun b => wr.heap.size + 1 ≤ b) (ts.getD j dT) cs) {nc : Obj} {x5 : Option Addr} {y5 : Nat} (g1 : w5.ownsRow (N + 3) 81 6 (.slice x5 (j + 1) y5) (j + 1) (rowsC css j ++ cs)) (g2 : (w1.alloc nc).grownBy w5 (Value.slice oa j oc).ownBlock) (g3 : (Value.slice x5 (j + 1) y5).ownBlock = (Value.slice oa j oc).ownBlock ∨ ∀ g, (Value.slice x5 (j + 1) y5).ownBlock = some g → (w1.alloc nc).heap.size ≤ g) : CI w (w5.setCell ⟨N + 2, 0, none⟩ (.slice x5 (j + 1) y5)) N a n c ts (j + 1) x5 y5 (fun i => if i < j then css i else cs) := by
 have hsx : (wr.alloc xc).drew.heap.size = wr.heap.size + 1 := by show (wr.alloc xc).heap.size = _; simp
 have s1 := hf.size
 have sA : (w1.alloc nc).heap.size = w1.heap.size + 1 := by simp
 have s5 := g2.size
 have hst := fr_setT w5 (N + 2) 0 (.slice x5 (j + 1) y5)
 have s6 := hst.size
 have hsz := h.sz
 have ha := (Below.refl wr.heap.size wr).alloc (Nat.le_refl _) xc
 have hb1 := (Below.refl w1.heap.size w1).alloc (Nat.le_refl _) nc
 have o0 : ∀ g, (Value.slice oa j oc).ownBlock = some g → N + 3 ≤ g ∧ g < wr.heap.size := fun g hg => h.row.lt g hg
 have e1 : ∀ g, g < wr.heap.size → w1.heap[g]? = wr.heap[g]? := fun g hg => (hf.block g (by omega) (by omega)).trans (ha.block g hg)
 have e5 : ∀ g, g < w1.heap.size → (Value.slice oa j oc).ownBlock ≠ some g → g ≠ N + 2 → (w5.setCell ⟨N + 2, 0, none⟩ (.slice x5 (j + 1) y5)).heap[g]? = w1.heap[g]? := fun g h1 h2 h3 => (hst.block g (by omega) h3).trans ((g2.block g (by omega) (fun e => h2 e.symm)).trans (hb1.block g h1))
 have e6 : ∀ g, g < N + 2 → (w5.setCell ⟨N + 2, 0, none⟩ (.slice x5 (j + 1) y5)).heap[g]? = wr.heap[g]? := fun g hg => (e5 g (by omega) (fun e => by have := o0 g e; omega) (by omega)).trans (e1 g (by omega))
 have k25 : w5.heap[N + 2]? = some (.cells #[.slice oa j oc] 28) := (g2.block (N + 2) (by omega) (fun e => by have := o0 _ e.symm; omega)).trans ((hb1.block (N + 2) (by omega)).trans ((e1 (N + 2) (by omega)).trans h.k2))
 have h6 : ∀ i, i < j → (css i).length = 6 := fun i hi => (h.nd i hi).len
 have nq : ∀ b, b < w1.heap.size → (Value.slice oa j oc).ownBlock ≠ some b → (Value.slice x5 (j + 1) y5).ownBlock ≠ some b := fun b hb hne e => by
  rcases g3 with h9 | h9
  ·rw [h9] at e; exact hne e
  ·have := h9 b e; omega
 refine ⟨?_, by omega, (e6 N (by omega)).trans h.k0, (e6 (N + 1) (by omega)).trans h.k1, by simpa using heap_setT k25 0 (.slice x5 (j + 1) y5), ?_, fun i hi => ?_⟩
 ·exact h.bel.trans ⟨hst.os.trans (g2.os.trans (hb1.os.trans (hf.os.trans ha.os))), hst.tape.trans (g2.tape.trans (hb1.tape.trans (hf.tape.trans ha.tape))), hst.output.trans (g2.output.trans (hb1.output.trans (hf.output.trans ha.output))), by omega, fun g hg => e6 g (by omega)⟩
 ·rw [rowsC_succ, rowsC_congr (cs2 := fun i => if i < j then css i else cs) (css := css) (fun i hi => by simp [hi])]
  simp only [Nat.lt_irrefl, if_false]
  exact owns_fr g1 hst (fun g hg e => by have := (g1.lt g hg).1; omega)
 ·by_cases hij : i < j
  ·simp only [if_pos hij]
   exact (h.nd i hij).keep (fun b hb hlt => (e5 b (by omega) hb.2 (by omega)).trans (e1 b hlt)) (fun b hb hlt => ⟨hb.1, nq b (by omega) hb.2⟩) (by omega)
  ·obtain rfl : i = j := by omega
   simp only [Nat.lt_irrefl, if_false]
   exact hn.keep (fun b hb hlt => e5 b hlt (fun e => by have := o0 b e; omega) (by omega)) (fun b hb hlt => ⟨by omega, nq b hlt (fun e => by have := o0 b e; omega)⟩) (by omega)
theorem ci_nodes {w wr X : World} {N n c : Nat} {a oa : Option Addr} {oc : Nat} {ts : List TN} {css : Nat → List Value} (h : CI w wr N a n c ts n oa oc css) (hl : ts.length = n) (hf : Fr (fun g => g = N + 1) wr X) {A : Nat} (hA : A ≤ N + 3) : NodesAt X A X.heap.size oa n oc ts := by
 have hR := owns_fr h.row hf (fun g hg e => by have := (h.row.lt g hg).1; omega)
 have hN : ∀ i, i < n → TNQ X X.heap.size (fun b => N + 3 ≤ b) (ts.getD i dT) (css i) := fun i hi => (h.nd i hi).keep (fun b hb hlt => hf.block b hlt (by omega)) (fun b hb _ => hb.1) hf.size
 have h6 : ∀ i, i < n → (css i).length = 6 := fun i hi => (hN i hi).len
 have hrc := rowsC_get (css := css) (m := n) h6
 have hnc : n ≤ oc ∧ oc ≤ maxLen := by
  rcases hR.2 with ⟨e1, e2⟩ | ⟨g, cap, cur, e1, hg1, hg2, h1, h2, _⟩
  ·simp only [Value.slice.injEq] at e1
   obtain ⟨_, rfl, rfl⟩ := e1
   exact ⟨Nat.le_refl _, by unfold maxLen; omega⟩
  ·simp only [Value.slice.injEq] at e1
   obtain ⟨_, _, rfl⟩ := e1
   exact ⟨h1, h2⟩
 refine ⟨hl, hnc.1, hnc.2, fun h0 => ?_⟩
 obtain ⟨g, c', e⟩ := some_of_pos hR h0
 simp only [Value.slice.injEq] at e
 obtain ⟨rfl, _, rfl⟩ := e
 have hlt := hR.lt g rfl
 refine ⟨g, 0, rfl, ⟨by omega, hlt.2⟩, fun i hi => ?_⟩
 have hc : ∀ r, r < 6 → X.cell? ⟨g, 0 + i * 6 + r, none⟩ = (css i)[r]? := fun r hr => by
  rw [Nat.zero_add, hR.cellAt (i * 6 + r) (by omega)]
  exact hrc.2 i r hi hr
 obtain ⟨ka, kn, kc, va, vn, vc, oa', on, oc', ya, yn, yc, e, q0, ⟨h1, q1⟩, ⟨h2, q2⟩, ⟨h3, q3⟩, h4, q4⟩ := hN i hi
 rw [e] at hc
 have hQ : ∀ b, N + 3 ≤ b → A ≤ b := fun b hb => by omega
 exact ⟨ka, kn, kc, va, vn, vc, oa', on, oc', ya, yn, yc, by simpa using hc 0 (by omega), by simpa using hc 1 (by omega), by simpa using hc 2 (by omega), by simpa using hc 3 (by omega), by simpa using hc 4 (by omega), by simpa using hc 5 (by omega), q0, rows_from h1 q1 hQ, rows_from h2 q2 hQ, rows_from h3 q3 hQ, rows_from h4 q4 hQ⟩
theorem arr46 (A : Array Value) (h : A.size = 46) : ∃ t0 t1 t2 t3 t4 t5 t6 t7 t8 t9 t10 t11 t12 t13 t14 t15 t16 t17 t18 t19 t20 t21 t22 t23 t24 t25 t26 t27 t28 t29 t30 t31 t32 t33 t34 t35 t36 t37 t38 t39 t40 t41 t42 t43 t44 t45 : Value, A = #[t0, t1, t2, t3, t4, t5, t6, t7, t8, t9, t10, t11, t12, t13, t14, t15, t16, t17, t18, t19, t20, t21, t22, t23, t24, t25, t26, t27, t28, t29, t30, t31, t32, t33, t34, t35, t36, t37, t38, t39, t40, t41, t42, t43, t44, t45] := by
 obtain ⟨l⟩ := A
 match l, h with
 | t0 :: t1 :: t2 :: t3 :: t4 :: t5 :: t6 :: t7 :: t8 :: t9 :: t10 :: t11 :: t12 :: t13 :: t14 :: t15 :: t16 :: t17 :: t18 :: t19 :: t20 :: t21 :: t22 :: t23 :: t24 :: t25 :: t26 :: t27 :: t28 :: t29 :: t30 :: t31 :: t32 :: t33 :: t34 :: t35 :: t36 :: t37 :: t38 :: t39 :: t40 :: t41 :: t42 :: t43 :: t44 :: t45 :: [], _ => exact ⟨t0, t1, t2, t3, t4, t5, t6, t7, t8, t9, t10, t11, t12, t13, t14, t15, t16, t17, t18, t19, t20, t21, t22, t23, t24, t25, t26, t27, t28, t29, t30, t31, t32, t33, t34, t35, t36, t37, t38, t39, t40, t41, t42, t43, t44, t45, rfl⟩
theorem src_one6 {w : World} {g ty : Nat} {c0 c1 c2 c3 c4 c5 : Value} (hk : w.heap[g]? = some (.cells #[c0, c1, c2, c3, c4, c5] ty)) (h1 : ∀ u ∈ [c0, c1, c2, c3, c4, c5], u.oneCell' = true) : SrcAt w w.heap.size 6 1 (.slice (some ⟨g, 0, none⟩) 1 1) [c0, c1, c2, c3, c4, c5] := by
 have hlt := (Array.getElem?_eq_some_iff.1 hk).1
 refine ⟨rfl, by omega, h1, some ⟨g, 0, none⟩, 1, rfl, (fun e => by cases e), fun _ => ⟨g, 0, rfl⟩, fun x hx j u hj => ?_⟩
 cases hx
 have hj6 := (List.getElem?_eq_some_iff.1 hj).1
 have hj6' : j = 0 ∨ j = 1 ∨ j = 2 ∨ j = 3 ∨ j = 4 ∨ j = 5 := by simp at hj6; omega
 rcases hj6' with rfl | rfl | rfl | rfl | rfl | rfl <;> (simp at hj; subst hj; exact ⟨hlt, by simp [Addr.add, World.cell?, hk]⟩)
theorem owns_nilX (w : World) (base e size : Nat) : w.ownsRow base e size (.slice none 0 0) 0 (rowsC (fun _ => []) 0) := ⟨by simp [rowsC], Or.inl ⟨rfl, rfl⟩⟩
theorem srcAt_up {w : World} {B B' size m : Nat} {v : Value} {xs : List Value} (h : SrcAt w B size m v xs) (hB : B ≤ B') : SrcAt w B' size m v xs := by
 obtain ⟨h1, h2, h3, ad, c, e, h4, h6, h5⟩ := h
 exact ⟨h1, h2, h3, ad, c, e, h4, h6, fun x hx j u hj => ⟨Nat.lt_of_lt_of_le (h5 x hx j u hj).1 hB, (h5 x hx j u hj).2⟩⟩
set_option maxHeartbeats 8000000 in
theorem l3Copy_any (ts : List TN) (a : Option Addr) (n c A B : Nat) (w : World) (hB : B ≤ w.heap.size) (hT : NodesAt w A B a n c ts) (hn : n ≤ 1048576) (hb : ∀ x ∈ ts, NodeLen x) :
  Calls Tryz.prog 17 #[.agg #[.slice a n c]] w fun e w' => ∃ a' c', e = .returned (.agg #[.slice a' n c']) ∧ NodesAt w' w.heap.size w'.heap.size a' n c' ts ∧ Below w.heap.size w w' := by
 obtain ⟨N, hN⟩ : ∃ N, w.heap.size = N := ⟨_, rfl⟩
 have HT : Hid (NodesAt w A B a n c ts ∧ ∀ x ∈ ts, NodeLen x) := ⟨hT, hb⟩
 obtain ⟨W, hW⟩ : ∃ W, W = ((w.alloc (.cells #[.slice a n c] 28)).alloc (.cells #[.slice none 0 0] 28)).alloc (.cells #[.slice none 0 0] 28) := ⟨_, rfl⟩
 have a3 := alloc3 w (.cells #[.slice a n c] 28) (.cells #[.slice none 0 0] 28) (.cells #[.slice none 0 0] 28)
 rw [← hW, hN] at a3
 obtain ⟨k0, k1, k2⟩ := a3
 have bW : Below N w W := by rw [hW, ← hN]; exact (((Below.refl _ _).alloc (Nat.le_refl _) _).alloc (by simp) _).alloc (by simp; omega) _
 have sW : W.heap.size = N + 3 := by rw [hW]; simp [hN]
 have HC0 : Hid (CI w W N a n c ts 0 none 0 (fun _ => [])) := ⟨bW, by omega, k0, k1, k2, owns_nilX W _ _ _, fun i hi => by omega⟩
 have hnc := hT.2.1
 have hcm := hT.2.2.1
 unfold maxLen at hcm
 obtain ⟨iT, hiT, ht0, ht1, ht2⟩ := info_parts info_TNodeT
 clear hT hb
 go_enter Tryz.func17, Tryz.ntmps17
 go_upto_region 2 with fail
 rw [← hW]
 clear hW k0 k1 k2 bW sW
 go_wp2_with fail
 go_loopw [4] (fun i wr => ∃ (j : Nat) (oa : Option Addr) (oc : Nat) (css : Nat → List Value), j ≤ n ∧ i = .int .i64 j ∧ CI w wr N a n c ts j oa oc css) (fun i _ => n - (intOf i).toNat)
 case atStart => exact ⟨0, none, 0, _, Nat.zero_le _, rfl, HC0.out⟩
 case round =>
  obtain ⟨j, oa', oc', css, hj, rfl, hI⟩ := hrel
  have HI : Hid _ := hI
  have sr := hI.sz
  have kr0 := hI.k0
  have kr2 := hI.k2
  have kr1 := hI.k1
  have x0 := cell_one_at kr0
  have x2 := cell_one_at kr2
  have x1 := cell_one_at kr1
  by_cases hlt : j < n
  ·obtain ⟨ba, off, ra, hbl, ka, kn, kc, va, vn, vc, oa, on, oc, ya, yn, yc, hnd⟩ := (HT.out.1.below (hI.bel.mono (hN ▸ hB))).at hlt
   subst ra
   have hlen : NodeLen (ts.getD j dT) := by
    rw [List.getD_eq_getElem?_getD, List.getElem?_eq_getElem (by have := HT.out.1.1; omega)]
    exact HT.out.2 _ (List.getElem_mem _)
   have HND : Hid (TNodeIs wr A B ba (off + j * 6) (ts.getD j dT) ka kn kc va vn vc oa on oc ya yn yc ∧ NodeLen (ts.getD j dT)) := ⟨hnd, hlen⟩
   have c0 := hnd.c0
   have c1 := hnd.c1
   have c2 := hnd.c2
   have c3 := hnd.c3
   have c4 := hnd.c4
   have c5 := hnd.c5
   obtain ⟨lf, hlf⟩ : ∃ lf, (ts.getD j dT).leaf = lf := ⟨_, rfl⟩
   obtain ⟨pg, hpg⟩ : ∃ pg, (ts.getD j dT).page = pg := ⟨_, rfl⟩
   have HLP : Hid ((ts.getD j dT).leaf = lf ∧ (ts.getD j dT).page = pg) := ⟨hlf, hpg⟩
   rw [hlf] at c0
   rw [hpg] at c1
   clear hnd hlen hlf hpg hI
   go_upto_region 6 with fail
   have kx := heap_alloc_new wr (.cells #[.bool lf, .int .i64 pg, .slice ka kn kc, .slice va vn vc, .slice oa on oc, .slice ya yn yc] 81)
   have hbx := (Below.refl wr.heap.size wr).alloc (Nat.le_refl _) (.cells #[.bool lf, .int .i64 pg, .slice ka kn kc, .slice va vn vc, .slice oa on oc, .slice ya yn yc] 81)
   have sx : (wr.alloc (.cells #[.bool lf, .int .i64 pg, .slice ka kn kc, .slice va vn vc, .slice oa on oc, .slice ya yn yc] 81)).heap.size = wr.heap.size + 1 := by simp
   have HF : Hid (∀ w1 : World, Fr (fun g => wr.heap.size + 1 ≤ g) (wr.alloc (.cells #[.bool lf, .int .i64 pg, .slice ka kn kc, .slice va vn vc, .slice oa on oc, .slice ya yn yc] 81)).drew w1 → w1.heap[wr.heap.size]? = some (.cells #[.bool lf, .int .i64 pg, .slice ka kn kc, .slice va vn vc, .slice oa on oc, .slice ya yn yc] 81) ∧ ∀ g, g < wr.heap.size → w1.heap[g]? = wr.heap[g]?) := fun w1 hf => ⟨(hf.block _ (by show _ < (wr.alloc (.cells #[.bool lf, .int .i64 pg, .slice ka kn kc, .slice va vn vc, .slice oa on oc, .slice ya yn yc] 81)).heap.size; omega) (by omega)).trans kx, fun g hg => (hf.block g (by show _ < (wr.alloc (.cells #[.bool lf, .int .i64 pg, .slice ka kn kc, .slice va vn vc, .slice oa on oc, .slice ya yn yc] 81)).heap.size; omega) (by omega)).trans (hbx.block g hg)⟩
   have HSA : Hid (∀ j', j' < 4 → SrcAt (wr.alloc (.cells #[.bool lf, .int .i64 pg, .slice ka kn kc, .slice va vn vc, .slice oa on oc, .slice ya yn yc] 81)).drew (wr.heap.size + 1) (cS j') ((fun j => if j = 0 then kn else if j = 1 then vn else if j = 2 then on else yn) j') ((fun j => if j = 0 then .slice ka kn kc else if j = 1 then .slice va vn vc else if j = 2 then .slice oa on oc else .slice ya yn yc) j') ((fun j' => if j' = 0 then rowsOf strCells (ts.getD j dT).keys else if j' = 1 then rowsOf strCells (ts.getD j dT).vals else if j' = 2 then rowsOf intCells (ts.getD j dT).over else rowsOf intCells (ts.getD j dT).kids) j')) := fun j' hj' => by
    have hd := HND.out.1
    have hl := HND.out.2
    have hsB : B ≤ wr.heap.size := by have := HI.out.bel.size; omega
    have hbb : Below B wr (wr.alloc (.cells #[.bool lf, .int .i64 pg, .slice ka kn kc, .slice va vn vc, .slice oa on oc, .slice ya yn yc] 81)).drew := (hbx.mono hsB).trans ((Below.refl _ _).drew)
    have up : ∀ {sz m : Nat} {v : Value} {xs : List Value}, SrcAt wr B sz m v xs → SrcAt (wr.alloc (.cells #[.bool lf, .int .i64 pg, .slice ka kn kc, .slice va vn vc, .slice oa on oc, .slice ya yn yc] 81)).drew (wr.heap.size + 1) sz m v xs := fun h => srcAt_up (h.below hbb) (by omega)
    have hj4 : j' = 0 ∨ j' = 1 ∨ j' = 2 ∨ j' = 3 := by omega
    rcases hj4 with rfl | rfl | rfl | rfl
    ·show SrcAt _ _ 1 kn (.slice ka kn kc) (rowsOf strCells (ts.getD j dT).keys)
     exact up (srcRows sc1 (strs_one _) hd.keys (by have := hd.keys.1; have := hl.1; omega))
    ·show SrcAt _ _ 1 vn (.slice va vn vc) (rowsOf strCells (ts.getD j dT).vals)
     exact up (srcRows sc1 (strs_one _) hd.vals (by have := hd.vals.1; have := hl.2.1; omega))
    ·show SrcAt _ _ 1 on (.slice oa on oc) (rowsOf intCells (ts.getD j dT).over)
     exact up (srcRows ic1 (ints_one _) hd.over (by have := hd.over.1; have := hl.2.2.1; omega))
    ·show SrcAt _ _ 1 yn (.slice ya yn yc) (rowsOf intCells (ts.getD j dT).kids)
     exact up (srcRows ic1 (ints_one _) hd.kids (by have := hd.kids.1; have := hl.2.2.2; omega))
   have HNEW : Hid (∀ w1 U0 U1 U2 U3, Fr (fun g => wr.heap.size + 1 ≤ g) (wr.alloc (.cells #[.bool lf, .int .i64 pg, .slice ka kn kc, .slice va vn vc, .slice oa on oc, .slice ya yn yc] 81)).drew w1 → w1.ownsRow (wr.heap.size + 1) 9 1 U0 kn (rowsOf strCells (ts.getD j dT).keys) → w1.ownsRow (wr.heap.size + 1) 9 1 U1 vn (rowsOf strCells (ts.getD j dT).vals) → w1.ownsRow (wr.heap.size + 1) 2 1 U2 on (rowsOf intCells (ts.getD j dT).over) → w1.ownsRow (wr.heap.size + 1) 2 1 U3 yn (rowsOf intCells (ts.getD j dT).kids) → ∃ u0 v0 u1 v1 u2 v2 u3 v3, U0 = .slice u0 kn v0 ∧ U1 = .slice u1 vn v1 ∧ U2 = .slice u2 on v2 ∧ U3 = .slice u3 yn v3 ∧ TNQ w1 w1.heap.size (fun b => wr.heap.size + 1 ≤ b) (ts.getD j dT) [.bool lf, .int .i64 pg, .slice u0 kn v0, .slice u1 vn v1, .slice u2 on v2, .slice u3 yn v3]) := by
    intro w1 U0 U1 U2 U3 hf r0 r1 r2 r3
    have hd := HND.out.1
    obtain ⟨u0, v0, rfl, s0⟩ := rowsAt_own (fit := strFit) (d := ByteArray.empty) sc1 r0 (fun x hx => rowsAt_fits hd.keys x hx)
    obtain ⟨u1, v1, rfl, s1⟩ := rowsAt_own (fit := strFit) (d := ByteArray.empty) sc1 r1 (fun x hx => rowsAt_fits hd.vals x hx)
    obtain ⟨u2, v2, rfl, s2⟩ := rowsAt_own (fit := I64) (d := 0) ic1 r2 (fun x hx => rowsAt_fits hd.over x hx)
    obtain ⟨u3, v3, rfl, s3⟩ := rowsAt_own (fit := I64) (d := 0) ic1 r3 (fun x hx => rowsAt_fits hd.kids x hx)
    exact ⟨u0, v0, u1, v1, u2, v2, u3, v3, rfl, rfl, rfl, rfl, u0, kn, v0, u1, vn, v1, u2, on, v2, u3, yn, v3, by rw [HLP.out.1, HLP.out.2], hd.page, ⟨s0, own_qa r0⟩, ⟨s1, own_qa r1⟩, ⟨s2, own_qa r2⟩, s3, own_qa r3⟩
   clear c0 c1 c2 c3 c4 c5 x0 x1 x2 hbx kx
   refine wp_region_noPanic ?_
   refine wp_region_held_drew (S := (fun w' : World => w'.heap[wr.heap.size]? = some (.cells #[.bool lf, .int .i64 pg, .slice ka kn kc, .slice va vn vc, .slice oa on oc, .slice ya yn yc] 81))) (by kernel_rfl) ((HF.out (wr.alloc (.cells #[.bool lf, .int .i64 pg, .slice ka kn kc, .slice va vn vc, .slice oa on oc, .slice ya yn yc] 81)).drew (Fr.refl _ _)).1) (fun hHeld => ?_)
   refine wpAnyH_take (i := 0) (oi := { dst := some 19, op := Op.fieldAddr 28 (Operand.tmp 3) 0, type := 0, pos := "l3_tree.go:244", after := #[], guard := none }) (v := .pointer (some ⟨N + 2, 0, none⟩)) rfl (by kernel_rfl) (by kernel_rfl) (by kernel_rfl) (fun _ _ _ h => h) (Or.inl ⟨by rfl, ?_⟩) (by assumption) ?_
   ·intro wq hSw; (try dsimp only at hSw); go_simp
   try simp only [Act.put, q1, q2, q3]
   refine wpAnyH_take (i := 2) (oi := { dst := some 21, op := Op.fieldAddr 81 (Operand.tmp 5) 0, type := 0, pos := "l3_tree.go:244", after := #[], guard := none }) (v := .pointer (some ⟨wr.heap.size, 0, none⟩)) rfl (by kernel_rfl) (by kernel_rfl) (by kernel_rfl) (fun _ _ _ h => h) (Or.inl ⟨by rfl, ?_⟩) (by assumption) ?_
   ·intro wq hSw; (try dsimp only at hSw); go_simp
   try simp only [Act.put, q1, q2, q3]
   refine wpAnyH_take (i := 3) (oi := { dst := some 22, op := Op.load 4 (Operand.tmp 21), type := 4, pos := "l3_tree.go:244", after := #[{ on := 2, ground := Ground.data }], guard := none }) (v := .bool lf) rfl (by kernel_rfl) (by kernel_rfl) (by kernel_rfl) (fun _ _ _ h => h) (Or.inl ⟨by rfl, ?_⟩) (by assumption) ?_
   ·intro wq hSw; (try dsimp only at hSw); obtain ⟨y0, y1, y2, y3, y4, y5⟩ := box6g hSw; go_simp
   try simp only [Act.put, q1, q2, q3]
   refine wpAnyH_take (i := 4) (oi := { dst := some 23, op := Op.fieldAddr 81 (Operand.tmp 5) 1, type := 0, pos := "l3_tree.go:244", after := #[], guard := none }) (v := .pointer (some ⟨wr.heap.size, 1, none⟩)) rfl (by kernel_rfl) (by kernel_rfl) (by kernel_rfl) (fun _ _ _ h => h) (Or.inl ⟨by rfl, ?_⟩) (by assumption) ?_
   ·intro wq hSw; (try dsimp only at hSw); go_simp
   try simp only [Act.put, q1, q2, q3]
   refine wpAnyH_take (i := 5) (oi := { dst := some 24, op := Op.load 2 (Operand.tmp 23), type := 2, pos := "l3_tree.go:244", after := #[{ on := 4, ground := Ground.data }], guard := none }) (v := .int .i64 pg) rfl (by kernel_rfl) (by kernel_rfl) (by kernel_rfl) (fun _ _ _ h => h) (Or.inl ⟨by rfl, ?_⟩) (by assumption) ?_
   ·intro wq hSw; (try dsimp only at hSw); obtain ⟨y0, y1, y2, y3, y4, y5⟩ := box6g hSw; go_simp
   try simp only [Act.put, q1, q2, q3]
   refine wpAnyH_take (i := 7) (oi := { dst := some 26, op := Op.fieldAddr 81 (Operand.tmp 5) 2, type := 0, pos := "l3_tree.go:244", after := #[], guard := none }) (v := .pointer (some ⟨wr.heap.size, 2, none⟩)) rfl (by kernel_rfl) (by kernel_rfl) (by kernel_rfl) (fun _ _ _ h => h) (Or.inl ⟨by rfl, ?_⟩) (by assumption) ?_
   ·intro wq hSw; (try dsimp only at hSw); go_simp
   try simp only [Act.put, q1, q2, q3]
   refine wpAnyH_take (i := 8) (oi := { dst := some 27, op := Op.load 44 (Operand.tmp 26), type := 44, pos := "l3_tree.go:244", after := #[{ on := 7, ground := Ground.data }], guard := none }) (v := .slice ka kn kc) rfl (by kernel_rfl) (by kernel_rfl) (by kernel_rfl) (fun _ _ _ h => h) (Or.inl ⟨by rfl, ?_⟩) (by assumption) ?_
   ·intro wq hSw; (try dsimp only at hSw); obtain ⟨y0, y1, y2, y3, y4, y5⟩ := box6g hSw; go_simp
   try simp only [Act.put, q1, q2, q3]
   refine wpAnyH_take (i := 11) (oi := { dst := some 30, op := Op.fieldAddr 81 (Operand.tmp 5) 3, type := 0, pos := "l3_tree.go:244", after := #[], guard := none }) (v := .pointer (some ⟨wr.heap.size, 3, none⟩)) rfl (by kernel_rfl) (by kernel_rfl) (by kernel_rfl) (fun _ _ _ h => h) (Or.inl ⟨by rfl, ?_⟩) (by assumption) ?_
   ·intro wq hSw; (try dsimp only at hSw); go_simp
   try simp only [Act.put, q1, q2, q3]
   refine wpAnyH_take (i := 12) (oi := { dst := some 31, op := Op.load 44 (Operand.tmp 30), type := 44, pos := "l3_tree.go:244", after := #[{ on := 11, ground := Ground.data }], guard := none }) (v := .slice va vn vc) rfl (by kernel_rfl) (by kernel_rfl) (by kernel_rfl) (fun _ _ _ h => h) (Or.inl ⟨by rfl, ?_⟩) (by assumption) ?_
   ·intro wq hSw; (try dsimp only at hSw); obtain ⟨y0, y1, y2, y3, y4, y5⟩ := box6g hSw; go_simp
   try simp only [Act.put, q1, q2, q3]
   refine wpAnyH_take (i := 15) (oi := { dst := some 34, op := Op.fieldAddr 81 (Operand.tmp 5) 4, type := 0, pos := "l3_tree.go:244", after := #[], guard := none }) (v := .pointer (some ⟨wr.heap.size, 4, none⟩)) rfl (by kernel_rfl) (by kernel_rfl) (by kernel_rfl) (fun _ _ _ h => h) (Or.inl ⟨by rfl, ?_⟩) (by assumption) ?_
   ·intro wq hSw; (try dsimp only at hSw); go_simp
   try simp only [Act.put, q1, q2, q3]
   refine wpAnyH_take (i := 16) (oi := { dst := some 35, op := Op.load 45 (Operand.tmp 34), type := 45, pos := "l3_tree.go:244", after := #[{ on := 15, ground := Ground.data }], guard := none }) (v := .slice oa on oc) rfl (by kernel_rfl) (by kernel_rfl) (by kernel_rfl) (fun _ _ _ h => h) (Or.inl ⟨by rfl, ?_⟩) (by assumption) ?_
   ·intro wq hSw; (try dsimp only at hSw); obtain ⟨y0, y1, y2, y3, y4, y5⟩ := box6g hSw; go_simp
   try simp only [Act.put, q1, q2, q3]
   refine wpAnyH_take (i := 19) (oi := { dst := some 38, op := Op.fieldAddr 81 (Operand.tmp 5) 5, type := 0, pos := "l3_tree.go:244", after := #[], guard := none }) (v := .pointer (some ⟨wr.heap.size, 5, none⟩)) rfl (by kernel_rfl) (by kernel_rfl) (by kernel_rfl) (fun _ _ _ h => h) (Or.inl ⟨by rfl, ?_⟩) (by assumption) ?_
   ·intro wq hSw; (try dsimp only at hSw); go_simp
   try simp only [Act.put, q1, q2, q3]
   refine wpAnyH_take (i := 20) (oi := { dst := some 39, op := Op.load 45 (Operand.tmp 38), type := 45, pos := "l3_tree.go:244", after := #[{ on := 19, ground := Ground.data }], guard := none }) (v := .slice ya yn yc) rfl (by kernel_rfl) (by kernel_rfl) (by kernel_rfl) (fun _ _ _ h => h) (Or.inl ⟨by rfl, ?_⟩) (by assumption) ?_
   ·intro wq hSw; (try dsimp only at hSw); obtain ⟨y0, y1, y2, y3, y4, y5⟩ := box6g hSw; go_simp
   try simp only [Act.put, q1, q2, q3]
   refine wpAnyH_cast (ops' := copyOps) (l' := copyL 0 0 0 0 0) (fuel' := 9 + 5) (by kernel_rfl) (by kernel_rfl) rfl ?_
   refine copy_walk (SZ := 46) (M := wr.heap.size + 1) (R := N + 2) (Wd := (wr.alloc (.cells #[.bool lf, .int .i64 pg, .slice ka kn kc, .slice va vn vc, .slice oa on oc, .slice ya yn yc] 81)).drew) (by show _ ≤ (wr.alloc (.cells #[.bool lf, .int .i64 pg, .slice ka kn kc, .slice va vn vc, .slice oa on oc, .slice ya yn yc] 81)).heap.size; omega) (fun w' hf => (HF.out w' hf).1) (by omega) (fun j => if j = 0 then .slice ka kn kc else if j = 1 then .slice va vn vc else if j = 2 then .slice oa on oc else .slice ya yn yc) (fun j' => if j' = 0 then rowsOf strCells (ts.getD j dT).keys else if j' = 1 then rowsOf strCells (ts.getD j dT).vals else if j' = 2 then rowsOf intCells (ts.getD j dT).over else rowsOf intCells (ts.getD j dT).kids) (fun j => if j = 0 then kn else if j = 1 then vn else if j = 2 then on else yn) [(0, .agg #[.slice (some ⟨ba, off, none⟩) n c]), (1, .pointer (some ⟨N, 0, none⟩)), (2, .pointer (some ⟨N + 1, 0, none⟩)), (3, .pointer (some ⟨N + 2, 0, none⟩)), (4, .int .i64 j), (19, .pointer (some ⟨N + 2, 0, none⟩)), (22, .bool lf), (24, .int .i64 pg), (27, .slice ka kn kc), (31, .slice va vn vc), (35, .slice oa on oc), (39, .slice ya yn yc), (6, .agg #[.slice none 0 0]), (45, undef)] ?_ ?_ HSA.out (.slice oa' j oc') (by simp) ?_ ?_ 9 0 0 0 0 0 _ _ (by omega) (by omega) (by omega) (by omega) (by omega) rfl rfl ?_
   ·intro x hx
    simp only [List.mem_cons, List.not_mem_nil, or_false] at hx
    rcases hx with rfl | rfl | rfl | rfl | rfl | rfl | rfl | rfl | rfl | rfl | rfl | rfl | rfl | rfl <;> (dsimp only; refine ⟨by omega, fun j hj q h1 h2 => ?_⟩; unfold cda; omega)
   ·intro j' hj'
    have hj4 : j' = 0 ∨ j' = 1 ∨ j' = 2 ∨ j' = 3 := by omega
    rcases hj4 with rfl | rfl | rfl | rfl <;> simp
   ·intro w' hf
    have y2 := cell_one_at (((HF.out w' hf).2 (N + 2) (by omega)).trans kr2)
    go_simp
   ·intro q a1 w1 hq hJ
    have r0 : w1.ownsRow (wr.heap.size + 1) 9 1 (a1.eval (.tmp 28)) kn (rowsOf strCells (ts.getD j dT).keys) := hJ.cur 0 (by omega) (by omega)
    have r1 : w1.ownsRow (wr.heap.size + 1) 9 1 (a1.eval (.tmp 32)) vn (rowsOf strCells (ts.getD j dT).vals) := hJ.cur 1 (by omega) (by omega)
    have r2 : w1.ownsRow (wr.heap.size + 1) 2 1 (a1.eval (.tmp 36)) on (rowsOf intCells (ts.getD j dT).over) := hJ.cur 2 (by omega) (by omega)
    have r3 : w1.ownsRow (wr.heap.size + 1) 2 1 (a1.eval (.tmp 40)) yn (rowsOf intCells (ts.getD j dT).kids) := hJ.cur 3 (by omega) (by omega)
    obtain ⟨u0, v0, u1, v1, u2, v2, u3, v3, e28, e32, e36, e40, hTN⟩ := HNEW.out w1 _ _ _ _ hJ.fr r0 r1 r2 r3
    have HTN : Hid _ := hTN
    have HFR : Hid _ := hJ.fr
    have e0 : a1.eval (.tmp 0) = .agg #[.slice (some ⟨ba, off, none⟩) n c] := hJ.kp (0, .agg #[.slice (some ⟨ba, off, none⟩) n c]) (ckeep_mem (by simp))
    have e1 : a1.eval (.tmp 1) = .pointer (some ⟨N, 0, none⟩) := hJ.kp (1, .pointer (some ⟨N, 0, none⟩)) (ckeep_mem (by simp))
    have e2 : a1.eval (.tmp 2) = .pointer (some ⟨N + 1, 0, none⟩) := hJ.kp (2, .pointer (some ⟨N + 1, 0, none⟩)) (ckeep_mem (by simp))
    have e3 : a1.eval (.tmp 3) = .pointer (some ⟨N + 2, 0, none⟩) := hJ.kp (3, .pointer (some ⟨N + 2, 0, none⟩)) (ckeep_mem (by simp))
    have e4 : a1.eval (.tmp 4) = .int .i64 j := hJ.kp (4, .int .i64 j) (ckeep_mem (by simp))
    have e22 : a1.eval (.tmp 22) = .bool lf := hJ.kp (22, .bool lf) (ckeep_mem (by simp))
    have e24 : a1.eval (.tmp 24) = .int .i64 pg := hJ.kp (24, .int .i64 pg) (ckeep_mem (by simp))
    have e19 : a1.eval (.tmp 19) = .pointer (some ⟨N + 2, 0, none⟩) := hJ.kp (19, .pointer (some ⟨N + 2, 0, none⟩)) (ckeep_mem (by simp))
    have e6 : a1.eval (.tmp 6) = .agg #[.slice none 0 0] := hJ.kp (6, .agg #[.slice none 0 0]) (ckeep_mem (by simp))
    have e45 : a1.eval (.tmp 45) = undef := hJ.kp (45, undef) (ckeep_mem (by simp))
    have e20 : q = 1 → a1.eval (.tmp 20) = .slice oa' j oc' := fun h => hJ.kp (20, .slice oa' j oc') (by subst h; simp [ckeep])
    have hsz := hJ.sz
    have hdf := hJ.df
    have hSw1 := (HF.out w1 hJ.fr).1
    have hE := (HF.out w1 hJ.fr).2
    have hs1 : wr.heap.size + 1 ≤ w1.heap.size := by have h9 := hJ.fr.size; have h8 : (wr.alloc (.cells #[.bool lf, .int .i64 pg, .slice ka kn kc, .slice va vn vc, .slice oa on oc, .slice ya yn yc] 81)).drew.heap.size = (wr.alloc (.cells #[.bool lf, .int .i64 pg, .slice ka kn kc, .slice va vn vc, .slice oa on oc, .slice ya yn yc] 81)).heap.size := rfl; omega
    clear hJ r0 r1 r2 r3 HNEW HSA hTN
    obtain ⟨t0, t1, t2, t3, t4, t5, t6, t7, t8, t9, t10, t11, t12, t13, t14, t15, t16, t17, t18, t19, t20, t21, t22, t23, t24, t25, t26, t27, t28, t29, t30, t31, t32, t33, t34, t35, t36, t37, t38, t39, t40, t41, t42, t43, t44, t45, hA⟩ := arr46 a1.tmps hsz
    obtain ⟨tm, df⟩ := a1
    dsimp only at hA hdf hsz
    subst hA hdf
    have g0 : t0 = _ := e0
    have g1 : t1 = _ := e1
    have g2 : t2 = _ := e2
    have g3 : t3 = _ := e3
    have g4 : t4 = _ := e4
    have g6 : t6 = _ := e6
    have g45 : t45 = _ := e45
    have g19 : t19 = _ := e19
    have g22 : t22 = _ := e22
    have g24 : t24 = _ := e24
    have g28 : t28 = _ := e28
    have g32 : t32 = _ := e32
    have g36 : t36 = _ := e36
    have g40 : t40 = _ := e40
    have g20 : q = 1 → t20 = _ := e20
    clear e0 e1 e2 e3 e4 e6 e45 e19 e22 e24 e28 e32 e36 e40 e20 hsz
    subst g0 g1 g2 g3 g4 g6 g45 g19 g22 g24 g28 g32 g36 g40
    have kN := heap_alloc_new w1 (.cells #[.bool lf, .int .i64 pg, .slice u0 kn v0, .slice u1 vn v1, .slice u2 on v2, .slice u3 yn v3] 81)
    have hbN := (Below.refl w1.heap.size w1).alloc (Nat.le_refl _) (.cells #[.bool lf, .int .i64 pg, .slice u0 kn v0, .slice u1 vn v1, .slice u2 on v2, .slice u3 yn v3] 81)
    have sN : (w1.alloc (.cells #[.bool lf, .int .i64 pg, .slice u0 kn v0, .slice u1 vn v1, .slice u2 on v2, .slice u3 yn v3] 81)).heap.size = w1.heap.size + 1 := by simp
    have hSU : (w1.alloc (.cells #[.bool lf, .int .i64 pg, .slice u0 kn v0, .slice u1 vn v1, .slice u2 on v2, .slice u3 yn v3] 81)).heap[wr.heap.size]? = some (.cells #[.bool lf, .int .i64 pg, .slice ka kn kc, .slice va vn vc, .slice oa on oc, .slice ya yn yc] 81) := (hbN.block _ (by omega)).trans hSw1
    have rowU : (w1.alloc (.cells #[.bool lf, .int .i64 pg, .slice u0 kn v0, .slice u1 vn v1, .slice u2 on v2, .slice u3 yn v3] 81)).ownsRow (N + 3) 81 6 (.slice oa' j oc') j (rowsC css j) := owns_keepG HI.out.row (fun g hg => (hbN.block g (by have := (HI.out.row.lt g hg).2; omega)).trans (hE g (HI.out.row.lt g hg).2))
    have srcU := src_one6 kN (by simp [Value.oneCell'])
    have HSTEP : Hid (∀ (w5 : World) (x5 : Option Addr) (y5 : Nat), w5.ownsRow (N + 3) 81 6 (.slice x5 (j + 1) y5) (j + 1) (rowsC css j ++ [.bool lf, .int .i64 pg, .slice u0 kn v0, .slice u1 vn v1, .slice u2 on v2, .slice u3 yn v3]) → (w1.alloc (.cells #[.bool lf, .int .i64 pg, .slice u0 kn v0, .slice u1 vn v1, .slice u2 on v2, .slice u3 yn v3] 81)).grownBy w5 (Value.slice oa' j oc').ownBlock → ((Value.slice x5 (j + 1) y5).ownBlock = (Value.slice oa' j oc').ownBlock ∨ ∀ g, (Value.slice x5 (j + 1) y5).ownBlock = some g → (w1.alloc (.cells #[.bool lf, .int .i64 pg, .slice u0 kn v0, .slice u1 vn v1, .slice u2 on v2, .slice u3 yn v3] 81)).heap.size ≤ g) → CI w (w5.setCell ⟨N + 2, 0, none⟩ (.slice x5 (j + 1) y5)) N _ n c ts (j + 1) x5 y5 (fun i => if i < j then css i else [.bool lf, .int .i64 pg, .slice u0 kn v0, .slice u1 vn v1, .slice u2 on v2, .slice u3 yn v3])) := fun w5 x5 y5 g1 g2 g3 => ci_step HI.out HFR.out HTN.out g1 g2 g3
    have o0 : ∀ g, (Value.slice oa' j oc').ownBlock = some g → N + 3 ≤ g ∧ g < wr.heap.size := fun g hg => HI.out.row.lt g hg
    have kU2 : (w1.alloc (.cells #[.bool lf, .int .i64 pg, .slice u0 kn v0, .slice u1 vn v1, .slice u2 on v2, .slice u3 yn v3] 81)).heap[N + 2]? = some (.cells #[.slice oa' j oc'] 28) := (hbN.block _ (by omega)).trans ((hE _ (by omega)).trans kr2)
    have k12 : w1.heap[N + 2]? = some (.cells #[.slice oa' j oc'] 28) := (hE _ (by omega)).trans kr2
    have hq2 : q = 0 ∨ q = 1 := by omega
    rcases hq2 with rfl | rfl
    ·clear g20
     refine wpAnyH_take (i := 22) (oi := { dst := some 41, op := Op.build 81 #[(0, Operand.tmp 22), (1, Operand.tmp 24), (2, Operand.tmp 28), (3, Operand.tmp 32), (4, Operand.tmp 36), (5, Operand.tmp 40)], type := 81, pos := "l3_tree.go:244", after := #[{ on := 3, ground := Ground.data }, { on := 5, ground := Ground.data }, { on := 9, ground := Ground.data }, { on := 13, ground := Ground.data }, { on := 17, ground := Ground.data }, { on := 21, ground := Ground.data }], guard := none }) (v := .agg #[.bool lf, .int .i64 pg, .slice u0 kn v0, .slice u1 vn v1, .slice u2 on v2, .slice u3 yn v3]) rfl (by kernel_rfl) (by kernel_rfl) (by kernel_rfl) (fun _ _ _ h => h) (Or.inl ⟨by rfl, ?_⟩) hSw1 ?_
     ·intro wq hSw; go_simp
     try simp only [Act.put, q1, q2, q3]
     have hL1 := cell_one_at k12
     have hLU := cell_one_at kU2
     refine wpAnyH_ready (rs := [1, 23]) (by kernel_rfl) (by simp) ?_
     refine AllReadyH.cons (o := { dst := some 20, op := Op.load 26 (Operand.tmp 19), type := 26, pos := "l3_tree.go:244", after := #[{ on := 0, ground := Ground.data }], guard := none }) rfl (fun K hK => ?_) ?_
     rotate_left 1
     refine AllReadyH.cons (o := { dst := some 42, op := Op.buildSlice 26 1 #[(0, Operand.tmp 41)], type := 26, pos := "l3_tree.go:244", after := #[{ on := 22, ground := Ground.data }], guard := none }) rfl (fun K hK => ?_) ?_
     rotate_left 1
     exact AllReadyH.nil
     ·go_simp
      refine hK.out _ _ (hSw1) (fun hHeld => ?_)
      clear hK K
      try simp only [Act.put, q1, q2, q3]
      refine wpAnyH_ready (rs := [23]) (by kernel_rfl) (by simp) ?_
      refine AllReadyH.cons (o := { dst := some 42, op := Op.buildSlice 26 1 #[(0, Operand.tmp 41)], type := 26, pos := "l3_tree.go:244", after := #[{ on := 22, ground := Ground.data }], guard := none }) rfl (fun K hK => ?_) AllReadyH.nil
      go_simp
      refine hK.out _ _ (hSU) (fun hHeld => ?_)
      clear hK K
      try simp only [Act.put, q1, q2, q3]
      refine wpAnyH_ready (rs := [24]) (by kernel_rfl) (by simp) ?_
      refine AllReadyH.cons (o := { dst := some 43, op := Op.call { callee := Callee.builtin Builtin.append, args := #[Operand.tmp 20, Operand.tmp 42], argTypes := #[26, 26] }, type := 26, pos := "l3_tree.go:244", after := #[{ on := 1, ground := Ground.data }, { on := 23, ground := Ground.data }, { on := 21, ground := Ground.chain }], guard := none }) rfl (fun K hK => ?_) AllReadyH.nil
      refine step_append_S rfl _ _ 26 rfl (N + 3) 81 iT _ 6 112 Tryz.underlying26 hiT ht0 ht1 ht2 rfl (by decide) (by decide) _ j (rowsC css j) rfl rowU (by omega) _ (w1.alloc (.cells #[.bool lf, .int .i64 pg, .slice u0 kn v0, .slice u1 vn v1, .slice u2 on v2, .slice u3 yn v3] 81)).heap.size 1 _ rfl srcU (by omega) ?_
      intro v' w5 g1 g2 g3
      obtain ⟨x5, y5, rfl⟩ := own_shape g1
      have hC5 : Hid _ := HSTEP.out w5 x5 y5 g1 g2 g3
      have s5 := g2.size
      have hX5 : w5.heap[wr.heap.size]? = _ := (g2.block _ (by omega) (fun e => by have := o0 _ e.symm; omega)).trans hSU
      have kU5 : w5.heap[N + 2]? = _ := (g2.block _ (by omega) (fun e => by have := o0 _ e.symm; omega)).trans kU2
      clear g1 g2 g3
      refine hK.out _ _ (hX5) (fun hHeld => ?_)
      clear hK K
      try simp only [Act.put, q1, q2, q3]
      refine wpAnyH_take (i := 25) (oi := { dst := some 44, op := Op.fieldAddr 28 (Operand.tmp 3) 0, type := 0, pos := "l3_tree.go:244", after := #[{ on := 0, ground := Ground.phase }, { on := 1, ground := Ground.phase }, { on := 2, ground := Ground.phase }, { on := 3, ground := Ground.phase }, { on := 4, ground := Ground.phase }, { on := 5, ground := Ground.phase }, { on := 6, ground := Ground.phase }, { on := 7, ground := Ground.phase }, { on := 8, ground := Ground.phase }, { on := 9, ground := Ground.phase }, { on := 10, ground := Ground.phase }, { on := 11, ground := Ground.phase }, { on := 12, ground := Ground.phase }, { on := 13, ground := Ground.phase }, { on := 14, ground := Ground.phase }, { on := 15, ground := Ground.phase }, { on := 16, ground := Ground.phase }, { on := 17, ground := Ground.phase }, { on := 18, ground := Ground.phase }, { on := 19, ground := Ground.phase }, { on := 20, ground := Ground.phase }, { on := 21, ground := Ground.phase }, { on := 22, ground := Ground.phase }, { on := 23, ground := Ground.phase }, { on := 24, ground := Ground.phase }], guard := none }) (v := .pointer (some ⟨N + 2, 0, none⟩)) rfl (by kernel_rfl) (by kernel_rfl) (by kernel_rfl) (fun _ _ _ h => h) (Or.inl ⟨by rfl, ?_⟩) hX5 ?_
      ·intro wq hSw; go_simp
      try simp only [Act.put, q1, q2, q3]
      have z5 := cell_one_at kU5
      have f5 := thawT kU5
      have l5 := (Array.getElem?_eq_some_iff.1 kU5).1
      have hst := fr_setT w5 (N + 2) 0 (.slice x5 (j + 1) y5)
      have hXf : (w5.setCell ⟨N + 2, 0, none⟩ (.slice x5 (j + 1) y5)).heap[wr.heap.size]? = _ := (hst.block _ (by omega) (by omega)).trans hX5
      refine wpAnyH_ready (rs := [26]) (by kernel_rfl) (by simp) ?_
      refine AllReadyH.cons (o := { dst := none, op := Op.store 26 (Operand.tmp 44) (Operand.tmp 43), type := 0, pos := "l3_tree.go:244", after := #[{ on := 25, ground := Ground.data }, { on := 24, ground := Ground.data }, { on := 24, ground := Ground.chain }, { on := 0, ground := Ground.phase }, { on := 1, ground := Ground.phase }, { on := 2, ground := Ground.phase }, { on := 3, ground := Ground.phase }, { on := 4, ground := Ground.phase }, { on := 5, ground := Ground.phase }, { on := 6, ground := Ground.phase }, { on := 7, ground := Ground.phase }, { on := 8, ground := Ground.phase }, { on := 9, ground := Ground.phase }, { on := 10, ground := Ground.phase }, { on := 11, ground := Ground.phase }, { on := 12, ground := Ground.phase }, { on := 13, ground := Ground.phase }, { on := 14, ground := Ground.phase }, { on := 15, ground := Ground.phase }, { on := 16, ground := Ground.phase }, { on := 17, ground := Ground.phase }, { on := 18, ground := Ground.phase }, { on := 19, ground := Ground.phase }, { on := 20, ground := Ground.phase }, { on := 21, ground := Ground.phase }, { on := 22, ground := Ground.phase }, { on := 23, ground := Ground.phase }, { on := 24, ground := Ground.phase }], guard := none }) rfl (fun K hK => ?_) AllReadyH.nil
      go_simp
      clear z5 f5 l5
      refine hK.out _ _ (hXf) (fun hHeld => ?_)
      clear hK K
      try simp only [Act.put, q1, q2, q3]
      refine wpAnyH_done (by kernel_rfl) ?_ _
      refine NoPanic.normal ?_
      clear hHeld
      go_wp2_with fail
      go_roundw
      case rel => exact ⟨_, _, _, _, _, _, _, _, _, _, _, _, _, _, _, _, _, _, _, _, _, _, _, _, _, _, _, _, _, _, _, _, _, _, _, _, _, _, _, _, ⟨j + 1, x5, y5, _, by omega, by go_num, hC5.out⟩, rfl⟩
      case measure => simp [intOf]; omega
     ·go_simp
      refine hK.out _ _ (hSU) (fun hHeld => ?_)
      clear hK K
      try simp only [Act.put, q1, q2, q3]
      refine wpAnyH_ready (rs := [1]) (by kernel_rfl) (by simp) ?_
      refine AllReadyH.cons (o := { dst := some 20, op := Op.load 26 (Operand.tmp 19), type := 26, pos := "l3_tree.go:244", after := #[{ on := 0, ground := Ground.data }], guard := none }) rfl (fun K hK => ?_) AllReadyH.nil
      go_simp
      refine hK.out _ _ (hSU) (fun hHeld => ?_)
      clear hK K
      try simp only [Act.put, q1, q2, q3]
      refine wpAnyH_ready (rs := [24]) (by kernel_rfl) (by simp) ?_
      refine AllReadyH.cons (o := { dst := some 43, op := Op.call { callee := Callee.builtin Builtin.append, args := #[Operand.tmp 20, Operand.tmp 42], argTypes := #[26, 26] }, type := 26, pos := "l3_tree.go:244", after := #[{ on := 1, ground := Ground.data }, { on := 23, ground := Ground.data }, { on := 21, ground := Ground.chain }], guard := none }) rfl (fun K hK => ?_) AllReadyH.nil
      refine step_append_S rfl _ _ 26 rfl (N + 3) 81 iT _ 6 112 Tryz.underlying26 hiT ht0 ht1 ht2 rfl (by decide) (by decide) _ j (rowsC css j) rfl rowU (by omega) _ (w1.alloc (.cells #[.bool lf, .int .i64 pg, .slice u0 kn v0, .slice u1 vn v1, .slice u2 on v2, .slice u3 yn v3] 81)).heap.size 1 _ rfl srcU (by omega) ?_
      intro v' w5 g1 g2 g3
      obtain ⟨x5, y5, rfl⟩ := own_shape g1
      have hC5 : Hid _ := HSTEP.out w5 x5 y5 g1 g2 g3
      have s5 := g2.size
      have hX5 : w5.heap[wr.heap.size]? = _ := (g2.block _ (by omega) (fun e => by have := o0 _ e.symm; omega)).trans hSU
      have kU5 : w5.heap[N + 2]? = _ := (g2.block _ (by omega) (fun e => by have := o0 _ e.symm; omega)).trans kU2
      clear g1 g2 g3
      refine hK.out _ _ (hX5) (fun hHeld => ?_)
      clear hK K
      try simp only [Act.put, q1, q2, q3]
      refine wpAnyH_take (i := 25) (oi := { dst := some 44, op := Op.fieldAddr 28 (Operand.tmp 3) 0, type := 0, pos := "l3_tree.go:244", after := #[{ on := 0, ground := Ground.phase }, { on := 1, ground := Ground.phase }, { on := 2, ground := Ground.phase }, { on := 3, ground := Ground.phase }, { on := 4, ground := Ground.phase }, { on := 5, ground := Ground.phase }, { on := 6, ground := Ground.phase }, { on := 7, ground := Ground.phase }, { on := 8, ground := Ground.phase }, { on := 9, ground := Ground.phase }, { on := 10, ground := Ground.phase }, { on := 11, ground := Ground.phase }, { on := 12, ground := Ground.phase }, { on := 13, ground := Ground.phase }, { on := 14, ground := Ground.phase }, { on := 15, ground := Ground.phase }, { on := 16, ground := Ground.phase }, { on := 17, ground := Ground.phase }, { on := 18, ground := Ground.phase }, { on := 19, ground := Ground.phase }, { on := 20, ground := Ground.phase }, { on := 21, ground := Ground.phase }, { on := 22, ground := Ground.phase }, { on := 23, ground := Ground.phase }, { on := 24, ground := Ground.phase }], guard := none }) (v := .pointer (some ⟨N + 2, 0, none⟩)) rfl (by kernel_rfl) (by kernel_rfl) (by kernel_rfl) (fun _ _ _ h => h) (Or.inl ⟨by rfl, ?_⟩) hX5 ?_
      ·intro wq hSw; go_simp
      try simp only [Act.put, q1, q2, q3]
      have z5 := cell_one_at kU5
      have f5 := thawT kU5
      have l5 := (Array.getElem?_eq_some_iff.1 kU5).1
      have hst := fr_setT w5 (N + 2) 0 (.slice x5 (j + 1) y5)
      have hXf : (w5.setCell ⟨N + 2, 0, none⟩ (.slice x5 (j + 1) y5)).heap[wr.heap.size]? = _ := (hst.block _ (by omega) (by omega)).trans hX5
      refine wpAnyH_ready (rs := [26]) (by kernel_rfl) (by simp) ?_
      refine AllReadyH.cons (o := { dst := none, op := Op.store 26 (Operand.tmp 44) (Operand.tmp 43), type := 0, pos := "l3_tree.go:244", after := #[{ on := 25, ground := Ground.data }, { on := 24, ground := Ground.data }, { on := 24, ground := Ground.chain }, { on := 0, ground := Ground.phase }, { on := 1, ground := Ground.phase }, { on := 2, ground := Ground.phase }, { on := 3, ground := Ground.phase }, { on := 4, ground := Ground.phase }, { on := 5, ground := Ground.phase }, { on := 6, ground := Ground.phase }, { on := 7, ground := Ground.phase }, { on := 8, ground := Ground.phase }, { on := 9, ground := Ground.phase }, { on := 10, ground := Ground.phase }, { on := 11, ground := Ground.phase }, { on := 12, ground := Ground.phase }, { on := 13, ground := Ground.phase }, { on := 14, ground := Ground.phase }, { on := 15, ground := Ground.phase }, { on := 16, ground := Ground.phase }, { on := 17, ground := Ground.phase }, { on := 18, ground := Ground.phase }, { on := 19, ground := Ground.phase }, { on := 20, ground := Ground.phase }, { on := 21, ground := Ground.phase }, { on := 22, ground := Ground.phase }, { on := 23, ground := Ground.phase }, { on := 24, ground := Ground.phase }], guard := none }) rfl (fun K hK => ?_) AllReadyH.nil
      go_simp
      clear z5 f5 l5
      refine hK.out _ _ (hXf) (fun hHeld => ?_)
      clear hK K
      try simp only [Act.put, q1, q2, q3]
      refine wpAnyH_done (by kernel_rfl) ?_ _
      refine NoPanic.normal ?_
      clear hHeld
      go_wp2_with fail
      go_roundw
      case rel => exact ⟨_, _, _, _, _, _, _, _, _, _, _, _, _, _, _, _, _, _, _, _, _, _, _, _, _, _, _, _, _, _, _, _, _, _, _, _, _, _, _, _, ⟨j + 1, x5, y5, _, by omega, by go_num, hC5.out⟩, rfl⟩
      case measure => simp [intOf]; omega
    ·have g20' := g20 rfl
     clear g20
     subst g20'
     refine wpAnyH_take (i := 22) (oi := { dst := some 41, op := Op.build 81 #[(0, Operand.tmp 22), (1, Operand.tmp 24), (2, Operand.tmp 28), (3, Operand.tmp 32), (4, Operand.tmp 36), (5, Operand.tmp 40)], type := 81, pos := "l3_tree.go:244", after := #[{ on := 3, ground := Ground.data }, { on := 5, ground := Ground.data }, { on := 9, ground := Ground.data }, { on := 13, ground := Ground.data }, { on := 17, ground := Ground.data }, { on := 21, ground := Ground.data }], guard := none }) (v := .agg #[.bool lf, .int .i64 pg, .slice u0 kn v0, .slice u1 vn v1, .slice u2 on v2, .slice u3 yn v3]) rfl (by kernel_rfl) (by kernel_rfl) (by kernel_rfl) (fun _ _ _ h => h) (Or.inl ⟨by rfl, ?_⟩) hSw1 ?_
     ·intro wq hSw; go_simp
     try simp only [Act.put, q1, q2, q3]
     refine wpAnyH_ready (rs := [23]) (by kernel_rfl) (by simp) ?_
     refine AllReadyH.cons (o := { dst := some 42, op := Op.buildSlice 26 1 #[(0, Operand.tmp 41)], type := 26, pos := "l3_tree.go:244", after := #[{ on := 22, ground := Ground.data }], guard := none }) rfl (fun K hK => ?_) AllReadyH.nil
     go_simp
     refine hK.out _ _ (hSU) (fun hHeld => ?_)
     clear hK K
     try simp only [Act.put, q1, q2, q3]
     refine wpAnyH_ready (rs := [24]) (by kernel_rfl) (by simp) ?_
     refine AllReadyH.cons (o := { dst := some 43, op := Op.call { callee := Callee.builtin Builtin.append, args := #[Operand.tmp 20, Operand.tmp 42], argTypes := #[26, 26] }, type := 26, pos := "l3_tree.go:244", after := #[{ on := 1, ground := Ground.data }, { on := 23, ground := Ground.data }, { on := 21, ground := Ground.chain }], guard := none }) rfl (fun K hK => ?_) AllReadyH.nil
     refine step_append_S rfl _ _ 26 rfl (N + 3) 81 iT _ 6 112 Tryz.underlying26 hiT ht0 ht1 ht2 rfl (by decide) (by decide) _ j (rowsC css j) rfl rowU (by omega) _ (w1.alloc (.cells #[.bool lf, .int .i64 pg, .slice u0 kn v0, .slice u1 vn v1, .slice u2 on v2, .slice u3 yn v3] 81)).heap.size 1 _ rfl srcU (by omega) ?_
     intro v' w5 g1 g2 g3
     obtain ⟨x5, y5, rfl⟩ := own_shape g1
     have hC5 : Hid _ := HSTEP.out w5 x5 y5 g1 g2 g3
     have s5 := g2.size
     have hX5 : w5.heap[wr.heap.size]? = _ := (g2.block _ (by omega) (fun e => by have := o0 _ e.symm; omega)).trans hSU
     have kU5 : w5.heap[N + 2]? = _ := (g2.block _ (by omega) (fun e => by have := o0 _ e.symm; omega)).trans kU2
     clear g1 g2 g3
     refine hK.out _ _ (hX5) (fun hHeld => ?_)
     clear hK K
     try simp only [Act.put, q1, q2, q3]
     refine wpAnyH_take (i := 25) (oi := { dst := some 44, op := Op.fieldAddr 28 (Operand.tmp 3) 0, type := 0, pos := "l3_tree.go:244", after := #[{ on := 0, ground := Ground.phase }, { on := 1, ground := Ground.phase }, { on := 2, ground := Ground.phase }, { on := 3, ground := Ground.phase }, { on := 4, ground := Ground.phase }, { on := 5, ground := Ground.phase }, { on := 6, ground := Ground.phase }, { on := 7, ground := Ground.phase }, { on := 8, ground := Ground.phase }, { on := 9, ground := Ground.phase }, { on := 10, ground := Ground.phase }, { on := 11, ground := Ground.phase }, { on := 12, ground := Ground.phase }, { on := 13, ground := Ground.phase }, { on := 14, ground := Ground.phase }, { on := 15, ground := Ground.phase }, { on := 16, ground := Ground.phase }, { on := 17, ground := Ground.phase }, { on := 18, ground := Ground.phase }, { on := 19, ground := Ground.phase }, { on := 20, ground := Ground.phase }, { on := 21, ground := Ground.phase }, { on := 22, ground := Ground.phase }, { on := 23, ground := Ground.phase }, { on := 24, ground := Ground.phase }], guard := none }) (v := .pointer (some ⟨N + 2, 0, none⟩)) rfl (by kernel_rfl) (by kernel_rfl) (by kernel_rfl) (fun _ _ _ h => h) (Or.inl ⟨by rfl, ?_⟩) hX5 ?_
     ·intro wq hSw; go_simp
     try simp only [Act.put, q1, q2, q3]
     have z5 := cell_one_at kU5
     have f5 := thawT kU5
     have l5 := (Array.getElem?_eq_some_iff.1 kU5).1
     have hst := fr_setT w5 (N + 2) 0 (.slice x5 (j + 1) y5)
     have hXf : (w5.setCell ⟨N + 2, 0, none⟩ (.slice x5 (j + 1) y5)).heap[wr.heap.size]? = _ := (hst.block _ (by omega) (by omega)).trans hX5
     refine wpAnyH_ready (rs := [26]) (by kernel_rfl) (by simp) ?_
     refine AllReadyH.cons (o := { dst := none, op := Op.store 26 (Operand.tmp 44) (Operand.tmp 43), type := 0, pos := "l3_tree.go:244", after := #[{ on := 25, ground := Ground.data }, { on := 24, ground := Ground.data }, { on := 24, ground := Ground.chain }, { on := 0, ground := Ground.phase }, { on := 1, ground := Ground.phase }, { on := 2, ground := Ground.phase }, { on := 3, ground := Ground.phase }, { on := 4, ground := Ground.phase }, { on := 5, ground := Ground.phase }, { on := 6, ground := Ground.phase }, { on := 7, ground := Ground.phase }, { on := 8, ground := Ground.phase }, { on := 9, ground := Ground.phase }, { on := 10, ground := Ground.phase }, { on := 11, ground := Ground.phase }, { on := 12, ground := Ground.phase }, { on := 13, ground := Ground.phase }, { on := 14, ground := Ground.phase }, { on := 15, ground := Ground.phase }, { on := 16, ground := Ground.phase }, { on := 17, ground := Ground.phase }, { on := 18, ground := Ground.phase }, { on := 19, ground := Ground.phase }, { on := 20, ground := Ground.phase }, { on := 21, ground := Ground.phase }, { on := 22, ground := Ground.phase }, { on := 23, ground := Ground.phase }, { on := 24, ground := Ground.phase }], guard := none }) rfl (fun K hK => ?_) AllReadyH.nil
     go_simp
     clear z5 f5 l5
     refine hK.out _ _ (hXf) (fun hHeld => ?_)
     clear hK K
     try simp only [Act.put, q1, q2, q3]
     refine wpAnyH_done (by kernel_rfl) ?_ _
     refine NoPanic.normal ?_
     clear hHeld
     go_wp2_with fail
     go_roundw
     case rel => exact ⟨_, _, _, _, _, _, _, _, _, _, _, _, _, _, _, _, _, _, _, _, _, _, _, _, _, _, _, _, _, _, _, _, _, _, _, _, _, _, _, _, ⟨j + 1, x5, y5, _, by omega, by go_num, hC5.out⟩, rfl⟩
     case measure => simp [intOf]; omega
   ·refine ⟨rfl, rfl, fun x hx => ?_, fun j hj h0 => ?_, fun i j hi hj hne h0 => ?_, Fr.refl _ _⟩
    ·simp only [ckeep, if_true, List.mem_cons, List.not_mem_nil, or_false] at hx
     rcases hx with rfl | rfl | rfl | rfl | rfl | rfl | rfl | rfl | rfl | rfl | rfl | rfl | rfl | rfl <;> rfl
    ·have hj4 : j = 0 ∨ j = 1 ∨ j = 2 ∨ j = 3 := by omega
     rcases hj4 with rfl | rfl | rfl | rfl <;> exact absurd h0 (by decide)
    ·have hj4 : i = 0 ∨ i = 1 ∨ i = 2 ∨ i = 3 := by omega
     rcases hj4 with rfl | rfl | rfl | rfl <;> exact absurd h0 (by decide)
  ·obtain rfl : j = n := by omega
   have f1 := thawT kr1
   have hst := fr_setT wr (N + 1) 0 (.slice oa' j oc')
   have kf : (wr.setCell ⟨N + 1, 0, none⟩ (.slice oa' j oc')).heap[N + 1]? = some (.cells #[.slice oa' j oc'] 28) := by simpa using heap_setT kr1 0 (.slice oa' j oc')
   have HNO : Hid (NodesAt (wr.setCell ⟨N + 1, 0, none⟩ (.slice oa' j oc')) w.heap.size (wr.setCell ⟨N + 1, 0, none⟩ (.slice oa' j oc')).heap.size oa' j oc' ts) := ci_nodes HI.out HT.out.1.1 hst (by omega)
   have HBO : Hid (Below w.heap.size w (wr.setCell ⟨N + 1, 0, none⟩ (.slice oa' j oc'))) := by
    show Below _ _ _
    rw [hN]
    exact HI.out.bel.trans (hst.below (by have := HI.out.bel.size; omega) (fun g e => by omega))
   have l1 : N + 1 < wr.heap.size := by omega
   have l2 : N + 2 < wr.heap.size := by omega
   have zf := cell_one_at kf
   clear hI hst kf
   go_wp2_with fail
   refine bodyPost_ret (v := .agg #[.slice oa' j oc']) (by simp [results, Tryz.results17, go_sem, zf]) rfl ?_
   exact ⟨oa', oc', rfl, HNO.out, HBO.out⟩

end Go.Proofs.YtbgbokgomheodaaGreat
