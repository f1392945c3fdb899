import Derived.Test.YtbgbokgomheodaaGreatGAP
import Derived.Test.YtbgbokgomheodaaGreatGAY
namespace Go.Proofs.YtbgbokgomheodaaGreat
open Go.RowKit
set_option linter.unusedVariables false
set_option linter.unusedSimpArgs false
set_option maxRecDepth 100000
theorem info_tnodeC : (Tryz.prog.info? 81).map (fun i => (i.zero, i.size, i.bytes)) = some (some (.agg #[.bool false, .int .i64 0, .slice none 0 0, .slice none 0 0, .slice none 0 0, .slice none 0 0]), 6, 112) := by kernel_rfl
theorem addr_add (b o k : Nat) : (⟨b, o, none⟩ : Addr).add k = ⟨b, o + k, none⟩ := by simp [Addr.add]
def NodeLen (x : TN) : Prop := x.keys.length ≤ 1048576 ∧ x.vals.length ≤ 1048576 ∧ x.over.length ≤ 1048576 ∧ x.kids.length ≤ 1048576
structure CpSt (w wr : World) (N : Nat) (a : Option Addr) (n c j : Nat) (oa : Option Addr) (oc : Nat) (ts : List TN) (us : Nat → Nat → Value) : Prop where
 b0 : wr.heap[N]? = some (.cells #[.slice a n c] 28)
 b1 : wr.heap[N + 1]? = some (.cells #[.slice none 0 0] 28)
 b2 : wr.heap[N + 2]? = some (.cells #[.slice oa j oc] 28)
 own : OwnT wr (N + 3) (.slice oa j oc) ((ts.take j).map TN.nd) us
 bel : Below N w wr
set_option maxHeartbeats 4000000 in
theorem copyTree_any (ts : List TN) (a : Option Addr) (n c A B : Nat) (w : World) (hB : B ≤ w.heap.size) (hT : NodesAt w A B a n c ts) (hn : n ≤ 1048576) (hb : ∀ x ∈ ts, NodeLen x) :
  Calls Tryz.prog 27 #[.agg #[.slice a n c]] w fun e w' => ∃ oa oc us, e = .returned (.agg #[.slice oa n oc]) ∧ OwnT w' w.heap.size (.slice oa n oc) (ts.map TN.nd) us ∧ Below w.heap.size w w' := by
 obtain ⟨N, hN⟩ : ∃ N, w.heap.size = N := ⟨_, rfl⟩
 obtain ⟨W, hW⟩ : ∃ W, W = ((w.alloc (.cells #[.slice a n c] 28)).alloc (.cells #[.slice none 0 0] 28)).alloc (.cells #[.slice none 0 0] 28) := ⟨_, rfl⟩
 have hbw : Below w.heap.size w W := by rw [hW]; exact (((Below.refl _ _).alloc (Nat.le_refl _) _).alloc (by simp) _).alloc (by simp; omega) _
 have sW : W.heap.size = N + 3 := by rw [hW]; simp [hN]
 have S0 : CpSt w W N a n c 0 none 0 ts (fun _ _ => .slice none 0 0) := by
  have a3 := alloc3 w (.cells #[.slice a n c] 28) (.cells #[.slice none 0 0] 28) (.cells #[.slice none 0 0] 28)
  rw [← hW, hN] at a3
  exact ⟨a3.1, a3.2.1, a3.2.2, by simpa using OwnT.nil W (N + 3) _, by rw [← hN]; exact hbw⟩
 have HT : Hid (∀ wr, Below N w wr → NodesAt wr A B a n c ts) := fun wr h => hT.below (h.mono (by omega))
 have HL : Hid (ts.length = n) := hT.1
 have HNB : Hid (∀ x ∈ ts, NodeLen x) := hb
 have hnm := hn
 obtain ⟨i0, hi0, hz0, hz1, hz2⟩ := info_parts info_tnodeC
 clear hT hb hbw
 go_enter Tryz.func27, Tryz.ntmps27
 go_upto_region 2 with fail
 rw [← hW]
 clear hW
 have x0 : W.cell? ⟨N, 0, none⟩ = some (.slice a n c) := by simp [World.cell?, S0.b0]
 have l0 : N < W.heap.size := by omega
 go_wp2_with fail
 clear x0 l0
 go_loopw [9] (fun iv wr => ∃ (j : Nat) (oa : Option Addr) (oc : Nat) (us : Nat → Nat → Value), j ≤ n ∧ iv = .int .i64 j ∧ CpSt w wr N a n c j oa oc ts us) (fun iv _ => n - (intOf iv).toNat)
 case atStart => exact ⟨0, none, 0, _, Nat.zero_le _, rfl, S0⟩
 case round =>
  clear S0
  obtain ⟨j, oa, oc, us, hj, rfl, S⟩ := hrel
  by_cases hlt : j < n
  ·obtain ⟨b, off, rfl, hbB, ka, kn, kc, va, vn, vc, pa, pn, pc, ya, yn, yc, hX⟩ := (HT.out wr S.bel).at hlt
   have HX : Hid _ := hX
   obtain ⟨c0, c1, c2, c3, c4, c5, _, _, _, _, _⟩ := hX
   obtain ⟨lf, hlf⟩ : ∃ lf, (ts.getD j dT).leaf = lf := ⟨_, rfl⟩
   obtain ⟨pg, hpg⟩ : ∃ pg, (ts.getD j dT).page = pg := ⟨_, rfl⟩
   have HLP : Hid ((ts.getD j dT).leaf = lf ∧ (ts.getD j dT).page = pg) := ⟨hlf, hpg⟩
   rw [hlf] at c0
   rw [hpg] at c1
   clear hlf hpg
   have hbl : b < wr.heap.size := lt_of_cellG c0
   have HNL : Hid (NodeLen (ts.getD j dT)) := HNB.out _ (by
    have hj2 : j < ts.length := by have := HL.out; omega
    have : ts.getD j dT = ts[j] := by simp [List.getD, hj2]
    rw [this]; exact List.getElem_mem _)
   obtain ⟨X, hXs⟩ : ∃ X, wr.heap.size = X := ⟨_, rfl⟩
   have sN : N + 3 ≤ X := by have := (Array.getElem?_eq_some_iff.1 S.b2).1; omega
   have bx0 : (wr.alloc (.cells #[.bool lf, .int .i64 pg, .slice ka kn kc, .slice va vn vc, .slice pa pn pc, .slice ya yn yc] 81)).heap[X]? = some (.cells #[.bool lf, .int .i64 pg, .slice ka kn kc, .slice va vn vc, .slice pa pn pc, .slice ya yn yc] 81) := by rw [← hXs]; exact heap_alloc_new wr _
   have bv0 : Below X wr (wr.alloc (.cells #[.bool lf, .int .i64 pg, .slice ka kn kc, .slice va vn vc, .slice pa pn pc, .slice ya yn yc] 81)) := by rw [← hXs]; exact (Below.refl _ _).alloc (Nat.le_refl _) _
   have ll0 := LL.nil (wr.alloc (.cells #[.bool lf, .int .i64 pg, .slice ka kn kc, .slice va vn vc, .slice pa pn pc, .slice ya yn yc] 81)) (X + 1)
   obtain ⟨UQ0, hUQ0⟩ : ∃ f : Nat → Value, f = fun _ => .slice none 0 0 := ⟨_, rfl⟩
   obtain ⟨LQ0, hLQ0⟩ : ∃ f : Nat → List Value, f = fun _ => [] := ⟨_, rfl⟩
   rw [← hUQ0, ← hLQ0] at ll0
   have HU0 : Hid (UQ0 = (fun _ => .slice none 0 0) ∧ LQ0 = fun _ => []) := ⟨hUQ0, hLQ0⟩
   have HS : Hid (CpSt w wr N (some ⟨b, off, none⟩) n c j oa oc ts us) := S
   clear S hUQ0 hLQ0
   go_upto_region 5 with fail
   generalize wr.alloc (.cells #[.bool lf, .int .i64 pg, .slice ka kn kc, .slice va vn vc, .slice pa pn pc, .slice ya yn yc] 81) = V0 at *
   clear c0 c1 c2 c3 c4 c5
   obtain ⟨y0, y1, y2, y3, y4, y5⟩ := box6g bx0
   have ff0 := thawT bx0
   have lx0 : X < V0.heap.size := (Array.getElem?_eq_some_iff.1 bx0).1
   have hcr0 := rowsAt_cells sc1 (HX.out.keys.keep (.of_below (bv0.mono (by omega)))) (show B ≤ V0.heap.size by omega)
   have hcl0 := cloneStr_any ka kn kc (rowsOf strCells (ts.getD j dT).keys) V0 hcr0.1 (by rw [← hcr0.1, rowsOf_length sc1]; have := HNL.out; unfold NodeLen at this; omega) hcr0.2.1 (strs_one _) hcr0.2.2
   clear hcr0
   go_wp2_with fail
   refine hcl0.mono ?_
   rintro e Z0 ⟨u0, rfl, hr0, hbz0⟩
   obtain ⟨a0, d0, rfl⟩ := own_shape hr0
   have sz0 := hbz0.size
   have bz0 := (hbz0.block X (by omega)).trans bx0
   obtain ⟨x0, x1, x2, x3, x4, x5⟩ := box6g bz0
   have fz0 := thawT bz0
   have lz0 : X < Z0.heap.size := by omega
   have hst0 := fr_setT Z0 X 2 (.slice a0 kn d0)
   have bx1 : (Z0.setCell ⟨X, 2, none⟩ (.slice a0 kn d0)).heap[X]? = some (.cells #[.bool lf, .int .i64 pg, .slice a0 kn d0, .slice va vn vc, .slice pa pn pc, .slice ya yn yc] 81) := by simpa using heap_setT bz0 2 (.slice a0 kn d0)
   have ll1 : LL (Z0.setCell ⟨X, 2, none⟩ (.slice a0 kn d0)) (X + 1) (fun r => if r = 0 then .slice a0 kn d0 else UQ0 r) (fun r => if r = 0 then rowsOf strCells (ts.getD j dT).keys else LQ0 r) := by
    have hrX : Z0.ownsRow (X + 1) (ety 0) 1 (.slice a0 kn d0) (rowsOf strCells (ts.getD j dT).keys).length (rowsOf strCells (ts.getD j dT).keys) := by
     have h9 := hr0.1
     rw [Nat.mul_one] at h9
     rw [h9]
     exact own_lowerT hr0 (by omega)
    refine (ll0.app (q := 0) (by omega) hrX (growOf (g := 0) hbz0 _) (.inr (fun g hg => (hr0.lt g hg).1))).fr hst0 (fun g h1 h2 e => by omega)
   have bv1 : Below X wr (Z0.setCell ⟨X, 2, none⟩ (.slice a0 kn d0)) := (bv0.trans (hbz0.mono (by omega))).trans (hst0.below (by omega) (fun g e => by omega))
   have sv1 : (Z0.setCell ⟨X, 2, none⟩ (.slice a0 kn d0)).heap.size = Z0.heap.size := by simp [World.setCell]
   have si1 : Z0.heap.size ≤ (Z0.setCell ⟨X, 2, none⟩ (.slice a0 kn d0)).heap.size ∧ (Z0.setCell ⟨X, 2, none⟩ (.slice a0 kn d0)).heap.size ≤ Z0.heap.size := by omega
   clear sv1
   go_upto_region 6 with fail
   generalize Z0.setCell ⟨X, 2, none⟩ (.slice a0 kn d0) = V1 at *
   obtain ⟨UQ1, hUQ1⟩ : ∃ f, f = (fun r => if r = 0 then Value.slice a0 kn d0 else UQ0 r) := ⟨_, rfl⟩
   obtain ⟨LQ1, hLQ1⟩ : ∃ f, f = (fun r => if r = 0 then rowsOf strCells (ts.getD j dT).keys else LQ0 r) := ⟨_, rfl⟩
   rw [← hUQ1, ← hLQ1] at ll1
   have HU1 : Hid (UQ1 = (fun r => if r = 0 then Value.slice a0 kn d0 else UQ0 r) ∧ LQ1 = (fun r => if r = 0 then rowsOf strCells (ts.getD j dT).keys else LQ0 r)) := ⟨hUQ1, hLQ1⟩
   clear hUQ1 hLQ1 hcl0 hr0 hbz0 bz0 hst0 ll0 bx0 bv0 ff0 fz0 y0 y1 y2 y3 y4 y5 x0 x1 x2 x3 x4 x5
   obtain ⟨y0, y1, y2, y3, y4, y5⟩ := box6g bx1
   have ff1 := thawT bx1
   have lx1 : X < V1.heap.size := (Array.getElem?_eq_some_iff.1 bx1).1
   have hcr1 := rowsAt_cells sc1 (HX.out.vals.keep (.of_below (bv1.mono (by omega)))) (show B ≤ V1.heap.size by omega)
   have hcl1 := cloneStr_any va vn vc (rowsOf strCells (ts.getD j dT).vals) V1 hcr1.1 (by rw [← hcr1.1, rowsOf_length sc1]; have := HNL.out; unfold NodeLen at this; omega) hcr1.2.1 (strs_one _) hcr1.2.2
   clear hcr1
   go_wp2_with fail
   refine hcl1.mono ?_
   rintro e Z1 ⟨u1, rfl, hr1, hbz1⟩
   obtain ⟨a1, d1, rfl⟩ := own_shape hr1
   have sz1 := hbz1.size
   have bz1 := (hbz1.block X (by omega)).trans bx1
   obtain ⟨x0, x1, x2, x3, x4, x5⟩ := box6g bz1
   have fz1 := thawT bz1
   have lz1 : X < Z1.heap.size := by omega
   have hst1 := fr_setT Z1 X 3 (.slice a1 vn d1)
   have bx2 : (Z1.setCell ⟨X, 3, none⟩ (.slice a1 vn d1)).heap[X]? = some (.cells #[.bool lf, .int .i64 pg, .slice a0 kn d0, .slice a1 vn d1, .slice pa pn pc, .slice ya yn yc] 81) := by simpa using heap_setT bz1 3 (.slice a1 vn d1)
   have ll2 : LL (Z1.setCell ⟨X, 3, none⟩ (.slice a1 vn d1)) (X + 1) (fun r => if r = 1 then .slice a1 vn d1 else UQ1 r) (fun r => if r = 1 then rowsOf strCells (ts.getD j dT).vals else LQ1 r) := by
    have hrX : Z1.ownsRow (X + 1) (ety 1) 1 (.slice a1 vn d1) (rowsOf strCells (ts.getD j dT).vals).length (rowsOf strCells (ts.getD j dT).vals) := by
     have h9 := hr1.1
     rw [Nat.mul_one] at h9
     rw [h9]
     exact own_lowerT hr1 (by omega)
    refine (ll1.app (q := 1) (by omega) hrX (growOf (g := 0) hbz1 _) (.inr (fun g hg => (hr1.lt g hg).1))).fr hst1 (fun g h1 h2 e => by omega)
   have bv2 : Below X wr (Z1.setCell ⟨X, 3, none⟩ (.slice a1 vn d1)) := (bv1.trans (hbz1.mono (by omega))).trans (hst1.below (by omega) (fun g e => by omega))
   have sv2 : (Z1.setCell ⟨X, 3, none⟩ (.slice a1 vn d1)).heap.size = Z1.heap.size := by simp [World.setCell]
   have si2 : Z1.heap.size ≤ (Z1.setCell ⟨X, 3, none⟩ (.slice a1 vn d1)).heap.size ∧ (Z1.setCell ⟨X, 3, none⟩ (.slice a1 vn d1)).heap.size ≤ Z1.heap.size := by omega
   clear sv2
   go_upto_region 7 with fail
   generalize Z1.setCell ⟨X, 3, none⟩ (.slice a1 vn d1) = V2 at *
   obtain ⟨UQ2, hUQ2⟩ : ∃ f, f = (fun r => if r = 1 then Value.slice a1 vn d1 else UQ1 r) := ⟨_, rfl⟩
   obtain ⟨LQ2, hLQ2⟩ : ∃ f, f = (fun r => if r = 1 then rowsOf strCells (ts.getD j dT).vals else LQ1 r) := ⟨_, rfl⟩
   rw [← hUQ2, ← hLQ2] at ll2
   have HU2 : Hid (UQ2 = (fun r => if r = 1 then Value.slice a1 vn d1 else UQ1 r) ∧ LQ2 = (fun r => if r = 1 then rowsOf strCells (ts.getD j dT).vals else LQ1 r)) := ⟨hUQ2, hLQ2⟩
   clear hUQ2 hLQ2 hcl1 hr1 hbz1 bz1 hst1 ll1 bx1 bv1 ff1 fz1 y0 y1 y2 y3 y4 y5 x0 x1 x2 x3 x4 x5
   obtain ⟨y0, y1, y2, y3, y4, y5⟩ := box6g bx2
   have ff2 := thawT bx2
   have lx2 : X < V2.heap.size := (Array.getElem?_eq_some_iff.1 bx2).1
   have hcr2 := rowsAt_cells ic1 (HX.out.over.keep (.of_below (bv2.mono (by omega)))) (show B ≤ V2.heap.size by omega)
   have hcl2 := cloneInt_any pa pn pc (rowsOf intCells (ts.getD j dT).over) V2 hcr2.1 (by rw [← hcr2.1, rowsOf_length ic1]; have := HNL.out; unfold NodeLen at this; omega) hcr2.2.1 (ints_one _) hcr2.2.2
   clear hcr2
   go_wp2_with fail
   refine hcl2.mono ?_
   rintro e Z2 ⟨u2, rfl, hr2, hbz2⟩
   obtain ⟨a2, d2, rfl⟩ := own_shape hr2
   have sz2 := hbz2.size
   have bz2 := (hbz2.block X (by omega)).trans bx2
   obtain ⟨x0, x1, x2, x3, x4, x5⟩ := box6g bz2
   have fz2 := thawT bz2
   have lz2 : X < Z2.heap.size := by omega
   have hst2 := fr_setT Z2 X 4 (.slice a2 pn d2)
   have bx3 : (Z2.setCell ⟨X, 4, none⟩ (.slice a2 pn d2)).heap[X]? = some (.cells #[.bool lf, .int .i64 pg, .slice a0 kn d0, .slice a1 vn d1, .slice a2 pn d2, .slice ya yn yc] 81) := by simpa using heap_setT bz2 4 (.slice a2 pn d2)
   have ll3 : LL (Z2.setCell ⟨X, 4, none⟩ (.slice a2 pn d2)) (X + 1) (fun r => if r = 2 then .slice a2 pn d2 else UQ2 r) (fun r => if r = 2 then rowsOf intCells (ts.getD j dT).over else LQ2 r) := by
    have hrX : Z2.ownsRow (X + 1) (ety 2) 1 (.slice a2 pn d2) (rowsOf intCells (ts.getD j dT).over).length (rowsOf intCells (ts.getD j dT).over) := by
     have h9 := hr2.1
     rw [Nat.mul_one] at h9
     rw [h9]
     exact own_lowerT hr2 (by omega)
    refine (ll2.app (q := 2) (by omega) hrX (growOf (g := 0) hbz2 _) (.inr (fun g hg => (hr2.lt g hg).1))).fr hst2 (fun g h1 h2 e => by omega)
   have bv3 : Below X wr (Z2.setCell ⟨X, 4, none⟩ (.slice a2 pn d2)) := (bv2.trans (hbz2.mono (by omega))).trans (hst2.below (by omega) (fun g e => by omega))
   have sv3 : (Z2.setCell ⟨X, 4, none⟩ (.slice a2 pn d2)).heap.size = Z2.heap.size := by simp [World.setCell]
   have si3 : Z2.heap.size ≤ (Z2.setCell ⟨X, 4, none⟩ (.slice a2 pn d2)).heap.size ∧ (Z2.setCell ⟨X, 4, none⟩ (.slice a2 pn d2)).heap.size ≤ Z2.heap.size := by omega
   clear sv3
   go_upto_region 8 with fail
   generalize Z2.setCell ⟨X, 4, none⟩ (.slice a2 pn d2) = V3 at *
   obtain ⟨UQ3, hUQ3⟩ : ∃ f, f = (fun r => if r = 2 then Value.slice a2 pn d2 else UQ2 r) := ⟨_, rfl⟩
   obtain ⟨LQ3, hLQ3⟩ : ∃ f, f = (fun r => if r = 2 then rowsOf intCells (ts.getD j dT).over else LQ2 r) := ⟨_, rfl⟩
   rw [← hUQ3, ← hLQ3] at ll3
   have HU3 : Hid (UQ3 = (fun r => if r = 2 then Value.slice a2 pn d2 else UQ2 r) ∧ LQ3 = (fun r => if r = 2 then rowsOf intCells (ts.getD j dT).over else LQ2 r)) := ⟨hUQ3, hLQ3⟩
   clear hUQ3 hLQ3 hcl2 hr2 hbz2 bz2 hst2 ll2 bx2 bv2 ff2 fz2 y0 y1 y2 y3 y4 y5 x0 x1 x2 x3 x4 x5
   obtain ⟨y0, y1, y2, y3, y4, y5⟩ := box6g bx3
   have ff3 := thawT bx3
   have lx3 : X < V3.heap.size := (Array.getElem?_eq_some_iff.1 bx3).1
   have hcr3 := rowsAt_cells ic1 (HX.out.kids.keep (.of_below (bv3.mono (by omega)))) (show B ≤ V3.heap.size by omega)
   have hcl3 := cloneInt_any ya yn yc (rowsOf intCells (ts.getD j dT).kids) V3 hcr3.1 (by rw [← hcr3.1, rowsOf_length ic1]; have := HNL.out; unfold NodeLen at this; omega) hcr3.2.1 (ints_one _) hcr3.2.2
   clear hcr3
   go_wp2_with fail
   refine hcl3.mono ?_
   rintro e Z3 ⟨u3, rfl, hr3, hbz3⟩
   obtain ⟨a3, d3, rfl⟩ := own_shape hr3
   have sz3 := hbz3.size
   have bz3 := (hbz3.block X (by omega)).trans bx3
   obtain ⟨x0, x1, x2, x3, x4, x5⟩ := box6g bz3
   have fz3 := thawT bz3
   have lz3 : X < Z3.heap.size := by omega
   have hst3 := fr_setT Z3 X 5 (.slice a3 yn d3)
   have bx4 : (Z3.setCell ⟨X, 5, none⟩ (.slice a3 yn d3)).heap[X]? = some (.cells #[.bool lf, .int .i64 pg, .slice a0 kn d0, .slice a1 vn d1, .slice a2 pn d2, .slice a3 yn d3] 81) := by simpa using heap_setT bz3 5 (.slice a3 yn d3)
   have ll4 : LL (Z3.setCell ⟨X, 5, none⟩ (.slice a3 yn d3)) (X + 1) (fun r => if r = 3 then .slice a3 yn d3 else UQ3 r) (fun r => if r = 3 then rowsOf intCells (ts.getD j dT).kids else LQ3 r) := by
    have hrX : Z3.ownsRow (X + 1) (ety 3) 1 (.slice a3 yn d3) (rowsOf intCells (ts.getD j dT).kids).length (rowsOf intCells (ts.getD j dT).kids) := by
     have h9 := hr3.1
     rw [Nat.mul_one] at h9
     rw [h9]
     exact own_lowerT hr3 (by omega)
    refine (ll3.app (q := 3) (by omega) hrX (growOf (g := 0) hbz3 _) (.inr (fun g hg => (hr3.lt g hg).1))).fr hst3 (fun g h1 h2 e => by omega)
   have bv4 : Below X wr (Z3.setCell ⟨X, 5, none⟩ (.slice a3 yn d3)) := (bv3.trans (hbz3.mono (by omega))).trans (hst3.below (by omega) (fun g e => by omega))
   have sv4 : (Z3.setCell ⟨X, 5, none⟩ (.slice a3 yn d3)).heap.size = Z3.heap.size := by simp [World.setCell]
   have si4 : Z3.heap.size ≤ (Z3.setCell ⟨X, 5, none⟩ (.slice a3 yn d3)).heap.size ∧ (Z3.setCell ⟨X, 5, none⟩ (.slice a3 yn d3)).heap.size ≤ Z3.heap.size := by omega
   clear sv4
   go_upto_region 9 with fail
   generalize Z3.setCell ⟨X, 5, none⟩ (.slice a3 yn d3) = V4 at *
   obtain ⟨UQ4, hUQ4⟩ : ∃ f, f = (fun r => if r = 3 then Value.slice a3 yn d3 else UQ3 r) := ⟨_, rfl⟩
   obtain ⟨LQ4, hLQ4⟩ : ∃ f, f = (fun r => if r = 3 then rowsOf intCells (ts.getD j dT).kids else LQ3 r) := ⟨_, rfl⟩
   rw [← hUQ4, ← hLQ4] at ll4
   have HU4 : Hid (UQ4 = (fun r => if r = 3 then Value.slice a3 yn d3 else UQ3 r) ∧ LQ4 = (fun r => if r = 3 then rowsOf intCells (ts.getD j dT).kids else LQ3 r)) := ⟨hUQ4, hLQ4⟩
   clear hUQ4 hLQ4 hcl3 hr3 hbz3 bz3 hst3 ll3 bx3 bv3 ff3 fz3 y0 y1 y2 y3 y4 y5 x0 x1 x2 x3 x4 x5
   have SW := HS.out
   have lX := (Array.getElem?_eq_some_iff.1 bx4).1
   obtain ⟨y0, y1, y2, y3, y4, y5⟩ := box6g bx4
   have b24 := (bv4.block (N + 2) (by omega)).trans SW.b2
   have z24 : V4.cell? ⟨N + 2, 0, none⟩ = some (.slice oa j oc) := by simp [World.cell?, b24]
   obtain ⟨Y, hY⟩ : ∃ Y, V4.heap.size = Y := ⟨_, rfl⟩
   have ab : Below V4.heap.size V4 (V4.alloc (.cells #[.bool lf, .int .i64 pg, .slice a0 kn d0, .slice a1 vn d1, .slice a2 pn d2, .slice a3 yn d3] 81)) := (Below.refl _ _).alloc (Nat.le_refl _) _
   have kA := heap_alloc_new V4 (.cells #[.bool lf, .int .i64 pg, .slice a0 kn d0, .slice a1 vn d1, .slice a2 pn d2, .slice a3 yn d3] 81)
   rw [hY] at kA
   have sA : (V4.alloc (.cells #[.bool lf, .int .i64 pg, .slice a0 kn d0, .slice a1 vn d1, .slice a2 pn d2, .slice a3 yn d3] 81)).heap.size = Y + 1 := by simp [hY]
   have hcells : ∀ k u, [Value.bool lf, .int .i64 pg, .slice a0 kn d0, .slice a1 vn d1, .slice a2 pn d2, .slice a3 yn d3][k]? = some u → (V4.alloc (.cells #[.bool lf, .int .i64 pg, .slice a0 kn d0, .slice a1 vn d1, .slice a2 pn d2, .slice a3 yn d3] 81)).cell? ((⟨Y, 0, none⟩ : Addr).add k) = some u := fun k u hk => by
    rw [addr_add Y 0 k, Nat.zero_add]
    simp only [World.cell?, kA]
    simpa using hk
   have llA := ll4.below ab
   have hlen : ((ts.take j).map TN.nd).length = j := by rw [List.length_map, List.length_take]; have := HL.out; omega
   have oA : OwnT (V4.alloc (.cells #[.bool lf, .int .i64 pg, .slice a0 kn d0, .slice a1 vn d1, .slice a2 pn d2, .slice a3 yn d3] 81)) (N + 3) (.slice oa j oc) ((ts.take j).map TN.nd) us := (SW.own.below (by rw [hXs]; exact bv4)).below ab
   have hrowA := oA.row
   rw [hlen] at hrowA
   have b2A := (ab.block (N + 2) (by omega)).trans b24
   have HPU : Hid (∀ v' w4, w4.ownsRow (N + 3) 81 6 v' (j + 1) (rowsC (fun i => hdC (((ts.take j).map TN.nd).getD i dN) (us i)) j ++ [.bool lf, .int .i64 pg, .slice a0 kn d0, .slice a1 vn d1, .slice a2 pn d2, .slice a3 yn d3]) → (V4.alloc (.cells #[.bool lf, .int .i64 pg, .slice a0 kn d0, .slice a1 vn d1, .slice a2 pn d2, .slice a3 yn d3] 81)).grownBy w4 (Value.slice oa j oc).ownBlock → ∃ oa' oc' us', v' = .slice oa' (j + 1) oc' ∧ w4.heap[N + 2]? = some (.cells #[.slice oa j oc] 28) ∧ CpSt w (w4.setCell ⟨N + 2, 0, none⟩ v') N (some ⟨b, off, none⟩) n c (j + 1) oa' oc' ts us') := by
    intro v' w4 g1 g2
    obtain ⟨oa', oc', rfl⟩ := own_shape g1
    have hUL := HU4.out
    have hU3 := HU3.out
    have hU2 := HU2.out
    have hU1 := HU1.out
    have hU0 := HU0.out
    have hblk : ∀ g, (Value.slice oa j oc).ownBlock = some g → N + 3 ≤ g ∧ g < X := fun g hg => by
     have := SW.own.row.lt g hg
     omega
    have hlow : ∀ k, k < N + 3 → w4.heap[k]? = V4.heap[k]? := fun k hk => (g2.block k (by omega) (fun e => by have := hblk k e.symm; omega)).trans (ab.block k (by omega))
    have hlowr : ∀ k, k < N + 3 → w4.heap[k]? = wr.heap[k]? := fun k hk => (hlow k hk).trans (bv4.block k (by omega))
    have s4 := g2.size
    have hst := fr_setT w4 (N + 2) 0 (.slice oa' (j + 1) oc')
    have hF : Fr (fun g => X ≤ g) wr (V4.alloc (.cells #[.bool lf, .int .i64 pg, .slice a0 kn d0, .slice a1 vn d1, .slice a2 pn d2, .slice a3 yn d3] 81)) := ⟨(ab.os.trans bv4.os), (ab.tape.trans bv4.tape), (ab.output.trans bv4.output), by have := bv4.size; omega, fun k hk hX => (ab.block k (by have := bv4.size; omega)).trans (bv4.block k (by omega))⟩
    have hnd : ∀ r, r < 4 → (TN.nd (ts.getD j dT)).l r = LQ4 r := fun r hr => by
     rw [hUL.2, hU3.2, hU2.2, hU1.2, hU0.2]
     have hr4 : r = 0 ∨ r = 1 ∨ r = 2 ∨ r = 3 := by omega
     rcases hr4 with rfl | rfl | rfl | rfl <;> simp [TN.nd]
    have hpush := SW.own.push (M := X) (w2 := V4.alloc (.cells #[.bool lf, .int .i64 pg, .slice a0 kn d0, .slice a1 vn d1, .slice a2 pn d2, .slice a3 yn d3] 81)) (w3 := w4) (v' := .slice oa' (j + 1) oc') (nd := TN.nd (ts.getD j dT)) (u := UQ4) (fun g hg => by have := (SW.own.blk hg).2; omega) (by omega) hF (fun r hr => by rw [hnd r hr]; exact own_lowerT (llA.row r hr) (by omega)) llA.apart (by
     rw [hlen]
     have e : hdC (TN.nd (ts.getD j dT)) UQ4 = [.bool lf, .int .i64 pg, .slice a0 kn d0, .slice a1 vn d1, .slice a2 pn d2, .slice a3 yn d3] := by
      show [Value.bool (ts.getD j dT).leaf, .int .i64 (ts.getD j dT).page, UQ4 0, UQ4 1, UQ4 2, UQ4 3] = _
      rw [HLP.out.1, HLP.out.2, hUL.1, hU3.1, hU2.1, hU1.1]
      simp
     rw [e]
     exact g1) g2
    have b24' : w4.heap[N + 2]? = some (.cells #[.slice oa j oc] 28) := (hlow (N + 2) (by omega)).trans b24
    refine ⟨oa', oc', (fun i => if i = ((ts.take j).map TN.nd).length then UQ4 else us i), rfl, b24', ⟨(hst.block N (by omega) (by omega)).trans ((hlowr N (by omega)).trans SW.b0), (hst.block (N + 1) (by omega) (by omega)).trans ((hlowr (N + 1) (by omega)).trans SW.b1), by simpa using heap_setT b24' 0 (.slice oa' (j + 1) oc'), ?_, ?_⟩⟩
    ·have hj2 : j < ts.length := by have := HL.out; omega
     have e2 : ts.take (j + 1) = ts.take j ++ [ts.getD j dT] := by
      rw [List.take_succ_eq_append_getElem hj2]
      simp [List.getD, hj2]
     rw [e2, List.map_append]
     exact hpush.fr hst (fun g hg e => by have := (hpush.blk hg).1; omega)
    ·refine SW.bel.trans ⟨(hst.os.trans (g2.os.trans (ab.os.trans bv4.os))), (hst.tape.trans (g2.tape.trans (ab.tape.trans bv4.tape))), (hst.output.trans (g2.output.trans (ab.output.trans bv4.output))), by have := hst.size; have := bv4.size; omega, fun k hk => (hst.block k (by omega) (by omega)).trans (hlowr k (by omega))⟩
   have hNA : N + 3 ≤ (V4.alloc (.cells #[.bool lf, .int .i64 pg, .slice a0 kn d0, .slice a1 vn d1, .slice a2 pn d2, .slice a3 yn d3] 81)).heap.size := by omega
   have l2 : N + 2 < V4.heap.size := by omega
   clear SW llA oA b2A ll4 b24 bx4 ab
   go_wp2_with (at_builtin; refine wpList_append_ownD _ rfl _ _ 26 rfl (N + 3) 81 i0 _ 6 112 Tryz.underlying26 hi0 hz0 hz1 hz2 rfl (by decide) (.slice oa j oc) j _ rfl hrowA ⟨Y, 0, none⟩ 1 1 [.bool lf, .int .i64 pg, .slice a0 kn d0, .slice a1 vn d1, .slice a2 pn d2, .slice a3 yn d3] rfl rfl hcells (by simp [Value.oneCell']) (by unfold maxLen; omega) (by omega) hNA ?_; intro v' w4 g1 g2 g3; obtain ⟨oa', oc', us', rfl, b4, SP⟩ := HPU.out v' w4 g1 g2; have f4 := thawT b4; have l4 := (Array.getElem?_eq_some_iff.1 b4).1; have c4 : w4.cell? ⟨N + 2, 0, none⟩ = some (.slice oa j oc) := by simp [World.cell?, b4])
   go_roundw
   case rel => exact ⟨j + 1, oa', oc', us', by omega, by go_num, SP⟩
   case measure => simp [intOf]; omega
  ·have hje : j = n := by omega
   subst hje
   have hfin : (ts.take j).map TN.nd = ts.map TN.nd := by rw [List.take_of_length_le (by have := HL.out; omega)]
   have l2 := (Array.getElem?_eq_some_iff.1 S.b2).1
   have c2 : wr.cell? ⟨N + 2, 0, none⟩ = some (.slice oa j oc) := by simp [World.cell?, S.b2]
   have c1 : wr.cell? ⟨N + 1, 0, none⟩ = some (.slice none 0 0) := by simp [World.cell?, S.b1]
   have f1 := thawT S.b1
   have HFIN : Hid (OwnT (wr.setCell ⟨N + 1, 0, none⟩ (.slice oa j oc)) N (.slice oa j oc) (ts.map TN.nd) us ∧ Below N w (wr.setCell ⟨N + 1, 0, none⟩ (.slice oa j oc))) := by
    have hst := fr_setT wr (N + 1) 0 (.slice oa j oc)
    have hO := S.own
    rw [hfin] at hO
    exact ⟨(hO.fr hst (fun g hg e => by have := (hO.blk hg).1; omega)).lower (by omega), S.bel.trans (hst.below (by omega) (fun g e => by omega))⟩
   have x1 : (wr.setCell ⟨N + 1, 0, none⟩ (.slice oa j oc)).cell? ⟨N + 1, 0, none⟩ = some (.slice oa j oc) := by simp [World.cell?, World.setCell, Array.getElem?_modify, S.b1]
   have l1 : N + 1 < wr.heap.size := by omega
   clear S hfin
   go_wp2_with fail
   refine bodyPost_ret (v := .agg #[.slice oa j oc]) (by simp [results, Tryz.results27, go_sem, x1]) rfl ?_
   rw [hN]
   exact ⟨oa, oc, us, rfl, HFIN.out.1, HFIN.out.2⟩
def topT (ts : List TN) : Option T := match gr ts (ts.length + 1) 0 (fun _ => false) with
 | some (t, nx, _) => if ts.length ≤ 1000 ∧ nx = ts.length ∧ t.slots.all (fun s => kyB s.1) = true ∧ ascB (t.slots.map (fun s => s.1)) = true then some t else none
 | none => none
theorem topT_no {ts : List TN} (h : ¬ ImplOk ts) : topT ts = none := by
 unfold topT
 split
 ·rename_i t nx met hg
  split
  ·rename_i hc
   obtain ⟨h1, rfl, h3, h4⟩ := hc
   exact absurd ⟨h1, t, met, hg, h3, h4⟩ h
  ·rfl
 ·rfl
theorem topT_yes {ts : List TN} {t : T} {met : Int → Bool} (h : ImplOk ts) (hg : gr ts (ts.length + 1) 0 (fun _ => false) = some (t, ts.length, met)) : topT ts = some t := by
 obtain ⟨h1, t2, m2, e, h3, h4⟩ := h
 rw [hg] at e
 simp only [Option.some.injEq, Prod.mk.injEq] at e
 obtain ⟨rfl, _, rfl⟩ := e
 unfold topT
 rw [hg]
 simp only [h1, h3, h4, and_self, if_true]
theorem topT_good {ts : List TN} {t : T} (h : topT ts = some t) : ImplOk ts ∧ (∃ met, gr ts (ts.length + 1) 0 (fun _ => false) = some (t, ts.length, met)) ∧ t.good true = true ∧ Shape t ∧ 0 ≤ t.ht ∧ t.nodes ≤ 1000 ∧ SortT t.slots ∧ t.slots.all (fun s => kyB s.1) = true := by
 by_cases hi : ImplOk ts
 ·obtain ⟨h1, t2, m2, e, h3, h4⟩ := hi
  have := topT_yes ⟨h1, t2, m2, e, h3, h4⟩ e
  rw [h] at this
  simp only [Option.some.injEq] at this
  subst this
  obtain ⟨gs1, gs2, gs3, gs4, gs5, gs6, gs7, gs8⟩ := gr_some ts _ 0 _ t _ _ (Nat.zero_le _) e
  exact ⟨⟨h1, t, m2, e, h3, h4⟩, ⟨m2, e⟩, gs5, gs3, gs6, by have := gs4.1; omega, sort_of_asc h4, h3⟩
 ·rw [topT_no hi] at h; cases h
def putR (ts : List TN) (key val : ByteArray) : Bool × List TN := match topT ts with
 | none => (false, ts)
 | some t => if kyB key = true ∧ val.size ≤ 400 ∧ (rootP key val t).nodes ≤ 1000 then (true, (rootP key val t).flat 0) else (false, ts)
def TreeAns (w : World) (r : Bool × List TN) (e : Ending) (w' : World) : Prop := ∃ oa oc us, e = .returned (.agg #[.bool r.1, .slice oa r.2.length oc]) ∧ OwnT w' w.heap.size (.slice oa r.2.length oc) (r.2.map TN.nd) us ∧ Below w.heap.size w w'
theorem box_twoR {w : World} {N : Nat} {v0 v1 : Value} {t : TypeId} (h : w.heap[N]? = some (.cells #[v0, v1] t)) : w.cell? ⟨N, 0, none⟩ = some v0 ∧ w.cell? ⟨N, 1, none⟩ = some v1 := by
 simp [World.cell?, h]
theorem treeAns_lay {w V : World} {R b m c : Nat} {oa : Option Addr} {ns : List ND} {us : Nat → Nat → Value} {v0 v1 : Value} (hR : w.heap.size ≤ R) (hbx : V.heap[R]? = some (.cells #[v0, v1] 30)) (hO : OwnT V b (.slice oa m c) ns us) (hb : R < b) (hbel : Below w.heap.size w V) (ok : Bool) :
  OwnT ((V.setCell ⟨R, 0, none⟩ (.bool ok)).setCell ⟨R, 1, none⟩ (.slice oa m c)) w.heap.size (.slice oa m c) ns us ∧ Below w.heap.size w ((V.setCell ⟨R, 0, none⟩ (.bool ok)).setCell ⟨R, 1, none⟩ (.slice oa m c)) ∧ ((V.setCell ⟨R, 0, none⟩ (.bool ok)).setCell ⟨R, 1, none⟩ (.slice oa m c)).heap[R]? = some (.cells #[.bool ok, .slice oa m c] 30) := by
 have f1 := fr_setT V R 0 (.bool ok)
 have f2 := fr_setT (V.setCell ⟨R, 0, none⟩ (.bool ok)) R 1 (.slice oa m c)
 have hlR := (Array.getElem?_eq_some_iff.1 hbx).1
 have f3 : Fr (fun k => k = R) V ((V.setCell ⟨R, 0, none⟩ (.bool ok)).setCell ⟨R, 1, none⟩ (.slice oa m c)) := f1.trans f2
 refine ⟨(hO.fr f3 (fun g hg e => by have := (hO.blk hg).1; omega)).lower (by omega), hbel.trans (f3.below hbel.size (fun g e => by omega)), ?_⟩
 have h1 := heap_setT hbx 0 (.bool ok)
 have h2 := heap_setT h1 1 (.slice oa m c)
 simpa using h2
set_option maxHeartbeats 8000000 in
theorem implPut_any (ts : List TN) (a : Option Addr) (n c A B : Nat) (w : World) (hB : B ≤ w.heap.size) (hT : NodesAt w A B a n c ts) (hn : n ≤ 1048576) (hb : ∀ x ∈ ts, NodeLen x) (key val : ByteArray) (hvs : val.size ≤ 1048576) :
  Calls Tryz.prog 8 #[.agg #[.slice a n c], .string key, .string val] w fun e w' => TreeAns w (putR ts key val) e w' := by
 obtain ⟨N, hN⟩ : ∃ N, w.heap.size = N := ⟨_, rfl⟩
 obtain ⟨W, hW⟩ : ∃ W, W = (w.alloc (.cells #[.slice a n c] 28)).alloc (.cells #[.bool false, .slice none 0 0] 30) := ⟨_, rfl⟩
 have hbw : Below w.heap.size w W := by rw [hW]; exact ((Below.refl _ _).alloc (Nat.le_refl _) _).alloc (by simp) _
 have sW : W.heap.size = N + 2 := by rw [hW]; simp [hN]
 have k0 : W.heap[N]? = some (.cells #[.slice a n c] 28) := by
  rw [hW, ← hN]
  exact (((Below.refl (w.alloc (.cells #[.slice a n c] 28)).heap.size _).alloc (Nat.le_refl _) _).block w.heap.size (by simp)).trans (heap_alloc_new w _)
 have k1 : W.heap[N + 1]? = some (.cells #[.bool false, .slice none 0 0] 30) := by
  rw [hW]
  have := heap_alloc_new (w.alloc (.cells #[.slice a n c] 28)) (.cells #[.bool false, .slice none 0 0] 30)
  rwa [show (w.alloc (.cells #[.slice a n c] 28)).heap.size = N + 1 by simp [hN]] at this
 have HT : Hid (∀ V, Below N w V → NodesAt V A B a n c ts) := fun V h => hT.below (h.mono (by omega))
 have HL : Hid (ts.length = n) := hT.1
 have HNB : Hid (∀ x ∈ ts, NodeLen x) := hb
 rw [hN] at hbw
 have hgrow := grow_any ts a n c A B W (by omega) (HT.out W hbw)
 have hky := isKey_any key
 have x0 : W.cell? ⟨N, 0, none⟩ = some (.slice a n c) := by simp [World.cell?, k0]
 have l0 : N < W.heap.size := by omega
 have HCP : Hid (∀ V, Below N w V → Calls Tryz.prog 27 #[.agg #[.slice a n c]] V fun e w' => ∃ oa oc us, e = .returned (.agg #[.slice oa n oc]) ∧ OwnT w' V.heap.size (.slice oa n oc) (ts.map TN.nd) us ∧ Below V.heap.size V w') := fun V h => copyTree_any ts a n c A B V (by have := h.size; omega) (HT.out V h) hn hb
 clear hT hb
 go_enter Tryz.func8, Tryz.ntmps8
 go_upto_region 1 with fail
 rw [← hW]
 clear hW
 go_wp2_with fail
 refine hgrow.mono ?_
 rintro e w1 ⟨hno, hyes, hb1⟩
 have s1 := hb1.size
 have k01 := (hb1.block N (by omega)).trans k0
 have k11 := (hb1.block (N + 1) (by omega)).trans k1
 have bw1 : Below N w w1 := hbw.trans (hb1.mono (by omega))
 clear hgrow x0 k0 k1
 have x0 : w1.cell? ⟨N, 0, none⟩ = some (.slice a n c) := by simp [World.cell?, k01]
 have l0 : N < w1.heap.size := by omega
 by_cases hok : ImplOk ts
 ·obtain ⟨t, met, u, hgr, hkys, hasc, rfl, hGM⟩ := hyes hok
  have htop := topT_yes hok hgr
  obtain ⟨_, _, g5, g3, g6, gn, gso, gky⟩ := topT_good htop
  obtain ⟨ty, v, rfl⟩ := hGM.shape
  clear hno hyes
  by_cases hk : kyB key = true
  ·by_cases hv : val.size ≤ 400
   ·have hd : ¬ ((400 : Int) < (val.size : Int)) := by omega
    have HOK : Hid (topT ts = some t) := htop
    obtain ⟨hna, f, r, hme, hcf, hcall⟩ := putOk_all key val hv t true (by omega) g5 g6 g3 gso w1 _ ty v hGM (fun b hb => hb.2)
    have hcf2 := hcf (.agg #[.string key, .string val, .int .i64 0])
    obtain ⟨rg, rs, rw', rn, rk⟩ := rootP_ok (key := key) (val := val) hv hk g5 g3 gky
    have HRP : Hid ((rootP key val t).whole = true ∧ (rootP key val t).nodes ≤ 2001 ∧ Shape (rootP key val t)) := ⟨rw', by omega, rs⟩
    have hs5 : (putT key val t).size ≤ 5 := (soft_put key val hv t true g5 g3).size.2
    have HKV : Hid (kyB key = true ∧ val.size ≤ 400) := ⟨hk, hv⟩
    have HHK : Hid (∀ W, Calls Tryz.prog 26 #[.string key] W fun e w' => e = .returned (.bool true) ∧ w' = W) := fun W => by have := hky W; rw [hk] at this; exact this
    have HRT : Hid (rootP key val t = if (putT key val t).size ≤ 4 then putT key val t else ⟨false, 0, [], [], [], cutT (putT key val t)⟩) := rfl
    have HPR : Hid (putR ts key val = if kyB key = true ∧ val.size ≤ 400 ∧ (rootP key val t).nodes ≤ 1000 then (true, (rootP key val t).flat 0) else (false, ts)) := by
     show _ = _
     unfold putR
     rw [htop]
    clear hky hcf htop hgr hkys hasc hGM g5 g3 g6 gn gso gky rg rs rw' rn rk hok hk hv
    have hkc := HHK.out w1
    generalize rootP key val t = T9 at *
    generalize putT key val t = k' at *
    go_wp2_with fail
    refine hkc.mono ?_
    rintro e wz ⟨rfl, rfl⟩
    go_wp2_with fail
    refine hcall.mono ?_
    rintro e V ⟨rfl, ⟨Pm, hgm, hpm⟩, hfm⟩
    have sV := hfm.size
    have bwV : Below N w V := bw1.trans (hfm.below (by omega) (fun g e => by have := e.1; omega))
    have k0V := (hfm.block N (by omega) (fun e => by have := e.1; omega)).trans k01
    have k1V := (hfm.block (N + 1) (by omega) (fun e => by have := e.1; omega)).trans k11
    obtain ⟨hns, f2, r2, hms, hcs2, hsize⟩ := hgm.size
    obtain ⟨s, hs⟩ : ∃ s, k'.size = s := ⟨_, rfl⟩
    have HS : Hid (k'.size = s) := hs
    rw [hs] at hsize hs5
    clear hcall hna hme hcf2 hfm hs k01 k11 x0 l0 hkc hb1
    go_wp2_with fail
    refine hsize.mono ?_
    rintro e V2 ⟨rfl, rfl⟩
    by_cases h4 : s ≤ 4
    ·have hd4 : ¬ ((4 : Int) < (s : Int)) := by omega
     have hT9 : T9 = k' := by rw [HRT.out, if_pos (by rw [HS.out]; exact h4)]
     rw [← hT9] at hgm
     have htold := told_any V2 HRP.out.1 (GM.see _ _ _ hgm) (fun b hb => (hpm b hb).2) (by have := HRP.out.2.1; omega)
     clear hT9 hgm hsize hms hns hcs2
     go_wp2_with fail
     refine htold.mono ?_
     rintro e w5 ⟨oa, oc, us, rfl, hO5, hb5⟩
     have s5 := hb5.size
     have ab5 : Below w5.heap.size w5 (w5.alloc (.cells #[.slice oa T9.nodes oc] 28)) := (Below.refl _ _).alloc (Nat.le_refl _) _
     have kb5 := heap_alloc_new w5 (.cells #[.slice oa T9.nodes oc] 28)
     have k05 := (ab5.block N (by omega)).trans ((hb5.block N (by omega)).trans k0V)
     have k15 := (ab5.block (N + 1) (by omega)).trans ((hb5.block (N + 1) (by omega)).trans k1V)
     have hO6 := hO5.below ab5
     have bw6 : Below N w (w5.alloc (.cells #[.slice oa T9.nodes oc] 28)) := (bwV.trans (hb5.mono (by omega))).trans (ab5.mono (by omega))
     have s6 := ab5.size
     have HN9 : Hid (∃ m, T9.nodes = m) := ⟨_, rfl⟩
     obtain ⟨m, hm⟩ := HN9.out
     have HM : Hid (T9.nodes = m) := hm
     have hm2 : m ≤ 2001 := by have := HRP.out.2.1; omega
     rw [hm] at kb5 hO6 k05 k15 bw6 ab5 s6 ⊢
     obtain ⟨Y, hY⟩ : ∃ Y, w5.heap.size = Y := ⟨_, rfl⟩
     rw [hY] at kb5 s6
     go_upto_region 8 with fail
     generalize w5.alloc (.cells #[.slice oa m oc] 28) = W6 at *
     have x6 : W6.cell? ⟨Y, 0, none⟩ = some (.slice oa m oc) := by simp [World.cell?, kb5]
     have x0 : W6.cell? ⟨N, 0, none⟩ = some (.slice a n c) := by simp [World.cell?, k05]
     have lY : Y < W6.heap.size := (Array.getElem?_eq_some_iff.1 kb5).1
     have lN : N < W6.heap.size := by omega
     clear htold hO5 hb5 ab5
     by_cases h10 : m ≤ 1000
     ·have hd10 : ¬ ((1000 : Int) < (m : Int)) := by omega
      obtain ⟨q0, q1⟩ := box_twoR k15
      have f7 := thawT k15
      have l7 : N + 1 < W6.heap.size := by omega
      obtain ⟨O8, B8, R8⟩ := treeAns_lay (w := w) (R := N + 1) (by omega) k15 hO6 (by omega) (by rw [hN]; exact bw6) true
      obtain ⟨r0, r1⟩ := box_twoR R8
      have HFIN : Hid (TreeAns w (putR ts key val) (.returned (.agg #[.bool true, .slice oa m oc])) ((W6.setCell ⟨N + 1, 0, none⟩ (.bool true)).setCell ⟨N + 1, 1, none⟩ (.slice oa m oc))) := by
       rw [HPR.out, if_pos ⟨HKV.out.1, HKV.out.2, by rw [HM.out]; exact h10⟩]
       have hfl : (T9.flat 0).length = m := by rw [flat_len T9 HRP.out.2.2, HM.out]
       refine ⟨oa, oc, us, ?_, ?_, B8⟩
       ·show _ = Ending.returned (.agg #[.bool true, .slice oa (T9.flat 0).length oc])
        rw [hfl]
       ·show OwnT _ _ (.slice oa (T9.flat 0).length oc) _ _
        rw [hfl]; exact O8
      clear O8 B8 R8 hO6 k15 k05 bw6
      go_wp2_with fail
      exact bodyPost_ret (v := .agg #[.bool true, .slice oa m oc]) (by simp [results, Tryz.results8, go_sem, r0, r1]) rfl HFIN.out
     ·have hd10 : (1000 : Int) < (m : Int) := by omega
      have HP : Hid (putR ts key val = (false, ts)) := by
       show _ = _
       rw [HPR.out, if_neg (fun h => h10 (by rw [← HM.out]; exact h.2.2))]
      clear hO6
      have hcp := HCP.out W6 bw6
      go_wp2_with fail
      refine hcp.mono ?_
      rintro e w7 ⟨oa7, oc7, us7, rfl, hO7, hb7⟩
      have s7 := hb7.size
      have k17 := (hb7.block (N + 1) (by omega)).trans k15
      obtain ⟨q0, q1⟩ := box_twoR k17
      have f7 := thawT k17
      have l7 : N + 1 < w7.heap.size := by omega
      have bw7 : Below w.heap.size w w7 := by rw [hN]; exact bw6.trans (hb7.mono (by omega))
      obtain ⟨O8, B8, R8⟩ := treeAns_lay (w := w) (R := N + 1) (by omega) k17 hO7 (by omega) bw7 false
      obtain ⟨r0, r1⟩ := box_twoR R8
      have HFIN : Hid (TreeAns w (putR ts key val) (.returned (.agg #[.bool false, .slice oa7 n oc7])) ((w7.setCell ⟨N + 1, 0, none⟩ (.bool false)).setCell ⟨N + 1, 1, none⟩ (.slice oa7 n oc7))) := by
       rw [HP.out]
       refine ⟨oa7, oc7, us7, ?_, ?_, B8⟩
       ·show _ = Ending.returned (.agg #[.bool false, .slice oa7 ts.length oc7])
        rw [HL.out]
       ·show OwnT _ _ (.slice oa7 ts.length oc7) _ _
        rw [HL.out]; exact O8
      clear hcp hO7 O8 B8 R8 hb7 bw7 k17
      go_wp2_with fail
      exact bodyPost_ret (v := .agg #[.bool false, .slice oa7 n oc7]) (by simp [results, Tryz.results8, go_sem, r0, r1]) rfl HFIN.out
    ·have hd4 : (4 : Int) < (s : Int) := by omega
     have hpart := part_any hgm 3 (by omega) (by rw [HS.out]; omega) (by rw [HS.out]; omega) (fun x hx => (hpm x hx).2)
     clear hsize hms hns hcs2
     go_wp2_with fail
     refine hpart.mono ?_
     rintro e w3 ⟨u2, rfl, ⟨P1, P2, hg1, hg2, hdis, hpp⟩, hf3⟩
     obtain ⟨ty2, v2, rfl⟩ := hg2.shape
     have s3 := hf3.size
     have hpmN : ∀ x, Pm x → N + 2 ≤ x := fun x hx => by
      rcases (hpm x hx).1 with e | e
      ·omega
      ·omega
     have bw3 : Below N w w3 := bwV.trans (hf3.below (by omega) (fun g e => by have := hpmN g e; omega))
     have k03 := (hf3.block N (by omega) (fun e => by have := hpmN _ e; omega)).trans k0V
     have k13 := (hf3.block (N + 1) (by omega) (fun e => by have := hpmN _ e; omega)).trans k1V
     obtain ⟨M, hM⟩ : ∃ M, w3.heap.size = M := ⟨_, rfl⟩
     obtain ⟨V3, hV3⟩ : ∃ V3, V3 = (w3.alloc (.cells #[.iface ty v, .iface ty2 v2] 56)).alloc (.cells #[.int .i64 0, .slice (some ⟨M, 0, none⟩) 2 2] 69) := ⟨_, rfl⟩
     have b33 : Below w3.heap.size w3 V3 := by rw [hV3]; exact ((Below.refl _ _).alloc (Nat.le_refl _) _).alloc (by simp) _
     have sV3 : V3.heap.size = M + 2 := by rw [hV3]; simp [hM]
     have m0 : V3.heap[M]? = some (.cells #[.iface ty v, .iface ty2 v2] 56) := by
      rw [hV3, ← hM]
      exact (((Below.refl (w3.alloc (.cells #[.iface ty v, .iface ty2 v2] 56)).heap.size _).alloc (Nat.le_refl _) _).block w3.heap.size (by simp)).trans (heap_alloc_new w3 _)
     have m1 : V3.heap[M + 1]? = some (.cells #[.int .i64 0, .slice (some ⟨M, 0, none⟩) 2 2] 69) := by
      rw [hV3]
      have := heap_alloc_new (w3.alloc (.cells #[.iface ty v, .iface ty2 v2] 56)) (.cells #[.int .i64 0, .slice (some ⟨M, 0, none⟩) 2 2] 69)
      rwa [show (w3.alloc (.cells #[.iface ty v, .iface ty2 v2] 56)).heap.size = M + 1 by simp [hM]] at this
     have hT9 : T9 = ⟨false, 0, [], [], [], [k'.fore 3, k'.rest 3]⟩ := by
      rw [HRT.out, if_neg (by rw [HS.out]; exact h4)]
      unfold cutT
      rw [if_neg (by rw [HS.out]; exact h4)]
     have hgi : GIs V3 (fun b => b < M + 2) T9 (.iface 63 (.pointer (some ⟨M + 1, 0, none⟩))) := by
      rw [hT9]
      refine GInner.is (t := ⟨false, 0, [], [], [], [k'.fore 3, k'.rest 3]⟩) (a := some ⟨M, 0, none⟩) (n := 2) (c := 2) (us := fun i => if i = 0 then .iface ty v else .iface ty2 v2) ⟨by show M + 1 < M + 2; omega, m1, ⟨rfl, Nat.le_refl _, by unfold maxLen; omega⟩, fun _ => ⟨M, rfl, by show M < M + 2; omega, fun i hi => ?_⟩, fun i z hm hi => ?_⟩ rfl
      ·have hi2 : i = 0 ∨ i = 1 := by omega
       rcases hi2 with rfl | rfl <;> simp [World.cell?, m0]
      ·have hi2 : i = 0 ∨ i = 1 := by
        have := (List.getElem?_eq_some_iff.1 hi).1
        simp at this
        omega
       rcases hi2 with rfl | rfl
       ·simp at hi
        subst hi
        exact GIs.keep (fun x hx => b33.block x (hpp x (.inl hx)).2) (fun x hx => by have := (hpp x (.inl hx)).2; show x < M + 2; omega) _ _ (GM.see _ _ _ hg1)
       ·simp at hi
        subst hi
        exact GIs.keep (fun x hx => b33.block x (hpp x (.inr hx)).2) (fun x hx => by have := (hpp x (.inr hx)).2; show x < M + 2; omega) _ _ (GM.see _ _ _ hg2)
     have htold := told_any V3 HRP.out.1 hgi (fun b hb => by have : b < M + 2 := hb; omega) (by have := HRP.out.2.1; omega)
     have bwV3 : Below N w V3 := bw3.trans (b33.mono (by omega))
     have k0V3 := (b33.block N (by omega)).trans k03
     have k1V3 := (b33.block (N + 1) (by omega)).trans k13
     clear hgi hT9 hg1 hg2 hdis hpp hf3 hpart hgm hpm hpmN m0 m1 b33 k03 k13 k0V k1V bwV bw3
     go_upto_region 7 with fail
     rw [← hV3]
     clear hV3
     go_wp2_with fail
     refine htold.mono ?_
     rintro e w5 ⟨oa, oc, us, rfl, hO5, hb5⟩
     have s5 := hb5.size
     have ab5 : Below w5.heap.size w5 (w5.alloc (.cells #[.slice oa T9.nodes oc] 28)) := (Below.refl _ _).alloc (Nat.le_refl _) _
     have kb5 := heap_alloc_new w5 (.cells #[.slice oa T9.nodes oc] 28)
     have k05 := (ab5.block N (by omega)).trans ((hb5.block N (by omega)).trans k0V3)
     have k15 := (ab5.block (N + 1) (by omega)).trans ((hb5.block (N + 1) (by omega)).trans k1V3)
     have hO6 := hO5.below ab5
     have bw6 : Below N w (w5.alloc (.cells #[.slice oa T9.nodes oc] 28)) := (bwV3.trans (hb5.mono (by omega))).trans (ab5.mono (by omega))
     have s6 := ab5.size
     have HN9 : Hid (∃ m, T9.nodes = m) := ⟨_, rfl⟩
     obtain ⟨m, hm⟩ := HN9.out
     have HM : Hid (T9.nodes = m) := hm
     have hm2 : m ≤ 2001 := by have := HRP.out.2.1; omega
     rw [hm] at kb5 hO6 k05 k15 bw6 ab5 s6 ⊢
     obtain ⟨Y, hY⟩ : ∃ Y, w5.heap.size = Y := ⟨_, rfl⟩
     rw [hY] at kb5 s6
     go_upto_region 8 with fail
     generalize w5.alloc (.cells #[.slice oa m oc] 28) = W6 at *
     have x6 : W6.cell? ⟨Y, 0, none⟩ = some (.slice oa m oc) := by simp [World.cell?, kb5]
     have x0 : W6.cell? ⟨N, 0, none⟩ = some (.slice a n c) := by simp [World.cell?, k05]
     have lY : Y < W6.heap.size := (Array.getElem?_eq_some_iff.1 kb5).1
     have lN : N < W6.heap.size := by omega
     clear htold hO5 hb5 ab5
     by_cases h10 : m ≤ 1000
     ·have hd10 : ¬ ((1000 : Int) < (m : Int)) := by omega
      obtain ⟨q0, q1⟩ := box_twoR k15
      have f7 := thawT k15
      have l7 : N + 1 < W6.heap.size := by omega
      obtain ⟨O8, B8, R8⟩ := treeAns_lay (w := w) (R := N + 1) (by omega) k15 hO6 (by omega) (by rw [hN]; exact bw6) true
      obtain ⟨r0, r1⟩ := box_twoR R8
      have HFIN : Hid (TreeAns w (putR ts key val) (.returned (.agg #[.bool true, .slice oa m oc])) ((W6.setCell ⟨N + 1, 0, none⟩ (.bool true)).setCell ⟨N + 1, 1, none⟩ (.slice oa m oc))) := by
       rw [HPR.out, if_pos ⟨HKV.out.1, HKV.out.2, by rw [HM.out]; exact h10⟩]
       have hfl : (T9.flat 0).length = m := by rw [flat_len T9 HRP.out.2.2, HM.out]
       refine ⟨oa, oc, us, ?_, ?_, B8⟩
       ·show _ = Ending.returned (.agg #[.bool true, .slice oa (T9.flat 0).length oc])
        rw [hfl]
       ·show OwnT _ _ (.slice oa (T9.flat 0).length oc) _ _
        rw [hfl]; exact O8
      clear O8 B8 R8 hO6 k15 k05 bw6
      go_wp2_with fail
      exact bodyPost_ret (v := .agg #[.bool true, .slice oa m oc]) (by simp [results, Tryz.results8, go_sem, r0, r1]) rfl HFIN.out
     ·have hd10 : (1000 : Int) < (m : Int) := by omega
      have HP : Hid (putR ts key val = (false, ts)) := by
       show _ = _
       rw [HPR.out, if_neg (fun h => h10 (by rw [← HM.out]; exact h.2.2))]
      clear hO6
      have hcp := HCP.out W6 bw6
      go_wp2_with fail
      refine hcp.mono ?_
      rintro e w7 ⟨oa7, oc7, us7, rfl, hO7, hb7⟩
      have s7 := hb7.size
      have k17 := (hb7.block (N + 1) (by omega)).trans k15
      obtain ⟨q0, q1⟩ := box_twoR k17
      have f7 := thawT k17
      have l7 : N + 1 < w7.heap.size := by omega
      have bw7 : Below w.heap.size w w7 := by rw [hN]; exact bw6.trans (hb7.mono (by omega))
      obtain ⟨O8, B8, R8⟩ := treeAns_lay (w := w) (R := N + 1) (by omega) k17 hO7 (by omega) bw7 false
      obtain ⟨r0, r1⟩ := box_twoR R8
      have HFIN : Hid (TreeAns w (putR ts key val) (.returned (.agg #[.bool false, .slice oa7 n oc7])) ((w7.setCell ⟨N + 1, 0, none⟩ (.bool false)).setCell ⟨N + 1, 1, none⟩ (.slice oa7 n oc7))) := by
       rw [HP.out]
       refine ⟨oa7, oc7, us7, ?_, ?_, B8⟩
       ·show _ = Ending.returned (.agg #[.bool false, .slice oa7 ts.length oc7])
        rw [HL.out]
       ·show OwnT _ _ (.slice oa7 ts.length oc7) _ _
        rw [HL.out]; exact O8
      clear hcp hO7 O8 B8 R8 hb7 bw7 k17
      go_wp2_with fail
      exact bodyPost_ret (v := .agg #[.bool false, .slice oa7 n oc7]) (by simp [results, Tryz.results8, go_sem, r0, r1]) rfl HFIN.out
   ·have hd : (400 : Int) < (val.size : Int) := by omega
    have HP : Hid (putR ts key val = (false, ts)) := by
     show _ = _
     unfold putR
     rw [htop]
     simp only []
     rw [if_neg (fun h => hv h.2.1)]
    have hkc : Calls Tryz.prog 26 #[.string key] w1 fun e w' => e = .returned (.bool true) ∧ w' = w1 := by have := hky w1; rw [hk] at this; exact this
    clear hky htop hgr hkys hasc hGM g5 g3 g6 gn gso gky hok hk hv
    go_wp2_with fail
    refine hkc.mono ?_
    rintro e wz ⟨rfl, rfl⟩
    have hcp := HCP.out wz bw1
    go_wp2_with fail
    refine hcp.mono ?_
    rintro e w7 ⟨oa, oc, us, rfl, hO7, hb7⟩
    have s7 := hb7.size
    have k17 := (hb7.block (N + 1) (by omega)).trans k11
    obtain ⟨q0, q1⟩ := box_twoR k17
    have f7 := thawT k17
    have l7 : N + 1 < w7.heap.size := by omega
    have bw7 : Below w.heap.size w w7 := by rw [hN]; exact bw1.trans (hb7.mono (by omega))
    obtain ⟨O8, B8, R8⟩ := treeAns_lay (w := w) (R := N + 1) (by omega) k17 hO7 (by omega) bw7 false
    obtain ⟨r0, r1⟩ := box_twoR R8
    have HFIN : Hid (TreeAns w (putR ts key val) (.returned (.agg #[.bool false, .slice oa n oc])) ((w7.setCell ⟨N + 1, 0, none⟩ (.bool false)).setCell ⟨N + 1, 1, none⟩ (.slice oa n oc))) := by
     rw [HP.out]
     refine ⟨oa, oc, us, ?_, ?_, B8⟩
     ·show _ = Ending.returned (.agg #[.bool false, .slice oa ts.length oc])
      rw [HL.out]
     ·show OwnT _ _ (.slice oa ts.length oc) _ _
      rw [HL.out]; exact O8
    clear hcp hO7 O8 B8 R8 hb7 bw7 k17
    go_wp2_with fail
    exact bodyPost_ret (v := .agg #[.bool false, .slice oa n oc]) (by simp [results, Tryz.results8, go_sem, r0, r1]) rfl HFIN.out
  ·have hkf : kyB key = false := by simpa using hk
   have HP : Hid (putR ts key val = (false, ts)) := by
    show _ = _
    unfold putR
    rw [htop]
    simp only []
    rw [if_neg (fun h => hk h.1)]
   have hkc : Calls Tryz.prog 26 #[.string key] w1 fun e w' => e = .returned (.bool false) ∧ w' = w1 := by have := hky w1; rw [hkf] at this; exact this
   clear hky htop hgr hkys hasc hGM g5 g3 g6 gn gso gky hok hk hkf
   go_wp2_with fail
   refine hkc.mono ?_
   rintro e wz ⟨rfl, rfl⟩
   have hcp := HCP.out wz bw1
   go_wp2_with fail
   refine hcp.mono ?_
   rintro e w7 ⟨oa, oc, us, rfl, hO7, hb7⟩
   have s7 := hb7.size
   have k17 := (hb7.block (N + 1) (by omega)).trans k11
   obtain ⟨q0, q1⟩ := box_twoR k17
   have f7 := thawT k17
   have l7 : N + 1 < w7.heap.size := by omega
   have bw7 : Below w.heap.size w w7 := by rw [hN]; exact bw1.trans (hb7.mono (by omega))
   obtain ⟨O8, B8, R8⟩ := treeAns_lay (w := w) (R := N + 1) (by omega) k17 hO7 (by omega) bw7 false
   obtain ⟨r0, r1⟩ := box_twoR R8
   have HFIN : Hid (TreeAns w (putR ts key val) (.returned (.agg #[.bool false, .slice oa n oc])) ((w7.setCell ⟨N + 1, 0, none⟩ (.bool false)).setCell ⟨N + 1, 1, none⟩ (.slice oa n oc))) := by
    rw [HP.out]
    refine ⟨oa, oc, us, ?_, ?_, B8⟩
    ·show _ = Ending.returned (.agg #[.bool false, .slice oa ts.length oc])
     rw [HL.out]
    ·show OwnT _ _ (.slice oa ts.length oc) _ _
     rw [HL.out]; exact O8
   clear hcp hO7 O8 B8 R8 hb7 bw7 k17
   go_wp2_with fail
   exact bodyPost_ret (v := .agg #[.bool false, .slice oa n oc]) (by simp [results, Tryz.results8, go_sem, r0, r1]) rfl HFIN.out
 ·obtain rfl := hno hok
  have HP : Hid (putR ts key val = (false, ts)) := by
   show _ = _
   unfold putR
   rw [topT_no hok]
  clear hyes hky hok
  have hcp := HCP.out w1 bw1
  go_wp2_with fail
  refine hcp.mono ?_
  rintro e w7 ⟨oa, oc, us, rfl, hO7, hb7⟩
  have s7 := hb7.size
  have k17 := (hb7.block (N + 1) (by omega)).trans k11
  obtain ⟨q0, q1⟩ := box_twoR k17
  have f7 := thawT k17
  have l7 : N + 1 < w7.heap.size := by omega
  have bw7 : Below w.heap.size w w7 := by rw [hN]; exact bw1.trans (hb7.mono (by omega))
  obtain ⟨O8, B8, R8⟩ := treeAns_lay (w := w) (R := N + 1) (by omega) k17 hO7 (by omega) bw7 false
  obtain ⟨r0, r1⟩ := box_twoR R8
  have HFIN : Hid (TreeAns w (putR ts key val) (.returned (.agg #[.bool false, .slice oa n oc])) ((w7.setCell ⟨N + 1, 0, none⟩ (.bool false)).setCell ⟨N + 1, 1, none⟩ (.slice oa n oc))) := by
   rw [HP.out]
   refine ⟨oa, oc, us, ?_, ?_, B8⟩
   ·show _ = Ending.returned (.agg #[.bool false, .slice oa ts.length oc])
    rw [HL.out]
   ·show OwnT _ _ (.slice oa ts.length oc) _ _
    rw [HL.out]; exact O8
  clear hcp hO7 O8 B8 R8 hb7 bw7 k17
  go_wp2_with fail
  exact bodyPost_ret (v := .agg #[.bool false, .slice oa n oc]) (by simp [results, Tryz.results8, go_sem, r0, r1]) rfl HFIN.out
def gE (j : Nat) : TypeId := if j < 2 then 9 else if j = 2 then 2 else 48
def gS (j : Nat) : Nat := if j < 3 then 1 else 6
theorem eval_ne (a : Act) (d t : Nat) (v : Value) (h : t ≠ d) : (a.put (some d) v).eval (.tmp t) = a.eval (.tmp t) := by
 simp only [Act.put, Act.eval, Array.getD_eq_getD_getElem?]
 rw [Array.getElem?_setIfInBounds_ne (Ne.symm h)]
theorem eval_eq (a : Act) (d : Nat) (v : Value) (h : d < a.tmps.size) : (a.put (some d) v).eval (.tmp d) = v := by
 simp only [Act.put, Act.eval, Array.getD_eq_getD_getElem?]
 rw [Array.getElem?_setIfInBounds_self_of_lt h]
 rfl
structure JG (SZ : Nat) (Wd : World) (M : Nat) (da : Nat → Nat → Nat) (con : Nat → Nat → List Value) (len : Nat → Nat → Nat) (keep : List (Nat × Value)) (p : Nat → Nat) (a : Act) (w : World) : Prop where
 sz : a.tmps.size = SZ
 df : a.defers = []
 kp : ∀ x ∈ keep, a.eval (.tmp x.1) = x.2
 cur : ∀ j, j < 4 → 0 < p j → w.ownsRow M (gE j) (gS j) (a.eval (.tmp (da j (p j)))) (len j (p j)) (con j (p j))
 apart : ∀ i j, i < 4 → j < 4 → i ≠ j → 0 < p i → 0 < p j → ∀ g, (a.eval (.tmp (da i (p i)))).ownBlock = some g → (a.eval (.tmp (da j (p j)))).ownBlock ≠ some g
 fr : Fr (fun g => M ≤ g) Wd w
def upP (p : Nat → Nat) (j q : Nat) : Nat → Nat := fun i => if i = j then q else p i
theorem JG.move {SZ M : Nat} {Wd : World} {da : Nat → Nat → Nat} {con : Nat → Nat → List Value} {len : Nat → Nat → Nat} {keep : List (Nat × Value)} {p : Nat → Nat} {a : Act} {w w' : World} (h : JG SZ Wd M da con len keep p a w) {j q mx : Nat} (hj : j < 4) (hq : 0 < q) (hqm : q ≤ mx) (hpm : ∀ i, i < 4 → p i ≤ mx) (hinj : ∀ i r k s, i < 4 → k < 4 → 0 < r → r ≤ mx → 0 < s → s ≤ mx → i ≠ k → da i r ≠ da k s) (hks : ∀ x ∈ keep, x.1 ≠ da j q) (hds : da j q < SZ) (hM : M ≤ w.heap.size)
  {v : Value} (hrow : w'.ownsRow M (gE j) (gS j) v (len j q) (con j q)) (hf : Fr (fun g => 0 < p j ∧ (a.eval (.tmp (da j (p j)))).ownBlock = some g) w w') (hat : ∀ g, v.ownBlock = some g → (0 < p j ∧ (a.eval (.tmp (da j (p j)))).ownBlock = some g) ∨ w.heap.size ≤ g) :
  JG SZ Wd M da con len keep (upP p j q) (a.put (some (da j q)) v) w' := by
 have hd : da j q < a.tmps.size := by rw [h.sz]; exact hds
 have hE : ∀ i, i < 4 → i ≠ j → 0 < p i → (a.put (some (da j q)) v).eval (.tmp (da i (p i))) = a.eval (.tmp (da i (p i))) := fun i hi hne h0 => eval_ne a _ _ v (hinj i (p i) j q hi hj h0 (hpm i hi) hq hqm hne)
 have hnew : ∀ i, i < 4 → i ≠ j → 0 < p i → ∀ g, (a.eval (.tmp (da i (p i)))).ownBlock = some g → v.ownBlock ≠ some g := fun i hi hne h0 g hg e => by
  rcases hat g e with ⟨h1, h2⟩ | h2
  ·exact h.apart i j hi hj hne h0 h1 g hg h2
  ·have := ((h.cur i hi h0).lt g hg).2; omega
 refine ⟨by simp [Act.put, h.sz], by simp [Act.put, h.df], fun x hx => by rw [eval_ne a _ _ v (hks x hx)]; exact h.kp x hx, fun i hi h0 => ?_, fun i k hi hk hne h0 h1 g hg => ?_, ?_⟩
 ·by_cases hij : i = j
  ·subst hij
   simp only [upP, if_true] at h0 ⊢
   rw [eval_eq a _ v hd]
   exact hrow
  ·simp only [upP, if_neg hij] at h0 ⊢
   rw [hE i hi hij h0]
   exact owns_fr (h.cur i hi h0) hf (fun g hg e => h.apart i j hi hj hij h0 e.1 g hg e.2)
 ·by_cases hij : i = j
  ·subst hij
   have hki : k ≠ i := fun e => hne e.symm
   simp only [upP, if_true, if_neg hki] at h0 h1 hg ⊢
   rw [eval_eq a _ v hd] at hg
   rw [hE k hk hki h1]
   exact fun e => hnew k hk hki h1 g e hg
  ·by_cases hkj : k = j
   ·subst hkj
    simp only [upP, if_true, if_neg hij] at h0 h1 hg ⊢
    rw [eval_eq a _ v hd]
    rw [hE i hi hij h0] at hg
    exact hnew i hi hij h0 g hg
   ·simp only [upP, if_neg hij, if_neg hkj] at h0 h1 hg ⊢
    rw [hE i hi hij h0] at hg
    rw [hE k hk hkj h1]
    exact h.apart i k hi hk hne h0 h1 g hg
 ·refine h.fr.trans (hf.weak (fun g e => ((h.cur j hj e.1).lt g e.2).1))
theorem step_empty {P : Program} {ops : Array Oper} {o : Oper} {a : Act} {w : World} {K : Act → World → Prop} {Q : Exit → Act → World → Prop} {E : Prop} (hgd : o.guard = none) (t e : TypeId) (ho : o.op = .buildSlice t 0 #[]) (hr : (Instr.buildSlice t 0 #[]).run P w = .ok (.slice (some ⟨w.heap.size, 0, none⟩) 0 0) (w.alloc (.cells #[] e)))
  (h : K (a.put o.dst (.slice (some ⟨w.heap.size, 0, none⟩) 0 0)) (w.alloc (.cells #[] e))) : if Region.wanted o (yielded ops a.tmps) = true then Oper.wp P o a w K Q else E := by
 rw [if_pos (by simp [Region.wanted, hgd])]
 unfold Oper.wp execOp
 simp only [ho, Sem.run_bind, Sem.run_pure, Result.andThen_ok, List.map_toArray, List.map_nil, hr]
 exact h
theorem run_empty0 (w : World) : (Instr.buildSlice 44 0 #[]).run Tryz.prog w = .ok (.slice (some ⟨w.heap.size, 0, none⟩) 0 0) (w.alloc (.cells #[] 9)) := by kernel_rfl
theorem run_empty2 (w : World) : (Instr.buildSlice 45 0 #[]).run Tryz.prog w = .ok (.slice (some ⟨w.heap.size, 0, none⟩) 0 0) (w.alloc (.cells #[] 2)) := by kernel_rfl
theorem run_empty3 (w : World) : (Instr.buildSlice 46 0 #[]).run Tryz.prog w = .ok (.slice (some ⟨w.heap.size, 0, none⟩) 0 0) (w.alloc (.cells #[] 48)) := by kernel_rfl
theorem emptyE (w : World) (e size M : Nat) (h : M ≤ w.heap.size) : (w.alloc (.cells #[] e)).ownsRow M e size (.slice (some ⟨w.heap.size, 0, none⟩) 0 0) 0 [] := by
 have := World.ownsRow_made w #[] (base := w.heap.size) (e := e) (size := size) 0 (by simp) (by unfold maxLen; omega) (by simp)
 have h2 : (w.alloc (.cells #[] e)).ownsRow w.heap.size e size (.slice (some ⟨w.heap.size, 0, none⟩) 0 0) 0 [] := by simpa using this
 exact own_lowerT h2 h
theorem run_append_noneS {P : Program} {w : World} (base : Nat) (t ty e : TypeId) (i : TypeInfo) (size c : Nat) (ht : P.underlying t = some (.slice e)) (hi : P.info? e = some i) (v : Value) (n : Nat) (xs : List Value) (hown : w.ownsRow base e size v n xs) : (Builtin.append_ #[t, t] ty #[v, .slice none 0 c]).run P w = .ok v w := by
 rcases hown.2 with ⟨rfl, rfl⟩ | ⟨g, cap, cur, rfl, _, _, hnc, _⟩
 ·simp [Builtin.append_, run_underlying ht, sizeOf, typeInfo, hi, Builtin.lenOf, Builtin.firstCells]
 ·simp [Builtin.append_, run_underlying ht, sizeOf, typeInfo, hi, Builtin.lenOf, Builtin.firstCells, hnc, storeCells]
def SrcAt (w : World) (B size m : Nat) (v : Value) (xs : List Value) : Prop := xs.length = m * size ∧ m ≤ 1048576 ∧ (∀ u ∈ xs, u.oneCell' = true) ∧ ∃ ad c, v = .slice ad m c ∧ (ad = none → m = 0) ∧ (0 < xs.length → ∃ b off, ad = some ⟨b, off, none⟩) ∧ ∀ x, ad = some x → ∀ j u, xs[j]? = some u → (x.add j).block < B ∧ w.cell? (x.add j) = some u
theorem SrcAt.below {w w' : World} {B size m : Nat} {v : Value} {xs : List Value} (h : SrcAt w B size m v xs) (hb : Below B w w') : SrcAt w' B size m v xs := by
 obtain ⟨h1, h2, h3, ad, c, e, h4, h6, h5⟩ := h
 exact ⟨h1, h2, h3, ad, c, e, h4, h6, fun x hx j u hj => ⟨(h5 x hx j u hj).1, (hb.cell (p := x.add j) (h5 x hx j u hj).1).trans (h5 x hx j u hj).2⟩⟩
theorem step_append_S {P : Program} {ops : Array Oper} {o : Oper} {a : Act} {w : World} {K : Act → World → Prop} {Q : Exit → Act → World → Prop} {E : Prop}
  (hgd : o.guard = none) (s x : Operand) (t : TypeId) (ho : o.op = .call { callee := .builtin .append, args := #[s, x], argTypes := #[t, t] })
  (base : Nat) (e : TypeId) (i : TypeInfo) (z : Value) (size bytes : Nat) (ht : P.underlying t = some (.slice e)) (hi : P.info? e = some i) (hz : i.zero = some z)
  (hsize : i.size = size) (hby : i.bytes = bytes) (hzs : z.cells.size = size) (hsz : 0 < size) (hbb : bytes ≤ 1000)
  (v : Value) (n : Nat) (xs : List Value) (hs : a.eval s = v) (hown : w.ownsRow base e size v n xs) (hn : n ≤ 1048576)
  (u : Value) (B m : Nat) (news : List Value) (hx : a.eval x = u) (hsrc : SrcAt w B size m u news) (hbase : base ≤ w.heap.size)
  (h : ∀ v' w', w'.ownsRow base e size v' (n + m) (xs ++ news) → w.grownBy w' v.ownBlock → (v'.ownBlock = v.ownBlock ∨ ∀ g, v'.ownBlock = some g → w.heap.size ≤ g) → K (a.put o.dst v') w') :
  if Region.wanted o (yielded ops a.tmps) = true then Oper.wp P o a w K Q else E := by
 obtain ⟨h1, h2, h3, ad, c, rfl, h4, h6, h5⟩ := hsrc
 have hbt : (n + m) * bytes ≤ 140737488355328 := Nat.le_trans (Nat.mul_le_mul_left _ hbb) (by omega)
 cases ad with
 | some y => exact step_append_G hgd s x t ho base e i z size bytes ht hi hz hsize hby hzs hsz v n xs hs hown y m c news hx h1 (fun j u hj => (h5 y rfl j u hj).2) h3 (by unfold maxLen; omega) hbt hbase h
 | none =>
  have hm := h4 rfl
  subst hm
  obtain rfl : news = [] := List.length_eq_zero_iff.1 (by rw [h1]; simp)
  rw [if_pos (by simp [Region.wanted, hgd])]
  have hr := run_append_noneS (P := P) base t o.type e i size c ht hi v n xs hown
  unfold Oper.wp execOp
  simp only [ho, resolve, invoke, builtin, Sem.run_bind, Sem.run_pure, Result.andThen_ok, List.map_toArray, List.map_cons, List.map_nil, hs, hx, hr]
  exact h v w (by simpa using hown) ⟨rfl, rfl, rfl, Nat.le_refl _, fun _ _ _ => rfl⟩ (.inl rfl)
theorem wpList_append_S {P : Program} (w : World) {ops : Array Oper} {rest : List Oper} {o : Oper} {a : Act} {Q : Exit → Act → World → Prop} (hgd : o.guard = none) (s x : Operand) (t : TypeId)
  (ho : o.op = .call { callee := .builtin .append, args := #[s, x], argTypes := #[t, t] })
  (base : Nat) (e : TypeId) (i : TypeInfo) (z : Value) (size bytes : Nat) (ht : P.underlying t = some (.slice e)) (hi : P.info? e = some i) (hz : i.zero = some z)
  (hsize : i.size = size) (hby : i.bytes = bytes) (hzs : z.cells.size = size) (hsz : 0 < size) (hbb : bytes ≤ 1000)
  (v : Value) (n : Nat) (xs : List Value) (hs : a.eval s = v) (hown : w.ownsRow base e size v n xs) (hn : n ≤ 1048576)
  (u : Value) (B m : Nat) (news : List Value) (hx : a.eval x = u) (hsrc : SrcAt w B size m u news) (hbase : base ≤ w.heap.size)
  (h : ∀ v' w', w'.ownsRow base e size v' (n + m) (xs ++ news) → w.grownBy w' v.ownBlock → (v'.ownBlock = v.ownBlock ∨ ∀ g, v'.ownBlock = some g → w.heap.size ≤ g) → wpList P ops Q rest (a.put o.dst v') w') : wpList P ops Q (o :: rest) a w := by
 refine wpList_plain hgd fun K hK => ?_
 have hst := step_append_S (P := P) (ops := ops) (o := o) (a := a) (w := w) (K := K) (Q := Q) (E := True) hgd s x t ho base e i z size bytes ht hi hz hsize hby hzs hsz hbb v n xs hs hown hn u B m news hx hsrc hbase (fun v' w' g1 g2 g3 => hK _ _ (h v' w' g1 g2 g3))
 rw [if_pos (by simp [Region.wanted, hgd])] at hst
 exact hst
theorem SrcAt.fore {w : World} {B s n c k : Nat} {a : Option Addr} {xs : List Value} (h : SrcAt w B s n (.slice a n c) xs) (hk : k ≤ n) : SrcAt w B s k (.slice a k c) (xs.take (k * s)) := by
 obtain ⟨h1, h2, h3, ad, c', e, h4, h6, h5⟩ := h
 simp only [Value.slice.injEq] at e
 obtain ⟨rfl, _, rfl⟩ := e
 have hks : k * s ≤ n * s := Nat.mul_le_mul_right s hk
 refine ⟨by rw [List.length_take]; omega, by omega, fun u hu => h3 u (List.mem_of_mem_take hu), a, c, rfl, fun e => by have := h4 e; omega, fun h0 => h6 (by rw [List.length_take] at h0; omega), fun x hx j u hj => h5 x hx j u ?_⟩
 rw [List.getElem?_take] at hj
 split at hj
 ·exact hj
 ·cases hj
theorem SrcAt.rest {w : World} {B s n c k : Nat} {a : Option Addr} {xs : List Value} (h : SrcAt w B s n (.slice a n c) xs) (hk : k ≤ n) (hc : n ≤ c) : SrcAt w B s (n - k) (.slice (if c = k then a else a.map (fun x => x.add (k * s))) (n - k) (c - k)) (xs.drop (k * s)) := by
 obtain ⟨h1, h2, h3, ad, c', e, h4, h6, h5⟩ := h
 simp only [Value.slice.injEq] at e
 obtain ⟨rfl, _, rfl⟩ := e
 have hl : (xs.drop (k * s)).length = (n - k) * s := by rw [List.length_drop, h1, Nat.sub_mul]
 refine ⟨hl, by omega, fun u hu => h3 u (List.mem_of_mem_drop hu), _, _, rfl, fun e => ?_, fun h0 => ?_, fun x hx j u hj => ?_⟩
 ·split at e
  ·omega
  ·cases a with
   | none => have := h4 rfl; omega
   | some y => cases e
 ·have hx0 : 0 < xs.length := by rw [List.length_drop] at h0; omega
  obtain ⟨b, off, rfl⟩ := h6 hx0
  split
  ·exact ⟨b, off, rfl⟩
  ·exact ⟨b, off + k * s, by rw [Option.map_some, addr_add]⟩
 ·have hjl := (List.getElem?_eq_some_iff.1 hj).1
  have hx0 : 0 < xs.length := by rw [List.length_drop] at hjl; omega
  obtain ⟨b, off, rfl⟩ := h6 hx0
  rw [List.getElem?_drop] at hj
  have h9 := h5 _ rfl (k * s + j) u hj
  split at hx
  ·have : n - k = 0 := by omega
   rw [hl, this] at hjl
   simp at hjl
  ·rw [Option.map_some, addr_add] at hx
   simp only [Option.some.injEq] at hx
   subst hx
   rw [addr_add, Nat.add_assoc]
   rw [addr_add] at h9
   exact h9
end Go.Proofs.YtbgbokgomheodaaGreat
