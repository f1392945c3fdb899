import Derived.Test.YtpmagndofiaooaaTlg
namespace Go.Proofs.Ytpmagndofiaooaa
open Go.RowKit
set_option linter.unusedVariables false
set_option linter.unusedSimpArgs false
set_option maxRecDepth 100000

set_option maxHeartbeats 2000000 in
theorem l3Deep_any (ts : List TN) (hm : ts.length ≤ 1000) (a : Option Addr) (n c A B : Nat) (w : World) (hB : B ≤ w.heap.size) (hT : NodesAt w A B a n c ts) :
    Calls Try.prog 44 #[.agg #[.slice a n c]] w fun e w' => ∃ ka kn kc va vn vc oa on oc ya yc css, e = .returned (.tuple #[.agg #[.bool (rd ts (ts.length + 1) 0).1.leaf, .int .i64 (rd ts (ts.length + 1) 0).1.page, .slice ka kn kc, .slice va vn vc, .slice oa on oc, .slice ya (rd ts (ts.length + 1) 0).1.kids.length yc], .bool (!(rd ts (ts.length + 1) 0).2.2 && decide ((rd ts (ts.length + 1) 0).2.1 = n))]) ∧ NodeX w' A B (fun b => w.heap.size ≤ b ∧ b < w'.heap.size) (rd ts (ts.length + 1) 0).1 ka kn kc va vn vc oa on oc ya yc css ∧ Below w.heap.size w w' := by
  obtain ⟨N, hN⟩ : ∃ N, w.heap.size = N := ⟨_, rfl⟩
  have a3 := alloc3 w (.cells #[.slice a n c] 26) (.cells #[.bool false, .int .i64 0, .slice none 0 0, .slice none 0 0, .slice none 0 0, .slice none 0 0] 61) (.cells #[.slice a n c, .int .i64 0, .bool false] 111)
  have b3 : Below w.heap.size w (((w.alloc (.cells #[.slice a n c] 26)).alloc (.cells #[.bool false, .int .i64 0, .slice none 0 0, .slice none 0 0, .slice none 0 0, .slice none 0 0] 61)).alloc (.cells #[.slice a n c, .int .i64 0, .bool false] 111)) := (((Below.refl _ _).alloc (Nat.le_refl _) _).alloc (by simp) _).alloc (by simp; omega) _
  have z3 : (((w.alloc (.cells #[.slice a n c] 26)).alloc (.cells #[.bool false, .int .i64 0, .slice none 0 0, .slice none 0 0, .slice none 0 0, .slice none 0 0] 61)).alloc (.cells #[.slice a n c, .int .i64 0, .bool false] 111)).heap.size = N + 3 := by simp [hN]
  rw [hN] at a3
  have hl := hT.1
  have HL : Hid (ts.length = n) := hl
  have hn1 : n ≤ 1000 := by omega
  clear hl
  go_enter Try.func44, Try.ntmps44
  go_wp2_with fail
  generalize (((w.alloc (.cells #[.slice a n c] 26)).alloc (.cells #[.bool false, .int .i64 0, .slice none 0 0, .slice none 0 0, .slice none 0 0, .slice none 0 0] 61)).alloc (.cells #[.slice a n c, .int .i64 0, .bool false] 111)) = W0 at a3 b3 z3 ⊢
  have hread := l3Read_any ts hm a n c A B (N + 1 + 1) (ts.length + 1) 0 W0 (Nat.zero_le _) (by omega) (by omega) (hT.below (b3.mono hB)) (by omega) (by simpa using a3.2.2)
  refine hread.mono ?_
  rintro e w1 hRA
  obtain ⟨ka, kn, kc, va, vn, vc, oa, on, oc, ya, yc, css, rfl, hX⟩ := hRA.ex
  have W1 := hRA.wk
  have F1 := hRA.fr
  have s1 := F1.size
  have T1 := (F1.block N (by omega) (by omega)).trans a3.1
  have R1 := (F1.block (N + 1) (by omega) (by omega)).trans a3.2.1
  have HX : Hid (NodeX w1 A B (fun b => W0.heap.size ≤ b ∧ b < w1.heap.size) (rd ts (ts.length + 1) 0).1 ka kn kc va vn vc oa on oc ya yc css) := hX
  obtain ⟨t, ht⟩ : ∃ t, t = (rd ts (ts.length + 1) 0).1 := ⟨_, rfl⟩
  obtain ⟨nj, hnj⟩ : ∃ x, x = (rd ts (ts.length + 1) 0).2.1 := ⟨_, rfl⟩
  obtain ⟨bd, hbd⟩ : ∃ x, x = (rd ts (ts.length + 1) 0).2.2 := ⟨_, rfl⟩
  have HR : Hid (t = (rd ts (ts.length + 1) 0).1 ∧ nj = (rd ts (ts.length + 1) 0).2.1 ∧ bd = (rd ts (ts.length + 1) 0).2.2) := ⟨ht, hnj, hbd⟩
  rw [← ht]
  rw [← ht] at HX
  rw [← hnj, ← hbd] at W1
  clear hX hRA hread ht hnj hbd hT
  generalize hlf : t.leaf = lf
  generalize hpg : t.page = pg
  generalize hyn : t.kids.length = yn
  have HQ : Hid (t.leaf = lf ∧ t.page = pg ∧ t.kids.length = yn) := ⟨hlf, hpg, hyn⟩
  clear hlf hpg hyn
  have hal := (Below.refl w1.heap.size w1).alloc (Nat.le_refl _) (.cells #[.bool lf, .int .i64 pg, .slice ka kn kc, .slice va vn vc, .slice oa on oc, .slice ya yn yc] 61)
  have N2 := heap_alloc_new w1 (.cells #[.bool lf, .int .i64 pg, .slice ka kn kc, .slice va vn vc, .slice oa on oc, .slice ya yn yc] 61)
  have s2 : (w1.alloc (.cells #[.bool lf, .int .i64 pg, .slice ka kn kc, .slice va vn vc, .slice oa on oc, .slice ya yn yc] 61)).heap.size = w1.heap.size + 1 := by simp
  have T2 := (hal.block N (by omega)).trans T1
  have R2 := (hal.block (N + 1) (by omega)).trans R1
  have W2 := (hal.block (N + 1 + 1) (by omega)).trans W1
  go_upto_region 3 with fail
  generalize w1.alloc (.cells #[.bool lf, .int .i64 pg, .slice ka kn kc, .slice va vn vc, .slice oa on oc, .slice ya yn yc] 61) = W2' at hal N2 s2 T2 R2 W2 ⊢
  obtain ⟨M, hM⟩ : ∃ M, w1.heap.size = M := ⟨_, rfl⟩
  rw [hM] at N2 s2
  obtain ⟨n0, n1, n2, n3, n4, n5⟩ := box6 N2
  obtain ⟨r0, r1, r2, r3, r4, r5⟩ := box6 R2
  obtain ⟨x0, x1, x2⟩ := box3w W2
  have t0 : W2'.cell? ⟨N, 0, none⟩ = some (.slice a n c) := by simp [World.cell?, T2]
  have fr := thawT R2
  have l0 : N < W2'.heap.size := by omega
  have l1 : N + 1 < W2'.heap.size := by omega
  have l2 : N + 1 + 1 < W2'.heap.size := by omega
  have l3 : M < W2'.heap.size := by omega
  rw [hM]
  have hMN : M ≠ N + 1 := by omega
  have hMN2 : N + 1 ≠ M := by omega
  have hput := put6T_fr W2'.drew (N + 1) (.bool lf) (.int .i64 pg) (.slice ka kn kc) (.slice va vn vc) (.slice oa on oc) (.slice ya yn yc)
  have hput2 := put6T_fr W2' (N + 1) (.bool lf) (.int .i64 pg) (.slice ka kn kc) (.slice va vn vc) (.slice oa on oc) (.slice ya yn yc)
  have HBX : Hid _ := put6T_box (w := W2'.drew) R2 (.bool lf) (.int .i64 pg) (.slice ka kn kc) (.slice va vn vc) (.slice oa on oc) (.slice ya yn yc)
  have HBY : Hid _ := put6T_box R2 (.bool lf) (.int .i64 pg) (.slice ka kn kc) (.slice va vn vc) (.slice oa on oc) (.slice ya yn yc)
  have HEND : Hid (∀ X, Fr (fun k => k = N + 1) W2' X → ∀ ans, ans = (!bd && decide (nj = n)) → ∃ ka' kn' kc' va' vn' vc' oa' on' oc' ya' yc' css', Ending.returned (.tuple #[.agg #[.bool lf, .int .i64 pg, .slice ka kn kc, .slice va vn vc, .slice oa on oc, .slice ya yn yc], .bool ans]) = .returned (.tuple #[.agg #[.bool (rd ts (ts.length + 1) 0).1.leaf, .int .i64 (rd ts (ts.length + 1) 0).1.page, .slice ka' kn' kc', .slice va' vn' vc', .slice oa' on' oc', .slice ya' (rd ts (ts.length + 1) 0).1.kids.length yc'], .bool (!(rd ts (ts.length + 1) 0).2.2 && decide ((rd ts (ts.length + 1) 0).2.1 = n))]) ∧ NodeX X A B (fun b => w.heap.size ≤ b ∧ b < X.heap.size) (rd ts (ts.length + 1) 0).1 ka' kn' kc' va' vn' vc' oa' on' oc' ya' yc' css' ∧ Below w.heap.size w X) := by
    intro X hX ans hans
    obtain ⟨q1, q2, q3⟩ := HR.out
    obtain ⟨g1, g2, g3⟩ := HQ.out
    refine ⟨ka, kn, kc, va, vn, vc, oa, on, oc, ya, yc, css, ?_, ?_, ?_⟩
    · rw [← q1, ← q2, ← q3, g1, g2, g3, hans]
    · rw [← q1]
      have hkk : ∀ k, k < w1.heap.size → k ≠ N + 1 → X.heap[k]? = w1.heap[k]? := fun k hk1 hk2 => (hX.block k (by omega) hk2).trans (hal.block k hk1)
      have hss := hX.size
      exact HX.out.weaken (fun k h1 h2 => hkk k (by omega) (by omega)) (fun b hb => hkk b hb.2 (by omega)) (fun b hb => ⟨by omega, by omega⟩)
    · have hb1 : Below w.heap.size w w1 := b3.trans (F1.below (by omega) (fun g e => by omega))
      have hb2 := hb1.trans (hal.mono (by omega))
      exact hb2.trans (hX.below (by omega) (fun g e => by omega))
  have HF1 : Hid _ := hput
  have HF2 : Hid _ := hput2
  cases bd
  · go_region_held3 (fun w' => w'.cell? ⟨N + 1 + 1, 2, none⟩ = some (.bool false) ∧ w'.cell? ⟨N + 1 + 1, 1, none⟩ = some (.int .i64 nj) ∧ w'.cell? ⟨N, 0, none⟩ = some (.slice a n c) ∧ w'.cell? ⟨M, 0, none⟩ = some (.bool lf) ∧ w'.cell? ⟨M, 1, none⟩ = some (.int .i64 pg) ∧ w'.cell? ⟨M, 2, none⟩ = some (.slice ka kn kc) ∧ w'.cell? ⟨M, 3, none⟩ = some (.slice va vn vc) ∧ w'.cell? ⟨M, 4, none⟩ = some (.slice oa on oc) ∧ w'.cell? ⟨M, 5, none⟩ = some (.slice ya yn yc)) (go_keep) (fail)
    clear hput hput2
    go_wp2_with fail
    show bodyPost _ _ _ _ _ (put6T W2' (N + 1) (.bool lf) (.int .i64 pg) (.slice ka kn kc) (.slice va vn vc) (.slice oa on oc) (.slice ya yn yc)).drew
    generalize put6T W2' (N + 1) (.bool lf) (.int .i64 pg) (.slice ka kn kc) (.slice va vn vc) (.slice oa on oc) (.slice ya yn yc) = Y at HBY HF2 ⊢
    obtain ⟨p0, p1, p2, p3, p4, p5⟩ := box6 (w := Y.drew) HBY.out
    refine bodyPost_ret (v := .tuple #[.agg #[.bool lf, .int .i64 pg, .slice ka kn kc, .slice va vn vc, .slice oa on oc, .slice ya yn yc], .bool ((nj : Int) == (n : Int))]) (by simp [results, Try.results44, go_sem, p0, p1, p2, p3, p4, p5]) rfl ?_
    exact HEND.out Y.drew ⟨HF2.out.os, HF2.out.tape, HF2.out.output, HF2.out.size, HF2.out.block⟩ ((nj : Int) == (n : Int)) (by have := HR.out; have := HL.out; simp; by_cases h : nj = n <;> simp [h]; omega)
  · clear n0 n1 n2 n3 n4 n5 r0 r1 r2 r3 r4 r5 x0 x1 x2 t0
    obtain ⟨r0, r1, r2, r3, r4, r5⟩ := box6 R2
    refine wp_region_noPanic ?_
    refine wp_region_held_drew (S := (fun w' => w'.heap[M]? = some (.cells #[.bool lf, .int .i64 pg, .slice ka kn kc, .slice va vn vc, .slice oa on oc, .slice ya yn yc] 61) ∧ w'.heap[N + 1 + 1]? = some (.cells #[.slice a n c, .int .i64 nj, .bool true] 111))) (by kernel_rfl) ⟨N2, W2⟩ (fun hHeld => ?_)
    refine wpAnyH_take (i := 0) (oi := { dst := some 11, op := Op.load 61 (Operand.tmp 5), type := 61, pos := "l3_tree.go:102", after := #[], guard := none }) (v := .agg #[.bool lf, .int .i64 pg, .slice ka kn kc, .slice va vn vc, .slice oa on oc, .slice ya yn yc]) rfl (by kernel_rfl) (by kernel_rfl) (by kernel_rfl) (fun _ _ _ h => h) (Or.inl ⟨by rfl, ?_⟩) (by assumption) ?_
    · intro wq hSw; (try dsimp only at hSw); obtain ⟨q0, q1, q2, q3, q4, q5⟩ := box6 hSw.1; go_simp
    try simp only [Act.put, List.setIfInBounds_toArray, List.set_cons_zero, List.set_cons_succ]
    refine wpAnyH_take (i := 1) (oi := { dst := some 12, op := Op.move (Operand.tmp 4), type := 109, pos := "l3_tree.go:102", after := #[], guard := none }) (v := .pointer (some ⟨N + 1 + 1, 0, none⟩)) rfl (by kernel_rfl) (by kernel_rfl) (by kernel_rfl) (fun _ _ _ h => h) (Or.inl ⟨by rfl, ?_⟩) (by assumption) ?_
    · intro wq hSw; (try dsimp only at hSw); go_simp
    try simp only [Act.put, List.setIfInBounds_toArray, List.set_cons_zero, List.set_cons_succ]
    refine wpAnyH_take (i := 2) (oi := { dst := some 13, op := Op.nilCheck (Operand.tmp 12), type := 0, pos := "l3_tree.go:102", after := #[{ on := 1, ground := Ground.data }], guard := none }) (v := .pointer (some ⟨N + 1 + 1, 0, none⟩)) rfl (by kernel_rfl) (by kernel_rfl) (by kernel_rfl) (fun _ _ _ h => h) (Or.inl ⟨by rfl, ?_⟩) (by assumption) ?_
    · intro wq hSw; (try dsimp only at hSw); go_simp
    try simp only [Act.put, List.setIfInBounds_toArray, List.set_cons_zero, List.set_cons_succ]
    refine wpAnyH_take (i := 3) (oi := { dst := some 14, op := Op.fieldAddr 111 (Operand.tmp 13) 2, type := 0, pos := "l3_tree.go:102", after := #[{ on := 2, ground := Ground.data }], guard := none }) (v := .pointer (some ⟨N + 1 + 1, 2, none⟩)) rfl (by kernel_rfl) (by kernel_rfl) (by kernel_rfl) (fun _ _ _ h => h) (Or.inl ⟨by rfl, ?_⟩) (by assumption) ?_
    · intro wq hSw; (try dsimp only at hSw); go_simp
    try simp only [Act.put, List.setIfInBounds_toArray, List.set_cons_zero, List.set_cons_succ]
    refine wpAnyH_take (i := 4) (oi := { dst := some 15, op := Op.load 4 (Operand.tmp 14), type := 4, pos := "l3_tree.go:102", after := #[{ on := 3, ground := Ground.data }], guard := none }) (v := .bool true) rfl (by kernel_rfl) (by kernel_rfl) (by kernel_rfl) (fun _ _ _ h => h) (Or.inl ⟨by rfl, ?_⟩) (by assumption) ?_
    · intro wq hSw; (try dsimp only at hSw); obtain ⟨q0, q1, q2⟩ := box3w hSw.2; go_simp
    try simp only [Act.put, List.setIfInBounds_toArray, List.set_cons_zero, List.set_cons_succ]
    refine wpAnyH_take (i := 5) (oi := { dst := some 16, op := Op.unOp UnOp.not 4 (Operand.tmp 15), type := 4, pos := "l3_tree.go:102", after := #[{ on := 4, ground := Ground.data }], guard := none }) (v := .bool false) rfl (by kernel_rfl) (by kernel_rfl) (by kernel_rfl) (fun _ _ _ h => h) (Or.inl ⟨by rfl, ?_⟩) (by assumption) ?_
    · intro wq hSw; (try dsimp only at hSw); go_simp
    try simp only [Act.put, List.setIfInBounds_toArray, List.set_cons_zero, List.set_cons_succ]
    refine wpAnyH_take (i := 6) (oi := { dst := some 17, op := Op.move (Operand.tmp 16), type := 4, pos := "l3_tree.go:102", after := #[{ on := 5, ground := Ground.data }], guard := none }) (v := .bool false) rfl (by kernel_rfl) (by kernel_rfl) (by kernel_rfl) (fun _ _ _ h => h) (Or.inl ⟨by rfl, ?_⟩) (by assumption) ?_
    · intro wq hSw; (try dsimp only at hSw); go_simp
    try simp only [Act.put, List.setIfInBounds_toArray, List.set_cons_zero, List.set_cons_succ]
    refine wpAnyH_take (i := 7) (oi := { dst := some 18, op := Op.move (Operand.tmp 4), type := 109, pos := "l3_tree.go:102", after := #[{ on := 6, ground := Ground.guard }, { on := 16, ground := Ground.gcOnly Departure.lateStores }], guard := some (6, true) }) (v := undef) rfl (by kernel_rfl) (by kernel_rfl) (by kernel_rfl) (fun _ _ _ h => h) (Or.inr ⟨by rfl, rfl⟩) (by assumption) ?_
    try simp only [Act.put, List.setIfInBounds_toArray, List.set_cons_zero, List.set_cons_succ]
    refine wpAnyH_take (i := 8) (oi := { dst := some 19, op := Op.nilCheck (Operand.tmp 18), type := 0, pos := "l3_tree.go:102", after := #[{ on := 7, ground := Ground.data }, { on := 6, ground := Ground.guard }, { on := 16, ground := Ground.gcOnly Departure.lateStores }], guard := some (6, true) }) (v := undef) rfl (by kernel_rfl) (by kernel_rfl) (by kernel_rfl) (fun _ _ _ h => h) (Or.inr ⟨by rfl, rfl⟩) (by assumption) ?_
    try simp only [Act.put, List.setIfInBounds_toArray, List.set_cons_zero, List.set_cons_succ]
    refine wpAnyH_take (i := 9) (oi := { dst := some 20, op := Op.fieldAddr 111 (Operand.tmp 19) 1, type := 0, pos := "l3_tree.go:102", after := #[{ on := 8, ground := Ground.data }, { on := 6, ground := Ground.guard }, { on := 16, ground := Ground.gcOnly Departure.lateStores }], guard := some (6, true) }) (v := undef) rfl (by kernel_rfl) (by kernel_rfl) (by kernel_rfl) (fun _ _ _ h => h) (Or.inr ⟨by rfl, rfl⟩) (by assumption) ?_
    try simp only [Act.put, List.setIfInBounds_toArray, List.set_cons_zero, List.set_cons_succ]
    refine wpAnyH_take (i := 10) (oi := { dst := some 21, op := Op.load 2 (Operand.tmp 20), type := 2, pos := "l3_tree.go:102", after := #[{ on := 9, ground := Ground.data }, { on := 6, ground := Ground.guard }, { on := 16, ground := Ground.gcOnly Departure.lateStores }], guard := some (6, true) }) (v := undef) rfl (by kernel_rfl) (by kernel_rfl) (by kernel_rfl) (fun _ _ _ h => h) (Or.inr ⟨by rfl, rfl⟩) (by assumption) ?_
    try simp only [Act.put, List.setIfInBounds_toArray, List.set_cons_zero, List.set_cons_succ]
    refine wpAnyH_take (i := 11) (oi := { dst := some 22, op := Op.fieldAddr 26 (Operand.tmp 1) 0, type := 0, pos := "l3_tree.go:102", after := #[{ on := 6, ground := Ground.guard }], guard := some (6, true) }) (v := undef) rfl (by kernel_rfl) (by kernel_rfl) (by kernel_rfl) (fun _ _ _ h => h) (Or.inr ⟨by rfl, rfl⟩) (by assumption) ?_
    try simp only [Act.put, List.setIfInBounds_toArray, List.set_cons_zero, List.set_cons_succ]
    refine wpAnyH_take (i := 12) (oi := { dst := some 23, op := Op.load 24 (Operand.tmp 22), type := 24, pos := "l3_tree.go:102", after := #[{ on := 11, ground := Ground.data }, { on := 6, ground := Ground.guard }], guard := some (6, true) }) (v := undef) rfl (by kernel_rfl) (by kernel_rfl) (by kernel_rfl) (fun _ _ _ h => h) (Or.inr ⟨by rfl, rfl⟩) (by assumption) ?_
    try simp only [Act.put, List.setIfInBounds_toArray, List.set_cons_zero, List.set_cons_succ]
    refine wpAnyH_take (i := 13) (oi := { dst := some 24, op := Op.call { callee := Callee.builtin Builtin.len, args := #[Operand.tmp 23], argTypes := #[24] }, type := 3, pos := "l3_tree.go:102", after := #[{ on := 12, ground := Ground.data }, { on := 6, ground := Ground.guard }], guard := some (6, true) }) (v := undef) rfl (by kernel_rfl) (by kernel_rfl) (by kernel_rfl) (fun _ _ _ h => h) (Or.inr ⟨by rfl, rfl⟩) (by assumption) ?_
    try simp only [Act.put, List.setIfInBounds_toArray, List.set_cons_zero, List.set_cons_succ]
    refine wpAnyH_take (i := 14) (oi := { dst := some 25, op := Op.binOp BinOp.eql 2 (Operand.tmp 21) (Operand.tmp 24) 2, type := 4, pos := "l3_tree.go:102", after := #[{ on := 10, ground := Ground.data }, { on := 13, ground := Ground.data }, { on := 6, ground := Ground.guard }, { on := 16, ground := Ground.gcOnly Departure.lateStores }], guard := some (6, true) }) (v := undef) rfl (by kernel_rfl) (by kernel_rfl) (by kernel_rfl) (fun _ _ _ h => h) (Or.inr ⟨by rfl, rfl⟩) (by assumption) ?_
    try simp only [Act.put, List.setIfInBounds_toArray, List.set_cons_zero, List.set_cons_succ]
    refine wpAnyH_take (i := 15) (oi := { dst := some 26, op := Op.pick (Operand.tmp 17) (Operand.tmp 25) (Operand.const (Value.bool false)), type := 4, pos := "l3_tree.go:102", after := #[{ on := 6, ground := Ground.data }, { on := 14, ground := Ground.data }, { on := 16, ground := Ground.gcOnly Departure.lateStores }], guard := none }) (v := .bool false) rfl (by kernel_rfl) (by kernel_rfl) (by kernel_rfl) (fun _ _ _ h => h) (Or.inl ⟨by rfl, ?_⟩) (by assumption) ?_
    · intro wq hSw; (try dsimp only at hSw); go_simp
    try simp only [Act.put, List.setIfInBounds_toArray, List.set_cons_zero, List.set_cons_succ]
    refine wpAnyH_ready (rs := [16]) (by kernel_rfl) (by simp) ?_
    refine AllReadyH.cons (o := { dst := none, op := Op.store 61 (Operand.tmp 2) (Operand.tmp 11), type := 0, pos := "l3_tree.go:102", after := #[{ on := 0, ground := Ground.data }, { on := 6, ground := Ground.chain }, { on := 0, ground := Ground.phase }, { on := 1, ground := Ground.textOnly Departure.lateStores }, { on := 2, ground := Ground.textOnly Departure.lateStores }, { on := 3, ground := Ground.textOnly Departure.lateStores }, { on := 4, ground := Ground.textOnly Departure.lateStores }, { on := 5, ground := Ground.textOnly Departure.lateStores }, { on := 6, ground := Ground.textOnly Departure.lateStores }, { on := 7, ground := Ground.textOnly Departure.lateStores }, { on := 8, ground := Ground.textOnly Departure.lateStores }, { on := 9, ground := Ground.textOnly Departure.lateStores }, { on := 10, ground := Ground.textOnly Departure.lateStores }, { on := 11, ground := Ground.textOnly Departure.lateStores }, { on := 12, ground := Ground.textOnly Departure.lateStores }, { on := 13, ground := Ground.textOnly Departure.lateStoresUnsure }, { on := 14, ground := Ground.textOnly Departure.lateStores }, { on := 15, ground := Ground.textOnly Departure.lateStores }], guard := none }) rfl (fun K hK => ?_) AllReadyH.nil
    go_simp
    go_wp2_with fail
    show K _ (put6T W2' (N + 1) (.bool lf) (.int .i64 pg) (.slice ka kn kc) (.slice va vn vc) (.slice oa on oc) (.slice ya yn yc)).drew
    clear hput hput2 HBX HF1
    generalize put6T W2' (N + 1) (.bool lf) (.int .i64 pg) (.slice ka kn kc) (.slice va vn vc) (.slice oa on oc) (.slice ya yn yc) = Y at HBY HF2 ⊢
    refine hK.out _ _ ⟨(HF2.out.block M l3 hMN).trans N2, (HF2.out.block (N + 1 + 1) l2 (by omega)).trans W2⟩ (fun hHeld => ?_)
    clear hK K
    try simp only [Act.put, List.setIfInBounds_toArray, List.set_cons_zero, List.set_cons_succ]
    refine wpAnyH_take (i := 17) (oi := { dst := some 3, op := Op.assign (Operand.tmp 26), type := 4, pos := "l3_tree.go:102", after := #[{ on := 15, ground := Ground.data }, { on := 16, ground := Ground.chain }, { on := 0, ground := Ground.phase }, { on := 1, ground := Ground.phase }, { on := 2, ground := Ground.phase }, { on := 3, ground := Ground.phase }, { on := 4, ground := Ground.phase }, { on := 5, ground := Ground.phase }, { on := 6, ground := Ground.phase }, { on := 7, ground := Ground.phase }, { on := 8, ground := Ground.phase }, { on := 9, ground := Ground.phase }, { on := 10, ground := Ground.phase }, { on := 11, ground := Ground.phase }, { on := 12, ground := Ground.phase }, { on := 13, ground := Ground.phase }, { on := 14, ground := Ground.phase }, { on := 15, ground := Ground.phase }, { on := 16, ground := Ground.phase }], guard := none }) (v := .bool false) rfl (by kernel_rfl) (by kernel_rfl) (by kernel_rfl) (fun _ _ _ h => h) (Or.inl ⟨by rfl, ?_⟩) (by assumption) ?_
    · intro wq hSw; (try dsimp only at hSw); go_simp
    try simp only [Act.put, List.setIfInBounds_toArray, List.set_cons_zero, List.set_cons_succ]
    refine wpAnyH_done (by kernel_rfl) ?_ _
    refine NoPanic.normal ?_
    go_wp2_with fail
    obtain ⟨p0, p1, p2, p3, p4, p5⟩ := box6 (w := Y.drew) HBY.out
    refine bodyPost_ret (v := .tuple #[.agg #[.bool lf, .int .i64 pg, .slice ka kn kc, .slice va vn vc, .slice oa on oc, .slice ya yn yc], .bool false]) (by simp [results, Try.results44, go_sem, p0, p1, p2, p3, p4, p5]) rfl ?_
    exact HEND.out Y.drew ⟨HF2.out.os, HF2.out.tape, HF2.out.output, HF2.out.size, HF2.out.block⟩ false (by have := HR.out; have := HL.out; rfl)
end Go.Proofs.Ytpmagndofiaooaa
