import Derived.Test.YtpmagndofiaooaaTlq
import Derived.Test.YtpmagndofiaooaaTlh
import Derived.Test.YtpmagndofiaooaaTpw
namespace Go.Proofs.Ytpmagndofiaooaa
open Go.RowKit
set_option linter.unusedVariables false
set_option linter.unusedSimpArgs false
set_option maxRecDepth 100000

theorem cell_one_at {w : World} {g : Nat} {v : Value} {t : TypeId} (h : w.heap[g]? = some (.cells #[v] t)) : w.cell? ⟨g, 0, none⟩ = some v := by simp [World.cell?, h]
theorem NodeX.wide {w w' : World} {A B A' B' : Nat} {P Q : Nat → Prop} {t : T} {ka : Option Addr} {kn kc : Nat} {va : Option Addr} {vn vc : Nat} {oa : Option Addr} {on oc : Nat} {ya : Option Addr} {yc : Nat} {css : Nat → List Value} (h : NodeX w A B P t ka kn kc va vn vc oa on oc ya yc css) (hk : Keeps A B w w') (hp : ∀ b, P b → w'.heap[b]? = w.heap[b]?) (hQ : ∀ b, P b → Q b) (hA : A' ≤ A) (hB : B ≤ B') : NodeX w' A' B' Q t ka kn kc va vn vc oa on oc ya yc css :=
  ⟨h.page, (h.keys.keep hk).up hA hB, (h.vals.keep hk).up hA hB, (h.over.keep hk).up hA hB, h.cap, fun hn => by
    obtain ⟨b, off, e, hb, hc⟩ := h.cell hn
    exact ⟨b, off, e, hQ b hb, fun i hi j hj => (World.cell?_of_block (w := w) (a := ⟨b, off + i * 6 + j, none⟩) (hp b hb)).trans (hc i hi j hj)⟩, fun i k hm hi => NodeIs.keep hk hp hQ hA hB k _ (h.kid i k hm hi)⟩
theorem binOp_geqT (t : TypeId) (a b : ByteArray) : binOp .geq t (.string a) (.string b) = pure (.bool !(Op.bytesLess a.toList b.toList)) := by simp [binOp, Op.stringOp]
theorem info_boolT : (Try.prog.info? 4).map (fun i => (i.zero, i.size, i.bytes)) = some (some (.bool false), 1, 1) := by kernel_rfl
/-- The answer says whether it holds. -/
def SaysB (P : Prop) (w : World) (e : Ending) (w' : World) : Prop := ∃ r, e = .returned (.bool r) ∧ (r = true ↔ P) ∧ Below w.heap.size w w'
theorem SaysB.no {P : Prop} {w w' : World} (h : ¬ P) (hb : Below w.heap.size w w') : SaysB P w (.returned (.bool false)) w' := ⟨false, rfl, by simp [h], hb⟩
theorem SaysB.yes {P : Prop} {w w' : World} (h : P) (hb : Below w.heap.size w w') : SaysB P w (.returned (.bool true)) w' := ⟨true, rfl, by simp [h], hb⟩
set_option maxHeartbeats 8000000 in
theorem specValidT_any (ts : List TN) (a : Option Addr) (n c A B : Nat) (w : World) (hB : B ≤ w.heap.size) (hT : NodesAt w A B a n c ts) :
    Calls Try.prog 17 #[.agg #[.slice a n c]] w fun e w' => SaysB (SpecOk ts) w e w' := by
  obtain ⟨N, hN⟩ : ∃ N, w.heap.size = N := ⟨_, rfl⟩
  have k0 := heap_alloc_new w (.cells #[.slice a n c] 26)
  have b0 := (Below.refl w.heap.size w).alloc (Nat.le_refl _) (.cells #[.slice a n c] 26)
  have z0 : (w.alloc (.cells #[.slice a n c] 26)).heap.size = N + 1 := by simp [hN]
  rw [hN] at k0
  have HL : Hid (ts.length = n) := hT.1
  have hc := Nat.le_trans hT.2.1 hT.2.2.1
  unfold maxLen at hc
  have hT0 := hT.below (b0.mono hB)
  clear hT
  go_enter Try.func17, Try.ntmps17
  go_upto_region 1 with fail
  generalize w.alloc (.cells #[.slice a n c] 26) = W0 at k0 b0 z0 hT0 ⊢
  have x0 := cell_one_at k0
  have l0 : N < W0.heap.size := by omega
  by_cases t1 : n < 1
  · have HNO : Hid (¬ SpecOk ts) := fun h => by have := h.1; have := HL.out; omega
    go_wp2_with fail
    go_ret
    exact SaysB.no HNO.out b0
  by_cases t2 : 1000 < n
  · have HNO : Hid (¬ SpecOk ts) := fun h => by have := h.1; have := HL.out; omega
    go_wp2_with fail
    go_ret
    exact SaysB.no HNO.out b0
  have hdeep := l3Deep_any ts (by have := HL.out; omega) a n c A B W0 (by omega) hT0
  go_upto_region 4 with (go_at_call 44; refine hdeep.mono ?_; rintro e w1 ⟨ka, kn, kc, va, vn, vc, oa, on, oc, ya, yc, css, rfl, hX1, hb1⟩)
  clear hdeep x0
  obtain ⟨t, ht⟩ : ∃ t, (rd ts (ts.length + 1) 0).1 = t := ⟨_, rfl⟩
  obtain ⟨nj, hnj⟩ : ∃ nj, (rd ts (ts.length + 1) 0).2.1 = nj := ⟨_, rfl⟩
  obtain ⟨bd, hbd⟩ : ∃ bd, (rd ts (ts.length + 1) 0).2.2 = bd := ⟨_, rfl⟩
  have HR : Hid (rd ts (ts.length + 1) 0 = (t, nj, bd)) := by show _ = _; rw [← ht, ← hnj, ← hbd]
  rw [ht] at hX1 ⊢
  rw [hnj, hbd]
  clear ht hnj hbd
  obtain ⟨ok, hok⟩ : ∃ ok, (!bd && decide (nj = n)) = ok := ⟨_, rfl⟩
  have HOK : Hid ((!bd && decide (nj = n)) = ok) := hok
  rw [hok]
  clear hok
  obtain ⟨M, hM⟩ : ∃ M, w1.heap.size = M := ⟨_, rfl⟩
  have hs1 := hb1.size
  have ab := (Below.refl w1.heap.size w1).alloc (Nat.le_refl _) (.cells #[.bool t.leaf, .int .i64 t.page, .slice ka kn kc, .slice va vn vc, .slice oa on oc, .slice ya t.kids.length yc] 61)
  have kM := heap_alloc_new w1 (.cells #[.bool t.leaf, .int .i64 t.page, .slice ka kn kc, .slice va vn vc, .slice oa on oc, .slice ya t.kids.length yc] 61)
  have zM : (w1.alloc (.cells #[.bool t.leaf, .int .i64 t.page, .slice ka kn kc, .slice va vn vc, .slice oa on oc, .slice ya t.kids.length yc] 61)).heap.size = M + 1 := by simp [hM]
  rw [hM] at kM
  have kN := (ab.block N (by omega)).trans ((hb1.block N (by omega)).trans k0)
  have hX3 : NodeX (w1.alloc (.cells #[.bool t.leaf, .int .i64 t.page, .slice ka kn kc, .slice va vn vc, .slice oa on oc, .slice ya t.kids.length yc] 61)) 0 M (fun b => b < M) t ka kn kc va vn vc oa on oc ya yc css := by
    exact hX1.wide (fun k h1 h2 => ab.block k (by omega)) (fun b hb => ab.block b hb.2) (fun b hb => by omega) (Nat.zero_le _) (by omega)
  have hT3 := hT0.below ((hb1.trans (ab.mono hb1.size)).mono (by omega))
  have hb3 := b0.trans ((hb1.trans (ab.mono hb1.size)).mono (by omega))
  have HTT : Hid (ok = true → rd ts (ts.length + 1) 0 = (t, ts.length, false)) := fun h => by
    have h1 := HOK.out
    rw [h] at h1
    simp only [Bool.and_eq_true, decide_eq_true_eq, Bool.not_eq_true'] at h1
    rw [HR.out, h1.1, h1.2, HL.out]
  have HTF : Hid (ok = false → ¬ SpecOk ts) := fun h hs => by
    obtain ⟨_, t', e, _⟩ := hs
    have h1 := HOK.out
    rw [HR.out] at e
    simp only [Prod.mk.injEq] at e
    have := HL.out
    rw [e.2.2, e.2.1, h] at h1
    simp [this] at h1
  have hGood0 : Shape t → _ := fun hs => l3Good_any M t hs true
  have hHt0 : t.nodes ≤ 1000000 → _ := l3Height_any M t
  have hNo0 : t.nodes ≤ 1000000 → _ := l3Nodes_any M t
  have hPr0 : Shape t → _ := l3Pairs_any M t
  have hNu0 := l3Numbers_any M t
  have hTr0 : _ → t.nodes ≤ 100000 → _ := l3Tree_any M t
  have hHt1 := ht_le t
  unfold CallAt at hGood0 hHt0 hPr0 hNu0 hTr0
  obtain ⟨lf, hlf⟩ : ∃ q, t.leaf = q := ⟨_, rfl⟩
  obtain ⟨pg, hpg⟩ : ∃ q, t.page = q := ⟨_, rfl⟩
  obtain ⟨yn, hyn⟩ : ∃ q, t.kids.length = q := ⟨_, rfl⟩
  rw [hlf, hpg, hyn] at ab kM zM kN hX3 hT3 hb3 hGood0 hHt0 hNo0 hPr0 hNu0 hTr0 ⊢
  clear hlf hpg hyn hX1
  generalize w1.alloc (.cells #[.bool lf, .int .i64 pg, .slice ka kn kc, .slice va vn vc, .slice oa on oc, .slice ya yn yc] 61) = W3 at ab kM zM kN hX3 hT3 hb3 ⊢
  have hCw : M ≤ W3.heap.size := by omega
  have hCd : M ≤ W3.drew.heap.size := hCw
  have hXd := hX3.belowC (((Below.refl W3.heap.size W3).drew).mono hCw)
  have SS : Hid (∀ w', Below W3.heap.size W3 w' → (fun w' : World => w'.heap[M]? = some (.cells #[.bool lf, .int .i64 pg, .slice ka kn kc, .slice va vn vc, .slice oa on oc, .slice ya yn yc] 61) ∧ w'.heap[N]? = some (.cells #[.slice a n c] 26)) w') := fun w' hb => ⟨(hb.block M (by omega)).trans kM, (hb.block N (by omega)).trans kN⟩
  have HX3 : Hid (∀ w', Below W3.heap.size W3 w' → NodeX w' 0 M (fun b => b < M) t ka kn kc va vn vc oa on oc ya yc css) := fun w' hb => hX3.belowC (hb.mono hCw)
  have HT3 : Hid (NodesAt W3 A B a n c ts) := hT3
  have HB3 : Hid (Below w.heap.size w W3) := hb3
  clear hX3 hT3 hb3 ab hb1 b0 hT0 k0 kM kN HOK HR
  cases ok
  · have HNO : Hid (¬ SpecOk ts) := HTF.out rfl
    clear HTF HTT hGood0 hHt0 hNo0 hPr0 hNu0 hTr0
    refine wp_region_noPanic ?_
    refine wp_region_held_drew (S := (fun w' : World => w'.heap[M]? = some (.cells #[.bool lf, .int .i64 pg, .slice ka kn kc, .slice va vn vc, .slice oa on oc, .slice ya yn yc] 61) ∧ w'.heap[N]? = some (.cells #[.slice a n c] 26))) (by kernel_rfl) (SS.out W3 (Below.refl _ _)) (fun hHeld => ?_)
    refine wpAnyH_take (i := 0) (oi := { dst := some 25, op := Op.move (Operand.tmp 4), type := 4, pos := "l3_tree.go:217", after := #[], guard := none }) (v := .bool false) rfl (by kernel_rfl) (by kernel_rfl) (by kernel_rfl) (fun _ _ _ h => h) (Or.inl ⟨by rfl, ?_⟩) (by assumption) ?_
    · intro wq hSw; (try dsimp only at hSw); go_simp
    try simp only [Act.put, List.setIfInBounds_toArray, List.set_cons_zero, List.set_cons_succ]
    refine wpAnyH_take (i := 1) (oi := { dst := some 26, op := Op.unOp UnOp.not 4 (Operand.tmp 25), type := 4, pos := "l3_tree.go:217", after := #[{ on := 0, ground := Ground.data }], guard := none }) (v := .bool true) rfl (by kernel_rfl) (by kernel_rfl) (by kernel_rfl) (fun _ _ _ h => h) (Or.inl ⟨by rfl, ?_⟩) (by assumption) ?_
    · intro wq hSw; (try dsimp only at hSw); go_simp
    try simp only [Act.put, List.setIfInBounds_toArray, List.set_cons_zero, List.set_cons_succ]
    refine wpAnyH_take (i := 2) (oi := { dst := some 27, op := Op.move (Operand.tmp 26), type := 4, pos := "l3_tree.go:217", after := #[{ on := 1, ground := Ground.data }], guard := none }) (v := .bool true) rfl (by kernel_rfl) (by kernel_rfl) (by kernel_rfl) (fun _ _ _ h => h) (Or.inl ⟨by rfl, ?_⟩) (by assumption) ?_
    · intro wq hSw; (try dsimp only at hSw); go_simp
    try simp only [Act.put, List.setIfInBounds_toArray, List.set_cons_zero, List.set_cons_succ]
    refine wpAnyH_take (i := 3) (oi := { dst := some 28, op := Op.load 61 (Operand.tmp 3), type := 61, pos := "l3_tree.go:217", after := #[{ on := 2, ground := Ground.guard }], guard := some (2, false) }) (v := undef) rfl (by kernel_rfl) (by kernel_rfl) (by kernel_rfl) (fun _ _ _ h => h) (Or.inr ⟨by rfl, rfl⟩) (by assumption) ?_
    try simp only [Act.put, List.setIfInBounds_toArray, List.set_cons_zero, List.set_cons_succ]
    refine wpAnyH_take (i := 4) (oi := { dst := some 29, op := Op.call { callee := Callee.value (Operand.func 45), args := #[Operand.tmp 28, Operand.const (Value.bool true)], argTypes := #[61, 4] }, type := 4, pos := "l3_tree.go:217", after := #[{ on := 3, ground := Ground.data }, { on := 2, ground := Ground.chain }, { on := 2, ground := Ground.guard }], guard := some (2, false) }) (v := undef) rfl (by kernel_rfl) (by kernel_rfl) (by kernel_rfl) (fun _ _ _ h => h) (Or.inr ⟨by rfl, rfl⟩) (by assumption) ?_
    try simp only [Act.put, List.setIfInBounds_toArray, List.set_cons_zero, List.set_cons_succ]
    refine wpAnyH_take (i := 5) (oi := { dst := some 30, op := Op.unOp UnOp.not 4 (Operand.tmp 29), type := 4, pos := "l3_tree.go:217", after := #[{ on := 4, ground := Ground.data }, { on := 2, ground := Ground.guard }], guard := some (2, false) }) (v := undef) rfl (by kernel_rfl) (by kernel_rfl) (by kernel_rfl) (fun _ _ _ h => h) (Or.inr ⟨by rfl, rfl⟩) (by assumption) ?_
    try simp only [Act.put, List.setIfInBounds_toArray, List.set_cons_zero, List.set_cons_succ]
    refine wpAnyH_take (i := 6) (oi := { dst := some 31, op := Op.pick (Operand.tmp 27) (Operand.const (Value.bool true)) (Operand.tmp 30), type := 4, pos := "l3_tree.go:217", after := #[{ on := 2, ground := Ground.data }, { on := 5, ground := Ground.data }], guard := none }) (v := .bool true) rfl (by kernel_rfl) (by kernel_rfl) (by kernel_rfl) (fun _ _ _ h => h) (Or.inl ⟨by rfl, ?_⟩) (by assumption) ?_
    · intro wq hSw; (try dsimp only at hSw); go_simp
    try simp only [Act.put, List.setIfInBounds_toArray, List.set_cons_zero, List.set_cons_succ]
    refine wpAnyH_take (i := 7) (oi := { dst := some 32, op := Op.move (Operand.tmp 31), type := 4, pos := "l3_tree.go:217", after := #[{ on := 6, ground := Ground.data }, { on := 4, ground := Ground.chain }], guard := none }) (v := .bool true) rfl (by kernel_rfl) (by kernel_rfl) (by kernel_rfl) (fun _ _ _ h => h) (Or.inl ⟨by rfl, ?_⟩) (by assumption) ?_
    · intro wq hSw; (try dsimp only at hSw); go_simp
    try simp only [Act.put, List.setIfInBounds_toArray, List.set_cons_zero, List.set_cons_succ]
    refine wpAnyH_take (i := 8) (oi := { dst := some 33, op := Op.load 61 (Operand.tmp 3), type := 61, pos := "l3_tree.go:217", after := #[{ on := 7, ground := Ground.guard }], guard := some (7, false) }) (v := undef) rfl (by kernel_rfl) (by kernel_rfl) (by kernel_rfl) (fun _ _ _ h => h) (Or.inr ⟨by rfl, rfl⟩) (by assumption) ?_
    try simp only [Act.put, List.setIfInBounds_toArray, List.set_cons_zero, List.set_cons_succ]
    refine wpAnyH_take (i := 9) (oi := { dst := some 34, op := Op.call { callee := Callee.value (Operand.func 46), args := #[Operand.tmp 33], argTypes := #[61] }, type := 3, pos := "l3_tree.go:217", after := #[{ on := 8, ground := Ground.data }, { on := 7, ground := Ground.chain }, { on := 7, ground := Ground.guard }], guard := some (7, false) }) (v := undef) rfl (by kernel_rfl) (by kernel_rfl) (by kernel_rfl) (fun _ _ _ h => h) (Or.inr ⟨by rfl, rfl⟩) (by assumption) ?_
    try simp only [Act.put, List.setIfInBounds_toArray, List.set_cons_zero, List.set_cons_succ]
    refine wpAnyH_take (i := 10) (oi := { dst := some 35, op := Op.binOp BinOp.lss 3 (Operand.tmp 34) (Operand.const (Value.int IntKind.i64 0)) 3, type := 4, pos := "l3_tree.go:217", after := #[{ on := 9, ground := Ground.data }, { on := 7, ground := Ground.guard }], guard := some (7, false) }) (v := undef) rfl (by kernel_rfl) (by kernel_rfl) (by kernel_rfl) (fun _ _ _ h => h) (Or.inr ⟨by rfl, rfl⟩) (by assumption) ?_
    try simp only [Act.put, List.setIfInBounds_toArray, List.set_cons_zero, List.set_cons_succ]
    refine wpAnyH_take (i := 11) (oi := { dst := some 36, op := Op.pick (Operand.tmp 32) (Operand.const (Value.bool true)) (Operand.tmp 35), type := 4, pos := "l3_tree.go:217", after := #[{ on := 7, ground := Ground.data }, { on := 10, ground := Ground.data }], guard := none }) (v := .bool true) rfl (by kernel_rfl) (by kernel_rfl) (by kernel_rfl) (fun _ _ _ h => h) (Or.inl ⟨by rfl, ?_⟩) (by assumption) ?_
    · intro wq hSw; (try dsimp only at hSw); go_simp
    try simp only [Act.put, List.setIfInBounds_toArray, List.set_cons_zero, List.set_cons_succ]
    refine wpAnyH_take (i := 12) (oi := { dst := some 37, op := Op.move (Operand.tmp 36), type := 4, pos := "l3_tree.go:217", after := #[{ on := 11, ground := Ground.data }, { on := 9, ground := Ground.chain }], guard := none }) (v := .bool true) rfl (by kernel_rfl) (by kernel_rfl) (by kernel_rfl) (fun _ _ _ h => h) (Or.inl ⟨by rfl, ?_⟩) (by assumption) ?_
    · intro wq hSw; (try dsimp only at hSw); go_simp
    try simp only [Act.put, List.setIfInBounds_toArray, List.set_cons_zero, List.set_cons_succ]
    refine wpAnyH_take (i := 13) (oi := { dst := some 38, op := Op.load 61 (Operand.tmp 3), type := 61, pos := "l3_tree.go:217", after := #[{ on := 12, ground := Ground.guard }], guard := some (12, false) }) (v := undef) rfl (by kernel_rfl) (by kernel_rfl) (by kernel_rfl) (fun _ _ _ h => h) (Or.inr ⟨by rfl, rfl⟩) (by assumption) ?_
    try simp only [Act.put, List.setIfInBounds_toArray, List.set_cons_zero, List.set_cons_succ]
    refine wpAnyH_take (i := 14) (oi := { dst := some 39, op := Op.call { callee := Callee.value (Operand.func 30), args := #[Operand.tmp 38], argTypes := #[61] }, type := 3, pos := "l3_tree.go:217", after := #[{ on := 13, ground := Ground.data }, { on := 12, ground := Ground.chain }, { on := 12, ground := Ground.guard }], guard := some (12, false) }) (v := undef) rfl (by kernel_rfl) (by kernel_rfl) (by kernel_rfl) (fun _ _ _ h => h) (Or.inr ⟨by rfl, rfl⟩) (by assumption) ?_
    try simp only [Act.put, List.setIfInBounds_toArray, List.set_cons_zero, List.set_cons_succ]
    refine wpAnyH_take (i := 15) (oi := { dst := some 40, op := Op.fieldAddr 26 (Operand.tmp 1) 0, type := 0, pos := "l3_tree.go:217", after := #[{ on := 12, ground := Ground.guard }], guard := some (12, false) }) (v := undef) rfl (by kernel_rfl) (by kernel_rfl) (by kernel_rfl) (fun _ _ _ h => h) (Or.inr ⟨by rfl, rfl⟩) (by assumption) ?_
    try simp only [Act.put, List.setIfInBounds_toArray, List.set_cons_zero, List.set_cons_succ]
    refine wpAnyH_take (i := 16) (oi := { dst := some 41, op := Op.load 24 (Operand.tmp 40), type := 24, pos := "l3_tree.go:217", after := #[{ on := 15, ground := Ground.data }, { on := 12, ground := Ground.guard }], guard := some (12, false) }) (v := undef) rfl (by kernel_rfl) (by kernel_rfl) (by kernel_rfl) (fun _ _ _ h => h) (Or.inr ⟨by rfl, rfl⟩) (by assumption) ?_
    try simp only [Act.put, List.setIfInBounds_toArray, List.set_cons_zero, List.set_cons_succ]
    refine wpAnyH_take (i := 17) (oi := { dst := some 42, op := Op.call { callee := Callee.builtin Builtin.len, args := #[Operand.tmp 41], argTypes := #[24] }, type := 3, pos := "l3_tree.go:217", after := #[{ on := 16, ground := Ground.data }, { on := 12, ground := Ground.guard }], guard := some (12, false) }) (v := undef) rfl (by kernel_rfl) (by kernel_rfl) (by kernel_rfl) (fun _ _ _ h => h) (Or.inr ⟨by rfl, rfl⟩) (by assumption) ?_
    try simp only [Act.put, List.setIfInBounds_toArray, List.set_cons_zero, List.set_cons_succ]
    refine wpAnyH_take (i := 18) (oi := { dst := some 43, op := Op.binOp BinOp.neq 3 (Operand.tmp 39) (Operand.tmp 42) 3, type := 4, pos := "l3_tree.go:217", after := #[{ on := 14, ground := Ground.data }, { on := 17, ground := Ground.data }, { on := 12, ground := Ground.guard }], guard := some (12, false) }) (v := undef) rfl (by kernel_rfl) (by kernel_rfl) (by kernel_rfl) (fun _ _ _ h => h) (Or.inr ⟨by rfl, rfl⟩) (by assumption) ?_
    try simp only [Act.put, List.setIfInBounds_toArray, List.set_cons_zero, List.set_cons_succ]
    refine wpAnyH_take (i := 19) (oi := { dst := some 44, op := Op.pick (Operand.tmp 37) (Operand.const (Value.bool true)) (Operand.tmp 43), type := 4, pos := "l3_tree.go:217", after := #[{ on := 12, ground := Ground.data }, { on := 18, ground := Ground.data }], guard := none }) (v := .bool true) rfl (by kernel_rfl) (by kernel_rfl) (by kernel_rfl) (fun _ _ _ h => h) (Or.inl ⟨by rfl, ?_⟩) (by assumption) ?_
    · intro wq hSw; (try dsimp only at hSw); go_simp
    try simp only [Act.put, List.setIfInBounds_toArray, List.set_cons_zero, List.set_cons_succ]
    refine wpAnyH_done (by kernel_rfl) ?_ _
    refine NoPanic.normal ?_
    go_wp2_with fail
    go_ret
    exact SaysB.no HNO.out HB3.out.drew
  · have hrd := HTT.out rfl
    obtain ⟨hsh, hnd, _⟩ := rd_some ts _ _ _ _ hrd
    have hnd : t.nodes = n := by have := HL.out; omega
    have HRD : Hid (rd ts (ts.length + 1) 0 = (t, ts.length, false)) := hrd
    have HSH : Hid (Shape t) := hsh
    have HND : Hid (t.nodes = n) := hnd
    have hGood := hGood0 hsh
    have hHt := hHt0 (by omega)
    have hNo := hNo0 (by omega)
    have HSPEC : Hid (SpecOk ts ↔ t.good true = true ∧ t.slots.all (fun s => kyB s.1) = true ∧ 0 ≤ t.ht ∧ ascB (t.slots.map (fun s => s.1)) = true ∧ t.flat 0 = ts ∧ t.nums.Nodup) := by
      constructor
      · rintro ⟨_, t', e, h1, h2, h3, _, h4, h5, h6⟩
        rw [hrd] at e
        simp only [Prod.mk.injEq] at e
        obtain ⟨rfl, _⟩ := e
        exact ⟨h1, h2, h3, h4, h5, h6⟩
      · rintro ⟨h1, h2, h3, h4, h5, h6⟩
        have := HL.out
        exact ⟨⟨by omega, by omega⟩, t, hrd, h1, h2, h3, by omega, h4, h5, h6⟩
    have HPR0 : Hid _ := hPr0 hsh
    have HNU0 : Hid _ := hNu0
    have HTR0 : Hid _ := hTr0
    rw [hnd] at hNo hHt1
    clear HTF HTT hGood0 hHt0 hNo0 hPr0 hNu0 hTr0 hrd hsh hnd
    obtain ⟨gd, hgd⟩ : ∃ gd, (t.good true && t.slots.all (fun s => kyB s.1)) = gd := ⟨_, rfl⟩
    have HGD : Hid ((t.good true && t.slots.all (fun s => kyB s.1)) = gd) := hgd
    rw [hgd] at hGood
    clear hgd
    obtain ⟨ht, hht⟩ : ∃ ht, t.ht = ht := ⟨_, rfl⟩
    have HHT : Hid (t.ht = ht) := hht
    rw [hht] at hHt hHt1
    clear hht
    cases gd
    · have HNO : Hid (¬ SpecOk ts) := fun h => by
        have h1 := HSPEC.out.1 h
        have h2 := HGD.out
        rw [h1.1, h1.2.1] at h2
        cases h2
      clear hHt hNo HPR0 HNU0 HTR0 HSPEC
      refine wp_region_noPanic ?_
      refine wp_region_held_drew (S := (fun w' : World => w'.heap[M]? = some (.cells #[.bool lf, .int .i64 pg, .slice ka kn kc, .slice va vn vc, .slice oa on oc, .slice ya yn yc] 61) ∧ w'.heap[N]? = some (.cells #[.slice a n c] 26))) (by kernel_rfl) (SS.out W3 (Below.refl _ _)) (fun hHeld => ?_)
      refine wpAnyH_take (i := 0) (oi := { dst := some 25, op := Op.move (Operand.tmp 4), type := 4, pos := "l3_tree.go:217", after := #[], guard := none }) (v := .bool true) rfl (by kernel_rfl) (by kernel_rfl) (by kernel_rfl) (fun _ _ _ h => h) (Or.inl ⟨by rfl, ?_⟩) (by assumption) ?_
      · intro wq hSw; (try dsimp only at hSw); go_simp
      try simp only [Act.put, List.setIfInBounds_toArray, List.set_cons_zero, List.set_cons_succ]
      refine wpAnyH_take (i := 1) (oi := { dst := some 26, op := Op.unOp UnOp.not 4 (Operand.tmp 25), type := 4, pos := "l3_tree.go:217", after := #[{ on := 0, ground := Ground.data }], guard := none }) (v := .bool false) rfl (by kernel_rfl) (by kernel_rfl) (by kernel_rfl) (fun _ _ _ h => h) (Or.inl ⟨by rfl, ?_⟩) (by assumption) ?_
      · intro wq hSw; (try dsimp only at hSw); go_simp
      try simp only [Act.put, List.setIfInBounds_toArray, List.set_cons_zero, List.set_cons_succ]
      refine wpAnyH_take (i := 2) (oi := { dst := some 27, op := Op.move (Operand.tmp 26), type := 4, pos := "l3_tree.go:217", after := #[{ on := 1, ground := Ground.data }], guard := none }) (v := .bool false) rfl (by kernel_rfl) (by kernel_rfl) (by kernel_rfl) (fun _ _ _ h => h) (Or.inl ⟨by rfl, ?_⟩) (by assumption) ?_
      · intro wq hSw; (try dsimp only at hSw); go_simp
      try simp only [Act.put, List.setIfInBounds_toArray, List.set_cons_zero, List.set_cons_succ]
      refine wpAnyH_take (i := 3) (oi := { dst := some 28, op := Op.load 61 (Operand.tmp 3), type := 61, pos := "l3_tree.go:217", after := #[{ on := 2, ground := Ground.guard }], guard := some (2, false) }) (v := .agg #[.bool lf, .int .i64 pg, .slice ka kn kc, .slice va vn vc, .slice oa on oc, .slice ya yn yc]) rfl (by kernel_rfl) (by kernel_rfl) (by kernel_rfl) (fun _ _ _ h => h) (Or.inl ⟨by rfl, ?_⟩) (by assumption) ?_
      · intro wq hSw; (try dsimp only at hSw); obtain ⟨q0, q1, q2, q3, q4, q5⟩ := box6 hSw.1; go_simp
      try simp only [Act.put, List.setIfInBounds_toArray, List.set_cons_zero, List.set_cons_succ]
      refine wpAnyH_ready (rs := [4]) (by kernel_rfl) (by simp) ?_
      refine AllReadyH.cons (o := { dst := some 29, op := Op.call { callee := Callee.value (Operand.func 45), args := #[Operand.tmp 28, Operand.const (Value.bool true)], argTypes := #[61, 4] }, type := 4, pos := "l3_tree.go:217", after := #[{ on := 3, ground := Ground.data }, { on := 2, ground := Ground.chain }, { on := 2, ground := Ground.guard }], guard := some (2, false) }) rfl (fun K hK => ?_) AllReadyH.nil
      go_simp
      refine (hGood W3.drew ka kn kc va vn vc oa on oc ya yc css hCd hXd).mono ?_
      rintro e w2 ⟨rfl, hbx⟩
      have hw2 : Below W3.heap.size W3 w2 := ((Below.refl _ W3).drew).trans hbx
      clear hbx
      go_wp2_with fail
      refine hK.out _ _ (SS.out w2 hw2) (fun hHeld => ?_)
      clear hK K
      try simp only [Act.put, List.setIfInBounds_toArray, List.set_cons_zero, List.set_cons_succ]
      refine wpAnyH_take (i := 5) (oi := { dst := some 30, op := Op.unOp UnOp.not 4 (Operand.tmp 29), type := 4, pos := "l3_tree.go:217", after := #[{ on := 4, ground := Ground.data }, { on := 2, ground := Ground.guard }], guard := some (2, false) }) (v := .bool true) rfl (by kernel_rfl) (by kernel_rfl) (by kernel_rfl) (fun _ _ _ h => h) (Or.inl ⟨by rfl, ?_⟩) (by assumption) ?_
      · intro wq hSw; (try dsimp only at hSw); go_simp
      try simp only [Act.put, List.setIfInBounds_toArray, List.set_cons_zero, List.set_cons_succ]
      refine wpAnyH_take (i := 6) (oi := { dst := some 31, op := Op.pick (Operand.tmp 27) (Operand.const (Value.bool true)) (Operand.tmp 30), type := 4, pos := "l3_tree.go:217", after := #[{ on := 2, ground := Ground.data }, { on := 5, ground := Ground.data }], guard := none }) (v := .bool true) rfl (by kernel_rfl) (by kernel_rfl) (by kernel_rfl) (fun _ _ _ h => h) (Or.inl ⟨by rfl, ?_⟩) (by assumption) ?_
      · intro wq hSw; (try dsimp only at hSw); go_simp
      try simp only [Act.put, List.setIfInBounds_toArray, List.set_cons_zero, List.set_cons_succ]
      refine wpAnyH_take (i := 7) (oi := { dst := some 32, op := Op.move (Operand.tmp 31), type := 4, pos := "l3_tree.go:217", after := #[{ on := 6, ground := Ground.data }, { on := 4, ground := Ground.chain }], guard := none }) (v := .bool true) rfl (by kernel_rfl) (by kernel_rfl) (by kernel_rfl) (fun _ _ _ h => h) (Or.inl ⟨by rfl, ?_⟩) (by assumption) ?_
      · intro wq hSw; (try dsimp only at hSw); go_simp
      try simp only [Act.put, List.setIfInBounds_toArray, List.set_cons_zero, List.set_cons_succ]
      refine wpAnyH_take (i := 8) (oi := { dst := some 33, op := Op.load 61 (Operand.tmp 3), type := 61, pos := "l3_tree.go:217", after := #[{ on := 7, ground := Ground.guard }], guard := some (7, false) }) (v := undef) rfl (by kernel_rfl) (by kernel_rfl) (by kernel_rfl) (fun _ _ _ h => h) (Or.inr ⟨by rfl, rfl⟩) (by assumption) ?_
      try simp only [Act.put, List.setIfInBounds_toArray, List.set_cons_zero, List.set_cons_succ]
      refine wpAnyH_take (i := 9) (oi := { dst := some 34, op := Op.call { callee := Callee.value (Operand.func 46), args := #[Operand.tmp 33], argTypes := #[61] }, type := 3, pos := "l3_tree.go:217", after := #[{ on := 8, ground := Ground.data }, { on := 7, ground := Ground.chain }, { on := 7, ground := Ground.guard }], guard := some (7, false) }) (v := undef) rfl (by kernel_rfl) (by kernel_rfl) (by kernel_rfl) (fun _ _ _ h => h) (Or.inr ⟨by rfl, rfl⟩) (by assumption) ?_
      try simp only [Act.put, List.setIfInBounds_toArray, List.set_cons_zero, List.set_cons_succ]
      refine wpAnyH_take (i := 10) (oi := { dst := some 35, op := Op.binOp BinOp.lss 3 (Operand.tmp 34) (Operand.const (Value.int IntKind.i64 0)) 3, type := 4, pos := "l3_tree.go:217", after := #[{ on := 9, ground := Ground.data }, { on := 7, ground := Ground.guard }], guard := some (7, false) }) (v := undef) rfl (by kernel_rfl) (by kernel_rfl) (by kernel_rfl) (fun _ _ _ h => h) (Or.inr ⟨by rfl, rfl⟩) (by assumption) ?_
      try simp only [Act.put, List.setIfInBounds_toArray, List.set_cons_zero, List.set_cons_succ]
      refine wpAnyH_take (i := 11) (oi := { dst := some 36, op := Op.pick (Operand.tmp 32) (Operand.const (Value.bool true)) (Operand.tmp 35), type := 4, pos := "l3_tree.go:217", after := #[{ on := 7, ground := Ground.data }, { on := 10, ground := Ground.data }], guard := none }) (v := .bool true) rfl (by kernel_rfl) (by kernel_rfl) (by kernel_rfl) (fun _ _ _ h => h) (Or.inl ⟨by rfl, ?_⟩) (by assumption) ?_
      · intro wq hSw; (try dsimp only at hSw); go_simp
      try simp only [Act.put, List.setIfInBounds_toArray, List.set_cons_zero, List.set_cons_succ]
      refine wpAnyH_take (i := 12) (oi := { dst := some 37, op := Op.move (Operand.tmp 36), type := 4, pos := "l3_tree.go:217", after := #[{ on := 11, ground := Ground.data }, { on := 9, ground := Ground.chain }], guard := none }) (v := .bool true) rfl (by kernel_rfl) (by kernel_rfl) (by kernel_rfl) (fun _ _ _ h => h) (Or.inl ⟨by rfl, ?_⟩) (by assumption) ?_
      · intro wq hSw; (try dsimp only at hSw); go_simp
      try simp only [Act.put, List.setIfInBounds_toArray, List.set_cons_zero, List.set_cons_succ]
      refine wpAnyH_take (i := 13) (oi := { dst := some 38, op := Op.load 61 (Operand.tmp 3), type := 61, pos := "l3_tree.go:217", after := #[{ on := 12, ground := Ground.guard }], guard := some (12, false) }) (v := undef) rfl (by kernel_rfl) (by kernel_rfl) (by kernel_rfl) (fun _ _ _ h => h) (Or.inr ⟨by rfl, rfl⟩) (by assumption) ?_
      try simp only [Act.put, List.setIfInBounds_toArray, List.set_cons_zero, List.set_cons_succ]
      refine wpAnyH_take (i := 14) (oi := { dst := some 39, op := Op.call { callee := Callee.value (Operand.func 30), args := #[Operand.tmp 38], argTypes := #[61] }, type := 3, pos := "l3_tree.go:217", after := #[{ on := 13, ground := Ground.data }, { on := 12, ground := Ground.chain }, { on := 12, ground := Ground.guard }], guard := some (12, false) }) (v := undef) rfl (by kernel_rfl) (by kernel_rfl) (by kernel_rfl) (fun _ _ _ h => h) (Or.inr ⟨by rfl, rfl⟩) (by assumption) ?_
      try simp only [Act.put, List.setIfInBounds_toArray, List.set_cons_zero, List.set_cons_succ]
      refine wpAnyH_take (i := 15) (oi := { dst := some 40, op := Op.fieldAddr 26 (Operand.tmp 1) 0, type := 0, pos := "l3_tree.go:217", after := #[{ on := 12, ground := Ground.guard }], guard := some (12, false) }) (v := undef) rfl (by kernel_rfl) (by kernel_rfl) (by kernel_rfl) (fun _ _ _ h => h) (Or.inr ⟨by rfl, rfl⟩) (by assumption) ?_
      try simp only [Act.put, List.setIfInBounds_toArray, List.set_cons_zero, List.set_cons_succ]
      refine wpAnyH_take (i := 16) (oi := { dst := some 41, op := Op.load 24 (Operand.tmp 40), type := 24, pos := "l3_tree.go:217", after := #[{ on := 15, ground := Ground.data }, { on := 12, ground := Ground.guard }], guard := some (12, false) }) (v := undef) rfl (by kernel_rfl) (by kernel_rfl) (by kernel_rfl) (fun _ _ _ h => h) (Or.inr ⟨by rfl, rfl⟩) (by assumption) ?_
      try simp only [Act.put, List.setIfInBounds_toArray, List.set_cons_zero, List.set_cons_succ]
      refine wpAnyH_take (i := 17) (oi := { dst := some 42, op := Op.call { callee := Callee.builtin Builtin.len, args := #[Operand.tmp 41], argTypes := #[24] }, type := 3, pos := "l3_tree.go:217", after := #[{ on := 16, ground := Ground.data }, { on := 12, ground := Ground.guard }], guard := some (12, false) }) (v := undef) rfl (by kernel_rfl) (by kernel_rfl) (by kernel_rfl) (fun _ _ _ h => h) (Or.inr ⟨by rfl, rfl⟩) (by assumption) ?_
      try simp only [Act.put, List.setIfInBounds_toArray, List.set_cons_zero, List.set_cons_succ]
      refine wpAnyH_take (i := 18) (oi := { dst := some 43, op := Op.binOp BinOp.neq 3 (Operand.tmp 39) (Operand.tmp 42) 3, type := 4, pos := "l3_tree.go:217", after := #[{ on := 14, ground := Ground.data }, { on := 17, ground := Ground.data }, { on := 12, ground := Ground.guard }], guard := some (12, false) }) (v := undef) rfl (by kernel_rfl) (by kernel_rfl) (by kernel_rfl) (fun _ _ _ h => h) (Or.inr ⟨by rfl, rfl⟩) (by assumption) ?_
      try simp only [Act.put, List.setIfInBounds_toArray, List.set_cons_zero, List.set_cons_succ]
      refine wpAnyH_take (i := 19) (oi := { dst := some 44, op := Op.pick (Operand.tmp 37) (Operand.const (Value.bool true)) (Operand.tmp 43), type := 4, pos := "l3_tree.go:217", after := #[{ on := 12, ground := Ground.data }, { on := 18, ground := Ground.data }], guard := none }) (v := .bool true) rfl (by kernel_rfl) (by kernel_rfl) (by kernel_rfl) (fun _ _ _ h => h) (Or.inl ⟨by rfl, ?_⟩) (by assumption) ?_
      · intro wq hSw; (try dsimp only at hSw); go_simp
      try simp only [Act.put, List.setIfInBounds_toArray, List.set_cons_zero, List.set_cons_succ]
      refine wpAnyH_done (by kernel_rfl) ?_ _
      refine NoPanic.normal ?_
      go_wp2_with fail
      go_ret
      exact SaysB.no HNO.out (HB3.out.trans (hw2.mono (by omega)))
    · by_cases hneg : ht < 0
      · have HNO : Hid (¬ SpecOk ts) := fun h => by
          have h1 := (HSPEC.out.1 h).2.2.1
          rw [HHT.out] at h1
          omega
        clear hNo HPR0 HNU0 HTR0 HSPEC
        have hdec : decide (ht < 0) = true := by simpa using hneg
        refine wp_region_noPanic ?_
        refine wp_region_held_drew (S := (fun w' : World => w'.heap[M]? = some (.cells #[.bool lf, .int .i64 pg, .slice ka kn kc, .slice va vn vc, .slice oa on oc, .slice ya yn yc] 61) ∧ w'.heap[N]? = some (.cells #[.slice a n c] 26))) (by kernel_rfl) (SS.out W3 (Below.refl _ _)) (fun hHeld => ?_)
        refine wpAnyH_take (i := 0) (oi := { dst := some 25, op := Op.move (Operand.tmp 4), type := 4, pos := "l3_tree.go:217", after := #[], guard := none }) (v := .bool true) rfl (by kernel_rfl) (by kernel_rfl) (by kernel_rfl) (fun _ _ _ h => h) (Or.inl ⟨by rfl, ?_⟩) (by assumption) ?_
        · intro wq hSw; (try dsimp only at hSw); go_simp
        try simp only [Act.put, List.setIfInBounds_toArray, List.set_cons_zero, List.set_cons_succ]
        refine wpAnyH_take (i := 1) (oi := { dst := some 26, op := Op.unOp UnOp.not 4 (Operand.tmp 25), type := 4, pos := "l3_tree.go:217", after := #[{ on := 0, ground := Ground.data }], guard := none }) (v := .bool false) rfl (by kernel_rfl) (by kernel_rfl) (by kernel_rfl) (fun _ _ _ h => h) (Or.inl ⟨by rfl, ?_⟩) (by assumption) ?_
        · intro wq hSw; (try dsimp only at hSw); go_simp
        try simp only [Act.put, List.setIfInBounds_toArray, List.set_cons_zero, List.set_cons_succ]
        refine wpAnyH_take (i := 2) (oi := { dst := some 27, op := Op.move (Operand.tmp 26), type := 4, pos := "l3_tree.go:217", after := #[{ on := 1, ground := Ground.data }], guard := none }) (v := .bool false) rfl (by kernel_rfl) (by kernel_rfl) (by kernel_rfl) (fun _ _ _ h => h) (Or.inl ⟨by rfl, ?_⟩) (by assumption) ?_
        · intro wq hSw; (try dsimp only at hSw); go_simp
        try simp only [Act.put, List.setIfInBounds_toArray, List.set_cons_zero, List.set_cons_succ]
        refine wpAnyH_take (i := 3) (oi := { dst := some 28, op := Op.load 61 (Operand.tmp 3), type := 61, pos := "l3_tree.go:217", after := #[{ on := 2, ground := Ground.guard }], guard := some (2, false) }) (v := .agg #[.bool lf, .int .i64 pg, .slice ka kn kc, .slice va vn vc, .slice oa on oc, .slice ya yn yc]) rfl (by kernel_rfl) (by kernel_rfl) (by kernel_rfl) (fun _ _ _ h => h) (Or.inl ⟨by rfl, ?_⟩) (by assumption) ?_
        · intro wq hSw; (try dsimp only at hSw); obtain ⟨q0, q1, q2, q3, q4, q5⟩ := box6 hSw.1; go_simp
        try simp only [Act.put, List.setIfInBounds_toArray, List.set_cons_zero, List.set_cons_succ]
        refine wpAnyH_ready (rs := [4]) (by kernel_rfl) (by simp) ?_
        refine AllReadyH.cons (o := { dst := some 29, op := Op.call { callee := Callee.value (Operand.func 45), args := #[Operand.tmp 28, Operand.const (Value.bool true)], argTypes := #[61, 4] }, type := 4, pos := "l3_tree.go:217", after := #[{ on := 3, ground := Ground.data }, { on := 2, ground := Ground.chain }, { on := 2, ground := Ground.guard }], guard := some (2, false) }) rfl (fun K hK => ?_) AllReadyH.nil
        go_simp
        refine (hGood W3.drew ka kn kc va vn vc oa on oc ya yc css hCd hXd).mono ?_
        rintro e w2 ⟨rfl, hbx⟩
        have hw2 : Below W3.heap.size W3 w2 := ((Below.refl _ W3).drew).trans hbx
        clear hbx
        go_wp2_with fail
        refine hK.out _ _ (SS.out w2 hw2) (fun hHeld => ?_)
        clear hK K
        try simp only [Act.put, List.setIfInBounds_toArray, List.set_cons_zero, List.set_cons_succ]
        refine wpAnyH_take (i := 5) (oi := { dst := some 30, op := Op.unOp UnOp.not 4 (Operand.tmp 29), type := 4, pos := "l3_tree.go:217", after := #[{ on := 4, ground := Ground.data }, { on := 2, ground := Ground.guard }], guard := some (2, false) }) (v := .bool false) rfl (by kernel_rfl) (by kernel_rfl) (by kernel_rfl) (fun _ _ _ h => h) (Or.inl ⟨by rfl, ?_⟩) (by assumption) ?_
        · intro wq hSw; (try dsimp only at hSw); go_simp
        try simp only [Act.put, List.setIfInBounds_toArray, List.set_cons_zero, List.set_cons_succ]
        refine wpAnyH_take (i := 6) (oi := { dst := some 31, op := Op.pick (Operand.tmp 27) (Operand.const (Value.bool true)) (Operand.tmp 30), type := 4, pos := "l3_tree.go:217", after := #[{ on := 2, ground := Ground.data }, { on := 5, ground := Ground.data }], guard := none }) (v := .bool false) rfl (by kernel_rfl) (by kernel_rfl) (by kernel_rfl) (fun _ _ _ h => h) (Or.inl ⟨by rfl, ?_⟩) (by assumption) ?_
        · intro wq hSw; (try dsimp only at hSw); go_simp
        try simp only [Act.put, List.setIfInBounds_toArray, List.set_cons_zero, List.set_cons_succ]
        refine wpAnyH_take (i := 7) (oi := { dst := some 32, op := Op.move (Operand.tmp 31), type := 4, pos := "l3_tree.go:217", after := #[{ on := 6, ground := Ground.data }, { on := 4, ground := Ground.chain }], guard := none }) (v := .bool false) rfl (by kernel_rfl) (by kernel_rfl) (by kernel_rfl) (fun _ _ _ h => h) (Or.inl ⟨by rfl, ?_⟩) (by assumption) ?_
        · intro wq hSw; (try dsimp only at hSw); go_simp
        try simp only [Act.put, List.setIfInBounds_toArray, List.set_cons_zero, List.set_cons_succ]
        refine wpAnyH_take (i := 8) (oi := { dst := some 33, op := Op.load 61 (Operand.tmp 3), type := 61, pos := "l3_tree.go:217", after := #[{ on := 7, ground := Ground.guard }], guard := some (7, false) }) (v := .agg #[.bool lf, .int .i64 pg, .slice ka kn kc, .slice va vn vc, .slice oa on oc, .slice ya yn yc]) rfl (by kernel_rfl) (by kernel_rfl) (by kernel_rfl) (fun _ _ _ h => h) (Or.inl ⟨by rfl, ?_⟩) (by assumption) ?_
        · intro wq hSw; (try dsimp only at hSw); obtain ⟨q0, q1, q2, q3, q4, q5⟩ := box6 hSw.1; go_simp
        try simp only [Act.put, List.setIfInBounds_toArray, List.set_cons_zero, List.set_cons_succ]
        refine wpAnyH_ready (rs := [9]) (by kernel_rfl) (by simp) ?_
        refine AllReadyH.cons (o := { dst := some 34, op := Op.call { callee := Callee.value (Operand.func 46), args := #[Operand.tmp 33], argTypes := #[61] }, type := 3, pos := "l3_tree.go:217", after := #[{ on := 8, ground := Ground.data }, { on := 7, ground := Ground.chain }, { on := 7, ground := Ground.guard }], guard := some (7, false) }) rfl (fun K hK => ?_) AllReadyH.nil
        go_simp
        refine (hHt w2 ka kn kc va vn vc oa on oc ya yc css (Nat.le_trans hCw hw2.size) (HX3.out w2 hw2)).mono ?_
        rintro e w3 ⟨rfl, hbx⟩
        have hw3 : Below W3.heap.size W3 w3 := hw2.trans (hbx.mono hw2.size)
        clear hbx
        go_wp2_with fail
        refine hK.out _ _ (SS.out w3 hw3) (fun hHeld => ?_)
        clear hK K
        try simp only [Act.put, List.setIfInBounds_toArray, List.set_cons_zero, List.set_cons_succ]
        refine wpAnyH_take (i := 10) (oi := { dst := some 35, op := Op.binOp BinOp.lss 3 (Operand.tmp 34) (Operand.const (Value.int IntKind.i64 0)) 3, type := 4, pos := "l3_tree.go:217", after := #[{ on := 9, ground := Ground.data }, { on := 7, ground := Ground.guard }], guard := some (7, false) }) (v := .bool true) rfl (by kernel_rfl) (by kernel_rfl) (by kernel_rfl) (fun _ _ _ h => h) (Or.inl ⟨by rfl, ?_⟩) (by assumption) ?_
        · intro wq hSw; (try dsimp only at hSw); go_simp
        try simp only [Act.put, List.setIfInBounds_toArray, List.set_cons_zero, List.set_cons_succ]
        refine wpAnyH_take (i := 11) (oi := { dst := some 36, op := Op.pick (Operand.tmp 32) (Operand.const (Value.bool true)) (Operand.tmp 35), type := 4, pos := "l3_tree.go:217", after := #[{ on := 7, ground := Ground.data }, { on := 10, ground := Ground.data }], guard := none }) (v := .bool true) rfl (by kernel_rfl) (by kernel_rfl) (by kernel_rfl) (fun _ _ _ h => h) (Or.inl ⟨by rfl, ?_⟩) (by assumption) ?_
        · intro wq hSw; (try dsimp only at hSw); go_simp
        try simp only [Act.put, List.setIfInBounds_toArray, List.set_cons_zero, List.set_cons_succ]
        refine wpAnyH_take (i := 12) (oi := { dst := some 37, op := Op.move (Operand.tmp 36), type := 4, pos := "l3_tree.go:217", after := #[{ on := 11, ground := Ground.data }, { on := 9, ground := Ground.chain }], guard := none }) (v := .bool true) rfl (by kernel_rfl) (by kernel_rfl) (by kernel_rfl) (fun _ _ _ h => h) (Or.inl ⟨by rfl, ?_⟩) (by assumption) ?_
        · intro wq hSw; (try dsimp only at hSw); go_simp
        try simp only [Act.put, List.setIfInBounds_toArray, List.set_cons_zero, List.set_cons_succ]
        refine wpAnyH_take (i := 13) (oi := { dst := some 38, op := Op.load 61 (Operand.tmp 3), type := 61, pos := "l3_tree.go:217", after := #[{ on := 12, ground := Ground.guard }], guard := some (12, false) }) (v := undef) rfl (by kernel_rfl) (by kernel_rfl) (by kernel_rfl) (fun _ _ _ h => h) (Or.inr ⟨by rfl, rfl⟩) (by assumption) ?_
        try simp only [Act.put, List.setIfInBounds_toArray, List.set_cons_zero, List.set_cons_succ]
        refine wpAnyH_take (i := 14) (oi := { dst := some 39, op := Op.call { callee := Callee.value (Operand.func 30), args := #[Operand.tmp 38], argTypes := #[61] }, type := 3, pos := "l3_tree.go:217", after := #[{ on := 13, ground := Ground.data }, { on := 12, ground := Ground.chain }, { on := 12, ground := Ground.guard }], guard := some (12, false) }) (v := undef) rfl (by kernel_rfl) (by kernel_rfl) (by kernel_rfl) (fun _ _ _ h => h) (Or.inr ⟨by rfl, rfl⟩) (by assumption) ?_
        try simp only [Act.put, List.setIfInBounds_toArray, List.set_cons_zero, List.set_cons_succ]
        refine wpAnyH_take (i := 15) (oi := { dst := some 40, op := Op.fieldAddr 26 (Operand.tmp 1) 0, type := 0, pos := "l3_tree.go:217", after := #[{ on := 12, ground := Ground.guard }], guard := some (12, false) }) (v := undef) rfl (by kernel_rfl) (by kernel_rfl) (by kernel_rfl) (fun _ _ _ h => h) (Or.inr ⟨by rfl, rfl⟩) (by assumption) ?_
        try simp only [Act.put, List.setIfInBounds_toArray, List.set_cons_zero, List.set_cons_succ]
        refine wpAnyH_take (i := 16) (oi := { dst := some 41, op := Op.load 24 (Operand.tmp 40), type := 24, pos := "l3_tree.go:217", after := #[{ on := 15, ground := Ground.data }, { on := 12, ground := Ground.guard }], guard := some (12, false) }) (v := undef) rfl (by kernel_rfl) (by kernel_rfl) (by kernel_rfl) (fun _ _ _ h => h) (Or.inr ⟨by rfl, rfl⟩) (by assumption) ?_
        try simp only [Act.put, List.setIfInBounds_toArray, List.set_cons_zero, List.set_cons_succ]
        refine wpAnyH_take (i := 17) (oi := { dst := some 42, op := Op.call { callee := Callee.builtin Builtin.len, args := #[Operand.tmp 41], argTypes := #[24] }, type := 3, pos := "l3_tree.go:217", after := #[{ on := 16, ground := Ground.data }, { on := 12, ground := Ground.guard }], guard := some (12, false) }) (v := undef) rfl (by kernel_rfl) (by kernel_rfl) (by kernel_rfl) (fun _ _ _ h => h) (Or.inr ⟨by rfl, rfl⟩) (by assumption) ?_
        try simp only [Act.put, List.setIfInBounds_toArray, List.set_cons_zero, List.set_cons_succ]
        refine wpAnyH_take (i := 18) (oi := { dst := some 43, op := Op.binOp BinOp.neq 3 (Operand.tmp 39) (Operand.tmp 42) 3, type := 4, pos := "l3_tree.go:217", after := #[{ on := 14, ground := Ground.data }, { on := 17, ground := Ground.data }, { on := 12, ground := Ground.guard }], guard := some (12, false) }) (v := undef) rfl (by kernel_rfl) (by kernel_rfl) (by kernel_rfl) (fun _ _ _ h => h) (Or.inr ⟨by rfl, rfl⟩) (by assumption) ?_
        try simp only [Act.put, List.setIfInBounds_toArray, List.set_cons_zero, List.set_cons_succ]
        refine wpAnyH_take (i := 19) (oi := { dst := some 44, op := Op.pick (Operand.tmp 37) (Operand.const (Value.bool true)) (Operand.tmp 43), type := 4, pos := "l3_tree.go:217", after := #[{ on := 12, ground := Ground.data }, { on := 18, ground := Ground.data }], guard := none }) (v := .bool true) rfl (by kernel_rfl) (by kernel_rfl) (by kernel_rfl) (fun _ _ _ h => h) (Or.inl ⟨by rfl, ?_⟩) (by assumption) ?_
        · intro wq hSw; (try dsimp only at hSw); go_simp
        try simp only [Act.put, List.setIfInBounds_toArray, List.set_cons_zero, List.set_cons_succ]
        refine wpAnyH_done (by kernel_rfl) ?_ _
        refine NoPanic.normal ?_
        go_wp2_with fail
        go_ret
        exact SaysB.no HNO.out (HB3.out.trans (hw3.mono (by omega)))
      · have hdec : decide (ht < 0) = false := by simpa using hneg
        have hnn : ((n : Int) != (n : Int)) = false := by simp
        refine wp_region_noPanic ?_
        refine wp_region_held_drew (S := (fun w' : World => w'.heap[M]? = some (.cells #[.bool lf, .int .i64 pg, .slice ka kn kc, .slice va vn vc, .slice oa on oc, .slice ya yn yc] 61) ∧ w'.heap[N]? = some (.cells #[.slice a n c] 26))) (by kernel_rfl) (SS.out W3 (Below.refl _ _)) (fun hHeld => ?_)
        refine wpAnyH_take (i := 0) (oi := { dst := some 25, op := Op.move (Operand.tmp 4), type := 4, pos := "l3_tree.go:217", after := #[], guard := none }) (v := .bool true) rfl (by kernel_rfl) (by kernel_rfl) (by kernel_rfl) (fun _ _ _ h => h) (Or.inl ⟨by rfl, ?_⟩) (by assumption) ?_
        · intro wq hSw; (try dsimp only at hSw); go_simp
        try simp only [Act.put, List.setIfInBounds_toArray, List.set_cons_zero, List.set_cons_succ]
        refine wpAnyH_take (i := 1) (oi := { dst := some 26, op := Op.unOp UnOp.not 4 (Operand.tmp 25), type := 4, pos := "l3_tree.go:217", after := #[{ on := 0, ground := Ground.data }], guard := none }) (v := .bool false) rfl (by kernel_rfl) (by kernel_rfl) (by kernel_rfl) (fun _ _ _ h => h) (Or.inl ⟨by rfl, ?_⟩) (by assumption) ?_
        · intro wq hSw; (try dsimp only at hSw); go_simp
        try simp only [Act.put, List.setIfInBounds_toArray, List.set_cons_zero, List.set_cons_succ]
        refine wpAnyH_take (i := 2) (oi := { dst := some 27, op := Op.move (Operand.tmp 26), type := 4, pos := "l3_tree.go:217", after := #[{ on := 1, ground := Ground.data }], guard := none }) (v := .bool false) rfl (by kernel_rfl) (by kernel_rfl) (by kernel_rfl) (fun _ _ _ h => h) (Or.inl ⟨by rfl, ?_⟩) (by assumption) ?_
        · intro wq hSw; (try dsimp only at hSw); go_simp
        try simp only [Act.put, List.setIfInBounds_toArray, List.set_cons_zero, List.set_cons_succ]
        refine wpAnyH_take (i := 3) (oi := { dst := some 28, op := Op.load 61 (Operand.tmp 3), type := 61, pos := "l3_tree.go:217", after := #[{ on := 2, ground := Ground.guard }], guard := some (2, false) }) (v := .agg #[.bool lf, .int .i64 pg, .slice ka kn kc, .slice va vn vc, .slice oa on oc, .slice ya yn yc]) rfl (by kernel_rfl) (by kernel_rfl) (by kernel_rfl) (fun _ _ _ h => h) (Or.inl ⟨by rfl, ?_⟩) (by assumption) ?_
        · intro wq hSw; (try dsimp only at hSw); obtain ⟨q0, q1, q2, q3, q4, q5⟩ := box6 hSw.1; go_simp
        try simp only [Act.put, List.setIfInBounds_toArray, List.set_cons_zero, List.set_cons_succ]
        refine wpAnyH_ready (rs := [4]) (by kernel_rfl) (by simp) ?_
        refine AllReadyH.cons (o := { dst := some 29, op := Op.call { callee := Callee.value (Operand.func 45), args := #[Operand.tmp 28, Operand.const (Value.bool true)], argTypes := #[61, 4] }, type := 4, pos := "l3_tree.go:217", after := #[{ on := 3, ground := Ground.data }, { on := 2, ground := Ground.chain }, { on := 2, ground := Ground.guard }], guard := some (2, false) }) rfl (fun K hK => ?_) AllReadyH.nil
        go_simp
        refine (hGood W3.drew ka kn kc va vn vc oa on oc ya yc css hCd hXd).mono ?_
        rintro e w2 ⟨rfl, hbx⟩
        have hw2 : Below W3.heap.size W3 w2 := ((Below.refl _ W3).drew).trans hbx
        clear hbx
        go_wp2_with fail
        refine hK.out _ _ (SS.out w2 hw2) (fun hHeld => ?_)
        clear hK K
        try simp only [Act.put, List.setIfInBounds_toArray, List.set_cons_zero, List.set_cons_succ]
        refine wpAnyH_take (i := 5) (oi := { dst := some 30, op := Op.unOp UnOp.not 4 (Operand.tmp 29), type := 4, pos := "l3_tree.go:217", after := #[{ on := 4, ground := Ground.data }, { on := 2, ground := Ground.guard }], guard := some (2, false) }) (v := .bool false) rfl (by kernel_rfl) (by kernel_rfl) (by kernel_rfl) (fun _ _ _ h => h) (Or.inl ⟨by rfl, ?_⟩) (by assumption) ?_
        · intro wq hSw; (try dsimp only at hSw); go_simp
        try simp only [Act.put, List.setIfInBounds_toArray, List.set_cons_zero, List.set_cons_succ]
        refine wpAnyH_take (i := 6) (oi := { dst := some 31, op := Op.pick (Operand.tmp 27) (Operand.const (Value.bool true)) (Operand.tmp 30), type := 4, pos := "l3_tree.go:217", after := #[{ on := 2, ground := Ground.data }, { on := 5, ground := Ground.data }], guard := none }) (v := .bool false) rfl (by kernel_rfl) (by kernel_rfl) (by kernel_rfl) (fun _ _ _ h => h) (Or.inl ⟨by rfl, ?_⟩) (by assumption) ?_
        · intro wq hSw; (try dsimp only at hSw); go_simp
        try simp only [Act.put, List.setIfInBounds_toArray, List.set_cons_zero, List.set_cons_succ]
        refine wpAnyH_take (i := 7) (oi := { dst := some 32, op := Op.move (Operand.tmp 31), type := 4, pos := "l3_tree.go:217", after := #[{ on := 6, ground := Ground.data }, { on := 4, ground := Ground.chain }], guard := none }) (v := .bool false) rfl (by kernel_rfl) (by kernel_rfl) (by kernel_rfl) (fun _ _ _ h => h) (Or.inl ⟨by rfl, ?_⟩) (by assumption) ?_
        · intro wq hSw; (try dsimp only at hSw); go_simp
        try simp only [Act.put, List.setIfInBounds_toArray, List.set_cons_zero, List.set_cons_succ]
        refine wpAnyH_take (i := 8) (oi := { dst := some 33, op := Op.load 61 (Operand.tmp 3), type := 61, pos := "l3_tree.go:217", after := #[{ on := 7, ground := Ground.guard }], guard := some (7, false) }) (v := .agg #[.bool lf, .int .i64 pg, .slice ka kn kc, .slice va vn vc, .slice oa on oc, .slice ya yn yc]) rfl (by kernel_rfl) (by kernel_rfl) (by kernel_rfl) (fun _ _ _ h => h) (Or.inl ⟨by rfl, ?_⟩) (by assumption) ?_
        · intro wq hSw; (try dsimp only at hSw); obtain ⟨q0, q1, q2, q3, q4, q5⟩ := box6 hSw.1; go_simp
        try simp only [Act.put, List.setIfInBounds_toArray, List.set_cons_zero, List.set_cons_succ]
        refine wpAnyH_ready (rs := [9]) (by kernel_rfl) (by simp) ?_
        refine AllReadyH.cons (o := { dst := some 34, op := Op.call { callee := Callee.value (Operand.func 46), args := #[Operand.tmp 33], argTypes := #[61] }, type := 3, pos := "l3_tree.go:217", after := #[{ on := 8, ground := Ground.data }, { on := 7, ground := Ground.chain }, { on := 7, ground := Ground.guard }], guard := some (7, false) }) rfl (fun K hK => ?_) AllReadyH.nil
        go_simp
        refine (hHt w2 ka kn kc va vn vc oa on oc ya yc css (Nat.le_trans hCw hw2.size) (HX3.out w2 hw2)).mono ?_
        rintro e w3 ⟨rfl, hbx⟩
        have hw3 : Below W3.heap.size W3 w3 := hw2.trans (hbx.mono hw2.size)
        clear hbx
        go_wp2_with fail
        refine hK.out _ _ (SS.out w3 hw3) (fun hHeld => ?_)
        clear hK K
        try simp only [Act.put, List.setIfInBounds_toArray, List.set_cons_zero, List.set_cons_succ]
        refine wpAnyH_take (i := 10) (oi := { dst := some 35, op := Op.binOp BinOp.lss 3 (Operand.tmp 34) (Operand.const (Value.int IntKind.i64 0)) 3, type := 4, pos := "l3_tree.go:217", after := #[{ on := 9, ground := Ground.data }, { on := 7, ground := Ground.guard }], guard := some (7, false) }) (v := .bool false) rfl (by kernel_rfl) (by kernel_rfl) (by kernel_rfl) (fun _ _ _ h => h) (Or.inl ⟨by rfl, ?_⟩) (by assumption) ?_
        · intro wq hSw; (try dsimp only at hSw); go_simp
        try simp only [Act.put, List.setIfInBounds_toArray, List.set_cons_zero, List.set_cons_succ]
        refine wpAnyH_take (i := 11) (oi := { dst := some 36, op := Op.pick (Operand.tmp 32) (Operand.const (Value.bool true)) (Operand.tmp 35), type := 4, pos := "l3_tree.go:217", after := #[{ on := 7, ground := Ground.data }, { on := 10, ground := Ground.data }], guard := none }) (v := .bool false) rfl (by kernel_rfl) (by kernel_rfl) (by kernel_rfl) (fun _ _ _ h => h) (Or.inl ⟨by rfl, ?_⟩) (by assumption) ?_
        · intro wq hSw; (try dsimp only at hSw); go_simp
        try simp only [Act.put, List.setIfInBounds_toArray, List.set_cons_zero, List.set_cons_succ]
        refine wpAnyH_take (i := 12) (oi := { dst := some 37, op := Op.move (Operand.tmp 36), type := 4, pos := "l3_tree.go:217", after := #[{ on := 11, ground := Ground.data }, { on := 9, ground := Ground.chain }], guard := none }) (v := .bool false) rfl (by kernel_rfl) (by kernel_rfl) (by kernel_rfl) (fun _ _ _ h => h) (Or.inl ⟨by rfl, ?_⟩) (by assumption) ?_
        · intro wq hSw; (try dsimp only at hSw); go_simp
        try simp only [Act.put, List.setIfInBounds_toArray, List.set_cons_zero, List.set_cons_succ]
        refine wpAnyH_take (i := 13) (oi := { dst := some 38, op := Op.load 61 (Operand.tmp 3), type := 61, pos := "l3_tree.go:217", after := #[{ on := 12, ground := Ground.guard }], guard := some (12, false) }) (v := .agg #[.bool lf, .int .i64 pg, .slice ka kn kc, .slice va vn vc, .slice oa on oc, .slice ya yn yc]) rfl (by kernel_rfl) (by kernel_rfl) (by kernel_rfl) (fun _ _ _ h => h) (Or.inl ⟨by rfl, ?_⟩) (by assumption) ?_
        · intro wq hSw; (try dsimp only at hSw); obtain ⟨q0, q1, q2, q3, q4, q5⟩ := box6 hSw.1; go_simp
        try simp only [Act.put, List.setIfInBounds_toArray, List.set_cons_zero, List.set_cons_succ]
        refine wpAnyH_take (i := 15) (oi := { dst := some 40, op := Op.fieldAddr 26 (Operand.tmp 1) 0, type := 0, pos := "l3_tree.go:217", after := #[{ on := 12, ground := Ground.guard }], guard := some (12, false) }) (v := .pointer (some ⟨N, 0, none⟩)) rfl (by kernel_rfl) (by kernel_rfl) (by kernel_rfl) (fun _ _ _ h => h) (Or.inl ⟨by rfl, ?_⟩) (by assumption) ?_
        · intro wq hSw; (try dsimp only at hSw); go_simp
        try simp only [Act.put, List.setIfInBounds_toArray, List.set_cons_zero, List.set_cons_succ]
        refine wpAnyH_take (i := 16) (oi := { dst := some 41, op := Op.load 24 (Operand.tmp 40), type := 24, pos := "l3_tree.go:217", after := #[{ on := 15, ground := Ground.data }, { on := 12, ground := Ground.guard }], guard := some (12, false) }) (v := .slice a n c) rfl (by kernel_rfl) (by kernel_rfl) (by kernel_rfl) (fun _ _ _ h => h) (Or.inl ⟨by rfl, ?_⟩) (by assumption) ?_
        · intro wq hSw; (try dsimp only at hSw); have q0 := cell_one_at hSw.2; go_simp
        try simp only [Act.put, List.setIfInBounds_toArray, List.set_cons_zero, List.set_cons_succ]
        refine wpAnyH_take (i := 17) (oi := { dst := some 42, op := Op.call { callee := Callee.builtin Builtin.len, args := #[Operand.tmp 41], argTypes := #[24] }, type := 3, pos := "l3_tree.go:217", after := #[{ on := 16, ground := Ground.data }, { on := 12, ground := Ground.guard }], guard := some (12, false) }) (v := .int .i64 n) rfl (by kernel_rfl) (by kernel_rfl) (by kernel_rfl) (fun _ _ _ h => h) (Or.inl ⟨by rfl, ?_⟩) (by assumption) ?_
        · intro wq hSw; (try dsimp only at hSw); go_simp
        try simp only [Act.put, List.setIfInBounds_toArray, List.set_cons_zero, List.set_cons_succ]
        refine wpAnyH_ready (rs := [14]) (by kernel_rfl) (by simp) ?_
        refine AllReadyH.cons (o := { dst := some 39, op := Op.call { callee := Callee.value (Operand.func 30), args := #[Operand.tmp 38], argTypes := #[61] }, type := 3, pos := "l3_tree.go:217", after := #[{ on := 13, ground := Ground.data }, { on := 12, ground := Ground.chain }, { on := 12, ground := Ground.guard }], guard := some (12, false) }) rfl (fun K hK => ?_) AllReadyH.nil
        go_simp
        refine (hNo w3 ka kn kc va vn vc oa on oc ya yc css (Nat.le_trans hCw hw3.size) (HX3.out w3 hw3)).mono ?_
        rintro e w4 ⟨rfl, hbx⟩
        have hw4 : Below W3.heap.size W3 w4 := hw3.trans (hbx.mono hw3.size)
        clear hbx
        go_wp2_with fail
        refine hK.out _ _ (SS.out w4 hw4) (fun hHeld => ?_)
        clear hK K
        try simp only [Act.put, List.setIfInBounds_toArray, List.set_cons_zero, List.set_cons_succ]
        refine wpAnyH_take (i := 18) (oi := { dst := some 43, op := Op.binOp BinOp.neq 3 (Operand.tmp 39) (Operand.tmp 42) 3, type := 4, pos := "l3_tree.go:217", after := #[{ on := 14, ground := Ground.data }, { on := 17, ground := Ground.data }, { on := 12, ground := Ground.guard }], guard := some (12, false) }) (v := .bool false) rfl (by kernel_rfl) (by kernel_rfl) (by kernel_rfl) (fun _ _ _ h => h) (Or.inl ⟨by rfl, ?_⟩) (by assumption) ?_
        · intro wq hSw; (try dsimp only at hSw); go_simp
        try simp only [Act.put, List.setIfInBounds_toArray, List.set_cons_zero, List.set_cons_succ]
        refine wpAnyH_take (i := 19) (oi := { dst := some 44, op := Op.pick (Operand.tmp 37) (Operand.const (Value.bool true)) (Operand.tmp 43), type := 4, pos := "l3_tree.go:217", after := #[{ on := 12, ground := Ground.data }, { on := 18, ground := Ground.data }], guard := none }) (v := .bool false) rfl (by kernel_rfl) (by kernel_rfl) (by kernel_rfl) (fun _ _ _ h => h) (Or.inl ⟨by rfl, ?_⟩) (by assumption) ?_
        · intro wq hSw; (try dsimp only at hSw); go_simp
        try simp only [Act.put, List.setIfInBounds_toArray, List.set_cons_zero, List.set_cons_succ]
        refine wpAnyH_done (by kernel_rfl) ?_ _
        refine NoPanic.normal ?_
        have HG2 : Hid (t.good true = true ∧ t.slots.all (fun s => kyB s.1) = true) := by have := HGD.out; rwa [Bool.and_eq_true] at this
        have hPr := HPR0.out ⟨true, HG2.out.1⟩ (by have := slots_len t ⟨true, HG2.out.1⟩; have := HND.out; omega)
        have hXp := HX3.out w4 hw4
        have hTp := HT3.out.below (hw4.mono (by omega))
        have hBp := HB3.out.trans (hw4.mono (by omega))
        obtain ⟨kM, kN⟩ := SS.out w4 hw4
        have hMp : M < w4.heap.size := by have := hw4.size; omega
        clear hw2 hw3 hw4 hGood hHt hNo hdec hnn HX3 SS HT3 HB3 HPR0 hHeld hXd hCd hCw HGD zM
        generalize w4 = W4 at *
        obtain ⟨q0, q1, q2, q3, q4, q5⟩ := box6 kM
        go_upto_region 7 with (go_at_call 47; refine (hPr W4 ka kn kc va vn vc oa on oc ya yc css (by omega) hXp).mono ?_; rintro e w5 ⟨gp, cp, rfl, hown, hbp⟩)
        clear q0 q1 q2 q3 q4 q5 hPr
        have hCw : M ≤ w5.heap.size := by have := hbp.size; omega
        have hX5 := hXp.belowC (hbp.mono (by omega))
        have hT5 := hTp.below (hbp.mono (by have := hBp.size; omega))
        have hB5 := hBp.trans (hbp.mono hBp.size)
        have kM5 := (hbp.block M hMp).trans kM
        have kN5 := (hbp.block N (by have := hBp.size; omega)).trans kN
        obtain ⟨m, hm⟩ : ∃ m, t.slots.length = m := ⟨_, rfl⟩
        have HM : Hid (t.slots.length = m ∧ m ≤ 100000) := ⟨hm, by have := slots_len t ⟨true, HG2.out.1⟩; have := HND.out; omega⟩
        have HKL : Hid ((t.slots.map (fun s => s.1)).length = m) := by show _ = _; rw [List.length_map, hm]
        have HCE : Hid (∀ wr, Below w5.heap.size w5 wr → ∀ j, j < m → wr.cell? ⟨gp, j * 2, none⟩ = some (.string ((t.slots.map (fun s => s.1)).getD j ByteArray.empty))) := fun wr hb j hj => by
          have h1 := hown.lt gp rfl
          have h2 := hown.cellAt (j * 2) (by omega)
          have h3 := rowsOf_get pr2 (ByteArray.empty, ByteArray.empty, (0 : Int)) t.slots j 0 (by omega) (by omega)
          rw [Nat.add_zero] at h3
          rw [World.cell?_of_block (w := w5) (a := ⟨gp, j * 2, none⟩) (hb.block gp h1.2), h2, h3]
          have h4 : j < t.slots.length := by omega
          simp [prCells, List.getD, h4]
        have hgp := (hown.lt gp rfl).2
        rw [hm]
        have hm1 := HM.out.2
        generalize t.slots.map (fun s => s.1) = keys at *
        clear hm hown hXp hTp hBp hbp kM kN hMp
        have SS : Hid (∀ w', Below w5.heap.size w5 w' → (fun w' : World => w'.heap[M]? = some (.cells #[.bool lf, .int .i64 pg, .slice ka kn kc, .slice va vn vc, .slice oa on oc, .slice ya yn yc] 61) ∧ w'.heap[N]? = some (.cells #[.slice a n c] 26)) w') := fun w' hb => ⟨(hb.block M (Array.getElem?_eq_some_iff.1 kM5).1).trans kM5, (hb.block N (Array.getElem?_eq_some_iff.1 kN5).1).trans kN5⟩
        have HX5 : Hid (∀ w', Below w5.heap.size w5 w' → NodeX w' 0 M (fun b => b < M) t ka kn kc va vn vc oa on oc ya yc css) := fun w' hb => hX5.belowC (hb.mono hCw)
        have HT5 : Hid (∀ w', Below w5.heap.size w5 w' → NodesAt w' A B a n c ts) := fun w' hb => hT5.below (hb.mono (by have := hB5.size; omega))
        have HB5 : Hid (∀ w', Below w5.heap.size w5 w' → Below w.heap.size w w') := fun w' hb => hB5.trans (hb.mono hB5.size)
        clear hX5 hT5 hB5 kM5 kN5
        go_wp2_with fail
        go_loopw [6] (fun i wr => ∃ q : Nat, (q < m ∨ q = 0) ∧ i = .int .i64 ((q : Int) + 1) ∧ Hid (ascTo keys (q + 1)) ∧ Below w5.heap.size w5 wr) (fun i _ => m + 1 - (intOf i).toNat)
        case atStart => exact ⟨0, .inr rfl, rfl, fun i hi => by omega, Below.refl _ _⟩
        case round =>
          obtain ⟨q, hq, rfl, HA, hbel⟩ := hrel
          by_cases hlt : q + 1 < m
          · have c0 := HCE.out wr hbel q (by omega)
            have c1 := HCE.out wr hbel (q + 1) hlt
            have lg : gp < wr.heap.size := by have := hbel.size; omega
            have HST : Hid (∀ r, lessB (keys.getD q ByteArray.empty) (keys.getD (q + 1) ByteArray.empty) = r → (r = true → ascTo keys (q + 1 + 1)) ∧ (r = false → ¬ SpecOk ts)) := by
              intro r hr
              constructor
              · rintro rfl i hi
                by_cases hi2 : i = q
                · subst hi2; exact hr
                · exact HA.out i (by omega)
              · rintro rfl h
                have := asc_to _ (HSPEC.out.1 h).2.2.2.1 q (by have := HKL.out; omega)
                rw [hr] at this
                cases this
            have hsub : (q : Int) + 1 - 1 = (q : Int) := by omega
            generalize keys.getD q ByteArray.empty = s0 at c0 HST
            generalize keys.getD (q + 1) ByteArray.empty = s1 at c1 HST
            unfold lessB at HST
            obtain ⟨r1, hr1⟩ : ∃ r1, Op.bytesLess s0.toList s1.toList = r1 := ⟨_, rfl⟩
            have HST1 := HST.out r1 hr1
            have HR1 : Hid (Op.bytesLess s0.toList s1.toList = r1) := hr1
            clear hr1 HST
            go_upto_region 10 with fail
            have lm : (q : Int) + 1 < m := by omega
            have hwq : IntKind.i64.wrap (q : Int) = q := by rw [IntKind.wrap_i64]; omega
            refine wp_region_noPanic ?_
            refine wp_region_held_drew (S := (fun w' : World => w'.cell? ⟨gp, q * 2, none⟩ = some (.string s0) ∧ w'.cell? ⟨gp, (q + 1) * 2, none⟩ = some (.string s1))) (by kernel_rfl) ⟨c0, c1⟩ (fun hHeld => ?_)
            refine wpAnyH_take (i := 0) (oi := { dst := some 53, op := Op.move (Operand.tmp 5), type := 28, pos := "l3_tree.go:222", after := #[], guard := none }) (v := .slice (some ⟨gp, 0, none⟩) m cp) rfl (by kernel_rfl) (by kernel_rfl) (by kernel_rfl) (fun _ _ _ h => h) (Or.inl ⟨by rfl, ?_⟩) (by assumption) ?_
            · intro wq hSw; (try dsimp only at hSw); go_simp
            try simp only [Act.put, List.setIfInBounds_toArray, List.set_cons_zero, List.set_cons_succ]
            refine wpAnyH_take (i := 1) (oi := { dst := some 54, op := Op.move (Operand.tmp 6), type := 3, pos := "l3_tree.go:222", after := #[], guard := none }) (v := .int .i64 ((q : Int) + 1)) rfl (by kernel_rfl) (by kernel_rfl) (by kernel_rfl) (fun _ _ _ h => h) (Or.inl ⟨by rfl, ?_⟩) (by assumption) ?_
            · intro wq hSw; (try dsimp only at hSw); go_simp
            try simp only [Act.put, List.setIfInBounds_toArray, List.set_cons_zero, List.set_cons_succ]
            refine wpAnyH_take (i := 2) (oi := { dst := some 55, op := Op.binOp BinOp.sub 3 (Operand.tmp 54) (Operand.const (Value.int IntKind.i64 1)) 3, type := 3, pos := "l3_tree.go:222", after := #[{ on := 1, ground := Ground.data }], guard := none }) (v := .int .i64 (q : Int)) rfl (by kernel_rfl) (by kernel_rfl) (by kernel_rfl) (fun _ _ _ h => h) (Or.inl ⟨by rfl, ?_⟩) (by assumption) ?_
            · intro wq hSw; (try dsimp only at hSw); go_simp
            try simp only [Act.put, List.setIfInBounds_toArray, List.set_cons_zero, List.set_cons_succ]
            refine wpAnyH_take (i := 3) (oi := { dst := some 56, op := Op.indexAddr 28 (Operand.tmp 53) (Operand.tmp 55), type := 0, pos := "l3_tree.go:222", after := #[{ on := 0, ground := Ground.data }, { on := 2, ground := Ground.data }], guard := none }) (v := .pointer (some ⟨gp, q * 2, none⟩)) rfl (by kernel_rfl) (by kernel_rfl) (by kernel_rfl) (fun _ _ _ h => h) (Or.inl ⟨by rfl, ?_⟩) (by assumption) ?_
            · intro wq hSw; (try dsimp only at hSw); go_simp; (try (intro hx; exfalso; omega))
            try simp only [Act.put, List.setIfInBounds_toArray, List.set_cons_zero, List.set_cons_succ]
            refine wpAnyH_take (i := 4) (oi := { dst := some 57, op := Op.fieldAddr 53 (Operand.tmp 56) 0, type := 0, pos := "l3_tree.go:222", after := #[{ on := 3, ground := Ground.data }], guard := none }) (v := .pointer (some ⟨gp, q * 2, none⟩)) rfl (by kernel_rfl) (by kernel_rfl) (by kernel_rfl) (fun _ _ _ h => h) (Or.inl ⟨by rfl, ?_⟩) (by assumption) ?_
            · intro wq hSw; (try dsimp only at hSw); go_simp
            try simp only [Act.put, List.setIfInBounds_toArray, List.set_cons_zero, List.set_cons_succ]
            refine wpAnyH_take (i := 5) (oi := { dst := some 58, op := Op.load 9 (Operand.tmp 57), type := 9, pos := "l3_tree.go:222", after := #[{ on := 4, ground := Ground.data }], guard := none }) (v := .string s0) rfl (by kernel_rfl) (by kernel_rfl) (by kernel_rfl) (fun _ _ _ h => h) (Or.inl ⟨by rfl, ?_⟩) (by assumption) ?_
            · intro wq hSw; (try dsimp only at hSw); obtain ⟨d0, d1⟩ := hSw; go_simp
            try simp only [Act.put, List.setIfInBounds_toArray, List.set_cons_zero, List.set_cons_succ]
            refine wpAnyH_take (i := 6) (oi := { dst := some 59, op := Op.move (Operand.tmp 5), type := 28, pos := "l3_tree.go:222", after := #[], guard := none }) (v := .slice (some ⟨gp, 0, none⟩) m cp) rfl (by kernel_rfl) (by kernel_rfl) (by kernel_rfl) (fun _ _ _ h => h) (Or.inl ⟨by rfl, ?_⟩) (by assumption) ?_
            · intro wq hSw; (try dsimp only at hSw); go_simp
            try simp only [Act.put, List.setIfInBounds_toArray, List.set_cons_zero, List.set_cons_succ]
            refine wpAnyH_take (i := 7) (oi := { dst := some 60, op := Op.move (Operand.tmp 6), type := 3, pos := "l3_tree.go:222", after := #[], guard := none }) (v := .int .i64 ((q : Int) + 1)) rfl (by kernel_rfl) (by kernel_rfl) (by kernel_rfl) (fun _ _ _ h => h) (Or.inl ⟨by rfl, ?_⟩) (by assumption) ?_
            · intro wq hSw; (try dsimp only at hSw); go_simp
            try simp only [Act.put, List.setIfInBounds_toArray, List.set_cons_zero, List.set_cons_succ]
            refine wpAnyH_take (i := 8) (oi := { dst := some 61, op := Op.indexAddr 28 (Operand.tmp 59) (Operand.tmp 60), type := 0, pos := "l3_tree.go:222", after := #[{ on := 6, ground := Ground.data }, { on := 7, ground := Ground.data }], guard := none }) (v := .pointer (some ⟨gp, (q + 1) * 2, none⟩)) rfl (by kernel_rfl) (by kernel_rfl) (by kernel_rfl) (fun _ _ _ h => h) (Or.inl ⟨by rfl, ?_⟩) (by assumption) ?_
            · intro wq hSw; (try dsimp only at hSw); go_simp; (try (intro hx; exfalso; omega))
            try simp only [Act.put, List.setIfInBounds_toArray, List.set_cons_zero, List.set_cons_succ]
            refine wpAnyH_take (i := 9) (oi := { dst := some 62, op := Op.fieldAddr 53 (Operand.tmp 61) 0, type := 0, pos := "l3_tree.go:222", after := #[{ on := 8, ground := Ground.data }], guard := none }) (v := .pointer (some ⟨gp, (q + 1) * 2, none⟩)) rfl (by kernel_rfl) (by kernel_rfl) (by kernel_rfl) (fun _ _ _ h => h) (Or.inl ⟨by rfl, ?_⟩) (by assumption) ?_
            · intro wq hSw; (try dsimp only at hSw); go_simp
            try simp only [Act.put, List.setIfInBounds_toArray, List.set_cons_zero, List.set_cons_succ]
            refine wpAnyH_take (i := 10) (oi := { dst := some 63, op := Op.load 9 (Operand.tmp 62), type := 9, pos := "l3_tree.go:222", after := #[{ on := 9, ground := Ground.data }], guard := none }) (v := .string s1) rfl (by kernel_rfl) (by kernel_rfl) (by kernel_rfl) (fun _ _ _ h => h) (Or.inl ⟨by rfl, ?_⟩) (by assumption) ?_
            · intro wq hSw; (try dsimp only at hSw); obtain ⟨d0, d1⟩ := hSw; go_simp
            try simp only [Act.put, List.setIfInBounds_toArray, List.set_cons_zero, List.set_cons_succ]
            refine wpAnyH_take (i := 11) (oi := { dst := some 64, op := Op.binOp BinOp.geq 9 (Operand.tmp 58) (Operand.tmp 63) 9, type := 4, pos := "l3_tree.go:222", after := #[{ on := 5, ground := Ground.data }, { on := 10, ground := Ground.data }], guard := none }) (v := .bool (!r1)) rfl (by kernel_rfl) (by kernel_rfl) (by kernel_rfl) (fun _ _ _ h => h) (Or.inl ⟨by rfl, ?_⟩) (by assumption) ?_
            · intro wq hSw; (try dsimp only at hSw); go_simp <;> first | (rw [binOp_geqT, HR1.out]; simp) | exact HR1.out | simp [HR1.out]
            try simp only [Act.put, List.setIfInBounds_toArray, List.set_cons_zero, List.set_cons_succ]
            refine wpAnyH_done (by kernel_rfl) ?_ _
            refine NoPanic.normal ?_
            clear HR1 c0 c1 hHeld
            cases r1
            · have HNO : Hid (¬ SpecOk ts) := HST1.2 rfl
              clear HST1
              go_wp2_with fail
              go_ret
              exact SaysB.no HNO.out (HB5.out wr hbel).drew
            · have HA2 : Hid (ascTo keys (q + 1 + 1)) := HST1.1 rfl
              clear HST1 HA
              have hb2 := hbel.drew
              go_wp2_with fail
              go_roundw
              case rel => exact ⟨q + 1, .inl hlt, by go_num, HA2, hb2⟩
              case measure => simp [intOf]; omega
          · have HAS : Hid (ascB keys = true) := asc_of _ (fun i hi => by
              have := HKL.out
              exact HA.out i (by omega))
            have hMw : M < wr.heap.size := (Array.getElem?_eq_some_iff.1 (SS.out wr hbel).1).1
            have hX4 := HX5.out wr hbel
            have hT4 := HT5.out wr hbel
            have hB4 := HB5.out wr hbel
            obtain ⟨kM, kN⟩ := SS.out wr hbel
            go_upto_region 12 with fail
            clear HCE HX5 HT5 HB5 SS HA HKL HM hgp hCw hbel hlt hq
            generalize wr = W4 at *
            have hCw : M ≤ W4.heap.size := by omega
            have hCd : M ≤ W4.drew.heap.size := hCw
            have hXd := hX4.belowC (((Below.refl W4.heap.size W4).drew).mono hCw)
            have hTree := HTR0.out ⟨true, HG2.out.1⟩ (by have := HND.out; omega) HG2.out.2
            have hBw := hB4.size
            have hSame : ∀ w5, Below W4.heap.size W4 w5 → ∀ gt ct csst, FlatAt w5 W4.drew.heap.size gt ct csst (t.flat 0) → Calls Try.prog 48 #[.agg #[.slice (some ⟨gt, 0, none⟩) (t.flat 0).length ct], .agg #[.slice a n c]] w5 fun e w' => ∃ r, e = .returned (.bool r) ∧ (r = true ↔ t.flat 0 = ts) ∧ Below w5.heap.size w5 w' := fun w5 hb gt ct csst hF =>
              l3Same_any _ _ _ a n c (t.flat 0) ts w5 _ _ A B (Nat.le_refl _) (by have := hb.size; omega) hF.nodes (hT4.below (hb.mono (by omega))) (flat_even t ⟨true, HG2.out.1⟩ 0)
            have SS : Hid (∀ w', Below W4.heap.size W4 w' → (fun w' : World => w'.heap[M]? = some (.cells #[.bool lf, .int .i64 pg, .slice ka kn kc, .slice va vn vc, .slice oa on oc, .slice ya yn yc] 61) ∧ w'.heap[N]? = some (.cells #[.slice a n c] 26)) w') := fun w' hb => ⟨(hb.block M hMw).trans kM, (hb.block N (by omega)).trans kN⟩
            have HX4 : Hid (∀ w', Below W4.heap.size W4 w' → NodeX w' 0 M (fun b => b < M) t ka kn kc va vn vc oa on oc ya yc css) := fun w' hb => hX4.belowC (hb.mono hCw)
            have HB4 : Hid (∀ w', Below W4.heap.size W4 w' → Below w.heap.size w w') := fun w' hb => hB4.trans (hb.mono hB4.size)
            clear kM kN hX4 hB4 hT4 HTR0
            refine wp_region_noPanic ?_
            refine wp_region_held_drew (S := (fun w' : World => w'.heap[M]? = some (.cells #[.bool lf, .int .i64 pg, .slice ka kn kc, .slice va vn vc, .slice oa on oc, .slice ya yn yc] 61) ∧ w'.heap[N]? = some (.cells #[.slice a n c] 26))) (by kernel_rfl) (SS.out W4 (Below.refl _ _)) (fun hHeld => ?_)
            refine wpAnyH_take (i := 0) (oi := { dst := some 65, op := Op.load 61 (Operand.tmp 3), type := 61, pos := "l3_tree.go:226", after := #[], guard := none }) (v := .agg #[.bool lf, .int .i64 pg, .slice ka kn kc, .slice va vn vc, .slice oa on oc, .slice ya yn yc]) rfl (by kernel_rfl) (by kernel_rfl) (by kernel_rfl) (fun _ _ _ h => h) (Or.inl ⟨by rfl, ?_⟩) (by assumption) ?_
            · intro wq hSw; (try dsimp only at hSw); obtain ⟨q0, q1, q2, q3, q4, q5⟩ := box6 hSw.1; go_simp
            try simp only [Act.put, List.setIfInBounds_toArray, List.set_cons_zero, List.set_cons_succ]
            refine wpAnyH_take (i := 2) (oi := { dst := some 67, op := Op.load 26 (Operand.tmp 1), type := 26, pos := "l3_tree.go:226", after := #[], guard := none }) (v := .agg #[.slice a n c]) rfl (by kernel_rfl) (by kernel_rfl) (by kernel_rfl) (fun _ _ _ h => h) (Or.inl ⟨by rfl, ?_⟩) (by assumption) ?_
            · intro wq hSw; (try dsimp only at hSw); have q0 := cell_one_at hSw.2; go_simp
            try simp only [Act.put, List.setIfInBounds_toArray, List.set_cons_zero, List.set_cons_succ]
            refine wpAnyH_ready (rs := [1]) (by kernel_rfl) (by simp) ?_
            refine AllReadyH.cons (o := { dst := some 66, op := Op.call { callee := Callee.value (Operand.func 31), args := #[Operand.tmp 65], argTypes := #[61] }, type := 26, pos := "l3_tree.go:226", after := #[{ on := 0, ground := Ground.data }], guard := none }) rfl (fun K hK => ?_) AllReadyH.nil
            go_simp
            refine (hTree W4.drew ka kn kc va vn vc oa on oc ya yc css hCd hXd).mono ?_
            rintro e w5 ⟨gt, ct, csst, rfl, hFl, hbx⟩
            have hw5 : Below W4.heap.size W4 w5 := ((Below.refl _ W4).drew).trans hbx
            clear hbx
            go_wp2_with fail
            refine hK.out _ _ (SS.out w5 hw5) (fun hHeld => ?_)
            clear hK K
            try simp only [Act.put, List.setIfInBounds_toArray, List.set_cons_zero, List.set_cons_succ]
            refine wpAnyH_ready (rs := [3]) (by kernel_rfl) (by simp) ?_
            refine AllReadyH.cons (o := { dst := some 68, op := Op.call { callee := Callee.value (Operand.func 48), args := #[Operand.tmp 66, Operand.tmp 67], argTypes := #[26, 26] }, type := 4, pos := "l3_tree.go:226", after := #[{ on := 1, ground := Ground.data }, { on := 2, ground := Ground.data }, { on := 1, ground := Ground.chain }], guard := none }) rfl (fun K hK => ?_) AllReadyH.nil
            go_simp
            refine (hSame w5 hw5 gt ct csst hFl).mono ?_
            rintro e w6 ⟨rs, rfl, hrs, hbx⟩
            have hw6 : Below W4.heap.size W4 w6 := hw5.trans (hbx.mono hw5.size)
            clear hbx
            go_wp2_with fail
            refine hK.out _ _ (SS.out w6 hw6) (fun hHeld => ?_)
            clear hK K
            try simp only [Act.put, List.setIfInBounds_toArray, List.set_cons_zero, List.set_cons_succ]
            cases rs
            · have HNS : Hid (¬ t.flat 0 = ts) := fun h => by simpa using hrs.2 h
              clear hrs hFl
              refine wpAnyH_take (i := 4) (oi := { dst := some 69, op := Op.unOp UnOp.not 4 (Operand.tmp 68), type := 4, pos := "l3_tree.go:226", after := #[{ on := 3, ground := Ground.data }], guard := none }) (v := .bool true) rfl (by kernel_rfl) (by kernel_rfl) (by kernel_rfl) (fun _ _ _ h => h) (Or.inl ⟨by rfl, ?_⟩) (by assumption) ?_
              · intro wq hSw; (try dsimp only at hSw); go_simp
              try simp only [Act.put, List.setIfInBounds_toArray, List.set_cons_zero, List.set_cons_succ]
              refine wpAnyH_done (by kernel_rfl) ?_ _
              refine NoPanic.normal ?_
              go_wp2_with fail
              go_ret
              exact SaysB.no (fun h => HNS.out (HSPEC.out.1 h).2.2.2.2.1) (HB4.out w6 hw6)
            · have HSM : Hid (t.flat 0 = ts) := hrs.1 rfl
              clear hrs hFl
              refine wpAnyH_take (i := 4) (oi := { dst := some 69, op := Op.unOp UnOp.not 4 (Operand.tmp 68), type := 4, pos := "l3_tree.go:226", after := #[{ on := 3, ground := Ground.data }], guard := none }) (v := .bool false) rfl (by kernel_rfl) (by kernel_rfl) (by kernel_rfl) (fun _ _ _ h => h) (Or.inl ⟨by rfl, ?_⟩) (by assumption) ?_
              · intro wq hSw; (try dsimp only at hSw); go_simp
              try simp only [Act.put, List.setIfInBounds_toArray, List.set_cons_zero, List.set_cons_succ]
              refine wpAnyH_done (by kernel_rfl) ?_ _
              refine NoPanic.normal ?_
              have hTi := rd_tight ts _ 0 t ts.length HRD.out ⟨by have := HND.out; have := HL.out; omega, by rw [HSM.out, HND.out, ← HL.out]; simp⟩
              have HPG : Hid (∀ x ∈ t.nums, pgB x = true) := nums_page t hTi ⟨true, HG2.out.1⟩
              have hNL := nums_len t hTi ⟨true, HG2.out.1⟩
              have hNums := HNU0.out (by have := HND.out; omega)
              have HNB : Hid (t.nums.length ≤ 5000) := by show _ ≤ _; have := HND.out; omega
              have HSP2 : Hid (SpecOk ts ↔ t.nums.Nodup) := by
                show _ ↔ _
                rw [HSPEC.out]
                have hge : 0 ≤ t.ht := by rw [HHT.out]; exact hneg
                simp [HG2.out.1, HG2.out.2, hge, HAS.out, HSM.out]
              obtain ⟨kM, kN⟩ := SS.out w6 hw6
              have hX6 := HX4.out w6 hw6
              have hB6 := HB4.out w6 hw6
              have hM6 : M < w6.heap.size := (Array.getElem?_eq_some_iff.1 kM).1
              clear hTi hNL hTree hSame SS HX4 HB4 hw5 hw6 HSPEC HSM HHT HAS HNU0 hXd hCd hCw hHeld hMw HRD HSH HND HL
              obtain ⟨i0, hi, hz0, hz1, hz2⟩ := info_parts info_boolT
              generalize w6 = W6 at *
              go_upto_region 15 with (at_make; refine wpList_make_full _ rfl _ _ 80 rfl W6.heap.size 4 i0 _ 1 Try.underlying80 hi hz0 hz1 .i64 .i64 1000 1000 1000 rfl rfl rfl rfl (by rw [hz2]; omega) (by unfold maxLen; omega) (Nat.le_refl _) ?_; intro w7 hown hgr)
              have hmk : (madeCells (Value.bool false).cells (1000 * 1)).toList = List.replicate 1000 (.bool false) := toList_madeCells_one _ _
              rw [hmk] at hown
              have hb7 : Below W6.heap.size W6 w7 := (Below.refl _ _).grown hgr (Nat.le_refl _) (by simp)
              have hX7 := hX6.belowC (hb7.mono (by omega))
              have kM7 := (hb7.block M hM6).trans kM
              have hB7 := hB6.trans (hb7.mono hB6.size)
              have hU := (hown.lt _ rfl).2
              obtain ⟨xs0, hxs0⟩ : ∃ xs0 : List Value, List.replicate 1000 (Value.bool false) = xs0 := ⟨_, rfl⟩
              have HG0 : Hid (∀ k, k < 1000 → xs0[k]? = some (.bool (decide ((k : Int) ∈ t.nums.take 0)))) := fun k hk => by rw [← hxs0, List.getElem?_replicate, if_pos hk, List.take_zero]; simp
              rw [hxs0] at hown
              clear hmk hxs0 hgr hX6 kM hM6
              obtain ⟨U, hUU⟩ : ∃ U, W6.heap.size = U := ⟨_, rfl⟩
              rw [hUU] at hown hU ⊢
              obtain ⟨q0, q1, q2, q3, q4, q5⟩ := box6 kM7
              have hM7 : M < w7.heap.size := (Array.getElem?_eq_some_iff.1 kM7).1
              go_upto_region 16 with (go_at_call 49; refine (hNums w7 ka kn kc va vn vc oa on oc ya yc css (by omega) hX7).mono ?_; rintro e w8 ⟨gn, cn, rfl, hownN, hb8⟩)
              clear q0 q1 q2 q3 q4 q5 hNums hX7 kM7
              have hU8 := owns_below hown hb8
              have hgn := hownN.lt gn rfl
              obtain ⟨ln, hln⟩ : ∃ ln, t.nums.length = ln := ⟨_, rfl⟩
              have HLN : Hid (t.nums.length = ln) := hln
              have hln5 : ln ≤ 5000 := by rw [← hln]; exact HNB.out
              rw [hln] at hownN ⊢
              have HCE : Hid (∀ wr, Fr (fun k => k = U) w8 wr → ∀ j, j < ln → wr.cell? ⟨gn, j, none⟩ = some (.int .i64 (t.nums.getD j 0))) := fun wr hf j hj => by
                have h2 := hownN.cellAt j (by omega)
                have h3 := rowsOf_get ic1 (0 : Int) t.nums j 0 (by omega) (by omega)
                rw [Nat.add_zero, Nat.mul_one] at h3
                rw [World.cell?_of_block (w := w8) (a := ⟨gn, j, none⟩) (hf.block gn hgn.2 (by omega)), h2, h3]
                rfl
              have HB8 : Hid (Below w.heap.size w w8) := hB7.trans (hb8.mono hB7.size)
              have hBU : w.heap.size ≤ U := by rw [← hUU]; exact hB6.size
              have hsz8 := HB8.out.size
              clear hln hown hownN hB6 hB7 hb7 hb8 HNB kN
              go_wp2_with fail
              go_loopw [9] (fun i wr => ∃ (q : Nat) (xs : List Value), q ≤ ln ∧ i = .int .i64 q ∧ wr.ownsRow U 4 1 (.slice (some ⟨U, 0, none⟩) 1000 1000) 1000 xs ∧ Hid (∀ k, k < 1000 → xs[k]? = some (.bool (decide ((k : Int) ∈ t.nums.take q)))) ∧ Hid ((t.nums.take q).Nodup) ∧ Fr (fun k => k = U) w8 wr) (fun i _ => ln - (intOf i).toNat)
              case atStart => exact ⟨0, xs0, Nat.zero_le _, rfl, hU8, HG0, by show List.Nodup _; simp, Fr.refl _ _⟩
              case round =>
                clear hU8 HG0
                obtain ⟨q, xs, hq, rfl, hown, HG, HD, hfr⟩ := hrel
                have hbw : Below w.heap.size w wr := HB8.out.trans (hfr.below hsz8 (fun g e => by omega))
                have hs8 := hfr.size
                have lgn : gn < wr.heap.size := by omega
                have lU : U < wr.heap.size := (hown.lt U rfl).2
                by_cases hlt : q < ln
                · have c0 := HCE.out wr hfr q hlt
                  have hmem : t.nums.getD q 0 ∈ t.nums := by have := HLN.out; simp [List.getD, show q < t.nums.length by omega]
                  have hpg := HPG.out _ hmem
                  unfold pgB at hpg
                  simp only [decide_eq_true_eq] at hpg
                  have HTK : Hid (t.nums.take (q + 1) = t.nums.take q ++ [t.nums.getD q 0]) := take_snocD t.nums q 0 (by have := HLN.out; omega)
                  have HNN : Hid (t.nums.getD q 0 ∈ t.nums.take q → ¬ t.nums.Nodup) := fun h hn => by
                    have h1 : (t.nums.take (q + 1)).Nodup := hn.sublist (List.take_sublist _ _)
                    rw [HTK.out, List.nodup_append] at h1
                    exact h1.2.2 _ h _ (by simp) rfl
                  obtain ⟨x, hx⟩ : ∃ x, t.nums.getD q 0 = x := ⟨_, rfl⟩
                  rw [hx] at c0 hpg HTK HNN
                  clear hx hmem
                  obtain ⟨xn, rfl⟩ : ∃ xn : Nat, x = (xn : Int) := ⟨x.toNat, by omega⟩
                  have hxn : xn < 1000 := by omega
                  have hxl := hown.1
                  have u0 : wr.cell? ⟨U, xn, none⟩ = some (.bool (decide ((xn : Int) ∈ t.nums.take q))) := by rw [hown.cellAt xn (by omega)]; exact HG.out xn hxn
                  by_cases tm : (xn : Int) ∈ t.nums.take q
                  · rw [show decide ((xn : Int) ∈ t.nums.take q) = true from by simpa using tm] at u0
                    have HNO : Hid (¬ SpecOk ts) := by
                      intro h
                      exact HNN.out tm (HSP2.out.1 h)
                    clear HG HD HTK HNN tm hown
                    go_wp2_with fail
                    go_ret
                    exact SaysB.no HNO.out hbw
                  · rw [show decide ((xn : Int) ∈ t.nums.take q) = false from by simpa using tm] at u0
                    have HD2 : Hid ((t.nums.take (q + 1)).Nodup) := by
                      show List.Nodup _
                      rw [HTK.out, List.nodup_append]
                      refine ⟨HD.out, by simp, fun a ha b hb e => ?_⟩
                      simp at hb
                      subst hb
                      subst e
                      exact tm ha
                    have HG2' : Hid (∀ k, k < 1000 → (xs.set xn (.bool true))[k]? = some (.bool (decide ((k : Int) ∈ t.nums.take (q + 1))))) := fun k hk => by
                      rw [HTK.out, List.getElem?_set]
                      by_cases hkx : xn = k
                      · subst hkx
                        rw [if_pos rfl, if_pos (by omega)]
                        simp
                      · rw [if_neg hkx, HG.out k hk]
                        have : ¬ ((k : Int) = (xn : Int)) := by omega
                        simp [this]
                    have R := hown.stored xn (.bool true)
                    have hf2 := hfr.trans (fr_setT wr U xn (.bool true))
                    have hf1 := hown.frozenAt xn
                    clear HG HD HTK HNN tm hown
                    go_wp2_with fail
                    go_roundw
                    case rel => exact ⟨q + 1, xs.set xn (.bool true), by omega, by go_num, R.1, HG2', HD2, hf2⟩
                    case measure => simp [intOf]; omega
                · have HYES : Hid (SpecOk ts) := by
                    refine HSP2.out.2 ?_
                    have := HD.out
                    rw [List.take_of_length_le (by have := HLN.out; omega)] at this
                    exact this
                  clear HG HD hown
                  go_wp2_with fail
                  go_ret
                  exact SaysB.yes HYES.out hbw
end Go.Proofs.Ytpmagndofiaooaa
