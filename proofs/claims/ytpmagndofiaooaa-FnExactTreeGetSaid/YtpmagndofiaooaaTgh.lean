import Derived.Test.YtpmagndofiaooaaTgg
import Derived.Test.YtpmagndofiaooaaTlr
namespace Go.Proofs.Ytpmagndofiaooaa
open Go.RowKit
set_option linter.unusedVariables false
set_option linter.unusedSimpArgs false
set_option maxRecDepth 100000

theorem isKeyT_any (s : ByteArray) (w : World) : Calls Try.prog 33 #[.string s] w fun e w' => e = .returned (.bool (kyB s)) ∧ w' = w := by
  by_cases t1 : 1 ≤ s.size
  · by_cases t2 : s.size ≤ 8
    · have HE : Hid (kyB s = true) := by show _ = _; simp [kyB]; omega
      have d2 : decide ((s.size : Int) ≤ 8) = true := by simp; omega
      go_enter Try.func33, Try.ntmps33
      go_wp2
      go_ret
      exact ⟨by rw [HE.out]; rfl, rfl⟩
    · have HE : Hid (kyB s = false) := by show _ = _; simp [kyB]; omega
      have d2 : decide ((s.size : Int) ≤ 8) = false := by simp; omega
      go_enter Try.func33, Try.ntmps33
      go_wp2
      go_ret
      exact ⟨by rw [HE.out]; rfl, rfl⟩
  · have HE : Hid (kyB s = false) := by show _ = _; simp [kyB]; omega
    go_enter Try.func33, Try.ntmps33
    go_wp2
    go_ret
    exact ⟨by rw [HE.out]; rfl, rfl⟩
theorem all_step {zs : List (ByteArray × ByteArray × Int)} {j : Nat} (hj : j < zs.length) (h : (zs.take j).all (fun s => kyB s.1) = true) (hk : kyB (zs.getD j (ByteArray.empty, ByteArray.empty, 0)).1 = true) : (zs.take (j + 1)).all (fun s => kyB s.1) = true := by
  rw [List.take_succ_eq_append_getElem hj, List.all_append, h]
  simp [List.getD, hj] at hk
  simp [hk]
set_option maxHeartbeats 4000000 in
theorem ascend_any {base : Nat} (zs : List (ByteArray × ByteArray × Int)) (oa : Option Addr) (m oc : Nat) (w : World) (hown : w.ownsRow base 86 3 (.slice oa m oc) m (rowsOf slCells zs)) (hm : m ≤ 100000) (hlen : zs.length = m) : Calls Try.prog 68 #[.slice oa m oc] w fun e w' => SaysB (zs.all (fun s => kyB s.1) = true ∧ ascB (zs.map (fun s => s.1)) = true) w e w' := by
  have HL : Hid (zs.length = m) := hlen
  have HROW : Hid (∀ wr, Below w.heap.size w wr → ∀ j, j < m → ∃ g, oa = some ⟨g, 0, none⟩ ∧ g < wr.heap.size ∧ wr.cell? ⟨g, j * 3, none⟩ = some (.string (zs.getD j (ByteArray.empty, ByteArray.empty, 0)).1) ∧ wr.cell? ⟨g, j * 3 + 1, none⟩ = some (.string (zs.getD j (ByteArray.empty, ByteArray.empty, 0)).2.1) ∧ wr.cell? ⟨g, j * 3 + 2, none⟩ = some (.int .i64 (zs.getD j (ByteArray.empty, ByteArray.empty, 0)).2.2)) := fun wr hb j hj => by
    rcases hown.2 with ⟨e, e2⟩ | ⟨g, cap, cur, e, _⟩
    · omega
    · simp only [Value.slice.injEq] at e
      obtain ⟨rfl, _, rfl⟩ := e
      have hl := hown.lt g rfl
      have hc : ∀ r, r < 3 → wr.cell? ⟨g, j * 3 + r, none⟩ = (slCells (zs.getD j (ByteArray.empty, ByteArray.empty, 0)))[r]? := fun r hr => by
        rw [World.cell?_of_block (w := w) (a := ⟨g, j * 3 + r, none⟩) (hb.block g hl.2), hown.cellAt (j * 3 + r) (by omega)]
        exact rowsOf_get sl3 _ zs j r (by omega) hr
      exact ⟨g, rfl, Nat.lt_of_lt_of_le hl.2 hb.size, by simpa [slCells] using hc 0 (by omega), by simpa [slCells] using hc 1 (by omega), by simpa [slCells] using hc 2 (by omega)⟩
  clear hown hlen
  go_enter Try.func68, Try.ntmps68
  go_wp2_with fail
  go_loopw [7] (fun i wr => ∃ j : Nat, j ≤ m ∧ i = .int .i64 j ∧ Hid ((zs.take j).all (fun s => kyB s.1) = true ∧ ascTo (zs.map (fun s => s.1)) j) ∧ Below w.heap.size w wr) (fun i _ => m - (intOf i).toNat)
  case atStart => exact ⟨0, Nat.zero_le _, rfl, ⟨by simp, fun i hi => by omega⟩, Below.refl _ _⟩
  case round =>
    obtain ⟨j, hj, rfl, HG, hbel⟩ := hrel
    by_cases hlt : j < m
    · obtain ⟨gp, rfl, hgl, ck, cv, co⟩ := HROW.out wr hbel j hlt
      obtain ⟨SB, hSB⟩ : ∃ SB, wr.heap.size = SB := ⟨_, rfl⟩
      have HKS : Hid (∀ b, kyB (zs.getD j (ByteArray.empty, ByteArray.empty, 0)).1 = b → (b = true → (zs.take (j + 1)).all (fun s => kyB s.1) = true) ∧ (b = false → ¬ zs.all (fun s => kyB s.1) = true)) := fun b hb => by
        refine ⟨fun h => all_step (by have := HL.out; omega) HG.out.1 (by rw [hb, h]), fun h hall => ?_⟩
        have := List.all_eq_true.1 hall (zs.getD j (ByteArray.empty, ByteArray.empty, 0)) (by have := HL.out; simp [List.getD, show j < zs.length by omega])
        rw [hb, h] at this
        cases this
      have HMAP : Hid (∀ i, i < m → (zs.map (fun s => s.1)).getD i ByteArray.empty = (zs.getD i (ByteArray.empty, ByteArray.empty, 0)).1) := fun i hi => by
        have := HL.out
        simp [List.getD, show i < zs.length by omega]
      obtain ⟨sk, hsk⟩ : ∃ sk, (zs.getD j (ByteArray.empty, ByteArray.empty, 0)).1 = sk := ⟨_, rfl⟩
      have HSK : Hid ((zs.getD j (ByteArray.empty, ByteArray.empty, 0)).1 = sk) := hsk
      rw [hsk] at ck HKS
      generalize (zs.getD j (ByteArray.empty, ByteArray.empty, 0)).2.1 = sv at cv
      generalize (zs.getD j (ByteArray.empty, ByteArray.empty, 0)).2.2 = so at co
      clear hsk
      have ab := (Below.refl wr.heap.size wr).alloc (Nat.le_refl _) (.cells #[.string sk, .string sv, .int .i64 so] 86)
      have hsb := heap_alloc_new wr (.cells #[.string sk, .string sv, .int .i64 so] 86)
      rw [hSB] at hsb
      have hbw := hbel.trans (ab.mono hbel.size)
      go_upto_region 4 with fail
      try rw [hSB]
      generalize wr.alloc (.cells #[.string sk, .string sv, .int .i64 so] 86) = V at ab hsb hbw ⊢
      have hSl := (Array.getElem?_eq_some_iff.1 hsb).1
      clear ck cv co ab hbel hSB
      obtain ⟨ky, hky⟩ : ∃ ky, kyB sk = ky := ⟨_, rfl⟩
      obtain ⟨hk1, hk2⟩ := HKS.out ky hky
      have HKY : Hid (kyB sk = ky) := hky
      clear hky HKS
      cases ky
      · have HNO : Hid (¬ (zs.all (fun s => kyB s.1) = true ∧ ascB (zs.map (fun s => s.1)) = true)) := fun h => hk2 rfl h.1
        clear hk1 hk2
        refine wp_region_noPanic ?_
        refine wp_region_held_drew (S := (fun w' : World => w'.heap[SB]? = some (.cells #[.string sk, .string sv, .int .i64 so] 86))) (by kernel_rfl) (hsb) (fun hHeld => ?_)
        refine wpAnyH_take (i := 0) (oi := { dst := some 12, op := Op.fieldAddr 86 (Operand.tmp 4) 0, type := 0, pos := "l3_tree.go:215", after := #[], guard := none }) (v := .pointer (some ⟨SB, 0, none⟩)) rfl (by kernel_rfl) (by kernel_rfl) (by kernel_rfl) (fun _ _ _ h => h) (Or.inl ⟨by rfl, ?_⟩) (by assumption) ?_
        · intro wq hSw; (try dsimp only at hSw); go_simp
        try simp only [Act.put, List.setIfInBounds_toArray, List.set_cons_zero, List.set_cons_succ]
        refine wpAnyH_take (i := 1) (oi := { dst := some 13, op := Op.load 9 (Operand.tmp 12), type := 9, pos := "l3_tree.go:215", after := #[{ on := 0, ground := Ground.data }], guard := none }) (v := .string sk) rfl (by kernel_rfl) (by kernel_rfl) (by kernel_rfl) (fun _ _ _ h => h) (Or.inl ⟨by rfl, ?_⟩) (by assumption) ?_
        · intro wq hSw; (try dsimp only at hSw); obtain ⟨q0, q1, q2⟩ := box3w' hSw; go_simp
        try simp only [Act.put, List.setIfInBounds_toArray, List.set_cons_zero, List.set_cons_succ]
        refine wpAnyH_ready (rs := [2]) (by kernel_rfl) (by simp) ?_
        refine AllReadyH.cons (o := { dst := some 14, op := Op.call { callee := Callee.value (Operand.func 33), args := #[Operand.tmp 13], argTypes := #[9] }, type := 4, pos := "l3_tree.go:215", after := #[{ on := 1, ground := Ground.data }], guard := none }) rfl (fun K hK => ?_) AllReadyH.nil
        go_simp
        refine (isKeyT_any sk V.drew).mono ?_
        rintro e w9 ⟨rfl, rfl⟩
        go_wp2_with fail
        rw [HKY.out]
        refine hK.out _ _ (hsb) (fun hHeld => ?_)
        clear hK K
        try simp only [Act.put, List.setIfInBounds_toArray, List.set_cons_zero, List.set_cons_succ]
        refine wpAnyH_take (i := 3) (oi := { dst := some 15, op := Op.unOp UnOp.not 4 (Operand.tmp 14), type := 4, pos := "l3_tree.go:215", after := #[{ on := 2, ground := Ground.data }], guard := none }) (v := .bool true) rfl (by kernel_rfl) (by kernel_rfl) (by kernel_rfl) (fun _ _ _ h => h) (Or.inl ⟨by rfl, ?_⟩) (by assumption) ?_
        · intro wq hSw; (try dsimp only at hSw); go_simp
        try simp only [Act.put, List.setIfInBounds_toArray, List.set_cons_zero, List.set_cons_succ]
        refine wpAnyH_take (i := 4) (oi := { dst := some 16, op := Op.move (Operand.tmp 15), type := 4, pos := "l3_tree.go:215", after := #[{ on := 3, ground := Ground.data }, { on := 2, ground := Ground.chain }], guard := none }) (v := .bool true) rfl (by kernel_rfl) (by kernel_rfl) (by kernel_rfl) (fun _ _ _ h => h) (Or.inl ⟨by rfl, ?_⟩) (by assumption) ?_
        · intro wq hSw; (try dsimp only at hSw); go_simp
        try simp only [Act.put, List.setIfInBounds_toArray, List.set_cons_zero, List.set_cons_succ]
        refine wpAnyH_take (i := 5) (oi := { dst := some 17, op := Op.move (Operand.tmp 3), type := 3, pos := "l3_tree.go:215", after := #[{ on := 4, ground := Ground.guard }], guard := some (4, false) }) (v := undef) rfl (by kernel_rfl) (by kernel_rfl) (by kernel_rfl) (fun _ _ _ h => h) (Or.inr ⟨by rfl, rfl⟩) (by assumption) ?_
        try simp only [Act.put, List.setIfInBounds_toArray, List.set_cons_zero, List.set_cons_succ]
        refine wpAnyH_take (i := 6) (oi := { dst := some 18, op := Op.binOp BinOp.gtr 3 (Operand.tmp 17) (Operand.const (Value.int IntKind.i64 0)) 3, type := 4, pos := "l3_tree.go:215", after := #[{ on := 5, ground := Ground.data }, { on := 4, ground := Ground.guard }], guard := some (4, false) }) (v := undef) rfl (by kernel_rfl) (by kernel_rfl) (by kernel_rfl) (fun _ _ _ h => h) (Or.inr ⟨by rfl, rfl⟩) (by assumption) ?_
        try simp only [Act.put, List.setIfInBounds_toArray, List.set_cons_zero, List.set_cons_succ]
        refine wpAnyH_take (i := 7) (oi := { dst := some 19, op := Op.move (Operand.tmp 18), type := 4, pos := "l3_tree.go:215", after := #[{ on := 6, ground := Ground.data }, { on := 4, ground := Ground.chain }, { on := 4, ground := Ground.guard }], guard := some (4, false) }) (v := undef) rfl (by kernel_rfl) (by kernel_rfl) (by kernel_rfl) (fun _ _ _ h => h) (Or.inr ⟨by rfl, rfl⟩) (by assumption) ?_
        try simp only [Act.put, List.setIfInBounds_toArray, List.set_cons_zero, List.set_cons_succ]
        refine wpAnyH_take (i := 8) (oi := { dst := some 20, op := Op.move (Operand.tmp 0), type := 89, pos := "l3_tree.go:215", after := #[{ on := 7, ground := Ground.guard }], guard := some (7, true) }) (v := undef) rfl (by kernel_rfl) (by kernel_rfl) (by kernel_rfl) (fun _ _ _ h => h) (Or.inr ⟨by rfl, rfl⟩) (by assumption) ?_
        try simp only [Act.put, List.setIfInBounds_toArray, List.set_cons_zero, List.set_cons_succ]
        refine wpAnyH_take (i := 9) (oi := { dst := some 21, op := Op.move (Operand.tmp 3), type := 3, pos := "l3_tree.go:215", after := #[{ on := 7, ground := Ground.guard }], guard := some (7, true) }) (v := undef) rfl (by kernel_rfl) (by kernel_rfl) (by kernel_rfl) (fun _ _ _ h => h) (Or.inr ⟨by rfl, rfl⟩) (by assumption) ?_
        try simp only [Act.put, List.setIfInBounds_toArray, List.set_cons_zero, List.set_cons_succ]
        refine wpAnyH_take (i := 10) (oi := { dst := some 22, op := Op.binOp BinOp.sub 3 (Operand.tmp 21) (Operand.const (Value.int IntKind.i64 1)) 3, type := 3, pos := "l3_tree.go:215", after := #[{ on := 9, ground := Ground.data }, { on := 7, ground := Ground.guard }], guard := some (7, true) }) (v := undef) rfl (by kernel_rfl) (by kernel_rfl) (by kernel_rfl) (fun _ _ _ h => h) (Or.inr ⟨by rfl, rfl⟩) (by assumption) ?_
        try simp only [Act.put, List.setIfInBounds_toArray, List.set_cons_zero, List.set_cons_succ]
        refine wpAnyH_take (i := 11) (oi := { dst := some 23, op := Op.indexAddr 89 (Operand.tmp 20) (Operand.tmp 22), type := 0, pos := "l3_tree.go:215", after := #[{ on := 8, ground := Ground.data }, { on := 10, ground := Ground.data }, { on := 7, ground := Ground.guard }], guard := some (7, true) }) (v := undef) rfl (by kernel_rfl) (by kernel_rfl) (by kernel_rfl) (fun _ _ _ h => h) (Or.inr ⟨by rfl, rfl⟩) (by assumption) ?_
        try simp only [Act.put, List.setIfInBounds_toArray, List.set_cons_zero, List.set_cons_succ]
        refine wpAnyH_take (i := 12) (oi := { dst := some 24, op := Op.fieldAddr 86 (Operand.tmp 23) 0, type := 0, pos := "l3_tree.go:215", after := #[{ on := 11, ground := Ground.data }, { on := 7, ground := Ground.guard }], guard := some (7, true) }) (v := undef) rfl (by kernel_rfl) (by kernel_rfl) (by kernel_rfl) (fun _ _ _ h => h) (Or.inr ⟨by rfl, rfl⟩) (by assumption) ?_
        try simp only [Act.put, List.setIfInBounds_toArray, List.set_cons_zero, List.set_cons_succ]
        refine wpAnyH_take (i := 13) (oi := { dst := some 25, op := Op.load 9 (Operand.tmp 24), type := 9, pos := "l3_tree.go:215", after := #[{ on := 12, ground := Ground.data }, { on := 7, ground := Ground.guard }], guard := some (7, true) }) (v := undef) rfl (by kernel_rfl) (by kernel_rfl) (by kernel_rfl) (fun _ _ _ h => h) (Or.inr ⟨by rfl, rfl⟩) (by assumption) ?_
        try simp only [Act.put, List.setIfInBounds_toArray, List.set_cons_zero, List.set_cons_succ]
        refine wpAnyH_take (i := 14) (oi := { dst := some 26, op := Op.fieldAddr 86 (Operand.tmp 4) 0, type := 0, pos := "l3_tree.go:215", after := #[{ on := 7, ground := Ground.guard }], guard := some (7, true) }) (v := undef) rfl (by kernel_rfl) (by kernel_rfl) (by kernel_rfl) (fun _ _ _ h => h) (Or.inr ⟨by rfl, rfl⟩) (by assumption) ?_
        try simp only [Act.put, List.setIfInBounds_toArray, List.set_cons_zero, List.set_cons_succ]
        refine wpAnyH_take (i := 15) (oi := { dst := some 27, op := Op.load 9 (Operand.tmp 26), type := 9, pos := "l3_tree.go:215", after := #[{ on := 14, ground := Ground.data }, { on := 7, ground := Ground.guard }], guard := some (7, true) }) (v := undef) rfl (by kernel_rfl) (by kernel_rfl) (by kernel_rfl) (fun _ _ _ h => h) (Or.inr ⟨by rfl, rfl⟩) (by assumption) ?_
        try simp only [Act.put, List.setIfInBounds_toArray, List.set_cons_zero, List.set_cons_succ]
        refine wpAnyH_take (i := 16) (oi := { dst := some 28, op := Op.binOp BinOp.geq 9 (Operand.tmp 25) (Operand.tmp 27) 9, type := 4, pos := "l3_tree.go:215", after := #[{ on := 13, ground := Ground.data }, { on := 15, ground := Ground.data }, { on := 7, ground := Ground.guard }], guard := some (7, true) }) (v := undef) rfl (by kernel_rfl) (by kernel_rfl) (by kernel_rfl) (fun _ _ _ h => h) (Or.inr ⟨by rfl, rfl⟩) (by assumption) ?_
        try simp only [Act.put, List.setIfInBounds_toArray, List.set_cons_zero, List.set_cons_succ]
        refine wpAnyH_take (i := 17) (oi := { dst := some 29, op := Op.pick (Operand.tmp 19) (Operand.tmp 28) (Operand.const (Value.bool false)), type := 4, pos := "l3_tree.go:215", after := #[{ on := 7, ground := Ground.data }, { on := 16, ground := Ground.data }, { on := 4, ground := Ground.guard }], guard := some (4, false) }) (v := undef) rfl (by kernel_rfl) (by kernel_rfl) (by kernel_rfl) (fun _ _ _ h => h) (Or.inr ⟨by rfl, rfl⟩) (by assumption) ?_
        try simp only [Act.put, List.setIfInBounds_toArray, List.set_cons_zero, List.set_cons_succ]
        refine wpAnyH_take (i := 18) (oi := { dst := some 30, op := Op.pick (Operand.tmp 16) (Operand.const (Value.bool true)) (Operand.tmp 29), type := 4, pos := "l3_tree.go:215", after := #[{ on := 4, ground := Ground.data }, { on := 17, ground := Ground.data }], guard := none }) (v := .bool true) rfl (by kernel_rfl) (by kernel_rfl) (by kernel_rfl) (fun _ _ _ h => h) (Or.inl ⟨by rfl, ?_⟩) (by assumption) ?_
        · intro wq hSw; (try dsimp only at hSw); go_simp
        try simp only [Act.put, List.setIfInBounds_toArray, List.set_cons_zero, List.set_cons_succ]
        refine wpAnyH_done (by kernel_rfl) ?_ _
        refine NoPanic.normal ?_
        go_wp2_with fail
        go_ret
        exact SaysB.no HNO.out hbw.drew
      · have hall := hk1 rfl
        clear hk1 hk2
        by_cases tj : j = 0
        · subst tj
          have HG2 : Hid ((zs.take (0 + 1)).all (fun s => kyB s.1) = true ∧ ascTo (zs.map (fun s => s.1)) (0 + 1)) := ⟨hall, fun i hi => by omega⟩
          clear HG hall
          refine wp_region_noPanic ?_
          refine wp_region_held_drew (S := (fun w' : World => w'.heap[SB]? = some (.cells #[.string sk, .string sv, .int .i64 so] 86))) (by kernel_rfl) (hsb) (fun hHeld => ?_)
          refine wpAnyH_take (i := 0) (oi := { dst := some 12, op := Op.fieldAddr 86 (Operand.tmp 4) 0, type := 0, pos := "l3_tree.go:215", after := #[], guard := none }) (v := .pointer (some ⟨SB, 0, none⟩)) rfl (by kernel_rfl) (by kernel_rfl) (by kernel_rfl) (fun _ _ _ h => h) (Or.inl ⟨by rfl, ?_⟩) (by assumption) ?_
          · intro wq hSw; (try dsimp only at hSw); go_simp
          try simp only [Act.put, List.setIfInBounds_toArray, List.set_cons_zero, List.set_cons_succ]
          refine wpAnyH_take (i := 1) (oi := { dst := some 13, op := Op.load 9 (Operand.tmp 12), type := 9, pos := "l3_tree.go:215", after := #[{ on := 0, ground := Ground.data }], guard := none }) (v := .string sk) rfl (by kernel_rfl) (by kernel_rfl) (by kernel_rfl) (fun _ _ _ h => h) (Or.inl ⟨by rfl, ?_⟩) (by assumption) ?_
          · intro wq hSw; (try dsimp only at hSw); obtain ⟨q0, q1, q2⟩ := box3w' hSw; go_simp
          try simp only [Act.put, List.setIfInBounds_toArray, List.set_cons_zero, List.set_cons_succ]
          refine wpAnyH_ready (rs := [2]) (by kernel_rfl) (by simp) ?_
          refine AllReadyH.cons (o := { dst := some 14, op := Op.call { callee := Callee.value (Operand.func 33), args := #[Operand.tmp 13], argTypes := #[9] }, type := 4, pos := "l3_tree.go:215", after := #[{ on := 1, ground := Ground.data }], guard := none }) rfl (fun K hK => ?_) AllReadyH.nil
          go_simp
          refine (isKeyT_any sk V.drew).mono ?_
          rintro e w9 ⟨rfl, rfl⟩
          go_wp2_with fail
          rw [HKY.out]
          refine hK.out _ _ (hsb) (fun hHeld => ?_)
          clear hK K
          try simp only [Act.put, List.setIfInBounds_toArray, List.set_cons_zero, List.set_cons_succ]
          refine wpAnyH_take (i := 3) (oi := { dst := some 15, op := Op.unOp UnOp.not 4 (Operand.tmp 14), type := 4, pos := "l3_tree.go:215", after := #[{ on := 2, ground := Ground.data }], guard := none }) (v := .bool false) rfl (by kernel_rfl) (by kernel_rfl) (by kernel_rfl) (fun _ _ _ h => h) (Or.inl ⟨by rfl, ?_⟩) (by assumption) ?_
          · intro wq hSw; (try dsimp only at hSw); go_simp
          try simp only [Act.put, List.setIfInBounds_toArray, List.set_cons_zero, List.set_cons_succ]
          refine wpAnyH_take (i := 4) (oi := { dst := some 16, op := Op.move (Operand.tmp 15), type := 4, pos := "l3_tree.go:215", after := #[{ on := 3, ground := Ground.data }, { on := 2, ground := Ground.chain }], guard := none }) (v := .bool false) rfl (by kernel_rfl) (by kernel_rfl) (by kernel_rfl) (fun _ _ _ h => h) (Or.inl ⟨by rfl, ?_⟩) (by assumption) ?_
          · intro wq hSw; (try dsimp only at hSw); go_simp
          try simp only [Act.put, List.setIfInBounds_toArray, List.set_cons_zero, List.set_cons_succ]
          refine wpAnyH_take (i := 5) (oi := { dst := some 17, op := Op.move (Operand.tmp 3), type := 3, pos := "l3_tree.go:215", after := #[{ on := 4, ground := Ground.guard }], guard := some (4, false) }) (v := .int .i64 0) rfl (by kernel_rfl) (by kernel_rfl) (by kernel_rfl) (fun _ _ _ h => h) (Or.inl ⟨by rfl, ?_⟩) (by assumption) ?_
          · intro wq hSw; (try dsimp only at hSw); go_simp
          try simp only [Act.put, List.setIfInBounds_toArray, List.set_cons_zero, List.set_cons_succ]
          refine wpAnyH_take (i := 6) (oi := { dst := some 18, op := Op.binOp BinOp.gtr 3 (Operand.tmp 17) (Operand.const (Value.int IntKind.i64 0)) 3, type := 4, pos := "l3_tree.go:215", after := #[{ on := 5, ground := Ground.data }, { on := 4, ground := Ground.guard }], guard := some (4, false) }) (v := .bool false) rfl (by kernel_rfl) (by kernel_rfl) (by kernel_rfl) (fun _ _ _ h => h) (Or.inl ⟨by rfl, ?_⟩) (by assumption) ?_
          · intro wq hSw; (try dsimp only at hSw); go_simp
          try simp only [Act.put, List.setIfInBounds_toArray, List.set_cons_zero, List.set_cons_succ]
          refine wpAnyH_take (i := 7) (oi := { dst := some 19, op := Op.move (Operand.tmp 18), type := 4, pos := "l3_tree.go:215", after := #[{ on := 6, ground := Ground.data }, { on := 4, ground := Ground.chain }, { on := 4, ground := Ground.guard }], guard := some (4, false) }) (v := .bool false) rfl (by kernel_rfl) (by kernel_rfl) (by kernel_rfl) (fun _ _ _ h => h) (Or.inl ⟨by rfl, ?_⟩) (by assumption) ?_
          · intro wq hSw; (try dsimp only at hSw); go_simp
          try simp only [Act.put, List.setIfInBounds_toArray, List.set_cons_zero, List.set_cons_succ]
          refine wpAnyH_take (i := 8) (oi := { dst := some 20, op := Op.move (Operand.tmp 0), type := 89, pos := "l3_tree.go:215", after := #[{ on := 7, ground := Ground.guard }], guard := some (7, true) }) (v := undef) rfl (by kernel_rfl) (by kernel_rfl) (by kernel_rfl) (fun _ _ _ h => h) (Or.inr ⟨by rfl, rfl⟩) (by assumption) ?_
          try simp only [Act.put, List.setIfInBounds_toArray, List.set_cons_zero, List.set_cons_succ]
          refine wpAnyH_take (i := 9) (oi := { dst := some 21, op := Op.move (Operand.tmp 3), type := 3, pos := "l3_tree.go:215", after := #[{ on := 7, ground := Ground.guard }], guard := some (7, true) }) (v := undef) rfl (by kernel_rfl) (by kernel_rfl) (by kernel_rfl) (fun _ _ _ h => h) (Or.inr ⟨by rfl, rfl⟩) (by assumption) ?_
          try simp only [Act.put, List.setIfInBounds_toArray, List.set_cons_zero, List.set_cons_succ]
          refine wpAnyH_take (i := 10) (oi := { dst := some 22, op := Op.binOp BinOp.sub 3 (Operand.tmp 21) (Operand.const (Value.int IntKind.i64 1)) 3, type := 3, pos := "l3_tree.go:215", after := #[{ on := 9, ground := Ground.data }, { on := 7, ground := Ground.guard }], guard := some (7, true) }) (v := undef) rfl (by kernel_rfl) (by kernel_rfl) (by kernel_rfl) (fun _ _ _ h => h) (Or.inr ⟨by rfl, rfl⟩) (by assumption) ?_
          try simp only [Act.put, List.setIfInBounds_toArray, List.set_cons_zero, List.set_cons_succ]
          refine wpAnyH_take (i := 11) (oi := { dst := some 23, op := Op.indexAddr 89 (Operand.tmp 20) (Operand.tmp 22), type := 0, pos := "l3_tree.go:215", after := #[{ on := 8, ground := Ground.data }, { on := 10, ground := Ground.data }, { on := 7, ground := Ground.guard }], guard := some (7, true) }) (v := undef) rfl (by kernel_rfl) (by kernel_rfl) (by kernel_rfl) (fun _ _ _ h => h) (Or.inr ⟨by rfl, rfl⟩) (by assumption) ?_
          try simp only [Act.put, List.setIfInBounds_toArray, List.set_cons_zero, List.set_cons_succ]
          refine wpAnyH_take (i := 12) (oi := { dst := some 24, op := Op.fieldAddr 86 (Operand.tmp 23) 0, type := 0, pos := "l3_tree.go:215", after := #[{ on := 11, ground := Ground.data }, { on := 7, ground := Ground.guard }], guard := some (7, true) }) (v := undef) rfl (by kernel_rfl) (by kernel_rfl) (by kernel_rfl) (fun _ _ _ h => h) (Or.inr ⟨by rfl, rfl⟩) (by assumption) ?_
          try simp only [Act.put, List.setIfInBounds_toArray, List.set_cons_zero, List.set_cons_succ]
          refine wpAnyH_take (i := 13) (oi := { dst := some 25, op := Op.load 9 (Operand.tmp 24), type := 9, pos := "l3_tree.go:215", after := #[{ on := 12, ground := Ground.data }, { on := 7, ground := Ground.guard }], guard := some (7, true) }) (v := undef) rfl (by kernel_rfl) (by kernel_rfl) (by kernel_rfl) (fun _ _ _ h => h) (Or.inr ⟨by rfl, rfl⟩) (by assumption) ?_
          try simp only [Act.put, List.setIfInBounds_toArray, List.set_cons_zero, List.set_cons_succ]
          refine wpAnyH_take (i := 14) (oi := { dst := some 26, op := Op.fieldAddr 86 (Operand.tmp 4) 0, type := 0, pos := "l3_tree.go:215", after := #[{ on := 7, ground := Ground.guard }], guard := some (7, true) }) (v := undef) rfl (by kernel_rfl) (by kernel_rfl) (by kernel_rfl) (fun _ _ _ h => h) (Or.inr ⟨by rfl, rfl⟩) (by assumption) ?_
          try simp only [Act.put, List.setIfInBounds_toArray, List.set_cons_zero, List.set_cons_succ]
          refine wpAnyH_take (i := 15) (oi := { dst := some 27, op := Op.load 9 (Operand.tmp 26), type := 9, pos := "l3_tree.go:215", after := #[{ on := 14, ground := Ground.data }, { on := 7, ground := Ground.guard }], guard := some (7, true) }) (v := undef) rfl (by kernel_rfl) (by kernel_rfl) (by kernel_rfl) (fun _ _ _ h => h) (Or.inr ⟨by rfl, rfl⟩) (by assumption) ?_
          try simp only [Act.put, List.setIfInBounds_toArray, List.set_cons_zero, List.set_cons_succ]
          refine wpAnyH_take (i := 16) (oi := { dst := some 28, op := Op.binOp BinOp.geq 9 (Operand.tmp 25) (Operand.tmp 27) 9, type := 4, pos := "l3_tree.go:215", after := #[{ on := 13, ground := Ground.data }, { on := 15, ground := Ground.data }, { on := 7, ground := Ground.guard }], guard := some (7, true) }) (v := undef) rfl (by kernel_rfl) (by kernel_rfl) (by kernel_rfl) (fun _ _ _ h => h) (Or.inr ⟨by rfl, rfl⟩) (by assumption) ?_
          try simp only [Act.put, List.setIfInBounds_toArray, List.set_cons_zero, List.set_cons_succ]
          refine wpAnyH_take (i := 17) (oi := { dst := some 29, op := Op.pick (Operand.tmp 19) (Operand.tmp 28) (Operand.const (Value.bool false)), type := 4, pos := "l3_tree.go:215", after := #[{ on := 7, ground := Ground.data }, { on := 16, ground := Ground.data }, { on := 4, ground := Ground.guard }], guard := some (4, false) }) (v := .bool false) rfl (by kernel_rfl) (by kernel_rfl) (by kernel_rfl) (fun _ _ _ h => h) (Or.inl ⟨by rfl, ?_⟩) (by assumption) ?_
          · intro wq hSw; (try dsimp only at hSw); go_simp
          try simp only [Act.put, List.setIfInBounds_toArray, List.set_cons_zero, List.set_cons_succ]
          refine wpAnyH_take (i := 18) (oi := { dst := some 30, op := Op.pick (Operand.tmp 16) (Operand.const (Value.bool true)) (Operand.tmp 29), type := 4, pos := "l3_tree.go:215", after := #[{ on := 4, ground := Ground.data }, { on := 17, ground := Ground.data }], guard := none }) (v := .bool false) rfl (by kernel_rfl) (by kernel_rfl) (by kernel_rfl) (fun _ _ _ h => h) (Or.inl ⟨by rfl, ?_⟩) (by assumption) ?_
          · intro wq hSw; (try dsimp only at hSw); go_simp
          try simp only [Act.put, List.setIfInBounds_toArray, List.set_cons_zero, List.set_cons_succ]
          refine wpAnyH_done (by kernel_rfl) ?_ _
          refine NoPanic.normal ?_
          have hb2 := hbw.drew
          go_wp2_with fail
          go_roundw
          case rel => exact ⟨0 + 1, by omega, by go_num, HG2, hb2⟩
          case measure => simp [intOf]; omega
        · obtain ⟨q, rfl⟩ : ∃ q, j = q + 1 := ⟨j - 1, by omega⟩
          obtain ⟨g', e', hgl', hpk, _, _⟩ := HROW.out V hbw q (by omega)
          cases e'
          have HST : Hid (∀ r, lessB (zs.getD q (ByteArray.empty, ByteArray.empty, 0)).1 sk = r → (r = true → (zs.take (q + 1 + 1)).all (fun s => kyB s.1) = true ∧ ascTo (zs.map (fun s => s.1)) (q + 1 + 1)) ∧ (r = false → ¬ (zs.all (fun s => kyB s.1) = true ∧ ascB (zs.map (fun s => s.1)) = true))) := by
            intro r hr
            constructor
            · rintro rfl
              refine ⟨hall, fun i hi => ?_⟩
              by_cases hi2 : i = q
              · subst hi2
                rw [HMAP.out i (by omega), HMAP.out (i + 1) (by omega), HSK.out]
                exact hr
              · exact HG.out.2 i (by omega)
            · rintro rfl ⟨_, h2⟩
              have := asc_to _ h2 q (by have := HL.out; simp; omega)
              rw [HMAP.out q (by omega), HMAP.out (q + 1) (by omega), HSK.out, hr] at this
              cases this
          obtain ⟨s0, hs0⟩ : ∃ s0, (zs.getD q (ByteArray.empty, ByteArray.empty, 0)).1 = s0 := ⟨_, rfl⟩
          rw [hs0] at hpk HST
          unfold lessB at HST
          obtain ⟨r1, hr1⟩ : ∃ r1, Op.bytesLess s0.toList sk.toList = r1 := ⟨_, rfl⟩
          have HST1 := HST.out r1 hr1
          have HR1 : Hid (Op.bytesLess s0.toList sk.toList = r1) := hr1
          have hwq : IntKind.i64.wrap (q : Int) = q := by rw [IntKind.wrap_i64]; omega
          clear hr1 HST hs0 HG hall HMAP HSK
          refine wp_region_noPanic ?_
          refine wp_region_held_drew (S := (fun w' : World => w'.heap[SB]? = some (.cells #[.string sk, .string sv, .int .i64 so] 86) ∧ w'.cell? ⟨gp, q * 3, none⟩ = some (.string s0))) (by kernel_rfl) (⟨hsb, hpk⟩) (fun hHeld => ?_)
          refine wpAnyH_take (i := 0) (oi := { dst := some 12, op := Op.fieldAddr 86 (Operand.tmp 4) 0, type := 0, pos := "l3_tree.go:215", after := #[], guard := none }) (v := .pointer (some ⟨SB, 0, none⟩)) rfl (by kernel_rfl) (by kernel_rfl) (by kernel_rfl) (fun _ _ _ h => h) (Or.inl ⟨by rfl, ?_⟩) (by assumption) ?_
          · intro wq hSw; (try dsimp only at hSw); go_simp
          try simp only [Act.put, List.setIfInBounds_toArray, List.set_cons_zero, List.set_cons_succ]
          refine wpAnyH_take (i := 1) (oi := { dst := some 13, op := Op.load 9 (Operand.tmp 12), type := 9, pos := "l3_tree.go:215", after := #[{ on := 0, ground := Ground.data }], guard := none }) (v := .string sk) rfl (by kernel_rfl) (by kernel_rfl) (by kernel_rfl) (fun _ _ _ h => h) (Or.inl ⟨by rfl, ?_⟩) (by assumption) ?_
          · intro wq hSw; (try dsimp only at hSw); obtain ⟨q0, q1, q2⟩ := box3w' hSw.1; go_simp
          try simp only [Act.put, List.setIfInBounds_toArray, List.set_cons_zero, List.set_cons_succ]
          refine wpAnyH_ready (rs := [2]) (by kernel_rfl) (by simp) ?_
          refine AllReadyH.cons (o := { dst := some 14, op := Op.call { callee := Callee.value (Operand.func 33), args := #[Operand.tmp 13], argTypes := #[9] }, type := 4, pos := "l3_tree.go:215", after := #[{ on := 1, ground := Ground.data }], guard := none }) rfl (fun K hK => ?_) AllReadyH.nil
          go_simp
          refine (isKeyT_any sk V.drew).mono ?_
          rintro e w9 ⟨rfl, rfl⟩
          go_wp2_with fail
          rw [HKY.out]
          refine hK.out _ _ (⟨hsb, hpk⟩) (fun hHeld => ?_)
          clear hK K
          try simp only [Act.put, List.setIfInBounds_toArray, List.set_cons_zero, List.set_cons_succ]
          refine wpAnyH_take (i := 3) (oi := { dst := some 15, op := Op.unOp UnOp.not 4 (Operand.tmp 14), type := 4, pos := "l3_tree.go:215", after := #[{ on := 2, ground := Ground.data }], guard := none }) (v := .bool false) rfl (by kernel_rfl) (by kernel_rfl) (by kernel_rfl) (fun _ _ _ h => h) (Or.inl ⟨by rfl, ?_⟩) (by assumption) ?_
          · intro wq hSw; (try dsimp only at hSw); go_simp
          try simp only [Act.put, List.setIfInBounds_toArray, List.set_cons_zero, List.set_cons_succ]
          refine wpAnyH_take (i := 4) (oi := { dst := some 16, op := Op.move (Operand.tmp 15), type := 4, pos := "l3_tree.go:215", after := #[{ on := 3, ground := Ground.data }, { on := 2, ground := Ground.chain }], guard := none }) (v := .bool false) rfl (by kernel_rfl) (by kernel_rfl) (by kernel_rfl) (fun _ _ _ h => h) (Or.inl ⟨by rfl, ?_⟩) (by assumption) ?_
          · intro wq hSw; (try dsimp only at hSw); go_simp
          try simp only [Act.put, List.setIfInBounds_toArray, List.set_cons_zero, List.set_cons_succ]
          refine wpAnyH_take (i := 5) (oi := { dst := some 17, op := Op.move (Operand.tmp 3), type := 3, pos := "l3_tree.go:215", after := #[{ on := 4, ground := Ground.guard }], guard := some (4, false) }) (v := .int .i64 ((q : Int) + 1)) rfl (by kernel_rfl) (by kernel_rfl) (by kernel_rfl) (fun _ _ _ h => h) (Or.inl ⟨by rfl, ?_⟩) (by assumption) ?_
          · intro wq hSw; (try dsimp only at hSw); go_simp
          try simp only [Act.put, List.setIfInBounds_toArray, List.set_cons_zero, List.set_cons_succ]
          refine wpAnyH_take (i := 6) (oi := { dst := some 18, op := Op.binOp BinOp.gtr 3 (Operand.tmp 17) (Operand.const (Value.int IntKind.i64 0)) 3, type := 4, pos := "l3_tree.go:215", after := #[{ on := 5, ground := Ground.data }, { on := 4, ground := Ground.guard }], guard := some (4, false) }) (v := .bool true) rfl (by kernel_rfl) (by kernel_rfl) (by kernel_rfl) (fun _ _ _ h => h) (Or.inl ⟨by rfl, ?_⟩) (by assumption) ?_
          · intro wq hSw; (try dsimp only at hSw); go_simp; (try omega)
          try simp only [Act.put, List.setIfInBounds_toArray, List.set_cons_zero, List.set_cons_succ]
          refine wpAnyH_take (i := 7) (oi := { dst := some 19, op := Op.move (Operand.tmp 18), type := 4, pos := "l3_tree.go:215", after := #[{ on := 6, ground := Ground.data }, { on := 4, ground := Ground.chain }, { on := 4, ground := Ground.guard }], guard := some (4, false) }) (v := .bool true) rfl (by kernel_rfl) (by kernel_rfl) (by kernel_rfl) (fun _ _ _ h => h) (Or.inl ⟨by rfl, ?_⟩) (by assumption) ?_
          · intro wq hSw; (try dsimp only at hSw); go_simp
          try simp only [Act.put, List.setIfInBounds_toArray, List.set_cons_zero, List.set_cons_succ]
          refine wpAnyH_take (i := 8) (oi := { dst := some 20, op := Op.move (Operand.tmp 0), type := 89, pos := "l3_tree.go:215", after := #[{ on := 7, ground := Ground.guard }], guard := some (7, true) }) (v := .slice (some ⟨gp, 0, none⟩) m oc) rfl (by kernel_rfl) (by kernel_rfl) (by kernel_rfl) (fun _ _ _ h => h) (Or.inl ⟨by rfl, ?_⟩) (by assumption) ?_
          · intro wq hSw; (try dsimp only at hSw); go_simp
          try simp only [Act.put, List.setIfInBounds_toArray, List.set_cons_zero, List.set_cons_succ]
          refine wpAnyH_take (i := 9) (oi := { dst := some 21, op := Op.move (Operand.tmp 3), type := 3, pos := "l3_tree.go:215", after := #[{ on := 7, ground := Ground.guard }], guard := some (7, true) }) (v := .int .i64 ((q : Int) + 1)) rfl (by kernel_rfl) (by kernel_rfl) (by kernel_rfl) (fun _ _ _ h => h) (Or.inl ⟨by rfl, ?_⟩) (by assumption) ?_
          · intro wq hSw; (try dsimp only at hSw); go_simp
          try simp only [Act.put, List.setIfInBounds_toArray, List.set_cons_zero, List.set_cons_succ]
          refine wpAnyH_take (i := 10) (oi := { dst := some 22, op := Op.binOp BinOp.sub 3 (Operand.tmp 21) (Operand.const (Value.int IntKind.i64 1)) 3, type := 3, pos := "l3_tree.go:215", after := #[{ on := 9, ground := Ground.data }, { on := 7, ground := Ground.guard }], guard := some (7, true) }) (v := .int .i64 (q : Int)) rfl (by kernel_rfl) (by kernel_rfl) (by kernel_rfl) (fun _ _ _ h => h) (Or.inl ⟨by rfl, ?_⟩) (by assumption) ?_
          · intro wq hSw; (try dsimp only at hSw); go_simp
          try simp only [Act.put, List.setIfInBounds_toArray, List.set_cons_zero, List.set_cons_succ]
          refine wpAnyH_take (i := 11) (oi := { dst := some 23, op := Op.indexAddr 89 (Operand.tmp 20) (Operand.tmp 22), type := 0, pos := "l3_tree.go:215", after := #[{ on := 8, ground := Ground.data }, { on := 10, ground := Ground.data }, { on := 7, ground := Ground.guard }], guard := some (7, true) }) (v := .pointer (some ⟨gp, q * 3, none⟩)) rfl (by kernel_rfl) (by kernel_rfl) (by kernel_rfl) (fun _ _ _ h => h) (Or.inl ⟨by rfl, ?_⟩) (by assumption) ?_
          · intro wq hSw; (try dsimp only at hSw); go_simp; (try (intro hx; exfalso; omega))
          try simp only [Act.put, List.setIfInBounds_toArray, List.set_cons_zero, List.set_cons_succ]
          refine wpAnyH_take (i := 12) (oi := { dst := some 24, op := Op.fieldAddr 86 (Operand.tmp 23) 0, type := 0, pos := "l3_tree.go:215", after := #[{ on := 11, ground := Ground.data }, { on := 7, ground := Ground.guard }], guard := some (7, true) }) (v := .pointer (some ⟨gp, q * 3, none⟩)) rfl (by kernel_rfl) (by kernel_rfl) (by kernel_rfl) (fun _ _ _ h => h) (Or.inl ⟨by rfl, ?_⟩) (by assumption) ?_
          · intro wq hSw; (try dsimp only at hSw); go_simp
          try simp only [Act.put, List.setIfInBounds_toArray, List.set_cons_zero, List.set_cons_succ]
          refine wpAnyH_take (i := 13) (oi := { dst := some 25, op := Op.load 9 (Operand.tmp 24), type := 9, pos := "l3_tree.go:215", after := #[{ on := 12, ground := Ground.data }, { on := 7, ground := Ground.guard }], guard := some (7, true) }) (v := .string s0) rfl (by kernel_rfl) (by kernel_rfl) (by kernel_rfl) (fun _ _ _ h => h) (Or.inl ⟨by rfl, ?_⟩) (by assumption) ?_
          · intro wq hSw; (try dsimp only at hSw); obtain ⟨d0, d1⟩ := hSw; go_simp
          try simp only [Act.put, List.setIfInBounds_toArray, List.set_cons_zero, List.set_cons_succ]
          refine wpAnyH_take (i := 14) (oi := { dst := some 26, op := Op.fieldAddr 86 (Operand.tmp 4) 0, type := 0, pos := "l3_tree.go:215", after := #[{ on := 7, ground := Ground.guard }], guard := some (7, true) }) (v := .pointer (some ⟨SB, 0, none⟩)) rfl (by kernel_rfl) (by kernel_rfl) (by kernel_rfl) (fun _ _ _ h => h) (Or.inl ⟨by rfl, ?_⟩) (by assumption) ?_
          · intro wq hSw; (try dsimp only at hSw); go_simp
          try simp only [Act.put, List.setIfInBounds_toArray, List.set_cons_zero, List.set_cons_succ]
          refine wpAnyH_take (i := 15) (oi := { dst := some 27, op := Op.load 9 (Operand.tmp 26), type := 9, pos := "l3_tree.go:215", after := #[{ on := 14, ground := Ground.data }, { on := 7, ground := Ground.guard }], guard := some (7, true) }) (v := .string sk) rfl (by kernel_rfl) (by kernel_rfl) (by kernel_rfl) (fun _ _ _ h => h) (Or.inl ⟨by rfl, ?_⟩) (by assumption) ?_
          · intro wq hSw; (try dsimp only at hSw); obtain ⟨q0, q1, q2⟩ := box3w' hSw.1; go_simp
          try simp only [Act.put, List.setIfInBounds_toArray, List.set_cons_zero, List.set_cons_succ]
          refine wpAnyH_take (i := 16) (oi := { dst := some 28, op := Op.binOp BinOp.geq 9 (Operand.tmp 25) (Operand.tmp 27) 9, type := 4, pos := "l3_tree.go:215", after := #[{ on := 13, ground := Ground.data }, { on := 15, ground := Ground.data }, { on := 7, ground := Ground.guard }], guard := some (7, true) }) (v := .bool (!r1)) rfl (by kernel_rfl) (by kernel_rfl) (by kernel_rfl) (fun _ _ _ h => h) (Or.inl ⟨by rfl, ?_⟩) (by assumption) ?_
          · intro wq hSw; (try dsimp only at hSw); go_simp <;> first | (rw [binOp_geqT, HR1.out]; simp) | exact HR1.out | simp [HR1.out]
          try simp only [Act.put, List.setIfInBounds_toArray, List.set_cons_zero, List.set_cons_succ]
          cases r1
          · have HNO : Hid (¬ (zs.all (fun s => kyB s.1) = true ∧ ascB (zs.map (fun s => s.1)) = true)) := HST1.2 rfl
            clear HST1 HR1
            refine wpAnyH_take (i := 17) (oi := { dst := some 29, op := Op.pick (Operand.tmp 19) (Operand.tmp 28) (Operand.const (Value.bool false)), type := 4, pos := "l3_tree.go:215", after := #[{ on := 7, ground := Ground.data }, { on := 16, ground := Ground.data }, { on := 4, ground := Ground.guard }], guard := some (4, false) }) (v := .bool true) rfl (by kernel_rfl) (by kernel_rfl) (by kernel_rfl) (fun _ _ _ h => h) (Or.inl ⟨by rfl, ?_⟩) (by assumption) ?_
            · intro wq hSw; (try dsimp only at hSw); go_simp
            try simp only [Act.put, List.setIfInBounds_toArray, List.set_cons_zero, List.set_cons_succ]
            refine wpAnyH_take (i := 18) (oi := { dst := some 30, op := Op.pick (Operand.tmp 16) (Operand.const (Value.bool true)) (Operand.tmp 29), type := 4, pos := "l3_tree.go:215", after := #[{ on := 4, ground := Ground.data }, { on := 17, ground := Ground.data }], guard := none }) (v := .bool true) rfl (by kernel_rfl) (by kernel_rfl) (by kernel_rfl) (fun _ _ _ h => h) (Or.inl ⟨by rfl, ?_⟩) (by assumption) ?_
            · intro wq hSw; (try dsimp only at hSw); go_simp
            try simp only [Act.put, List.setIfInBounds_toArray, List.set_cons_zero, List.set_cons_succ]
            refine wpAnyH_done (by kernel_rfl) ?_ _
            refine NoPanic.normal ?_
            go_wp2_with fail
            go_ret
            exact SaysB.no HNO.out hbw.drew
          · have HG2 : Hid _ := HST1.1 rfl
            clear HST1 HR1
            refine wpAnyH_take (i := 17) (oi := { dst := some 29, op := Op.pick (Operand.tmp 19) (Operand.tmp 28) (Operand.const (Value.bool false)), type := 4, pos := "l3_tree.go:215", after := #[{ on := 7, ground := Ground.data }, { on := 16, ground := Ground.data }, { on := 4, ground := Ground.guard }], guard := some (4, false) }) (v := .bool false) rfl (by kernel_rfl) (by kernel_rfl) (by kernel_rfl) (fun _ _ _ h => h) (Or.inl ⟨by rfl, ?_⟩) (by assumption) ?_
            · intro wq hSw; (try dsimp only at hSw); go_simp
            try simp only [Act.put, List.setIfInBounds_toArray, List.set_cons_zero, List.set_cons_succ]
            refine wpAnyH_take (i := 18) (oi := { dst := some 30, op := Op.pick (Operand.tmp 16) (Operand.const (Value.bool true)) (Operand.tmp 29), type := 4, pos := "l3_tree.go:215", after := #[{ on := 4, ground := Ground.data }, { on := 17, ground := Ground.data }], guard := none }) (v := .bool false) rfl (by kernel_rfl) (by kernel_rfl) (by kernel_rfl) (fun _ _ _ h => h) (Or.inl ⟨by rfl, ?_⟩) (by assumption) ?_
            · intro wq hSw; (try dsimp only at hSw); go_simp
            try simp only [Act.put, List.setIfInBounds_toArray, List.set_cons_zero, List.set_cons_succ]
            refine wpAnyH_done (by kernel_rfl) ?_ _
            refine NoPanic.normal ?_
            have hb2 := hbw.drew
            go_wp2_with fail
            go_roundw
            case rel => exact ⟨q + 1 + 1, by omega, by go_num, HG2, hb2⟩
            case measure => simp [intOf]; omega
    · have HYES : Hid (zs.all (fun s => kyB s.1) = true ∧ ascB (zs.map (fun s => s.1)) = true) := by
        have hl := HL.out
        refine ⟨?_, asc_of _ (fun i hi => HG.out.2 i (by simp at hi; omega))⟩
        have := HG.out.1
        rwa [List.take_of_length_le (by omega)] at this
      clear HG
      go_wp2_with fail
      go_ret
      exact SaysB.yes HYES.out hbel
/-- What grow answers. -/
def GrowTop (ts : List TN) (w : World) (e : Ending) (w' : World) : Prop :=
  (¬ ImplOk ts → e = .returned (.tuple #[.nilIface, .bool false])) ∧ (ImplOk ts → ∃ t met u, gr ts (ts.length + 1) 0 (fun _ => false) = some (t, ts.length, met) ∧ t.slots.all (fun s => kyB s.1) = true ∧ ascB (t.slots.map (fun s => s.1)) = true ∧ e = .returned (.tuple #[u, .bool true]) ∧ GM w' (fun b => w.heap.size ≤ b ∧ b < w'.heap.size) t u) ∧ Below w.heap.size w w'
theorem GrowTop.no {ts : List TN} {w w' : World} (h : ¬ ImplOk ts) (hb : Below w.heap.size w w') : GrowTop ts w (.returned (.tuple #[.nilIface, .bool false])) w' := ⟨fun _ => rfl, fun h2 => absurd h2 h, hb⟩
theorem zero91 : Try.zeroCells118 = #[.slice none 0 0, .int .i64 0] ++ Array.replicate 1000 (.bool false) := by kernel_rfl
theorem grower_new (a : Option Addr) (n c : Nat) (w : World) : GrAt (w.alloc (.cells (Try.zeroCells118.setIfInBounds 0 (.slice a n c)) 118)) w.heap.size a n c 0 (fun _ => false) := by
  have hs : Try.zeroCells118.size = 1002 := by rw [zero91, Array.size_append, Array.size_replicate]; rfl
  refine ⟨_, heap_alloc_new w _, by rw [Array.size_setIfInBounds, hs], ?_, ?_, fun k hk => ?_⟩
  · rw [Array.getElem?_setIfInBounds_self_of_lt (by omega)]
  · rw [Array.getElem?_setIfInBounds_ne (by omega), zero91, Array.getElem?_append_left (by simp)]
    rfl
  · rw [Array.getElem?_setIfInBounds_ne (by omega), zero91, Array.getElem?_append_right (by simp)]
    have h2 : 2 + k - (#[Value.slice none 0 0, Value.int .i64 0] : Array Value).size = k := by
      have : (#[Value.slice none 0 0, Value.int .i64 0] : Array Value).size = 2 := rfl
      omega
    rw [h2, Array.getElem?_replicate, if_pos hk]
set_option maxHeartbeats 4000000 in
theorem grow_any (ts : List TN) (a : Option Addr) (n c A B : Nat) (w : World) (hB : B ≤ w.heap.size) (hT : NodesAt w A B a n c ts) :
    Calls Try.prog 51 #[.agg #[.slice a n c]] w fun e w' => GrowTop ts w e w' := by
  obtain ⟨N, hN⟩ : ∃ N, w.heap.size = N := ⟨_, rfl⟩
  have k0 := heap_alloc_new w (.cells #[.slice a n c] 26)
  have b0 := (Below.refl w.heap.size w).alloc (Nat.le_refl _) (.cells #[.slice a n c] 26)
  have z0 : (w.alloc (.cells #[.slice a n c] 26)).heap.size = N + 1 := by simp [hN]
  rw [hN] at k0
  have HL : Hid (ts.length = n) := hT.1
  have hc := Nat.le_trans hT.2.1 hT.2.2.1
  unfold maxLen at hc
  have hT0 := hT.below (b0.mono hB)
  clear hT
  go_enter Try.func51, Try.ntmps51
  go_upto_region 1 with fail
  generalize w.alloc (.cells #[.slice a n c] 26) = W0 at k0 b0 z0 hT0 ⊢
  have x0 := cell_one_at k0
  have l0 : N < W0.heap.size := by omega
  by_cases t1 : 1000 < n
  · have HNO : Hid (¬ ImplOk ts) := fun h => by have := h.1; have := HL.out; omega
    go_wp2_with fail
    refine bodyPost_ret (v := .tuple #[.nilIface, .bool false]) (by simp [results, Try.results51, go_sem]) rfl ?_
    exact GrowTop.no HNO.out b0
  have ab := (Below.refl W0.heap.size W0).alloc (Nat.le_refl _) (.cells (Try.zeroCells118.setIfInBounds 0 (.slice a n c)) 118)
  have G1 := grower_new a n c W0
  rw [z0] at G1
  have hT1 := hT0.below (ab.mono (by omega))
  have k1 := (ab.block N l0).trans k0
  have b1 := b0.trans (ab.mono (by omega))
  go_upto_region 4 with fail
  generalize W0.alloc (.cells (Try.zeroCells118.setIfInBounds 0 (.slice a n c)) 118) = W1 at ab G1 hT1 k1 b1 ⊢
  clear x0 hT0 k0 b0 l0
  have hcall := growNode_any ts (by have := HL.out; omega) a n c A B (N + 1) (by omega) (ts.length + 1) 0 (fun _ => false) W1 (Nat.zero_le _) (by omega) hT1 G1
  have hG1 := G1.lt
  go_wp2_with fail
  refine hcall.mono ?_
  rintro e w3 ⟨hnone, hsome, hf3⟩
  have HB3 : Hid (Below w.heap.size w w3) := b1.trans (hf3.below (by omega) (fun g e => by omega))
  have k3 := (hf3.block N (by omega) (by omega)).trans k1
  have x0 := cell_one_at k3
  clear hcall k1 hT1 G1 ab z0
  cases hgr : gr ts (ts.length + 1) 0 (fun _ => false) with
  | none =>
    obtain rfl := hnone hgr
    have HNO : Hid (¬ ImplOk ts) := fun h => by
      obtain ⟨_, t, met, e, _⟩ := h
      rw [hgr] at e
      cases e
    clear hnone hsome hgr hf3 k3 x0
    go_upto_region 5 with fail
    refine wp_region_noPanic ?_
    refine wp_region_held_drew (S := (fun _ : World => True)) (by kernel_rfl) (trivial) (fun hHeld => ?_)
    refine wpAnyH_take (i := 0) (oi := { dst := some 20, op := Op.move (Operand.tmp 6), type := 4, pos := "l3_tree.go:207", after := #[], guard := none }) (v := .bool false) rfl (by kernel_rfl) (by kernel_rfl) (by kernel_rfl) (fun _ _ _ h => h) (Or.inl ⟨by rfl, ?_⟩) (by assumption) ?_
    · intro wq hSw; (try dsimp only at hSw); go_simp
    try simp only [Act.put, List.setIfInBounds_toArray, List.set_cons_zero, List.set_cons_succ]
    refine wpAnyH_take (i := 1) (oi := { dst := some 21, op := Op.unOp UnOp.not 4 (Operand.tmp 20), type := 4, pos := "l3_tree.go:207", after := #[{ on := 0, ground := Ground.data }], guard := none }) (v := .bool true) rfl (by kernel_rfl) (by kernel_rfl) (by kernel_rfl) (fun _ _ _ h => h) (Or.inl ⟨by rfl, ?_⟩) (by assumption) ?_
    · intro wq hSw; (try dsimp only at hSw); go_simp
    try simp only [Act.put, List.setIfInBounds_toArray, List.set_cons_zero, List.set_cons_succ]
    refine wpAnyH_take (i := 2) (oi := { dst := some 22, op := Op.move (Operand.tmp 21), type := 4, pos := "l3_tree.go:207", after := #[{ on := 1, ground := Ground.data }], guard := none }) (v := .bool true) rfl (by kernel_rfl) (by kernel_rfl) (by kernel_rfl) (fun _ _ _ h => h) (Or.inl ⟨by rfl, ?_⟩) (by assumption) ?_
    · intro wq hSw; (try dsimp only at hSw); go_simp
    try simp only [Act.put, List.setIfInBounds_toArray, List.set_cons_zero, List.set_cons_succ]
    refine wpAnyH_take (i := 3) (oi := { dst := some 23, op := Op.move (Operand.tmp 4), type := 115, pos := "l3_tree.go:207", after := #[{ on := 2, ground := Ground.guard }], guard := some (2, false) }) (v := undef) rfl (by kernel_rfl) (by kernel_rfl) (by kernel_rfl) (fun _ _ _ h => h) (Or.inr ⟨by rfl, rfl⟩) (by assumption) ?_
    try simp only [Act.put, List.setIfInBounds_toArray, List.set_cons_zero, List.set_cons_succ]
    refine wpAnyH_take (i := 4) (oi := { dst := some 24, op := Op.nilCheck (Operand.tmp 23), type := 0, pos := "l3_tree.go:207", after := #[{ on := 3, ground := Ground.data }, { on := 2, ground := Ground.guard }], guard := some (2, false) }) (v := undef) rfl (by kernel_rfl) (by kernel_rfl) (by kernel_rfl) (fun _ _ _ h => h) (Or.inr ⟨by rfl, rfl⟩) (by assumption) ?_
    try simp only [Act.put, List.setIfInBounds_toArray, List.set_cons_zero, List.set_cons_succ]
    refine wpAnyH_take (i := 5) (oi := { dst := some 25, op := Op.fieldAddr 118 (Operand.tmp 24) 1, type := 0, pos := "l3_tree.go:207", after := #[{ on := 4, ground := Ground.data }, { on := 2, ground := Ground.guard }], guard := some (2, false) }) (v := undef) rfl (by kernel_rfl) (by kernel_rfl) (by kernel_rfl) (fun _ _ _ h => h) (Or.inr ⟨by rfl, rfl⟩) (by assumption) ?_
    try simp only [Act.put, List.setIfInBounds_toArray, List.set_cons_zero, List.set_cons_succ]
    refine wpAnyH_take (i := 6) (oi := { dst := some 26, op := Op.load 3 (Operand.tmp 25), type := 3, pos := "l3_tree.go:207", after := #[{ on := 5, ground := Ground.data }, { on := 2, ground := Ground.guard }], guard := some (2, false) }) (v := undef) rfl (by kernel_rfl) (by kernel_rfl) (by kernel_rfl) (fun _ _ _ h => h) (Or.inr ⟨by rfl, rfl⟩) (by assumption) ?_
    try simp only [Act.put, List.setIfInBounds_toArray, List.set_cons_zero, List.set_cons_succ]
    refine wpAnyH_take (i := 7) (oi := { dst := some 27, op := Op.fieldAddr 26 (Operand.tmp 1) 0, type := 0, pos := "l3_tree.go:207", after := #[{ on := 2, ground := Ground.guard }], guard := some (2, false) }) (v := undef) rfl (by kernel_rfl) (by kernel_rfl) (by kernel_rfl) (fun _ _ _ h => h) (Or.inr ⟨by rfl, rfl⟩) (by assumption) ?_
    try simp only [Act.put, List.setIfInBounds_toArray, List.set_cons_zero, List.set_cons_succ]
    refine wpAnyH_take (i := 8) (oi := { dst := some 28, op := Op.load 24 (Operand.tmp 27), type := 24, pos := "l3_tree.go:207", after := #[{ on := 7, ground := Ground.data }, { on := 2, ground := Ground.guard }], guard := some (2, false) }) (v := undef) rfl (by kernel_rfl) (by kernel_rfl) (by kernel_rfl) (fun _ _ _ h => h) (Or.inr ⟨by rfl, rfl⟩) (by assumption) ?_
    try simp only [Act.put, List.setIfInBounds_toArray, List.set_cons_zero, List.set_cons_succ]
    refine wpAnyH_take (i := 9) (oi := { dst := some 29, op := Op.call { callee := Callee.builtin Builtin.len, args := #[Operand.tmp 28], argTypes := #[24] }, type := 3, pos := "l3_tree.go:207", after := #[{ on := 8, ground := Ground.data }, { on := 2, ground := Ground.guard }], guard := some (2, false) }) (v := undef) rfl (by kernel_rfl) (by kernel_rfl) (by kernel_rfl) (fun _ _ _ h => h) (Or.inr ⟨by rfl, rfl⟩) (by assumption) ?_
    try simp only [Act.put, List.setIfInBounds_toArray, List.set_cons_zero, List.set_cons_succ]
    refine wpAnyH_take (i := 10) (oi := { dst := some 30, op := Op.binOp BinOp.neq 3 (Operand.tmp 26) (Operand.tmp 29) 3, type := 4, pos := "l3_tree.go:207", after := #[{ on := 6, ground := Ground.data }, { on := 9, ground := Ground.data }, { on := 2, ground := Ground.guard }], guard := some (2, false) }) (v := undef) rfl (by kernel_rfl) (by kernel_rfl) (by kernel_rfl) (fun _ _ _ h => h) (Or.inr ⟨by rfl, rfl⟩) (by assumption) ?_
    try simp only [Act.put, List.setIfInBounds_toArray, List.set_cons_zero, List.set_cons_succ]
    refine wpAnyH_take (i := 11) (oi := { dst := some 31, op := Op.pick (Operand.tmp 22) (Operand.const (Value.bool true)) (Operand.tmp 30), type := 4, pos := "l3_tree.go:207", after := #[{ on := 2, ground := Ground.data }, { on := 10, ground := Ground.data }], guard := none }) (v := .bool true) rfl (by kernel_rfl) (by kernel_rfl) (by kernel_rfl) (fun _ _ _ h => h) (Or.inl ⟨by rfl, ?_⟩) (by assumption) ?_
    · intro wq hSw; (try dsimp only at hSw); go_simp
    try simp only [Act.put, List.setIfInBounds_toArray, List.set_cons_zero, List.set_cons_succ]
    refine wpAnyH_take (i := 12) (oi := { dst := some 32, op := Op.move (Operand.tmp 31), type := 4, pos := "l3_tree.go:207", after := #[{ on := 11, ground := Ground.data }, { on := 2, ground := Ground.chain }], guard := none }) (v := .bool true) rfl (by kernel_rfl) (by kernel_rfl) (by kernel_rfl) (fun _ _ _ h => h) (Or.inl ⟨by rfl, ?_⟩) (by assumption) ?_
    · intro wq hSw; (try dsimp only at hSw); go_simp
    try simp only [Act.put, List.setIfInBounds_toArray, List.set_cons_zero, List.set_cons_succ]
    refine wpAnyH_take (i := 13) (oi := { dst := some 33, op := Op.move (Operand.tmp 5), type := 70, pos := "l3_tree.go:207", after := #[{ on := 12, ground := Ground.guard }], guard := some (12, false) }) (v := undef) rfl (by kernel_rfl) (by kernel_rfl) (by kernel_rfl) (fun _ _ _ h => h) (Or.inr ⟨by rfl, rfl⟩) (by assumption) ?_
    try simp only [Act.put, List.setIfInBounds_toArray, List.set_cons_zero, List.set_cons_succ]
    refine wpAnyH_take (i := 14) (oi := { dst := some 34, op := Op.call { callee := Callee.invoke (Operand.tmp 33) "loop.example/s02098/impl.slots", args := #[Operand.const (Value.slice none 0 0)], argTypes := #[89] }, type := 89, pos := "l3_tree.go:207", after := #[{ on := 13, ground := Ground.data }, { on := 12, ground := Ground.chain }, { on := 12, ground := Ground.guard }], guard := some (12, false) }) (v := undef) rfl (by kernel_rfl) (by kernel_rfl) (by kernel_rfl) (fun _ _ _ h => h) (Or.inr ⟨by rfl, rfl⟩) (by assumption) ?_
    try simp only [Act.put, List.setIfInBounds_toArray, List.set_cons_zero, List.set_cons_succ]
    refine wpAnyH_take (i := 15) (oi := { dst := some 35, op := Op.call { callee := Callee.value (Operand.func 68), args := #[Operand.tmp 34], argTypes := #[89] }, type := 4, pos := "l3_tree.go:207", after := #[{ on := 14, ground := Ground.data }, { on := 14, ground := Ground.chain }, { on := 12, ground := Ground.guard }], guard := some (12, false) }) (v := undef) rfl (by kernel_rfl) (by kernel_rfl) (by kernel_rfl) (fun _ _ _ h => h) (Or.inr ⟨by rfl, rfl⟩) (by assumption) ?_
    try simp only [Act.put, List.setIfInBounds_toArray, List.set_cons_zero, List.set_cons_succ]
    refine wpAnyH_take (i := 16) (oi := { dst := some 36, op := Op.unOp UnOp.not 4 (Operand.tmp 35), type := 4, pos := "l3_tree.go:207", after := #[{ on := 15, ground := Ground.data }, { on := 12, ground := Ground.guard }], guard := some (12, false) }) (v := undef) rfl (by kernel_rfl) (by kernel_rfl) (by kernel_rfl) (fun _ _ _ h => h) (Or.inr ⟨by rfl, rfl⟩) (by assumption) ?_
    try simp only [Act.put, List.setIfInBounds_toArray, List.set_cons_zero, List.set_cons_succ]
    refine wpAnyH_take (i := 17) (oi := { dst := some 37, op := Op.pick (Operand.tmp 32) (Operand.const (Value.bool true)) (Operand.tmp 36), type := 4, pos := "l3_tree.go:207", after := #[{ on := 12, ground := Ground.data }, { on := 16, ground := Ground.data }], guard := none }) (v := .bool true) rfl (by kernel_rfl) (by kernel_rfl) (by kernel_rfl) (fun _ _ _ h => h) (Or.inl ⟨by rfl, ?_⟩) (by assumption) ?_
    · intro wq hSw; (try dsimp only at hSw); go_simp
    try simp only [Act.put, List.setIfInBounds_toArray, List.set_cons_zero, List.set_cons_succ]
    refine wpAnyH_done (by kernel_rfl) ?_ _
    refine NoPanic.normal ?_
    go_wp2_with fail
    refine bodyPost_ret (v := .tuple #[.nilIface, .bool false]) (by simp [results, Try.results51, go_sem]) rfl ?_
    exact GrowTop.no HNO.out HB3.out.drew
  | some val =>
    obtain ⟨t, nx', m'⟩ := val
    obtain ⟨u, rfl, hGI, hGr⟩ := hsome t nx' m' hgr
    obtain ⟨ty, v, rfl⟩ := hGI.shape
    obtain ⟨gs1, gs2, gs3, gs4, gs5, gs6, gs7, gs8⟩ := gr_some ts _ 0 _ t nx' m' (Nat.zero_le _) hgr
    have g1 := hGr.c1
    have gl := hGr.lt
    have xl := lt_of_cellG x0
    have hnx : nx' ≤ 1000 := by have := gs4.1; have := HL.out; omega
    by_cases tn : nx' ≠ n
    · have HNO : Hid (¬ ImplOk ts) := fun h => by
        obtain ⟨_, t2, met, e, _⟩ := h
        rw [hgr] at e
        simp only [Option.some.injEq, Prod.mk.injEq] at e
        have := HL.out
        omega
      have sn : ((nx' : Int) != (n : Int)) = true := by simp; omega
      clear hnone hsome hgr hf3 k3 hGI hGr gs1 gs2 gs3 gs4 gs5 gs6 gs7 gs8 tn
      go_upto_region 5 with fail
      refine wp_region_noPanic ?_
      refine wp_region_held_drew (S := (fun w' : World => w'.cell? ⟨N + 1, 1, none⟩ = some (.int .i64 nx') ∧ w'.cell? ⟨N, 0, none⟩ = some (.slice a n c))) (by kernel_rfl) (⟨g1, x0⟩) (fun hHeld => ?_)
      refine wpAnyH_take (i := 0) (oi := { dst := some 20, op := Op.move (Operand.tmp 6), type := 4, pos := "l3_tree.go:207", after := #[], guard := none }) (v := .bool true) rfl (by kernel_rfl) (by kernel_rfl) (by kernel_rfl) (fun _ _ _ h => h) (Or.inl ⟨by rfl, ?_⟩) (by assumption) ?_
      · intro wq hSw; (try dsimp only at hSw); go_simp
      try simp only [Act.put, List.setIfInBounds_toArray, List.set_cons_zero, List.set_cons_succ]
      refine wpAnyH_take (i := 1) (oi := { dst := some 21, op := Op.unOp UnOp.not 4 (Operand.tmp 20), type := 4, pos := "l3_tree.go:207", after := #[{ on := 0, ground := Ground.data }], guard := none }) (v := .bool false) rfl (by kernel_rfl) (by kernel_rfl) (by kernel_rfl) (fun _ _ _ h => h) (Or.inl ⟨by rfl, ?_⟩) (by assumption) ?_
      · intro wq hSw; (try dsimp only at hSw); go_simp
      try simp only [Act.put, List.setIfInBounds_toArray, List.set_cons_zero, List.set_cons_succ]
      refine wpAnyH_take (i := 2) (oi := { dst := some 22, op := Op.move (Operand.tmp 21), type := 4, pos := "l3_tree.go:207", after := #[{ on := 1, ground := Ground.data }], guard := none }) (v := .bool false) rfl (by kernel_rfl) (by kernel_rfl) (by kernel_rfl) (fun _ _ _ h => h) (Or.inl ⟨by rfl, ?_⟩) (by assumption) ?_
      · intro wq hSw; (try dsimp only at hSw); go_simp
      try simp only [Act.put, List.setIfInBounds_toArray, List.set_cons_zero, List.set_cons_succ]
      refine wpAnyH_take (i := 3) (oi := { dst := some 23, op := Op.move (Operand.tmp 4), type := 115, pos := "l3_tree.go:207", after := #[{ on := 2, ground := Ground.guard }], guard := some (2, false) }) (v := .pointer (some ⟨N + 1, 0, none⟩)) rfl (by kernel_rfl) (by kernel_rfl) (by kernel_rfl) (fun _ _ _ h => h) (Or.inl ⟨by rfl, ?_⟩) (by assumption) ?_
      · intro wq hSw; (try dsimp only at hSw); go_simp
      try simp only [Act.put, List.setIfInBounds_toArray, List.set_cons_zero, List.set_cons_succ]
      refine wpAnyH_take (i := 4) (oi := { dst := some 24, op := Op.nilCheck (Operand.tmp 23), type := 0, pos := "l3_tree.go:207", after := #[{ on := 3, ground := Ground.data }, { on := 2, ground := Ground.guard }], guard := some (2, false) }) (v := .pointer (some ⟨N + 1, 0, none⟩)) rfl (by kernel_rfl) (by kernel_rfl) (by kernel_rfl) (fun _ _ _ h => h) (Or.inl ⟨by rfl, ?_⟩) (by assumption) ?_
      · intro wq hSw; (try dsimp only at hSw); go_simp
      try simp only [Act.put, List.setIfInBounds_toArray, List.set_cons_zero, List.set_cons_succ]
      refine wpAnyH_take (i := 5) (oi := { dst := some 25, op := Op.fieldAddr 118 (Operand.tmp 24) 1, type := 0, pos := "l3_tree.go:207", after := #[{ on := 4, ground := Ground.data }, { on := 2, ground := Ground.guard }], guard := some (2, false) }) (v := .pointer (some ⟨N + 1, 1, none⟩)) rfl (by kernel_rfl) (by kernel_rfl) (by kernel_rfl) (fun _ _ _ h => h) (Or.inl ⟨by rfl, ?_⟩) (by assumption) ?_
      · intro wq hSw; (try dsimp only at hSw); go_simp
      try simp only [Act.put, List.setIfInBounds_toArray, List.set_cons_zero, List.set_cons_succ]
      refine wpAnyH_take (i := 6) (oi := { dst := some 26, op := Op.load 3 (Operand.tmp 25), type := 3, pos := "l3_tree.go:207", after := #[{ on := 5, ground := Ground.data }, { on := 2, ground := Ground.guard }], guard := some (2, false) }) (v := .int .i64 nx') rfl (by kernel_rfl) (by kernel_rfl) (by kernel_rfl) (fun _ _ _ h => h) (Or.inl ⟨by rfl, ?_⟩) (by assumption) ?_
      · intro wq hSw; (try dsimp only at hSw); obtain ⟨d0, d1⟩ := hSw; go_simp
      try simp only [Act.put, List.setIfInBounds_toArray, List.set_cons_zero, List.set_cons_succ]
      refine wpAnyH_take (i := 7) (oi := { dst := some 27, op := Op.fieldAddr 26 (Operand.tmp 1) 0, type := 0, pos := "l3_tree.go:207", after := #[{ on := 2, ground := Ground.guard }], guard := some (2, false) }) (v := .pointer (some ⟨N, 0, none⟩)) rfl (by kernel_rfl) (by kernel_rfl) (by kernel_rfl) (fun _ _ _ h => h) (Or.inl ⟨by rfl, ?_⟩) (by assumption) ?_
      · intro wq hSw; (try dsimp only at hSw); go_simp
      try simp only [Act.put, List.setIfInBounds_toArray, List.set_cons_zero, List.set_cons_succ]
      refine wpAnyH_take (i := 8) (oi := { dst := some 28, op := Op.load 24 (Operand.tmp 27), type := 24, pos := "l3_tree.go:207", after := #[{ on := 7, ground := Ground.data }, { on := 2, ground := Ground.guard }], guard := some (2, false) }) (v := .slice a n c) rfl (by kernel_rfl) (by kernel_rfl) (by kernel_rfl) (fun _ _ _ h => h) (Or.inl ⟨by rfl, ?_⟩) (by assumption) ?_
      · intro wq hSw; (try dsimp only at hSw); obtain ⟨d0, d1⟩ := hSw; go_simp
      try simp only [Act.put, List.setIfInBounds_toArray, List.set_cons_zero, List.set_cons_succ]
      refine wpAnyH_take (i := 9) (oi := { dst := some 29, op := Op.call { callee := Callee.builtin Builtin.len, args := #[Operand.tmp 28], argTypes := #[24] }, type := 3, pos := "l3_tree.go:207", after := #[{ on := 8, ground := Ground.data }, { on := 2, ground := Ground.guard }], guard := some (2, false) }) (v := .int .i64 n) rfl (by kernel_rfl) (by kernel_rfl) (by kernel_rfl) (fun _ _ _ h => h) (Or.inl ⟨by rfl, ?_⟩) (by assumption) ?_
      · intro wq hSw; (try dsimp only at hSw); go_simp
      try simp only [Act.put, List.setIfInBounds_toArray, List.set_cons_zero, List.set_cons_succ]
      refine wpAnyH_take (i := 10) (oi := { dst := some 30, op := Op.binOp BinOp.neq 3 (Operand.tmp 26) (Operand.tmp 29) 3, type := 4, pos := "l3_tree.go:207", after := #[{ on := 6, ground := Ground.data }, { on := 9, ground := Ground.data }, { on := 2, ground := Ground.guard }], guard := some (2, false) }) (v := .bool true) rfl (by kernel_rfl) (by kernel_rfl) (by kernel_rfl) (fun _ _ _ h => h) (Or.inl ⟨by rfl, ?_⟩) (by assumption) ?_
      · intro wq hSw; (try dsimp only at hSw); go_simp
      try simp only [Act.put, List.setIfInBounds_toArray, List.set_cons_zero, List.set_cons_succ]
      refine wpAnyH_take (i := 11) (oi := { dst := some 31, op := Op.pick (Operand.tmp 22) (Operand.const (Value.bool true)) (Operand.tmp 30), type := 4, pos := "l3_tree.go:207", after := #[{ on := 2, ground := Ground.data }, { on := 10, ground := Ground.data }], guard := none }) (v := .bool true) rfl (by kernel_rfl) (by kernel_rfl) (by kernel_rfl) (fun _ _ _ h => h) (Or.inl ⟨by rfl, ?_⟩) (by assumption) ?_
      · intro wq hSw; (try dsimp only at hSw); go_simp
      try simp only [Act.put, List.setIfInBounds_toArray, List.set_cons_zero, List.set_cons_succ]
      refine wpAnyH_take (i := 12) (oi := { dst := some 32, op := Op.move (Operand.tmp 31), type := 4, pos := "l3_tree.go:207", after := #[{ on := 11, ground := Ground.data }, { on := 2, ground := Ground.chain }], guard := none }) (v := .bool true) rfl (by kernel_rfl) (by kernel_rfl) (by kernel_rfl) (fun _ _ _ h => h) (Or.inl ⟨by rfl, ?_⟩) (by assumption) ?_
      · intro wq hSw; (try dsimp only at hSw); go_simp
      try simp only [Act.put, List.setIfInBounds_toArray, List.set_cons_zero, List.set_cons_succ]
      refine wpAnyH_take (i := 13) (oi := { dst := some 33, op := Op.move (Operand.tmp 5), type := 70, pos := "l3_tree.go:207", after := #[{ on := 12, ground := Ground.guard }], guard := some (12, false) }) (v := undef) rfl (by kernel_rfl) (by kernel_rfl) (by kernel_rfl) (fun _ _ _ h => h) (Or.inr ⟨by rfl, rfl⟩) (by assumption) ?_
      try simp only [Act.put, List.setIfInBounds_toArray, List.set_cons_zero, List.set_cons_succ]
      refine wpAnyH_take (i := 14) (oi := { dst := some 34, op := Op.call { callee := Callee.invoke (Operand.tmp 33) "loop.example/s02098/impl.slots", args := #[Operand.const (Value.slice none 0 0)], argTypes := #[89] }, type := 89, pos := "l3_tree.go:207", after := #[{ on := 13, ground := Ground.data }, { on := 12, ground := Ground.chain }, { on := 12, ground := Ground.guard }], guard := some (12, false) }) (v := undef) rfl (by kernel_rfl) (by kernel_rfl) (by kernel_rfl) (fun _ _ _ h => h) (Or.inr ⟨by rfl, rfl⟩) (by assumption) ?_
      try simp only [Act.put, List.setIfInBounds_toArray, List.set_cons_zero, List.set_cons_succ]
      refine wpAnyH_take (i := 15) (oi := { dst := some 35, op := Op.call { callee := Callee.value (Operand.func 68), args := #[Operand.tmp 34], argTypes := #[89] }, type := 4, pos := "l3_tree.go:207", after := #[{ on := 14, ground := Ground.data }, { on := 14, ground := Ground.chain }, { on := 12, ground := Ground.guard }], guard := some (12, false) }) (v := undef) rfl (by kernel_rfl) (by kernel_rfl) (by kernel_rfl) (fun _ _ _ h => h) (Or.inr ⟨by rfl, rfl⟩) (by assumption) ?_
      try simp only [Act.put, List.setIfInBounds_toArray, List.set_cons_zero, List.set_cons_succ]
      refine wpAnyH_take (i := 16) (oi := { dst := some 36, op := Op.unOp UnOp.not 4 (Operand.tmp 35), type := 4, pos := "l3_tree.go:207", after := #[{ on := 15, ground := Ground.data }, { on := 12, ground := Ground.guard }], guard := some (12, false) }) (v := undef) rfl (by kernel_rfl) (by kernel_rfl) (by kernel_rfl) (fun _ _ _ h => h) (Or.inr ⟨by rfl, rfl⟩) (by assumption) ?_
      try simp only [Act.put, List.setIfInBounds_toArray, List.set_cons_zero, List.set_cons_succ]
      refine wpAnyH_take (i := 17) (oi := { dst := some 37, op := Op.pick (Operand.tmp 32) (Operand.const (Value.bool true)) (Operand.tmp 36), type := 4, pos := "l3_tree.go:207", after := #[{ on := 12, ground := Ground.data }, { on := 16, ground := Ground.data }], guard := none }) (v := .bool true) rfl (by kernel_rfl) (by kernel_rfl) (by kernel_rfl) (fun _ _ _ h => h) (Or.inl ⟨by rfl, ?_⟩) (by assumption) ?_
      · intro wq hSw; (try dsimp only at hSw); go_simp
      try simp only [Act.put, List.setIfInBounds_toArray, List.set_cons_zero, List.set_cons_succ]
      refine wpAnyH_done (by kernel_rfl) ?_ _
      refine NoPanic.normal ?_
      go_wp2_with fail
      refine bodyPost_ret (v := .tuple #[.nilIface, .bool false]) (by simp [results, Try.results51, go_sem]) rfl ?_
      exact GrowTop.no HNO.out HB3.out.drew
    · have tn' : nx' = n := by omega
      clear tn
      subst tn'
      have sn : ((nx' : Int) != (nx' : Int)) = false := by simp
      have HGR : Hid (gr ts (ts.length + 1) 0 (fun _ => false) = some (t, ts.length, m')) := by show _ = _; rw [hgr, HL.out]
      have HIO1 : Hid ((t.slots.all (fun s => kyB s.1) = true ∧ ascB (t.slots.map (fun s => s.1)) = true) → ImplOk ts) := fun h => ⟨by have := HL.out; omega, t, m', HGR.out, h.1, h.2⟩
      have HIO2 : Hid (¬ (t.slots.all (fun s => kyB s.1) = true ∧ ascB (t.slots.map (fun s => s.1)) = true) → ¬ ImplOk ts) := fun h h2 => by
        obtain ⟨_, t2, met, e, e1, e2⟩ := h2
        rw [HGR.out] at e
        simp only [Option.some.injEq, Prod.mk.injEq] at e
        obtain ⟨rfl, _⟩ := e
        exact h ⟨e1, e2⟩
      have HSN : Hid (t.slots.length ≤ 100000) := by
        show _ ≤ _
        have := slots_len t ⟨true, gs5⟩
        have := gs4.1
        omega
      have HSZ : Hid (w.heap.size ≤ w3.drew.heap.size) := HB3.out.size
      have HGI : Hid (∀ w', Fr (fun k => w3.heap.size ≤ k) w3.drew w' → GM w' (fun b => w.heap.size ≤ b ∧ b < w'.heap.size) t (.iface ty v)) := fun w' hf =>
        GM.keep (w := w3) t _ _ _ (fun b hb => hf.block b hb.2 (by omega)) (fun b hb => ⟨by have := b1.size; omega, Nat.lt_of_lt_of_le hb.2 hf.size⟩) hGI
      obtain ⟨ha, f9, r9, hme, hcf, hcl⟩ := GIs.slots (base := w3.heap.size) (P := fun b => W1.heap.size ≤ b ∧ b < w3.heap.size) (fun b hb => hb.2) t ty v gs3 (GM.see _ _ _ hGI)
      have hcl2 := hcl w3.drew ((Below.refl _ w3).drew) none 0 0 [] (World.ownsRow_nil _ _ _ _) (by have := HSN.out; omega) (Nat.le_refl _)
      simp only [Nat.zero_add, List.nil_append] at hcl2
      have HSL : Hid (Calls Try.prog f9 #[r9, .slice none 0 0] w3.drew fun e w2 => ∃ oa' oc', e = .returned (.slice oa' t.slots.length oc') ∧ w2.ownsRow w3.heap.size 86 3 (.slice oa' t.slots.length oc') t.slots.length (rowsOf slCells t.slots) ∧ Fr (fun k => w3.heap.size ≤ k) w3.drew w2) := hcl2
      have hcf2 := hcf (.slice none 0 0)
      have SS : Hid (∀ w' : World, Fr (fun k => w3.heap.size ≤ k) w3.drew w' → (w'.cell? ⟨N + 1, 1, none⟩ = some (.int .i64 nx') ∧ w'.cell? ⟨N, 0, none⟩ = some (.slice a nx' c))) := fun w' hf =>
        ⟨(World.cell?_of_block (w := w3) (a := ⟨N + 1, 1, none⟩) (hf.block (N + 1) gl (by omega))).trans g1, (World.cell?_of_block (w := w3) (a := ⟨N, 0, none⟩) (hf.block N xl (by omega))).trans x0⟩
      clear hnone hsome hgr hf3 k3 hGI hGr gs1 gs2 gs3 gs4 gs5 gs6 gs7 gs8 hcl hcl2 hcf
      go_upto_region 5 with fail
      refine wp_region_noPanic ?_
      refine wp_region_held_drew (S := (fun w' : World => w'.cell? ⟨N + 1, 1, none⟩ = some (.int .i64 nx') ∧ w'.cell? ⟨N, 0, none⟩ = some (.slice a nx' c))) (by kernel_rfl) (⟨g1, x0⟩) (fun hHeld => ?_)
      refine wpAnyH_take (i := 0) (oi := { dst := some 20, op := Op.move (Operand.tmp 6), type := 4, pos := "l3_tree.go:207", after := #[], guard := none }) (v := .bool true) rfl (by kernel_rfl) (by kernel_rfl) (by kernel_rfl) (fun _ _ _ h => h) (Or.inl ⟨by rfl, ?_⟩) (by assumption) ?_
      · intro wq hSw; (try dsimp only at hSw); go_simp
      try simp only [Act.put, List.setIfInBounds_toArray, List.set_cons_zero, List.set_cons_succ]
      refine wpAnyH_take (i := 1) (oi := { dst := some 21, op := Op.unOp UnOp.not 4 (Operand.tmp 20), type := 4, pos := "l3_tree.go:207", after := #[{ on := 0, ground := Ground.data }], guard := none }) (v := .bool false) rfl (by kernel_rfl) (by kernel_rfl) (by kernel_rfl) (fun _ _ _ h => h) (Or.inl ⟨by rfl, ?_⟩) (by assumption) ?_
      · intro wq hSw; (try dsimp only at hSw); go_simp
      try simp only [Act.put, List.setIfInBounds_toArray, List.set_cons_zero, List.set_cons_succ]
      refine wpAnyH_take (i := 2) (oi := { dst := some 22, op := Op.move (Operand.tmp 21), type := 4, pos := "l3_tree.go:207", after := #[{ on := 1, ground := Ground.data }], guard := none }) (v := .bool false) rfl (by kernel_rfl) (by kernel_rfl) (by kernel_rfl) (fun _ _ _ h => h) (Or.inl ⟨by rfl, ?_⟩) (by assumption) ?_
      · intro wq hSw; (try dsimp only at hSw); go_simp
      try simp only [Act.put, List.setIfInBounds_toArray, List.set_cons_zero, List.set_cons_succ]
      refine wpAnyH_take (i := 3) (oi := { dst := some 23, op := Op.move (Operand.tmp 4), type := 115, pos := "l3_tree.go:207", after := #[{ on := 2, ground := Ground.guard }], guard := some (2, false) }) (v := .pointer (some ⟨N + 1, 0, none⟩)) rfl (by kernel_rfl) (by kernel_rfl) (by kernel_rfl) (fun _ _ _ h => h) (Or.inl ⟨by rfl, ?_⟩) (by assumption) ?_
      · intro wq hSw; (try dsimp only at hSw); go_simp
      try simp only [Act.put, List.setIfInBounds_toArray, List.set_cons_zero, List.set_cons_succ]
      refine wpAnyH_take (i := 4) (oi := { dst := some 24, op := Op.nilCheck (Operand.tmp 23), type := 0, pos := "l3_tree.go:207", after := #[{ on := 3, ground := Ground.data }, { on := 2, ground := Ground.guard }], guard := some (2, false) }) (v := .pointer (some ⟨N + 1, 0, none⟩)) rfl (by kernel_rfl) (by kernel_rfl) (by kernel_rfl) (fun _ _ _ h => h) (Or.inl ⟨by rfl, ?_⟩) (by assumption) ?_
      · intro wq hSw; (try dsimp only at hSw); go_simp
      try simp only [Act.put, List.setIfInBounds_toArray, List.set_cons_zero, List.set_cons_succ]
      refine wpAnyH_take (i := 5) (oi := { dst := some 25, op := Op.fieldAddr 118 (Operand.tmp 24) 1, type := 0, pos := "l3_tree.go:207", after := #[{ on := 4, ground := Ground.data }, { on := 2, ground := Ground.guard }], guard := some (2, false) }) (v := .pointer (some ⟨N + 1, 1, none⟩)) rfl (by kernel_rfl) (by kernel_rfl) (by kernel_rfl) (fun _ _ _ h => h) (Or.inl ⟨by rfl, ?_⟩) (by assumption) ?_
      · intro wq hSw; (try dsimp only at hSw); go_simp
      try simp only [Act.put, List.setIfInBounds_toArray, List.set_cons_zero, List.set_cons_succ]
      refine wpAnyH_take (i := 6) (oi := { dst := some 26, op := Op.load 3 (Operand.tmp 25), type := 3, pos := "l3_tree.go:207", after := #[{ on := 5, ground := Ground.data }, { on := 2, ground := Ground.guard }], guard := some (2, false) }) (v := .int .i64 nx') rfl (by kernel_rfl) (by kernel_rfl) (by kernel_rfl) (fun _ _ _ h => h) (Or.inl ⟨by rfl, ?_⟩) (by assumption) ?_
      · intro wq hSw; (try dsimp only at hSw); obtain ⟨d0, d1⟩ := hSw; go_simp
      try simp only [Act.put, List.setIfInBounds_toArray, List.set_cons_zero, List.set_cons_succ]
      refine wpAnyH_take (i := 7) (oi := { dst := some 27, op := Op.fieldAddr 26 (Operand.tmp 1) 0, type := 0, pos := "l3_tree.go:207", after := #[{ on := 2, ground := Ground.guard }], guard := some (2, false) }) (v := .pointer (some ⟨N, 0, none⟩)) rfl (by kernel_rfl) (by kernel_rfl) (by kernel_rfl) (fun _ _ _ h => h) (Or.inl ⟨by rfl, ?_⟩) (by assumption) ?_
      · intro wq hSw; (try dsimp only at hSw); go_simp
      try simp only [Act.put, List.setIfInBounds_toArray, List.set_cons_zero, List.set_cons_succ]
      refine wpAnyH_take (i := 8) (oi := { dst := some 28, op := Op.load 24 (Operand.tmp 27), type := 24, pos := "l3_tree.go:207", after := #[{ on := 7, ground := Ground.data }, { on := 2, ground := Ground.guard }], guard := some (2, false) }) (v := .slice a nx' c) rfl (by kernel_rfl) (by kernel_rfl) (by kernel_rfl) (fun _ _ _ h => h) (Or.inl ⟨by rfl, ?_⟩) (by assumption) ?_
      · intro wq hSw; (try dsimp only at hSw); obtain ⟨d0, d1⟩ := hSw; go_simp
      try simp only [Act.put, List.setIfInBounds_toArray, List.set_cons_zero, List.set_cons_succ]
      refine wpAnyH_take (i := 9) (oi := { dst := some 29, op := Op.call { callee := Callee.builtin Builtin.len, args := #[Operand.tmp 28], argTypes := #[24] }, type := 3, pos := "l3_tree.go:207", after := #[{ on := 8, ground := Ground.data }, { on := 2, ground := Ground.guard }], guard := some (2, false) }) (v := .int .i64 nx') rfl (by kernel_rfl) (by kernel_rfl) (by kernel_rfl) (fun _ _ _ h => h) (Or.inl ⟨by rfl, ?_⟩) (by assumption) ?_
      · intro wq hSw; (try dsimp only at hSw); go_simp
      try simp only [Act.put, List.setIfInBounds_toArray, List.set_cons_zero, List.set_cons_succ]
      refine wpAnyH_take (i := 10) (oi := { dst := some 30, op := Op.binOp BinOp.neq 3 (Operand.tmp 26) (Operand.tmp 29) 3, type := 4, pos := "l3_tree.go:207", after := #[{ on := 6, ground := Ground.data }, { on := 9, ground := Ground.data }, { on := 2, ground := Ground.guard }], guard := some (2, false) }) (v := .bool false) rfl (by kernel_rfl) (by kernel_rfl) (by kernel_rfl) (fun _ _ _ h => h) (Or.inl ⟨by rfl, ?_⟩) (by assumption) ?_
      · intro wq hSw; (try dsimp only at hSw); go_simp
      try simp only [Act.put, List.setIfInBounds_toArray, List.set_cons_zero, List.set_cons_succ]
      refine wpAnyH_take (i := 11) (oi := { dst := some 31, op := Op.pick (Operand.tmp 22) (Operand.const (Value.bool true)) (Operand.tmp 30), type := 4, pos := "l3_tree.go:207", after := #[{ on := 2, ground := Ground.data }, { on := 10, ground := Ground.data }], guard := none }) (v := .bool false) rfl (by kernel_rfl) (by kernel_rfl) (by kernel_rfl) (fun _ _ _ h => h) (Or.inl ⟨by rfl, ?_⟩) (by assumption) ?_
      · intro wq hSw; (try dsimp only at hSw); go_simp
      try simp only [Act.put, List.setIfInBounds_toArray, List.set_cons_zero, List.set_cons_succ]
      refine wpAnyH_take (i := 12) (oi := { dst := some 32, op := Op.move (Operand.tmp 31), type := 4, pos := "l3_tree.go:207", after := #[{ on := 11, ground := Ground.data }, { on := 2, ground := Ground.chain }], guard := none }) (v := .bool false) rfl (by kernel_rfl) (by kernel_rfl) (by kernel_rfl) (fun _ _ _ h => h) (Or.inl ⟨by rfl, ?_⟩) (by assumption) ?_
      · intro wq hSw; (try dsimp only at hSw); go_simp
      try simp only [Act.put, List.setIfInBounds_toArray, List.set_cons_zero, List.set_cons_succ]
      refine wpAnyH_take (i := 13) (oi := { dst := some 33, op := Op.move (Operand.tmp 5), type := 70, pos := "l3_tree.go:207", after := #[{ on := 12, ground := Ground.guard }], guard := some (12, false) }) (v := .iface ty v) rfl (by kernel_rfl) (by kernel_rfl) (by kernel_rfl) (fun _ _ _ h => h) (Or.inl ⟨by rfl, ?_⟩) (by assumption) ?_
      · intro wq hSw; (try dsimp only at hSw); go_simp
      try simp only [Act.put, List.setIfInBounds_toArray, List.set_cons_zero, List.set_cons_succ]
      refine wpAnyH_ready (rs := [14]) (by kernel_rfl) (by simp) ?_
      refine AllReadyH.cons (o := { dst := some 34, op := Op.call { callee := Callee.invoke (Operand.tmp 33) "loop.example/s02098/impl.slots", args := #[Operand.const (Value.slice none 0 0)], argTypes := #[89] }, type := 89, pos := "l3_tree.go:207", after := #[{ on := 13, ground := Ground.data }, { on := 12, ground := Ground.chain }, { on := 12, ground := Ground.guard }], guard := some (12, false) }) rfl (fun K hK => ?_) AllReadyH.nil
      go_simp
      refine (HSL.out).mono ?_
      rintro e w4 ⟨oa', oc', rfl, hown4, hfr4⟩
      go_wp2_with fail
      refine hK.out _ _ (SS.out w4 hfr4) (fun hHeld => ?_)
      clear hK K
      try simp only [Act.put, List.setIfInBounds_toArray, List.set_cons_zero, List.set_cons_succ]
      refine wpAnyH_ready (rs := [15]) (by kernel_rfl) (by simp) ?_
      refine AllReadyH.cons (o := { dst := some 35, op := Op.call { callee := Callee.value (Operand.func 68), args := #[Operand.tmp 34], argTypes := #[89] }, type := 4, pos := "l3_tree.go:207", after := #[{ on := 14, ground := Ground.data }, { on := 14, ground := Ground.chain }, { on := 12, ground := Ground.guard }], guard := some (12, false) }) rfl (fun K hK => ?_) AllReadyH.nil
      go_simp
      refine (ascend_any (base := w3.heap.size) t.slots oa' _ oc' w4 hown4 HSN.out rfl).mono ?_
      rintro e w5 ⟨r, rfl, hr, hb5⟩
      go_wp2_with fail
      refine hK.out _ _ (SS.out w5 (hfr4.trans (Fr.of_below hb5))) (fun hHeld => ?_)
      clear hK K
      try simp only [Act.put, List.setIfInBounds_toArray, List.set_cons_zero, List.set_cons_succ]
      have HBW : Hid (Below w.heap.size w w5) := HB3.out.drew.trans ((hfr4.trans (Fr.of_below hb5)).below HSZ.out (fun k hk => Nat.le_trans HSZ.out hk))
      have HG5 : Hid _ := HGI.out w5 (hfr4.trans (Fr.of_below hb5))
      cases r
      · have HNO : Hid (¬ ImplOk ts) := HIO2.out (fun h => by simpa using hr.2 h)
        clear hr hown4 hfr4 hb5
        refine wpAnyH_take (i := 16) (oi := { dst := some 36, op := Op.unOp UnOp.not 4 (Operand.tmp 35), type := 4, pos := "l3_tree.go:207", after := #[{ on := 15, ground := Ground.data }, { on := 12, ground := Ground.guard }], guard := some (12, false) }) (v := .bool true) rfl (by kernel_rfl) (by kernel_rfl) (by kernel_rfl) (fun _ _ _ h => h) (Or.inl ⟨by rfl, ?_⟩) (by assumption) ?_
        · intro wq hSw; (try dsimp only at hSw); go_simp
        try simp only [Act.put, List.setIfInBounds_toArray, List.set_cons_zero, List.set_cons_succ]
        refine wpAnyH_take (i := 17) (oi := { dst := some 37, op := Op.pick (Operand.tmp 32) (Operand.const (Value.bool true)) (Operand.tmp 36), type := 4, pos := "l3_tree.go:207", after := #[{ on := 12, ground := Ground.data }, { on := 16, ground := Ground.data }], guard := none }) (v := .bool true) rfl (by kernel_rfl) (by kernel_rfl) (by kernel_rfl) (fun _ _ _ h => h) (Or.inl ⟨by rfl, ?_⟩) (by assumption) ?_
        · intro wq hSw; (try dsimp only at hSw); go_simp
        try simp only [Act.put, List.setIfInBounds_toArray, List.set_cons_zero, List.set_cons_succ]
        refine wpAnyH_done (by kernel_rfl) ?_ _
        refine NoPanic.normal ?_
        go_wp2_with fail
        refine bodyPost_ret (v := .tuple #[.nilIface, .bool false]) (by simp [results, Try.results51, go_sem]) rfl ?_
        exact GrowTop.no HNO.out HBW.out
      · have HYES : Hid _ := hr.1 rfl
        clear hr hown4 hfr4 hb5
        refine wpAnyH_take (i := 16) (oi := { dst := some 36, op := Op.unOp UnOp.not 4 (Operand.tmp 35), type := 4, pos := "l3_tree.go:207", after := #[{ on := 15, ground := Ground.data }, { on := 12, ground := Ground.guard }], guard := some (12, false) }) (v := .bool false) rfl (by kernel_rfl) (by kernel_rfl) (by kernel_rfl) (fun _ _ _ h => h) (Or.inl ⟨by rfl, ?_⟩) (by assumption) ?_
        · intro wq hSw; (try dsimp only at hSw); go_simp
        try simp only [Act.put, List.setIfInBounds_toArray, List.set_cons_zero, List.set_cons_succ]
        refine wpAnyH_take (i := 17) (oi := { dst := some 37, op := Op.pick (Operand.tmp 32) (Operand.const (Value.bool true)) (Operand.tmp 36), type := 4, pos := "l3_tree.go:207", after := #[{ on := 12, ground := Ground.data }, { on := 16, ground := Ground.data }], guard := none }) (v := .bool false) rfl (by kernel_rfl) (by kernel_rfl) (by kernel_rfl) (fun _ _ _ h => h) (Or.inl ⟨by rfl, ?_⟩) (by assumption) ?_
        · intro wq hSw; (try dsimp only at hSw); go_simp
        try simp only [Act.put, List.setIfInBounds_toArray, List.set_cons_zero, List.set_cons_succ]
        refine wpAnyH_done (by kernel_rfl) ?_ _
        refine NoPanic.normal ?_
        go_wp2_with fail
        refine bodyPost_ret (v := .tuple #[.iface ty v, .bool true]) (by simp [results, Try.results51, go_sem]) rfl ?_
        exact ⟨(fun h => absurd (HIO1.out HYES.out) h), fun _ => ⟨t, m', _, HGR.out, HYES.out.1, HYES.out.2, rfl, HG5.out⟩, HBW.out⟩
theorem implValidT_any (ts : List TN) (a : Option Addr) (n c A B : Nat) (w : World) (hB : B ≤ w.heap.size) (hT : NodesAt w A B a n c ts) :
    Calls Try.prog 19 #[.agg #[.slice a n c]] w fun e w' => SaysB (ImplOk ts) w e w' := by
  have b0 := (Below.refl w.heap.size w).alloc (Nat.le_refl _) (.cells #[.slice a n c] 26)
  have hcall := grow_any ts a n c A B _ (Nat.le_trans hB b0.size) (hT.below (b0.mono hB))
  go_enter Try.func19, Try.ntmps19
  go_wp2_with fail
  refine hcall.mono ?_
  rintro e w1 ⟨hno, hyes, hb⟩
  have hbw := b0.trans (hb.mono b0.size)
  clear hcall hb hT
  by_cases h : ImplOk ts
  · obtain ⟨t, met, u, _, _, _, rfl, _⟩ := hyes h
    have HY : Hid (ImplOk ts) := h
    clear hno hyes h
    go_wp2_with fail
    go_ret
    exact SaysB.yes HY.out hbw
  · obtain rfl := hno h
    have HY : Hid (¬ ImplOk ts) := h
    clear hno hyes h
    go_wp2_with fail
    go_ret
    exact SaysB.no HY.out hbw
end Go.Proofs.Ytpmagndofiaooaa
