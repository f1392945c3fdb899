import Derived.Test.YtdieplpegkiolaaGBL
import Derived.Test.YtdieplpegkiolaaGBF
namespace Go.Proofs.Ytdieplpegkiolaa
open Go.RowKit
set_option linter.unusedVariables false
set_option linter.unusedSimpArgs false
set_option maxRecDepth 100000

theorem l7Err_any (x : Int) (w : World) : Calls Try.prog 12 #[.int .i64 x] w fun e w' => e = .returned (.agg #[.int .i64 x, .int .i64 0, .int .i64 0, .int .i64 0, .int .i64 0, .slice none 0 0]) ∧ Below w.heap.size w w' := by
  have hb0 : Below w.heap.size w (w.alloc (.cells #[.int .i64 x, .int .i64 0, .int .i64 0, .int .i64 0, .int .i64 0, .slice none 0 0] 27)) := (Below.refl _ _).alloc (Nat.le_refl _) _
  have k0 := heap_alloc_new w (.cells #[.int .i64 x, .int .i64 0, .int .i64 0, .int .i64 0, .int .i64 0, .slice none 0 0] 27)
  obtain ⟨x0, x1, x2, x3, x4, x5⟩ := box_sixS k0
  go_enter Try.func12, Try.ntmps12
  go_wp2_with fail
  exact bodyPost_ret (v := .agg #[.int .i64 x, .int .i64 0, .int .i64 0, .int .i64 0, .int .i64 0, .slice none 0 0]) (by simp [results, Try.results12, go_sem, x0, x1, x2, x3, x4, x5]) rfl ⟨rfl, hb0⟩
def hdOkD (id tx base root cnt : Int) : Bool := inB 1 2000000000 id && inB 1 2000000000 tx && inB 0 (tx - 1) base && inB 2 999 root && decide (cnt ≤ 1000)
theorem get_low4 {w : World} {A B g o n c : Nat} {xs : List Int} (h : BytesAt w A B (some ⟨g, o, none⟩) n c xs) (k : Nat) (hk : k + 4 ≤ n) (hn : 0 < n) : Calls Try.prog 15 #[.slice (some ⟨g, o + k, none⟩) 4 (c - k), .bool false] w fun e w' => e = .returned (.int .i64 (leN ((xs.drop k).take 4))) ∧ w' = w :=
  l2Get_low _ 4 _ (by omega) _ w A B (bytesAt_sub h k 4 hk hn)
theorem get_low0 {w : World} {A B g o n c : Nat} {xs : List Int} (h : BytesAt w A B (some ⟨g, o, none⟩) n c xs) (hk : 4 ≤ n) : Calls Try.prog 15 #[.slice (some ⟨g, o, none⟩) 4 c, .bool false] w fun e w' => e = .returned (.int .i64 (leN (xs.take 4))) ∧ w' = w := by
  have := get_low4 h 0 (by omega) (by omega)
  simpa using this
theorem le4_range {xs : List Int} (h : ∀ x ∈ xs, 0 ≤ x ∧ x ≤ 255) (k : Nat) : 0 ≤ leN ((xs.drop k).take 4) ∧ leN ((xs.drop k).take 4) < 4294967296 := by
  have := leN_range ((xs.drop k).take 4) (fun x hx => h x (List.mem_of_mem_drop (List.mem_of_mem_take hx)))
  have h4 : ((xs.drop k).take 4).length ≤ 4 := by simp; omega
  have e : (256 : Int) ^ ((xs.drop k).take 4).length ≤ 4294967296 := by
    have : ((xs.drop k).take 4).length = 0 ∨ ((xs.drop k).take 4).length = 1 ∨ ((xs.drop k).take 4).length = 2 ∨ ((xs.drop k).take 4).length = 3 ∨ ((xs.drop k).take 4).length = 4 := by omega
    rcases this with h | h | h | h | h <;> rw [h] <;> decide
  omega
set_option maxHeartbeats 4000000 in
theorem l7Head_any (g o c : Nat) (xs : List Int) (w : World) (A B : Nat) (hB : B ≤ w.heap.size) (hb : BytesAt w A B (some ⟨g, o, none⟩) 20 c xs) :
    Calls Try.prog 13 #[.slice (some ⟨g, o, none⟩) 20 c] w fun e w' => e = .returned (.tuple #[.agg #[.int .i64 (leN (xs.take 4)), .int .i64 (leN ((xs.drop 4).take 4)), .int .i64 (leN ((xs.drop 8).take 4)), .int .i64 (leN ((xs.drop 12).take 4)), .slice none 0 0], .int .i64 (leN ((xs.drop 16).take 4)), .bool (hdOkD (leN (xs.take 4)) (leN ((xs.drop 4).take 4)) (leN ((xs.drop 8).take 4)) (leN ((xs.drop 12).take 4)) (leN ((xs.drop 16).take 4)))]) ∧ Below w.heap.size w w' := by
  have hcc := hb.2.1
  have hcm := hb.2.2.1
  have hby := hb.2.2.2.1
  have r1 := le4_range hby 0
  have r2 := le4_range hby 4
  have r3 := le4_range hby 8
  have r4 := le4_range hby 12
  have r5 := le4_range hby 16
  simp only [List.drop_zero] at r1
  have HB : Hid (∀ W, Below w.heap.size w W → BytesAt W A B (some ⟨g, o, none⟩) 20 c xs) := fun W hW => hb.below (hW.mono hB)
  unfold maxLen at hcm
  clear hb hby
  obtain ⟨id, hid⟩ : ∃ x, x = leN (xs.take 4) := ⟨_, rfl⟩
  obtain ⟨tx, htx⟩ : ∃ x, x = leN ((xs.drop 4).take 4) := ⟨_, rfl⟩
  obtain ⟨ba, hba⟩ : ∃ x, x = leN ((xs.drop 8).take 4) := ⟨_, rfl⟩
  obtain ⟨rt, hrt⟩ : ∃ x, x = leN ((xs.drop 12).take 4) := ⟨_, rfl⟩
  obtain ⟨ct, hct⟩ : ∃ x, x = leN ((xs.drop 16).take 4) := ⟨_, rfl⟩
  rw [← hid] at r1 ⊢
  rw [← htx] at r2 ⊢
  rw [← hba] at r3 ⊢
  rw [← hrt] at r4 ⊢
  rw [← hct] at r5 ⊢
  have HC1 : Hid (∀ W, Below w.heap.size w W → Calls Try.prog 15 #[.slice (some ⟨g, o, none⟩) 4 c, .bool false] W fun e w' => e = .returned (.int .i64 id) ∧ w' = W) := fun W hW => by rw [hid]; exact get_low0 (HB.out W hW) (by omega)
  have HC2 : Hid (∀ W, Below w.heap.size w W → Calls Try.prog 15 #[.slice (some ⟨g, o + 4, none⟩) 4 (c - 4), .bool false] W fun e w' => e = .returned (.int .i64 tx) ∧ w' = W) := fun W hW => by rw [htx]; exact get_low4 (HB.out W hW) 4 (by omega) (by omega)
  have HC3 : Hid (∀ W, Below w.heap.size w W → Calls Try.prog 15 #[.slice (some ⟨g, o + 8, none⟩) 4 (c - 8), .bool false] W fun e w' => e = .returned (.int .i64 ba) ∧ w' = W) := fun W hW => by rw [hba]; exact get_low4 (HB.out W hW) 8 (by omega) (by omega)
  have HC4 : Hid (∀ W, Below w.heap.size w W → Calls Try.prog 15 #[.slice (some ⟨g, o + 12, none⟩) 4 (c - 12), .bool false] W fun e w' => e = .returned (.int .i64 rt) ∧ w' = W) := fun W hW => by rw [hrt]; exact get_low4 (HB.out W hW) 12 (by omega) (by omega)
  have HC5 : Hid (∀ W, Below w.heap.size w W → Calls Try.prog 15 #[.slice (some ⟨g, o + 16, none⟩) 4 (c - 16), .bool false] W fun e w' => e = .returned (.int .i64 ct) ∧ w' = W) := fun W hW => by rw [hct]; exact get_low4 (HB.out W hW) 16 (by omega) (by omega)
  clear hid htx hba hrt hct HB
  have c4 : ¬ c = 4 := by omega
  have c8 : ¬ c = 8 := by omega
  have c12 : ¬ c = 12 := by omega
  have c16 : ¬ c = 16 := by omega
  have hb0 : Below w.heap.size w (w.alloc (.cells #[.int .i64 0, .int .i64 0, .int .i64 0, .int .i64 0, .slice none 0 0] 25)) := (Below.refl _ _).alloc (Nat.le_refl _) _
  have k0 := heap_alloc_new w (.cells #[.int .i64 0, .int .i64 0, .int .i64 0, .int .i64 0, .slice none 0 0] 25)
  go_enter Try.func13, Try.ntmps13
  go_upto_region 1 with fail
  generalize w.alloc (.cells #[.int .i64 0, .int .i64 0, .int .i64 0, .int .i64 0, .slice none 0 0] 25) = V at hb0 k0 ⊢
  have lV : w.heap.size < V.heap.size := (Array.getElem?_eq_some_iff.1 k0).1
  go_cut [5] (fun p wx => ∃ Z, p = .pointer (some ⟨Z, 0, none⟩) ∧ Hid (V.heap.size ≤ Z ∧ wx.heap[Z]? = some (.cells #[.int .i64 id, .int .i64 tx, .int .i64 ba, .int .i64 rt, .slice none 0 0] 25) ∧ Below V.heap.size V wx))
  case first =>
    go_wp2_with fail
    have hbc_ : Below V.heap.size V V.drew := (Below.refl _ _).drew
    refine wp_region_noPanic ?_
    refine wp_region_held_drew (S := (fun w' : World => Below V.heap.size V w')) (by kernel_rfl) (hbc_) (fun hHeld => ?_)
    clear hHeld
    generalize V.drew = V1 at hbc_ ⊢
    have hHeld := hbc_
    refine wpAnyH_take (i := 0) (oi := { dst := some 8, op := Op.move (Operand.tmp 0), type := 22, pos := "l7_restore.go:7", after := #[], guard := none }) (v := .slice (some ⟨g, o, none⟩) 20 c) rfl (by kernel_rfl) (by kernel_rfl) (by kernel_rfl) (fun _ _ _ h => h) (Or.inl ⟨by rfl, ?_⟩) (by assumption) ?_
    · intro wq hSw; (try dsimp only at hSw); go_simp
    try simp only [Act.put, List.setIfInBounds_toArray, List.set_cons_zero, List.set_cons_succ]
    refine wpAnyH_take (i := 1) (oi := { dst := some 9, op := Op.slice 22 (Operand.tmp 8) none (some (Operand.const (Value.int IntKind.i64 4))) none, type := 22, pos := "l7_restore.go:7", after := #[{ on := 0, ground := Ground.data }], guard := none }) (v := .slice (some ⟨g, o, none⟩) 4 (c)) rfl (by kernel_rfl) (by kernel_rfl) (by kernel_rfl) (fun _ _ _ h => h) (Or.inl ⟨by rfl, ?_⟩) (by assumption) ?_
    · intro wq hSw; (try dsimp only at hSw); go_simp; (try omega)
    try simp only [Act.put, List.setIfInBounds_toArray, List.set_cons_zero, List.set_cons_succ]
    refine wpAnyH_take (i := 3) (oi := { dst := some 11, op := Op.move (Operand.tmp 0), type := 22, pos := "l7_restore.go:7", after := #[], guard := none }) (v := .slice (some ⟨g, o, none⟩) 20 c) rfl (by kernel_rfl) (by kernel_rfl) (by kernel_rfl) (fun _ _ _ h => h) (Or.inl ⟨by rfl, ?_⟩) (by assumption) ?_
    · intro wq hSw; (try dsimp only at hSw); go_simp
    try simp only [Act.put, List.setIfInBounds_toArray, List.set_cons_zero, List.set_cons_succ]
    refine wpAnyH_take (i := 4) (oi := { dst := some 12, op := Op.slice 22 (Operand.tmp 11) (some (Operand.const (Value.int IntKind.i64 4))) (some (Operand.const (Value.int IntKind.i64 8))) none, type := 22, pos := "l7_restore.go:7", after := #[{ on := 3, ground := Ground.data }], guard := none }) (v := .slice (some ⟨g, o + 4, none⟩) 4 (c - 4)) rfl (by kernel_rfl) (by kernel_rfl) (by kernel_rfl) (fun _ _ _ h => h) (Or.inl ⟨by rfl, ?_⟩) (by assumption) ?_
    · intro wq hSw; (try dsimp only at hSw); go_simp; (try omega)
    try simp only [Act.put, List.setIfInBounds_toArray, List.set_cons_zero, List.set_cons_succ]
    refine wpAnyH_take (i := 6) (oi := { dst := some 14, op := Op.move (Operand.tmp 0), type := 22, pos := "l7_restore.go:7", after := #[], guard := none }) (v := .slice (some ⟨g, o, none⟩) 20 c) rfl (by kernel_rfl) (by kernel_rfl) (by kernel_rfl) (fun _ _ _ h => h) (Or.inl ⟨by rfl, ?_⟩) (by assumption) ?_
    · intro wq hSw; (try dsimp only at hSw); go_simp
    try simp only [Act.put, List.setIfInBounds_toArray, List.set_cons_zero, List.set_cons_succ]
    refine wpAnyH_take (i := 7) (oi := { dst := some 15, op := Op.slice 22 (Operand.tmp 14) (some (Operand.const (Value.int IntKind.i64 8))) (some (Operand.const (Value.int IntKind.i64 12))) none, type := 22, pos := "l7_restore.go:7", after := #[{ on := 6, ground := Ground.data }], guard := none }) (v := .slice (some ⟨g, o + 8, none⟩) 4 (c - 8)) rfl (by kernel_rfl) (by kernel_rfl) (by kernel_rfl) (fun _ _ _ h => h) (Or.inl ⟨by rfl, ?_⟩) (by assumption) ?_
    · intro wq hSw; (try dsimp only at hSw); go_simp; (try omega)
    try simp only [Act.put, List.setIfInBounds_toArray, List.set_cons_zero, List.set_cons_succ]
    refine wpAnyH_take (i := 9) (oi := { dst := some 17, op := Op.move (Operand.tmp 0), type := 22, pos := "l7_restore.go:7", after := #[], guard := none }) (v := .slice (some ⟨g, o, none⟩) 20 c) rfl (by kernel_rfl) (by kernel_rfl) (by kernel_rfl) (fun _ _ _ h => h) (Or.inl ⟨by rfl, ?_⟩) (by assumption) ?_
    · intro wq hSw; (try dsimp only at hSw); go_simp
    try simp only [Act.put, List.setIfInBounds_toArray, List.set_cons_zero, List.set_cons_succ]
    refine wpAnyH_take (i := 10) (oi := { dst := some 18, op := Op.slice 22 (Operand.tmp 17) (some (Operand.const (Value.int IntKind.i64 12))) (some (Operand.const (Value.int IntKind.i64 16))) none, type := 22, pos := "l7_restore.go:7", after := #[{ on := 9, ground := Ground.data }], guard := none }) (v := .slice (some ⟨g, o + 12, none⟩) 4 (c - 12)) rfl (by kernel_rfl) (by kernel_rfl) (by kernel_rfl) (fun _ _ _ h => h) (Or.inl ⟨by rfl, ?_⟩) (by assumption) ?_
    · intro wq hSw; (try dsimp only at hSw); go_simp; (try omega)
    try simp only [Act.put, List.setIfInBounds_toArray, List.set_cons_zero, List.set_cons_succ]
    refine wpAnyH_ready (rs := [2, 13]) (by kernel_rfl) (by simp) ?_
    refine AllReadyH.cons (o := { dst := some 10, op := Op.call { callee := Callee.value (Operand.func 15), args := #[Operand.tmp 9, Operand.const (Value.bool false)], argTypes := #[22, 4] }, type := 2, pos := "l7_restore.go:7", after := #[{ on := 1, ground := Ground.data }], guard := none }) rfl (fun K hK => ?_) ?_
    rotate_left 1
    refine AllReadyH.cons (o := { dst := some 5, op := Op.alloc 25, type := 0, pos := "l7_restore.go:7", after := #[], guard := none }) rfl (fun K hK => ?_) ?_
    rotate_left 1
    exact AllReadyH.nil
    · go_simp
      refine (HC1.out V1 (hb0.trans (hbc_.mono hb0.size))).mono ?_
      rintro e wy0 ⟨rfl, ey⟩
      rw [ey]
      clear ey
      go_wp2_with fail
      refine hK.out _ _ (hbc_) (fun hHeld => ?_)
      clear hK K
      try simp only [Act.put, List.setIfInBounds_toArray, List.set_cons_zero, List.set_cons_succ]
      refine wpAnyH_ready (rs := [5, 13]) (by kernel_rfl) (by simp) ?_
      refine AllReadyH.cons (o := { dst := some 13, op := Op.call { callee := Callee.value (Operand.func 15), args := #[Operand.tmp 12, Operand.const (Value.bool false)], argTypes := #[22, 4] }, type := 2, pos := "l7_restore.go:7", after := #[{ on := 4, ground := Ground.data }, { on := 2, ground := Ground.chain }], guard := none }) rfl (fun K hK => ?_) ?_
      rotate_left 1
      refine AllReadyH.cons (o := { dst := some 5, op := Op.alloc 25, type := 0, pos := "l7_restore.go:7", after := #[], guard := none }) rfl (fun K hK => ?_) ?_
      rotate_left 1
      exact AllReadyH.nil
      · go_simp
        refine (HC2.out V1 (hb0.trans (hbc_.mono hb0.size))).mono ?_
        rintro e wy1 ⟨rfl, ey⟩
        rw [ey]
        clear ey
        go_wp2_with fail
        refine hK.out _ _ (hbc_) (fun hHeld => ?_)
        clear hK K
        try simp only [Act.put, List.setIfInBounds_toArray, List.set_cons_zero, List.set_cons_succ]
        refine wpAnyH_ready (rs := [8, 13]) (by kernel_rfl) (by simp) ?_
        refine AllReadyH.cons (o := { dst := some 16, op := Op.call { callee := Callee.value (Operand.func 15), args := #[Operand.tmp 15, Operand.const (Value.bool false)], argTypes := #[22, 4] }, type := 2, pos := "l7_restore.go:7", after := #[{ on := 7, ground := Ground.data }, { on := 5, ground := Ground.chain }], guard := none }) rfl (fun K hK => ?_) ?_
        rotate_left 1
        refine AllReadyH.cons (o := { dst := some 5, op := Op.alloc 25, type := 0, pos := "l7_restore.go:7", after := #[], guard := none }) rfl (fun K hK => ?_) ?_
        rotate_left 1
        exact AllReadyH.nil
        · go_simp
          refine (HC3.out V1 (hb0.trans (hbc_.mono hb0.size))).mono ?_
          rintro e wy2 ⟨rfl, ey⟩
          rw [ey]
          clear ey
          go_wp2_with fail
          refine hK.out _ _ (hbc_) (fun hHeld => ?_)
          clear hK K
          try simp only [Act.put, List.setIfInBounds_toArray, List.set_cons_zero, List.set_cons_succ]
          refine wpAnyH_ready (rs := [11, 13]) (by kernel_rfl) (by simp) ?_
          refine AllReadyH.cons (o := { dst := some 19, op := Op.call { callee := Callee.value (Operand.func 15), args := #[Operand.tmp 18, Operand.const (Value.bool false)], argTypes := #[22, 4] }, type := 2, pos := "l7_restore.go:7", after := #[{ on := 10, ground := Ground.data }, { on := 8, ground := Ground.chain }], guard := none }) rfl (fun K hK => ?_) ?_
          rotate_left 1
          refine AllReadyH.cons (o := { dst := some 5, op := Op.alloc 25, type := 0, pos := "l7_restore.go:7", after := #[], guard := none }) rfl (fun K hK => ?_) ?_
          rotate_left 1
          exact AllReadyH.nil
          · go_simp
            refine (HC4.out V1 (hb0.trans (hbc_.mono hb0.size))).mono ?_
            rintro e wy3 ⟨rfl, ey⟩
            rw [ey]
            clear ey
            go_wp2_with fail
            refine hK.out _ _ (hbc_) (fun hHeld => ?_)
            clear hK K
            try simp only [Act.put, List.setIfInBounds_toArray, List.set_cons_zero, List.set_cons_succ]
            refine wpAnyH_take (i := 12) (oi := { dst := some 20, op := Op.build 25 #[(0, Operand.tmp 10), (1, Operand.tmp 13), (2, Operand.tmp 16), (3, Operand.tmp 19)], type := 25, pos := "l7_restore.go:7", after := #[{ on := 2, ground := Ground.data }, { on := 5, ground := Ground.data }, { on := 8, ground := Ground.data }, { on := 11, ground := Ground.data }], guard := none }) (v := .agg #[.int .i64 id, .int .i64 tx, .int .i64 ba, .int .i64 rt, .slice none 0 0]) rfl (by kernel_rfl) (by kernel_rfl) (by kernel_rfl) (fun _ _ _ h => h) (Or.inl ⟨by rfl, ?_⟩) (by assumption) ?_
            · intro wq hSw; (try dsimp only at hSw); go_simp
            try simp only [Act.put, List.setIfInBounds_toArray, List.set_cons_zero, List.set_cons_succ]
            refine wpAnyH_ready (rs := [13]) (by kernel_rfl) (by simp) ?_
            refine AllReadyH.cons (o := { dst := some 5, op := Op.alloc 25, type := 0, pos := "l7_restore.go:7", after := #[], guard := none }) rfl (fun K hK => ?_) AllReadyH.nil
            go_simp
            have hZ := heap_alloc_new V1 (.cells #[.int .i64 0, .int .i64 0, .int .i64 0, .int .i64 0, .slice none 0 0] 25)
            have hbz : Below V1.heap.size V1 (V1.alloc (.cells #[.int .i64 0, .int .i64 0, .int .i64 0, .int .i64 0, .slice none 0 0] 25)) := (Below.refl _ _).alloc (Nat.le_refl _) _
            have hVZ : V.heap.size ≤ V1.heap.size := hbc_.size
            obtain ⟨Z, hZe⟩ : ∃ Z, Z = V1.heap.size := ⟨_, rfl⟩
            rw [← hZe] at hZ hVZ ⊢
            generalize V1.alloc (.cells #[.int .i64 0, .int .i64 0, .int .i64 0, .int .i64 0, .slice none 0 0] 25) = z4 at hZ hbz ⊢
            replace hbc_ := hbc_.trans (hbz.mono hbc_.size)
            clear hZe hbz
            refine hK.out _ _ (hbc_) (fun hHeld => ?_)
            clear hK K
            try simp only [Act.put, List.setIfInBounds_toArray, List.set_cons_zero, List.set_cons_succ]
            refine wpAnyH_ready (rs := [14]) (by kernel_rfl) (by simp) ?_
            refine AllReadyH.cons (o := { dst := none, op := Op.store 25 (Operand.tmp 5) (Operand.tmp 20), type := 0, pos := "l7_restore.go:7", after := #[{ on := 13, ground := Ground.data }, { on := 12, ground := Ground.data }, { on := 11, ground := Ground.chain }, { on := 0, ground := Ground.phase }, { on := 1, ground := Ground.phase }, { on := 2, ground := Ground.phase }, { on := 3, ground := Ground.phase }, { on := 4, ground := Ground.phase }, { on := 5, ground := Ground.phase }, { on := 6, ground := Ground.phase }, { on := 7, ground := Ground.phase }, { on := 8, ground := Ground.phase }, { on := 9, ground := Ground.phase }, { on := 10, ground := Ground.phase }, { on := 11, ground := Ground.phase }, { on := 12, ground := Ground.phase }, { on := 13, ground := Ground.phase }], guard := none }) rfl (fun K hK => ?_) AllReadyH.nil
            obtain ⟨y0, y1, y2, y3, y4⟩ := box_fiveC hZ
            have zl := (Array.getElem?_eq_some_iff.1 hZ).1
            have zf := box_thawC hZ
            go_simp
            have XF := put5C_box hZ (.int .i64 id) (.int .i64 tx) (.int .i64 ba) (.int .i64 rt) (.slice none 0 0)
            have HFF := put5C_fr z4 Z (.int .i64 id) (.int .i64 tx) (.int .i64 ba) (.int .i64 rt) (.slice none 0 0)
            have HFIN : Hid (V.heap.size ≤ Z ∧ (put5C z4 Z (.int .i64 id) (.int .i64 tx) (.int .i64 ba) (.int .i64 rt) (.slice none 0 0)).heap[Z]? = some (.cells #[.int .i64 id, .int .i64 tx, .int .i64 ba, .int .i64 rt, .slice none 0 0] 25) ∧ Below V.heap.size V (put5C z4 Z (.int .i64 id) (.int .i64 tx) (.int .i64 ba) (.int .i64 rt) (.slice none 0 0))) := ⟨hVZ, XF, hbc_.trans (HFF.below hbc_.size (fun q e => by omega))⟩
            refine hK.out _ _ (HFIN.out.2.2) (fun hHeld => ?_)
            clear hK K
            try simp only [Act.put, List.setIfInBounds_toArray, List.set_cons_zero, List.set_cons_succ]
            refine wpAnyH_done (by kernel_rfl) ?_ _
            refine NoPanic.normal ?_
            clear hHeld hZ hbc_ y0 y1 y2 y3 y4 zl zf XF HFF
            go_wp2_with fail
            go_meet
            exact ⟨Z, rfl, HFIN⟩
          · go_simp
            have hZ := heap_alloc_new V1 (.cells #[.int .i64 0, .int .i64 0, .int .i64 0, .int .i64 0, .slice none 0 0] 25)
            have hbz : Below V1.heap.size V1 (V1.alloc (.cells #[.int .i64 0, .int .i64 0, .int .i64 0, .int .i64 0, .slice none 0 0] 25)) := (Below.refl _ _).alloc (Nat.le_refl _) _
            have hVZ : V.heap.size ≤ V1.heap.size := hbc_.size
            obtain ⟨Z, hZe⟩ : ∃ Z, Z = V1.heap.size := ⟨_, rfl⟩
            rw [← hZe] at hZ hVZ ⊢
            generalize V1.alloc (.cells #[.int .i64 0, .int .i64 0, .int .i64 0, .int .i64 0, .slice none 0 0] 25) = z3 at hZ hbz ⊢
            replace hbc_ := hbc_.trans (hbz.mono hbc_.size)
            clear hZe hbz
            refine hK.out _ _ (hbc_) (fun hHeld => ?_)
            clear hK K
            try simp only [Act.put, List.setIfInBounds_toArray, List.set_cons_zero, List.set_cons_succ]
            refine wpAnyH_ready (rs := [11]) (by kernel_rfl) (by simp) ?_
            refine AllReadyH.cons (o := { dst := some 19, op := Op.call { callee := Callee.value (Operand.func 15), args := #[Operand.tmp 18, Operand.const (Value.bool false)], argTypes := #[22, 4] }, type := 2, pos := "l7_restore.go:7", after := #[{ on := 10, ground := Ground.data }, { on := 8, ground := Ground.chain }], guard := none }) rfl (fun K hK => ?_) AllReadyH.nil
            go_simp
            refine (HC4.out z3 (hb0.trans (hbc_.mono hb0.size))).mono ?_
            rintro e wy3 ⟨rfl, ey⟩
            rw [ey]
            clear ey
            go_wp2_with fail
            refine hK.out _ _ (hbc_) (fun hHeld => ?_)
            clear hK K
            try simp only [Act.put, List.setIfInBounds_toArray, List.set_cons_zero, List.set_cons_succ]
            refine wpAnyH_take (i := 12) (oi := { dst := some 20, op := Op.build 25 #[(0, Operand.tmp 10), (1, Operand.tmp 13), (2, Operand.tmp 16), (3, Operand.tmp 19)], type := 25, pos := "l7_restore.go:7", after := #[{ on := 2, ground := Ground.data }, { on := 5, ground := Ground.data }, { on := 8, ground := Ground.data }, { on := 11, ground := Ground.data }], guard := none }) (v := .agg #[.int .i64 id, .int .i64 tx, .int .i64 ba, .int .i64 rt, .slice none 0 0]) rfl (by kernel_rfl) (by kernel_rfl) (by kernel_rfl) (fun _ _ _ h => h) (Or.inl ⟨by rfl, ?_⟩) (by assumption) ?_
            · intro wq hSw; (try dsimp only at hSw); go_simp
            try simp only [Act.put, List.setIfInBounds_toArray, List.set_cons_zero, List.set_cons_succ]
            refine wpAnyH_ready (rs := [14]) (by kernel_rfl) (by simp) ?_
            refine AllReadyH.cons (o := { dst := none, op := Op.store 25 (Operand.tmp 5) (Operand.tmp 20), type := 0, pos := "l7_restore.go:7", after := #[{ on := 13, ground := Ground.data }, { on := 12, ground := Ground.data }, { on := 11, ground := Ground.chain }, { on := 0, ground := Ground.phase }, { on := 1, ground := Ground.phase }, { on := 2, ground := Ground.phase }, { on := 3, ground := Ground.phase }, { on := 4, ground := Ground.phase }, { on := 5, ground := Ground.phase }, { on := 6, ground := Ground.phase }, { on := 7, ground := Ground.phase }, { on := 8, ground := Ground.phase }, { on := 9, ground := Ground.phase }, { on := 10, ground := Ground.phase }, { on := 11, ground := Ground.phase }, { on := 12, ground := Ground.phase }, { on := 13, ground := Ground.phase }], guard := none }) rfl (fun K hK => ?_) AllReadyH.nil
            obtain ⟨y0, y1, y2, y3, y4⟩ := box_fiveC hZ
            have zl := (Array.getElem?_eq_some_iff.1 hZ).1
            have zf := box_thawC hZ
            go_simp
            have XF := put5C_box hZ (.int .i64 id) (.int .i64 tx) (.int .i64 ba) (.int .i64 rt) (.slice none 0 0)
            have HFF := put5C_fr z3 Z (.int .i64 id) (.int .i64 tx) (.int .i64 ba) (.int .i64 rt) (.slice none 0 0)
            have HFIN : Hid (V.heap.size ≤ Z ∧ (put5C z3 Z (.int .i64 id) (.int .i64 tx) (.int .i64 ba) (.int .i64 rt) (.slice none 0 0)).heap[Z]? = some (.cells #[.int .i64 id, .int .i64 tx, .int .i64 ba, .int .i64 rt, .slice none 0 0] 25) ∧ Below V.heap.size V (put5C z3 Z (.int .i64 id) (.int .i64 tx) (.int .i64 ba) (.int .i64 rt) (.slice none 0 0))) := ⟨hVZ, XF, hbc_.trans (HFF.below hbc_.size (fun q e => by omega))⟩
            refine hK.out _ _ (HFIN.out.2.2) (fun hHeld => ?_)
            clear hK K
            try simp only [Act.put, List.setIfInBounds_toArray, List.set_cons_zero, List.set_cons_succ]
            refine wpAnyH_done (by kernel_rfl) ?_ _
            refine NoPanic.normal ?_
            clear hHeld hZ hbc_ y0 y1 y2 y3 y4 zl zf XF HFF
            go_wp2_with fail
            go_meet
            exact ⟨Z, rfl, HFIN⟩
        · go_simp
          have hZ := heap_alloc_new V1 (.cells #[.int .i64 0, .int .i64 0, .int .i64 0, .int .i64 0, .slice none 0 0] 25)
          have hbz : Below V1.heap.size V1 (V1.alloc (.cells #[.int .i64 0, .int .i64 0, .int .i64 0, .int .i64 0, .slice none 0 0] 25)) := (Below.refl _ _).alloc (Nat.le_refl _) _
          have hVZ : V.heap.size ≤ V1.heap.size := hbc_.size
          obtain ⟨Z, hZe⟩ : ∃ Z, Z = V1.heap.size := ⟨_, rfl⟩
          rw [← hZe] at hZ hVZ ⊢
          generalize V1.alloc (.cells #[.int .i64 0, .int .i64 0, .int .i64 0, .int .i64 0, .slice none 0 0] 25) = z2 at hZ hbz ⊢
          replace hbc_ := hbc_.trans (hbz.mono hbc_.size)
          clear hZe hbz
          refine hK.out _ _ (hbc_) (fun hHeld => ?_)
          clear hK K
          try simp only [Act.put, List.setIfInBounds_toArray, List.set_cons_zero, List.set_cons_succ]
          refine wpAnyH_ready (rs := [8]) (by kernel_rfl) (by simp) ?_
          refine AllReadyH.cons (o := { dst := some 16, op := Op.call { callee := Callee.value (Operand.func 15), args := #[Operand.tmp 15, Operand.const (Value.bool false)], argTypes := #[22, 4] }, type := 2, pos := "l7_restore.go:7", after := #[{ on := 7, ground := Ground.data }, { on := 5, ground := Ground.chain }], guard := none }) rfl (fun K hK => ?_) AllReadyH.nil
          go_simp
          refine (HC3.out z2 (hb0.trans (hbc_.mono hb0.size))).mono ?_
          rintro e wy2 ⟨rfl, ey⟩
          rw [ey]
          clear ey
          go_wp2_with fail
          refine hK.out _ _ (hbc_) (fun hHeld => ?_)
          clear hK K
          try simp only [Act.put, List.setIfInBounds_toArray, List.set_cons_zero, List.set_cons_succ]
          refine wpAnyH_ready (rs := [11]) (by kernel_rfl) (by simp) ?_
          refine AllReadyH.cons (o := { dst := some 19, op := Op.call { callee := Callee.value (Operand.func 15), args := #[Operand.tmp 18, Operand.const (Value.bool false)], argTypes := #[22, 4] }, type := 2, pos := "l7_restore.go:7", after := #[{ on := 10, ground := Ground.data }, { on := 8, ground := Ground.chain }], guard := none }) rfl (fun K hK => ?_) AllReadyH.nil
          go_simp
          refine (HC4.out z2 (hb0.trans (hbc_.mono hb0.size))).mono ?_
          rintro e wy3 ⟨rfl, ey⟩
          rw [ey]
          clear ey
          go_wp2_with fail
          refine hK.out _ _ (hbc_) (fun hHeld => ?_)
          clear hK K
          try simp only [Act.put, List.setIfInBounds_toArray, List.set_cons_zero, List.set_cons_succ]
          refine wpAnyH_take (i := 12) (oi := { dst := some 20, op := Op.build 25 #[(0, Operand.tmp 10), (1, Operand.tmp 13), (2, Operand.tmp 16), (3, Operand.tmp 19)], type := 25, pos := "l7_restore.go:7", after := #[{ on := 2, ground := Ground.data }, { on := 5, ground := Ground.data }, { on := 8, ground := Ground.data }, { on := 11, ground := Ground.data }], guard := none }) (v := .agg #[.int .i64 id, .int .i64 tx, .int .i64 ba, .int .i64 rt, .slice none 0 0]) rfl (by kernel_rfl) (by kernel_rfl) (by kernel_rfl) (fun _ _ _ h => h) (Or.inl ⟨by rfl, ?_⟩) (by assumption) ?_
          · intro wq hSw; (try dsimp only at hSw); go_simp
          try simp only [Act.put, List.setIfInBounds_toArray, List.set_cons_zero, List.set_cons_succ]
          refine wpAnyH_ready (rs := [14]) (by kernel_rfl) (by simp) ?_
          refine AllReadyH.cons (o := { dst := none, op := Op.store 25 (Operand.tmp 5) (Operand.tmp 20), type := 0, pos := "l7_restore.go:7", after := #[{ on := 13, ground := Ground.data }, { on := 12, ground := Ground.data }, { on := 11, ground := Ground.chain }, { on := 0, ground := Ground.phase }, { on := 1, ground := Ground.phase }, { on := 2, ground := Ground.phase }, { on := 3, ground := Ground.phase }, { on := 4, ground := Ground.phase }, { on := 5, ground := Ground.phase }, { on := 6, ground := Ground.phase }, { on := 7, ground := Ground.phase }, { on := 8, ground := Ground.phase }, { on := 9, ground := Ground.phase }, { on := 10, ground := Ground.phase }, { on := 11, ground := Ground.phase }, { on := 12, ground := Ground.phase }, { on := 13, ground := Ground.phase }], guard := none }) rfl (fun K hK => ?_) AllReadyH.nil
          obtain ⟨y0, y1, y2, y3, y4⟩ := box_fiveC hZ
          have zl := (Array.getElem?_eq_some_iff.1 hZ).1
          have zf := box_thawC hZ
          go_simp
          have XF := put5C_box hZ (.int .i64 id) (.int .i64 tx) (.int .i64 ba) (.int .i64 rt) (.slice none 0 0)
          have HFF := put5C_fr z2 Z (.int .i64 id) (.int .i64 tx) (.int .i64 ba) (.int .i64 rt) (.slice none 0 0)
          have HFIN : Hid (V.heap.size ≤ Z ∧ (put5C z2 Z (.int .i64 id) (.int .i64 tx) (.int .i64 ba) (.int .i64 rt) (.slice none 0 0)).heap[Z]? = some (.cells #[.int .i64 id, .int .i64 tx, .int .i64 ba, .int .i64 rt, .slice none 0 0] 25) ∧ Below V.heap.size V (put5C z2 Z (.int .i64 id) (.int .i64 tx) (.int .i64 ba) (.int .i64 rt) (.slice none 0 0))) := ⟨hVZ, XF, hbc_.trans (HFF.below hbc_.size (fun q e => by omega))⟩
          refine hK.out _ _ (HFIN.out.2.2) (fun hHeld => ?_)
          clear hK K
          try simp only [Act.put, List.setIfInBounds_toArray, List.set_cons_zero, List.set_cons_succ]
          refine wpAnyH_done (by kernel_rfl) ?_ _
          refine NoPanic.normal ?_
          clear hHeld hZ hbc_ y0 y1 y2 y3 y4 zl zf XF HFF
          go_wp2_with fail
          go_meet
          exact ⟨Z, rfl, HFIN⟩
      · go_simp
        have hZ := heap_alloc_new V1 (.cells #[.int .i64 0, .int .i64 0, .int .i64 0, .int .i64 0, .slice none 0 0] 25)
        have hbz : Below V1.heap.size V1 (V1.alloc (.cells #[.int .i64 0, .int .i64 0, .int .i64 0, .int .i64 0, .slice none 0 0] 25)) := (Below.refl _ _).alloc (Nat.le_refl _) _
        have hVZ : V.heap.size ≤ V1.heap.size := hbc_.size
        obtain ⟨Z, hZe⟩ : ∃ Z, Z = V1.heap.size := ⟨_, rfl⟩
        rw [← hZe] at hZ hVZ ⊢
        generalize V1.alloc (.cells #[.int .i64 0, .int .i64 0, .int .i64 0, .int .i64 0, .slice none 0 0] 25) = z1 at hZ hbz ⊢
        replace hbc_ := hbc_.trans (hbz.mono hbc_.size)
        clear hZe hbz
        refine hK.out _ _ (hbc_) (fun hHeld => ?_)
        clear hK K
        try simp only [Act.put, List.setIfInBounds_toArray, List.set_cons_zero, List.set_cons_succ]
        refine wpAnyH_ready (rs := [5]) (by kernel_rfl) (by simp) ?_
        refine AllReadyH.cons (o := { dst := some 13, op := Op.call { callee := Callee.value (Operand.func 15), args := #[Operand.tmp 12, Operand.const (Value.bool false)], argTypes := #[22, 4] }, type := 2, pos := "l7_restore.go:7", after := #[{ on := 4, ground := Ground.data }, { on := 2, ground := Ground.chain }], guard := none }) rfl (fun K hK => ?_) AllReadyH.nil
        go_simp
        refine (HC2.out z1 (hb0.trans (hbc_.mono hb0.size))).mono ?_
        rintro e wy1 ⟨rfl, ey⟩
        rw [ey]
        clear ey
        go_wp2_with fail
        refine hK.out _ _ (hbc_) (fun hHeld => ?_)
        clear hK K
        try simp only [Act.put, List.setIfInBounds_toArray, List.set_cons_zero, List.set_cons_succ]
        refine wpAnyH_ready (rs := [8]) (by kernel_rfl) (by simp) ?_
        refine AllReadyH.cons (o := { dst := some 16, op := Op.call { callee := Callee.value (Operand.func 15), args := #[Operand.tmp 15, Operand.const (Value.bool false)], argTypes := #[22, 4] }, type := 2, pos := "l7_restore.go:7", after := #[{ on := 7, ground := Ground.data }, { on := 5, ground := Ground.chain }], guard := none }) rfl (fun K hK => ?_) AllReadyH.nil
        go_simp
        refine (HC3.out z1 (hb0.trans (hbc_.mono hb0.size))).mono ?_
        rintro e wy2 ⟨rfl, ey⟩
        rw [ey]
        clear ey
        go_wp2_with fail
        refine hK.out _ _ (hbc_) (fun hHeld => ?_)
        clear hK K
        try simp only [Act.put, List.setIfInBounds_toArray, List.set_cons_zero, List.set_cons_succ]
        refine wpAnyH_ready (rs := [11]) (by kernel_rfl) (by simp) ?_
        refine AllReadyH.cons (o := { dst := some 19, op := Op.call { callee := Callee.value (Operand.func 15), args := #[Operand.tmp 18, Operand.const (Value.bool false)], argTypes := #[22, 4] }, type := 2, pos := "l7_restore.go:7", after := #[{ on := 10, ground := Ground.data }, { on := 8, ground := Ground.chain }], guard := none }) rfl (fun K hK => ?_) AllReadyH.nil
        go_simp
        refine (HC4.out z1 (hb0.trans (hbc_.mono hb0.size))).mono ?_
        rintro e wy3 ⟨rfl, ey⟩
        rw [ey]
        clear ey
        go_wp2_with fail
        refine hK.out _ _ (hbc_) (fun hHeld => ?_)
        clear hK K
        try simp only [Act.put, List.setIfInBounds_toArray, List.set_cons_zero, List.set_cons_succ]
        refine wpAnyH_take (i := 12) (oi := { dst := some 20, op := Op.build 25 #[(0, Operand.tmp 10), (1, Operand.tmp 13), (2, Operand.tmp 16), (3, Operand.tmp 19)], type := 25, pos := "l7_restore.go:7", after := #[{ on := 2, ground := Ground.data }, { on := 5, ground := Ground.data }, { on := 8, ground := Ground.data }, { on := 11, ground := Ground.data }], guard := none }) (v := .agg #[.int .i64 id, .int .i64 tx, .int .i64 ba, .int .i64 rt, .slice none 0 0]) rfl (by kernel_rfl) (by kernel_rfl) (by kernel_rfl) (fun _ _ _ h => h) (Or.inl ⟨by rfl, ?_⟩) (by assumption) ?_
        · intro wq hSw; (try dsimp only at hSw); go_simp
        try simp only [Act.put, List.setIfInBounds_toArray, List.set_cons_zero, List.set_cons_succ]
        refine wpAnyH_ready (rs := [14]) (by kernel_rfl) (by simp) ?_
        refine AllReadyH.cons (o := { dst := none, op := Op.store 25 (Operand.tmp 5) (Operand.tmp 20), type := 0, pos := "l7_restore.go:7", after := #[{ on := 13, ground := Ground.data }, { on := 12, ground := Ground.data }, { on := 11, ground := Ground.chain }, { on := 0, ground := Ground.phase }, { on := 1, ground := Ground.phase }, { on := 2, ground := Ground.phase }, { on := 3, ground := Ground.phase }, { on := 4, ground := Ground.phase }, { on := 5, ground := Ground.phase }, { on := 6, ground := Ground.phase }, { on := 7, ground := Ground.phase }, { on := 8, ground := Ground.phase }, { on := 9, ground := Ground.phase }, { on := 10, ground := Ground.phase }, { on := 11, ground := Ground.phase }, { on := 12, ground := Ground.phase }, { on := 13, ground := Ground.phase }], guard := none }) rfl (fun K hK => ?_) AllReadyH.nil
        obtain ⟨y0, y1, y2, y3, y4⟩ := box_fiveC hZ
        have zl := (Array.getElem?_eq_some_iff.1 hZ).1
        have zf := box_thawC hZ
        go_simp
        have XF := put5C_box hZ (.int .i64 id) (.int .i64 tx) (.int .i64 ba) (.int .i64 rt) (.slice none 0 0)
        have HFF := put5C_fr z1 Z (.int .i64 id) (.int .i64 tx) (.int .i64 ba) (.int .i64 rt) (.slice none 0 0)
        have HFIN : Hid (V.heap.size ≤ Z ∧ (put5C z1 Z (.int .i64 id) (.int .i64 tx) (.int .i64 ba) (.int .i64 rt) (.slice none 0 0)).heap[Z]? = some (.cells #[.int .i64 id, .int .i64 tx, .int .i64 ba, .int .i64 rt, .slice none 0 0] 25) ∧ Below V.heap.size V (put5C z1 Z (.int .i64 id) (.int .i64 tx) (.int .i64 ba) (.int .i64 rt) (.slice none 0 0))) := ⟨hVZ, XF, hbc_.trans (HFF.below hbc_.size (fun q e => by omega))⟩
        refine hK.out _ _ (HFIN.out.2.2) (fun hHeld => ?_)
        clear hK K
        try simp only [Act.put, List.setIfInBounds_toArray, List.set_cons_zero, List.set_cons_succ]
        refine wpAnyH_done (by kernel_rfl) ?_ _
        refine NoPanic.normal ?_
        clear hHeld hZ hbc_ y0 y1 y2 y3 y4 zl zf XF HFF
        go_wp2_with fail
        go_meet
        exact ⟨Z, rfl, HFIN⟩
    · go_simp
      have hZ := heap_alloc_new V1 (.cells #[.int .i64 0, .int .i64 0, .int .i64 0, .int .i64 0, .slice none 0 0] 25)
      have hbz : Below V1.heap.size V1 (V1.alloc (.cells #[.int .i64 0, .int .i64 0, .int .i64 0, .int .i64 0, .slice none 0 0] 25)) := (Below.refl _ _).alloc (Nat.le_refl _) _
      have hVZ : V.heap.size ≤ V1.heap.size := hbc_.size
      obtain ⟨Z, hZe⟩ : ∃ Z, Z = V1.heap.size := ⟨_, rfl⟩
      rw [← hZe] at hZ hVZ ⊢
      generalize V1.alloc (.cells #[.int .i64 0, .int .i64 0, .int .i64 0, .int .i64 0, .slice none 0 0] 25) = z0 at hZ hbz ⊢
      replace hbc_ := hbc_.trans (hbz.mono hbc_.size)
      clear hZe hbz
      refine hK.out _ _ (hbc_) (fun hHeld => ?_)
      clear hK K
      try simp only [Act.put, List.setIfInBounds_toArray, List.set_cons_zero, List.set_cons_succ]
      refine wpAnyH_ready (rs := [2]) (by kernel_rfl) (by simp) ?_
      refine AllReadyH.cons (o := { dst := some 10, op := Op.call { callee := Callee.value (Operand.func 15), args := #[Operand.tmp 9, Operand.const (Value.bool false)], argTypes := #[22, 4] }, type := 2, pos := "l7_restore.go:7", after := #[{ on := 1, ground := Ground.data }], guard := none }) rfl (fun K hK => ?_) AllReadyH.nil
      go_simp
      refine (HC1.out z0 (hb0.trans (hbc_.mono hb0.size))).mono ?_
      rintro e wy0 ⟨rfl, ey⟩
      rw [ey]
      clear ey
      go_wp2_with fail
      refine hK.out _ _ (hbc_) (fun hHeld => ?_)
      clear hK K
      try simp only [Act.put, List.setIfInBounds_toArray, List.set_cons_zero, List.set_cons_succ]
      refine wpAnyH_ready (rs := [5]) (by kernel_rfl) (by simp) ?_
      refine AllReadyH.cons (o := { dst := some 13, op := Op.call { callee := Callee.value (Operand.func 15), args := #[Operand.tmp 12, Operand.const (Value.bool false)], argTypes := #[22, 4] }, type := 2, pos := "l7_restore.go:7", after := #[{ on := 4, ground := Ground.data }, { on := 2, ground := Ground.chain }], guard := none }) rfl (fun K hK => ?_) AllReadyH.nil
      go_simp
      refine (HC2.out z0 (hb0.trans (hbc_.mono hb0.size))).mono ?_
      rintro e wy1 ⟨rfl, ey⟩
      rw [ey]
      clear ey
      go_wp2_with fail
      refine hK.out _ _ (hbc_) (fun hHeld => ?_)
      clear hK K
      try simp only [Act.put, List.setIfInBounds_toArray, List.set_cons_zero, List.set_cons_succ]
      refine wpAnyH_ready (rs := [8]) (by kernel_rfl) (by simp) ?_
      refine AllReadyH.cons (o := { dst := some 16, op := Op.call { callee := Callee.value (Operand.func 15), args := #[Operand.tmp 15, Operand.const (Value.bool false)], argTypes := #[22, 4] }, type := 2, pos := "l7_restore.go:7", after := #[{ on := 7, ground := Ground.data }, { on := 5, ground := Ground.chain }], guard := none }) rfl (fun K hK => ?_) AllReadyH.nil
      go_simp
      refine (HC3.out z0 (hb0.trans (hbc_.mono hb0.size))).mono ?_
      rintro e wy2 ⟨rfl, ey⟩
      rw [ey]
      clear ey
      go_wp2_with fail
      refine hK.out _ _ (hbc_) (fun hHeld => ?_)
      clear hK K
      try simp only [Act.put, List.setIfInBounds_toArray, List.set_cons_zero, List.set_cons_succ]
      refine wpAnyH_ready (rs := [11]) (by kernel_rfl) (by simp) ?_
      refine AllReadyH.cons (o := { dst := some 19, op := Op.call { callee := Callee.value (Operand.func 15), args := #[Operand.tmp 18, Operand.const (Value.bool false)], argTypes := #[22, 4] }, type := 2, pos := "l7_restore.go:7", after := #[{ on := 10, ground := Ground.data }, { on := 8, ground := Ground.chain }], guard := none }) rfl (fun K hK => ?_) AllReadyH.nil
      go_simp
      refine (HC4.out z0 (hb0.trans (hbc_.mono hb0.size))).mono ?_
      rintro e wy3 ⟨rfl, ey⟩
      rw [ey]
      clear ey
      go_wp2_with fail
      refine hK.out _ _ (hbc_) (fun hHeld => ?_)
      clear hK K
      try simp only [Act.put, List.setIfInBounds_toArray, List.set_cons_zero, List.set_cons_succ]
      refine wpAnyH_take (i := 12) (oi := { dst := some 20, op := Op.build 25 #[(0, Operand.tmp 10), (1, Operand.tmp 13), (2, Operand.tmp 16), (3, Operand.tmp 19)], type := 25, pos := "l7_restore.go:7", after := #[{ on := 2, ground := Ground.data }, { on := 5, ground := Ground.data }, { on := 8, ground := Ground.data }, { on := 11, ground := Ground.data }], guard := none }) (v := .agg #[.int .i64 id, .int .i64 tx, .int .i64 ba, .int .i64 rt, .slice none 0 0]) rfl (by kernel_rfl) (by kernel_rfl) (by kernel_rfl) (fun _ _ _ h => h) (Or.inl ⟨by rfl, ?_⟩) (by assumption) ?_
      · intro wq hSw; (try dsimp only at hSw); go_simp
      try simp only [Act.put, List.setIfInBounds_toArray, List.set_cons_zero, List.set_cons_succ]
      refine wpAnyH_ready (rs := [14]) (by kernel_rfl) (by simp) ?_
      refine AllReadyH.cons (o := { dst := none, op := Op.store 25 (Operand.tmp 5) (Operand.tmp 20), type := 0, pos := "l7_restore.go:7", after := #[{ on := 13, ground := Ground.data }, { on := 12, ground := Ground.data }, { on := 11, ground := Ground.chain }, { on := 0, ground := Ground.phase }, { on := 1, ground := Ground.phase }, { on := 2, ground := Ground.phase }, { on := 3, ground := Ground.phase }, { on := 4, ground := Ground.phase }, { on := 5, ground := Ground.phase }, { on := 6, ground := Ground.phase }, { on := 7, ground := Ground.phase }, { on := 8, ground := Ground.phase }, { on := 9, ground := Ground.phase }, { on := 10, ground := Ground.phase }, { on := 11, ground := Ground.phase }, { on := 12, ground := Ground.phase }, { on := 13, ground := Ground.phase }], guard := none }) rfl (fun K hK => ?_) AllReadyH.nil
      obtain ⟨y0, y1, y2, y3, y4⟩ := box_fiveC hZ
      have zl := (Array.getElem?_eq_some_iff.1 hZ).1
      have zf := box_thawC hZ
      go_simp
      have XF := put5C_box hZ (.int .i64 id) (.int .i64 tx) (.int .i64 ba) (.int .i64 rt) (.slice none 0 0)
      have HFF := put5C_fr z0 Z (.int .i64 id) (.int .i64 tx) (.int .i64 ba) (.int .i64 rt) (.slice none 0 0)
      have HFIN : Hid (V.heap.size ≤ Z ∧ (put5C z0 Z (.int .i64 id) (.int .i64 tx) (.int .i64 ba) (.int .i64 rt) (.slice none 0 0)).heap[Z]? = some (.cells #[.int .i64 id, .int .i64 tx, .int .i64 ba, .int .i64 rt, .slice none 0 0] 25) ∧ Below V.heap.size V (put5C z0 Z (.int .i64 id) (.int .i64 tx) (.int .i64 ba) (.int .i64 rt) (.slice none 0 0))) := ⟨hVZ, XF, hbc_.trans (HFF.below hbc_.size (fun q e => by omega))⟩
      refine hK.out _ _ (HFIN.out.2.2) (fun hHeld => ?_)
      clear hK K
      try simp only [Act.put, List.setIfInBounds_toArray, List.set_cons_zero, List.set_cons_succ]
      refine wpAnyH_done (by kernel_rfl) ?_ _
      refine NoPanic.normal ?_
      clear hHeld hZ hbc_ y0 y1 y2 y3 y4 zl zf XF HFF
      go_wp2_with fail
      go_meet
      exact ⟨Z, rfl, HFIN⟩
  case rest =>
    obtain ⟨Z, rfl, HC⟩ := hcut
    obtain ⟨hZ, XZ, hbV⟩ := HC.out
    have X0 := box_below k0 hbV
    have belC : Below w.heap.size w wc := hb0.trans (hbV.mono hb0.size)
    obtain ⟨z0, z1, z2, z3, z4⟩ := box_fiveC XZ
    obtain ⟨x0, x1, x2, x3, x4⟩ := box_fiveC X0
    have hz := box_thawC X0
    have X5 := put5C_box X0 (.int .i64 id) (.int .i64 tx) (.int .i64 ba) (.int .i64 rt) (.slice none 0 0)
    have hf5 := put5C_fr wc w.heap.size (.int .i64 id) (.int .i64 tx) (.int .i64 ba) (.int .i64 rt) (.slice none 0 0)
    have HBF : Hid (Below w.heap.size w (put5C wc w.heap.size (.int .i64 id) (.int .i64 tx) (.int .i64 ba) (.int .i64 rt) (.slice none 0 0))) := belC.trans (hf5.below belC.size (fun q e => by omega))
    have lZ : Z < wc.heap.size := (Array.getElem?_eq_some_iff.1 XZ).1
    have l0 : w.heap.size < wc.heap.size := (Array.getElem?_eq_some_iff.1 X0).1
    have HBC : Hid (Below w.heap.size w wc) := belC
    clear HC hbV XZ X0 belC hf5 hb0 k0 HC1 HC2 HC3 HC4
    go_wp2_with fail
    refine (HC5.out wc HBC.out).mono ?_
    rintro e wd ⟨rfl, e9⟩
    subst e9
    have hsub : IntKind.i64.wrap (tx - 1) = tx - 1 := by rw [IntKind.wrap_i64]; omega
    have HOK : Hid (hdOkD id tx ba rt ct = (inB 1 2000000000 id && inB 1 2000000000 tx && inB 0 (tx - 1) ba && inB 2 999 rt && decide (ct ≤ 1000))) := rfl
    go_upto_region 3 with fail
    go_cut [7] (fun v wx => v = .bool (hdOkD id tx ba rt ct) ∧ wx = wd)
    case first =>
      cases t0 : inB 1 2000000000 id
      · go_wp2_with fail
        have hi0 := l1In_any id (1) (2000000000) wd
        rw [show decide ((1 : Int) ≤ id ∧ id ≤ 2000000000) = false from t0] at hi0
        refine hi0.mono ?_
        rintro e wy0 ⟨rfl, ey⟩
        rw [ey]
        clear ey
        go_wp2_with fail
        go_meet
        refine ⟨?_, rfl⟩
        rw [HOK.out, t0]; simp
      · cases t1 : inB 1 2000000000 tx
        · go_wp2_with fail
          have hi0 := l1In_any id (1) (2000000000) wd
          rw [show decide ((1 : Int) ≤ id ∧ id ≤ 2000000000) = true from t0] at hi0
          refine hi0.mono ?_
          rintro e wy0 ⟨rfl, ey⟩
          rw [ey]
          clear ey
          go_wp2_with fail
          have hi1 := l1In_any tx (1) (2000000000) wd
          rw [show decide ((1 : Int) ≤ tx ∧ tx ≤ 2000000000) = false from t1] at hi1
          refine hi1.mono ?_
          rintro e wy1 ⟨rfl, ey⟩
          rw [ey]
          clear ey
          go_wp2_with fail
          go_meet
          refine ⟨?_, rfl⟩
          rw [HOK.out, t1]; simp
        · cases t2 : inB 0 (tx - 1) ba
          · go_wp2_with fail
            have hi0 := l1In_any id (1) (2000000000) wd
            rw [show decide ((1 : Int) ≤ id ∧ id ≤ 2000000000) = true from t0] at hi0
            refine hi0.mono ?_
            rintro e wy0 ⟨rfl, ey⟩
            rw [ey]
            clear ey
            go_wp2_with fail
            have hi1 := l1In_any tx (1) (2000000000) wd
            rw [show decide ((1 : Int) ≤ tx ∧ tx ≤ 2000000000) = true from t1] at hi1
            refine hi1.mono ?_
            rintro e wy1 ⟨rfl, ey⟩
            rw [ey]
            clear ey
            go_wp2_with fail
            have hi2 := l1In_any ba (0) ((tx - 1)) wd
            rw [show decide ((0 : Int) ≤ ba ∧ ba ≤ (tx - 1)) = false from t2] at hi2
            refine hi2.mono ?_
            rintro e wy2 ⟨rfl, ey⟩
            rw [ey]
            clear ey
            go_wp2_with fail
            go_meet
            refine ⟨?_, rfl⟩
            rw [HOK.out, t2]; simp
          · cases t3 : inB 2 999 rt
            · go_wp2_with fail
              have hi0 := l1In_any id (1) (2000000000) wd
              rw [show decide ((1 : Int) ≤ id ∧ id ≤ 2000000000) = true from t0] at hi0
              refine hi0.mono ?_
              rintro e wy0 ⟨rfl, ey⟩
              rw [ey]
              clear ey
              go_wp2_with fail
              have hi1 := l1In_any tx (1) (2000000000) wd
              rw [show decide ((1 : Int) ≤ tx ∧ tx ≤ 2000000000) = true from t1] at hi1
              refine hi1.mono ?_
              rintro e wy1 ⟨rfl, ey⟩
              rw [ey]
              clear ey
              go_wp2_with fail
              have hi2 := l1In_any ba (0) ((tx - 1)) wd
              rw [show decide ((0 : Int) ≤ ba ∧ ba ≤ (tx - 1)) = true from t2] at hi2
              refine hi2.mono ?_
              rintro e wy2 ⟨rfl, ey⟩
              rw [ey]
              clear ey
              go_wp2_with fail
              have hi3 := l1In_any rt (2) (999) wd
              rw [show decide ((2 : Int) ≤ rt ∧ rt ≤ 999) = false from t3] at hi3
              refine hi3.mono ?_
              rintro e wy3 ⟨rfl, ey⟩
              rw [ey]
              clear ey
              go_wp2_with fail
              go_meet
              refine ⟨?_, rfl⟩
              rw [HOK.out, t3]; simp
            · go_wp2_with fail
              have hi0 := l1In_any id (1) (2000000000) wd
              rw [show decide ((1 : Int) ≤ id ∧ id ≤ 2000000000) = true from t0] at hi0
              refine hi0.mono ?_
              rintro e wy0 ⟨rfl, ey⟩
              rw [ey]
              clear ey
              go_wp2_with fail
              have hi1 := l1In_any tx (1) (2000000000) wd
              rw [show decide ((1 : Int) ≤ tx ∧ tx ≤ 2000000000) = true from t1] at hi1
              refine hi1.mono ?_
              rintro e wy1 ⟨rfl, ey⟩
              rw [ey]
              clear ey
              go_wp2_with fail
              have hi2 := l1In_any ba (0) ((tx - 1)) wd
              rw [show decide ((0 : Int) ≤ ba ∧ ba ≤ (tx - 1)) = true from t2] at hi2
              refine hi2.mono ?_
              rintro e wy2 ⟨rfl, ey⟩
              rw [ey]
              clear ey
              go_wp2_with fail
              have hi3 := l1In_any rt (2) (999) wd
              rw [show decide ((2 : Int) ≤ rt ∧ rt ≤ 999) = true from t3] at hi3
              refine hi3.mono ?_
              rintro e wy3 ⟨rfl, ey⟩
              rw [ey]
              clear ey
              go_wp2_with fail
              go_meet
              refine ⟨?_, rfl⟩
              rw [HOK.out, t0, t1, t2, t3]; rfl
    case rest =>
      obtain ⟨rfl, rfl⟩ := hcut
      go_wp2_with fail
      show bodyPost _ _ _ _ _ (put5C _ w.heap.size (.int .i64 id) (.int .i64 tx) (.int .i64 ba) (.int .i64 rt) (.slice none 0 0))
      clear x0 x1 x2 x3 x4 hz
      obtain ⟨x0, x1, x2, x3, x4⟩ := box_fiveC X5
      exact bodyPost_ret (v := .tuple #[.agg #[.int .i64 id, .int .i64 tx, .int .i64 ba, .int .i64 rt, .slice none 0 0], .int .i64 ct, .bool (hdOkD id tx ba rt ct)]) (by simp [results, Try.results13, go_sem, x0, x1, x2, x3, x4]) rfl ⟨rfl, HBF.out⟩
end Go.Proofs.Ytdieplpegkiolaa
