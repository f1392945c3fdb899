import Derived.Test.YtmmdkjeoadlikaaWd
namespace Go.Proofs.Ytmmdkjeoadlikaa
open Go.RowKit
set_option linter.unusedVariables false
set_option maxRecDepth 100000

/-- One write more in a disk of one's own. -/
theorem OwnD.push {X X1 X2 X3 : World} {base : Nat} {v u u' vb : Value} {fs : List PF} {xs vs : List Value} {ps : List PP} {ys us : List Value} {f : PP} (h : OwnD X base v u fs ps xs vs ys us) (hbase : base ≤ X.heap.size) (hb : Below X.heap.size X X1)
    (hvb : X1.ownsRow X.heap.size 5 1 vb f.2.2.length (u8s f.2.2)) (hs : f.1.size ≤ maxLen) (hpg : -9223372036854775808 ≤ f.2.1 ∧ f.2.1 ≤ 9223372036854775807) (hby : ∀ x ∈ f.2.2, 0 ≤ x ∧ x ≤ 255) (hb2 : Below X1.heap.size X1 X2)
    (hrow : X3.ownsRow base 77 3 u' (ps.length + 1) (ys ++ [.string f.1, .int .i64 f.2.1, vb])) (hgr : X2.grownBy X3 u.ownBlock) (hlies : u'.ownBlock = u.ownBlock ∨ ∀ g, u'.ownBlock = some g → X2.heap.size ≤ g) :
    OwnD X3 base v u' fs (ps ++ [f]) xs vs (ys ++ [.string f.1, .int .i64 f.2.1, vb]) (us ++ [vb]) := by
  have hs1 := hb.size
  have hs2 := hb2.size
  have hF : Fr (fun g => u.ownBlock = some g) X2 X3 := Fr.of_grown hgr (fun g e => e)
  refine ⟨((h.files.below hb).below hb2).fr hF (fun g hg e => h.apart g hg (.inl e)), OwnP.push h.cache hbase hb hvb hs hpg hby hb2 hrow hgr, ?_⟩
  intro g hg hg2
  have hgl := (h.files.blk hg).2
  rcases hg2 with e | ⟨j, hj, e⟩
  · rcases hlies with hli | hli
    · rw [hli] at e; exact h.apart g hg (.inl e)
    · have := hli g e; omega
  · rw [List.length_append, List.length_singleton] at hj
    by_cases hjl : j < us.length
    · rw [getD_snoc_lt _ _ _ _ hjl] at e; exact h.apart g hg (.inr ⟨j, hjl, e⟩)
    · obtain rfl : j = us.length := by omega
      rw [getD_snoc_eq] at e
      have := (hvb.lt g e).1
      omega
/-- The box stands apart from what a disk of one's own holds after one write more. -/
theorem blk_push {v u u' vb : Value} {vs us : List Value} {O n : Nat} (hlt : ∀ g, Blk v vs g ∨ Blk u us g → g < O) (hlies : u'.ownBlock = u.ownBlock ∨ ∀ g, u'.ownBlock = some g → n ≤ g) (hn : O < n) (hvb : ∀ g, vb.ownBlock = some g → O < g) : ∀ g, g = O → ¬ (Blk v vs g ∨ Blk u' (us ++ [vb]) g) := by
  intro g hg hb
  rcases hb with hb | hb
  · have := hlt g (.inl hb); omega
  · rcases hb with e | ⟨j, hj, e⟩
    · rcases hlies with hl | hl
      · rw [hl] at e; have := hlt g (.inr (.inl e)); omega
      · have := hl g e; omega
    · rw [List.length_append, List.length_singleton] at hj
      by_cases hjl : j < us.length
      · rw [getD_snoc_lt _ _ _ _ hjl] at e; have := hlt g (.inr (.inr ⟨j, hjl, e⟩)); omega
      · obtain rfl : j = us.length := by omega
        rw [getD_snoc_eq] at e
        have := hvb g e; omega
set_option maxHeartbeats 3200000 in
theorem writeChange (nm : ByteArray) (hnm : nm.size ≤ maxLen) (pg : Int) (hpg : -9223372036854775808 ≤ pg ∧ pg ≤ 9223372036854775807) (pa : Option Addr) (pn pc : Nat) (bs : List Int) (N1 N2 N3 : Nat) (fs : List PF) (ps : List PP) (hps : ps.length ≤ 1048576) (cp : Int) (de : Bool) (w : World) (A B : Nat) (hB : B ≤ w.heap.size) (hby0 : BytesAt w A B pa pn pc bs) (hpn : pn ≤ 1048576)
    (x1 : w.heap[N1]? = some (.cells #[.string nm] 9)) (x2 : w.heap[N2]? = some (.cells #[.int .i64 pg] 2)) (x3 : w.heap[N3]? = some (.cells #[.slice pa pn pc] 27)) :
    ChangeOk 51 #[.pointer (some ⟨N1, 0, none⟩), .pointer (some ⟨N2, 0, none⟩), .pointer (some ⟨N3, 0, none⟩)] w fs fs ps (ps ++ [(nm, pg, bs)]) cp de := by
  intro W O fu a1 c1 b1 d1 xs vs ys us hbel hO XO own hlt
  obtain ⟨i0, hi, hz0, hz1, hz2⟩ := info_parts info_Pend
  obtain ⟨base, hbase⟩ : ∃ base, base = w.heap.size + 2 := ⟨_, rfl⟩
  rw [← hbase] at own
  have l1 := (Array.getElem?_eq_some_iff.1 x1).1
  have l2 := (Array.getElem?_eq_some_iff.1 x2).1
  have l3 := (Array.getElem?_eq_some_iff.1 x3).1
  have hOl := (Array.getElem?_eq_some_iff.1 XO).1
  have hWs := hbel.size
  have y1 := (hbel.block N1 l1).trans x1
  have y2 := (hbel.block N2 l2).trans x2
  have y3 := (hbel.block N3 l3).trans x3
  have hbyW := hby0.below (hbel.mono hB)
  have hbw : base ≤ W.heap.size := by omega
  have hbyt := hby0.2.2.2.1
  have HPN : Hid (bs.length = pn) := hby0.1
  have S0 : W.cell? ⟨N1, 0, none⟩ = some (.string nm) ∧ W.cell? ⟨N2, 0, none⟩ = some (.int .i64 pg) ∧ W.cell? ⟨N3, 0, none⟩ = some (.slice pa pn pc) := by simp [World.cell?, y1, y2, y3]
  have HSS : Hid (∀ X, Below W.heap.size W X → X.cell? ⟨N1, 0, none⟩ = some (.string nm) ∧ X.cell? ⟨N2, 0, none⟩ = some (.int .i64 pg) ∧ X.cell? ⟨N3, 0, none⟩ = some (.slice pa pn pc)) := fun X hX => by
    have z1 := (hX.block N1 (by omega)).trans y1
    have z2 := (hX.block N2 (by omega)).trans y2
    have z3 := (hX.block N3 (by omega)).trans y3
    simp [World.cell?, z1, z2, z3]
  have HSF : Hid (∀ (X Y : World) {F : Nat → Prop}, (X.cell? ⟨N1, 0, none⟩ = some (.string nm) ∧ X.cell? ⟨N2, 0, none⟩ = some (.int .i64 pg) ∧ X.cell? ⟨N3, 0, none⟩ = some (.slice pa pn pc)) → Fr F X Y → (∀ g, F g → base ≤ g) → Y.cell? ⟨N1, 0, none⟩ = some (.string nm) ∧ Y.cell? ⟨N2, 0, none⟩ = some (.int .i64 pg) ∧ Y.cell? ⟨N3, 0, none⟩ = some (.slice pa pn pc)) := fun X Y F hX hF hB => by
    have q : ∀ (N : Nat) (v : Value), N < w.heap.size → X.cell? ⟨N, 0, none⟩ = some v → Y.cell? ⟨N, 0, none⟩ = some v := fun N v hN hv => (World.cell?_of_block (hF.block N (World.block_lt_of_cell? X ⟨N, 0, none⟩ hv) (fun e => by have := hB N e; omega))).trans hv
    exact ⟨q N1 _ l1 hX.1, q N2 _ l2 hX.2.1, q N3 _ l3 hX.2.2⟩
  clear x1 x2 x3 y1 y2 y3 hby0
  have hby0 := hbyW
  clear hbyW
  show Calls Try.prog 51 #[.pointer (some ⟨O, 0, none⟩), .pointer (some ⟨N1, 0, none⟩), .pointer (some ⟨N2, 0, none⟩), .pointer (some ⟨N3, 0, none⟩)] W _
  go_enter Try.func51, Try.ntmps51
  go_wp2_with fail
  refine wp_region_noPanic ?_
  refine wp_region_held_drew (S := (fun w' => w'.cell? ⟨N1, 0, none⟩ = some (.string nm) ∧ w'.cell? ⟨N2, 0, none⟩ = some (.int .i64 pg) ∧ w'.cell? ⟨N3, 0, none⟩ = some (.slice pa pn pc))) (by kernel_rfl) ?_ (fun hHeld => ?_)
  · exact S0
  refine wpAnyH_take (i := 0) (oi := { dst := some 5, op := Op.move (Operand.tmp 0), type := 80, pos := "l1_disk.go:106", after := #[], guard := none }) (v := ?_) rfl (by kernel_rfl) (by kernel_rfl) (by kernel_rfl) (fun _ _ _ h => h) (Or.inl ⟨by rfl, ?_⟩) (by assumption) ?_
  rotate_left 1
  · intro w hSw; (try dsimp only at hSw); go_simp; try (with_reducible rfl)
  try simp only [Act.put, List.setIfInBounds_toArray, List.set_cons_zero, List.set_cons_succ]
  refine wpAnyH_take (i := 1) (oi := { dst := some 6, op := Op.move (Operand.tmp 0), type := 80, pos := "l1_disk.go:106", after := #[], guard := none }) (v := ?_) rfl (by kernel_rfl) (by kernel_rfl) (by kernel_rfl) (fun _ _ _ h => h) (Or.inl ⟨by rfl, ?_⟩) (by assumption) ?_
  rotate_left 1
  · intro w hSw; (try dsimp only at hSw); go_simp; try (with_reducible rfl)
  try simp only [Act.put, List.setIfInBounds_toArray, List.set_cons_zero, List.set_cons_succ]
  refine wpAnyH_take (i := 2) (oi := { dst := some 7, op := Op.nilCheck (Operand.tmp 6), type := 0, pos := "l1_disk.go:106", after := #[{ on := 1, ground := Ground.data }], guard := none }) (v := ?_) rfl (by kernel_rfl) (by kernel_rfl) (by kernel_rfl) (fun _ _ _ h => h) (Or.inl ⟨by rfl, ?_⟩) (by assumption) ?_
  rotate_left 1
  · intro w hSw; (try dsimp only at hSw); go_simp; try (with_reducible rfl)
  try simp only [Act.put, List.setIfInBounds_toArray, List.set_cons_zero, List.set_cons_succ]
  refine wpAnyH_take (i := 3) (oi := { dst := some 8, op := Op.fieldAddr 32 (Operand.tmp 7) 1, type := 0, pos := "l1_disk.go:106", after := #[{ on := 2, ground := Ground.data }], guard := none }) (v := ?_) rfl (by kernel_rfl) (by kernel_rfl) (by kernel_rfl) (fun _ _ _ h => h) (Or.inl ⟨by rfl, ?_⟩) (by assumption) ?_
  rotate_left 1
  · intro w hSw; (try dsimp only at hSw); go_simp; try (with_reducible rfl)
  try simp only [Act.put, List.setIfInBounds_toArray, List.set_cons_zero, List.set_cons_succ]
  refine wpAnyH_take (i := 5) (oi := { dst := some 10, op := Op.load 9 (Operand.tmp 1), type := 9, pos := "l1_disk.go:106", after := #[], guard := none }) (v := ?_) rfl (by kernel_rfl) (by kernel_rfl) (by kernel_rfl) (fun _ _ _ h => h) (Or.inl ⟨by rfl, ?_⟩) (by assumption) ?_
  rotate_left 1
  · intro w hSw; (try dsimp only at hSw); go_simp; try (with_reducible rfl)
  try simp only [Act.put, List.setIfInBounds_toArray, List.set_cons_zero, List.set_cons_succ]
  refine wpAnyH_take (i := 6) (oi := { dst := some 11, op := Op.load 2 (Operand.tmp 2), type := 2, pos := "l1_disk.go:106", after := #[], guard := none }) (v := ?_) rfl (by kernel_rfl) (by kernel_rfl) (by kernel_rfl) (fun _ _ _ h => h) (Or.inl ⟨by rfl, ?_⟩) (by assumption) ?_
  rotate_left 1
  · intro w hSw; (try dsimp only at hSw); go_simp; try (with_reducible rfl)
  try simp only [Act.put, List.setIfInBounds_toArray, List.set_cons_zero, List.set_cons_succ]
  refine wpAnyH_take (i := 7) (oi := { dst := some 12, op := Op.load 27 (Operand.tmp 3), type := 27, pos := "l1_disk.go:106", after := #[], guard := none }) (v := ?_) rfl (by kernel_rfl) (by kernel_rfl) (by kernel_rfl) (fun _ _ _ h => h) (Or.inl ⟨by rfl, ?_⟩) (by assumption) ?_
  rotate_left 1
  · intro w hSw; (try dsimp only at hSw); go_simp; try (with_reducible rfl)
  try simp only [Act.put, List.setIfInBounds_toArray, List.set_cons_zero, List.set_cons_succ]
  refine wpAnyH_ready (rs := [4, 8]) (by kernel_rfl) (by simp) ?_
  refine AllReadyH.cons (o := { dst := some 9, op := Op.load 30 (Operand.tmp 8), type := 30, pos := "l1_disk.go:106", after := #[{ on := 3, ground := Ground.data }], guard := none }) rfl (fun K hK => ?_) ?_
  rotate_left 1
  refine AllReadyH.cons (o := { dst := some 13, op := Op.call { callee := Callee.value (Operand.func 52), args := #[Operand.tmp 12], argTypes := #[27] }, type := 27, pos := "l1_disk.go:106", after := #[{ on := 7, ground := Ground.data }], guard := none }) rfl (fun K hK => ?_) ?_
  rotate_left 1
  exact AllReadyH.nil
  · obtain ⟨o0, o1, o2, o3, o4⟩ := box_fiveC XO
    go_simp
    clear o0 o1 o2 o3 o4
    refine hK.out _ _ S0 (fun hHeld => ?_)
    clear hK K
    try simp only [Act.put, List.setIfInBounds_toArray, List.set_cons_zero, List.set_cons_succ]
    refine wpAnyH_ready (rs := [8]) (by kernel_rfl) (by simp) ?_
    refine AllReadyH.cons (o := { dst := some 13, op := Op.call { callee := Callee.value (Operand.func 52), args := #[Operand.tmp 12], argTypes := #[27] }, type := 27, pos := "l1_disk.go:106", after := #[{ on := 7, ground := Ground.data }], guard := none }) rfl (fun K hK => ?_) ?_
    rotate_left 1
    exact AllReadyH.nil
    · go_simp
      refine (clone_any pa pn pc bs W.drew A B (by show B ≤ W.heap.size; omega) hby0 (by omega)).mono ?_
      rintro e w2 ⟨va, vc, rfl, hvb, hb2x⟩
      have hb2 : Below W.heap.size W w2 := ((Below.refl _ W).drew).trans hb2x
      have XO2 := (hb2.block O hOl).trans XO
      have own2 := own.below hb2
      have hs2 := hb2.size
      have S2 := HSS.out w2 hb2
      clear hb2x
      go_wp2_with fail
      refine hK.out _ _ S2 (fun hHeld => ?_)
      clear hK K
      try simp only [Act.put, List.setIfInBounds_toArray, List.set_cons_zero, List.set_cons_succ]
      refine wpAnyH_take (i := 9) (oi := { dst := some 14, op := Op.build 77 #[(0, Operand.tmp 10), (1, Operand.tmp 11), (2, Operand.tmp 13)], type := 77, pos := "l1_disk.go:106", after := #[{ on := 5, ground := Ground.data }, { on := 6, ground := Ground.data }, { on := 8, ground := Ground.data }], guard := none }) (v := ?_) rfl (by kernel_rfl) (by kernel_rfl) (by kernel_rfl) (fun _ _ _ h => h) (Or.inl ⟨by rfl, ?_⟩) (by assumption) ?_
      rotate_left 1
      · intro w hSw; (try dsimp only at hSw); go_simp; try (with_reducible rfl)
      try simp only [Act.put, List.setIfInBounds_toArray, List.set_cons_zero, List.set_cons_succ]
      refine wpAnyH_ready (rs := [10]) (by kernel_rfl) (by simp) ?_
      refine AllReadyH.cons (o := { dst := some 15, op := Op.buildSlice 30 1 #[(0, Operand.tmp 14)], type := 30, pos := "l1_disk.go:106", after := #[{ on := 9, ground := Ground.data }], guard := none }) rfl (fun K hK => ?_) ?_
      rotate_left 1
      exact AllReadyH.nil
      · have hal3 : Below w2.heap.size w2 (w2.alloc (.cells #[.string nm, .int .i64 pg, .slice va pn vc] 77)) := (Below.refl _ _).alloc (Nat.le_refl _) _
        have XO3 := (hal3.block O (by omega)).trans XO2
        have own3 := own2.below hal3
        have S3 := HSS.out _ (hb2.trans (hal3.mono hs2))
        go_simp
        refine hK.out _ _ S3 (fun hHeld => ?_)
        clear hK K
        try simp only [Act.put, List.setIfInBounds_toArray, List.set_cons_zero, List.set_cons_succ]
        refine wpAnyH_ready (rs := [11]) (by kernel_rfl) (by simp) ?_
        refine AllReadyH.cons (o := { dst := some 16, op := Op.call { callee := Callee.builtin Builtin.append, args := #[Operand.tmp 9, Operand.tmp 15], argTypes := #[30, 30] }, type := 30, pos := "l1_disk.go:106", after := #[{ on := 4, ground := Ground.data }, { on := 10, ground := Ground.data }, { on := 8, ground := Ground.chain }], guard := none }) rfl (fun K hK => ?_) ?_
        rotate_left 1
        exact AllReadyH.nil
        · have hrow3 := own3.cache.row
          refine step_append_ownD rfl _ _ 30 rfl base 77 i0 _ 3 48 Try.underlying30 hi hz0 hz1 hz2 rfl (by decide) (.slice b1 ps.length d1) ps.length ys (by simp [Act.eval]) hrow3 ⟨w2.heap.size, 0, none⟩ 1 1 [.string nm, .int .i64 pg, .slice va pn vc] (by simp [Act.eval]) rfl (cell_three_new _ _ _ _ _) (by simp [Value.oneCell']) (by unfold maxLen; omega) (by omega) (by have := hal3.size; omega) ?_
          intro u4 w4 hown4 hgr hlies
          obtain ⟨ua4, uc4, rfl⟩ := own_shape hown4
          have hub : ∀ g, (Value.slice b1 ps.length d1).ownBlock = some g → base ≤ g ∧ g < O := fun g e => ⟨(own.cache.row.lt g e).1, hlt g (.inr (.inl e))⟩
          have hF4 : Fr (fun g => (Value.slice b1 ps.length d1).ownBlock = some g) (w2.alloc (.cells #[.string nm, .int .i64 pg, .slice va pn vc] 77)) w4 := Fr.of_grown hgr (fun g e => e)
          have XO4 := (hF4.block O (by have := hal3.size; omega) (fun e => by have := (hub _ e).2; omega)).trans XO3
          have S4 := HSF.out _ _ S3 hF4 (fun g e => (hub g e).1)
          refine hK.out _ _ S4 (fun hHeld => ?_)
          clear hK K
          try simp only [Act.put, List.setIfInBounds_toArray, List.set_cons_zero, List.set_cons_succ]
          refine wpAnyH_take (i := 12) (oi := { dst := some 17, op := Op.nilCheck (Operand.tmp 5), type := 0, pos := "l1_disk.go:106", after := #[{ on := 0, ground := Ground.data }, { on := 0, ground := Ground.phase }, { on := 1, ground := Ground.phase }, { on := 2, ground := Ground.phase }, { on := 3, ground := Ground.phase }, { on := 4, ground := Ground.phase }, { on := 5, ground := Ground.phase }, { on := 6, ground := Ground.phase }, { on := 7, ground := Ground.phase }, { on := 8, ground := Ground.phase }, { on := 9, ground := Ground.phase }, { on := 10, ground := Ground.phase }, { on := 11, ground := Ground.phase }], guard := none }) (v := ?_) rfl (by kernel_rfl) (by kernel_rfl) (by kernel_rfl) (fun _ _ _ h => h) (Or.inl ⟨by rfl, ?_⟩) (by assumption) ?_
          rotate_left 1
          · intro w hSw; (try dsimp only at hSw); go_simp; try (with_reducible rfl)
          try simp only [Act.put, List.setIfInBounds_toArray, List.set_cons_zero, List.set_cons_succ]
          refine wpAnyH_take (i := 13) (oi := { dst := some 18, op := Op.fieldAddr 32 (Operand.tmp 17) 1, type := 0, pos := "l1_disk.go:106", after := #[{ on := 12, ground := Ground.data }, { on := 0, ground := Ground.phase }, { on := 1, ground := Ground.phase }, { on := 2, ground := Ground.phase }, { on := 3, ground := Ground.phase }, { on := 4, ground := Ground.phase }, { on := 5, ground := Ground.phase }, { on := 6, ground := Ground.phase }, { on := 7, ground := Ground.phase }, { on := 8, ground := Ground.phase }, { on := 9, ground := Ground.phase }, { on := 10, ground := Ground.phase }, { on := 11, ground := Ground.phase }], guard := none }) (v := ?_) rfl (by kernel_rfl) (by kernel_rfl) (by kernel_rfl) (fun _ _ _ h => h) (Or.inl ⟨by rfl, ?_⟩) (by assumption) ?_
          rotate_left 1
          · intro w hSw; (try dsimp only at hSw); go_simp; try (with_reducible rfl)
          try simp only [Act.put, List.setIfInBounds_toArray, List.set_cons_zero, List.set_cons_succ]
          refine wpAnyH_ready (rs := [14]) (by kernel_rfl) (by simp) ?_
          refine AllReadyH.cons (o := { dst := none, op := Op.store 30 (Operand.tmp 18) (Operand.tmp 16), type := 0, pos := "l1_disk.go:106", after := #[{ on := 13, ground := Ground.data }, { on := 11, ground := Ground.data }, { on := 11, ground := Ground.chain }, { on := 0, ground := Ground.phase }, { on := 1, ground := Ground.phase }, { on := 2, ground := Ground.phase }, { on := 3, ground := Ground.phase }, { on := 4, ground := Ground.phase }, { on := 5, ground := Ground.phase }, { on := 6, ground := Ground.phase }, { on := 7, ground := Ground.phase }, { on := 8, ground := Ground.phase }, { on := 9, ground := Ground.phase }, { on := 10, ground := Ground.phase }, { on := 11, ground := Ground.phase }], guard := none }) rfl (fun K hK => ?_) ?_
          rotate_left 1
          exact AllReadyH.nil
          · obtain ⟨o0, o1, o2, o3, o4⟩ := box_fiveC XO4
            have fo := box_thawC XO4
            go_simp
            clear o0 o1 o2 o3 o4 fo
            have S5 := HSF.out _ _ S4 (fr_setCell w4 O 1 (.slice ua4 (ps.length + 1) uc4)) (fun g e => by omega)
            refine hK.out _ _ S5 (fun hHeld => ?_)
            clear hK K
            try simp only [Act.put, List.setIfInBounds_toArray, List.set_cons_zero, List.set_cons_succ]
            refine wpAnyH_done (by kernel_rfl) ?_ _
            refine NoPanic.normal ?_
            have hvb' : w2.ownsRow W.heap.size 5 1 (.slice va pn vc) bs.length (u8s bs) := by rw [HPN.out]; exact hvb
            have hp := OwnD.push own hbw hb2 (f := (nm, pg, bs)) (vb := .slice va pn vc) hvb' hnm hpg hbyt hal3 hown4 hgr hlies
            have hset := fr_setCell w4 O 1 (.slice ua4 (ps.length + 1) uc4)
            have hp5 := hp.frS hset (blk_push hlt hlies (by have := hal3.size; omega) (fun g e => by have := (hvb'.lt g e).1; omega))
            have XO5 := heap_setCell_at XO4 1 (.slice ua4 (ps.length + 1) uc4)
            have hFr : Fr (fun g => g = O ∨ (Blk (.slice a1 fs.length c1) vs g ∨ Blk (.slice b1 ps.length d1) us g)) W (w4.setCell ⟨O, 1, none⟩ (.slice ua4 (ps.length + 1) uc4)) := (((Fr.of_below hb2).trans (Fr.of_below hal3)).trans (hF4.weak (fun g e => .inr (.inr (.inl e))))).trans (hset.weak (fun g e => .inl e))
            have hpl : (ps ++ [(nm, pg, bs)]).length = ps.length + 1 := by rw [List.length_append, List.length_singleton]
            rw [hbase] at hp5
            go_wp2
            refine bodyPost_end (v := .tuple #[]) (by simp [results, Try.results51, go_sem]) rfl ⟨rfl, fs, ps ++ [(nm, pg, bs)], ⟨rfl, rfl⟩, a1, c1, ua4, uc4, ?_, ⟨xs, vs, ys ++ [.string nm, .int .i64 pg, .slice va pn vc], us ++ [.slice va pn vc], ?_⟩, hFr⟩
            · rw [hpl]; exact XO5
            · rw [hpl]; exact hp5
  · go_simp
    refine (clone_any pa pn pc bs W.drew A B (by show B ≤ W.heap.size; omega) hby0 (by omega)).mono ?_
    rintro e w2 ⟨va, vc, rfl, hvb, hb2x⟩
    have hb2 : Below W.heap.size W w2 := ((Below.refl _ W).drew).trans hb2x
    have XO2 := (hb2.block O hOl).trans XO
    have own2 := own.below hb2
    have hs2 := hb2.size
    have S2 := HSS.out w2 hb2
    clear hb2x
    go_wp2_with fail
    refine hK.out _ _ S2 (fun hHeld => ?_)
    clear hK K
    try simp only [Act.put, List.setIfInBounds_toArray, List.set_cons_zero, List.set_cons_succ]
    refine wpAnyH_take (i := 9) (oi := { dst := some 14, op := Op.build 77 #[(0, Operand.tmp 10), (1, Operand.tmp 11), (2, Operand.tmp 13)], type := 77, pos := "l1_disk.go:106", after := #[{ on := 5, ground := Ground.data }, { on := 6, ground := Ground.data }, { on := 8, ground := Ground.data }], guard := none }) (v := ?_) rfl (by kernel_rfl) (by kernel_rfl) (by kernel_rfl) (fun _ _ _ h => h) (Or.inl ⟨by rfl, ?_⟩) (by assumption) ?_
    rotate_left 1
    · intro w hSw; (try dsimp only at hSw); go_simp; try (with_reducible rfl)
    try simp only [Act.put, List.setIfInBounds_toArray, List.set_cons_zero, List.set_cons_succ]
    refine wpAnyH_ready (rs := [4, 10]) (by kernel_rfl) (by simp) ?_
    refine AllReadyH.cons (o := { dst := some 9, op := Op.load 30 (Operand.tmp 8), type := 30, pos := "l1_disk.go:106", after := #[{ on := 3, ground := Ground.data }], guard := none }) rfl (fun K hK => ?_) ?_
    rotate_left 1
    refine AllReadyH.cons (o := { dst := some 15, op := Op.buildSlice 30 1 #[(0, Operand.tmp 14)], type := 30, pos := "l1_disk.go:106", after := #[{ on := 9, ground := Ground.data }], guard := none }) rfl (fun K hK => ?_) ?_
    rotate_left 1
    exact AllReadyH.nil
    · obtain ⟨o0, o1, o2, o3, o4⟩ := box_fiveC XO2
      go_simp
      clear o0 o1 o2 o3 o4
      refine hK.out _ _ S2 (fun hHeld => ?_)
      clear hK K
      try simp only [Act.put, List.setIfInBounds_toArray, List.set_cons_zero, List.set_cons_succ]
      refine wpAnyH_ready (rs := [10]) (by kernel_rfl) (by simp) ?_
      refine AllReadyH.cons (o := { dst := some 15, op := Op.buildSlice 30 1 #[(0, Operand.tmp 14)], type := 30, pos := "l1_disk.go:106", after := #[{ on := 9, ground := Ground.data }], guard := none }) rfl (fun K hK => ?_) ?_
      rotate_left 1
      exact AllReadyH.nil
      · have hal3 : Below w2.heap.size w2 (w2.alloc (.cells #[.string nm, .int .i64 pg, .slice va pn vc] 77)) := (Below.refl _ _).alloc (Nat.le_refl _) _
        have XO3 := (hal3.block O (by omega)).trans XO2
        have own3 := own2.below hal3
        have S3 := HSS.out _ (hb2.trans (hal3.mono hs2))
        go_simp
        refine hK.out _ _ S3 (fun hHeld => ?_)
        clear hK K
        try simp only [Act.put, List.setIfInBounds_toArray, List.set_cons_zero, List.set_cons_succ]
        refine wpAnyH_ready (rs := [11]) (by kernel_rfl) (by simp) ?_
        refine AllReadyH.cons (o := { dst := some 16, op := Op.call { callee := Callee.builtin Builtin.append, args := #[Operand.tmp 9, Operand.tmp 15], argTypes := #[30, 30] }, type := 30, pos := "l1_disk.go:106", after := #[{ on := 4, ground := Ground.data }, { on := 10, ground := Ground.data }, { on := 8, ground := Ground.chain }], guard := none }) rfl (fun K hK => ?_) ?_
        rotate_left 1
        exact AllReadyH.nil
        · have hrow3 := own3.cache.row
          refine step_append_ownD rfl _ _ 30 rfl base 77 i0 _ 3 48 Try.underlying30 hi hz0 hz1 hz2 rfl (by decide) (.slice b1 ps.length d1) ps.length ys (by simp [Act.eval]) hrow3 ⟨w2.heap.size, 0, none⟩ 1 1 [.string nm, .int .i64 pg, .slice va pn vc] (by simp [Act.eval]) rfl (cell_three_new _ _ _ _ _) (by simp [Value.oneCell']) (by unfold maxLen; omega) (by omega) (by have := hal3.size; omega) ?_
          intro u4 w4 hown4 hgr hlies
          obtain ⟨ua4, uc4, rfl⟩ := own_shape hown4
          have hub : ∀ g, (Value.slice b1 ps.length d1).ownBlock = some g → base ≤ g ∧ g < O := fun g e => ⟨(own.cache.row.lt g e).1, hlt g (.inr (.inl e))⟩
          have hF4 : Fr (fun g => (Value.slice b1 ps.length d1).ownBlock = some g) (w2.alloc (.cells #[.string nm, .int .i64 pg, .slice va pn vc] 77)) w4 := Fr.of_grown hgr (fun g e => e)
          have XO4 := (hF4.block O (by have := hal3.size; omega) (fun e => by have := (hub _ e).2; omega)).trans XO3
          have S4 := HSF.out _ _ S3 hF4 (fun g e => (hub g e).1)
          refine hK.out _ _ S4 (fun hHeld => ?_)
          clear hK K
          try simp only [Act.put, List.setIfInBounds_toArray, List.set_cons_zero, List.set_cons_succ]
          refine wpAnyH_take (i := 12) (oi := { dst := some 17, op := Op.nilCheck (Operand.tmp 5), type := 0, pos := "l1_disk.go:106", after := #[{ on := 0, ground := Ground.data }, { on := 0, ground := Ground.phase }, { on := 1, ground := Ground.phase }, { on := 2, ground := Ground.phase }, { on := 3, ground := Ground.phase }, { on := 4, ground := Ground.phase }, { on := 5, ground := Ground.phase }, { on := 6, ground := Ground.phase }, { on := 7, ground := Ground.phase }, { on := 8, ground := Ground.phase }, { on := 9, ground := Ground.phase }, { on := 10, ground := Ground.phase }, { on := 11, ground := Ground.phase }], guard := none }) (v := ?_) rfl (by kernel_rfl) (by kernel_rfl) (by kernel_rfl) (fun _ _ _ h => h) (Or.inl ⟨by rfl, ?_⟩) (by assumption) ?_
          rotate_left 1
          · intro w hSw; (try dsimp only at hSw); go_simp; try (with_reducible rfl)
          try simp only [Act.put, List.setIfInBounds_toArray, List.set_cons_zero, List.set_cons_succ]
          refine wpAnyH_take (i := 13) (oi := { dst := some 18, op := Op.fieldAddr 32 (Operand.tmp 17) 1, type := 0, pos := "l1_disk.go:106", after := #[{ on := 12, ground := Ground.data }, { on := 0, ground := Ground.phase }, { on := 1, ground := Ground.phase }, { on := 2, ground := Ground.phase }, { on := 3, ground := Ground.phase }, { on := 4, ground := Ground.phase }, { on := 5, ground := Ground.phase }, { on := 6, ground := Ground.phase }, { on := 7, ground := Ground.phase }, { on := 8, ground := Ground.phase }, { on := 9, ground := Ground.phase }, { on := 10, ground := Ground.phase }, { on := 11, ground := Ground.phase }], guard := none }) (v := ?_) rfl (by kernel_rfl) (by kernel_rfl) (by kernel_rfl) (fun _ _ _ h => h) (Or.inl ⟨by rfl, ?_⟩) (by assumption) ?_
          rotate_left 1
          · intro w hSw; (try dsimp only at hSw); go_simp; try (with_reducible rfl)
          try simp only [Act.put, List.setIfInBounds_toArray, List.set_cons_zero, List.set_cons_succ]
          refine wpAnyH_ready (rs := [14]) (by kernel_rfl) (by simp) ?_
          refine AllReadyH.cons (o := { dst := none, op := Op.store 30 (Operand.tmp 18) (Operand.tmp 16), type := 0, pos := "l1_disk.go:106", after := #[{ on := 13, ground := Ground.data }, { on := 11, ground := Ground.data }, { on := 11, ground := Ground.chain }, { on := 0, ground := Ground.phase }, { on := 1, ground := Ground.phase }, { on := 2, ground := Ground.phase }, { on := 3, ground := Ground.phase }, { on := 4, ground := Ground.phase }, { on := 5, ground := Ground.phase }, { on := 6, ground := Ground.phase }, { on := 7, ground := Ground.phase }, { on := 8, ground := Ground.phase }, { on := 9, ground := Ground.phase }, { on := 10, ground := Ground.phase }, { on := 11, ground := Ground.phase }], guard := none }) rfl (fun K hK => ?_) ?_
          rotate_left 1
          exact AllReadyH.nil
          · obtain ⟨o0, o1, o2, o3, o4⟩ := box_fiveC XO4
            have fo := box_thawC XO4
            go_simp
            clear o0 o1 o2 o3 o4 fo
            have S5 := HSF.out _ _ S4 (fr_setCell w4 O 1 (.slice ua4 (ps.length + 1) uc4)) (fun g e => by omega)
            refine hK.out _ _ S5 (fun hHeld => ?_)
            clear hK K
            try simp only [Act.put, List.setIfInBounds_toArray, List.set_cons_zero, List.set_cons_succ]
            refine wpAnyH_done (by kernel_rfl) ?_ _
            refine NoPanic.normal ?_
            have hvb' : w2.ownsRow W.heap.size 5 1 (.slice va pn vc) bs.length (u8s bs) := by rw [HPN.out]; exact hvb
            have hp := OwnD.push own hbw hb2 (f := (nm, pg, bs)) (vb := .slice va pn vc) hvb' hnm hpg hbyt hal3 hown4 hgr hlies
            have hset := fr_setCell w4 O 1 (.slice ua4 (ps.length + 1) uc4)
            have hp5 := hp.frS hset (blk_push hlt hlies (by have := hal3.size; omega) (fun g e => by have := (hvb'.lt g e).1; omega))
            have XO5 := heap_setCell_at XO4 1 (.slice ua4 (ps.length + 1) uc4)
            have hFr : Fr (fun g => g = O ∨ (Blk (.slice a1 fs.length c1) vs g ∨ Blk (.slice b1 ps.length d1) us g)) W (w4.setCell ⟨O, 1, none⟩ (.slice ua4 (ps.length + 1) uc4)) := (((Fr.of_below hb2).trans (Fr.of_below hal3)).trans (hF4.weak (fun g e => .inr (.inr (.inl e))))).trans (hset.weak (fun g e => .inl e))
            have hpl : (ps ++ [(nm, pg, bs)]).length = ps.length + 1 := by rw [List.length_append, List.length_singleton]
            rw [hbase] at hp5
            go_wp2
            refine bodyPost_end (v := .tuple #[]) (by simp [results, Try.results51, go_sem]) rfl ⟨rfl, fs, ps ++ [(nm, pg, bs)], ⟨rfl, rfl⟩, a1, c1, ua4, uc4, ?_, ⟨xs, vs, ys ++ [.string nm, .int .i64 pg, .slice va pn vc], us ++ [.slice va pn vc], ?_⟩, hFr⟩
            · rw [hpl]; exact XO5
            · rw [hpl]; exact hp5
    · have hal3 : Below w2.heap.size w2 (w2.alloc (.cells #[.string nm, .int .i64 pg, .slice va pn vc] 77)) := (Below.refl _ _).alloc (Nat.le_refl _) _
      have XO3 := (hal3.block O (by omega)).trans XO2
      have own3 := own2.below hal3
      have S3 := HSS.out _ (hb2.trans (hal3.mono hs2))
      go_simp
      refine hK.out _ _ S3 (fun hHeld => ?_)
      clear hK K
      try simp only [Act.put, List.setIfInBounds_toArray, List.set_cons_zero, List.set_cons_succ]
      refine wpAnyH_ready (rs := [4]) (by kernel_rfl) (by simp) ?_
      refine AllReadyH.cons (o := { dst := some 9, op := Op.load 30 (Operand.tmp 8), type := 30, pos := "l1_disk.go:106", after := #[{ on := 3, ground := Ground.data }], guard := none }) rfl (fun K hK => ?_) ?_
      rotate_left 1
      exact AllReadyH.nil
      · obtain ⟨o0, o1, o2, o3, o4⟩ := box_fiveC XO3
        go_simp
        clear o0 o1 o2 o3 o4
        refine hK.out _ _ S3 (fun hHeld => ?_)
        clear hK K
        try simp only [Act.put, List.setIfInBounds_toArray, List.set_cons_zero, List.set_cons_succ]
        refine wpAnyH_ready (rs := [11]) (by kernel_rfl) (by simp) ?_
        refine AllReadyH.cons (o := { dst := some 16, op := Op.call { callee := Callee.builtin Builtin.append, args := #[Operand.tmp 9, Operand.tmp 15], argTypes := #[30, 30] }, type := 30, pos := "l1_disk.go:106", after := #[{ on := 4, ground := Ground.data }, { on := 10, ground := Ground.data }, { on := 8, ground := Ground.chain }], guard := none }) rfl (fun K hK => ?_) ?_
        rotate_left 1
        exact AllReadyH.nil
        · have hrow3 := own3.cache.row
          refine step_append_ownD rfl _ _ 30 rfl base 77 i0 _ 3 48 Try.underlying30 hi hz0 hz1 hz2 rfl (by decide) (.slice b1 ps.length d1) ps.length ys (by simp [Act.eval]) hrow3 ⟨w2.heap.size, 0, none⟩ 1 1 [.string nm, .int .i64 pg, .slice va pn vc] (by simp [Act.eval]) rfl (cell_three_new _ _ _ _ _) (by simp [Value.oneCell']) (by unfold maxLen; omega) (by omega) (by have := hal3.size; omega) ?_
          intro u4 w4 hown4 hgr hlies
          obtain ⟨ua4, uc4, rfl⟩ := own_shape hown4
          have hub : ∀ g, (Value.slice b1 ps.length d1).ownBlock = some g → base ≤ g ∧ g < O := fun g e => ⟨(own.cache.row.lt g e).1, hlt g (.inr (.inl e))⟩
          have hF4 : Fr (fun g => (Value.slice b1 ps.length d1).ownBlock = some g) (w2.alloc (.cells #[.string nm, .int .i64 pg, .slice va pn vc] 77)) w4 := Fr.of_grown hgr (fun g e => e)
          have XO4 := (hF4.block O (by have := hal3.size; omega) (fun e => by have := (hub _ e).2; omega)).trans XO3
          have S4 := HSF.out _ _ S3 hF4 (fun g e => (hub g e).1)
          refine hK.out _ _ S4 (fun hHeld => ?_)
          clear hK K
          try simp only [Act.put, List.setIfInBounds_toArray, List.set_cons_zero, List.set_cons_succ]
          refine wpAnyH_take (i := 12) (oi := { dst := some 17, op := Op.nilCheck (Operand.tmp 5), type := 0, pos := "l1_disk.go:106", after := #[{ on := 0, ground := Ground.data }, { on := 0, ground := Ground.phase }, { on := 1, ground := Ground.phase }, { on := 2, ground := Ground.phase }, { on := 3, ground := Ground.phase }, { on := 4, ground := Ground.phase }, { on := 5, ground := Ground.phase }, { on := 6, ground := Ground.phase }, { on := 7, ground := Ground.phase }, { on := 8, ground := Ground.phase }, { on := 9, ground := Ground.phase }, { on := 10, ground := Ground.phase }, { on := 11, ground := Ground.phase }], guard := none }) (v := ?_) rfl (by kernel_rfl) (by kernel_rfl) (by kernel_rfl) (fun _ _ _ h => h) (Or.inl ⟨by rfl, ?_⟩) (by assumption) ?_
          rotate_left 1
          · intro w hSw; (try dsimp only at hSw); go_simp; try (with_reducible rfl)
          try simp only [Act.put, List.setIfInBounds_toArray, List.set_cons_zero, List.set_cons_succ]
          refine wpAnyH_take (i := 13) (oi := { dst := some 18, op := Op.fieldAddr 32 (Operand.tmp 17) 1, type := 0, pos := "l1_disk.go:106", after := #[{ on := 12, ground := Ground.data }, { on := 0, ground := Ground.phase }, { on := 1, ground := Ground.phase }, { on := 2, ground := Ground.phase }, { on := 3, ground := Ground.phase }, { on := 4, ground := Ground.phase }, { on := 5, ground := Ground.phase }, { on := 6, ground := Ground.phase }, { on := 7, ground := Ground.phase }, { on := 8, ground := Ground.phase }, { on := 9, ground := Ground.phase }, { on := 10, ground := Ground.phase }, { on := 11, ground := Ground.phase }], guard := none }) (v := ?_) rfl (by kernel_rfl) (by kernel_rfl) (by kernel_rfl) (fun _ _ _ h => h) (Or.inl ⟨by rfl, ?_⟩) (by assumption) ?_
          rotate_left 1
          · intro w hSw; (try dsimp only at hSw); go_simp; try (with_reducible rfl)
          try simp only [Act.put, List.setIfInBounds_toArray, List.set_cons_zero, List.set_cons_succ]
          refine wpAnyH_ready (rs := [14]) (by kernel_rfl) (by simp) ?_
          refine AllReadyH.cons (o := { dst := none, op := Op.store 30 (Operand.tmp 18) (Operand.tmp 16), type := 0, pos := "l1_disk.go:106", after := #[{ on := 13, ground := Ground.data }, { on := 11, ground := Ground.data }, { on := 11, ground := Ground.chain }, { on := 0, ground := Ground.phase }, { on := 1, ground := Ground.phase }, { on := 2, ground := Ground.phase }, { on := 3, ground := Ground.phase }, { on := 4, ground := Ground.phase }, { on := 5, ground := Ground.phase }, { on := 6, ground := Ground.phase }, { on := 7, ground := Ground.phase }, { on := 8, ground := Ground.phase }, { on := 9, ground := Ground.phase }, { on := 10, ground := Ground.phase }, { on := 11, ground := Ground.phase }], guard := none }) rfl (fun K hK => ?_) ?_
          rotate_left 1
          exact AllReadyH.nil
          · obtain ⟨o0, o1, o2, o3, o4⟩ := box_fiveC XO4
            have fo := box_thawC XO4
            go_simp
            clear o0 o1 o2 o3 o4 fo
            have S5 := HSF.out _ _ S4 (fr_setCell w4 O 1 (.slice ua4 (ps.length + 1) uc4)) (fun g e => by omega)
            refine hK.out _ _ S5 (fun hHeld => ?_)
            clear hK K
            try simp only [Act.put, List.setIfInBounds_toArray, List.set_cons_zero, List.set_cons_succ]
            refine wpAnyH_done (by kernel_rfl) ?_ _
            refine NoPanic.normal ?_
            have hvb' : w2.ownsRow W.heap.size 5 1 (.slice va pn vc) bs.length (u8s bs) := by rw [HPN.out]; exact hvb
            have hp := OwnD.push own hbw hb2 (f := (nm, pg, bs)) (vb := .slice va pn vc) hvb' hnm hpg hbyt hal3 hown4 hgr hlies
            have hset := fr_setCell w4 O 1 (.slice ua4 (ps.length + 1) uc4)
            have hp5 := hp.frS hset (blk_push hlt hlies (by have := hal3.size; omega) (fun g e => by have := (hvb'.lt g e).1; omega))
            have XO5 := heap_setCell_at XO4 1 (.slice ua4 (ps.length + 1) uc4)
            have hFr : Fr (fun g => g = O ∨ (Blk (.slice a1 fs.length c1) vs g ∨ Blk (.slice b1 ps.length d1) us g)) W (w4.setCell ⟨O, 1, none⟩ (.slice ua4 (ps.length + 1) uc4)) := (((Fr.of_below hb2).trans (Fr.of_below hal3)).trans (hF4.weak (fun g e => .inr (.inr (.inl e))))).trans (hset.weak (fun g e => .inl e))
            have hpl : (ps ++ [(nm, pg, bs)]).length = ps.length + 1 := by rw [List.length_append, List.length_singleton]
            rw [hbase] at hp5
            go_wp2
            refine bodyPost_end (v := .tuple #[]) (by simp [results, Try.results51, go_sem]) rfl ⟨rfl, fs, ps ++ [(nm, pg, bs)], ⟨rfl, rfl⟩, a1, c1, ua4, uc4, ?_, ⟨xs, vs, ys ++ [.string nm, .int .i64 pg, .slice va pn vc], us ++ [.slice va pn vc], ?_⟩, hFr⟩
            · rw [hpl]; exact XO5
            · rw [hpl]; exact hp5
end Go.Proofs.Ytmmdkjeoadlikaa
