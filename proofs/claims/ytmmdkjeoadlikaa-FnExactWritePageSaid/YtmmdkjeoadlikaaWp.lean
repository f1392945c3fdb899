import Derived.Test.YtmmdkjeoadlikaaWc
import Derived.Test.YtmmdkjeoadlikaaRw
namespace Go.Proofs.Ytmmdkjeoadlikaa
open Go.RowKit
set_option linter.unusedVariables false
set_option maxRecDepth 100000
theorem five_allocs {w : World} {x0 x1 x2 x3 x4 : Obj} {W0 : World} (h : W0 = ((((w.alloc x0).alloc x1).alloc x2).alloc x3).alloc x4) : W0.heap.size = w.heap.size + 5 ∧ Below w.heap.size w W0 ∧ W0.heap[w.heap.size]? = some x0 ∧ W0.heap[w.heap.size + 1]? = some x1 ∧ W0.heap[w.heap.size + 1 + 1]? = some x2 ∧ W0.heap[w.heap.size + 1 + 1 + 1]? = some x3 ∧ W0.heap[w.heap.size + 1 + 1 + 1 + 1]? = some x4 := by
  subst h
  have z : ∀ (X : World) (x : Obj), (X.alloc x).heap.size = X.heap.size + 1 := fun X x => by simp
  refine ⟨by simp, (((((Below.refl _ _).alloc (Nat.le_refl _) _).alloc (by simp only [z]; omega) _).alloc (by simp only [z]; omega) _).alloc (by simp only [z]; omega) _).alloc (by simp only [z]; omega) _, ?_, ?_, ?_, ?_, ?_⟩
  · rw [heap_alloc_old _ _ (by simp only [z]; omega), heap_alloc_old _ _ (by simp only [z]; omega), heap_alloc_old _ _ (by simp only [z]; omega), heap_alloc_old _ _ (by simp only [z]; omega)]; exact heap_alloc_new _ _
  · rw [heap_alloc_old _ _ (by simp only [z]; omega), heap_alloc_old _ _ (by simp only [z]; omega), heap_alloc_old _ _ (by simp only [z]; omega)]; have := heap_alloc_new (w.alloc x0) x1; rwa [z] at this
  · rw [heap_alloc_old _ _ (by simp only [z]; omega), heap_alloc_old _ _ (by simp only [z]; omega)]; have := heap_alloc_new ((w.alloc x0).alloc x1) x2; rwa [z, z] at this
  · rw [heap_alloc_old _ _ (by simp only [z]; omega)]; have := heap_alloc_new (((w.alloc x0).alloc x1).alloc x2) x3; rwa [z, z, z] at this
  · have := heap_alloc_new ((((w.alloc x0).alloc x1).alloc x2).alloc x3) x4; rwa [z, z, z, z] at this
set_option maxHeartbeats 1600000 in
theorem implWrite_any (a : Option Addr) (n c : Nat) (fs : List PF) (b : Option Addr) (m d : Nat) (ps : List PP) (cp fu : Int) (de : Bool) (nm : ByteArray) (pg : Int) (pa : Option Addr) (pn pc : Nat) (bs : List Int) (w : World) (A B : Nat) (hB : B ≤ w.heap.size) (hF : FilesAt w A B a n c fs) (hP : PendsAt w A B b m d ps) (hby : BytesAt w A B pa pn pc bs) (hs : nm.size ≤ maxLen) (hpg : -9223372036854775808 ≤ pg ∧ pg ≤ 9223372036854775807) (hfu : -9223372036854775808 ≤ fu ∧ fu ≤ 9223372036854775807)
    (hn : n ≤ 1048576) (hm : m ≤ 1048576) (hpn : pn ≤ 1048576) (hall : ∀ j, j < n → (fs.getD j (ByteArray.empty, [])).2.length ≤ 1048576) (hall2 : ∀ j, j < m → (ps.getD j (ByteArray.empty, 0, [])).2.2.length ≤ 1048576) :
    Calls Try.prog 18 #[.agg #[.slice a n c, .slice b m d, .int .i64 cp, .int .i64 fu, .bool de], .string nm, .int .i64 pg, .slice pa pn pc] w fun e w' => ResAt w e w' (dsE (rwI fs ps cp fu de nm pg bs) fu) (dsX (rwI fs ps cp fu de nm pg bs) fu fs fs) (dsX (rwI fs ps cp fu de nm pg bs) fu ps (ps ++ [(nm, pg, bs)])) cp (dsF (rwI fs ps cp fu de nm pg bs) fu) (dsD (rwI fs ps cp fu de nm pg bs) fu de) := by
  have HF : Hid (∀ W, Below w.heap.size w W → FilesAt W A B a n c fs) := fun W hW => hF.below (hW.mono hB)
  have HP : Hid (∀ W, Below w.heap.size w W → PendsAt W A B b m d ps) := fun W hW => hP.below (hW.mono hB)
  have HBY : Hid (∀ W, Below w.heap.size w W → BytesAt W A B pa pn pc bs) := fun W hW => hby.below (hW.mono hB)
  have HA : Hid (∀ j, j < n → (fs.getD j (ByteArray.empty, [])).2.length ≤ 1048576) := hall
  have HA2 : Hid (∀ j, j < m → (ps.getD j (ByteArray.empty, 0, [])).2.2.length ≤ 1048576) := hall2
  have HBL : Hid (bs.length = pn) := hby.1
  have HML : Hid (ps.length = m) := hP.1
  clear hF hP hall hall2 hby
  go_enter Try.func18, Try.ntmps18
  go_wp2_with fail
  obtain ⟨W0, hW0⟩ : ∃ W0, W0 = (((((w.alloc (.cells #[.slice a n c, .slice b m d, .int .i64 cp, .int .i64 fu, .bool de] 32)).alloc (.cells #[.string nm] 9)).alloc (.cells #[.int .i64 pg] 2)).alloc (.cells #[.slice pa pn pc] 27)).alloc (.cells #[.int .i64 0, .slice none 0 0, .slice none 0 0, .int .i64 0, .int .i64 0, .bool false] 40)) := ⟨_, rfl⟩
  obtain ⟨hs0, hb0, k0, k1, k2, k3, k4⟩ := five_allocs hW0
  rw [← hW0]
  clear hW0
  have HK1 : Hid (W0.heap[w.heap.size + 1]? = some (.cells #[.string nm] 9)) := k1
  have HK2 : Hid (W0.heap[w.heap.size + 1 + 1]? = some (.cells #[.int .i64 pg] 2)) := k2
  have HK3 : Hid (W0.heap[w.heap.size + 1 + 1 + 1]? = some (.cells #[.slice pa pn pc] 27)) := k3
  have HK4 : Hid (W0.heap[w.heap.size + 1 + 1 + 1 + 1]? = some (.cells #[.int .i64 0, .slice none 0 0, .slice none 0 0, .int .i64 0, .int .i64 0, .bool false] 40)) := k4
  have S0 : (W0.cell? ⟨w.heap.size, 0, none⟩ = some (.slice a n c) ∧ W0.cell? ⟨w.heap.size, 1, none⟩ = some (.slice b m d) ∧ W0.cell? ⟨w.heap.size, 2, none⟩ = some (.int .i64 cp) ∧ W0.cell? ⟨w.heap.size, 3, none⟩ = some (.int .i64 fu) ∧ W0.cell? ⟨w.heap.size, 4, none⟩ = some (.bool de)) ∧ W0.cell? ⟨w.heap.size + 1, 0, none⟩ = some (.string nm) ∧ W0.cell? ⟨w.heap.size + 1 + 1, 0, none⟩ = some (.int .i64 pg) ∧ W0.cell? ⟨w.heap.size + 1 + 1 + 1, 0, none⟩ = some (.slice pa pn pc) := by simp [World.cell?, k0, k1, k2, k3]
  have HSF : Hid (∀ (X Y : World) {F : Nat → Prop}, ((X.cell? ⟨w.heap.size, 0, none⟩ = some (.slice a n c) ∧ X.cell? ⟨w.heap.size, 1, none⟩ = some (.slice b m d) ∧ X.cell? ⟨w.heap.size, 2, none⟩ = some (.int .i64 cp) ∧ X.cell? ⟨w.heap.size, 3, none⟩ = some (.int .i64 fu) ∧ X.cell? ⟨w.heap.size, 4, none⟩ = some (.bool de)) ∧ X.cell? ⟨w.heap.size + 1, 0, none⟩ = some (.string nm) ∧ X.cell? ⟨w.heap.size + 1 + 1, 0, none⟩ = some (.int .i64 pg) ∧ X.cell? ⟨w.heap.size + 1 + 1 + 1, 0, none⟩ = some (.slice pa pn pc)) → Fr F X Y → (∀ g, F g → w.heap.size + 4 ≤ g) → (Y.cell? ⟨w.heap.size, 0, none⟩ = some (.slice a n c) ∧ Y.cell? ⟨w.heap.size, 1, none⟩ = some (.slice b m d) ∧ Y.cell? ⟨w.heap.size, 2, none⟩ = some (.int .i64 cp) ∧ Y.cell? ⟨w.heap.size, 3, none⟩ = some (.int .i64 fu) ∧ Y.cell? ⟨w.heap.size, 4, none⟩ = some (.bool de)) ∧ Y.cell? ⟨w.heap.size + 1, 0, none⟩ = some (.string nm) ∧ Y.cell? ⟨w.heap.size + 1 + 1, 0, none⟩ = some (.int .i64 pg) ∧ Y.cell? ⟨w.heap.size + 1 + 1 + 1, 0, none⟩ = some (.slice pa pn pc)) := fun X Y F hX hF hB => by
    have q : ∀ (N o : Nat) (v : Value), N < w.heap.size + 4 → X.cell? ⟨N, o, none⟩ = some v → Y.cell? ⟨N, o, none⟩ = some v := fun N o v hN hv => (World.cell?_of_block (hF.block N (World.block_lt_of_cell? X ⟨N, o, none⟩ hv) (fun e => by have := hB N e; omega))).trans hv
    obtain ⟨⟨e0, e1, e2, e3, e4⟩, e5, e6, e7⟩ := hX
    exact ⟨⟨q _ _ _ (by omega) e0, q _ _ _ (by omega) e1, q _ _ _ (by omega) e2, q _ _ _ (by omega) e3, q _ _ _ (by omega) e4⟩, q _ _ _ (by omega) e5, q _ _ _ (by omega) e6, q _ _ _ (by omega) e7⟩
  have HSS : Hid (∀ X, Below W0.heap.size W0 X → (X.cell? ⟨w.heap.size, 0, none⟩ = some (.slice a n c) ∧ X.cell? ⟨w.heap.size, 1, none⟩ = some (.slice b m d) ∧ X.cell? ⟨w.heap.size, 2, none⟩ = some (.int .i64 cp) ∧ X.cell? ⟨w.heap.size, 3, none⟩ = some (.int .i64 fu) ∧ X.cell? ⟨w.heap.size, 4, none⟩ = some (.bool de)) ∧ X.cell? ⟨w.heap.size + 1, 0, none⟩ = some (.string nm) ∧ X.cell? ⟨w.heap.size + 1 + 1, 0, none⟩ = some (.int .i64 pg) ∧ X.cell? ⟨w.heap.size + 1 + 1 + 1, 0, none⟩ = some (.slice pa pn pc)) := fun X hX => HSF.out W0 X S0 (Fr.of_below hX (S := fun _ => False)) (fun g e => e.elim)
  clear k0 k1 k2 k3 k4
  refine wp_region_noPanic ?_
  refine wp_region_held_drew (S := (fun w' => (w'.cell? ⟨w.heap.size, 0, none⟩ = some (.slice a n c) ∧ w'.cell? ⟨w.heap.size, 1, none⟩ = some (.slice b m d) ∧ w'.cell? ⟨w.heap.size, 2, none⟩ = some (.int .i64 cp) ∧ w'.cell? ⟨w.heap.size, 3, none⟩ = some (.int .i64 fu) ∧ w'.cell? ⟨w.heap.size, 4, none⟩ = some (.bool de)) ∧ w'.cell? ⟨w.heap.size + 1, 0, none⟩ = some (.string nm) ∧ w'.cell? ⟨w.heap.size + 1 + 1, 0, none⟩ = some (.int .i64 pg) ∧ w'.cell? ⟨w.heap.size + 1 + 1 + 1, 0, none⟩ = some (.slice pa pn pc))) (by kernel_rfl) ?_ (fun hHeld => ?_)
  · exact S0
  refine wpAnyH_take (i := 0) (oi := { dst := some 9, op := Op.load 32 (Operand.tmp 4), type := 32, pos := "l1_disk.go:105", after := #[], guard := none }) (v := ?_) rfl (by kernel_rfl) (by kernel_rfl) (by kernel_rfl) (fun _ _ _ h => h) (Or.inl ⟨by rfl, ?_⟩) (by assumption) ?_
  rotate_left 1
  · intro w hSw; (try dsimp only at hSw); go_simp; try (with_reducible rfl)
  try simp only [Act.put, List.setIfInBounds_toArray, List.set_cons_zero, List.set_cons_succ]
  refine wpAnyH_take (i := 1) (oi := { dst := some 10, op := Op.load 32 (Operand.tmp 4), type := 32, pos := "l1_disk.go:105", after := #[], guard := none }) (v := ?_) rfl (by kernel_rfl) (by kernel_rfl) (by kernel_rfl) (fun _ _ _ h => h) (Or.inl ⟨by rfl, ?_⟩) (by assumption) ?_
  rotate_left 1
  · intro w hSw; (try dsimp only at hSw); go_simp; try (with_reducible rfl)
  try simp only [Act.put, List.setIfInBounds_toArray, List.set_cons_zero, List.set_cons_succ]
  refine wpAnyH_take (i := 2) (oi := { dst := some 11, op := Op.load 9 (Operand.tmp 5), type := 9, pos := "l1_disk.go:105", after := #[], guard := none }) (v := ?_) rfl (by kernel_rfl) (by kernel_rfl) (by kernel_rfl) (fun _ _ _ h => h) (Or.inl ⟨by rfl, ?_⟩) (by assumption) ?_
  rotate_left 1
  · intro w hSw; (try dsimp only at hSw); go_simp; try (with_reducible rfl)
  try simp only [Act.put, List.setIfInBounds_toArray, List.set_cons_zero, List.set_cons_succ]
  refine wpAnyH_take (i := 3) (oi := { dst := some 12, op := Op.load 2 (Operand.tmp 6), type := 2, pos := "l1_disk.go:105", after := #[], guard := none }) (v := ?_) rfl (by kernel_rfl) (by kernel_rfl) (by kernel_rfl) (fun _ _ _ h => h) (Or.inl ⟨by rfl, ?_⟩) (by assumption) ?_
  rotate_left 1
  · intro w hSw; (try dsimp only at hSw); go_simp; try (with_reducible rfl)
  try simp only [Act.put, List.setIfInBounds_toArray, List.set_cons_zero, List.set_cons_succ]
  refine wpAnyH_take (i := 4) (oi := { dst := some 13, op := Op.load 27 (Operand.tmp 7), type := 27, pos := "l1_disk.go:105", after := #[], guard := none }) (v := ?_) rfl (by kernel_rfl) (by kernel_rfl) (by kernel_rfl) (fun _ _ _ h => h) (Or.inl ⟨by rfl, ?_⟩) (by assumption) ?_
  rotate_left 1
  · intro w hSw; (try dsimp only at hSw); go_simp; try (with_reducible rfl)
  try simp only [Act.put, List.setIfInBounds_toArray, List.set_cons_zero, List.set_cons_succ]
  refine wpAnyH_take (i := 6) (oi := { dst := some 15, op := Op.makeFunc (Fn.func 51) #[] #[Operand.tmp 5, Operand.tmp 6, Operand.tmp 7], type := 81, pos := "l1_disk.go:105", after := #[], guard := none }) (v := ?_) rfl (by kernel_rfl) (by kernel_rfl) (by kernel_rfl) (fun _ _ _ h => h) (Or.inl ⟨by rfl, ?_⟩) (by assumption) ?_
  rotate_left 1
  · intro w hSw; (try dsimp only at hSw); go_simp; try (with_reducible rfl)
  try simp only [Act.put, List.setIfInBounds_toArray, List.set_cons_zero, List.set_cons_succ]
  refine wpAnyH_ready (rs := [5]) (by kernel_rfl) (by simp) ?_
  refine AllReadyH.cons (o := { dst := some 14, op := Op.call { callee := Callee.value (Operand.func 50), args := #[Operand.tmp 10, Operand.tmp 11, Operand.tmp 12, Operand.tmp 13], argTypes := #[32, 9, 2, 27] }, type := 2, pos := "l1_disk.go:105", after := #[{ on := 1, ground := Ground.data }, { on := 2, ground := Ground.data }, { on := 3, ground := Ground.data }, { on := 4, ground := Ground.data }], guard := none }) rfl (fun K hK => ?_) ?_
  rotate_left 1
  exact AllReadyH.nil
  · go_simp
    refine (refuseWrite_any a n c fs b m d ps cp fu de nm pg pa pn pc bs W0.drew A B (by show B ≤ W0.heap.size; omega) (HF.out _ hb0.drew) (HP.out _ hb0.drew) hs HBL.out HA.out).mono ?_
    rintro e w1 ⟨rfl, hb1x⟩
    have hb1 : Below W0.heap.size W0 w1 := ((Below.refl _ W0).drew).trans hb1x
    have hs1 := hb1.size
    have bel1 : Below w.heap.size w w1 := hb0.trans (hb1.mono (by omega))
    have S1 := HSS.out w1 hb1
    have kR := (hb1.block _ (by omega)).trans HK4.out
    have n1 := (hb1.block _ (by omega)).trans HK1.out
    have n2 := (hb1.block _ (by omega)).trans HK2.out
    have n3 := (hb1.block _ (by omega)).trans HK3.out
    obtain ⟨rf, hrf⟩ : ∃ rf, rf = rwI fs ps cp fu de nm pg bs := ⟨_, rfl⟩
    rw [← hrf]
    have HRF : Hid (rf = rwI fs ps cp fu de nm pg bs) := hrf
    clear hrf hb1x
    go_wp2_with fail
    refine hK.out _ _ S1 (fun hHeld => ?_)
    clear hK K
    try simp only [Act.put, List.setIfInBounds_toArray, List.set_cons_zero, List.set_cons_succ]
    refine wpAnyH_ready (rs := [7]) (by kernel_rfl) (by simp) ?_
    refine AllReadyH.cons (o := { dst := some 16, op := Op.call { callee := Callee.value (Operand.func 49), args := #[Operand.tmp 9, Operand.tmp 14, Operand.tmp 15], argTypes := #[32, 2, 81] }, type := 40, pos := "l1_disk.go:105", after := #[{ on := 0, ground := Ground.data }, { on := 5, ground := Ground.data }, { on := 6, ground := Ground.data }, { on := 5, ground := Ground.chain }], guard := none }) rfl (fun K hK => ?_) ?_
    rotate_left 1
    exact AllReadyH.nil
    · go_simp
      refine (deviceStepW_any a n c fs fs b m d ps (ps ++ [(nm, pg, bs)]) cp fu de rf (w.heap.size + 1) (w.heap.size + 1 + 1) (w.heap.size + 1 + 1 + 1) w1 A B (by omega) (HF.out _ bel1) (HP.out _ bel1) hn hm HA.out HA2.out hfu (fun _ => writeChange nm hs pg hpg pa pn pc bs _ _ _ fs ps (by have := HML.out; omega) cp de w1 A B (by omega) (HBY.out _ bel1) hpn n1 n2 n3)).mono ?_
      rintro e w2 hres
      obtain ⟨a2, c2, b2, d2, xs, vs, ys, us, rfl, hO2, hb2⟩ := hres.out
      have hs2 := hb2.size
      have S2 := HSS.out w2 (hb1.trans (hb2.mono hs1))
      have kR2 := (hb2.block _ (by omega)).trans kR
      have HR : Hid (ResAt w (.returned (.agg #[.int .i64 (dsE rf fu), .slice a2 (dsX rf fu fs fs).length c2, .slice b2 (dsX rf fu ps (ps ++ [(nm, pg, bs)])).length d2, .int .i64 cp, .int .i64 (dsF rf fu), .bool (dsD rf fu de)])) (put6R w2 (w.heap.size + 1 + 1 + 1 + 1) (.int .i64 (dsE rf fu)) (.slice a2 (dsX rf fu fs fs).length c2) (.slice b2 (dsX rf fu ps (ps ++ [(nm, pg, bs)])).length d2) (.int .i64 cp) (.int .i64 (dsF rf fu)) (.bool (dsD rf fu de))) (dsE rf fu) (dsX rf fu fs fs) (dsX rf fu ps (ps ++ [(nm, pg, bs)])) cp (dsF rf fu) (dsD rf fu de)) := ResAt.mk6 (by omega) (base := w1.heap.size) hO2 (by omega) (by omega) (bel1.trans (hb2.mono bel1.size))
      clear hres hO2
      go_wp2_with fail
      refine hK.out _ _ S2 (fun hHeld => ?_)
      clear hK K
      try simp only [Act.put, List.setIfInBounds_toArray, List.set_cons_zero, List.set_cons_succ]
      refine wpAnyH_ready (rs := [8]) (by kernel_rfl) (by simp) ?_
      refine AllReadyH.cons (o := { dst := none, op := Op.store 40 (Operand.tmp 8) (Operand.tmp 16), type := 0, pos := "l1_disk.go:105", after := #[{ on := 7, ground := Ground.data }, { on := 7, ground := Ground.chain }, { on := 0, ground := Ground.phase }, { on := 1, ground := Ground.phase }, { on := 2, ground := Ground.phase }, { on := 3, ground := Ground.phase }, { on := 4, ground := Ground.phase }, { on := 5, ground := Ground.phase }, { on := 6, ground := Ground.phase }, { on := 7, ground := Ground.phase }], guard := none }) rfl (fun K hK => ?_) ?_
      rotate_left 1
      exact AllReadyH.nil
      · obtain ⟨r0, r1, r2, r3, r4, r5⟩ := box_sixR kR2
        have ff := box_thawC kR2
        have HB := put6R_box kR2 (.int .i64 (dsE rf fu)) (.slice a2 (dsX rf fu fs fs).length c2) (.slice b2 (dsX rf fu ps (ps ++ [(nm, pg, bs)])).length d2) (.int .i64 cp) (.int .i64 (dsF rf fu)) (.bool (dsD rf fu de))
        have S3 : ((put6R w2 (w.heap.size + 1 + 1 + 1 + 1) (.int .i64 (dsE rf fu)) (.slice a2 (dsX rf fu fs fs).length c2) (.slice b2 (dsX rf fu ps (ps ++ [(nm, pg, bs)])).length d2) (.int .i64 cp) (.int .i64 (dsF rf fu)) (.bool (dsD rf fu de))).cell? ⟨w.heap.size, 0, none⟩ = some (.slice a n c) ∧ (put6R w2 (w.heap.size + 1 + 1 + 1 + 1) (.int .i64 (dsE rf fu)) (.slice a2 (dsX rf fu fs fs).length c2) (.slice b2 (dsX rf fu ps (ps ++ [(nm, pg, bs)])).length d2) (.int .i64 cp) (.int .i64 (dsF rf fu)) (.bool (dsD rf fu de))).cell? ⟨w.heap.size, 1, none⟩ = some (.slice b m d) ∧ (put6R w2 (w.heap.size + 1 + 1 + 1 + 1) (.int .i64 (dsE rf fu)) (.slice a2 (dsX rf fu fs fs).length c2) (.slice b2 (dsX rf fu ps (ps ++ [(nm, pg, bs)])).length d2) (.int .i64 cp) (.int .i64 (dsF rf fu)) (.bool (dsD rf fu de))).cell? ⟨w.heap.size, 2, none⟩ = some (.int .i64 cp) ∧ (put6R w2 (w.heap.size + 1 + 1 + 1 + 1) (.int .i64 (dsE rf fu)) (.slice a2 (dsX rf fu fs fs).length c2) (.slice b2 (dsX rf fu ps (ps ++ [(nm, pg, bs)])).length d2) (.int .i64 cp) (.int .i64 (dsF rf fu)) (.bool (dsD rf fu de))).cell? ⟨w.heap.size, 3, none⟩ = some (.int .i64 fu) ∧ (put6R w2 (w.heap.size + 1 + 1 + 1 + 1) (.int .i64 (dsE rf fu)) (.slice a2 (dsX rf fu fs fs).length c2) (.slice b2 (dsX rf fu ps (ps ++ [(nm, pg, bs)])).length d2) (.int .i64 cp) (.int .i64 (dsF rf fu)) (.bool (dsD rf fu de))).cell? ⟨w.heap.size, 4, none⟩ = some (.bool de)) ∧ (put6R w2 (w.heap.size + 1 + 1 + 1 + 1) (.int .i64 (dsE rf fu)) (.slice a2 (dsX rf fu fs fs).length c2) (.slice b2 (dsX rf fu ps (ps ++ [(nm, pg, bs)])).length d2) (.int .i64 cp) (.int .i64 (dsF rf fu)) (.bool (dsD rf fu de))).cell? ⟨w.heap.size + 1, 0, none⟩ = some (.string nm) ∧ (put6R w2 (w.heap.size + 1 + 1 + 1 + 1) (.int .i64 (dsE rf fu)) (.slice a2 (dsX rf fu fs fs).length c2) (.slice b2 (dsX rf fu ps (ps ++ [(nm, pg, bs)])).length d2) (.int .i64 cp) (.int .i64 (dsF rf fu)) (.bool (dsD rf fu de))).cell? ⟨w.heap.size + 1 + 1, 0, none⟩ = some (.int .i64 pg) ∧ (put6R w2 (w.heap.size + 1 + 1 + 1 + 1) (.int .i64 (dsE rf fu)) (.slice a2 (dsX rf fu fs fs).length c2) (.slice b2 (dsX rf fu ps (ps ++ [(nm, pg, bs)])).length d2) (.int .i64 cp) (.int .i64 (dsF rf fu)) (.bool (dsD rf fu de))).cell? ⟨w.heap.size + 1 + 1 + 1, 0, none⟩ = some (.slice pa pn pc) := HSF.out _ _ S2 (put6R_fr _ _ _ _ _ _ _ _) (fun g e => by omega)
        go_simp
        clear r0 r1 r2 r3 r4 r5
        refine hK.out _ _ S3 (fun hHeld => ?_)
        clear hK K
        try simp only [Act.put, List.setIfInBounds_toArray, List.set_cons_zero, List.set_cons_succ]
        refine wpAnyH_done (by kernel_rfl) ?_ _
        refine NoPanic.normal ?_
        go_wp2
        show bodyPost _ _ _ _ _ (put6R w2 (w.heap.size + 1 + 1 + 1 + 1) (.int .i64 (dsE rf fu)) (.slice a2 (dsX rf fu fs fs).length c2) (.slice b2 (dsX rf fu ps (ps ++ [(nm, pg, bs)])).length d2) (.int .i64 cp) (.int .i64 (dsF rf fu)) (.bool (dsD rf fu de)))
        obtain ⟨r0, r1, r2, r3, r4, r5⟩ := box_sixR HB
        exact bodyPost_ret (v := .agg #[.int .i64 (dsE rf fu), .slice a2 (dsX rf fu fs fs).length c2, .slice b2 (dsX rf fu ps (ps ++ [(nm, pg, bs)])).length d2, .int .i64 cp, .int .i64 (dsF rf fu), .bool (dsD rf fu de)]) (by simp [results, Try.results18, go_sem, r0, r1, r2, r3, r4, r5]) rfl (by rw [← HRF.out]; exact HR.out)
end Go.Proofs.Ytmmdkjeoadlikaa
