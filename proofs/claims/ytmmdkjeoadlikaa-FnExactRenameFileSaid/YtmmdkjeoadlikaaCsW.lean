import Derived.Test.YtmmdkjeoadlikaaCs
namespace Go.Proofs.Ytmmdkjeoadlikaa
open Go.RowKit
set_option linter.unusedVariables false
set_option maxRecDepth 100000

theorem own_lowerC {w : World} {b b' e size : Nat} {v : Value} {n : Nat} {xs : List Value} (h : w.ownsRow b e size v n xs) (hb : b' ≤ b) : w.ownsRow b' e size v n xs := own_lowerD h hb
theorem OwnF.lower {w : World} {base base' : Nat} {v : Value} {fs : List PF} {xs vs : List Value} (h : OwnF w base v fs xs vs) (hb : base' ≤ base) : OwnF w base' v fs xs vs :=
  ⟨own_lowerC h.row hb, h.len, h.name, h.val, fun j hj => own_lowerC (h.data j hj) hb, h.byte, h.apart⟩
theorem OwnP.lower {w : World} {base base' : Nat} {v : Value} {fs : List PP} {xs vs : List Value} (h : OwnP w base v fs xs vs) (hb : base' ≤ base) : OwnP w base' v fs xs vs :=
  ⟨own_lowerC h.row hb, h.len, h.name, h.page, h.val, fun j hj => own_lowerC (h.data j hj) hb, h.byte, h.apart⟩
theorem box_fiveC {w : World} {N : Nat} {v0 v1 v2 v3 v4 : Value} {t : TypeId} (h : w.heap[N]? = some (.cells #[v0, v1, v2, v3, v4] t)) : w.cell? ⟨N, 0, none⟩ = some v0 ∧ w.cell? ⟨N, 1, none⟩ = some v1 ∧ w.cell? ⟨N, 2, none⟩ = some v2 ∧ w.cell? ⟨N, 3, none⟩ = some v3 ∧ w.cell? ⟨N, 4, none⟩ = some v4 := by
  refine ⟨?_, ?_, ?_, ?_, ?_⟩ <;> simp [World.cell?, h]
theorem box_threeC {w : World} {N : Nat} {v0 v1 v2 : Value} {t : TypeId} (h : w.heap[N]? = some (.cells #[v0, v1, v2] t)) : w.cell? ⟨N, 0, none⟩ = some v0 ∧ w.cell? ⟨N, 1, none⟩ = some v1 ∧ w.cell? ⟨N, 2, none⟩ = some v2 := by
  refine ⟨?_, ?_, ?_⟩ <;> simp [World.cell?, h]
theorem box_thawC {w : World} {M t : Nat} {cs : Array Value} (h : w.heap[M]? = some (.cells cs t)) (j : Nat) : w.frozen? ⟨M, j, none⟩ = false := by simp [World.frozen?, h]
def put5C (w : World) (N : Nat) (u0 u1 u2 u3 u4 : Value) : World := ((((w.setCell ⟨N, 0, none⟩ u0).setCell ⟨N, 1, none⟩ u1).setCell ⟨N, 2, none⟩ u2).setCell ⟨N, 3, none⟩ u3).setCell ⟨N, 4, none⟩ u4
theorem put5C_box {w : World} {N t : Nat} {v0 v1 v2 v3 v4 : Value} (h : w.heap[N]? = some (.cells #[v0, v1, v2, v3, v4] t)) (u0 u1 u2 u3 u4 : Value) : (put5C w N u0 u1 u2 u3 u4).heap[N]? = some (.cells #[u0, u1, u2, u3, u4] t) := by
  simp [put5C, World.setCell, Array.getElem?_modify, h]
theorem put5C_fr (w : World) (N : Nat) (u0 u1 u2 u3 u4 : Value) : Fr (fun x => x = N) w (put5C w N u0 u1 u2 u3 u4) :=
  ((((fr_setCell _ _ _ _).trans (fr_setCell _ _ _ _)).trans (fr_setCell _ _ _ _)).trans (fr_setCell _ _ _ _)).trans (fr_setCell _ _ _ _)
set_option maxHeartbeats 3200000 in
theorem l1Copy_any (a : Option Addr) (n c : Nat) (fs : List PF) (b : Option Addr) (m d : Nat) (ps : List PP) (cp fu : Int) (de : Bool) (w : World) (A B : Nat) (hB : B ≤ w.heap.size)
    (hF : FilesAt w A B a n c fs) (hP : PendsAt w A B b m d ps) (hn : n ≤ 1048576) (hm : m ≤ 1048576) (hall : ∀ j, j < n → (fs.getD j (ByteArray.empty, [])).2.length ≤ 1048576) (hall2 : ∀ j, j < m → (ps.getD j (ByteArray.empty, 0, [])).2.2.length ≤ 1048576) :
    Calls Try.prog 46 #[.agg #[.slice a n c, .slice b m d, .int .i64 cp, .int .i64 fu, .bool de]] w fun e w' => ∃ v u xs vs ys us, e = .returned (.agg #[v, u, .int .i64 cp, .int .i64 fu, .bool de]) ∧ OwnD w' w.heap.size v u fs ps xs vs ys us ∧ Below w.heap.size w w' := by
  obtain ⟨i0, hi, hz0, hz1, hz2⟩ := info_parts info_Pend
  go_enter Try.func46, Try.ntmps46
  go_wp2_with fail
  have hs0 : (((w.alloc (.cells #[.slice a n c, .slice b m d, .int .i64 cp, .int .i64 fu, .bool de] 32)).alloc (.cells #[.slice none 0 0, .slice none 0 0, .int .i64 0, .int .i64 0, .bool false] 32)).alloc (.cells #[.slice a n c, .slice b m d, .int .i64 cp, .int .i64 fu, .bool de] 32)).heap.size = w.heap.size + 3 := by simp
  have hb0 : Below w.heap.size w (((w.alloc (.cells #[.slice a n c, .slice b m d, .int .i64 cp, .int .i64 fu, .bool de] 32)).alloc (.cells #[.slice none 0 0, .slice none 0 0, .int .i64 0, .int .i64 0, .bool false] 32)).alloc (.cells #[.slice a n c, .slice b m d, .int .i64 cp, .int .i64 fu, .bool de] 32)) := (((Below.refl _ _).alloc (Nat.le_refl _) _).alloc (by simp) _).alloc (by simp; omega) _
  have k0 : (((w.alloc (.cells #[.slice a n c, .slice b m d, .int .i64 cp, .int .i64 fu, .bool de] 32)).alloc (.cells #[.slice none 0 0, .slice none 0 0, .int .i64 0, .int .i64 0, .bool false] 32)).alloc (.cells #[.slice a n c, .slice b m d, .int .i64 cp, .int .i64 fu, .bool de] 32)).heap[w.heap.size]? = some (.cells #[.slice a n c, .slice b m d, .int .i64 cp, .int .i64 fu, .bool de] 32) := by show (((w.heap.push _).push _).push _)[w.heap.size]? = _; simp [Array.getElem?_push]
  have k1 : (((w.alloc (.cells #[.slice a n c, .slice b m d, .int .i64 cp, .int .i64 fu, .bool de] 32)).alloc (.cells #[.slice none 0 0, .slice none 0 0, .int .i64 0, .int .i64 0, .bool false] 32)).alloc (.cells #[.slice a n c, .slice b m d, .int .i64 cp, .int .i64 fu, .bool de] 32)).heap[w.heap.size + 1]? = some (.cells #[.slice none 0 0, .slice none 0 0, .int .i64 0, .int .i64 0, .bool false] 32) := by have := heap_alloc_new (w.alloc (.cells #[.slice a n c, .slice b m d, .int .i64 cp, .int .i64 fu, .bool de] 32)) (.cells #[.slice none 0 0, .slice none 0 0, .int .i64 0, .int .i64 0, .bool false] 32); rw [heap_alloc_old _ _ (by simp)]; simpa using this
  have k2 : (((w.alloc (.cells #[.slice a n c, .slice b m d, .int .i64 cp, .int .i64 fu, .bool de] 32)).alloc (.cells #[.slice none 0 0, .slice none 0 0, .int .i64 0, .int .i64 0, .bool false] 32)).alloc (.cells #[.slice a n c, .slice b m d, .int .i64 cp, .int .i64 fu, .bool de] 32)).heap[w.heap.size + 1 + 1]? = some (.cells #[.slice a n c, .slice b m d, .int .i64 cp, .int .i64 fu, .bool de] 32) := by show (((w.heap.push _).push _).push _)[w.heap.size + 1 + 1]? = _; rw [Array.getElem?_push, if_pos (by simp)]
  generalize (((w.alloc (.cells #[.slice a n c, .slice b m d, .int .i64 cp, .int .i64 fu, .bool de] 32)).alloc (.cells #[.slice none 0 0, .slice none 0 0, .int .i64 0, .int .i64 0, .bool false] 32)).alloc (.cells #[.slice a n c, .slice b m d, .int .i64 cp, .int .i64 fu, .bool de] 32)) = W0 at hs0 hb0 k0 k1 k2 ⊢
  refine (l1Files_any a n c fs W0 A B (by omega) (hF.below (hb0.mono hB)) hn hall).mono ?_
  rintro e w1 ⟨v1, xs1, vs1, rfl, hO1, hb1⟩
  obtain ⟨a1, n1, rfl⟩ := own_shape hO1.row
  have hs1 := hb1.size
  have j0 := (hb1.block w.heap.size (by omega)).trans k0
  have j1 := (hb1.block (w.heap.size + 1) (by omega)).trans k1
  have j2 := (hb1.block (w.heap.size + 1 + 1) (by omega)).trans k2
  rw [hs0] at hO1 hs1
  have b1 : Below w.heap.size w w1 := hb0.trans (hb1.mono (by omega))
  clear hb0 k0 k1 k2 hb1 hs0 hF hall
  obtain ⟨p0, p1, p2, p3, p4⟩ := box_fiveC j0
  obtain ⟨q0, q1, q2, q3, q4⟩ := box_fiveC j2
  have fq := box_thawC j2
  have hl1 : w.heap.size + 1 + 1 < w1.heap.size := by omega
  have m1 := heap_setCell_at j2 0 (.slice a1 fs.length n1)
  have m2 : ((w1.setCell ⟨w.heap.size + 1 + 1, 0, none⟩ (.slice a1 fs.length n1)).setCell ⟨w.heap.size + 1 + 1, 1, none⟩ (.slice (some ⟨w1.heap.size, 0, none⟩) 0 0)).heap[w.heap.size + 1 + 1]? = some (.cells #[.slice a1 fs.length n1, .slice (some ⟨w1.heap.size, 0, none⟩) 0 0, .int .i64 cp, .int .i64 fu, .bool de] 32) := heap_setCell_at m1 1 _
  obtain ⟨r0, r1, r2, r3, r4⟩ := box_fiveC m1
  have fr := box_thawC m1
  have hsz2 : ((w1.setCell ⟨w.heap.size + 1 + 1, 0, none⟩ (.slice a1 fs.length n1)).setCell ⟨w.heap.size + 1 + 1, 1, none⟩ (.slice (some ⟨w1.heap.size, 0, none⟩) 0 0)).heap.size = w1.heap.size := by simp [World.setCell]
  have hown : (((w1.setCell ⟨w.heap.size + 1 + 1, 0, none⟩ (.slice a1 fs.length n1)).setCell ⟨w.heap.size + 1 + 1, 1, none⟩ (.slice (some ⟨w1.heap.size, 0, none⟩) 0 0)).alloc (.cells #[] 77)).ownsRow (w.heap.size + 3) 77 3 (.slice (some ⟨w1.heap.size, 0, none⟩) 0 0) 0 [] := by
    have := World.ownsRow_made ((w1.setCell ⟨w.heap.size + 1 + 1, 0, none⟩ (.slice a1 fs.length n1)).setCell ⟨w.heap.size + 1 + 1, 1, none⟩ (.slice (some ⟨w1.heap.size, 0, none⟩) 0 0)) #[] (base := w.heap.size + 3) (e := 77) (size := 3) 0 (by rw [hsz2]; omega) (by unfold maxLen; omega) (by simp)
    rw [hsz2] at this
    simpa using this
  have hF3 : Fr (fun k => k = w.heap.size + 1 + 1) w1 (((w1.setCell ⟨w.heap.size + 1 + 1, 0, none⟩ (.slice a1 fs.length n1)).setCell ⟨w.heap.size + 1 + 1, 1, none⟩ (.slice (some ⟨w1.heap.size, 0, none⟩) 0 0)).alloc (.cells #[] 77)) := ((fr_setCell _ _ _ _).trans (fr_setCell _ _ _ _)).trans (Fr.of_below ((Below.refl _ _).alloc (Nat.le_refl _) _))
  have st0 : CSt w (((w1.setCell ⟨w.heap.size + 1 + 1, 0, none⟩ (.slice a1 fs.length n1)).setCell ⟨w.heap.size + 1 + 1, 1, none⟩ (.slice (some ⟨w1.heap.size, 0, none⟩) 0 0)).alloc (.cells #[] 77)) cp fu de (.slice a n c) (.slice b m d) (.slice a1 fs.length n1) (.slice (some ⟨w1.heap.size, 0, none⟩) 0 0) fs xs1 vs1 [] [] [] := by
    refine ⟨(hF3.block _ (by omega) (by omega)).trans j0, (hF3.block _ (by omega) (by omega)).trans j1, (heap_alloc_old _ _ (by rw [hsz2]; omega)).trans m2, hO1.fr hF3 (fun g hg e => by have := (hO1.blk hg).1; omega), OwnP.nil hown, ?_, b1.trans (hF3.below (by omega) (fun g e => by omega))⟩
    intro g hg hg2
    have := (hO1.blk hg).2
    rcases hg2 with e | ⟨j, hj, e⟩
    · simp [Value.ownBlock] at e; omega
    · cases hj
  have ST0 : Hid (CSt w (((w1.setCell ⟨w.heap.size + 1 + 1, 0, none⟩ (.slice a1 fs.length n1)).setCell ⟨w.heap.size + 1 + 1, 1, none⟩ (.slice (some ⟨w1.heap.size, 0, none⟩) 0 0)).alloc (.cells #[] 77)) cp fu de (.slice a n c) (.slice b m d) (.slice a1 fs.length n1) (.slice (some ⟨w1.heap.size, 0, none⟩) 0 0) fs xs1 vs1 [] [] []) := st0
  clear st0 hF3 hown hO1 b1 m1 m2 j0 j1 j2 hsz2
  go_wp2_with fail
  clear p0 p1 p2 p3 p4 q0 q1 q2 q3 q4 fq r0 r1 r2 r3 r4 fr
  go_loopw [4] (fun i wr => ∃ (j : Nat) (ua : Option Addr) (uc : Nat) (ys us : List Value), j ≤ m ∧ i = .int .i64 j ∧ Hid (CSt w wr cp fu de (.slice a n c) (.slice b m d) (.slice a1 fs.length n1) (.slice ua j uc) fs xs1 vs1 (ps.take j) ys us)) (fun i _ => m - (intOf i).toNat)
  case atStart => exact ⟨0, some ⟨w1.heap.size, 0, none⟩, 0, [], [], Nat.zero_le _, rfl, by rw [List.take_zero]; exact ST0⟩
  case round =>
    clear ST0
    obtain ⟨j, ua, uc, ys, us, hj, rfl, hst⟩ := hrel
    have st := hst.out
    clear hst
    have hl := st.lt
    have hbs := st.bel.size
    obtain ⟨p0, p1, p2, p3, p4⟩ := box_fiveC st.d
    have hpl := hP.1
    by_cases hlt : j < m
    · obtain ⟨_, hpc, hpd, hpcell⟩ := hP
      obtain ⟨pb, po, rfl, hpb, hpi⟩ := hpcell (by omega)
      have e1 := (hpi j hlt).below hpb (st.bel.mono hB)
      have e2 := hall2 j hlt
      have hsn := take_snocP ps j (ByteArray.empty, 0, []) (by omega)
      clear hpcell hpi hall2
      generalize ps.getD j (ByteArray.empty, 0, []) = f at e1 e2 hsn
      have HS : Hid (ps.take (j + 1) = ps.take j ++ [f]) := hsn
      have hkl : (ps.take j).length = j := by simp; omega
      have HKL : Hid ((ps.take j).length = j) := hkl
      have HPL : Hid (ps.length = m) := hpl
      clear hsn hpl
      obtain ⟨x0, x1, x2, x3, pa, pn, pc, x4, x5⟩ := e1
      have hpn := x5.1
      have hpnb : pn ≤ 1048576 := by omega
      have hrow := st.cache.row
      rw [hkl] at hrow
      clear hkl
      have X := heap_alloc_new wr (.cells #[.string f.1, .int .i64 f.2.1, .slice pa pn pc] 77)
      have hal : Below wr.heap.size wr (wr.alloc (.cells #[.string f.1, .int .i64 f.2.1, .slice pa pn pc] 77)) := (Below.refl _ _).alloc (Nat.le_refl _) _
      have st1 := st.below hal
      have hrow1 := owns_below hrow hal
      have x51 := x5.below (hal.mono (by omega))
      have HX5 : Hid (∀ x ∈ f.2.2, 0 ≤ x ∧ x ≤ 255) := x5.2.2.2.1
      have hbk : pb < wr.heap.size := by omega
      have hx1 : f.1.size ≤ maxLen := x1
      clear st
      have HNB0 : Hid (∀ g, (Value.slice ua j uc).ownBlock = some g → g ≠ wr.heap.size) := fun g e => by have := (hrow.lt g e).2; omega
      have HROW1 : Hid (World.ownsRow _ (w.heap.size + 3) 77 3 (.slice ua j uc) j ys) := hrow1
      clear hrow1 hrow
      have HP0 : Hid (f.2.2.length = pn) := hpn
      clear hpn
      clear x5
      go_wp2_with fail
      clear p0 p1 p2 p3 p4 x0 x2 x4
      have hs1 : wr.heap.size < (wr.alloc (.cells #[.string f.1, .int .i64 f.2.1, .slice pa pn pc] 77)).heap.size := (Array.getElem?_eq_some_iff.1 X).1
      have hrow1 : World.ownsRow _ (w.heap.size + 3) 77 3 (.slice ua j uc) j ys := HROW1.out
      generalize wr.alloc (.cells #[.string f.1, .int .i64 f.2.1, .slice pa pn pc] 77) = X1 at X hal st1 hrow1 x51 hs1 HROW1 ⊢
      clear HROW1 hal
      generalize wr.heap.size = PB at X hl hs1 hbk hbs HNB0 ⊢
      have HNB : Hid (∀ g, (Value.slice ua j uc).ownBlock = some g → g ≠ PB) := HNB0
      refine wp_region_noPanic ?_
      refine wp_region_held_drew (S := (fun w' => w'.cell? ⟨PB, 0, none⟩ = some (.string f.1) ∧ w'.cell? ⟨PB, 1, none⟩ = some (.int .i64 f.2.1) ∧ w'.cell? ⟨PB, 2, none⟩ = some (.slice pa pn pc))) (by kernel_rfl) ?_ (fun hHeld => ?_)
      · exact box_threeC X
      refine wpAnyH_take (i := 0) (oi := { dst := some 25, op := Op.fieldAddr 32 (Operand.tmp 3) 1, type := 0, pos := "l1_disk.go:35", after := #[], guard := none }) (v := ?_) rfl (by kernel_rfl) (by kernel_rfl) (by kernel_rfl) (fun _ _ _ h => h) (Or.inl ⟨by rfl, ?_⟩) (by assumption) ?_
      rotate_left 1
      · intro w hSw; (try dsimp only at hSw); go_simp; try (with_reducible rfl)
      try simp only [Act.put, List.setIfInBounds_toArray, List.set_cons_zero, List.set_cons_succ]
      refine wpAnyH_take (i := 2) (oi := { dst := some 27, op := Op.fieldAddr 77 (Operand.tmp 5) 0, type := 0, pos := "l1_disk.go:35", after := #[], guard := none }) (v := ?_) rfl (by kernel_rfl) (by kernel_rfl) (by kernel_rfl) (fun _ _ _ h => h) (Or.inl ⟨by rfl, ?_⟩) (by assumption) ?_
      rotate_left 1
      · intro w hSw; (try dsimp only at hSw); go_simp; try (with_reducible rfl)
      try simp only [Act.put, List.setIfInBounds_toArray, List.set_cons_zero, List.set_cons_succ]
      refine wpAnyH_take (i := 3) (oi := { dst := some 28, op := Op.load 9 (Operand.tmp 27), type := 9, pos := "l1_disk.go:35", after := #[{ on := 2, ground := Ground.data }], guard := none }) (v := ?_) rfl (by kernel_rfl) (by kernel_rfl) (by kernel_rfl) (fun _ _ _ h => h) (Or.inl ⟨by rfl, ?_⟩) (by assumption) ?_
      rotate_left 1
      · intro w hSw; (try dsimp only at hSw); go_simp; try (with_reducible rfl)
      try simp only [Act.put, List.setIfInBounds_toArray, List.set_cons_zero, List.set_cons_succ]
      refine wpAnyH_take (i := 4) (oi := { dst := some 29, op := Op.fieldAddr 77 (Operand.tmp 5) 1, type := 0, pos := "l1_disk.go:35", after := #[], guard := none }) (v := ?_) rfl (by kernel_rfl) (by kernel_rfl) (by kernel_rfl) (fun _ _ _ h => h) (Or.inl ⟨by rfl, ?_⟩) (by assumption) ?_
      rotate_left 1
      · intro w hSw; (try dsimp only at hSw); go_simp; try (with_reducible rfl)
      try simp only [Act.put, List.setIfInBounds_toArray, List.set_cons_zero, List.set_cons_succ]
      refine wpAnyH_take (i := 5) (oi := { dst := some 30, op := Op.load 2 (Operand.tmp 29), type := 2, pos := "l1_disk.go:35", after := #[{ on := 4, ground := Ground.data }], guard := none }) (v := ?_) rfl (by kernel_rfl) (by kernel_rfl) (by kernel_rfl) (fun _ _ _ h => h) (Or.inl ⟨by rfl, ?_⟩) (by assumption) ?_
      rotate_left 1
      · intro w hSw; (try dsimp only at hSw); go_simp; try (with_reducible rfl)
      try simp only [Act.put, List.setIfInBounds_toArray, List.set_cons_zero, List.set_cons_succ]
      refine wpAnyH_take (i := 6) (oi := { dst := some 31, op := Op.fieldAddr 77 (Operand.tmp 5) 2, type := 0, pos := "l1_disk.go:35", after := #[], guard := none }) (v := ?_) rfl (by kernel_rfl) (by kernel_rfl) (by kernel_rfl) (fun _ _ _ h => h) (Or.inl ⟨by rfl, ?_⟩) (by assumption) ?_
      rotate_left 1
      · intro w hSw; (try dsimp only at hSw); go_simp; try (with_reducible rfl)
      try simp only [Act.put, List.setIfInBounds_toArray, List.set_cons_zero, List.set_cons_succ]
      refine wpAnyH_take (i := 7) (oi := { dst := some 32, op := Op.load 27 (Operand.tmp 31), type := 27, pos := "l1_disk.go:35", after := #[{ on := 6, ground := Ground.data }], guard := none }) (v := ?_) rfl (by kernel_rfl) (by kernel_rfl) (by kernel_rfl) (fun _ _ _ h => h) (Or.inl ⟨by rfl, ?_⟩) (by assumption) ?_
      rotate_left 1
      · intro w hSw; (try dsimp only at hSw); go_simp; try (with_reducible rfl)
      try simp only [Act.put, List.setIfInBounds_toArray, List.set_cons_zero, List.set_cons_succ]
      refine wpAnyH_ready (rs := [1, 8]) (by kernel_rfl) (by simp) ?_
      refine AllReadyH.cons (o := { dst := some 26, op := Op.load 30 (Operand.tmp 25), type := 30, pos := "l1_disk.go:35", after := #[{ on := 0, ground := Ground.data }], guard := none }) rfl (fun K hK => ?_) ?_
      rotate_left 1
      refine AllReadyH.cons (o := { dst := some 33, op := Op.call { callee := Callee.value (Operand.func 48), args := #[Operand.tmp 32], argTypes := #[27] }, type := 27, pos := "l1_disk.go:35", after := #[{ on := 7, ground := Ground.data }], guard := none }) rfl (fun K hK => ?_) ?_
      rotate_left 1
      exact AllReadyH.nil
      · obtain ⟨o0, o1, o2, o3, o4⟩ := box_fiveC st1.o
        go_simp
        clear o0 o1 o2 o3 o4
        refine hK.out _ _ (box_threeC X) (fun hHeld => ?_)
        clear hK K
        try simp only [Act.put, List.setIfInBounds_toArray, List.set_cons_zero, List.set_cons_succ]
        refine wpAnyH_ready (rs := [8]) (by kernel_rfl) (by simp) ?_
        refine AllReadyH.cons (o := { dst := some 33, op := Op.call { callee := Callee.value (Operand.func 48), args := #[Operand.tmp 32], argTypes := #[27] }, type := 27, pos := "l1_disk.go:35", after := #[{ on := 7, ground := Ground.data }], guard := none }) rfl (fun K hK => ?_) ?_
        rotate_left 1
        exact AllReadyH.nil
        · go_simp
          refine (l1Bytes_any pa pn pc f.2.2 X1.drew A B (by show B ≤ X1.heap.size; omega) x51 (by omega)).mono ?_
          rintro e w2 ⟨va, vc, rfl, hvb, hb2x⟩
          have hb2 : Below X1.heap.size X1 w2 := ((Below.refl _ X1).drew).trans hb2x
          have st2 := st1.below hb2
          have XB2 := (hb2.block PB hs1).trans X
          have hs2 := hb2.size
          clear hb2x
          go_wp2_with fail
          refine hK.out _ _ (box_threeC XB2) (fun hHeld => ?_)
          clear hK K
          try simp only [Act.put, List.setIfInBounds_toArray, List.set_cons_zero, List.set_cons_succ]
          refine wpAnyH_take (i := 9) (oi := { dst := some 34, op := Op.build 77 #[(0, Operand.tmp 28), (1, Operand.tmp 30), (2, Operand.tmp 33)], type := 77, pos := "l1_disk.go:35", after := #[{ on := 3, ground := Ground.data }, { on := 5, ground := Ground.data }, { on := 8, ground := Ground.data }], guard := none }) (v := ?_) rfl (by kernel_rfl) (by kernel_rfl) (by kernel_rfl) (fun _ _ _ h => h) (Or.inl ⟨by rfl, ?_⟩) (by assumption) ?_
          rotate_left 1
          · intro w hSw; (try dsimp only at hSw); go_simp; try (with_reducible rfl)
          try simp only [Act.put, List.setIfInBounds_toArray, List.set_cons_zero, List.set_cons_succ]
          refine wpAnyH_ready (rs := [10]) (by kernel_rfl) (by simp) ?_
          refine AllReadyH.cons (o := { dst := some 35, op := Op.buildSlice 30 1 #[(0, Operand.tmp 34)], type := 30, pos := "l1_disk.go:35", after := #[{ on := 9, ground := Ground.data }], guard := none }) rfl (fun K hK => ?_) ?_
          rotate_left 1
          exact AllReadyH.nil
          · have hal3 : Below w2.heap.size w2 (w2.alloc (.cells #[.string f.1, .int .i64 f.2.1, .slice va pn vc] 77)) := (Below.refl _ _).alloc (Nat.le_refl _) _
            have st3 := st2.below hal3
            have XB3 := (hal3.block PB (by omega)).trans XB2
            go_simp
            refine hK.out _ _ (box_threeC XB3) (fun hHeld => ?_)
            clear hK K
            try simp only [Act.put, List.setIfInBounds_toArray, List.set_cons_zero, List.set_cons_succ]
            refine wpAnyH_ready (rs := [11]) (by kernel_rfl) (by simp) ?_
            refine AllReadyH.cons (o := { dst := some 36, op := Op.call { callee := Callee.builtin Builtin.append, args := #[Operand.tmp 26, Operand.tmp 35], argTypes := #[30, 30] }, type := 30, pos := "l1_disk.go:35", after := #[{ on := 1, ground := Ground.data }, { on := 10, ground := Ground.data }, { on := 8, ground := Ground.chain }], guard := none }) rfl (fun K hK => ?_) ?_
            rotate_left 1
            exact AllReadyH.nil
            · have hrow3 := owns_below (owns_below hrow1 hb2) hal3
              refine step_append_ownD rfl _ _ 30 rfl (w.heap.size + 3) 77 i0 _ 3 48 Try.underlying30 hi hz0 hz1 hz2 rfl (by decide) (.slice ua j uc) j ys (by simp [Act.eval]) hrow3 ⟨w2.heap.size, 0, none⟩ 1 1 [.string f.1, .int .i64 f.2.1, .slice va pn vc] (by simp [Act.eval]) rfl (cell_three_new _ _ _ _ _) (by simp [Value.oneCell']) (by unfold maxLen; omega) (by omega) (by have := hal3.size; omega) ?_
              intro u4 w4 hown4 hgr hlies
              obtain ⟨ua4, uc4, rfl⟩ := own_shape hown4
              have hub : ∀ g, (Value.slice ua j uc).ownBlock = some g → w.heap.size + 3 ≤ g ∧ g ≠ PB := fun g e => ⟨(hrow1.lt g e).1, fun e' => HNB.out g e e'⟩
              have XB4 := (hgr.block PB (by have := hal3.size; omega) (fun e => (hub PB e.symm).2 rfl)).trans XB3
              have XO4 := (hgr.block (w.heap.size + 1 + 1) (by have := hal3.size; omega) (fun e => by have := (hub _ e.symm).1; omega)).trans st3.o
              refine hK.out _ _ (box_threeC XB4) (fun hHeld => ?_)
              clear hK K
              try simp only [Act.put, List.setIfInBounds_toArray, List.set_cons_zero, List.set_cons_succ]
              refine wpAnyH_take (i := 12) (oi := { dst := some 37, op := Op.fieldAddr 32 (Operand.tmp 3) 1, type := 0, pos := "l1_disk.go:35", after := #[{ on := 0, ground := Ground.phase }, { on := 1, ground := Ground.phase }, { on := 2, ground := Ground.phase }, { on := 3, ground := Ground.phase }, { on := 4, ground := Ground.phase }, { on := 5, ground := Ground.phase }, { on := 6, ground := Ground.phase }, { on := 7, ground := Ground.phase }, { on := 8, ground := Ground.phase }, { on := 9, ground := Ground.phase }, { on := 10, ground := Ground.phase }, { on := 11, ground := Ground.phase }], guard := none }) (v := ?_) rfl (by kernel_rfl) (by kernel_rfl) (by kernel_rfl) (fun _ _ _ h => h) (Or.inl ⟨by rfl, ?_⟩) (by assumption) ?_
              rotate_left 1
              · intro w hSw; (try dsimp only at hSw); go_simp; try (with_reducible rfl)
              try simp only [Act.put, List.setIfInBounds_toArray, List.set_cons_zero, List.set_cons_succ]
              refine wpAnyH_ready (rs := [13]) (by kernel_rfl) (by simp) ?_
              refine AllReadyH.cons (o := { dst := none, op := Op.store 30 (Operand.tmp 37) (Operand.tmp 36), type := 0, pos := "l1_disk.go:35", after := #[{ on := 12, ground := Ground.data }, { on := 11, ground := Ground.data }, { on := 11, ground := Ground.chain }, { on := 0, ground := Ground.phase }, { on := 1, ground := Ground.phase }, { on := 2, ground := Ground.phase }, { on := 3, ground := Ground.phase }, { on := 4, ground := Ground.phase }, { on := 5, ground := Ground.phase }, { on := 6, ground := Ground.phase }, { on := 7, ground := Ground.phase }, { on := 8, ground := Ground.phase }, { on := 9, ground := Ground.phase }, { on := 10, ground := Ground.phase }, { on := 11, ground := Ground.phase }], guard := none }) rfl (fun K hK => ?_) ?_
              rotate_left 1
              exact AllReadyH.nil
              · obtain ⟨o0, o1, o2, o3, o4⟩ := box_fiveC XO4
                have fo := box_thawC XO4
                go_simp
                clear o0 o1 o2 o3 o4 fo
                refine hK.out _ _ (box_threeC (((fr_setCell w4 (w.heap.size + 1 + 1) 1 (.slice ua4 (j + 1) uc4)).block PB (Array.getElem?_eq_some_iff.1 XB4).1 (by omega)).trans XB4)) (fun hHeld => ?_)
                clear hK K
                try simp only [Act.put, List.setIfInBounds_toArray, List.set_cons_zero, List.set_cons_succ]
                refine wpAnyH_done (by kernel_rfl) ?_ _
                refine NoPanic.normal ?_
                have hst5 := CSt.push st1 hb2 (f := f) (vb := .slice va pn vc) (by rw [HP0.out]; exact hvb) hx1 x3 HX5.out hal3 (by rw [HKL.out]; exact hown4) hgr hlies
                rw [← HS.out] at hst5
                have HST5 : Hid _ := hst5
                clear hst5 hHeld XB2 XB3 XB4 XO4 hrow1 hrow3 hown4 hgr hlies st1 st2 st3 hal3 hb2 hvb X x51 hub
                go_wp2
                go_roundw
                case rel => exact ⟨j + 1, ua4, uc4, _, _, by omega, by go_num, HST5.out⟩
                case measure => simp [intOf]; omega
      · go_simp
        refine (l1Bytes_any pa pn pc f.2.2 X1.drew A B (by show B ≤ X1.heap.size; omega) x51 (by omega)).mono ?_
        rintro e w2 ⟨va, vc, rfl, hvb, hb2x⟩
        have hb2 : Below X1.heap.size X1 w2 := ((Below.refl _ X1).drew).trans hb2x
        have st2 := st1.below hb2
        have XB2 := (hb2.block PB hs1).trans X
        have hs2 := hb2.size
        clear hb2x
        go_wp2_with fail
        refine hK.out _ _ (box_threeC XB2) (fun hHeld => ?_)
        clear hK K
        try simp only [Act.put, List.setIfInBounds_toArray, List.set_cons_zero, List.set_cons_succ]
        refine wpAnyH_take (i := 9) (oi := { dst := some 34, op := Op.build 77 #[(0, Operand.tmp 28), (1, Operand.tmp 30), (2, Operand.tmp 33)], type := 77, pos := "l1_disk.go:35", after := #[{ on := 3, ground := Ground.data }, { on := 5, ground := Ground.data }, { on := 8, ground := Ground.data }], guard := none }) (v := ?_) rfl (by kernel_rfl) (by kernel_rfl) (by kernel_rfl) (fun _ _ _ h => h) (Or.inl ⟨by rfl, ?_⟩) (by assumption) ?_
        rotate_left 1
        · intro w hSw; (try dsimp only at hSw); go_simp; try (with_reducible rfl)
        try simp only [Act.put, List.setIfInBounds_toArray, List.set_cons_zero, List.set_cons_succ]
        refine wpAnyH_ready (rs := [1, 10]) (by kernel_rfl) (by simp) ?_
        refine AllReadyH.cons (o := { dst := some 26, op := Op.load 30 (Operand.tmp 25), type := 30, pos := "l1_disk.go:35", after := #[{ on := 0, ground := Ground.data }], guard := none }) rfl (fun K hK => ?_) ?_
        rotate_left 1
        refine AllReadyH.cons (o := { dst := some 35, op := Op.buildSlice 30 1 #[(0, Operand.tmp 34)], type := 30, pos := "l1_disk.go:35", after := #[{ on := 9, ground := Ground.data }], guard := none }) rfl (fun K hK => ?_) ?_
        rotate_left 1
        exact AllReadyH.nil
        · obtain ⟨o0, o1, o2, o3, o4⟩ := box_fiveC st2.o
          go_simp
          clear o0 o1 o2 o3 o4
          refine hK.out _ _ (box_threeC XB2) (fun hHeld => ?_)
          clear hK K
          try simp only [Act.put, List.setIfInBounds_toArray, List.set_cons_zero, List.set_cons_succ]
          refine wpAnyH_ready (rs := [10]) (by kernel_rfl) (by simp) ?_
          refine AllReadyH.cons (o := { dst := some 35, op := Op.buildSlice 30 1 #[(0, Operand.tmp 34)], type := 30, pos := "l1_disk.go:35", after := #[{ on := 9, ground := Ground.data }], guard := none }) rfl (fun K hK => ?_) ?_
          rotate_left 1
          exact AllReadyH.nil
          · have hal3 : Below w2.heap.size w2 (w2.alloc (.cells #[.string f.1, .int .i64 f.2.1, .slice va pn vc] 77)) := (Below.refl _ _).alloc (Nat.le_refl _) _
            have st3 := st2.below hal3
            have XB3 := (hal3.block PB (by omega)).trans XB2
            go_simp
            refine hK.out _ _ (box_threeC XB3) (fun hHeld => ?_)
            clear hK K
            try simp only [Act.put, List.setIfInBounds_toArray, List.set_cons_zero, List.set_cons_succ]
            refine wpAnyH_ready (rs := [11]) (by kernel_rfl) (by simp) ?_
            refine AllReadyH.cons (o := { dst := some 36, op := Op.call { callee := Callee.builtin Builtin.append, args := #[Operand.tmp 26, Operand.tmp 35], argTypes := #[30, 30] }, type := 30, pos := "l1_disk.go:35", after := #[{ on := 1, ground := Ground.data }, { on := 10, ground := Ground.data }, { on := 8, ground := Ground.chain }], guard := none }) rfl (fun K hK => ?_) ?_
            rotate_left 1
            exact AllReadyH.nil
            · have hrow3 := owns_below (owns_below hrow1 hb2) hal3
              refine step_append_ownD rfl _ _ 30 rfl (w.heap.size + 3) 77 i0 _ 3 48 Try.underlying30 hi hz0 hz1 hz2 rfl (by decide) (.slice ua j uc) j ys (by simp [Act.eval]) hrow3 ⟨w2.heap.size, 0, none⟩ 1 1 [.string f.1, .int .i64 f.2.1, .slice va pn vc] (by simp [Act.eval]) rfl (cell_three_new _ _ _ _ _) (by simp [Value.oneCell']) (by unfold maxLen; omega) (by omega) (by have := hal3.size; omega) ?_
              intro u4 w4 hown4 hgr hlies
              obtain ⟨ua4, uc4, rfl⟩ := own_shape hown4
              have hub : ∀ g, (Value.slice ua j uc).ownBlock = some g → w.heap.size + 3 ≤ g ∧ g ≠ PB := fun g e => ⟨(hrow1.lt g e).1, fun e' => HNB.out g e e'⟩
              have XB4 := (hgr.block PB (by have := hal3.size; omega) (fun e => (hub PB e.symm).2 rfl)).trans XB3
              have XO4 := (hgr.block (w.heap.size + 1 + 1) (by have := hal3.size; omega) (fun e => by have := (hub _ e.symm).1; omega)).trans st3.o
              refine hK.out _ _ (box_threeC XB4) (fun hHeld => ?_)
              clear hK K
              try simp only [Act.put, List.setIfInBounds_toArray, List.set_cons_zero, List.set_cons_succ]
              refine wpAnyH_take (i := 12) (oi := { dst := some 37, op := Op.fieldAddr 32 (Operand.tmp 3) 1, type := 0, pos := "l1_disk.go:35", after := #[{ on := 0, ground := Ground.phase }, { on := 1, ground := Ground.phase }, { on := 2, ground := Ground.phase }, { on := 3, ground := Ground.phase }, { on := 4, ground := Ground.phase }, { on := 5, ground := Ground.phase }, { on := 6, ground := Ground.phase }, { on := 7, ground := Ground.phase }, { on := 8, ground := Ground.phase }, { on := 9, ground := Ground.phase }, { on := 10, ground := Ground.phase }, { on := 11, ground := Ground.phase }], guard := none }) (v := ?_) rfl (by kernel_rfl) (by kernel_rfl) (by kernel_rfl) (fun _ _ _ h => h) (Or.inl ⟨by rfl, ?_⟩) (by assumption) ?_
              rotate_left 1
              · intro w hSw; (try dsimp only at hSw); go_simp; try (with_reducible rfl)
              try simp only [Act.put, List.setIfInBounds_toArray, List.set_cons_zero, List.set_cons_succ]
              refine wpAnyH_ready (rs := [13]) (by kernel_rfl) (by simp) ?_
              refine AllReadyH.cons (o := { dst := none, op := Op.store 30 (Operand.tmp 37) (Operand.tmp 36), type := 0, pos := "l1_disk.go:35", after := #[{ on := 12, ground := Ground.data }, { on := 11, ground := Ground.data }, { on := 11, ground := Ground.chain }, { on := 0, ground := Ground.phase }, { on := 1, ground := Ground.phase }, { on := 2, ground := Ground.phase }, { on := 3, ground := Ground.phase }, { on := 4, ground := Ground.phase }, { on := 5, ground := Ground.phase }, { on := 6, ground := Ground.phase }, { on := 7, ground := Ground.phase }, { on := 8, ground := Ground.phase }, { on := 9, ground := Ground.phase }, { on := 10, ground := Ground.phase }, { on := 11, ground := Ground.phase }], guard := none }) rfl (fun K hK => ?_) ?_
              rotate_left 1
              exact AllReadyH.nil
              · obtain ⟨o0, o1, o2, o3, o4⟩ := box_fiveC XO4
                have fo := box_thawC XO4
                go_simp
                clear o0 o1 o2 o3 o4 fo
                refine hK.out _ _ (box_threeC (((fr_setCell w4 (w.heap.size + 1 + 1) 1 (.slice ua4 (j + 1) uc4)).block PB (Array.getElem?_eq_some_iff.1 XB4).1 (by omega)).trans XB4)) (fun hHeld => ?_)
                clear hK K
                try simp only [Act.put, List.setIfInBounds_toArray, List.set_cons_zero, List.set_cons_succ]
                refine wpAnyH_done (by kernel_rfl) ?_ _
                refine NoPanic.normal ?_
                have hst5 := CSt.push st1 hb2 (f := f) (vb := .slice va pn vc) (by rw [HP0.out]; exact hvb) hx1 x3 HX5.out hal3 (by rw [HKL.out]; exact hown4) hgr hlies
                rw [← HS.out] at hst5
                have HST5 : Hid _ := hst5
                clear hst5 hHeld XB2 XB3 XB4 XO4 hrow1 hrow3 hown4 hgr hlies st1 st2 st3 hal3 hb2 hvb X x51 hub
                go_wp2
                go_roundw
                case rel => exact ⟨j + 1, ua4, uc4, _, _, by omega, by go_num, HST5.out⟩
                case measure => simp [intOf]; omega
        · have hal3 : Below w2.heap.size w2 (w2.alloc (.cells #[.string f.1, .int .i64 f.2.1, .slice va pn vc] 77)) := (Below.refl _ _).alloc (Nat.le_refl _) _
          have st3 := st2.below hal3
          have XB3 := (hal3.block PB (by omega)).trans XB2
          go_simp
          refine hK.out _ _ (box_threeC XB3) (fun hHeld => ?_)
          clear hK K
          try simp only [Act.put, List.setIfInBounds_toArray, List.set_cons_zero, List.set_cons_succ]
          refine wpAnyH_ready (rs := [1]) (by kernel_rfl) (by simp) ?_
          refine AllReadyH.cons (o := { dst := some 26, op := Op.load 30 (Operand.tmp 25), type := 30, pos := "l1_disk.go:35", after := #[{ on := 0, ground := Ground.data }], guard := none }) rfl (fun K hK => ?_) ?_
          rotate_left 1
          exact AllReadyH.nil
          · obtain ⟨o0, o1, o2, o3, o4⟩ := box_fiveC st3.o
            go_simp
            clear o0 o1 o2 o3 o4
            refine hK.out _ _ (box_threeC XB3) (fun hHeld => ?_)
            clear hK K
            try simp only [Act.put, List.setIfInBounds_toArray, List.set_cons_zero, List.set_cons_succ]
            refine wpAnyH_ready (rs := [11]) (by kernel_rfl) (by simp) ?_
            refine AllReadyH.cons (o := { dst := some 36, op := Op.call { callee := Callee.builtin Builtin.append, args := #[Operand.tmp 26, Operand.tmp 35], argTypes := #[30, 30] }, type := 30, pos := "l1_disk.go:35", after := #[{ on := 1, ground := Ground.data }, { on := 10, ground := Ground.data }, { on := 8, ground := Ground.chain }], guard := none }) rfl (fun K hK => ?_) ?_
            rotate_left 1
            exact AllReadyH.nil
            · have hrow3 := owns_below (owns_below hrow1 hb2) hal3
              refine step_append_ownD rfl _ _ 30 rfl (w.heap.size + 3) 77 i0 _ 3 48 Try.underlying30 hi hz0 hz1 hz2 rfl (by decide) (.slice ua j uc) j ys (by simp [Act.eval]) hrow3 ⟨w2.heap.size, 0, none⟩ 1 1 [.string f.1, .int .i64 f.2.1, .slice va pn vc] (by simp [Act.eval]) rfl (cell_three_new _ _ _ _ _) (by simp [Value.oneCell']) (by unfold maxLen; omega) (by omega) (by have := hal3.size; omega) ?_
              intro u4 w4 hown4 hgr hlies
              obtain ⟨ua4, uc4, rfl⟩ := own_shape hown4
              have hub : ∀ g, (Value.slice ua j uc).ownBlock = some g → w.heap.size + 3 ≤ g ∧ g ≠ PB := fun g e => ⟨(hrow1.lt g e).1, fun e' => HNB.out g e e'⟩
              have XB4 := (hgr.block PB (by have := hal3.size; omega) (fun e => (hub PB e.symm).2 rfl)).trans XB3
              have XO4 := (hgr.block (w.heap.size + 1 + 1) (by have := hal3.size; omega) (fun e => by have := (hub _ e.symm).1; omega)).trans st3.o
              refine hK.out _ _ (box_threeC XB4) (fun hHeld => ?_)
              clear hK K
              try simp only [Act.put, List.setIfInBounds_toArray, List.set_cons_zero, List.set_cons_succ]
              refine wpAnyH_take (i := 12) (oi := { dst := some 37, op := Op.fieldAddr 32 (Operand.tmp 3) 1, type := 0, pos := "l1_disk.go:35", after := #[{ on := 0, ground := Ground.phase }, { on := 1, ground := Ground.phase }, { on := 2, ground := Ground.phase }, { on := 3, ground := Ground.phase }, { on := 4, ground := Ground.phase }, { on := 5, ground := Ground.phase }, { on := 6, ground := Ground.phase }, { on := 7, ground := Ground.phase }, { on := 8, ground := Ground.phase }, { on := 9, ground := Ground.phase }, { on := 10, ground := Ground.phase }, { on := 11, ground := Ground.phase }], guard := none }) (v := ?_) rfl (by kernel_rfl) (by kernel_rfl) (by kernel_rfl) (fun _ _ _ h => h) (Or.inl ⟨by rfl, ?_⟩) (by assumption) ?_
              rotate_left 1
              · intro w hSw; (try dsimp only at hSw); go_simp; try (with_reducible rfl)
              try simp only [Act.put, List.setIfInBounds_toArray, List.set_cons_zero, List.set_cons_succ]
              refine wpAnyH_ready (rs := [13]) (by kernel_rfl) (by simp) ?_
              refine AllReadyH.cons (o := { dst := none, op := Op.store 30 (Operand.tmp 37) (Operand.tmp 36), type := 0, pos := "l1_disk.go:35", after := #[{ on := 12, ground := Ground.data }, { on := 11, ground := Ground.data }, { on := 11, ground := Ground.chain }, { on := 0, ground := Ground.phase }, { on := 1, ground := Ground.phase }, { on := 2, ground := Ground.phase }, { on := 3, ground := Ground.phase }, { on := 4, ground := Ground.phase }, { on := 5, ground := Ground.phase }, { on := 6, ground := Ground.phase }, { on := 7, ground := Ground.phase }, { on := 8, ground := Ground.phase }, { on := 9, ground := Ground.phase }, { on := 10, ground := Ground.phase }, { on := 11, ground := Ground.phase }], guard := none }) rfl (fun K hK => ?_) ?_
              rotate_left 1
              exact AllReadyH.nil
              · obtain ⟨o0, o1, o2, o3, o4⟩ := box_fiveC XO4
                have fo := box_thawC XO4
                go_simp
                clear o0 o1 o2 o3 o4 fo
                refine hK.out _ _ (box_threeC (((fr_setCell w4 (w.heap.size + 1 + 1) 1 (.slice ua4 (j + 1) uc4)).block PB (Array.getElem?_eq_some_iff.1 XB4).1 (by omega)).trans XB4)) (fun hHeld => ?_)
                clear hK K
                try simp only [Act.put, List.setIfInBounds_toArray, List.set_cons_zero, List.set_cons_succ]
                refine wpAnyH_done (by kernel_rfl) ?_ _
                refine NoPanic.normal ?_
                have hst5 := CSt.push st1 hb2 (f := f) (vb := .slice va pn vc) (by rw [HP0.out]; exact hvb) hx1 x3 HX5.out hal3 (by rw [HKL.out]; exact hown4) hgr hlies
                rw [← HS.out] at hst5
                have HST5 : Hid _ := hst5
                clear hst5 hHeld XB2 XB3 XB4 XO4 hrow1 hrow3 hown4 hgr hlies st1 st2 st3 hal3 hb2 hvb X x51 hub
                go_wp2
                go_roundw
                case rel => exact ⟨j + 1, ua4, uc4, _, _, by omega, by go_num, HST5.out⟩
                case measure => simp [intOf]; omega
    · obtain rfl : j = m := by omega
      have htk : ps.take j = ps := List.take_of_length_le (by omega)
      have hst := st
      rw [htk] at hst
      obtain ⟨o0, o1, o2, o3, o4⟩ := box_fiveC st.o
      obtain ⟨r0, r1, r2, r3, r4⟩ := box_fiveC st.r
      have ff := box_thawC st.r
      have HB := put5C_box st.r (.slice a1 fs.length n1) (.slice ua j uc) (.int .i64 cp) (.int .i64 fu) (.bool de)
      have hz := put5C_fr wr (w.heap.size + 1) (.slice a1 fs.length n1) (.slice ua j uc) (.int .i64 cp) (.int .i64 fu) (.bool de)
      have hbZ := st.bel.trans (hz.below (by omega) (fun g e => by omega))
      have hOF := hst.files.fr hz (fun g hg e => by have := (hst.files.blk hg).1; omega)
      have hOP := hst.cache.fr hz (fun g hg e => by have := (hst.cache.blk hg).1; omega)
      have HD : Hid (OwnD (put5C wr (w.heap.size + 1) (.slice a1 fs.length n1) (.slice ua j uc) (.int .i64 cp) (.int .i64 fu) (.bool de)) w.heap.size (.slice a1 fs.length n1) (.slice ua j uc) fs ps xs1 vs1 ys us) := ⟨OwnF.lower hOF (by omega), OwnP.lower hOP (by omega), hst.apart⟩
      clear hOF hOP hz hst st htk
      go_wp2
      show bodyPost _ _ _ _ _ (put5C wr (w.heap.size + 1) (.slice a1 fs.length n1) (.slice ua j uc) (.int .i64 cp) (.int .i64 fu) (.bool de))
      clear r0 r1 r2 r3 r4
      obtain ⟨r0, r1, r2, r3, r4⟩ := box_fiveC HB
      refine bodyPost_ret (v := .agg #[.slice a1 fs.length n1, .slice ua j uc, .int .i64 cp, .int .i64 fu, .bool de]) (by simp [results, Try.results46, go_sem, r0, r1, r2, r3, r4]) rfl ?_
      exact ⟨_, _, _, _, _, _, rfl, HD.out, hbZ⟩
end Go.Proofs.Ytmmdkjeoadlikaa
