import Derived.Test.YtmmdkjeoadlikaaCsW
import Derived.Test.YtmmdkjeoadlikaaDu
namespace Go.Proofs.Ytmmdkjeoadlikaa
open Go.RowKit Go.Maps
set_option linter.unusedVariables false
set_option maxRecDepth 100000

theorem run_makeS (r : Int) (w : World) : (Instr.makeMap 61 (some (.int .i64 r))).run Try.prog w = .ok (.map (some w.heap.size)) (w.alloc (.map #[] 0)) := by
  simp [Instr.makeMap, run_underlying Try.underlying61, asInt, newObj]
  rfl
theorem run_arrayAtS (b o n c : Nat) (w : World) (h : 128 ≤ n) : (Instr.arrayAt 58 (.slice (some ⟨b, o, none⟩) n c)).run Try.prog w = .ok (.pointer (some ⟨b, o, none⟩)) w := by
  simp [Instr.arrayAt, run_underlying Try.underlying58]
  omega
theorem infoSheet : (Try.prog.info? 58).map (·.size) = some 128 := by kernel_rfl
theorem range_page {W : World} {db dof j pn : Nat} {ds : List Int} (h : ∀ t, t < pn → W.cell? ⟨db, dof + t, none⟩ = some (.int .u8 (ds.getD t 0))) (hl : ds.length = pn) (hj : (j + 1) * 128 ≤ pn) : W.rangeAt db (dof + j * 128) (u8s ((ds.drop (j * 128)).take 128)) := by
  intro t v ht
  have htl : t < 128 := by
    have := (List.getElem?_eq_some_iff.1 ht).1
    simp only [u8s, List.length_map, List.length_take] at this
    omega
  have h1 := h (j * 128 + t) (by omega)
  have h2 : j * 128 + t < ds.length := by omega
  rw [Nat.add_assoc, h1, ← ht]
  simp only [u8s, List.getElem?_map, List.getElem?_take_of_lt htl, List.getElem?_drop, List.getElem?_eq_getElem h2, List.getD, Option.map_some, Option.getD_some]
theorem box_two2D {w : World} {N : Nat} {v0 v1 : Value} {t : TypeId} (h : w.heap[N]? = some (.cells #[v0, v1] t)) : w.cell? ⟨N, 0, none⟩ = some v0 ∧ w.cell? ⟨N, 1, none⟩ = some v1 := by simp [World.cell?, h]
set_option maxHeartbeats 6400000 in
theorem durable_any (a : Option Addr) (n c : Nat) (fs : List PF) (b : Option Addr) (m d : Nat) (ps : List PP) (cp fu : Int) (de : Bool) (w : World) (A B : Nat) (hB : B ≤ w.heap.size) (hF : FilesAt w A B a n c fs) (hm : m ≤ 1048576) (hI : Inv fs) (hn : n ≤ 12) (hall : ∀ j, j < n → (fs.getD j (ByteArray.empty, [])).2.length ≤ 1048576) :
    Calls Try.prog 70 #[.agg #[.slice a n c, .slice b m d, .int .i64 cp, .int .i64 fu, .bool de]] w fun e w' => ∃ (mb k : Nat) (D : DataW Unit), e = .returned (.map (some mb)) ∧ w.heap.size ≤ mb ∧ MapS w' mb k D ∧ k ≤ 1048576 ∧ RepS D (pageOf fs) ∧ Below w.heap.size w w' := by
  have HF : Hid (∀ W, Below w.heap.size w W → FilesAt W A B a n c fs) := fun W hW => hF.below (hW.mono hB)
  have HA : Hid (∀ j, j < n → (fs.getD j (ByteArray.empty, [])).2.length ≤ 1048576) := hall
  have HFL : Hid (fs.length = n) := hF.1
  have HI : Hid (Inv fs) := hI
  have hnc := hF.2.1
  have hcm := hF.2.2.1
  unfold maxLen at hcm
  clear hF hall hI
  have hb0 : Below w.heap.size w (w.alloc (.cells #[.slice a n c, .slice b m d, .int .i64 cp, .int .i64 fu, .bool de] 32)) := (Below.refl _ _).alloc (Nat.le_refl _) _
  have k0 := heap_alloc_new w (.cells #[.slice a n c, .slice b m d, .int .i64 cp, .int .i64 fu, .bool de] 32)
  have hmk := run_makeS
  go_enter Try.func70, Try.ntmps70
  go_wp2
  go_loopw [3, 5, 16] (fun r _ i wr => ∃ (k : Nat) (rm : Int), k ≤ n ∧ i = .int .i64 k ∧ r = .int .i64 rm ∧ (0 ≤ rm ∧ rm ≤ 1048576 + k * 1048576) ∧ Below (w.heap.size + 1) (w.alloc (.cells #[.slice a n c, .slice b m d, .int .i64 cp, .int .i64 fu, .bool de] 32)) wr) (fun _ _ i _ => n - (intOf i).toNat)
  case atStart => exact ⟨0, m, Nat.zero_le _, rfl, rfl, by omega, Below.refl _ _⟩
  case round =>
    obtain ⟨k, rm, hk, rfl, rfl, hrm, hbel⟩ := hrel
    have hbw : Below w.heap.size w wr := hb0.trans (hbel.mono (by omega))
    have hsz := hbel.size
    simp at hsz
    by_cases hlt : k < n
    · obtain ⟨_, _, _, hcell⟩ := HF.out wr hbw
      obtain ⟨ab, aoff, rfl, hab, hcb⟩ := hcell (by omega)
      obtain ⟨p1, p2, pa, pn, pc, p3, p4⟩ := hcb k hlt
      have hpl : pn ≤ 1048576 := by have := HA.out k hlt; rw [p4.1] at this; exact this
      have hbk : ab < wr.heap.size := by omega
      clear hcell hcb
      obtain ⟨f1, hf1⟩ : ∃ x, x = (fs.getD k (ByteArray.empty, [])).1 := ⟨_, rfl⟩
      rw [← hf1] at p1
      clear hf1 p4 p2
      have hal := hbel.alloc (by omega) (.cells #[.string f1, .slice pa pn pc] 83)
      have hq : 0 ≤ (pn : Int) / 128 ∧ (pn : Int) / 128 ≤ 1048576 := by omega
      go_wp2
      go_roundw
      case rel => exact ⟨k + 1, rm + (pn : Int) / 128, by omega, by go_num, by go_num, by omega, hal⟩
      case measure => simp [intOf]; omega
    · obtain rfl : k = n := by omega
      have k1 := (hbel.block w.heap.size (by omega)).trans k0
      obtain ⟨w2, hw2⟩ : ∃ w2, w2 = wr := ⟨_, rfl⟩
      rw [← hw2] at k1 hbw hsz ⊢
      clear hbel hb0 k0 hw2 wr
      obtain ⟨o0, o1, o2, o3, o4⟩ := box_fiveC k1
      have hl2 : w.heap.size < w2.heap.size := by omega
      go_wp2
      clear o0 o1 o2 o3 o4 hmk
      go_loopw [8, 9, 32] (fun _ _ i wr => ∃ (j q : Nat) (D : DataW Unit), j ≤ k ∧ i = .int .i64 j ∧ q ≤ j * 8192 ∧ Hid (MapS wr w2.heap.size q D) ∧ Hid (RepS D (pageOf (fs.take j))) ∧ Hid (Fr (fun x => x = w2.heap.size) (w2.alloc (.map #[] 0)) wr)) (fun _ _ i _ => k - (intOf i).toNat)
      case atStart => exact ⟨0, 0, _, Nat.zero_le _, rfl, Nat.le_refl _, World.ownsMap_made w2 Try.prog _ _, RepS.nil, Fr.refl _ _⟩
      case round =>
        obtain ⟨i, q, D, hi, rfl, hq, HM, HRp, HFr⟩ := hrel
        have hsz2 := HFr.out.size
        simp at hsz2
        have hbw2 : Below w.heap.size w wr := (hbw.trans (((Below.refl w2.heap.size w2).alloc (Nat.le_refl _) _).mono hbw.size)).trans (HFr.out.below (by simp; omega) (fun g e => by omega))
        have hlm : w2.heap.size < wr.heap.size := by omega
        by_cases hlt : i < k
        · obtain ⟨_, _, _, hcell⟩ := HF.out wr hbw2
          obtain ⟨ab, aoff, rfl, hab, hcb⟩ := hcell (by omega)
          obtain ⟨p1, hnm, pa, pn, pc, p3, p4⟩ := hcb i hlt
          have hil : i < fs.length := by rw [HFL.out]; exact hlt
          have hpg := HI.out.pg i hil
          have hpl := HA.out i hlt
          rw [p4.1] at hpg hpl
          have hbk : ab < wr.heap.size := by omega
          have hpcm := p4.2.2.1
          have hpnc := p4.2.1
          unfold maxLen at hpcm
          have hby := p4.2.2.2.1
          obtain ⟨db, dof, rfl, hdb, hdc⟩ := p4.2.2.2.2.1 (by omega)
          have HDL : Hid ((fs.getD i (ByteArray.empty, [])).2.length = pn) := p4.1
          have HBY : Hid (∀ x ∈ (fs.getD i (ByteArray.empty, [])).2, 0 ≤ x ∧ x ≤ 255) := hby
          have HDC : Hid (∀ t, t < pn → wr.cell? ⟨db, dof + t, none⟩ = some (.int .u8 ((fs.getD i (ByteArray.empty, [])).2.getD t 0))) := hdc
          clear hcell hcb p4 hby hdc
          obtain ⟨f1, hf1⟩ : ∃ x, x = (fs.getD i (ByteArray.empty, [])).1 := ⟨_, rfl⟩
          rw [← hf1] at p1 hnm
          have HF1 : Hid (f1 = (fs.getD i (ByteArray.empty, [])).1) := hf1
          clear hf1
          have hal : Below wr.heap.size wr (wr.alloc (.cells #[.string f1, .slice (some ⟨db, dof, none⟩) pn pc] 83)) := (Below.refl _ _).alloc (Nat.le_refl _) _
          have hbx := heap_alloc_new wr (.cells #[.string f1, .slice (some ⟨db, dof, none⟩) pn pc] 83)
          have hM1 : Hid (MapS (wr.alloc (.cells #[.string f1, .slice (some ⟨db, dof, none⟩) pn pc] 83)) w2.heap.size q D) := HM.out.alloc _
          have hF1 : Hid (Fr (fun x => x = w2.heap.size) (w2.alloc (.map #[] 0)) (wr.alloc (.cells #[.string f1, .slice (some ⟨db, dof, none⟩) pn pc] 83))) := HFr.out.trans (Fr.of_below hal)
          have hR1 : Hid (RepS D (pageOf (someF fs i 0))) := rep_start HI.out hil HRp.out
          have HDC1 : Hid (∀ t, t < pn → (wr.alloc (.cells #[.string f1, .slice (some ⟨db, dof, none⟩) pn pc] 83)).cell? ⟨db, dof + t, none⟩ = some (.int .u8 ((fs.getD i (ByteArray.empty, [])).2.getD t 0))) := fun t ht => (hal.cell (p := ⟨db, dof + t, none⟩) (by show db < _; omega)).trans (HDC.out t ht)
          have hdv : (pn : Int) / 128 = ((pn / 128 : Nat) : Int) := by omega
          have hnp : pn / 128 ≤ 8192 := by omega
          obtain ⟨fb, hfb⟩ : ∃ fb, fb = wr.heap.size := ⟨_, rfl⟩
          have hfbW : fb < (wr.alloc (.cells #[.string f1, .slice (some ⟨db, dof, none⟩) pn pc] 83)).heap.size := by rw [hfb]; exact (Array.getElem?_eq_some_iff.1 hbx).1
          rw [← hfb] at hbx
          have hfbm : w2.heap.size < fb := by omega
          have HDV : Hid ((pn : Int) / 128 = ((pn / 128 : Nat) : Int)) := hdv
          have hdbm : db < w2.heap.size := by omega
          clear hdv HDC HM HFr HRp
          go_wp2
          rw [HDV.out]
          generalize wr.alloc (.cells #[.string f1, .slice (some ⟨db, dof, none⟩) pn pc] 83) = wf at hbx hM1 hF1 HDC1 hfbW ⊢
          obtain ⟨np, hnpe⟩ : ∃ np, np = pn / 128 := ⟨_, rfl⟩
          rw [← hnpe] at hnp HDV ⊢
          have HNP : Hid (np = pn / 128) := hnpe
          have hnpm : np * 128 ≤ pn := by omega
          clear hnpe
          rw [← hfb]
          clear hfb
          go_loopw [9, 40] (fun _ t wv => ∃ (j q2 : Nat) (D2 : DataW Unit), j ≤ np ∧ t = .int .i64 j ∧ q2 ≤ i * 8192 + j ∧ Hid (MapS wv w2.heap.size q2 D2) ∧ Hid (RepS D2 (pageOf (someF fs i j))) ∧ Hid (Fr (fun x => x = w2.heap.size) wf wv)) (fun _ t _ => np - (intOf t).toNat)
          case atStart => exact ⟨0, q, D, Nat.zero_le _, rfl, by omega, hM1, hR1, Fr.refl _ _⟩
          case round =>
            obtain ⟨j, q2, D2, hj, rfl, hq2, HM, HRp, HFr⟩ := hrel
            have hbxv := (HFr.out.block fb hfbW (by omega)).trans hbx
            have hsv := HFr.out.size
            have hfbv : fb < wr.heap.size := by omega
            obtain ⟨c0, c1⟩ := box_two2D hbxv
            by_cases hlj : j < np
            · obtain ⟨pgb, hpgb⟩ : ∃ x, x = ((fs.getD i (ByteArray.empty, [])).2.drop (j * 128)).take 128 := ⟨_, rfl⟩
              have hpgl : pgb.length = 128 := by rw [hpgb, List.length_take, List.length_drop, HDL.out]; omega
              have hpgr : ∀ x ∈ pgb, 0 ≤ x ∧ x ≤ 255 := fun x hx => HBY.out x (by rw [hpgb] at hx; exact List.mem_of_mem_drop (List.mem_of_mem_take hx))
              have hrg : wr.rangeAt db (dof + j * 128) (u8s pgb) := by
                rw [hpgb]
                exact range_page (fun t ht => (World.cell?_of_block (a := ⟨db, dof + t, none⟩) (HFr.out.block db (by omega) (by omega))).trans (HDC1.out t ht)) HDL.out (by omega)
              have hjw : (Lit.int .i64 (j : Int)).wf = true := WalkArith.wf_i64 (by omega)
              have hval : sheetR (.agg (u8s pgb).toArray) = some (shD pgb, []) := sheetR_mk hpgl hpgr
              have hInfo : (Try.prog.info? 58).map (·.size) = some (u8s pgb).length := by rw [infoSheet]; simp [u8s, hpgl]
              have HSTEP : Hid (RepS (D2.put (kPl f1 (j : Int)) (shD pgb)) (pageOf (someF fs i (j + 1)))) := by
                show RepS _ _
                rw [HF1.out, hpgb]
                exact rep_step HI.out hil HRp.out HM.out.isMap (by rw [HDL.out]; omega) (by rw [← HF1.out]; exact hnm) hjw
              have hS0 : wr.cell? ⟨fb, 0, none⟩ = some (.string f1) ∧ wr.cell? ⟨fb, 1, none⟩ = some (.slice (some ⟨db, dof, none⟩) pn pc) ∧ wr.rangeAt db (dof + j * 128) (u8s pgb) := ⟨c0, c1, hrg⟩
              have jw1 : IntKind.i64.wrap ((j : Int) * 128) = (j : Int) * 128 := by rw [IntKind.wrap_i64]; omega
              have jw2 : IntKind.i64.wrap ((j : Int) + 1) = (j : Int) + 1 := by rw [IntKind.wrap_i64]; omega
              have jw3 : IntKind.i64.wrap (((j : Int) + 1) * 128) = ((j : Int) + 1) * 128 := by rw [IntKind.wrap_i64]; omega
              have jn1 : ((j : Int) * 128).toNat = j * 128 := by omega
              have jn2 : (((j : Int) + 1) * 128).toNat = (j + 1) * 128 := by omega
              clear hpgb hrg
              go_wp2_with fail
              refine wp_region_noPanic ?_
              refine wp_region_held_drew (S := (fun w' => w'.cell? ⟨fb, 0, none⟩ = some (.string f1) ∧ w'.cell? ⟨fb, 1, none⟩ = some (.slice (some ⟨db, dof, none⟩) pn pc) ∧ w'.rangeAt db (dof + j * 128) (u8s pgb))) (by kernel_rfl) ?_ (fun hHeld => ?_)
              · exact hS0
              clear c0 c1
              refine wpAnyH_take (i := 0) (oi := { dst := some 43, op := Op.move (Operand.tmp 6), type := 61, pos := "l1_disk.go:238", after := #[], guard := none }) (v := ?_) rfl (by kernel_rfl) (by kernel_rfl) (by kernel_rfl) (fun _ _ _ h => h) (Or.inl ⟨by rfl, ?_⟩) (by assumption) ?_
              rotate_left 1
              · intro w hSw; (try dsimp only at hSw); go_simp; try (with_reducible rfl)
              try simp only [Act.put, List.setIfInBounds_toArray, List.set_cons_zero, List.set_cons_succ]
              refine wpAnyH_take (i := 1) (oi := { dst := some 44, op := Op.fieldAddr 83 (Operand.tmp 8) 0, type := 0, pos := "l1_disk.go:238", after := #[], guard := none }) (v := ?_) rfl (by kernel_rfl) (by kernel_rfl) (by kernel_rfl) (fun _ _ _ h => h) (Or.inl ⟨by rfl, ?_⟩) (by assumption) ?_
              rotate_left 1
              · intro w hSw; (try dsimp only at hSw); go_simp; try (with_reducible rfl)
              try simp only [Act.put, List.setIfInBounds_toArray, List.set_cons_zero, List.set_cons_succ]
              refine wpAnyH_take (i := 2) (oi := { dst := some 45, op := Op.load 9 (Operand.tmp 44), type := 9, pos := "l1_disk.go:238", after := #[{ on := 1, ground := Ground.data }], guard := none }) (v := ?_) rfl (by kernel_rfl) (by kernel_rfl) (by kernel_rfl) (fun _ _ _ h => h) (Or.inl ⟨by rfl, ?_⟩) (by assumption) ?_
              rotate_left 1
              · intro w hSw; (try dsimp only at hSw); go_simp; try (with_reducible rfl)
              try simp only [Act.put, List.setIfInBounds_toArray, List.set_cons_zero, List.set_cons_succ]
              refine wpAnyH_take (i := 3) (oi := { dst := some 46, op := Op.move (Operand.tmp 9), type := 2, pos := "l1_disk.go:238", after := #[], guard := none }) (v := ?_) rfl (by kernel_rfl) (by kernel_rfl) (by kernel_rfl) (fun _ _ _ h => h) (Or.inl ⟨by rfl, ?_⟩) (by assumption) ?_
              rotate_left 1
              · intro w hSw; (try dsimp only at hSw); go_simp; try (with_reducible rfl)
              try simp only [Act.put, List.setIfInBounds_toArray, List.set_cons_zero, List.set_cons_succ]
              refine wpAnyH_take (i := 4) (oi := { dst := some 47, op := Op.build 64 #[(0, Operand.tmp 45), (1, Operand.tmp 46)], type := 64, pos := "l1_disk.go:238", after := #[{ on := 2, ground := Ground.data }, { on := 3, ground := Ground.data }], guard := none }) (v := ?_) rfl (by kernel_rfl) (by kernel_rfl) (by kernel_rfl) (fun _ _ _ h => h) (Or.inl ⟨by rfl, ?_⟩) (by assumption) ?_
              rotate_left 1
              · intro w hSw; (try dsimp only at hSw); go_simp; try (with_reducible rfl)
              try simp only [Act.put, List.setIfInBounds_toArray, List.set_cons_zero, List.set_cons_succ]
              refine wpAnyH_take (i := 5) (oi := { dst := some 48, op := Op.fieldAddr 83 (Operand.tmp 8) 1, type := 0, pos := "l1_disk.go:238", after := #[], guard := none }) (v := ?_) rfl (by kernel_rfl) (by kernel_rfl) (by kernel_rfl) (fun _ _ _ h => h) (Or.inl ⟨by rfl, ?_⟩) (by assumption) ?_
              rotate_left 1
              · intro w hSw; (try dsimp only at hSw); go_simp; try (with_reducible rfl)
              try simp only [Act.put, List.setIfInBounds_toArray, List.set_cons_zero, List.set_cons_succ]
              refine wpAnyH_take (i := 6) (oi := { dst := some 49, op := Op.load 27 (Operand.tmp 48), type := 27, pos := "l1_disk.go:238", after := #[{ on := 5, ground := Ground.data }], guard := none }) (v := ?_) rfl (by kernel_rfl) (by kernel_rfl) (by kernel_rfl) (fun _ _ _ h => h) (Or.inl ⟨by rfl, ?_⟩) (by assumption) ?_
              rotate_left 1
              · intro w hSw; (try dsimp only at hSw); go_simp; try (with_reducible rfl)
              try simp only [Act.put, List.setIfInBounds_toArray, List.set_cons_zero, List.set_cons_succ]
              refine wpAnyH_take (i := 7) (oi := { dst := some 50, op := Op.move (Operand.tmp 9), type := 2, pos := "l1_disk.go:238", after := #[], guard := none }) (v := ?_) rfl (by kernel_rfl) (by kernel_rfl) (by kernel_rfl) (fun _ _ _ h => h) (Or.inl ⟨by rfl, ?_⟩) (by assumption) ?_
              rotate_left 1
              · intro w hSw; (try dsimp only at hSw); go_simp; try (with_reducible rfl)
              try simp only [Act.put, List.setIfInBounds_toArray, List.set_cons_zero, List.set_cons_succ]
              refine wpAnyH_take (i := 8) (oi := { dst := some 51, op := Op.binOp BinOp.mul 2 (Operand.tmp 50) (Operand.const (Value.int IntKind.i64 128)) 2, type := 2, pos := "l1_disk.go:238", after := #[{ on := 7, ground := Ground.data }], guard := none }) (v := .int .i64 ((j : Int) * 128)) rfl (by kernel_rfl) (by kernel_rfl) (by kernel_rfl) (fun _ _ _ h => h) (Or.inl ⟨by rfl, ?_⟩) (by assumption) ?_
              · intro w hSw; (try dsimp only at hSw); go_simp
              try simp only [Act.put, List.setIfInBounds_toArray, List.set_cons_zero, List.set_cons_succ]
              refine wpAnyH_take (i := 9) (oi := { dst := some 52, op := Op.move (Operand.tmp 9), type := 2, pos := "l1_disk.go:238", after := #[], guard := none }) (v := ?_) rfl (by kernel_rfl) (by kernel_rfl) (by kernel_rfl) (fun _ _ _ h => h) (Or.inl ⟨by rfl, ?_⟩) (by assumption) ?_
              rotate_left 1
              · intro w hSw; (try dsimp only at hSw); go_simp; try (with_reducible rfl)
              try simp only [Act.put, List.setIfInBounds_toArray, List.set_cons_zero, List.set_cons_succ]
              refine wpAnyH_take (i := 10) (oi := { dst := some 53, op := Op.binOp BinOp.add 2 (Operand.tmp 52) (Operand.const (Value.int IntKind.i64 1)) 2, type := 2, pos := "l1_disk.go:238", after := #[{ on := 9, ground := Ground.data }], guard := none }) (v := .int .i64 ((j : Int) + 1)) rfl (by kernel_rfl) (by kernel_rfl) (by kernel_rfl) (fun _ _ _ h => h) (Or.inl ⟨by rfl, ?_⟩) (by assumption) ?_
              · intro w hSw; (try dsimp only at hSw); go_simp
              try simp only [Act.put, List.setIfInBounds_toArray, List.set_cons_zero, List.set_cons_succ]
              refine wpAnyH_take (i := 11) (oi := { dst := some 54, op := Op.binOp BinOp.mul 2 (Operand.tmp 53) (Operand.const (Value.int IntKind.i64 128)) 2, type := 2, pos := "l1_disk.go:238", after := #[{ on := 10, ground := Ground.data }], guard := none }) (v := .int .i64 (((j : Int) + 1) * 128)) rfl (by kernel_rfl) (by kernel_rfl) (by kernel_rfl) (fun _ _ _ h => h) (Or.inl ⟨by rfl, ?_⟩) (by assumption) ?_
              · intro w hSw; (try dsimp only at hSw); go_simp
              try simp only [Act.put, List.setIfInBounds_toArray, List.set_cons_zero, List.set_cons_succ]
              refine wpAnyH_take (i := 12) (oi := { dst := some 55, op := Op.slice 27 (Operand.tmp 49) (some (Operand.tmp 51)) (some (Operand.tmp 54)) none, type := 27, pos := "l1_disk.go:238", after := #[{ on := 6, ground := Ground.data }, { on := 8, ground := Ground.data }, { on := 11, ground := Ground.data }], guard := none }) (v := .slice (some ⟨db, dof + j * 128, none⟩) 128 (pc - j * 128)) rfl (by kernel_rfl) (by kernel_rfl) (by kernel_rfl) (fun _ _ _ h => h) (Or.inl ⟨by rfl, ?_⟩) (by assumption) ?_
              · intro w hSw; (try dsimp only at hSw); go_simp; rw [if_neg (show ¬ pc = j * 128 by omega), show (j + 1) * 128 - j * 128 = 128 by omega]; rw [if_pos (show (0 : Int) ≤ ((j : Int) + 1) * 128 ∧ ((j : Int) + 1) * 128 ≤ (pc : Int) by omega), if_pos (show (0 : Int) ≤ (j : Int) * 128 ∧ (j : Int) ≤ (j : Int) + 1 by omega)]
              try simp only [Act.put, List.setIfInBounds_toArray, List.set_cons_zero, List.set_cons_succ]
              refine wpAnyH_take (i := 13) (oi := { dst := some 56, op := Op.sliceToArrayPointer 58 (Operand.tmp 55), type := 0, pos := "l1_disk.go:238", after := #[{ on := 12, ground := Ground.data }], guard := none }) (v := .pointer (some ⟨db, dof + j * 128, none⟩)) rfl (by kernel_rfl) (by kernel_rfl) (by kernel_rfl) (fun _ _ _ h => h) (Or.inl ⟨by rfl, ?_⟩) (by assumption) ?_
              · intro w hSw; (try dsimp only at hSw); have har := run_arrayAtS db (dof + j * 128) 128 (pc - j * 128) w (by omega); go_simp
              try simp only [Act.put, List.setIfInBounds_toArray, List.set_cons_zero, List.set_cons_succ]
              refine wpAnyH_take (i := 14) (oi := { dst := some 57, op := Op.load 58 (Operand.tmp 56), type := 58, pos := "l1_disk.go:238", after := #[{ on := 13, ground := Ground.data }], guard := none }) (v := .agg (u8s pgb).toArray) rfl (by kernel_rfl) (by kernel_rfl) (by kernel_rfl) (fun _ _ _ h => h) (yieldsIf_load_mid (by rfl) _ _ rfl db (dof + j * 128) (by simp [Act.eval]) (u8s pgb) _ (fun _ hS => hS.2.2) Try.underlying58 rfl hInfo) (by assumption) ?_
              try simp only [Act.put, List.setIfInBounds_toArray, List.set_cons_zero, List.set_cons_succ]
              refine wpAnyH_ready (rs := [15]) (by kernel_rfl) (by simp) ?_
              refine AllReadyH.cons (o := { dst := none, op := Op.mapUpdate 61 (Operand.tmp 43) (Operand.tmp 47) (Operand.tmp 57), type := 0, pos := "l1_disk.go:238", after := #[{ on := 0, ground := Ground.data }, { on := 4, ground := Ground.data }, { on := 14, ground := Ground.data }, { on := 0, ground := Ground.phase }, { on := 1, ground := Ground.phase }, { on := 2, ground := Ground.phase }, { on := 3, ground := Ground.phase }, { on := 4, ground := Ground.phase }, { on := 5, ground := Ground.phase }, { on := 6, ground := Ground.phase }, { on := 7, ground := Ground.phase }, { on := 8, ground := Ground.phase }, { on := 9, ground := Ground.phase }, { on := 10, ground := Ground.phase }, { on := 11, ground := Ground.phase }, { on := 12, ground := Ground.phase }, { on := 13, ground := Ground.phase }, { on := 14, ground := Ground.phase }], guard := none }) rfl (fun K hK => ?_) ?_
              rotate_left 1
              exact AllReadyH.nil
              · obtain ⟨wu, hrun, hMu, hgu⟩ := (World.ownsMap.drew HM.out).update lawPl Try.underlying61 (by unfold maxLen; omega) (keyOf_pl hnm hjw) (val := .agg (u8s pgb).toArray) hval
                have S2 : (fun w' => w'.cell? ⟨fb, 0, none⟩ = some (.string f1) ∧ w'.cell? ⟨fb, 1, none⟩ = some (.slice (some ⟨db, dof, none⟩) pn pc) ∧ w'.rangeAt db (dof + j * 128) (u8s pgb)) wu := ⟨(World.cell?_of_block (hgu.block fb (show fb < wr.heap.size by omega) (fun e => by injection e with e; omega))).trans hS0.1, (World.cell?_of_block (hgu.block fb (show fb < wr.heap.size by omega) (fun e => by injection e with e; omega))).trans hS0.2.1, fun t v ht => (World.cell?_of_block (hgu.block db (show db < wr.heap.size by omega) (fun e => by injection e with e; omega))).trans (hS0.2.2 t v ht)⟩
                go_simp
                refine hK.out _ _ S2 (fun hHeld => ?_)
                clear hK K
                try simp only [Act.put, List.setIfInBounds_toArray, List.set_cons_zero, List.set_cons_succ]
                refine wpAnyH_done (by kernel_rfl) ?_ _
                refine NoPanic.normal ?_
                have hFu : Hid (Fr (fun x => x = w2.heap.size) wf wu) := (HFr.out.trans (Fr.of_below (Below.refl _ _).drew)).trans (Fr.of_grown hgu (fun x e => by injection e with e; exact e.symm))
                have hMu2 : Hid (MapS wu w2.heap.size (q2 + 1) (D2.put (kPl f1 (j : Int)) (shD pgb))) := hMu
                have hRu : Hid (RepS (D2.put (kPl f1 (j : Int)) (shD pgb)) (pageOf (someF fs i (j + 1)))) := HSTEP.out
                clear hMu hgu hrun S2 hS0 HM HFr HRp HSTEP hval
                go_wp2
                go_roundw
                case rel => exact ⟨j + 1, q2 + 1, _, by omega, by go_num, by omega, hMu2, hRu, hFu⟩
                case measure => simp [intOf]; omega
            · obtain rfl : j = np := by omega
              have hR2 : Hid (RepS D2 (pageOf (fs.take (i + 1)))) := rep_next HI.out hil (by rw [HDL.out, ← HNP.out]; exact HRp.out)
              have hF2 : Hid (Fr (fun x => x = w2.heap.size) (w2.alloc (.map #[] 0)) wr) := hF1.out.trans HFr.out
              clear c0 c1 hbxv
              go_wp2
              go_roundw
              case rel => exact ⟨i + 1, q2, D2, by omega, by go_num, by omega, HM, hR2, hF2⟩
              case measure => simp [intOf]; omega
        · obtain rfl : i = k := by omega
          have hR3 : RepS D (pageOf fs) := by have := HRp.out; rwa [List.take_of_length_le (by rw [HFL.out]; exact Nat.le_refl _)] at this
          go_wp2
          go_ret
          exact ⟨w2.heap.size, q, D, rfl, by omega, HM.out, by omega, hR3, hbw2⟩
end Go.Proofs.Ytmmdkjeoadlikaa
