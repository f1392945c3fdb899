import Derived.Test.YtakdaandbdbdnaaGAM
import Derived.Test.YtakdaandbdbdnaaGAU
import Derived.Test.YtakdaandbdbdnaaWp
import Derived.Test.YtakdaandbdbdnaaWq
import Derived.Test.YtakdaandbdbdnaaGAX
import Derived.Test.YtakdaandbdbdnaaCri
namespace Go.Proofs.Ytakdaandbdbdnaa
open Go.RowKit
set_option linter.unusedVariables false
set_option maxRecDepth 100000

theorem wf_pg {pg : Int} (h : -1 ≤ pg ∧ pg ≤ 3) : (Lit.int .i64 pg).wf = true := by
  have h2 : pg = -1 ∨ pg = 0 ∨ pg = 1 ∨ pg = 2 ∨ pg = 3 := by omega
  rcases h2 with rfl | rfl | rfl | rfl | rfl <;> decide
theorem bl_dr (w : World) : Below w.heap.size w w.drew := (Below.refl _ _).drew
/-- The crash that keeps all, as it is built: k writes kept. -/
structure KSt (w6 wr : World) (C k : Nat) (ka : Option Addr) (kc : Nat) : Prop where
  bx : wr.heap[C]? = some (.cells #[.slice ka k kc, .int .i64 (-1), .int .i64 0] 34)
  row : wr.ownsRow (C + 1) 4 1 (.slice ka k kc) k (List.replicate k (.bool true))
  bel : Below C w6 wr
theorem KSt.push {w6 wr w4 : World} {C k : Nat} {ka : Option Addr} {kc : Nat} {v' : Value} (h : KSt w6 wr C k ka kc) (ho : w4.ownsRow (C + 1) 4 1 v' (k + 1) (List.replicate k (.bool true) ++ [.bool true])) (hgr : (wr.alloc (.cells #[.bool true] 4)).grownBy w4 (Value.slice ka k kc).ownBlock) (hC : C ≤ w6.heap.size) :
    ∃ a2 c2, v' = .slice a2 (k + 1) c2 ∧ KSt w6 (w4.setCell ⟨C, 0, none⟩ (.slice a2 (k + 1) c2)) C (k + 1) a2 c2 ∧ w4.heap[C]? = some (.cells #[.slice ka k kc, .int .i64 (-1), .int .i64 0] 34) := by
  have hCl : C < wr.heap.size := (Array.getElem?_eq_some_iff.1 h.bx).1
  have hal := (Below.refl wr.heap.size wr).alloc (Nat.le_refl _) (.cells #[.bool true] 4)
  have hG : Fr (fun g => C + 1 ≤ g) (wr.alloc (.cells #[.bool true] 4)) w4 := Fr.of_grown hgr (fun g e => (h.row.lt g e).1)
  have X4 := box_fr (box_below h.bx hal) hG (by omega)
  obtain ⟨a2, n2, c2, rfl, rfl⟩ := own_shape2 ho
  have hset := fr_setCell w4 C 0 (.slice a2 (k + 1) c2)
  have sG := hG.size
  have sal := hal.size
  refine ⟨a2, c2, rfl, ⟨?_, ?_, ?_⟩, X4⟩
  · have := heap_setCell_at X4 0 (.slice a2 (k + 1) c2)
    simpa using this
  · have e1 : (List.replicate (k + 1) (Value.bool true)) = List.replicate k (.bool true) ++ [.bool true] := by rw [List.replicate_succ']
    rw [e1]
    exact owns_fr ho hset (fun g e => by have := (World.ownsRow.lt ho g e).1; omega)
  · exact h.bel.trans ((hal.mono (by omega)).trans ((hG.below (by omega) (fun g e => by omega)).trans (hset.below (by omega) (fun g e => by omega))))
theorem KSt.bools {w6 wr : World} {C k : Nat} {ka : Option Addr} {kc : Nat} (h : KSt w6 wr C k ka kc) : BoolsAt wr (C + 1) wr.heap.size ka k kc (List.replicate k true) := by
  have h1 := h.row
  rw [show (List.replicate k (Value.bool true)) = bls (List.replicate k true) by simp [bls]] at h1
  exact (RowB.mk' h1).bools
theorem crash_all {fs : List PF} {ps : List PP} {cp : Int} (h : implV fs ps cp (-1) = true) (n : Nat) (hn : n = ps.length) : crG fs ps cp (-1) (-1) 0 (List.replicate n true) = lastF ps fs ∧ crC fs ps cp (-1) = cp ∧ crU fs ps cp (-1) = -1 := by
  unfold crG crC crU
  rw [if_pos h, if_pos h, if_pos h]
  exact ⟨crF_all ps 0 fs (fun i hi => by simp [List.getD, hn, hi]), rfl, rfl⟩
theorem crash_none {fs : List PF} {ps : List PP} {cp : Int} (h : implV fs ps cp (-1) = true) : crG fs ps cp (-1) (-1) 0 [] = fs := by
  unfold crG
  rw [if_pos h]
  exact crF_none ps 0 fs
theorem noBools (w : World) (A B : Nat) : BoolsAt w A B none 0 0 [] := ⟨rfl, Nat.le_refl _, Nat.zero_le _, fun h => by omega⟩
theorem BoolsAt.upX {w : World} {A B A' B' : Nat} {a : Option Addr} {n c : Nat} {ks : List Bool} (h : BoolsAt w A B a n c ks) (hA : A' ≤ A) (hB : B ≤ B') : BoolsAt w A' B' a n c ks := by
  obtain ⟨h1, h2, h3, h5⟩ := h
  refine ⟨h1, h2, h3, fun hn => ?_⟩
  obtain ⟨b, off, e, hb, hc⟩ := h5 hn
  exact ⟨b, off, e, ⟨by omega, by omega⟩, hc⟩
theorem sync_vals {fs : List PF} {ps : List PP} {cp : Int} (h : implV fs ps cp (-1) = true) : rsI fs ps cp (-1) false = 0 ∧ dsE 0 (-1) = 0 ∧ dsF 0 (-1) = -1 ∧ dsD 0 (-1) false = false ∧ dsX 0 (-1) fs (lastF ps fs) = lastF ps fs ∧ dsX 0 (-1) ps [] = [] := by
  refine ⟨?_, rfl, rfl, rfl, rfl, rfl⟩
  unfold rsI
  rw [if_pos ⟨rfl, h⟩]
theorem noPends (w : World) (A B : Nat) : PendsAt w A B none 0 0 [] := ⟨rfl, Nat.le_refl _, Nat.zero_le _, fun h => by omega⟩
set_option maxHeartbeats 40000000 in
theorem law_FnDisk (a : Option Addr) (n c : Nat) (bs : List Int) (w : World) (h : BytesAt w 0 w.heap.size a n c bs) :
    Calls Try.prog 3 #[.slice a n c] w fun e w' => e = .returned (.bool true) ∧ Below w.heap.size w w' := by
  by_cases tn : 1048576 < n
  · have sn : decide ((1048576 : Int) < (n : Int)) = true := by simp; omega
    go_enter Try.func3, Try.ntmps3
    go_wp2_with fail
    go_ret
    exact ⟨rfl, Below.refl _ _⟩
  have sn : decide ((1048576 : Int) < (n : Int)) = false := by simp; omega
  go_enter Try.func3, Try.ntmps3
  go_wp2_with fail
  refine (drawWrite_any a n c bs w 0 w.heap.size (Nat.le_refl _) h).mono ?_
  rintro e w1 hDr
  obtain ⟨a1, n1, c1, b1, m1, d1, fs, ps, cp, fu, de, nm, pg, pa, pn, pc, ds, rfl, hF1, hP1, hY1, hbd, hnm, hpg, hpn, hcp, hfu, hB1⟩ := hDr.ex
  have s1 := hB1.size
  have hal := (Below.refl w1.heap.size w1).alloc (Nat.le_refl _) (.cells #[.slice a1 n1 c1, .slice b1 m1 d1, .int .i64 cp, .int .i64 fu, .bool de] 26)
  have X2 := heap_alloc_new w1 (.cells #[.slice a1 n1 c1, .slice b1 m1 d1, .int .i64 cp, .int .i64 fu, .bool de] 26)
  have s2 : (w1.alloc (.cells #[.slice a1 n1 c1, .slice b1 m1 d1, .int .i64 cp, .int .i64 fu, .bool de] 26)).heap.size = w1.heap.size + 1 := by simp
  have B2 := hB1.trans (hal.mono s1)
  have hF2 := hF1.below hal
  have hP2 := hP1.below hal
  have hY2 := hY1.below hal
  have hall : ∀ j, j < n1 → (fs.getD j (ByteArray.empty, [])).2.length ≤ 1048576 := by rw [← hF1.1]; exact hbd.2.2.1
  have hall2 : ∀ j, j < m1 → (ps.getD j (ByteArray.empty, 0, [])).2.2.length ≤ 1048576 := by
    rw [← hP1.1]
    intro j hj
    have := (hbd.2.2.2 (ps.getD j (ByteArray.empty, 0, [])) (by simp [List.getD, List.getElem?_eq_getElem hj])).2.2
    omega
  have hn1 : n1 ≤ 100 := by rw [← hF1.1]; exact hbd.1
  have hm1 : m1 ≤ 100 := by rw [← hP1.1]; exact hbd.2.1
  have hsz : nm.size ≤ maxLen := by unfold maxLen; omega
  clear hDr h hal hB1 hF1 hP1 hY1
  go_wp2_with fail
  generalize w1.alloc (.cells #[.slice a1 n1 c1, .slice b1 m1 d1, .int .i64 cp, .int .i64 fu, .bool de] 26) = W2 at X2 s2 B2 hF2 hP2 hY2 ⊢
  refine (implWrite_any a1 n1 c1 fs b1 m1 d1 ps cp fu de nm pg pa pn pc ds W2 w.heap.size w1.heap.size (by omega) hF2 hP2 hY2 hsz (by omega) (by omega) (by omega) (by omega) (by omega) hall hall2).mono ?_
  rintro e w3 hR3
  obtain ⟨a3, c3, b3, d3, xs3, vs3, ys3, us3, rfl, hO3, hB3⟩ := hR3.out
  have HRS : Hid (∀ (W : World) (A B : Nat), B ≤ W.heap.size → FilesAt W A B a1 n1 c1 fs → PendsAt W A B b1 m1 d1 ps → BytesAt W A B pa pn pc ds → Calls Try.prog 8 #[.agg #[.slice a1 n1 c1, .slice b1 m1 d1, .int .i64 cp, .int .i64 fu, .bool de], .string nm, .int .i64 pg, .slice pa pn pc] W fun e w' => ResAt W e w' (dsE (rwI fs ps cp fu de nm pg ds) fu) (dsX (rwI fs ps cp fu de nm pg ds) fu fs fs) (dsX (rwI fs ps cp fu de nm pg ds) fu ps (ps ++ [(nm, pg, ds)])) cp (dsF (rwI fs ps cp fu de nm pg ds) fu) (dsD (rwI fs ps cp fu de nm pg ds) fu de)) := fun W A B hB q1 q2 q3 => specWrite_any a1 n1 c1 fs b1 m1 d1 ps cp fu de nm pg pa pn pc ds W A B hB q1 q2 q3 hsz (by omega) (by omega) (by omega) (by omega) (by omega) hall hall2
  obtain ⟨er, her⟩ : ∃ x, x = dsE (rwI fs ps cp fu de nm pg ds) fu := ⟨_, rfl⟩
  obtain ⟨gs, hgs⟩ : ∃ x, x = dsX (rwI fs ps cp fu de nm pg ds) fu fs fs := ⟨_, rfl⟩
  obtain ⟨qs, hqs⟩ : ∃ x, x = dsX (rwI fs ps cp fu de nm pg ds) fu ps (ps ++ [(nm, pg, ds)]) := ⟨_, rfl⟩
  obtain ⟨fu3, hfu3⟩ : ∃ x, x = dsF (rwI fs ps cp fu de nm pg ds) fu := ⟨_, rfl⟩
  obtain ⟨de3, hde3⟩ : ∃ x, x = dsD (rwI fs ps cp fu de nm pg ds) fu de := ⟨_, rfl⟩
  rw [← her, ← hgs, ← hqs, ← hfu3, ← hde3] at HRS
  rw [← hgs, ← hqs] at hO3
  rw [← her, ← hgs, ← hqs, ← hfu3, ← hde3]
  have HE : Hid (er = dsE (rwI fs ps cp fu de nm pg ds) fu ∧ gs = dsX (rwI fs ps cp fu de nm pg ds) fu fs fs ∧ qs = dsX (rwI fs ps cp fu de nm pg ds) fu ps (ps ++ [(nm, pg, ds)]) ∧ fu3 = dsF (rwI fs ps cp fu de nm pg ds) fu ∧ de3 = dsD (rwI fs ps cp fu de nm pg ds) fu de) := ⟨her, hgs, hqs, hfu3, hde3⟩
  clear her hgs hqs hfu3 hde3 hR3
  have s3 := hB3.size
  have hal3 := (Below.refl w3.heap.size w3).alloc (Nat.le_refl _) (.cells #[.int .i64 er, .slice a3 gs.length c3, .slice b3 qs.length d3, .int .i64 cp, .int .i64 fu3, .bool de3] 30)
  have R4 := heap_alloc_new w3 (.cells #[.int .i64 er, .slice a3 gs.length c3, .slice b3 qs.length d3, .int .i64 cp, .int .i64 fu3, .bool de3] 30)
  have hb4 := hB3.trans (hal3.mono s3)
  have X4 := box_below X2 hb4
  have B4 := B2.trans (hb4.mono B2.size)
  have hF4 := hF2.below (hb4.mono (by omega))
  have hP4 := hP2.below (hb4.mono (by omega))
  have hY4 := hY2.below (hb4.mono (by omega))
  have hG3 : FilesAt w3 W2.heap.size w3.heap.size a3 gs.length c3 gs := by
    obtain ⟨_, _, _, e1, e2, e3⟩ := hO3.files.files
    cases e1
    exact e3
  have hQ3 : PendsAt w3 W2.heap.size w3.heap.size b3 qs.length d3 qs := by
    obtain ⟨_, _, _, e1, e2, e3⟩ := hO3.cache.pends
    cases e1
    exact e3
  have hG4 := hG3.below hal3
  have hQ4 := hQ3.below hal3
  have s4 : (w3.alloc (.cells #[.int .i64 er, .slice a3 gs.length c3, .slice b3 qs.length d3, .int .i64 cp, .int .i64 fu3, .bool de3] 30)).heap.size = w3.heap.size + 1 := by simp
  clear hO3 hG3 hQ3 hB3 hal3 hb4 X2 B2 hF2 hP2 hY2
  go_upto_region 5 with fail
  generalize w3.alloc (.cells #[.int .i64 er, .slice a3 gs.length c3, .slice b3 qs.length d3, .int .i64 cp, .int .i64 fu3, .bool de3] 30) = W4 at R4 X4 B4 hF4 hP4 hY4 hG4 hQ4 s4 ⊢
  go_cut [37] from 14 (fun p wx => p = .bool false ∧ Below W4.heap.size W4 wx)
  case first =>
    have BD : Below W4.heap.size W4 W4.drew := bl_dr _
    refine wp_region_noPanic ?_
    refine wp_region_held_drew (S := (fun w' => Below W4.heap.size W4 w')) (by kernel_rfl) ?_ (fun hHeld => ?_)
    · exact bl_dr _
    refine wpAnyH_take (i := 0) (oi := { dst := some 29, op := Op.fieldAddr 30 (Operand.tmp 7) 0, type := 0, pos := "laws.go:472", after := #[], guard := none }) (v := .pointer (some ⟨w3.heap.size, 0, none⟩)) rfl (by kernel_rfl) (by kernel_rfl) (by kernel_rfl) (fun _ _ _ h => h) (Or.inl ⟨by rfl, ?_⟩) (by assumption) ?_
    · intro wq hSw; (try dsimp only at hSw); go_simp
    try simp only [Act.put, List.setIfInBounds_toArray, List.set_cons_zero, List.set_cons_succ]
    refine wpAnyH_take (i := 1) (oi := { dst := some 30, op := Op.load 2 (Operand.tmp 29), type := 2, pos := "laws.go:472", after := #[{ on := 0, ground := Ground.data }], guard := none }) (v := .int .i64 er) rfl (by kernel_rfl) (by kernel_rfl) (by kernel_rfl) (fun _ _ _ h => h) (Or.inl ⟨by rfl, ?_⟩) (by assumption) ?_
    · intro wq hSw; (try dsimp only at hSw); obtain ⟨b0, b1, b2, b3, b4, b5⟩ := box_sixR (box_below R4 hSw); go_simp
    try simp only [Act.put, List.setIfInBounds_toArray, List.set_cons_zero, List.set_cons_succ]
    refine wpAnyH_take (i := 2) (oi := { dst := some 31, op := Op.load 26 (Operand.tmp 3), type := 26, pos := "laws.go:472", after := #[], guard := none }) (v := .agg #[.slice a1 n1 c1, .slice b1 m1 d1, .int .i64 cp, .int .i64 fu, .bool de]) rfl (by kernel_rfl) (by kernel_rfl) (by kernel_rfl) (fun _ _ _ h => h) (Or.inl ⟨by rfl, ?_⟩) (by assumption) ?_
    · intro wq hSw; (try dsimp only at hSw); obtain ⟨b0, b1, b2, b3, b4⟩ := box_fiveC (box_below X4 hSw); go_simp
    try simp only [Act.put, List.setIfInBounds_toArray, List.set_cons_zero, List.set_cons_succ]
    refine wpAnyH_take (i := 3) (oi := { dst := some 32, op := Op.move (Operand.tmp 4), type := 9, pos := "laws.go:472", after := #[], guard := none }) (v := .string nm) rfl (by kernel_rfl) (by kernel_rfl) (by kernel_rfl) (fun _ _ _ h => h) (Or.inl ⟨by rfl, ?_⟩) (by assumption) ?_
    · intro wq hSw; (try dsimp only at hSw); go_simp
    try simp only [Act.put, List.setIfInBounds_toArray, List.set_cons_zero, List.set_cons_succ]
    refine wpAnyH_take (i := 4) (oi := { dst := some 33, op := Op.move (Operand.tmp 5), type := 2, pos := "laws.go:472", after := #[], guard := none }) (v := .int .i64 pg) rfl (by kernel_rfl) (by kernel_rfl) (by kernel_rfl) (fun _ _ _ h => h) (Or.inl ⟨by rfl, ?_⟩) (by assumption) ?_
    · intro wq hSw; (try dsimp only at hSw); go_simp
    try simp only [Act.put, List.setIfInBounds_toArray, List.set_cons_zero, List.set_cons_succ]
    refine wpAnyH_take (i := 5) (oi := { dst := some 34, op := Op.move (Operand.tmp 6), type := 22, pos := "laws.go:472", after := #[], guard := none }) (v := .slice pa pn pc) rfl (by kernel_rfl) (by kernel_rfl) (by kernel_rfl) (fun _ _ _ h => h) (Or.inl ⟨by rfl, ?_⟩) (by assumption) ?_
    · intro wq hSw; (try dsimp only at hSw); go_simp
    try simp only [Act.put, List.setIfInBounds_toArray, List.set_cons_zero, List.set_cons_succ]
    refine wpAnyH_ready (rs := [6]) (by kernel_rfl) (by simp) ?_
    refine AllReadyH.cons (o := { dst := some 35, op := Op.call { callee := Callee.value (Operand.func 8), args := #[Operand.tmp 31, Operand.tmp 32, Operand.tmp 33, Operand.tmp 34], argTypes := #[26, 9, 2, 22] }, type := 30, pos := "laws.go:472", after := #[{ on := 2, ground := Ground.data }, { on := 3, ground := Ground.data }, { on := 4, ground := Ground.data }, { on := 5, ground := Ground.data }], guard := none }) rfl (fun K hK => ?_) AllReadyH.nil
    go_simp
    refine (HRS.out W4.drew w.heap.size w1.heap.size (by have := BD.size; omega) (hF4.below (BD.mono (by omega))) (hP4.below (BD.mono (by omega))) (hY4.below (BD.mono (by omega)))).mono ?_
    rintro e w5 hR5
    obtain ⟨a5, c5, b5', d5, xs5, vs5, ys5, us5, rfl, hO5, hB5⟩ := hR5.out
    have B5 : Below W4.heap.size W4 w5 := BD.trans (hB5.mono BD.size)
    clear hR5
    go_wp2_with fail
    refine hK.out _ _ B5 (fun hHeld => ?_)
    clear hK K
    try simp only [Act.put, List.setIfInBounds_toArray, List.set_cons_zero, List.set_cons_succ]
    refine wpAnyH_take (i := 7) (oi := { dst := some 36, op := Op.field 30 (Operand.tmp 35) 0, type := 2, pos := "laws.go:472", after := #[{ on := 6, ground := Ground.data }], guard := none }) (v := .int .i64 er) rfl (by kernel_rfl) (by kernel_rfl) (by kernel_rfl) (fun _ _ _ h => h) (Or.inl ⟨by rfl, ?_⟩) (by assumption) ?_
    · intro wq hSw; (try dsimp only at hSw); rfl
    try simp only [Act.put, List.setIfInBounds_toArray, List.set_cons_zero, List.set_cons_succ]
    refine wpAnyH_take (i := 8) (oi := { dst := some 37, op := Op.binOp BinOp.neq 2 (Operand.tmp 30) (Operand.tmp 36) 2, type := 4, pos := "laws.go:472", after := #[{ on := 1, ground := Ground.data }, { on := 7, ground := Ground.data }], guard := none }) (v := .bool false) rfl (by kernel_rfl) (by kernel_rfl) (by kernel_rfl) (fun _ _ _ h => h) (Or.inl ⟨by rfl, ?_⟩) (by assumption) ?_
    · intro wq hSw; (try dsimp only at hSw); go_simp
    try simp only [Act.put, List.setIfInBounds_toArray, List.set_cons_zero, List.set_cons_succ]
    refine wpAnyH_done (by kernel_rfl) ?_ _
    refine NoPanic.normal ?_
    go_wp2_with fail
    go_meet
    exact ⟨rfl, B5⟩
  case rest =>
    obtain ⟨w5, hw5⟩ : ∃ x, x = wc := ⟨_, rfl⟩
    subst hw5
    obtain ⟨rfl, B5⟩ := hcut
    have s5 := B5.size
    have R5 := box_below R4 B5
    have X5 := box_below X4 B5
    have Bw5 := B4.trans (B5.mono B4.size)
    have hF5 := hF4.below (B5.mono (by omega))
    have hP5 := hP4.below (B5.mono (by omega))
    have hY5 := hY4.below (B5.mono (by omega))
    have hG5 := hG4.below (B5.mono (by omega))
    have hQ5 := hQ4.below (B5.mono (by omega))
    clear R4 X4 B4 hF4 hP4 hY4 hG4 hQ4 HRS B5
    have l3 : w3.heap.size < w5.heap.size := by omega
    have l1 : w1.heap.size < w5.heap.size := by omega
    by_cases te : er = 0
    · have se : (er != 0) = false := by simp [te]
      have hrw : rwI fs ps cp fu de nm pg ds = 0 := by
        have h1 := HE.out.1
        unfold dsE at h1
        split at h1
        · assumption
        · omega
      have hf0 : ¬ fu = 0 := by
        have h1 := HE.out.1
        unfold dsE spE at h1
        rw [if_pos hrw] at h1
        intro h2
        rw [if_pos h2] at h1
        omega
      obtain ⟨h1, h2, h3, _, h5⟩ := HE.out
      clear h1
      unfold dsX at h2 h3
      rw [if_pos ⟨hrw, hf0⟩] at h2 h3
      have hde := (valid_write hrw).2.1
      have h6 : de3 = false := by rw [h5]; unfold dsD spD; rw [if_pos hrw, if_neg hf0]; exact hde
      clear h5 HE
      subst h2 h6 te hde
      have HW : Hid (rwI gs ps cp fu false nm pg ds = 0 ∧ qs = ps ++ [(nm, pg, ds)]) := ⟨hrw, h3⟩
      have hql : qs.length = m1 + 1 := by rw [h3, List.length_append, hP5.1]; rfl
      clear hrw h3 hf0
      obtain ⟨r0, r1, r2, r3, r4, r5⟩ := box_sixR R5
      have rf := box_thawC R5
      have hset := fr_setCell w5 w3.heap.size 4 (.int .i64 (-1))
      have ss := hset.size
      have R6 : (w5.setCell ⟨w3.heap.size, 4, none⟩ (.int .i64 (-1))).heap[w3.heap.size]? = some (.cells #[.int .i64 0, .slice a3 gs.length c3, .slice b3 qs.length d3, .int .i64 cp, .int .i64 (-1), .bool false] 30) := by
        have := heap_setCell_at R5 4 (.int .i64 (-1))
        simpa using this
      have X6 := box_fr X5 hset (by omega)
      have hb6 := hset.below (B := w3.heap.size) (by omega) (fun g e => by omega)
      have Bw6 := Bw5.trans (hb6.mono (by omega))
      have hF6 := hF5.below (hb6.mono (by omega))
      have hP6 := hP5.below (hb6.mono (by omega))
      have hY6 := hY5.below (hb6.mono (by omega))
      have hG6 := hG5.below hb6
      have hQ6 := hQ5.below hb6
      have hal := (Below.refl (w5.setCell ⟨w3.heap.size, 4, none⟩ (.int .i64 (-1))).heap.size (w5.setCell ⟨w3.heap.size, 4, none⟩ (.int .i64 (-1)))).alloc (Nat.le_refl _) (.cells #[.slice none 0 0, .int .i64 (-1), .int .i64 0] 34)
      have C7 := heap_alloc_new (w5.setCell ⟨w3.heap.size, 4, none⟩ (.int .i64 (-1))) (.cells #[.slice none 0 0, .int .i64 (-1), .int .i64 0] 34)
      have R7 := box_below R6 hal
      have X7 := box_below X6 hal
      have Bw7 := Bw6.trans (hal.mono Bw6.size)
      have hF7 := hF6.below (hal.mono (by omega))
      have hP7 := hP6.below (hal.mono (by omega))
      have hY7 := hY6.below (hal.mono (by omega))
      have hG7 := hG6.below (hal.mono (by omega))
      have hQ7 := hQ6.below (hal.mono (by omega))
      have ss2 : (w5.setCell ⟨w3.heap.size, 4, none⟩ (.int .i64 (-1))).heap.size = w5.heap.size := by simp [World.setCell]
      have s7 : ((w5.setCell ⟨w3.heap.size, 4, none⟩ (.int .i64 (-1))).alloc (.cells #[.slice none 0 0, .int .i64 (-1), .int .i64 0] 34)).heap.size = w5.heap.size + 1 := by simp [World.setCell]
      rw [ss2] at C7
      clear hF5 hP5 hY5 hG5 hQ5 X5 R5 Bw5 hb6 hset hF6 hP6 hY6 hG6 hQ6 X6 R6 Bw6 hal ss
      obtain ⟨i0, hi, hz0, hz1, hz2⟩ := info_parts info_bool
      go_wp2
      generalize (w5.setCell ⟨w3.heap.size, 4, none⟩ (.int .i64 (-1))).alloc (.cells #[.slice none 0 0, .int .i64 (-1), .int .i64 0] 34) = W7 at C7 R7 X7 Bw7 hF7 hP7 hY7 hG7 hQ7 s7 ⊢
      have K7 : KSt W7 W7 w5.heap.size 0 none 0 := ⟨C7, World.ownsRow_nil W7 _ 4 1, Below.refl _ _⟩
      clear r0 r1 r2 r3 r4 r5 rf C7
      go_loopw [9] (fun i wr => ∃ (k : Nat) (ka : Option Addr) (kc : Nat), k ≤ qs.length ∧ i = .int .i64 k ∧ KSt W7 wr w5.heap.size k ka kc) (fun i _ => qs.length - (intOf i).toNat)
      case atStart => exact ⟨0, none, 0, Nat.zero_le _, rfl, K7⟩
      case round =>
        obtain ⟨k, ka, kc, hk, rfl, hK⟩ := hrel
        have Rr := (hK.bel.block w3.heap.size (by omega)).trans R7
        obtain ⟨r0, r1, r2, r3, r4, r5⟩ := box_sixR Rr
        obtain ⟨c0, c1, c2⟩ := box_threeC hK.bx
        have cf := box_thawC hK.bx
        have lC : w5.heap.size < wr.heap.size := (Array.getElem?_eq_some_iff.1 hK.bx).1
        by_cases hlt : k < qs.length
        · have hrow := hK.row
          have l3r : w3.heap.size < wr.heap.size := by omega
          go_wp2_with (at_builtin; refine wpList_append_own2 _ rfl _ _ 32 rfl (w5.heap.size + 1) 4 i0 (.bool false) 1 1 Try.underlying32 hi hz0 hz1 hz2 rfl (by decide) _ _ _ rfl (hrow.alloc _) ⟨wr.heap.size, 0, none⟩ 1 1 [.bool true] rfl rfl (cell_one_new _ _ _) (by simp [Value.oneCell']) (by unfold maxLen; omega) (by omega) (by simp; omega) ?_; intro v' w8 hown' hgr hat; obtain ⟨a2, c2', rfl, hK2, X8⟩ := hK.push hown' hgr (by omega); obtain ⟨y0, y1, y2⟩ := box_threeC X8; have yf := box_thawC X8; have l8 := (Array.getElem?_eq_some_iff.1 X8).1; clear hown' hgr hat X8 hK)
          go_roundw
          case rel => exact ⟨k + 1, a2, c2', by omega, by go_num, hK2⟩
          case measure => simp [intOf]; omega
        · obtain rfl : k = qs.length := by omega
          clear hlt
          have hB7 := hK.bel
          have X8 := (hB7.block w1.heap.size (by omega)).trans X7
          have Bw8 := Bw7.trans (hB7.mono (by omega))
          have hF8 := hF7.below (hB7.mono (by omega))
          have hP8 := hP7.below (hB7.mono (by omega))
          have hY8 := hY7.below (hB7.mono (by omega))
          have hG8 := hG7.below (hB7.mono (by omega))
          have hQ8 := hQ7.below (hB7.mono (by omega))
          have hK8 := hK.bools
          obtain ⟨v1, v2, v3, v4, v5, v6, v7⟩ := valid_write HW.out.1
          rw [← HW.out.2] at v1
          have HV : Hid (implV gs qs cp (-1) = true) := v1
          have hallG : ∀ j, j < gs.length → (gs.getD j (ByteArray.empty, [])).2.length ≤ 1048576 := by rw [hF8.1]; exact hall
          clear v1 v2 v3 v4 v5 v6 v7 X7 Bw7 hF7 hP7 hY7 hG7 hQ7 hK R7 K7 hB7
          rw [hql] at hQ8 hK8
          go_wp2_with fail
          refine (implCrash_any a3 gs.length c3 gs b3 (m1 + 1) d3 qs cp (-1) false ka (m1 + 1) kc (List.replicate (m1 + 1) true) (-1) 0 wr W2.heap.size wr.heap.size (Nat.le_refl _) (hG8.up (Nat.le_refl _) (by omega)) (hQ8.up (Nat.le_refl _) (by omega)) (hK8.upX (by omega) (Nat.le_refl _)) hallG).mono ?_
          rintro e w9 hD9
          obtain ⟨a9, c9, rfl, hZ9, hB9⟩ := hD9.ex
          have R8 := Rr
          clear r0 r1 r2 r3 r4 r5 c0 c1 c2 cf Rr
          obtain ⟨e1, e2, e3⟩ := crash_all HV.out (m1 + 1) hql.symm
          rw [e1] at hZ9
          rw [e1, e2, e3]
          obtain ⟨ls, hls⟩ : ∃ x, x = lastF qs gs := ⟨_, rfl⟩
          rw [← hls] at hZ9 ⊢
          have HL : Hid (ls = lastF qs gs) := hls
          clear hls e1 e2 e3 hD9 hK8
          have s9 := hB9.size
          have hal9 := (Below.refl w9.heap.size w9).alloc (Nat.le_refl _) (.cells #[.slice a9 ls.length c9, .slice none 0 0, .int .i64 cp, .int .i64 (-1), .bool false] 26)
          have K10 := heap_alloc_new w9 (.cells #[.slice a9 ls.length c9, .slice none 0 0, .int .i64 cp, .int .i64 (-1), .bool false] 26)
          have hb10 : Below wr.heap.size wr (w9.alloc (.cells #[.slice a9 ls.length c9, .slice none 0 0, .int .i64 cp, .int .i64 (-1), .bool false] 26)) := hB9.trans (hal9.mono s9)
          have hZ10 : FilesAt (w9.alloc (.cells #[.slice a9 ls.length c9, .slice none 0 0, .int .i64 cp, .int .i64 (-1), .bool false] 26)) wr.heap.size w9.heap.size a9 ls.length c9 ls := hZ9.files.below hal9
          have s10 : (w9.alloc (.cells #[.slice a9 ls.length c9, .slice none 0 0, .int .i64 cp, .int .i64 (-1), .bool false] 26)).heap.size = w9.heap.size + 1 := by simp
          have R10 := box_below R8 hb10
          have X10 := box_below X8 hb10
          have Bw10 := Bw8.trans (hb10.mono Bw8.size)
          have hF10 := hF8.below (hb10.mono (by omega))
          have hP10 := hP8.below (hb10.mono (by omega))
          have hY10 := hY8.below (hb10.mono (by omega))
          have hG10 := hG8.below (hb10.mono (by omega))
          have hQ10 := hQ8.below (hb10.mono (by omega))
          clear R8 X8 Bw8 hF8 hP8 hY8 hG8 hQ8
          clear hZ9 hB9 hal9 hb10
          obtain ⟨r0, r1, r2, r3, r4, r5⟩ := box_sixR R10
          have l10 : w3.heap.size < (w9.alloc (.cells #[.slice a9 ls.length c9, .slice none 0 0, .int .i64 cp, .int .i64 (-1), .bool false] 26)).heap.size := by omega
          go_wp2_with fail
          generalize (w9.alloc (.cells #[.slice a9 ls.length c9, .slice none 0 0, .int .i64 cp, .int .i64 (-1), .bool false] 26)) = W10 at K10 hZ10 s10 R10 X10 Bw10 hF10 hP10 hY10 hG10 hQ10 r0 r1 r2 r3 r4 r5 l10 ⊢
          refine (implCrash_any a3 gs.length c3 gs b3 (m1 + 1) d3 qs cp (-1) false none 0 0 [] (-1) 0 W10 W2.heap.size w3.heap.size (by omega) hG10 hQ10 (noBools _ _ _) hallG).mono ?_
          rintro e w11 hD11
          obtain ⟨a11, c11, rfl, hZ11, hB11⟩ := hD11.ex
          obtain ⟨e1, e2, e3⟩ := crash_all HV.out (m1 + 1) hql.symm
          have e4 := crash_none HV.out
          rw [e4] at hZ11
          rw [e4, e2, e3]
          clear e1 e2 e3 e4 hD11 r0 r1 r2 r3 r4 r5 l10
          have s11 := hB11.size
          have hal11 := (Below.refl w11.heap.size w11).alloc (Nat.le_refl _) (.cells #[.slice a11 gs.length c11, .slice none 0 0, .int .i64 cp, .int .i64 (-1), .bool false] 26)
          have N12 := heap_alloc_new w11 (.cells #[.slice a11 gs.length c11, .slice none 0 0, .int .i64 cp, .int .i64 (-1), .bool false] 26)
          have hb12 : Below W10.heap.size W10 (w11.alloc (.cells #[.slice a11 gs.length c11, .slice none 0 0, .int .i64 cp, .int .i64 (-1), .bool false] 26)) := hB11.trans (hal11.mono s11)
          have hM12 : FilesAt (w11.alloc (.cells #[.slice a11 gs.length c11, .slice none 0 0, .int .i64 cp, .int .i64 (-1), .bool false] 26)) W10.heap.size w11.heap.size a11 gs.length c11 gs := hZ11.files.below hal11
          have s12 : (w11.alloc (.cells #[.slice a11 gs.length c11, .slice none 0 0, .int .i64 cp, .int .i64 (-1), .bool false] 26)).heap.size = w11.heap.size + 1 := by simp
          have R12 := box_below R10 hb12
          have X12 := box_below X10 hb12
          have Bw12 := Bw10.trans (hb12.mono Bw10.size)
          have hF12 := hF10.below (hb12.mono (by omega))
          have hP12 := hP10.below (hb12.mono (by omega))
          have hY12 := hY10.below (hb12.mono (by omega))
          have hG12 := hG10.below (hb12.mono (by omega))
          have hQ12 := hQ10.below (hb12.mono (by omega))
          have K12 := box_below K10 hb12
          have hZ12 := hZ10.below (hb12.mono (by omega))
          clear R10 X10 Bw10 hF10 hP10 hY10 hG10 hQ10
          clear hZ11 hB11 hal11 hb12 K10 hZ10
          obtain ⟨r0, r1, r2, r3, r4, r5⟩ := box_sixR R12
          have l12 : w3.heap.size < (w11.alloc (.cells #[.slice a11 gs.length c11, .slice none 0 0, .int .i64 cp, .int .i64 (-1), .bool false] 26)).heap.size := by omega
          go_wp2_with fail
          generalize (w11.alloc (.cells #[.slice a11 gs.length c11, .slice none 0 0, .int .i64 cp, .int .i64 (-1), .bool false] 26)) = W12 at N12 hM12 s12 K12 hZ12 R12 X12 Bw12 hF12 hP12 hY12 hG12 hQ12 r0 r1 r2 r3 r4 r5 l12 ⊢
          have vb := val_bounds HV.out
          refine (implSync_any a3 gs.length c3 gs b3 (m1 + 1) d3 qs cp (-1) false W12 W2.heap.size w3.heap.size (by omega) hG12 hQ12 (by omega) (by omega) (by omega) hallG (by rw [← hql]; exact vb.2.2.2.2.2.2)).mono ?_
          rintro e w13 hR13
          obtain ⟨t1, t2, t3, t4, t5, t6⟩ := sync_vals HV.out
          rw [t1, t2, t3, t4, t5, t6, ← HL.out] at hR13
          obtain ⟨a13, c13, b13, d13, xs13, vs13, ys13, us13, rfl, hO13, hB13⟩ := hR13.out
          have hT13 : FilesAt w13 W12.heap.size w13.heap.size a13 ls.length c13 ls := by
            obtain ⟨_, _, _, e1, e2, e3⟩ := hO13.files.files
            cases e1
            exact e3
          simp only [List.length_nil]
          clear t1 t2 t3 t4 t5 t6 hR13 hO13 r0 r1 r2 r3 r4 r5 l12 vb
          have s13 := hB13.size
          have hal13 := (Below.refl w13.heap.size w13).alloc (Nat.le_refl _) (.cells #[.int .i64 0, .slice a13 ls.length c13, .slice b13 0 d13, .int .i64 cp, .int .i64 (-1), .bool false] 30)
          have S14 := heap_alloc_new w13 (.cells #[.int .i64 0, .slice a13 ls.length c13, .slice b13 0 d13, .int .i64 cp, .int .i64 (-1), .bool false] 30)
          have hb14 : Below W12.heap.size W12 (w13.alloc (.cells #[.int .i64 0, .slice a13 ls.length c13, .slice b13 0 d13, .int .i64 cp, .int .i64 (-1), .bool false] 30)) := hB13.trans (hal13.mono s13)
          have hT14 : FilesAt (w13.alloc (.cells #[.int .i64 0, .slice a13 ls.length c13, .slice b13 0 d13, .int .i64 cp, .int .i64 (-1), .bool false] 30)) W12.heap.size w13.heap.size a13 ls.length c13 ls := hT13.below hal13
          have s14 : (w13.alloc (.cells #[.int .i64 0, .slice a13 ls.length c13, .slice b13 0 d13, .int .i64 cp, .int .i64 (-1), .bool false] 30)).heap.size = w13.heap.size + 1 := by simp
          have R14 := box_below R12 hb14
          have X14 := box_below X12 hb14
          have Bw14 := Bw12.trans (hb14.mono Bw12.size)
          have hF14 := hF12.below (hb14.mono (by omega))
          have hP14 := hP12.below (hb14.mono (by omega))
          have hY14 := hY12.below (hb14.mono (by omega))
          have hG14 := hG12.below (hb14.mono (by omega))
          have hQ14 := hQ12.below (hb14.mono (by omega))
          have K14 := box_below K12 hb14
          have hZ14 := hZ12.below (hb14.mono (by omega))
          have N14 := box_below N12 hb14
          have hM14 := hM12.below (hb14.mono (by omega))
          clear R12 X12 Bw12 hF12 hP12 hY12 hG12 hQ12
          clear hT13 hB13 hal13 hb14 K12 hZ12 N12 hM12
          rw [hql] at R14
          by_cases tp : pg = 0
          · subst tp
            have sp : ((0 : Int) == 0) = true := rfl
            go_upto_region 21 with fail
            generalize (w13.alloc (.cells #[.int .i64 0, .slice a13 ls.length c13, .slice b13 0 d13, .int .i64 cp, .int .i64 (-1), .bool false] 30)) = W14 at S14 hT14 s14 K14 hZ14 N14 hM14 R14 X14 Bw14 hF14 hP14 hY14 hG14 hQ14 ⊢
            have rw1 := (read_write HW.out.1).1
            have rw2 := (read_write HW.out.1).2.1 1 (by omega)
            have rw3 := (read_write HW.out.1).2.2
            rw [← HW.out.2] at rw1 rw2 rw3
            rw [← HL.out] at rw3
            have HR1 : Hid (readP gs qs cp (-1) nm 0 = ds) := rw1
            have HR2 : Hid (readP gs qs cp (-1) nm 1 = readP gs ps cp fu nm 1) := rw2
            have HR3 : Hid (readP ls [] cp (-1) nm 0 = ds) := rw3
            have HLA : Hid (∀ j, j < ls.length → (ls.getD j (ByteArray.empty, [])).2.length ≤ 1048576) := by
              have := (val_bounds (valid_sync HV.out)).2.2.2.2.2.1
              rw [← HL.out] at this
              exact this
            have hgl : gs.length = n1 := hF14.1
            subst hgl
            clear rw1 rw2 rw3
            have hwp : (Lit.int .i64 0).wf = true := wf_pg hpg
            go_cut [2] from 3 (fun p wx => p = .bool true ∧ Below W14.heap.size W14 wx)
            case first =>
              have pG : Hid (∀ W', Below W14.heap.size W14 W' → w3.heap.size ≤ W'.heap.size ∧ FilesAt W' W2.heap.size w3.heap.size a3 gs.length c3 gs) := fun W' h => ⟨by have := h.size; omega, hG14.below (h.mono (by omega))⟩
              have pQ : Hid (∀ W', Below W14.heap.size W14 W' → PendsAt W' W2.heap.size w3.heap.size b3 (m1 + 1) d3 qs) := fun W' h => hQ14.below (h.mono (by omega))
              have pF : Hid (∀ W', Below W14.heap.size W14 W' → w1.heap.size ≤ W'.heap.size ∧ FilesAt W' w.heap.size w1.heap.size a1 gs.length c1 gs) := fun W' h => ⟨by have := h.size; omega, hF14.below (h.mono (by omega))⟩
              have pP : Hid (∀ W', Below W14.heap.size W14 W' → PendsAt W' w.heap.size w1.heap.size b1 m1 d1 ps) := fun W' h => hP14.below (h.mono (by omega))
              have pY : Hid (∀ W', Below W14.heap.size W14 W' → BytesAt W' w.heap.size w1.heap.size pa pn pc ds) := fun W' h => hY14.below (h.mono (by omega))
              have pM : Hid (∀ W', Below W14.heap.size W14 W' → w11.heap.size ≤ W'.heap.size ∧ FilesAt W' W10.heap.size w11.heap.size a11 gs.length c11 gs) := fun W' h => ⟨by have := h.size; omega, hM14.below (h.mono (by omega))⟩
              have pZ : Hid (∀ W', Below W14.heap.size W14 W' → w9.heap.size ≤ W'.heap.size ∧ FilesAt W' wr.heap.size w9.heap.size a9 ls.length c9 ls) := fun W' h => ⟨by have := h.size; omega, hZ14.below (h.mono (by omega))⟩
              have pT : Hid (∀ W', Below W14.heap.size W14 W' → w13.heap.size ≤ W'.heap.size ∧ FilesAt W' W12.heap.size w13.heap.size a13 ls.length c13 ls) := fun W' h => ⟨by have := h.size; omega, hT14.below (h.mono (by omega))⟩
              have HAG : Hid (∀ (j : Nat), j < gs.length → (gs.getD j (ByteArray.empty, [])).2.length ≤ 1048576) := hallG
              have HAL : Hid (∀ (j : Nat), j < gs.length → (gs.getD j (ByteArray.empty, [])).2.length ≤ 1048576) := hall
              have R14H : Hid _ := R14
              have X14H : Hid _ := X14
              have K14H : Hid _ := K14
              have N14H : Hid _ := N14
              have S14H : Hid _ := S14
              clear R14 X14 K14 N14 S14 hG14 hQ14 hF14 hP14 hY14 hM14 hZ14 hT14 hallG hall tn sn hcp hfu s1 hall2 hn1 hm1 s2 s3 s4 s5 l3 l1 hbd se HW ss2 hi hz0 hz1 hz2 s7 lC hk HV HL s9 s10 s11 s12 s13 s14 hql hpg hpn hnm Bw14 sp
              have B0 : Below W14.heap.size W14 W14.drew := bl_dr _
              refine wp_region_noPanic ?_
              refine wp_region_held_drew (S := (fun w' => Below W14.heap.size W14 w')) (by kernel_rfl) ?_ (fun hHeld => ?_)
              · exact bl_dr _
              refine wpAnyH_take (i := 0) (oi := { dst := some 78, op := Op.fieldAddr 30 (Operand.tmp 7) 1, type := 0, pos := "laws.go:490", after := #[], guard := none }) (v := .pointer (some ⟨w3.heap.size, 1, none⟩)) rfl (by kernel_rfl) (by kernel_rfl) (by kernel_rfl) (fun _ _ _ h => h) (Or.inl ⟨by rfl, ?_⟩) (by assumption) ?_
              · intro wq hSw; (try dsimp only at hSw); go_simp
              try simp only [Act.put, List.setIfInBounds_toArray, List.set_cons_zero, List.set_cons_succ]
              refine wpAnyH_take (i := 1) (oi := { dst := some 79, op := Op.load 26 (Operand.tmp 78), type := 26, pos := "laws.go:490", after := #[{ on := 0, ground := Ground.data }], guard := none }) (v := .agg #[.slice a3 gs.length c3, .slice b3 (m1 + 1) d3, .int .i64 cp, .int .i64 (-1), .bool false]) rfl (by kernel_rfl) (by kernel_rfl) (by kernel_rfl) (fun _ _ _ h => h) (Or.inl ⟨by rfl, ?_⟩) (by assumption) ?_
              · intro wq hSw; (try dsimp only at hSw); obtain ⟨q0, q1, q2, q3, q4, q5⟩ := box_sixR (box_below R14H.out hSw); go_simp
              try simp only [Act.put, List.setIfInBounds_toArray, List.set_cons_zero, List.set_cons_succ]
              refine wpAnyH_take (i := 2) (oi := { dst := some 80, op := Op.move (Operand.tmp 4), type := 9, pos := "laws.go:490", after := #[], guard := none }) (v := .string nm) rfl (by kernel_rfl) (by kernel_rfl) (by kernel_rfl) (fun _ _ _ h => h) (Or.inl ⟨by rfl, ?_⟩) (by assumption) ?_
              · intro wq hSw; (try dsimp only at hSw); go_simp
              try simp only [Act.put, List.setIfInBounds_toArray, List.set_cons_zero, List.set_cons_succ]
              refine wpAnyH_take (i := 3) (oi := { dst := some 81, op := Op.move (Operand.tmp 5), type := 2, pos := "laws.go:490", after := #[], guard := none }) (v := .int .i64 0) rfl (by kernel_rfl) (by kernel_rfl) (by kernel_rfl) (fun _ _ _ h => h) (Or.inl ⟨by rfl, ?_⟩) (by assumption) ?_
              · intro wq hSw; (try dsimp only at hSw); go_simp
              try simp only [Act.put, List.setIfInBounds_toArray, List.set_cons_zero, List.set_cons_succ]
              refine wpAnyH_take (i := 5) (oi := { dst := some 83, op := Op.move (Operand.tmp 6), type := 22, pos := "laws.go:490", after := #[], guard := none }) (v := .slice pa pn pc) rfl (by kernel_rfl) (by kernel_rfl) (by kernel_rfl) (fun _ _ _ h => h) (Or.inl ⟨by rfl, ?_⟩) (by assumption) ?_
              · intro wq hSw; (try dsimp only at hSw); go_simp
              try simp only [Act.put, List.setIfInBounds_toArray, List.set_cons_zero, List.set_cons_succ]
              refine wpAnyH_ready (rs := [4]) (by kernel_rfl) (by simp) ?_
              refine AllReadyH.cons (o := { dst := some 82, op := Op.call { callee := Callee.value (Operand.func 12), args := #[Operand.tmp 79, Operand.tmp 80, Operand.tmp 81], argTypes := #[26, 9, 2] }, type := 22, pos := "laws.go:490", after := #[{ on := 1, ground := Ground.data }, { on := 2, ground := Ground.data }, { on := 3, ground := Ground.data }], guard := none }) rfl (fun K hK => ?_) AllReadyH.nil
              go_simp
              refine (implRead_any a3 gs.length c3 gs b3 (m1 + 1) d3 qs cp (-1) false nm hsz 0 W14.drew W2.heap.size w3.heap.size (pG.out _ B0).1 (pG.out _ B0).2 (pQ.out _ B0) hwp HAG.out).mono ?_
              rintro e u1 ⟨va, vn, vc, ty, rfl, hvn, ho1, hb1, _, hB1⟩
              rw [HR1.out] at ho1 hb1
              have Y1 := (RowZ.mk' ho1 hb1).bytes
              have B1 : Below W14.heap.size W14 u1 := B0.trans (hB1.mono B0.size)
              clear ho1 hb1 hvn hB1
              go_wp2_with fail
              refine hK.out _ _ B1 (fun hHeld => ?_)
              clear hK K
              try simp only [Act.put, List.setIfInBounds_toArray, List.set_cons_zero, List.set_cons_succ]
              refine wpAnyH_ready (rs := [6]) (by kernel_rfl) (by simp) ?_
              refine AllReadyH.cons (o := { dst := some 84, op := Op.call { callee := Callee.value (Operand.func 11), args := #[Operand.tmp 82, Operand.tmp 83], argTypes := #[22, 22] }, type := 4, pos := "laws.go:490", after := #[{ on := 4, ground := Ground.data }, { on := 5, ground := Ground.data }, { on := 4, ground := Ground.chain }], guard := none }) rfl (fun K hK => ?_) AllReadyH.nil
              go_simp
              refine (lwBytes_same va vn vc ds pa pn pc u1 _ _ _ _ Y1 (pY.out _ B1)).mono ?_
              rintro e u1' ⟨rfl, rfl⟩
              go_wp2_with fail
              refine hK.out _ _ B1 (fun hHeld => ?_)
              clear hK K
              try simp only [Act.put, List.setIfInBounds_toArray, List.set_cons_zero, List.set_cons_succ]
              clear Y1
              refine wpAnyH_take (i := 7) (oi := { dst := some 85, op := Op.move (Operand.tmp 84), type := 4, pos := "laws.go:490", after := #[{ on := 6, ground := Ground.data }, { on := 6, ground := Ground.chain }], guard := none }) (v := .bool true) rfl (by kernel_rfl) (by kernel_rfl) (by kernel_rfl) (fun _ _ _ h => h) (Or.inl ⟨by rfl, ?_⟩) (by assumption) ?_
              · intro wq hSw; (try dsimp only at hSw); go_simp
              try simp only [Act.put, List.setIfInBounds_toArray, List.set_cons_zero, List.set_cons_succ]
              refine wpAnyH_take (i := 8) (oi := { dst := some 86, op := Op.fieldAddr 30 (Operand.tmp 7) 1, type := 0, pos := "laws.go:490", after := #[{ on := 7, ground := Ground.guard }], guard := some (7, true) }) (v := .pointer (some ⟨w3.heap.size, 1, none⟩)) rfl (by kernel_rfl) (by kernel_rfl) (by kernel_rfl) (fun _ _ _ h => h) (Or.inl ⟨by rfl, ?_⟩) (by assumption) ?_
              · intro wq hSw; (try dsimp only at hSw); go_simp
              try simp only [Act.put, List.setIfInBounds_toArray, List.set_cons_zero, List.set_cons_succ]
              refine wpAnyH_take (i := 9) (oi := { dst := some 87, op := Op.load 26 (Operand.tmp 86), type := 26, pos := "laws.go:490", after := #[{ on := 8, ground := Ground.data }, { on := 7, ground := Ground.guard }], guard := some (7, true) }) (v := .agg #[.slice a3 gs.length c3, .slice b3 (m1 + 1) d3, .int .i64 cp, .int .i64 (-1), .bool false]) rfl (by kernel_rfl) (by kernel_rfl) (by kernel_rfl) (fun _ _ _ h => h) (Or.inl ⟨by rfl, ?_⟩) (by assumption) ?_
              · intro wq hSw; (try dsimp only at hSw); obtain ⟨q0, q1, q2, q3, q4, q5⟩ := box_sixR (box_below R14H.out hSw); go_simp
              try simp only [Act.put, List.setIfInBounds_toArray, List.set_cons_zero, List.set_cons_succ]
              refine wpAnyH_take (i := 10) (oi := { dst := some 88, op := Op.move (Operand.tmp 4), type := 9, pos := "laws.go:490", after := #[{ on := 7, ground := Ground.guard }], guard := some (7, true) }) (v := .string nm) rfl (by kernel_rfl) (by kernel_rfl) (by kernel_rfl) (fun _ _ _ h => h) (Or.inl ⟨by rfl, ?_⟩) (by assumption) ?_
              · intro wq hSw; (try dsimp only at hSw); go_simp
              try simp only [Act.put, List.setIfInBounds_toArray, List.set_cons_zero, List.set_cons_succ]
              refine wpAnyH_take (i := 11) (oi := { dst := some 89, op := Op.move (Operand.tmp 13), type := 2, pos := "laws.go:490", after := #[{ on := 7, ground := Ground.guard }], guard := some (7, true) }) (v := .int .i64 1) rfl (by kernel_rfl) (by kernel_rfl) (by kernel_rfl) (fun _ _ _ h => h) (Or.inl ⟨by rfl, ?_⟩) (by assumption) ?_
              · intro wq hSw; (try dsimp only at hSw); go_simp
              try simp only [Act.put, List.setIfInBounds_toArray, List.set_cons_zero, List.set_cons_succ]
              refine wpAnyH_take (i := 13) (oi := { dst := some 91, op := Op.load 26 (Operand.tmp 3), type := 26, pos := "laws.go:490", after := #[{ on := 7, ground := Ground.guard }], guard := some (7, true) }) (v := .agg #[.slice a1 gs.length c1, .slice b1 m1 d1, .int .i64 cp, .int .i64 fu, .bool false]) rfl (by kernel_rfl) (by kernel_rfl) (by kernel_rfl) (fun _ _ _ h => h) (Or.inl ⟨by rfl, ?_⟩) (by assumption) ?_
              · intro wq hSw; (try dsimp only at hSw); obtain ⟨q0, q1, q2, q3, q4⟩ := box_fiveC (box_below X14H.out hSw); go_simp
              try simp only [Act.put, List.setIfInBounds_toArray, List.set_cons_zero, List.set_cons_succ]
              refine wpAnyH_take (i := 14) (oi := { dst := some 92, op := Op.move (Operand.tmp 4), type := 9, pos := "laws.go:490", after := #[{ on := 7, ground := Ground.guard }], guard := some (7, true) }) (v := .string nm) rfl (by kernel_rfl) (by kernel_rfl) (by kernel_rfl) (fun _ _ _ h => h) (Or.inl ⟨by rfl, ?_⟩) (by assumption) ?_
              · intro wq hSw; (try dsimp only at hSw); go_simp
              try simp only [Act.put, List.setIfInBounds_toArray, List.set_cons_zero, List.set_cons_succ]
              refine wpAnyH_take (i := 15) (oi := { dst := some 93, op := Op.move (Operand.tmp 13), type := 2, pos := "laws.go:490", after := #[{ on := 7, ground := Ground.guard }], guard := some (7, true) }) (v := .int .i64 1) rfl (by kernel_rfl) (by kernel_rfl) (by kernel_rfl) (fun _ _ _ h => h) (Or.inl ⟨by rfl, ?_⟩) (by assumption) ?_
              · intro wq hSw; (try dsimp only at hSw); go_simp
              try simp only [Act.put, List.setIfInBounds_toArray, List.set_cons_zero, List.set_cons_succ]
              refine wpAnyH_ready (rs := [12]) (by kernel_rfl) (by simp) ?_
              refine AllReadyH.cons (o := { dst := some 90, op := Op.call { callee := Callee.value (Operand.func 12), args := #[Operand.tmp 87, Operand.tmp 88, Operand.tmp 89], argTypes := #[26, 9, 2] }, type := 22, pos := "laws.go:490", after := #[{ on := 9, ground := Ground.data }, { on := 10, ground := Ground.data }, { on := 11, ground := Ground.data }, { on := 7, ground := Ground.chain }, { on := 7, ground := Ground.guard }], guard := some (7, true) }) rfl (fun K hK => ?_) AllReadyH.nil
              go_simp
              refine (implRead_any a3 gs.length c3 gs b3 (m1 + 1) d3 qs cp (-1) false nm hsz 1 u1' W2.heap.size w3.heap.size (pG.out _ B1).1 (pG.out _ B1).2 (pQ.out _ B1) (by decide) HAG.out).mono ?_
              rintro e u2 ⟨va2, vn2, vc2, ty2, rfl, hvn2, ho2, hb2, _, hB2⟩
              rw [HR2.out] at ho2 hb2
              have Y2 := (RowZ.mk' ho2 hb2).bytes
              have B2 : Below W14.heap.size W14 u2 := B1.trans (hB2.mono B1.size)
              clear ho2 hb2 hvn2 hB2
              go_wp2_with fail
              refine hK.out _ _ B2 (fun hHeld => ?_)
              clear hK K
              try simp only [Act.put, List.setIfInBounds_toArray, List.set_cons_zero, List.set_cons_succ]
              refine wpAnyH_ready (rs := [16]) (by kernel_rfl) (by simp) ?_
              refine AllReadyH.cons (o := { dst := some 94, op := Op.call { callee := Callee.value (Operand.func 13), args := #[Operand.tmp 91, Operand.tmp 92, Operand.tmp 93], argTypes := #[26, 9, 2] }, type := 22, pos := "laws.go:490", after := #[{ on := 13, ground := Ground.data }, { on := 14, ground := Ground.data }, { on := 15, ground := Ground.data }, { on := 12, ground := Ground.chain }, { on := 7, ground := Ground.guard }], guard := some (7, true) }) rfl (fun K hK => ?_) AllReadyH.nil
              go_simp
              refine (specRead_any a1 gs.length c1 gs b1 m1 d1 ps cp fu false nm 1 u2 w.heap.size w1.heap.size (pF.out _ B2).1 (pF.out _ B2).2 (pP.out _ B2) (by decide) HAL.out).mono ?_
              rintro e u3 ⟨va3, vn3, vc3, rfl, hvn3, ho3, hb3, hB3⟩
              have Y3 := (RowZ.mk' ho3 hb3).bytes
              have Y2' := Y2.below hB3
              have B3 : Below W14.heap.size W14 u3 := B2.trans (hB3.mono B2.size)
              clear ho3 hb3 hvn3 hB3 Y2
              go_wp2_with fail
              refine hK.out _ _ B3 (fun hHeld => ?_)
              clear hK K
              try simp only [Act.put, List.setIfInBounds_toArray, List.set_cons_zero, List.set_cons_succ]
              refine wpAnyH_ready (rs := [17]) (by kernel_rfl) (by simp) ?_
              refine AllReadyH.cons (o := { dst := some 95, op := Op.call { callee := Callee.value (Operand.func 11), args := #[Operand.tmp 90, Operand.tmp 94], argTypes := #[22, 22] }, type := 4, pos := "laws.go:490", after := #[{ on := 12, ground := Ground.data }, { on := 16, ground := Ground.data }, { on := 16, ground := Ground.chain }, { on := 7, ground := Ground.guard }], guard := some (7, true) }) rfl (fun K hK => ?_) AllReadyH.nil
              go_simp
              refine (lwBytes_same va2 vn2 vc2 (readP gs ps cp fu nm 1) va3 vn3 vc3 u3 _ _ _ _ Y2' Y3).mono ?_
              rintro e u3' ⟨rfl, rfl⟩
              go_wp2_with fail
              refine hK.out _ _ B3 (fun hHeld => ?_)
              clear hK K
              try simp only [Act.put, List.setIfInBounds_toArray, List.set_cons_zero, List.set_cons_succ]
              clear Y2' Y3
              refine wpAnyH_take (i := 18) (oi := { dst := some 96, op := Op.pick (Operand.tmp 85) (Operand.tmp 95) (Operand.const (Value.bool false)), type := 4, pos := "laws.go:490", after := #[{ on := 7, ground := Ground.data }, { on := 17, ground := Ground.data }], guard := none }) (v := .bool true) rfl (by kernel_rfl) (by kernel_rfl) (by kernel_rfl) (fun _ _ _ h => h) (Or.inl ⟨by rfl, ?_⟩) (by assumption) ?_
              · intro wq hSw; (try dsimp only at hSw); go_simp
              try simp only [Act.put, List.setIfInBounds_toArray, List.set_cons_zero, List.set_cons_succ]
              refine wpAnyH_take (i := 19) (oi := { dst := some 97, op := Op.move (Operand.tmp 96), type := 4, pos := "laws.go:490", after := #[{ on := 18, ground := Ground.data }, { on := 17, ground := Ground.chain }], guard := none }) (v := .bool true) rfl (by kernel_rfl) (by kernel_rfl) (by kernel_rfl) (fun _ _ _ h => h) (Or.inl ⟨by rfl, ?_⟩) (by assumption) ?_
              · intro wq hSw; (try dsimp only at hSw); go_simp
              try simp only [Act.put, List.setIfInBounds_toArray, List.set_cons_zero, List.set_cons_succ]
              refine wpAnyH_take (i := 20) (oi := { dst := some 98, op := Op.fieldAddr 26 (Operand.tmp 11) 0, type := 0, pos := "laws.go:490", after := #[{ on := 19, ground := Ground.guard }], guard := some (19, true) }) (v := .pointer (some ⟨w11.heap.size, 0, none⟩)) rfl (by kernel_rfl) (by kernel_rfl) (by kernel_rfl) (fun _ _ _ h => h) (Or.inl ⟨by rfl, ?_⟩) (by assumption) ?_
              · intro wq hSw; (try dsimp only at hSw); go_simp
              try simp only [Act.put, List.setIfInBounds_toArray, List.set_cons_zero, List.set_cons_succ]
              refine wpAnyH_take (i := 21) (oi := { dst := some 99, op := Op.load 23 (Operand.tmp 98), type := 23, pos := "laws.go:490", after := #[{ on := 20, ground := Ground.data }, { on := 19, ground := Ground.guard }], guard := some (19, true) }) (v := .slice a11 gs.length c11) rfl (by kernel_rfl) (by kernel_rfl) (by kernel_rfl) (fun _ _ _ h => h) (Or.inl ⟨by rfl, ?_⟩) (by assumption) ?_
              · intro wq hSw; (try dsimp only at hSw); obtain ⟨q0, q1, q2, q3, q4⟩ := box_fiveC (box_below N14H.out hSw); go_simp
              try simp only [Act.put, List.setIfInBounds_toArray, List.set_cons_zero, List.set_cons_succ]
              refine wpAnyH_take (i := 22) (oi := { dst := some 100, op := Op.fieldAddr 26 (Operand.tmp 3) 0, type := 0, pos := "laws.go:490", after := #[{ on := 19, ground := Ground.guard }], guard := some (19, true) }) (v := .pointer (some ⟨w1.heap.size, 0, none⟩)) rfl (by kernel_rfl) (by kernel_rfl) (by kernel_rfl) (fun _ _ _ h => h) (Or.inl ⟨by rfl, ?_⟩) (by assumption) ?_
              · intro wq hSw; (try dsimp only at hSw); go_simp
              try simp only [Act.put, List.setIfInBounds_toArray, List.set_cons_zero, List.set_cons_succ]
              refine wpAnyH_take (i := 23) (oi := { dst := some 101, op := Op.load 23 (Operand.tmp 100), type := 23, pos := "laws.go:490", after := #[{ on := 22, ground := Ground.data }, { on := 19, ground := Ground.guard }], guard := some (19, true) }) (v := .slice a1 gs.length c1) rfl (by kernel_rfl) (by kernel_rfl) (by kernel_rfl) (fun _ _ _ h => h) (Or.inl ⟨by rfl, ?_⟩) (by assumption) ?_
              · intro wq hSw; (try dsimp only at hSw); obtain ⟨q0, q1, q2, q3, q4⟩ := box_fiveC (box_below X14H.out hSw); go_simp
              try simp only [Act.put, List.setIfInBounds_toArray, List.set_cons_zero, List.set_cons_succ]
              refine wpAnyH_ready (rs := [24]) (by kernel_rfl) (by simp) ?_
              refine AllReadyH.cons (o := { dst := some 102, op := Op.call { callee := Callee.value (Operand.func 14), args := #[Operand.tmp 99, Operand.tmp 101], argTypes := #[23, 23] }, type := 4, pos := "laws.go:490", after := #[{ on := 21, ground := Ground.data }, { on := 23, ground := Ground.data }, { on := 19, ground := Ground.chain }, { on := 19, ground := Ground.guard }], guard := some (19, true) }) rfl (fun K hK => ?_) AllReadyH.nil
              go_simp
              have hF3 := (pF.out _ B3).2
              refine (lwFiles_same a11 gs.length c11 a1 c1 gs u3' _ _ _ _ (pM.out _ B3).1 (pF.out _ B3).1 (pM.out _ B3).2 hF3).mono ?_
              rintro e u4 ⟨rfl, hB4⟩
              have B4 : Below W14.heap.size W14 u4 := B3.trans (hB4.mono B3.size)
              clear hF3 hB4
              go_wp2_with fail
              refine hK.out _ _ B4 (fun hHeld => ?_)
              clear hK K
              try simp only [Act.put, List.setIfInBounds_toArray, List.set_cons_zero, List.set_cons_succ]
              refine wpAnyH_take (i := 25) (oi := { dst := some 103, op := Op.pick (Operand.tmp 97) (Operand.tmp 102) (Operand.const (Value.bool false)), type := 4, pos := "laws.go:490", after := #[{ on := 19, ground := Ground.data }, { on := 24, ground := Ground.data }], guard := none }) (v := .bool true) rfl (by kernel_rfl) (by kernel_rfl) (by kernel_rfl) (fun _ _ _ h => h) (Or.inl ⟨by rfl, ?_⟩) (by assumption) ?_
              · intro wq hSw; (try dsimp only at hSw); go_simp
              try simp only [Act.put, List.setIfInBounds_toArray, List.set_cons_zero, List.set_cons_succ]
              refine wpAnyH_take (i := 26) (oi := { dst := some 104, op := Op.move (Operand.tmp 103), type := 4, pos := "laws.go:490", after := #[{ on := 25, ground := Ground.data }, { on := 24, ground := Ground.chain }], guard := none }) (v := .bool true) rfl (by kernel_rfl) (by kernel_rfl) (by kernel_rfl) (fun _ _ _ h => h) (Or.inl ⟨by rfl, ?_⟩) (by assumption) ?_
              · intro wq hSw; (try dsimp only at hSw); go_simp
              try simp only [Act.put, List.setIfInBounds_toArray, List.set_cons_zero, List.set_cons_succ]
              refine wpAnyH_take (i := 27) (oi := { dst := some 105, op := Op.fieldAddr 30 (Operand.tmp 12) 0, type := 0, pos := "laws.go:490", after := #[{ on := 26, ground := Ground.guard }], guard := some (26, true) }) (v := .pointer (some ⟨w13.heap.size, 0, none⟩)) rfl (by kernel_rfl) (by kernel_rfl) (by kernel_rfl) (fun _ _ _ h => h) (Or.inl ⟨by rfl, ?_⟩) (by assumption) ?_
              · intro wq hSw; (try dsimp only at hSw); go_simp
              try simp only [Act.put, List.setIfInBounds_toArray, List.set_cons_zero, List.set_cons_succ]
              refine wpAnyH_take (i := 28) (oi := { dst := some 106, op := Op.load 2 (Operand.tmp 105), type := 2, pos := "laws.go:490", after := #[{ on := 27, ground := Ground.data }, { on := 26, ground := Ground.guard }], guard := some (26, true) }) (v := .int .i64 0) rfl (by kernel_rfl) (by kernel_rfl) (by kernel_rfl) (fun _ _ _ h => h) (Or.inl ⟨by rfl, ?_⟩) (by assumption) ?_
              · intro wq hSw; (try dsimp only at hSw); obtain ⟨q0, q1, q2, q3, q4, q5⟩ := box_sixR (box_below S14H.out hSw); go_simp
              try simp only [Act.put, List.setIfInBounds_toArray, List.set_cons_zero, List.set_cons_succ]
              refine wpAnyH_take (i := 29) (oi := { dst := some 107, op := Op.binOp BinOp.eql 2 (Operand.tmp 106) (Operand.const (Value.int IntKind.i64 0)) 2, type := 4, pos := "laws.go:490", after := #[{ on := 28, ground := Ground.data }, { on := 26, ground := Ground.guard }], guard := some (26, true) }) (v := .bool true) rfl (by kernel_rfl) (by kernel_rfl) (by kernel_rfl) (fun _ _ _ h => h) (Or.inl ⟨by rfl, ?_⟩) (by assumption) ?_
              · intro wq hSw; (try dsimp only at hSw); go_simp
              try simp only [Act.put, List.setIfInBounds_toArray, List.set_cons_zero, List.set_cons_succ]
              refine wpAnyH_take (i := 30) (oi := { dst := some 108, op := Op.pick (Operand.tmp 104) (Operand.tmp 107) (Operand.const (Value.bool false)), type := 4, pos := "laws.go:490", after := #[{ on := 26, ground := Ground.data }, { on := 29, ground := Ground.data }], guard := none }) (v := .bool true) rfl (by kernel_rfl) (by kernel_rfl) (by kernel_rfl) (fun _ _ _ h => h) (Or.inl ⟨by rfl, ?_⟩) (by assumption) ?_
              · intro wq hSw; (try dsimp only at hSw); go_simp
              try simp only [Act.put, List.setIfInBounds_toArray, List.set_cons_zero, List.set_cons_succ]
              refine wpAnyH_take (i := 31) (oi := { dst := some 109, op := Op.move (Operand.tmp 108), type := 4, pos := "laws.go:490", after := #[{ on := 30, ground := Ground.data }, { on := 26, ground := Ground.chain }], guard := none }) (v := .bool true) rfl (by kernel_rfl) (by kernel_rfl) (by kernel_rfl) (fun _ _ _ h => h) (Or.inl ⟨by rfl, ?_⟩) (by assumption) ?_
              · intro wq hSw; (try dsimp only at hSw); go_simp
              try simp only [Act.put, List.setIfInBounds_toArray, List.set_cons_zero, List.set_cons_succ]
              refine wpAnyH_take (i := 32) (oi := { dst := some 110, op := Op.fieldAddr 26 (Operand.tmp 10) 0, type := 0, pos := "laws.go:490", after := #[{ on := 31, ground := Ground.guard }], guard := some (31, true) }) (v := .pointer (some ⟨w9.heap.size, 0, none⟩)) rfl (by kernel_rfl) (by kernel_rfl) (by kernel_rfl) (fun _ _ _ h => h) (Or.inl ⟨by rfl, ?_⟩) (by assumption) ?_
              · intro wq hSw; (try dsimp only at hSw); go_simp
              try simp only [Act.put, List.setIfInBounds_toArray, List.set_cons_zero, List.set_cons_succ]
              refine wpAnyH_take (i := 33) (oi := { dst := some 111, op := Op.load 23 (Operand.tmp 110), type := 23, pos := "laws.go:490", after := #[{ on := 32, ground := Ground.data }, { on := 31, ground := Ground.guard }], guard := some (31, true) }) (v := .slice a9 ls.length c9) rfl (by kernel_rfl) (by kernel_rfl) (by kernel_rfl) (fun _ _ _ h => h) (Or.inl ⟨by rfl, ?_⟩) (by assumption) ?_
              · intro wq hSw; (try dsimp only at hSw); obtain ⟨q0, q1, q2, q3, q4⟩ := box_fiveC (box_below K14H.out hSw); go_simp
              try simp only [Act.put, List.setIfInBounds_toArray, List.set_cons_zero, List.set_cons_succ]
              refine wpAnyH_take (i := 34) (oi := { dst := some 112, op := Op.fieldAddr 30 (Operand.tmp 12) 1, type := 0, pos := "laws.go:490", after := #[{ on := 31, ground := Ground.guard }], guard := some (31, true) }) (v := .pointer (some ⟨w13.heap.size, 1, none⟩)) rfl (by kernel_rfl) (by kernel_rfl) (by kernel_rfl) (fun _ _ _ h => h) (Or.inl ⟨by rfl, ?_⟩) (by assumption) ?_
              · intro wq hSw; (try dsimp only at hSw); go_simp
              try simp only [Act.put, List.setIfInBounds_toArray, List.set_cons_zero, List.set_cons_succ]
              refine wpAnyH_take (i := 35) (oi := { dst := some 113, op := Op.fieldAddr 26 (Operand.tmp 112) 0, type := 0, pos := "laws.go:490", after := #[{ on := 34, ground := Ground.data }, { on := 31, ground := Ground.guard }], guard := some (31, true) }) (v := .pointer (some ⟨w13.heap.size, 1, none⟩)) rfl (by kernel_rfl) (by kernel_rfl) (by kernel_rfl) (fun _ _ _ h => h) (Or.inl ⟨by rfl, ?_⟩) (by assumption) ?_
              · intro wq hSw; (try dsimp only at hSw); go_simp
              try simp only [Act.put, List.setIfInBounds_toArray, List.set_cons_zero, List.set_cons_succ]
              refine wpAnyH_take (i := 36) (oi := { dst := some 114, op := Op.load 23 (Operand.tmp 113), type := 23, pos := "laws.go:490", after := #[{ on := 35, ground := Ground.data }, { on := 31, ground := Ground.guard }], guard := some (31, true) }) (v := .slice a13 ls.length c13) rfl (by kernel_rfl) (by kernel_rfl) (by kernel_rfl) (fun _ _ _ h => h) (Or.inl ⟨by rfl, ?_⟩) (by assumption) ?_
              · intro wq hSw; (try dsimp only at hSw); obtain ⟨q0, q1, q2, q3, q4, q5⟩ := box_sixR (box_below S14H.out hSw); go_simp
              try simp only [Act.put, List.setIfInBounds_toArray, List.set_cons_zero, List.set_cons_succ]
              refine wpAnyH_ready (rs := [37]) (by kernel_rfl) (by simp) ?_
              refine AllReadyH.cons (o := { dst := some 115, op := Op.call { callee := Callee.value (Operand.func 14), args := #[Operand.tmp 111, Operand.tmp 114], argTypes := #[23, 23] }, type := 4, pos := "laws.go:490", after := #[{ on := 33, ground := Ground.data }, { on := 36, ground := Ground.data }, { on := 31, ground := Ground.chain }, { on := 31, ground := Ground.guard }], guard := some (31, true) }) rfl (fun K hK => ?_) AllReadyH.nil
              go_simp
              refine (lwFiles_same a9 ls.length c9 a13 c13 ls u4 _ _ _ _ (pZ.out _ B4).1 (pT.out _ B4).1 (pZ.out _ B4).2 (pT.out _ B4).2).mono ?_
              rintro e u5 ⟨rfl, hB5⟩
              have B5 : Below W14.heap.size W14 u5 := B4.trans (hB5.mono B4.size)
              clear hB5
              go_wp2_with fail
              refine hK.out _ _ B5 (fun hHeld => ?_)
              clear hK K
              try simp only [Act.put, List.setIfInBounds_toArray, List.set_cons_zero, List.set_cons_succ]
              refine wpAnyH_take (i := 38) (oi := { dst := some 116, op := Op.pick (Operand.tmp 109) (Operand.tmp 115) (Operand.const (Value.bool false)), type := 4, pos := "laws.go:490", after := #[{ on := 31, ground := Ground.data }, { on := 37, ground := Ground.data }], guard := none }) (v := .bool true) rfl (by kernel_rfl) (by kernel_rfl) (by kernel_rfl) (fun _ _ _ h => h) (Or.inl ⟨by rfl, ?_⟩) (by assumption) ?_
              · intro wq hSw; (try dsimp only at hSw); go_simp
              try simp only [Act.put, List.setIfInBounds_toArray, List.set_cons_zero, List.set_cons_succ]
              refine wpAnyH_take (i := 39) (oi := { dst := some 117, op := Op.move (Operand.tmp 116), type := 4, pos := "laws.go:490", after := #[{ on := 38, ground := Ground.data }, { on := 37, ground := Ground.chain }], guard := none }) (v := .bool true) rfl (by kernel_rfl) (by kernel_rfl) (by kernel_rfl) (fun _ _ _ h => h) (Or.inl ⟨by rfl, ?_⟩) (by assumption) ?_
              · intro wq hSw; (try dsimp only at hSw); go_simp
              try simp only [Act.put, List.setIfInBounds_toArray, List.set_cons_zero, List.set_cons_succ]
              refine wpAnyH_take (i := 40) (oi := { dst := some 118, op := Op.load 26 (Operand.tmp 10), type := 26, pos := "laws.go:490", after := #[{ on := 39, ground := Ground.guard }], guard := some (39, true) }) (v := .agg #[.slice a9 ls.length c9, .slice none 0 0, .int .i64 cp, .int .i64 (-1), .bool false]) rfl (by kernel_rfl) (by kernel_rfl) (by kernel_rfl) (fun _ _ _ h => h) (Or.inl ⟨by rfl, ?_⟩) (by assumption) ?_
              · intro wq hSw; (try dsimp only at hSw); obtain ⟨q0, q1, q2, q3, q4⟩ := box_fiveC (box_below K14H.out hSw); go_simp
              try simp only [Act.put, List.setIfInBounds_toArray, List.set_cons_zero, List.set_cons_succ]
              refine wpAnyH_take (i := 41) (oi := { dst := some 119, op := Op.move (Operand.tmp 4), type := 9, pos := "laws.go:490", after := #[{ on := 39, ground := Ground.guard }], guard := some (39, true) }) (v := .string nm) rfl (by kernel_rfl) (by kernel_rfl) (by kernel_rfl) (fun _ _ _ h => h) (Or.inl ⟨by rfl, ?_⟩) (by assumption) ?_
              · intro wq hSw; (try dsimp only at hSw); go_simp
              try simp only [Act.put, List.setIfInBounds_toArray, List.set_cons_zero, List.set_cons_succ]
              refine wpAnyH_take (i := 42) (oi := { dst := some 120, op := Op.move (Operand.tmp 5), type := 2, pos := "laws.go:490", after := #[{ on := 39, ground := Ground.guard }], guard := some (39, true) }) (v := .int .i64 0) rfl (by kernel_rfl) (by kernel_rfl) (by kernel_rfl) (fun _ _ _ h => h) (Or.inl ⟨by rfl, ?_⟩) (by assumption) ?_
              · intro wq hSw; (try dsimp only at hSw); go_simp
              try simp only [Act.put, List.setIfInBounds_toArray, List.set_cons_zero, List.set_cons_succ]
              refine wpAnyH_take (i := 44) (oi := { dst := some 122, op := Op.move (Operand.tmp 6), type := 22, pos := "laws.go:490", after := #[{ on := 39, ground := Ground.guard }], guard := some (39, true) }) (v := .slice pa pn pc) rfl (by kernel_rfl) (by kernel_rfl) (by kernel_rfl) (fun _ _ _ h => h) (Or.inl ⟨by rfl, ?_⟩) (by assumption) ?_
              · intro wq hSw; (try dsimp only at hSw); go_simp
              try simp only [Act.put, List.setIfInBounds_toArray, List.set_cons_zero, List.set_cons_succ]
              refine wpAnyH_ready (rs := [43]) (by kernel_rfl) (by simp) ?_
              refine AllReadyH.cons (o := { dst := some 121, op := Op.call { callee := Callee.value (Operand.func 12), args := #[Operand.tmp 118, Operand.tmp 119, Operand.tmp 120], argTypes := #[26, 9, 2] }, type := 22, pos := "laws.go:491", after := #[{ on := 40, ground := Ground.data }, { on := 41, ground := Ground.data }, { on := 42, ground := Ground.data }, { on := 39, ground := Ground.chain }, { on := 39, ground := Ground.guard }], guard := some (39, true) }) rfl (fun K hK => ?_) AllReadyH.nil
              go_simp
              refine (implRead_any a9 ls.length c9 ls none 0 0 [] cp (-1) false nm hsz 0 u5 wr.heap.size w9.heap.size (pZ.out _ B5).1 (pZ.out _ B5).2 (noPends _ _ _) hwp HLA.out).mono ?_
              rintro e u6 ⟨va6, vn6, vc6, ty6, rfl, hvn6, ho6, hb6, _, hB6⟩
              rw [HR3.out] at ho6 hb6
              have Y6 := (RowZ.mk' ho6 hb6).bytes
              have B6 : Below W14.heap.size W14 u6 := B5.trans (hB6.mono B5.size)
              clear ho6 hb6 hvn6 hB6
              go_wp2_with fail
              refine hK.out _ _ B6 (fun hHeld => ?_)
              clear hK K
              try simp only [Act.put, List.setIfInBounds_toArray, List.set_cons_zero, List.set_cons_succ]
              refine wpAnyH_ready (rs := [45]) (by kernel_rfl) (by simp) ?_
              refine AllReadyH.cons (o := { dst := some 123, op := Op.call { callee := Callee.value (Operand.func 11), args := #[Operand.tmp 121, Operand.tmp 122], argTypes := #[22, 22] }, type := 4, pos := "laws.go:491", after := #[{ on := 43, ground := Ground.data }, { on := 44, ground := Ground.data }, { on := 43, ground := Ground.chain }, { on := 39, ground := Ground.guard }], guard := some (39, true) }) rfl (fun K hK => ?_) AllReadyH.nil
              go_simp
              refine (lwBytes_same va6 vn6 vc6 ds pa pn pc u6 _ _ _ _ Y6 (pY.out _ B6)).mono ?_
              rintro e u6' ⟨rfl, rfl⟩
              go_wp2_with fail
              refine hK.out _ _ B6 (fun hHeld => ?_)
              clear hK K
              try simp only [Act.put, List.setIfInBounds_toArray, List.set_cons_zero, List.set_cons_succ]
              refine wpAnyH_take (i := 46) (oi := { dst := some 124, op := Op.pick (Operand.tmp 117) (Operand.tmp 123) (Operand.const (Value.bool false)), type := 4, pos := "laws.go:490", after := #[{ on := 39, ground := Ground.data }, { on := 45, ground := Ground.data }], guard := none }) (v := .bool true) rfl (by kernel_rfl) (by kernel_rfl) (by kernel_rfl) (fun _ _ _ h => h) (Or.inl ⟨by rfl, ?_⟩) (by assumption) ?_
              · intro wq hSw; (try dsimp only at hSw); go_simp
              try simp only [Act.put, List.setIfInBounds_toArray, List.set_cons_zero, List.set_cons_succ]
              refine wpAnyH_take (i := 47) (oi := { dst := some 2, op := Op.assign (Operand.tmp 124), type := 4, pos := "laws.go:490", after := #[{ on := 46, ground := Ground.data }, { on := 45, ground := Ground.chain }, { on := 0, ground := Ground.phase }, { on := 1, ground := Ground.phase }, { on := 2, ground := Ground.phase }, { on := 3, ground := Ground.phase }, { on := 4, ground := Ground.phase }, { on := 5, ground := Ground.phase }, { on := 6, ground := Ground.phase }, { on := 7, ground := Ground.phase }, { on := 8, ground := Ground.phase }, { on := 9, ground := Ground.phase }, { on := 10, ground := Ground.phase }, { on := 11, ground := Ground.phase }, { on := 12, ground := Ground.phase }, { on := 13, ground := Ground.phase }, { on := 14, ground := Ground.phase }, { on := 15, ground := Ground.phase }, { on := 16, ground := Ground.phase }, { on := 17, ground := Ground.phase }, { on := 18, ground := Ground.phase }, { on := 19, ground := Ground.phase }, { on := 20, ground := Ground.phase }, { on := 21, ground := Ground.phase }, { on := 22, ground := Ground.phase }, { on := 23, ground := Ground.phase }, { on := 24, ground := Ground.phase }, { on := 25, ground := Ground.phase }, { on := 26, ground := Ground.phase }, { on := 27, ground := Ground.phase }, { on := 28, ground := Ground.phase }, { on := 29, ground := Ground.phase }, { on := 30, ground := Ground.phase }, { on := 31, ground := Ground.phase }, { on := 32, ground := Ground.phase }, { on := 33, ground := Ground.phase }, { on := 34, ground := Ground.phase }, { on := 35, ground := Ground.phase }, { on := 36, ground := Ground.phase }, { on := 37, ground := Ground.phase }, { on := 38, ground := Ground.phase }, { on := 39, ground := Ground.phase }, { on := 40, ground := Ground.phase }, { on := 41, ground := Ground.phase }, { on := 42, ground := Ground.phase }, { on := 43, ground := Ground.phase }, { on := 44, ground := Ground.phase }, { on := 45, ground := Ground.phase }, { on := 46, ground := Ground.phase }], guard := none }) (v := .bool true) rfl (by kernel_rfl) (by kernel_rfl) (by kernel_rfl) (fun _ _ _ h => h) (Or.inl ⟨by rfl, ?_⟩) (by assumption) ?_
              · intro wq hSw; (try dsimp only at hSw); go_simp
              try simp only [Act.put, List.setIfInBounds_toArray, List.set_cons_zero, List.set_cons_succ]
              refine wpAnyH_done (by kernel_rfl) ?_ _
              refine NoPanic.normal ?_
              go_wp2_with fail
              go_meet
              exact ⟨rfl, B6⟩
            case rest =>
              obtain ⟨rfl, Bc⟩ := hcut
              go_wp2_with fail
              go_ret
              exact ⟨rfl, Bw14.trans (Bc.mono Bw14.size)⟩
          · have sp : (pg == 0) = false := by simp [tp]
            go_upto_region 21 with fail
            generalize (w13.alloc (.cells #[.int .i64 0, .slice a13 ls.length c13, .slice b13 0 d13, .int .i64 cp, .int .i64 (-1), .bool false] 30)) = W14 at S14 hT14 s14 K14 hZ14 N14 hM14 R14 X14 Bw14 hF14 hP14 hY14 hG14 hQ14 ⊢
            have rw1 := (read_write HW.out.1).1
            have rw2 := (read_write HW.out.1).2.1 0 (by omega)
            have rw3 := (read_write HW.out.1).2.2
            rw [← HW.out.2] at rw1 rw2 rw3
            rw [← HL.out] at rw3
            have HR1 : Hid (readP gs qs cp (-1) nm pg = ds) := rw1
            have HR2 : Hid (readP gs qs cp (-1) nm 0 = readP gs ps cp fu nm 0) := rw2
            have HR3 : Hid (readP ls [] cp (-1) nm pg = ds) := rw3
            have HLA : Hid (∀ j, j < ls.length → (ls.getD j (ByteArray.empty, [])).2.length ≤ 1048576) := by
              have := (val_bounds (valid_sync HV.out)).2.2.2.2.2.1
              rw [← HL.out] at this
              exact this
            have hgl : gs.length = n1 := hF14.1
            subst hgl
            clear rw1 rw2 rw3
            have hwp : (Lit.int .i64 pg).wf = true := wf_pg hpg
            go_cut [2] from 3 (fun p wx => p = .bool true ∧ Below W14.heap.size W14 wx)
            case first =>
              have pG : Hid (∀ W', Below W14.heap.size W14 W' → w3.heap.size ≤ W'.heap.size ∧ FilesAt W' W2.heap.size w3.heap.size a3 gs.length c3 gs) := fun W' h => ⟨by have := h.size; omega, hG14.below (h.mono (by omega))⟩
              have pQ : Hid (∀ W', Below W14.heap.size W14 W' → PendsAt W' W2.heap.size w3.heap.size b3 (m1 + 1) d3 qs) := fun W' h => hQ14.below (h.mono (by omega))
              have pF : Hid (∀ W', Below W14.heap.size W14 W' → w1.heap.size ≤ W'.heap.size ∧ FilesAt W' w.heap.size w1.heap.size a1 gs.length c1 gs) := fun W' h => ⟨by have := h.size; omega, hF14.below (h.mono (by omega))⟩
              have pP : Hid (∀ W', Below W14.heap.size W14 W' → PendsAt W' w.heap.size w1.heap.size b1 m1 d1 ps) := fun W' h => hP14.below (h.mono (by omega))
              have pY : Hid (∀ W', Below W14.heap.size W14 W' → BytesAt W' w.heap.size w1.heap.size pa pn pc ds) := fun W' h => hY14.below (h.mono (by omega))
              have pM : Hid (∀ W', Below W14.heap.size W14 W' → w11.heap.size ≤ W'.heap.size ∧ FilesAt W' W10.heap.size w11.heap.size a11 gs.length c11 gs) := fun W' h => ⟨by have := h.size; omega, hM14.below (h.mono (by omega))⟩
              have pZ : Hid (∀ W', Below W14.heap.size W14 W' → w9.heap.size ≤ W'.heap.size ∧ FilesAt W' wr.heap.size w9.heap.size a9 ls.length c9 ls) := fun W' h => ⟨by have := h.size; omega, hZ14.below (h.mono (by omega))⟩
              have pT : Hid (∀ W', Below W14.heap.size W14 W' → w13.heap.size ≤ W'.heap.size ∧ FilesAt W' W12.heap.size w13.heap.size a13 ls.length c13 ls) := fun W' h => ⟨by have := h.size; omega, hT14.below (h.mono (by omega))⟩
              have HAG : Hid (∀ (j : Nat), j < gs.length → (gs.getD j (ByteArray.empty, [])).2.length ≤ 1048576) := hallG
              have HAL : Hid (∀ (j : Nat), j < gs.length → (gs.getD j (ByteArray.empty, [])).2.length ≤ 1048576) := hall
              have R14H : Hid _ := R14
              have X14H : Hid _ := X14
              have K14H : Hid _ := K14
              have N14H : Hid _ := N14
              have S14H : Hid _ := S14
              clear R14 X14 K14 N14 S14 hG14 hQ14 hF14 hP14 hY14 hM14 hZ14 hT14 hallG hall tn sn hcp hfu s1 hall2 hn1 hm1 s2 s3 s4 s5 l3 l1 hbd se HW ss2 hi hz0 hz1 hz2 s7 lC hk HV HL s9 s10 s11 s12 s13 s14 hql hpg hpn hnm Bw14 sp
              have B0 : Below W14.heap.size W14 W14.drew := bl_dr _
              refine wp_region_noPanic ?_
              refine wp_region_held_drew (S := (fun w' => Below W14.heap.size W14 w')) (by kernel_rfl) ?_ (fun hHeld => ?_)
              · exact bl_dr _
              refine wpAnyH_take (i := 0) (oi := { dst := some 78, op := Op.fieldAddr 30 (Operand.tmp 7) 1, type := 0, pos := "laws.go:490", after := #[], guard := none }) (v := .pointer (some ⟨w3.heap.size, 1, none⟩)) rfl (by kernel_rfl) (by kernel_rfl) (by kernel_rfl) (fun _ _ _ h => h) (Or.inl ⟨by rfl, ?_⟩) (by assumption) ?_
              · intro wq hSw; (try dsimp only at hSw); go_simp
              try simp only [Act.put, List.setIfInBounds_toArray, List.set_cons_zero, List.set_cons_succ]
              refine wpAnyH_take (i := 1) (oi := { dst := some 79, op := Op.load 26 (Operand.tmp 78), type := 26, pos := "laws.go:490", after := #[{ on := 0, ground := Ground.data }], guard := none }) (v := .agg #[.slice a3 gs.length c3, .slice b3 (m1 + 1) d3, .int .i64 cp, .int .i64 (-1), .bool false]) rfl (by kernel_rfl) (by kernel_rfl) (by kernel_rfl) (fun _ _ _ h => h) (Or.inl ⟨by rfl, ?_⟩) (by assumption) ?_
              · intro wq hSw; (try dsimp only at hSw); obtain ⟨q0, q1, q2, q3, q4, q5⟩ := box_sixR (box_below R14H.out hSw); go_simp
              try simp only [Act.put, List.setIfInBounds_toArray, List.set_cons_zero, List.set_cons_succ]
              refine wpAnyH_take (i := 2) (oi := { dst := some 80, op := Op.move (Operand.tmp 4), type := 9, pos := "laws.go:490", after := #[], guard := none }) (v := .string nm) rfl (by kernel_rfl) (by kernel_rfl) (by kernel_rfl) (fun _ _ _ h => h) (Or.inl ⟨by rfl, ?_⟩) (by assumption) ?_
              · intro wq hSw; (try dsimp only at hSw); go_simp
              try simp only [Act.put, List.setIfInBounds_toArray, List.set_cons_zero, List.set_cons_succ]
              refine wpAnyH_take (i := 3) (oi := { dst := some 81, op := Op.move (Operand.tmp 5), type := 2, pos := "laws.go:490", after := #[], guard := none }) (v := .int .i64 pg) rfl (by kernel_rfl) (by kernel_rfl) (by kernel_rfl) (fun _ _ _ h => h) (Or.inl ⟨by rfl, ?_⟩) (by assumption) ?_
              · intro wq hSw; (try dsimp only at hSw); go_simp
              try simp only [Act.put, List.setIfInBounds_toArray, List.set_cons_zero, List.set_cons_succ]
              refine wpAnyH_take (i := 5) (oi := { dst := some 83, op := Op.move (Operand.tmp 6), type := 22, pos := "laws.go:490", after := #[], guard := none }) (v := .slice pa pn pc) rfl (by kernel_rfl) (by kernel_rfl) (by kernel_rfl) (fun _ _ _ h => h) (Or.inl ⟨by rfl, ?_⟩) (by assumption) ?_
              · intro wq hSw; (try dsimp only at hSw); go_simp
              try simp only [Act.put, List.setIfInBounds_toArray, List.set_cons_zero, List.set_cons_succ]
              refine wpAnyH_ready (rs := [4]) (by kernel_rfl) (by simp) ?_
              refine AllReadyH.cons (o := { dst := some 82, op := Op.call { callee := Callee.value (Operand.func 12), args := #[Operand.tmp 79, Operand.tmp 80, Operand.tmp 81], argTypes := #[26, 9, 2] }, type := 22, pos := "laws.go:490", after := #[{ on := 1, ground := Ground.data }, { on := 2, ground := Ground.data }, { on := 3, ground := Ground.data }], guard := none }) rfl (fun K hK => ?_) AllReadyH.nil
              go_simp
              refine (implRead_any a3 gs.length c3 gs b3 (m1 + 1) d3 qs cp (-1) false nm hsz pg W14.drew W2.heap.size w3.heap.size (pG.out _ B0).1 (pG.out _ B0).2 (pQ.out _ B0) hwp HAG.out).mono ?_
              rintro e u1 ⟨va, vn, vc, ty, rfl, hvn, ho1, hb1, _, hB1⟩
              rw [HR1.out] at ho1 hb1
              have Y1 := (RowZ.mk' ho1 hb1).bytes
              have B1 : Below W14.heap.size W14 u1 := B0.trans (hB1.mono B0.size)
              clear ho1 hb1 hvn hB1
              go_wp2_with fail
              refine hK.out _ _ B1 (fun hHeld => ?_)
              clear hK K
              try simp only [Act.put, List.setIfInBounds_toArray, List.set_cons_zero, List.set_cons_succ]
              refine wpAnyH_ready (rs := [6]) (by kernel_rfl) (by simp) ?_
              refine AllReadyH.cons (o := { dst := some 84, op := Op.call { callee := Callee.value (Operand.func 11), args := #[Operand.tmp 82, Operand.tmp 83], argTypes := #[22, 22] }, type := 4, pos := "laws.go:490", after := #[{ on := 4, ground := Ground.data }, { on := 5, ground := Ground.data }, { on := 4, ground := Ground.chain }], guard := none }) rfl (fun K hK => ?_) AllReadyH.nil
              go_simp
              refine (lwBytes_same va vn vc ds pa pn pc u1 _ _ _ _ Y1 (pY.out _ B1)).mono ?_
              rintro e u1' ⟨rfl, rfl⟩
              go_wp2_with fail
              refine hK.out _ _ B1 (fun hHeld => ?_)
              clear hK K
              try simp only [Act.put, List.setIfInBounds_toArray, List.set_cons_zero, List.set_cons_succ]
              clear Y1
              refine wpAnyH_take (i := 7) (oi := { dst := some 85, op := Op.move (Operand.tmp 84), type := 4, pos := "laws.go:490", after := #[{ on := 6, ground := Ground.data }, { on := 6, ground := Ground.chain }], guard := none }) (v := .bool true) rfl (by kernel_rfl) (by kernel_rfl) (by kernel_rfl) (fun _ _ _ h => h) (Or.inl ⟨by rfl, ?_⟩) (by assumption) ?_
              · intro wq hSw; (try dsimp only at hSw); go_simp
              try simp only [Act.put, List.setIfInBounds_toArray, List.set_cons_zero, List.set_cons_succ]
              refine wpAnyH_take (i := 8) (oi := { dst := some 86, op := Op.fieldAddr 30 (Operand.tmp 7) 1, type := 0, pos := "laws.go:490", after := #[{ on := 7, ground := Ground.guard }], guard := some (7, true) }) (v := .pointer (some ⟨w3.heap.size, 1, none⟩)) rfl (by kernel_rfl) (by kernel_rfl) (by kernel_rfl) (fun _ _ _ h => h) (Or.inl ⟨by rfl, ?_⟩) (by assumption) ?_
              · intro wq hSw; (try dsimp only at hSw); go_simp
              try simp only [Act.put, List.setIfInBounds_toArray, List.set_cons_zero, List.set_cons_succ]
              refine wpAnyH_take (i := 9) (oi := { dst := some 87, op := Op.load 26 (Operand.tmp 86), type := 26, pos := "laws.go:490", after := #[{ on := 8, ground := Ground.data }, { on := 7, ground := Ground.guard }], guard := some (7, true) }) (v := .agg #[.slice a3 gs.length c3, .slice b3 (m1 + 1) d3, .int .i64 cp, .int .i64 (-1), .bool false]) rfl (by kernel_rfl) (by kernel_rfl) (by kernel_rfl) (fun _ _ _ h => h) (Or.inl ⟨by rfl, ?_⟩) (by assumption) ?_
              · intro wq hSw; (try dsimp only at hSw); obtain ⟨q0, q1, q2, q3, q4, q5⟩ := box_sixR (box_below R14H.out hSw); go_simp
              try simp only [Act.put, List.setIfInBounds_toArray, List.set_cons_zero, List.set_cons_succ]
              refine wpAnyH_take (i := 10) (oi := { dst := some 88, op := Op.move (Operand.tmp 4), type := 9, pos := "laws.go:490", after := #[{ on := 7, ground := Ground.guard }], guard := some (7, true) }) (v := .string nm) rfl (by kernel_rfl) (by kernel_rfl) (by kernel_rfl) (fun _ _ _ h => h) (Or.inl ⟨by rfl, ?_⟩) (by assumption) ?_
              · intro wq hSw; (try dsimp only at hSw); go_simp
              try simp only [Act.put, List.setIfInBounds_toArray, List.set_cons_zero, List.set_cons_succ]
              refine wpAnyH_take (i := 11) (oi := { dst := some 89, op := Op.move (Operand.tmp 13), type := 2, pos := "laws.go:490", after := #[{ on := 7, ground := Ground.guard }], guard := some (7, true) }) (v := .int .i64 0) rfl (by kernel_rfl) (by kernel_rfl) (by kernel_rfl) (fun _ _ _ h => h) (Or.inl ⟨by rfl, ?_⟩) (by assumption) ?_
              · intro wq hSw; (try dsimp only at hSw); go_simp
              try simp only [Act.put, List.setIfInBounds_toArray, List.set_cons_zero, List.set_cons_succ]
              refine wpAnyH_take (i := 13) (oi := { dst := some 91, op := Op.load 26 (Operand.tmp 3), type := 26, pos := "laws.go:490", after := #[{ on := 7, ground := Ground.guard }], guard := some (7, true) }) (v := .agg #[.slice a1 gs.length c1, .slice b1 m1 d1, .int .i64 cp, .int .i64 fu, .bool false]) rfl (by kernel_rfl) (by kernel_rfl) (by kernel_rfl) (fun _ _ _ h => h) (Or.inl ⟨by rfl, ?_⟩) (by assumption) ?_
              · intro wq hSw; (try dsimp only at hSw); obtain ⟨q0, q1, q2, q3, q4⟩ := box_fiveC (box_below X14H.out hSw); go_simp
              try simp only [Act.put, List.setIfInBounds_toArray, List.set_cons_zero, List.set_cons_succ]
              refine wpAnyH_take (i := 14) (oi := { dst := some 92, op := Op.move (Operand.tmp 4), type := 9, pos := "laws.go:490", after := #[{ on := 7, ground := Ground.guard }], guard := some (7, true) }) (v := .string nm) rfl (by kernel_rfl) (by kernel_rfl) (by kernel_rfl) (fun _ _ _ h => h) (Or.inl ⟨by rfl, ?_⟩) (by assumption) ?_
              · intro wq hSw; (try dsimp only at hSw); go_simp
              try simp only [Act.put, List.setIfInBounds_toArray, List.set_cons_zero, List.set_cons_succ]
              refine wpAnyH_take (i := 15) (oi := { dst := some 93, op := Op.move (Operand.tmp 13), type := 2, pos := "laws.go:490", after := #[{ on := 7, ground := Ground.guard }], guard := some (7, true) }) (v := .int .i64 0) rfl (by kernel_rfl) (by kernel_rfl) (by kernel_rfl) (fun _ _ _ h => h) (Or.inl ⟨by rfl, ?_⟩) (by assumption) ?_
              · intro wq hSw; (try dsimp only at hSw); go_simp
              try simp only [Act.put, List.setIfInBounds_toArray, List.set_cons_zero, List.set_cons_succ]
              refine wpAnyH_ready (rs := [12]) (by kernel_rfl) (by simp) ?_
              refine AllReadyH.cons (o := { dst := some 90, op := Op.call { callee := Callee.value (Operand.func 12), args := #[Operand.tmp 87, Operand.tmp 88, Operand.tmp 89], argTypes := #[26, 9, 2] }, type := 22, pos := "laws.go:490", after := #[{ on := 9, ground := Ground.data }, { on := 10, ground := Ground.data }, { on := 11, ground := Ground.data }, { on := 7, ground := Ground.chain }, { on := 7, ground := Ground.guard }], guard := some (7, true) }) rfl (fun K hK => ?_) AllReadyH.nil
              go_simp
              refine (implRead_any a3 gs.length c3 gs b3 (m1 + 1) d3 qs cp (-1) false nm hsz 0 u1' W2.heap.size w3.heap.size (pG.out _ B1).1 (pG.out _ B1).2 (pQ.out _ B1) (by decide) HAG.out).mono ?_
              rintro e u2 ⟨va2, vn2, vc2, ty2, rfl, hvn2, ho2, hb2, _, hB2⟩
              rw [HR2.out] at ho2 hb2
              have Y2 := (RowZ.mk' ho2 hb2).bytes
              have B2 : Below W14.heap.size W14 u2 := B1.trans (hB2.mono B1.size)
              clear ho2 hb2 hvn2 hB2
              go_wp2_with fail
              refine hK.out _ _ B2 (fun hHeld => ?_)
              clear hK K
              try simp only [Act.put, List.setIfInBounds_toArray, List.set_cons_zero, List.set_cons_succ]
              refine wpAnyH_ready (rs := [16]) (by kernel_rfl) (by simp) ?_
              refine AllReadyH.cons (o := { dst := some 94, op := Op.call { callee := Callee.value (Operand.func 13), args := #[Operand.tmp 91, Operand.tmp 92, Operand.tmp 93], argTypes := #[26, 9, 2] }, type := 22, pos := "laws.go:490", after := #[{ on := 13, ground := Ground.data }, { on := 14, ground := Ground.data }, { on := 15, ground := Ground.data }, { on := 12, ground := Ground.chain }, { on := 7, ground := Ground.guard }], guard := some (7, true) }) rfl (fun K hK => ?_) AllReadyH.nil
              go_simp
              refine (specRead_any a1 gs.length c1 gs b1 m1 d1 ps cp fu false nm 0 u2 w.heap.size w1.heap.size (pF.out _ B2).1 (pF.out _ B2).2 (pP.out _ B2) (by decide) HAL.out).mono ?_
              rintro e u3 ⟨va3, vn3, vc3, rfl, hvn3, ho3, hb3, hB3⟩
              have Y3 := (RowZ.mk' ho3 hb3).bytes
              have Y2' := Y2.below hB3
              have B3 : Below W14.heap.size W14 u3 := B2.trans (hB3.mono B2.size)
              clear ho3 hb3 hvn3 hB3 Y2
              go_wp2_with fail
              refine hK.out _ _ B3 (fun hHeld => ?_)
              clear hK K
              try simp only [Act.put, List.setIfInBounds_toArray, List.set_cons_zero, List.set_cons_succ]
              refine wpAnyH_ready (rs := [17]) (by kernel_rfl) (by simp) ?_
              refine AllReadyH.cons (o := { dst := some 95, op := Op.call { callee := Callee.value (Operand.func 11), args := #[Operand.tmp 90, Operand.tmp 94], argTypes := #[22, 22] }, type := 4, pos := "laws.go:490", after := #[{ on := 12, ground := Ground.data }, { on := 16, ground := Ground.data }, { on := 16, ground := Ground.chain }, { on := 7, ground := Ground.guard }], guard := some (7, true) }) rfl (fun K hK => ?_) AllReadyH.nil
              go_simp
              refine (lwBytes_same va2 vn2 vc2 (readP gs ps cp fu nm 0) va3 vn3 vc3 u3 _ _ _ _ Y2' Y3).mono ?_
              rintro e u3' ⟨rfl, rfl⟩
              go_wp2_with fail
              refine hK.out _ _ B3 (fun hHeld => ?_)
              clear hK K
              try simp only [Act.put, List.setIfInBounds_toArray, List.set_cons_zero, List.set_cons_succ]
              clear Y2' Y3
              refine wpAnyH_take (i := 18) (oi := { dst := some 96, op := Op.pick (Operand.tmp 85) (Operand.tmp 95) (Operand.const (Value.bool false)), type := 4, pos := "laws.go:490", after := #[{ on := 7, ground := Ground.data }, { on := 17, ground := Ground.data }], guard := none }) (v := .bool true) rfl (by kernel_rfl) (by kernel_rfl) (by kernel_rfl) (fun _ _ _ h => h) (Or.inl ⟨by rfl, ?_⟩) (by assumption) ?_
              · intro wq hSw; (try dsimp only at hSw); go_simp
              try simp only [Act.put, List.setIfInBounds_toArray, List.set_cons_zero, List.set_cons_succ]
              refine wpAnyH_take (i := 19) (oi := { dst := some 97, op := Op.move (Operand.tmp 96), type := 4, pos := "laws.go:490", after := #[{ on := 18, ground := Ground.data }, { on := 17, ground := Ground.chain }], guard := none }) (v := .bool true) rfl (by kernel_rfl) (by kernel_rfl) (by kernel_rfl) (fun _ _ _ h => h) (Or.inl ⟨by rfl, ?_⟩) (by assumption) ?_
              · intro wq hSw; (try dsimp only at hSw); go_simp
              try simp only [Act.put, List.setIfInBounds_toArray, List.set_cons_zero, List.set_cons_succ]
              refine wpAnyH_take (i := 20) (oi := { dst := some 98, op := Op.fieldAddr 26 (Operand.tmp 11) 0, type := 0, pos := "laws.go:490", after := #[{ on := 19, ground := Ground.guard }], guard := some (19, true) }) (v := .pointer (some ⟨w11.heap.size, 0, none⟩)) rfl (by kernel_rfl) (by kernel_rfl) (by kernel_rfl) (fun _ _ _ h => h) (Or.inl ⟨by rfl, ?_⟩) (by assumption) ?_
              · intro wq hSw; (try dsimp only at hSw); go_simp
              try simp only [Act.put, List.setIfInBounds_toArray, List.set_cons_zero, List.set_cons_succ]
              refine wpAnyH_take (i := 21) (oi := { dst := some 99, op := Op.load 23 (Operand.tmp 98), type := 23, pos := "laws.go:490", after := #[{ on := 20, ground := Ground.data }, { on := 19, ground := Ground.guard }], guard := some (19, true) }) (v := .slice a11 gs.length c11) rfl (by kernel_rfl) (by kernel_rfl) (by kernel_rfl) (fun _ _ _ h => h) (Or.inl ⟨by rfl, ?_⟩) (by assumption) ?_
              · intro wq hSw; (try dsimp only at hSw); obtain ⟨q0, q1, q2, q3, q4⟩ := box_fiveC (box_below N14H.out hSw); go_simp
              try simp only [Act.put, List.setIfInBounds_toArray, List.set_cons_zero, List.set_cons_succ]
              refine wpAnyH_take (i := 22) (oi := { dst := some 100, op := Op.fieldAddr 26 (Operand.tmp 3) 0, type := 0, pos := "laws.go:490", after := #[{ on := 19, ground := Ground.guard }], guard := some (19, true) }) (v := .pointer (some ⟨w1.heap.size, 0, none⟩)) rfl (by kernel_rfl) (by kernel_rfl) (by kernel_rfl) (fun _ _ _ h => h) (Or.inl ⟨by rfl, ?_⟩) (by assumption) ?_
              · intro wq hSw; (try dsimp only at hSw); go_simp
              try simp only [Act.put, List.setIfInBounds_toArray, List.set_cons_zero, List.set_cons_succ]
              refine wpAnyH_take (i := 23) (oi := { dst := some 101, op := Op.load 23 (Operand.tmp 100), type := 23, pos := "laws.go:490", after := #[{ on := 22, ground := Ground.data }, { on := 19, ground := Ground.guard }], guard := some (19, true) }) (v := .slice a1 gs.length c1) rfl (by kernel_rfl) (by kernel_rfl) (by kernel_rfl) (fun _ _ _ h => h) (Or.inl ⟨by rfl, ?_⟩) (by assumption) ?_
              · intro wq hSw; (try dsimp only at hSw); obtain ⟨q0, q1, q2, q3, q4⟩ := box_fiveC (box_below X14H.out hSw); go_simp
              try simp only [Act.put, List.setIfInBounds_toArray, List.set_cons_zero, List.set_cons_succ]
              refine wpAnyH_ready (rs := [24]) (by kernel_rfl) (by simp) ?_
              refine AllReadyH.cons (o := { dst := some 102, op := Op.call { callee := Callee.value (Operand.func 14), args := #[Operand.tmp 99, Operand.tmp 101], argTypes := #[23, 23] }, type := 4, pos := "laws.go:490", after := #[{ on := 21, ground := Ground.data }, { on := 23, ground := Ground.data }, { on := 19, ground := Ground.chain }, { on := 19, ground := Ground.guard }], guard := some (19, true) }) rfl (fun K hK => ?_) AllReadyH.nil
              go_simp
              have hF3 := (pF.out _ B3).2
              refine (lwFiles_same a11 gs.length c11 a1 c1 gs u3' _ _ _ _ (pM.out _ B3).1 (pF.out _ B3).1 (pM.out _ B3).2 hF3).mono ?_
              rintro e u4 ⟨rfl, hB4⟩
              have B4 : Below W14.heap.size W14 u4 := B3.trans (hB4.mono B3.size)
              clear hF3 hB4
              go_wp2_with fail
              refine hK.out _ _ B4 (fun hHeld => ?_)
              clear hK K
              try simp only [Act.put, List.setIfInBounds_toArray, List.set_cons_zero, List.set_cons_succ]
              refine wpAnyH_take (i := 25) (oi := { dst := some 103, op := Op.pick (Operand.tmp 97) (Operand.tmp 102) (Operand.const (Value.bool false)), type := 4, pos := "laws.go:490", after := #[{ on := 19, ground := Ground.data }, { on := 24, ground := Ground.data }], guard := none }) (v := .bool true) rfl (by kernel_rfl) (by kernel_rfl) (by kernel_rfl) (fun _ _ _ h => h) (Or.inl ⟨by rfl, ?_⟩) (by assumption) ?_
              · intro wq hSw; (try dsimp only at hSw); go_simp
              try simp only [Act.put, List.setIfInBounds_toArray, List.set_cons_zero, List.set_cons_succ]
              refine wpAnyH_take (i := 26) (oi := { dst := some 104, op := Op.move (Operand.tmp 103), type := 4, pos := "laws.go:490", after := #[{ on := 25, ground := Ground.data }, { on := 24, ground := Ground.chain }], guard := none }) (v := .bool true) rfl (by kernel_rfl) (by kernel_rfl) (by kernel_rfl) (fun _ _ _ h => h) (Or.inl ⟨by rfl, ?_⟩) (by assumption) ?_
              · intro wq hSw; (try dsimp only at hSw); go_simp
              try simp only [Act.put, List.setIfInBounds_toArray, List.set_cons_zero, List.set_cons_succ]
              refine wpAnyH_take (i := 27) (oi := { dst := some 105, op := Op.fieldAddr 30 (Operand.tmp 12) 0, type := 0, pos := "laws.go:490", after := #[{ on := 26, ground := Ground.guard }], guard := some (26, true) }) (v := .pointer (some ⟨w13.heap.size, 0, none⟩)) rfl (by kernel_rfl) (by kernel_rfl) (by kernel_rfl) (fun _ _ _ h => h) (Or.inl ⟨by rfl, ?_⟩) (by assumption) ?_
              · intro wq hSw; (try dsimp only at hSw); go_simp
              try simp only [Act.put, List.setIfInBounds_toArray, List.set_cons_zero, List.set_cons_succ]
              refine wpAnyH_take (i := 28) (oi := { dst := some 106, op := Op.load 2 (Operand.tmp 105), type := 2, pos := "laws.go:490", after := #[{ on := 27, ground := Ground.data }, { on := 26, ground := Ground.guard }], guard := some (26, true) }) (v := .int .i64 0) rfl (by kernel_rfl) (by kernel_rfl) (by kernel_rfl) (fun _ _ _ h => h) (Or.inl ⟨by rfl, ?_⟩) (by assumption) ?_
              · intro wq hSw; (try dsimp only at hSw); obtain ⟨q0, q1, q2, q3, q4, q5⟩ := box_sixR (box_below S14H.out hSw); go_simp
              try simp only [Act.put, List.setIfInBounds_toArray, List.set_cons_zero, List.set_cons_succ]
              refine wpAnyH_take (i := 29) (oi := { dst := some 107, op := Op.binOp BinOp.eql 2 (Operand.tmp 106) (Operand.const (Value.int IntKind.i64 0)) 2, type := 4, pos := "laws.go:490", after := #[{ on := 28, ground := Ground.data }, { on := 26, ground := Ground.guard }], guard := some (26, true) }) (v := .bool true) rfl (by kernel_rfl) (by kernel_rfl) (by kernel_rfl) (fun _ _ _ h => h) (Or.inl ⟨by rfl, ?_⟩) (by assumption) ?_
              · intro wq hSw; (try dsimp only at hSw); go_simp
              try simp only [Act.put, List.setIfInBounds_toArray, List.set_cons_zero, List.set_cons_succ]
              refine wpAnyH_take (i := 30) (oi := { dst := some 108, op := Op.pick (Operand.tmp 104) (Operand.tmp 107) (Operand.const (Value.bool false)), type := 4, pos := "laws.go:490", after := #[{ on := 26, ground := Ground.data }, { on := 29, ground := Ground.data }], guard := none }) (v := .bool true) rfl (by kernel_rfl) (by kernel_rfl) (by kernel_rfl) (fun _ _ _ h => h) (Or.inl ⟨by rfl, ?_⟩) (by assumption) ?_
              · intro wq hSw; (try dsimp only at hSw); go_simp
              try simp only [Act.put, List.setIfInBounds_toArray, List.set_cons_zero, List.set_cons_succ]
              refine wpAnyH_take (i := 31) (oi := { dst := some 109, op := Op.move (Operand.tmp 108), type := 4, pos := "laws.go:490", after := #[{ on := 30, ground := Ground.data }, { on := 26, ground := Ground.chain }], guard := none }) (v := .bool true) rfl (by kernel_rfl) (by kernel_rfl) (by kernel_rfl) (fun _ _ _ h => h) (Or.inl ⟨by rfl, ?_⟩) (by assumption) ?_
              · intro wq hSw; (try dsimp only at hSw); go_simp
              try simp only [Act.put, List.setIfInBounds_toArray, List.set_cons_zero, List.set_cons_succ]
              refine wpAnyH_take (i := 32) (oi := { dst := some 110, op := Op.fieldAddr 26 (Operand.tmp 10) 0, type := 0, pos := "laws.go:490", after := #[{ on := 31, ground := Ground.guard }], guard := some (31, true) }) (v := .pointer (some ⟨w9.heap.size, 0, none⟩)) rfl (by kernel_rfl) (by kernel_rfl) (by kernel_rfl) (fun _ _ _ h => h) (Or.inl ⟨by rfl, ?_⟩) (by assumption) ?_
              · intro wq hSw; (try dsimp only at hSw); go_simp
              try simp only [Act.put, List.setIfInBounds_toArray, List.set_cons_zero, List.set_cons_succ]
              refine wpAnyH_take (i := 33) (oi := { dst := some 111, op := Op.load 23 (Operand.tmp 110), type := 23, pos := "laws.go:490", after := #[{ on := 32, ground := Ground.data }, { on := 31, ground := Ground.guard }], guard := some (31, true) }) (v := .slice a9 ls.length c9) rfl (by kernel_rfl) (by kernel_rfl) (by kernel_rfl) (fun _ _ _ h => h) (Or.inl ⟨by rfl, ?_⟩) (by assumption) ?_
              · intro wq hSw; (try dsimp only at hSw); obtain ⟨q0, q1, q2, q3, q4⟩ := box_fiveC (box_below K14H.out hSw); go_simp
              try simp only [Act.put, List.setIfInBounds_toArray, List.set_cons_zero, List.set_cons_succ]
              refine wpAnyH_take (i := 34) (oi := { dst := some 112, op := Op.fieldAddr 30 (Operand.tmp 12) 1, type := 0, pos := "laws.go:490", after := #[{ on := 31, ground := Ground.guard }], guard := some (31, true) }) (v := .pointer (some ⟨w13.heap.size, 1, none⟩)) rfl (by kernel_rfl) (by kernel_rfl) (by kernel_rfl) (fun _ _ _ h => h) (Or.inl ⟨by rfl, ?_⟩) (by assumption) ?_
              · intro wq hSw; (try dsimp only at hSw); go_simp
              try simp only [Act.put, List.setIfInBounds_toArray, List.set_cons_zero, List.set_cons_succ]
              refine wpAnyH_take (i := 35) (oi := { dst := some 113, op := Op.fieldAddr 26 (Operand.tmp 112) 0, type := 0, pos := "laws.go:490", after := #[{ on := 34, ground := Ground.data }, { on := 31, ground := Ground.guard }], guard := some (31, true) }) (v := .pointer (some ⟨w13.heap.size, 1, none⟩)) rfl (by kernel_rfl) (by kernel_rfl) (by kernel_rfl) (fun _ _ _ h => h) (Or.inl ⟨by rfl, ?_⟩) (by assumption) ?_
              · intro wq hSw; (try dsimp only at hSw); go_simp
              try simp only [Act.put, List.setIfInBounds_toArray, List.set_cons_zero, List.set_cons_succ]
              refine wpAnyH_take (i := 36) (oi := { dst := some 114, op := Op.load 23 (Operand.tmp 113), type := 23, pos := "laws.go:490", after := #[{ on := 35, ground := Ground.data }, { on := 31, ground := Ground.guard }], guard := some (31, true) }) (v := .slice a13 ls.length c13) rfl (by kernel_rfl) (by kernel_rfl) (by kernel_rfl) (fun _ _ _ h => h) (Or.inl ⟨by rfl, ?_⟩) (by assumption) ?_
              · intro wq hSw; (try dsimp only at hSw); obtain ⟨q0, q1, q2, q3, q4, q5⟩ := box_sixR (box_below S14H.out hSw); go_simp
              try simp only [Act.put, List.setIfInBounds_toArray, List.set_cons_zero, List.set_cons_succ]
              refine wpAnyH_ready (rs := [37]) (by kernel_rfl) (by simp) ?_
              refine AllReadyH.cons (o := { dst := some 115, op := Op.call { callee := Callee.value (Operand.func 14), args := #[Operand.tmp 111, Operand.tmp 114], argTypes := #[23, 23] }, type := 4, pos := "laws.go:490", after := #[{ on := 33, ground := Ground.data }, { on := 36, ground := Ground.data }, { on := 31, ground := Ground.chain }, { on := 31, ground := Ground.guard }], guard := some (31, true) }) rfl (fun K hK => ?_) AllReadyH.nil
              go_simp
              refine (lwFiles_same a9 ls.length c9 a13 c13 ls u4 _ _ _ _ (pZ.out _ B4).1 (pT.out _ B4).1 (pZ.out _ B4).2 (pT.out _ B4).2).mono ?_
              rintro e u5 ⟨rfl, hB5⟩
              have B5 : Below W14.heap.size W14 u5 := B4.trans (hB5.mono B4.size)
              clear hB5
              go_wp2_with fail
              refine hK.out _ _ B5 (fun hHeld => ?_)
              clear hK K
              try simp only [Act.put, List.setIfInBounds_toArray, List.set_cons_zero, List.set_cons_succ]
              refine wpAnyH_take (i := 38) (oi := { dst := some 116, op := Op.pick (Operand.tmp 109) (Operand.tmp 115) (Operand.const (Value.bool false)), type := 4, pos := "laws.go:490", after := #[{ on := 31, ground := Ground.data }, { on := 37, ground := Ground.data }], guard := none }) (v := .bool true) rfl (by kernel_rfl) (by kernel_rfl) (by kernel_rfl) (fun _ _ _ h => h) (Or.inl ⟨by rfl, ?_⟩) (by assumption) ?_
              · intro wq hSw; (try dsimp only at hSw); go_simp
              try simp only [Act.put, List.setIfInBounds_toArray, List.set_cons_zero, List.set_cons_succ]
              refine wpAnyH_take (i := 39) (oi := { dst := some 117, op := Op.move (Operand.tmp 116), type := 4, pos := "laws.go:490", after := #[{ on := 38, ground := Ground.data }, { on := 37, ground := Ground.chain }], guard := none }) (v := .bool true) rfl (by kernel_rfl) (by kernel_rfl) (by kernel_rfl) (fun _ _ _ h => h) (Or.inl ⟨by rfl, ?_⟩) (by assumption) ?_
              · intro wq hSw; (try dsimp only at hSw); go_simp
              try simp only [Act.put, List.setIfInBounds_toArray, List.set_cons_zero, List.set_cons_succ]
              refine wpAnyH_take (i := 40) (oi := { dst := some 118, op := Op.load 26 (Operand.tmp 10), type := 26, pos := "laws.go:490", after := #[{ on := 39, ground := Ground.guard }], guard := some (39, true) }) (v := .agg #[.slice a9 ls.length c9, .slice none 0 0, .int .i64 cp, .int .i64 (-1), .bool false]) rfl (by kernel_rfl) (by kernel_rfl) (by kernel_rfl) (fun _ _ _ h => h) (Or.inl ⟨by rfl, ?_⟩) (by assumption) ?_
              · intro wq hSw; (try dsimp only at hSw); obtain ⟨q0, q1, q2, q3, q4⟩ := box_fiveC (box_below K14H.out hSw); go_simp
              try simp only [Act.put, List.setIfInBounds_toArray, List.set_cons_zero, List.set_cons_succ]
              refine wpAnyH_take (i := 41) (oi := { dst := some 119, op := Op.move (Operand.tmp 4), type := 9, pos := "laws.go:490", after := #[{ on := 39, ground := Ground.guard }], guard := some (39, true) }) (v := .string nm) rfl (by kernel_rfl) (by kernel_rfl) (by kernel_rfl) (fun _ _ _ h => h) (Or.inl ⟨by rfl, ?_⟩) (by assumption) ?_
              · intro wq hSw; (try dsimp only at hSw); go_simp
              try simp only [Act.put, List.setIfInBounds_toArray, List.set_cons_zero, List.set_cons_succ]
              refine wpAnyH_take (i := 42) (oi := { dst := some 120, op := Op.move (Operand.tmp 5), type := 2, pos := "laws.go:490", after := #[{ on := 39, ground := Ground.guard }], guard := some (39, true) }) (v := .int .i64 pg) rfl (by kernel_rfl) (by kernel_rfl) (by kernel_rfl) (fun _ _ _ h => h) (Or.inl ⟨by rfl, ?_⟩) (by assumption) ?_
              · intro wq hSw; (try dsimp only at hSw); go_simp
              try simp only [Act.put, List.setIfInBounds_toArray, List.set_cons_zero, List.set_cons_succ]
              refine wpAnyH_take (i := 44) (oi := { dst := some 122, op := Op.move (Operand.tmp 6), type := 22, pos := "laws.go:490", after := #[{ on := 39, ground := Ground.guard }], guard := some (39, true) }) (v := .slice pa pn pc) rfl (by kernel_rfl) (by kernel_rfl) (by kernel_rfl) (fun _ _ _ h => h) (Or.inl ⟨by rfl, ?_⟩) (by assumption) ?_
              · intro wq hSw; (try dsimp only at hSw); go_simp
              try simp only [Act.put, List.setIfInBounds_toArray, List.set_cons_zero, List.set_cons_succ]
              refine wpAnyH_ready (rs := [43]) (by kernel_rfl) (by simp) ?_
              refine AllReadyH.cons (o := { dst := some 121, op := Op.call { callee := Callee.value (Operand.func 12), args := #[Operand.tmp 118, Operand.tmp 119, Operand.tmp 120], argTypes := #[26, 9, 2] }, type := 22, pos := "laws.go:491", after := #[{ on := 40, ground := Ground.data }, { on := 41, ground := Ground.data }, { on := 42, ground := Ground.data }, { on := 39, ground := Ground.chain }, { on := 39, ground := Ground.guard }], guard := some (39, true) }) rfl (fun K hK => ?_) AllReadyH.nil
              go_simp
              refine (implRead_any a9 ls.length c9 ls none 0 0 [] cp (-1) false nm hsz pg u5 wr.heap.size w9.heap.size (pZ.out _ B5).1 (pZ.out _ B5).2 (noPends _ _ _) hwp HLA.out).mono ?_
              rintro e u6 ⟨va6, vn6, vc6, ty6, rfl, hvn6, ho6, hb6, _, hB6⟩
              rw [HR3.out] at ho6 hb6
              have Y6 := (RowZ.mk' ho6 hb6).bytes
              have B6 : Below W14.heap.size W14 u6 := B5.trans (hB6.mono B5.size)
              clear ho6 hb6 hvn6 hB6
              go_wp2_with fail
              refine hK.out _ _ B6 (fun hHeld => ?_)
              clear hK K
              try simp only [Act.put, List.setIfInBounds_toArray, List.set_cons_zero, List.set_cons_succ]
              refine wpAnyH_ready (rs := [45]) (by kernel_rfl) (by simp) ?_
              refine AllReadyH.cons (o := { dst := some 123, op := Op.call { callee := Callee.value (Operand.func 11), args := #[Operand.tmp 121, Operand.tmp 122], argTypes := #[22, 22] }, type := 4, pos := "laws.go:491", after := #[{ on := 43, ground := Ground.data }, { on := 44, ground := Ground.data }, { on := 43, ground := Ground.chain }, { on := 39, ground := Ground.guard }], guard := some (39, true) }) rfl (fun K hK => ?_) AllReadyH.nil
              go_simp
              refine (lwBytes_same va6 vn6 vc6 ds pa pn pc u6 _ _ _ _ Y6 (pY.out _ B6)).mono ?_
              rintro e u6' ⟨rfl, rfl⟩
              go_wp2_with fail
              refine hK.out _ _ B6 (fun hHeld => ?_)
              clear hK K
              try simp only [Act.put, List.setIfInBounds_toArray, List.set_cons_zero, List.set_cons_succ]
              refine wpAnyH_take (i := 46) (oi := { dst := some 124, op := Op.pick (Operand.tmp 117) (Operand.tmp 123) (Operand.const (Value.bool false)), type := 4, pos := "laws.go:490", after := #[{ on := 39, ground := Ground.data }, { on := 45, ground := Ground.data }], guard := none }) (v := .bool true) rfl (by kernel_rfl) (by kernel_rfl) (by kernel_rfl) (fun _ _ _ h => h) (Or.inl ⟨by rfl, ?_⟩) (by assumption) ?_
              · intro wq hSw; (try dsimp only at hSw); go_simp
              try simp only [Act.put, List.setIfInBounds_toArray, List.set_cons_zero, List.set_cons_succ]
              refine wpAnyH_take (i := 47) (oi := { dst := some 2, op := Op.assign (Operand.tmp 124), type := 4, pos := "laws.go:490", after := #[{ on := 46, ground := Ground.data }, { on := 45, ground := Ground.chain }, { on := 0, ground := Ground.phase }, { on := 1, ground := Ground.phase }, { on := 2, ground := Ground.phase }, { on := 3, ground := Ground.phase }, { on := 4, ground := Ground.phase }, { on := 5, ground := Ground.phase }, { on := 6, ground := Ground.phase }, { on := 7, ground := Ground.phase }, { on := 8, ground := Ground.phase }, { on := 9, ground := Ground.phase }, { on := 10, ground := Ground.phase }, { on := 11, ground := Ground.phase }, { on := 12, ground := Ground.phase }, { on := 13, ground := Ground.phase }, { on := 14, ground := Ground.phase }, { on := 15, ground := Ground.phase }, { on := 16, ground := Ground.phase }, { on := 17, ground := Ground.phase }, { on := 18, ground := Ground.phase }, { on := 19, ground := Ground.phase }, { on := 20, ground := Ground.phase }, { on := 21, ground := Ground.phase }, { on := 22, ground := Ground.phase }, { on := 23, ground := Ground.phase }, { on := 24, ground := Ground.phase }, { on := 25, ground := Ground.phase }, { on := 26, ground := Ground.phase }, { on := 27, ground := Ground.phase }, { on := 28, ground := Ground.phase }, { on := 29, ground := Ground.phase }, { on := 30, ground := Ground.phase }, { on := 31, ground := Ground.phase }, { on := 32, ground := Ground.phase }, { on := 33, ground := Ground.phase }, { on := 34, ground := Ground.phase }, { on := 35, ground := Ground.phase }, { on := 36, ground := Ground.phase }, { on := 37, ground := Ground.phase }, { on := 38, ground := Ground.phase }, { on := 39, ground := Ground.phase }, { on := 40, ground := Ground.phase }, { on := 41, ground := Ground.phase }, { on := 42, ground := Ground.phase }, { on := 43, ground := Ground.phase }, { on := 44, ground := Ground.phase }, { on := 45, ground := Ground.phase }, { on := 46, ground := Ground.phase }], guard := none }) (v := .bool true) rfl (by kernel_rfl) (by kernel_rfl) (by kernel_rfl) (fun _ _ _ h => h) (Or.inl ⟨by rfl, ?_⟩) (by assumption) ?_
              · intro wq hSw; (try dsimp only at hSw); go_simp
              try simp only [Act.put, List.setIfInBounds_toArray, List.set_cons_zero, List.set_cons_succ]
              refine wpAnyH_done (by kernel_rfl) ?_ _
              refine NoPanic.normal ?_
              go_wp2_with fail
              go_meet
              exact ⟨rfl, B6⟩
            case rest =>
              obtain ⟨rfl, Bc⟩ := hcut
              go_wp2_with fail
              go_ret
              exact ⟨rfl, Bw14.trans (Bc.mono Bw14.size)⟩
    · have se : (er != 0) = true := by simp [te]
      have hq : (qs.length : Int) = (m1 : Int) := by
        obtain ⟨h1, _, h3, _⟩ := HE.out
        have h4 : qs = ps := by
          rw [h3]
          unfold dsX
          rw [if_neg]
          rintro ⟨h5, h6⟩
          apply te
          rw [h1]
          unfold dsE spE
          rw [if_pos h5, if_neg h6]
        rw [h4, hP5.1]
      have hq2 : ((qs.length : Int) == (m1 : Int)) = true := by rw [hq]; simp
      obtain ⟨x0, x1, x2, x3, x4⟩ := box_fiveC X5
      obtain ⟨r0, r1, r2, r3, r4, r5⟩ := box_sixR R5
      clear hF5 hP5 hY5 hG5 hQ5 X5 R5 HE
      go_wp2_with fail
      go_ret
      exact ⟨by simp, Bw5⟩
end Go.Proofs.Ytakdaandbdbdnaa
