import Derived.Test.YtjbifddhbcfdcaaGreatSee
import Derived.Test.YtjbifddhbcfdcaaGreatMts
namespace Go.Proofs.YtjbifddhbcfdcaaGreat
open Go.RowKit Go.Maps
set_option linter.unusedVariables false
set_option maxRecDepth 100000

theorem run_sliceAllM (g : Nat) (w : World) : (Instr.sliceAt 82 (.pointer (some ⟨g, 0, none⟩)) none none none).run Tryz.prog w = .ok (.slice (some ⟨g, 0, none⟩) 128 128) w := by
  rw [run_sliceAt_array_all w 82 _ arrSheet, elemSheet, show (sizeOf 5).run Tryz.prog w = .ok 1 w by kernel_rfl]
  simp [slicedAt, go_sem, Addr.add]
theorem sheet_bytes {w : World} {g : Nat} {bs : List Int} (h : w.heap[g]? = some (.cells (u8s bs).toArray 82)) (hl : bs.length = 128) (hb : ∀ x ∈ bs, 0 ≤ x ∧ x ≤ 255) : BytesAt w g (g + 1) (some ⟨g, 0, none⟩) 128 128 bs := by
  refine ⟨hl, Nat.le_refl _, by unfold maxLen; omega, hb, fun _ => ⟨g, 0, rfl, ⟨Nat.le_refl _, by omega⟩, fun i hi => ?_⟩, fun e => by cases e⟩
  rw [Nat.zero_add]
  simp only [World.cell?, h]
  simp [u8s, List.getD, List.getElem?_eq_getElem (show i < bs.length by omega)]
theorem box_nineM {w : World} {N : Nat} {v0 v1 v2 v3 v4 v5 v6 v7 v8 : Value} {t : TypeId} (h : w.heap[N]? = some (.cells #[v0, v1, v2, v3, v4, v5, v6, v7, v8] t)) : w.cell? ⟨N, 0, none⟩ = some v0 ∧ w.cell? ⟨N, 1, none⟩ = some v1 ∧ w.cell? ⟨N, 2, none⟩ = some v2 ∧ w.cell? ⟨N, 3, none⟩ = some v3 ∧ w.cell? ⟨N, 4, none⟩ = some v4 ∧ w.cell? ⟨N, 5, none⟩ = some v5 ∧ w.cell? ⟨N, 6, none⟩ = some v6 ∧ w.cell? ⟨N, 7, none⟩ = some v7 ∧ w.cell? ⟨N, 8, none⟩ = some v8 := by
  refine ⟨?_, ?_, ?_, ?_, ?_, ?_, ?_, ?_, ?_⟩ <;> simp [World.cell?, h]
def put9M (w : World) (N : Nat) (u0 u1 u2 u3 u4 u5 u6 u7 u8 : Value) : World := (((((((((w.setCell ⟨N, 0, none⟩ u0).setCell ⟨N, 1, none⟩ u1).setCell ⟨N, 2, none⟩ u2).setCell ⟨N, 3, none⟩ u3).setCell ⟨N, 4, none⟩ u4).setCell ⟨N, 5, none⟩ u5).setCell ⟨N, 6, none⟩ u6).setCell ⟨N, 7, none⟩ u7).setCell ⟨N, 8, none⟩ u8)
theorem put9M_box {w : World} {N t : Nat} {v0 v1 v2 v3 v4 v5 v6 v7 v8 : Value} (h : w.heap[N]? = some (.cells #[v0, v1, v2, v3, v4, v5, v6, v7, v8] t)) (u0 u1 u2 u3 u4 u5 u6 u7 u8 : Value) : (put9M w N u0 u1 u2 u3 u4 u5 u6 u7 u8).heap[N]? = some (.cells #[u0, u1, u2, u3, u4, u5, u6, u7, u8] t) := by
  simp [put9M, World.setCell, Array.getElem?_modify, h]
theorem put9M_fr (w : World) (N : Nat) (u0 u1 u2 u3 u4 u5 u6 u7 u8 : Value) : Fr (fun x => x = N) w (put9M w N u0 u1 u2 u3 u4 u5 u6 u7 u8) :=
  ((((((((fr_setCell _ _ _ _).trans (fr_setCell _ _ _ _)).trans (fr_setCell _ _ _ _)).trans (fr_setCell _ _ _ _)).trans (fr_setCell _ _ _ _)).trans (fr_setCell _ _ _ _)).trans (fr_setCell _ _ _ _)).trans (fr_setCell _ _ _ _)).trans (fr_setCell _ _ _ _)
theorem two_allocsM {w : World} {x0 x1 : Obj} {W0 : World} (h : W0 = (w.alloc x0).alloc x1) : W0.heap.size = w.heap.size + 2 ∧ Below w.heap.size w W0 ∧ W0.heap[w.heap.size]? = some x0 ∧ W0.heap[w.heap.size + 1]? = some x1 := by
  subst h
  have z : ∀ (X : World) (x : Obj), (X.alloc x).heap.size = X.heap.size + 1 := fun X x => by simp
  refine ⟨by simp, ((Below.refl _ _).alloc (Nat.le_refl _) _).alloc (by simp only [z]; omega) _, ?_, ?_⟩
  · rw [heap_alloc_old _ _ (by simp only [z]; omega)]; exact heap_alloc_new _ _
  · have := heap_alloc_new (w.alloc x0) x1; rwa [z] at this
theorem run_fieldPage (v0 v1 v2 v3 v4 v5 v6 v7 v8 v9 : Value) (w : World) : (Instr.field 66 (.agg #[v0, v1, v2, v3, v4, v5, v6, v7, v8, v9]) 1).run Tryz.prog w = .ok (.agg #[v1, v2, v3, v4, v5, v6, v7, v8, v9]) w := by
  simp [Instr.field, asAgg, go_sem]
set_option maxHeartbeats 1600000 in
theorem decoded_any (nm : ByteArray) (hnm : nm.size ≤ maxLen) (j mb q : Nat) (hj : j ≤ 2) (DM : DataW Unit) (S : ByteArray → Int → Option (List Int)) (w : World) (hM : MapS w mb q DM) (hR : RepS DM S) (hbs : ∀ t bs, S nm t = some bs → bs.length = 128 ∧ ∀ x ∈ bs, 0 ≤ x ∧ x ≤ 255) :
    Calls Tryz.prog 18 #[.map (some mb), .string nm, .int .i64 (j : Int)] w fun e w' => ∃ ka kc ea ec, e = .returned (.agg #[.int .i64 (New.decR (oldS S nm j)).2.kind, .int .i64 (New.decR (oldS S nm j)).2.tx, .int .i64 (New.decR (oldS S nm j)).2.id, .int .i64 (New.decR (oldS S nm j)).2.root, .int .i64 (New.decR (oldS S nm j)).2.count, .slice ka (New.decR (oldS S nm j)).2.ks.length kc, .slice ea (New.decR (oldS S nm j)).2.es.length ec, .int .i64 (New.decR (oldS S nm j)).2.next, .string (New.decR (oldS S nm j)).2.data]) ∧ Below w.heap.size w w' := by
  have hpw : (Lit.int .i64 (j : Int)).wf = true := WalkArith.wf_i64 (by omega)
  have k0 := heap_alloc_new w (.cells #[.int .i64 0, .int .i64 0, .int .i64 0, .int .i64 0, .int .i64 0, .slice none 0 0, .slice none 0 0, .int .i64 0, .string ⟨#[]⟩] 54)
  have hb0 : Below w.heap.size w (w.alloc (.cells #[.int .i64 0, .int .i64 0, .int .i64 0, .int .i64 0, .int .i64 0, .slice none 0 0, .slice none 0 0, .int .i64 0, .string ⟨#[]⟩] 54)) := (Below.refl _ _).alloc (Nat.le_refl _) _
  have hs0 : (w.alloc (.cells #[.int .i64 0, .int .i64 0, .int .i64 0, .int .i64 0, .int .i64 0, .slice none 0 0, .slice none 0 0, .int .i64 0, .string ⟨#[]⟩] 54)).heap.size = w.heap.size + 1 := by simp
  have hM0 : MapS (w.alloc (.cells #[.int .i64 0, .int .i64 0, .int .i64 0, .int .i64 0, .int .i64 0, .slice none 0 0, .slice none 0 0, .int .i64 0, .string ⟨#[]⟩] 54)) mb q DM := World.ownsMap.alloc hM _
  obtain ⟨hlk, hol, hor⟩ := look_plF (nm := nm) (pg := (j : Int)) hM0 hR hnm hpw (fun bs hb => hbs _ _ hb)
  obtain ⟨old, hold⟩ : ∃ old, old = oldS S nm (j : Int) := ⟨_, rfl⟩
  rw [← hold] at hlk hol hor ⊢
  have hul : (u8s old).length = 128 := by simp [u8s, hol]
  have hst := storeCells_new (w.alloc (.cells #[.int .i64 0, .int .i64 0, .int .i64 0, .int .i64 0, .int .i64 0, .slice none 0 0, .slice none 0 0, .int .i64 0, .string ⟨#[]⟩] 54)) old hol
  rw [hs0] at hst
  have hsl := fun W => run_sliceAllM (w.heap.size + 1) W
  have HK0 : Hid _ := k0
  have HB0 : Hid _ := hb0
  have HS0 : Hid _ := hs0
  obtain ⟨D, hD⟩ : ∃ D, D = New.decR old := ⟨_, rfl⟩
  rw [← hD]
  have HD : Hid (D = New.decR old) := hD
  clear hold hM hM0 hR k0 hb0 hs0 hD
  go_enter Tryz.func18, Tryz.ntmps18
  go_wp2_with fail
  obtain ⟨W1, hW1⟩ : ∃ W1, W1 = (w.alloc (.cells #[.int .i64 0, .int .i64 0, .int .i64 0, .int .i64 0, .int .i64 0, .slice none 0 0, .slice none 0 0, .int .i64 0, .string ⟨#[]⟩] 54)).alloc (.cells (u8s old).toArray 82) := ⟨_, rfl⟩
  obtain ⟨hs1, hb1, k0, k1⟩ := two_allocsM hW1
  rw [← hW1]
  clear hW1 HK0 HB0 HS0 hlk hst hsl
  have hby := sheet_bytes k1 hol hor
  have himp := New.dec_impl _ _ _ old W1 _ _ (by omega) hby
  rw [← HD.out] at himp
  refine himp.mono ?_
  rintro e w2 ⟨ka, kc, ea, ec, rfl, _, _, _, hb2⟩
  have X := box_below k0 hb2
  have s2 := hb2.size
  have bel2 : Below w.heap.size w w2 := hb1.trans (hb2.mono (by omega))
  clear k0 k1 hby himp hb2 hb1 hor hol hul
  obtain ⟨x0, x1, x2, x3, x4, x5, x6, x7, x8⟩ := box_nineM X
  have fx := box_thawC X
  have l2 : w.heap.size < w2.heap.size := by omega
  have X5 := put9M_box X (.int .i64 D.2.kind) (.int .i64 D.2.tx) (.int .i64 D.2.id) (.int .i64 D.2.root) (.int .i64 D.2.count) (.slice ka D.2.ks.length kc) (.slice ea D.2.es.length ec) (.int .i64 D.2.next) (.string D.2.data)
  have hf := put9M_fr w2 w.heap.size (.int .i64 D.2.kind) (.int .i64 D.2.tx) (.int .i64 D.2.id) (.int .i64 D.2.root) (.int .i64 D.2.count) (.slice ka D.2.ks.length kc) (.slice ea D.2.es.length ec) (.int .i64 D.2.next) (.string D.2.data)
  have HB5 : Hid (Below w.heap.size w (put9M w2 w.heap.size (.int .i64 D.2.kind) (.int .i64 D.2.tx) (.int .i64 D.2.id) (.int .i64 D.2.root) (.int .i64 D.2.count) (.slice ka D.2.ks.length kc) (.slice ea D.2.es.length ec) (.int .i64 D.2.next) (.string D.2.data))) := bel2.trans (hf.below bel2.size (fun g e => by omega))
  clear hf bel2
  have hfl := run_fieldPage (.bool D.1) (.int .i64 D.2.kind) (.int .i64 D.2.tx) (.int .i64 D.2.id) (.int .i64 D.2.root) (.int .i64 D.2.count) (.slice ka D.2.ks.length kc) (.slice ea D.2.es.length ec) (.int .i64 D.2.next) (.string D.2.data) w2
  go_wp2_with fail
  show bodyPost _ _ _ _ _ (put9M w2 w.heap.size (.int .i64 D.2.kind) (.int .i64 D.2.tx) (.int .i64 D.2.id) (.int .i64 D.2.root) (.int .i64 D.2.count) (.slice ka D.2.ks.length kc) (.slice ea D.2.es.length ec) (.int .i64 D.2.next) (.string D.2.data))
  clear x0 x1 x2 x3 x4 x5 x6 x7 x8 fx
  obtain ⟨x0, x1, x2, x3, x4, x5, x6, x7, x8⟩ := box_nineM X5
  exact bodyPost_ret (v := .agg #[.int .i64 D.2.kind, .int .i64 D.2.tx, .int .i64 D.2.id, .int .i64 D.2.root, .int .i64 D.2.count, .slice ka D.2.ks.length kc, .slice ea D.2.es.length ec, .int .i64 D.2.next, .string D.2.data]) (by simp [results, Tryz.results18, go_sem, x0, x1, x2, x3, x4, x5, x6, x7, x8]) rfl ⟨ka, kc, ea, ec, rfl, HB5.out⟩
/-- What the program answers. -/
def metaI (fs : List PF) (ps : List PP) (cp fu : Int) (nm : ByteArray) : MR := if implV fs ps cp fu = true then mIter (fun j => (pageOf (lastF ps fs) nm (j : Int)).getD zeros) 2 else mZ
set_option maxHeartbeats 3200000 in
theorem implMeta_any (nm : ByteArray) (hnm : nm.size ≤ maxLen) (a : Option Addr) (n c : Nat) (fs : List PF) (b : Option Addr) (m d : Nat) (ps : List PP) (cp fu : Int) (de : Bool) (w : World) (A B : Nat) (hB : B ≤ w.heap.size) (hF : FilesAt w A B a n c fs) (hP : PendsAt w A B b m d ps)
    (hall : ∀ j, j < n → (fs.getD j (ByteArray.empty, [])).2.length ≤ 1048576) :
    Calls Tryz.prog 7 #[.agg #[.slice a n c, .slice b m d, .int .i64 cp, .int .i64 fu, .bool de], .string nm] w fun e w' => e = .returned (.agg (metaI fs ps cp fu nm).cells) ∧ Below w.heap.size w w' := by
  have HF : Hid (∀ W, Below w.heap.size w W → FilesAt W A B a n c fs) := fun W hW => hF.below (hW.mono hB)
  have HP : Hid (∀ W, Below w.heap.size w W → PendsAt W A B b m d ps) := fun W hW => hP.below (hW.mono hB)
  have HA : Hid (∀ j, j < n → (fs.getD j (ByteArray.empty, [])).2.length ≤ 1048576) := hall
  have HFL : Hid (fs.length = n) := hF.1
  have HPL : Hid (ps.length = m) := hP.1
  obtain ⟨R, hR⟩ : ∃ R, R = metaI fs ps cp fu nm := ⟨_, rfl⟩
  rw [← hR]
  have HR : Hid (R = metaI fs ps cp fu nm) := hR
  clear hF hP hall hR
  go_enter Tryz.func7, Tryz.ntmps7
  go_wp2_with fail
  obtain ⟨W0, hW0⟩ : ∃ W0, W0 = (w.alloc (.cells #[.slice a n c, .slice b m d, .int .i64 cp, .int .i64 fu, .bool de] 35)).alloc (.cells #[.bool false, .int .i64 0, .int .i64 0, .int .i64 0, .int .i64 0] 30) := ⟨_, rfl⟩
  obtain ⟨hs0, hb0, k0, k1⟩ := two_allocsM hW0
  rw [← hW0]
  clear hW0
  refine (implValid_any a n c fs b m d ps cp fu de W0 A B (by omega) (HF.out _ hb0) (HP.out _ hb0) HA.out).mono ?_
  rintro e w1 ⟨rfl, hb1⟩
  have X0 := box_below k0 hb1
  have X1 := box_below k1 hb1
  have s1 := hb1.size
  have bel1 : Below w.heap.size w w1 := hb0.trans (hb1.mono (by omega))
  have l0 : w.heap.size < w1.heap.size := by omega
  have l1 : w.heap.size + 1 < w1.heap.size := by omega
  obtain ⟨vv, hvv⟩ : ∃ v, v = implV fs ps cp fu := ⟨_, rfl⟩
  rw [← hvv]
  have HV : Hid (vv = implV fs ps cp fu) := hvv
  clear hvv k0 k1 hb0 hb1 hs0
  cases vv
  · have e1 : R = mZ := by rw [HR.out]; unfold metaI; rw [← HV.out]; simp
    subst e1
    obtain ⟨z0, z1, z2, z3, z4⟩ := box_fiveC X1
    have hz := box_thawC X1
    have X3 := put5C_box X1 (.bool false) (.int .i64 0) (.int .i64 0) (.int .i64 0) (.int .i64 0)
    have hf := put5C_fr w1 (w.heap.size + 1) (.bool false) (.int .i64 0) (.int .i64 0) (.int .i64 0) (.int .i64 0)
    have HB5 : Hid (Below w.heap.size w (put5C w1 (w.heap.size + 1) (.bool false) (.int .i64 0) (.int .i64 0) (.int .i64 0) (.int .i64 0))) := bel1.trans (hf.below bel1.size (fun g e => by omega))
    clear hf bel1
    go_wp2_with fail
    show bodyPost _ _ _ _ _ (put5C w1 (w.heap.size + 1) (.bool false) (.int .i64 0) (.int .i64 0) (.int .i64 0) (.int .i64 0))
    clear z0 z1 z2 z3 z4 hz
    obtain ⟨z0, z1, z2, z3, z4⟩ := box_fiveC X3
    exact bodyPost_ret (v := .agg mZ.cells) (by simp [results, Tryz.results7, go_sem, z0, z1, z2, z3, z4, MR.cells, mZ]) rfl ⟨rfl, HB5.out⟩
  · have e1 : R = mIter (fun j => (pageOf (lastF ps fs) nm (j : Int)).getD zeros) 2 := by rw [HR.out]; unfold metaI; rw [← HV.out]; simp
    have HR2 : Hid (R = mIter (fun j => (pageOf (lastF ps fs) nm (j : Int)).getD zeros) 2) := e1
    obtain ⟨q1, q2, q3, q4, q5⟩ := specV_parts (by rw [valid_eq]; exact HV.out.symm)
    have hpm : m ≤ 1000 := by
      have h2 := HV.out.symm
      simp only [implV, Bool.and_eq_true, decide_eq_true_eq] at h2
      have := HPL.out
      omega
    have hn12 : n ≤ 12 := by have := HFL.out; omega
    have HQ4 : Hid (cacheS cp ps fs = true) := q4
    have HI : Hid (Inv fs) := inv_all q5
    obtain ⟨z0, z1, z2, z3, z4⟩ := box_fiveC X0
    clear e1 q1 q4 q5 HR HV
    go_wp2_with fail
    refine (see_any a n c fs b m d ps cp fu de w1 A B (by have := bel1.size; omega) (HF.out _ bel1) (HP.out _ bel1) hn12 hpm q2 q3 HQ4.out HI.out).mono ?_
    rintro e w2 ⟨mb, q, D, rfl, hmb, hM, hq, hRep, hBF, hI2, hb2⟩
    have Y1 := box_below X1 hb2
    have s2 := hb2.size
    have bel2 : Below w.heap.size w w2 := bel1.trans (hb2.mono bel1.size)
    have hmbl : mb < w2.heap.size := World.ownsMap.lt hM
    obtain ⟨S, hS⟩ : ∃ S, S = pageOf (lastF ps fs) := ⟨_, rfl⟩
    have HREP : Hid (RepS D S) := by rw [hS]; exact hRep
    have HBS : Hid (∀ t bs, S nm t = some bs → bs.length = 128 ∧ ∀ x ∈ bs, 0 ≤ x ∧ x ≤ 255) := by rw [hS]; exact fun t bs hb => page_byte hBF nm t bs hb
    have HR3 : Hid (R = mIter (fun j => oldS S nm (j : Int)) 2) := by rw [hS]; exact HR2.out
    have HOB : Hid (∀ j : Nat, ∀ x ∈ oldS S nm (j : Int), 0 ≤ x ∧ x ≤ 255) := fun j x hx => by
      unfold oldS at hx
      cases h : S nm (j : Int) with
      | some bs => rw [h] at hx; exact (HBS.out _ _ h).2 x hx
      | none => rw [h] at hx; exact zeros_in x hx
    have hal := (Below.refl w2.heap.size w2).alloc (Nat.le_refl _) (.cells #[.bool false, .int .i64 0, .int .i64 0, .int .i64 0, .int .i64 0] 30)
    obtain ⟨LB, hLB⟩ : ∃ LB, LB = w2.heap.size := ⟨_, rfl⟩
    have hlb : w.heap.size + 1 < LB ∧ mb < LB := by omega
    have H0 : Hid (LB < (w2.alloc (.cells #[.bool false, .int .i64 0, .int .i64 0, .int .i64 0, .int .i64 0] 30)).heap.size ∧ MapS (w2.alloc (.cells #[.bool false, .int .i64 0, .int .i64 0, .int .i64 0, .int .i64 0] 30)) mb q D ∧ (w2.alloc (.cells #[.bool false, .int .i64 0, .int .i64 0, .int .i64 0, .int .i64 0] 30)).heap[w.heap.size + 1]? = some (.cells #[.bool false, .int .i64 0, .int .i64 0, .int .i64 0, .int .i64 0] 30) ∧ (w2.alloc (.cells #[.bool false, .int .i64 0, .int .i64 0, .int .i64 0, .int .i64 0] 30)).heap[LB]? = some (.cells (mIter (fun j => oldS S nm (j : Int)) 0).cells 30) ∧ Below w.heap.size w (w2.alloc (.cells #[.bool false, .int .i64 0, .int .i64 0, .int .i64 0, .int .i64 0] 30))) := ⟨by simp; omega, World.ownsMap.alloc hM _, box_below Y1 hal, by rw [hLB]; exact heap_alloc_new _ _, bel2.trans (hal.mono bel2.size)⟩
    clear hS hRep hBF hI2 hM hal Y1 X0 X1 z0 z1 z2 z3 z4 bel1 bel2 HQ4 HI HR2 hb2 hmb s1 l0 l1
    go_wp2_with fail
    rw [← hLB]
    clear hLB
    generalize w2.alloc (.cells #[.bool false, .int .i64 0, .int .i64 0, .int .i64 0, .int .i64 0] 30) = W3 at H0 ⊢
    go_loopw [7, 8, 15] (fun _ _ i wr => ∃ (k : Nat), k ≤ 2 ∧ i = .int .i64 k ∧ Hid (LB < wr.heap.size ∧ MapS wr mb q D ∧ wr.heap[w.heap.size + 1]? = some (.cells #[.bool false, .int .i64 0, .int .i64 0, .int .i64 0, .int .i64 0] 30) ∧ wr.heap[LB]? = some (.cells (mIter (fun j => oldS S nm (j : Int)) k).cells 30) ∧ Below w.heap.size w wr)) (fun _ _ i _ => 2 - (intOf i).toNat)
    case atStart => exact ⟨0, by omega, rfl, H0⟩
    case round =>
      clear H0
      obtain ⟨k, hk, rfl, HX⟩ := hrel
      by_cases hlt : k < 2
      · go_wp2_with fail
        obtain ⟨DD, hD⟩ : ∃ DD, DD = New.decR (oldS S nm (k : Int)) := ⟨_, rfl⟩
        have himp := decoded_any nm hnm k mb q (by omega) D S wr HX.out.2.1 HREP.out HBS.out
        have htx := decR_tx (HOB.out k)
        rw [← hD] at himp htx
        obtain ⟨ok, kd, tx, id, rt, ct, kl, el, nx, da⟩ := DD
        simp only at himp htx
        have HD : Hid ((ok, (⟨kd, tx, id, rt, ct, kl, el, nx, da⟩ : Pg)) = New.decR (oldS S nm (k : Int))) := hD
        clear hD
        refine himp.mono ?_
        rintro e w3 ⟨ka, kc, ea, ec, rfl, B3⟩
        have X1 := box_below HX.out.2.2.1 B3
        have XL := box_below HX.out.2.2.2.1 B3
        have s3 := B3.size
        have BW : Below w.heap.size w w3 := HX.out.2.2.2.2.trans (B3.mono HX.out.2.2.2.2.size)
        have M3 : MapS w3 mb q D := HX.out.2.1.to (B3.block mb (World.ownsMap.lt HX.out.2.1))
        have lL : LB < w3.heap.size := by have := HX.out.1; omega
        obtain ⟨s, hs⟩ : ∃ s, s = mIter (fun j => oldS S nm (j : Int)) k := ⟨_, rfl⟩
        rw [← hs] at XL
        have HS : Hid (mIter (fun j => oldS S nm (j : Int)) (k + 1) = mStep (oldS S nm (k : Int)) k s) := by show _ = _; rw [hs]; rfl
        clear hs B3 himp HX
        obtain ⟨so, st, si, sr, sc⟩ := s
        simp only [MR.cells] at XL
        obtain ⟨o0, o1, o2, o3, o4⟩ := box_fiveC XL
        have ofz := box_thawC XL
        have hal := (Below.refl w3.heap.size w3).alloc (Nat.le_refl _) (.cells #[.int .i64 kd, .int .i64 tx, .int .i64 id, .int .i64 rt, .int .i64 ct, .slice ka kl.length kc, .slice ea el.length ec, .int .i64 nx, .string da] 54)
        have Y1 := box_below X1 hal
        have YL := box_below XL hal
        have YM : MapS (w3.alloc (.cells #[.int .i64 kd, .int .i64 tx, .int .i64 id, .int .i64 rt, .int .i64 ct, .slice ka kl.length kc, .slice ea el.length ec, .int .i64 nx, .string da] 54)) mb q D := World.ownsMap.alloc M3 _
        have YW : Below w.heap.size w (w3.alloc (.cells #[.int .i64 kd, .int .i64 tx, .int .i64 id, .int .i64 rt, .int .i64 ct, .slice ka kl.length kc, .slice ea el.length ec, .int .i64 nx, .string da] 54)) := BW.trans (hal.mono BW.size)
        have y3 : LB < (w3.alloc (.cells #[.int .i64 kd, .int .i64 tx, .int .i64 id, .int .i64 rt, .int .i64 ct, .slice ka kl.length kc, .slice ea el.length ec, .int .i64 nx, .string da] 54)).heap.size := by simp; omega
        have HLV : Hid (mStep (oldS S nm (k : Int)) k ⟨so, st, si, sr, sc⟩ = ⟨so, st, si, sr, sc⟩ → LB < (w3.alloc (.cells #[.int .i64 kd, .int .i64 tx, .int .i64 id, .int .i64 rt, .int .i64 ct, .slice ka kl.length kc, .slice ea el.length ec, .int .i64 nx, .string da] 54)).heap.size ∧ MapS (w3.alloc (.cells #[.int .i64 kd, .int .i64 tx, .int .i64 id, .int .i64 rt, .int .i64 ct, .slice ka kl.length kc, .slice ea el.length ec, .int .i64 nx, .string da] 54)) mb q D ∧ (w3.alloc (.cells #[.int .i64 kd, .int .i64 tx, .int .i64 id, .int .i64 rt, .int .i64 ct, .slice ka kl.length kc, .slice ea el.length ec, .int .i64 nx, .string da] 54)).heap[w.heap.size + 1]? = some (.cells #[.bool false, .int .i64 0, .int .i64 0, .int .i64 0, .int .i64 0] 30) ∧ (w3.alloc (.cells #[.int .i64 kd, .int .i64 tx, .int .i64 id, .int .i64 rt, .int .i64 ct, .slice ka kl.length kc, .slice ea el.length ec, .int .i64 nx, .string da] 54)).heap[LB]? = some (.cells (mIter (fun j => oldS S nm (j : Int)) (k + 1)).cells 30) ∧ Below w.heap.size w (w3.alloc (.cells #[.int .i64 kd, .int .i64 tx, .int .i64 id, .int .i64 rt, .int .i64 ct, .slice ka kl.length kc, .slice ea el.length ec, .int .i64 nx, .string da] 54))) := fun h => ⟨y3, YM, Y1, by rw [HS.out, h]; exact YL, YW⟩
        have HTK : Hid (mStep (oldS S nm (k : Int)) k ⟨so, st, si, sr, sc⟩ = ⟨true, tx, id, rt, ct⟩ → LB < ((put5C w3 LB (.bool true) (.int .i64 tx) (.int .i64 id) (.int .i64 rt) (.int .i64 ct)).alloc (.cells #[.int .i64 kd, .int .i64 tx, .int .i64 id, .int .i64 rt, .int .i64 ct, .slice ka kl.length kc, .slice ea el.length ec, .int .i64 nx, .string da] 54)).heap.size ∧ MapS ((put5C w3 LB (.bool true) (.int .i64 tx) (.int .i64 id) (.int .i64 rt) (.int .i64 ct)).alloc (.cells #[.int .i64 kd, .int .i64 tx, .int .i64 id, .int .i64 rt, .int .i64 ct, .slice ka kl.length kc, .slice ea el.length ec, .int .i64 nx, .string da] 54)) mb q D ∧ ((put5C w3 LB (.bool true) (.int .i64 tx) (.int .i64 id) (.int .i64 rt) (.int .i64 ct)).alloc (.cells #[.int .i64 kd, .int .i64 tx, .int .i64 id, .int .i64 rt, .int .i64 ct, .slice ka kl.length kc, .slice ea el.length ec, .int .i64 nx, .string da] 54)).heap[w.heap.size + 1]? = some (.cells #[.bool false, .int .i64 0, .int .i64 0, .int .i64 0, .int .i64 0] 30) ∧ ((put5C w3 LB (.bool true) (.int .i64 tx) (.int .i64 id) (.int .i64 rt) (.int .i64 ct)).alloc (.cells #[.int .i64 kd, .int .i64 tx, .int .i64 id, .int .i64 rt, .int .i64 ct, .slice ka kl.length kc, .slice ea el.length ec, .int .i64 nx, .string da] 54)).heap[LB]? = some (.cells (mIter (fun j => oldS S nm (j : Int)) (k + 1)).cells 30) ∧ Below w.heap.size w ((put5C w3 LB (.bool true) (.int .i64 tx) (.int .i64 id) (.int .i64 rt) (.int .i64 ct)).alloc (.cells #[.int .i64 kd, .int .i64 tx, .int .i64 id, .int .i64 rt, .int .i64 ct, .slice ka kl.length kc, .slice ea el.length ec, .int .i64 nx, .string da] 54))) := fun h => by
          have hf := put5C_fr w3 LB (.bool true) (.int .i64 tx) (.int .i64 id) (.int .i64 rt) (.int .i64 ct)
          have hal2 := (Below.refl _ (put5C w3 LB (.bool true) (.int .i64 tx) (.int .i64 id) (.int .i64 rt) (.int .i64 ct))).alloc (Nat.le_refl _) (.cells #[.int .i64 kd, .int .i64 tx, .int .i64 id, .int .i64 rt, .int .i64 ct, .slice ka kl.length kc, .slice ea el.length ec, .int .i64 nx, .string da] 54)
          have bz : Below w.heap.size w (put5C w3 LB (.bool true) (.int .i64 tx) (.int .i64 id) (.int .i64 rt) (.int .i64 ct)) := BW.trans (hf.below BW.size (fun g e => by omega))
          refine ⟨Nat.lt_of_lt_of_le lL (Nat.le_trans hf.size hal2.size), World.ownsMap.alloc (M3.to (hf.block mb (World.ownsMap.lt M3) (by omega))) _, box_below (box_fr X1 hf (by omega)) hal2, ?_, bz.trans (hal2.mono bz.size)⟩
          rw [HS.out, h]
          exact box_below (put5C_box XL _ _ _ _ _) hal2
        clear hal Y1 YL YM YW y3 M3 BW X1
        have LV : ¬ (kd = 1 ∧ tx % 2 = (k : Int) ∧ st < tx) → Hid (LB < (w3.alloc (.cells #[.int .i64 kd, .int .i64 tx, .int .i64 id, .int .i64 rt, .int .i64 ct, .slice ka kl.length kc, .slice ea el.length ec, .int .i64 nx, .string da] 54)).heap.size ∧ MapS (w3.alloc (.cells #[.int .i64 kd, .int .i64 tx, .int .i64 id, .int .i64 rt, .int .i64 ct, .slice ka kl.length kc, .slice ea el.length ec, .int .i64 nx, .string da] 54)) mb q D ∧ (w3.alloc (.cells #[.int .i64 kd, .int .i64 tx, .int .i64 id, .int .i64 rt, .int .i64 ct, .slice ka kl.length kc, .slice ea el.length ec, .int .i64 nx, .string da] 54)).heap[w.heap.size + 1]? = some (.cells #[.bool false, .int .i64 0, .int .i64 0, .int .i64 0, .int .i64 0] 30) ∧ (w3.alloc (.cells #[.int .i64 kd, .int .i64 tx, .int .i64 id, .int .i64 rt, .int .i64 ct, .slice ka kl.length kc, .slice ea el.length ec, .int .i64 nx, .string da] 54)).heap[LB]? = some (.cells (mIter (fun j => oldS S nm (j : Int)) (k + 1)).cells 30) ∧ Below w.heap.size w (w3.alloc (.cells #[.int .i64 kd, .int .i64 tx, .int .i64 id, .int .i64 rt, .int .i64 ct, .slice ka kl.length kc, .slice ea el.length ec, .int .i64 nx, .string da] 54))) := fun h => HLV.out (mStep_leave HD.out h)
        by_cases c1 : kd = 1
        · by_cases c2 : tx % 2 = (k : Int)
          · by_cases c3 : st < tx
            · have RR := HTK.out (mStep_take HD.out c1 c2 c3)
              have HRR : Hid _ := RR
              subst c1
              clear LV RR HD
              go_wp2_with fail
              go_roundw
              case rel => exact ⟨k + 1, by omega, by go_num, HRR⟩
              case measure => simp [intOf]; omega
            · have RR := LV (fun h => c3 h.2.2)
              subst c1
              clear LV HD HTK HLV
              go_wp2_with fail
              go_roundw
              case rel => exact ⟨k + 1, by omega, by go_num, RR⟩
              case measure => simp [intOf]; omega
          · have RR := LV (fun h => c2 h.2.1)
            subst c1
            clear LV HD HTK HLV
            go_wp2_with fail
            go_roundw
            case rel => exact ⟨k + 1, by omega, by go_num, RR⟩
            case measure => simp [intOf]; omega
        · have RR := LV (fun h => c1 h.1)
          clear LV HD HTK HLV
          go_wp2_with fail
          go_roundw
          case rel => exact ⟨k + 1, by omega, by go_num, RR⟩
          case measure => simp [intOf]; omega
      · have ek : k = 2 := by omega
        subst ek
        have XL := HX.out.2.2.2.1
        have X1 := HX.out.2.2.1
        have lL := HX.out.1
        have BW := HX.out.2.2.2.2
        rw [← HR3.out] at XL
        clear HX
        obtain ⟨ro, rx, ri, rr, rc⟩ := R
        simp only [MR.cells] at XL ⊢
        obtain ⟨o0, o1, o2, o3, o4⟩ := box_fiveC XL
        obtain ⟨z0, z1, z2, z3, z4⟩ := box_fiveC X1
        have hz := box_thawC X1
        have X5 := put5C_box X1 (.bool ro) (.int .i64 rx) (.int .i64 ri) (.int .i64 rr) (.int .i64 rc)
        have hf := put5C_fr wr (w.heap.size + 1) (.bool ro) (.int .i64 rx) (.int .i64 ri) (.int .i64 rr) (.int .i64 rc)
        have HB5 : Hid (Below w.heap.size w (put5C wr (w.heap.size + 1) (.bool ro) (.int .i64 rx) (.int .i64 ri) (.int .i64 rr) (.int .i64 rc))) := BW.trans (hf.below BW.size (fun g e => by omega))
        have l1 : w.heap.size + 1 < wr.heap.size := by omega
        clear hf BW
        go_wp2_with fail
        show bodyPost _ _ _ _ _ (put5C wr (w.heap.size + 1) (.bool ro) (.int .i64 rx) (.int .i64 ri) (.int .i64 rr) (.int .i64 rc))
        clear z0 z1 z2 z3 z4 hz
        obtain ⟨z0, z1, z2, z3, z4⟩ := box_fiveC X5
        exact bodyPost_ret (v := .agg #[.bool ro, .int .i64 rx, .int .i64 ri, .int .i64 rr, .int .i64 rc]) (by simp [results, Tryz.results7, go_sem, z0, z1, z2, z3, z4]) rfl ⟨rfl, HB5.out⟩
end Go.Proofs.YtjbifddhbcfdcaaGreat
