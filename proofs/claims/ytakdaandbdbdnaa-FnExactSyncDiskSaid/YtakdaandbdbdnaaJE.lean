import Derived.Test.YtakdaandbdbdnaaPlain
import Derived.Test.YtakdaandbdbdnaaKz
import Derived.Test.YtakdaandbdbdnaaSz
import Derived.Test.YtakdaandbdbdnaaLf
import Derived.Test.YtakdaandbdbdnaaWl
import Derived.Test.YtakdaandbdbdnaaWd
import Derived.Test.YtakdaandbdbdnaaWdS
import Derived.Test.YtakdaandbdbdnaaJF
import Derived.Test.YtakdaandbdbdnaaJB
import Derived.Test.YtakdaandbdbdnaaJD
namespace Go.Proofs.Ytakdaandbdbdnaa
open Go.RowKit Go.Maps
set_option linter.unusedVariables false
set_option maxRecDepth 100000

/-- What the program says to a step on a whole disk: 0 or 1. -/
def rsI (fs : List PF) (ps : List PP) (cp fu : Int) (de : Bool) : Int := if de = false ∧ implV fs ps cp fu = true then 0 else 1
set_option maxHeartbeats 800000 in
theorem refuseStep_any (a : Option Addr) (n c : Nat) (fs : List PF) (b : Option Addr) (m d : Nat) (ps : List PP) (cp fu : Int) (de : Bool) (w : World) (A B : Nat) (hB : B ≤ w.heap.size) (hF : FilesAt w A B a n c fs) (hP : PendsAt w A B b m d ps)
    (hall : ∀ j, j < n → (fs.getD j (ByteArray.empty, [])).2.length ≤ 1048576) :
    Calls Try.prog 53 #[.agg #[.slice a n c, .slice b m d, .int .i64 cp, .int .i64 fu, .bool de]] w fun e w' => e = .returned (.int .i64 (rsI fs ps cp fu de)) ∧ Below w.heap.size w w' := by
  have hb0 : Below w.heap.size w (w.alloc (.cells #[.slice a n c, .slice b m d, .int .i64 cp, .int .i64 fu, .bool de] 26)) := (Below.refl _ _).alloc (Nat.le_refl _) _
  have hcall := implValid_any a n c fs b m d ps cp fu de _ A B (by simp; omega) (hF.below (hb0.mono hB)) (hP.below (hb0.mono hB)) hall
  clear hF hP hall
  cases de with
  | true =>
    have HR : Hid (rsI fs ps cp fu true = 1) := by show _ = _; unfold rsI; rw [if_neg (by simp)]
    clear hcall
    go_enter Try.func53, Try.ntmps53
    go_wp2_with fail
    go_ret
    exact ⟨ret_int HR.out.symm, hb0⟩
  | false =>
    cases hv : implV fs ps cp fu with
    | true =>
      have HR : Hid (rsI fs ps cp fu false = 0) := by show _ = _; unfold rsI; rw [if_pos ⟨rfl, hv⟩]
      rw [hv] at hcall
      clear hv
      go_enter Try.func53, Try.ntmps53
      go_wp2_with fail
      refine hcall.mono ?_
      rintro e w1 ⟨rfl, hb1⟩
      go_wp2_with fail
      go_ret
      exact ⟨ret_int HR.out.symm, hb0.trans (hb1.mono (by simp))⟩
    | false =>
      have HR : Hid (rsI fs ps cp fu false = 1) := by show _ = _; unfold rsI; rw [if_neg (by simp [hv])]
      rw [hv] at hcall
      clear hv
      go_enter Try.func53, Try.ntmps53
      go_wp2_with fail
      refine hcall.mono ?_
      rintro e w1 ⟨rfl, hb1⟩
      go_wp2_with fail
      go_ret
      exact ⟨ret_int HR.out.symm, hb0.trans (hb1.mono (by simp))⟩
end Go.Proofs.Ytakdaandbdbdnaa
namespace Go.Proofs.Ytakdaandbdbdnaa
open Go.RowKit Go.Maps
set_option linter.unusedVariables false
set_option maxRecDepth 100000

set_option maxHeartbeats 3200000 in
theorem syncChange (fs : List PF) (ps : List PP) (cp : Int) (de : Bool) (w : World) (hn : fs.length ≤ 12) (hm : ps.length ≤ 1000) (hcp : cp ≤ 1000) (htot : totalI fs ≤ cp) (hca : cacheS cp ps fs = true) (hok : filesOk fs = true) :
    ChangeOk 54 #[] w fs (lastF ps fs) ps [] cp de := by
  intro W O fu a1 c1 b1 d1 xs vs ys us hbel hO XO own hlt
  have hOl := (Array.getElem?_eq_some_iff.1 XO).1
  have hWs := hbel.size
  obtain ⟨a', n', c', e1, _, hF⟩ := own.files.files
  cases e1
  obtain ⟨b', m', d', e2, _, hP⟩ := own.cache.pends
  cases e2
  have HI : Hid (Inv fs) := inv_all hok
  have HS : Hid (SortedN (lastF ps fs)) := last_sorted ps fs (sortedN_of_ok (of_decide_eq_true hok))
  have HFIT : Hid ((lastF ps fs).length ≤ 12 ∧ totalI (lastF ps fs) ≤ cp) := last_fits ps fs hn htot hca
  have HNM : Hid (∀ f ∈ lastF ps fs, f.1.size ≤ maxLen) := last_names ps fs (fun f hf => by
    obtain ⟨i, hi, rfl⟩ := List.getElem_of_mem hf
    have := (own.files.name i hi).2
    simpa [List.getD, List.getElem?_eq_getElem hi] using this) hca
  have HSM : Hid (∀ f ∈ lastF ps fs, f.2.length ≤ 1048576) := fun f hf => by
    obtain ⟨i, hi, rfl⟩ := List.getElem_of_mem hf
    have := small_of_total (fs := lastF ps fs) (by have := HFIT.out.2; omega) i hi
    simp only [List.getD, List.getElem?_eq_getElem hi, Option.getD_some] at this
    omega
  obtain ⟨o0, o1, o2, o3, o4⟩ := box_fiveC XO
  show Calls Try.prog 54 #[.pointer (some ⟨O, 0, none⟩)] W _
  go_enter Try.func54, Try.ntmps54
  go_wp2_with fail
  refine (see_any a1 fs.length c1 fs b1 ps.length d1 ps cp fu de W (w.heap.size + 2) W.heap.size (Nat.le_refl _) hF hP hn hm hcp htot hca HI.out).mono ?_
  rintro e w2 ⟨mb, q, D, rfl, hmb, hM, hq, hR, hBF, hI2, hb2⟩
  have hs2 := hb2.size
  clear o0 o1 o2 o3 o4
  go_wp2_with fail
  refine (files_any mb q D (lastF ps fs) w2 hM hR HS.out hI2 hBF HFIT.out.1 HNM.out HSM.out (Nat.le_trans (World.ownsMap.size_le hM) (by omega))).mono ?_
  rintro e w3 ⟨v, xs3, vs3, rfl, O3, hb3⟩
  obtain ⟨av, nv, cv, rfl, hnv, _⟩ := O3.files
  have hs3 := hb3.size
  have XO3 := (hb3.block O (by omega)).trans ((hb2.block O hOl).trans XO)
  obtain ⟨o0, o1, o2, o3, o4⟩ := box_fiveC XO3
  have fo := box_thawC XO3
  have XO4 := heap_setCell_at XO3 0 (.slice av nv cv)
  have fo4 := box_thawC XO4
  clear hM hR hBF hI2
  subst hnv
  have XO5 := heap_setCell_at XO4 1 (.slice none 0 0)
  have hset : Fr (fun g => g = O) w3 ((w3.setCell ⟨O, 0, none⟩ (.slice av (lastF ps fs).length cv)).setCell ⟨O, 1, none⟩ (.slice none 0 0)) := (fr_setCell w3 O 0 _).trans (fr_setCell _ O 1 _)
  have hF6 : OwnF ((w3.setCell ⟨O, 0, none⟩ (.slice av (lastF ps fs).length cv)).setCell ⟨O, 1, none⟩ (.slice none 0 0)) (w.heap.size + 2) (.slice av (lastF ps fs).length cv) (lastF ps fs) xs3 vs3 := (O3.fr hset (fun g hg e => by have := (O3.blk hg).1; omega)).lower (by omega)
  have hD6 : OwnD ((w3.setCell ⟨O, 0, none⟩ (.slice av (lastF ps fs).length cv)).setCell ⟨O, 1, none⟩ (.slice none 0 0)) (w.heap.size + 2) (.slice av (lastF ps fs).length cv) (.slice none 0 0) (lastF ps fs) [] xs3 vs3 [] [] := ⟨hF6, OwnP.nil (World.ownsRow_nil _ _ _ _), fun g _ hb => by
    rcases hb with e | ⟨j, hj, _⟩
    · simp [Value.ownBlock] at e
    · simp at hj⟩
  have hFr : Fr (fun g => g = O ∨ (Blk (.slice a1 fs.length c1) vs g ∨ Blk (.slice b1 ps.length d1) us g)) W ((w3.setCell ⟨O, 0, none⟩ (.slice av (lastF ps fs).length cv)).setCell ⟨O, 1, none⟩ (.slice none 0 0)) := ((Fr.of_below hb2).trans (Fr.of_below hb3)).trans (hset.weak (fun g e => .inl e))
  clear hF6 hset O3 hF hP
  go_wp2
  exact bodyPost_end (v := .tuple #[]) (by simp [results, Try.results54, go_sem]) rfl ⟨rfl, lastF ps fs, [], av, cv, none, 0, xs3, vs3, [], [], ⟨rfl, rfl⟩, XO5, hD6, hFr⟩
end Go.Proofs.Ytakdaandbdbdnaa
namespace Go.Proofs.Ytakdaandbdbdnaa
open Go.RowKit
set_option linter.unusedVariables false
set_option maxRecDepth 100000
theorem two_allocs {w : World} {x0 x1 : Obj} {W0 : World} (h : W0 = (w.alloc x0).alloc x1) : W0.heap.size = w.heap.size + 2 ∧ Below w.heap.size w W0 ∧ W0.heap[w.heap.size]? = some x0 ∧ W0.heap[w.heap.size + 1]? = some x1 := by
  subst h
  have z : ∀ (X : World) (x : Obj), (X.alloc x).heap.size = X.heap.size + 1 := fun X x => by simp
  refine ⟨by simp, ((Below.refl _ _).alloc (Nat.le_refl _) _).alloc (by simp only [z]; omega) _, ?_, ?_⟩
  · rw [heap_alloc_old _ _ (by simp only [z]; omega)]; exact heap_alloc_new _ _
  · have := heap_alloc_new (w.alloc x0) x1; rwa [z] at this
theorem sync_ok {fs : List PF} {ps : List PP} {cp fu : Int} {de : Bool} (h : rsI fs ps cp fu de = 0) (w : World) : ChangeOk 54 #[] w fs (lastF ps fs) ps [] cp de := by
  unfold rsI at h
  split at h
  · rename_i hc
    obtain ⟨q1, q2, q3, q4, q5⟩ := specV_parts (by rw [valid_eq]; exact hc.2)
    have hpm : ps.length ≤ 1000 := by
      have h2 := hc.2
      simp only [implV, Bool.and_eq_true, decide_eq_true_eq] at h2
      exact h2.1.2
    exact syncChange fs ps cp de w q1 hpm q2 q3 q4 q5
  · cases h
set_option maxHeartbeats 1600000 in
theorem implSync_any (a : Option Addr) (n c : Nat) (fs : List PF) (b : Option Addr) (m d : Nat) (ps : List PP) (cp fu : Int) (de : Bool) (w : World) (A B : Nat) (hB : B ≤ w.heap.size) (hF : FilesAt w A B a n c fs) (hP : PendsAt w A B b m d ps) (hfu : -9223372036854775808 ≤ fu ∧ fu ≤ 9223372036854775807)
    (hn : n ≤ 1048576) (hm : m ≤ 1048576) (hall : ∀ j, j < n → (fs.getD j (ByteArray.empty, [])).2.length ≤ 1048576) (hall2 : ∀ j, j < m → (ps.getD j (ByteArray.empty, 0, [])).2.2.length ≤ 1048576) :
    Calls Try.prog 10 #[.agg #[.slice a n c, .slice b m d, .int .i64 cp, .int .i64 fu, .bool de]] w fun e w' => ResAt w e w' (dsE (rsI fs ps cp fu de) fu) (dsX (rsI fs ps cp fu de) fu fs (lastF ps fs)) (dsX (rsI fs ps cp fu de) fu ps []) cp (dsF (rsI fs ps cp fu de) fu) (dsD (rsI fs ps cp fu de) fu de) := by
  have HF : Hid (∀ W, Below w.heap.size w W → FilesAt W A B a n c fs) := fun W hW => hF.below (hW.mono hB)
  have HP : Hid (∀ W, Below w.heap.size w W → PendsAt W A B b m d ps) := fun W hW => hP.below (hW.mono hB)
  have HA : Hid (∀ j, j < n → (fs.getD j (ByteArray.empty, [])).2.length ≤ 1048576) := hall
  have HA2 : Hid (∀ j, j < m → (ps.getD j (ByteArray.empty, 0, [])).2.2.length ≤ 1048576) := hall2
  have HFL : Hid (fs.length = n) := hF.1
  clear hF hP hall hall2
  go_enter Try.func10, Try.ntmps10
  go_wp2_with fail
  obtain ⟨W0, hW0⟩ : ∃ W0, W0 = ((w.alloc (.cells #[.slice a n c, .slice b m d, .int .i64 cp, .int .i64 fu, .bool de] 26)).alloc (.cells #[.int .i64 0, .slice none 0 0, .slice none 0 0, .int .i64 0, .int .i64 0, .bool false] 30)) := ⟨_, rfl⟩
  obtain ⟨hs0, hb0, k0, k2⟩ := two_allocs hW0
  rw [← hW0]
  clear hW0
  have HK2 : Hid (W0.heap[w.heap.size + 1]? = some (.cells #[.int .i64 0, .slice none 0 0, .slice none 0 0, .int .i64 0, .int .i64 0, .bool false] 30)) := k2
  have S0 : (W0.cell? ⟨w.heap.size, 0, none⟩ = some (.slice a n c) ∧ W0.cell? ⟨w.heap.size, 1, none⟩ = some (.slice b m d) ∧ W0.cell? ⟨w.heap.size, 2, none⟩ = some (.int .i64 cp) ∧ W0.cell? ⟨w.heap.size, 3, none⟩ = some (.int .i64 fu) ∧ W0.cell? ⟨w.heap.size, 4, none⟩ = some (.bool de)) := by simp [World.cell?, k0]
  have HSF : Hid (∀ (X Y : World) {F : Nat → Prop}, ((X.cell? ⟨w.heap.size, 0, none⟩ = some (.slice a n c) ∧ X.cell? ⟨w.heap.size, 1, none⟩ = some (.slice b m d) ∧ X.cell? ⟨w.heap.size, 2, none⟩ = some (.int .i64 cp) ∧ X.cell? ⟨w.heap.size, 3, none⟩ = some (.int .i64 fu) ∧ X.cell? ⟨w.heap.size, 4, none⟩ = some (.bool de))) → Fr F X Y → (∀ g, F g → w.heap.size + 1 ≤ g) → (Y.cell? ⟨w.heap.size, 0, none⟩ = some (.slice a n c) ∧ Y.cell? ⟨w.heap.size, 1, none⟩ = some (.slice b m d) ∧ Y.cell? ⟨w.heap.size, 2, none⟩ = some (.int .i64 cp) ∧ Y.cell? ⟨w.heap.size, 3, none⟩ = some (.int .i64 fu) ∧ Y.cell? ⟨w.heap.size, 4, none⟩ = some (.bool de))) := fun X Y F hX hF hB => by
    have q : ∀ (N o : Nat) (v : Value), N < w.heap.size + 1 → X.cell? ⟨N, o, none⟩ = some v → Y.cell? ⟨N, o, none⟩ = some v := fun N o v hN hv => (World.cell?_of_block (hF.block N (World.block_lt_of_cell? X ⟨N, o, none⟩ hv) (fun e => by have := hB N e; omega))).trans hv
    obtain ⟨e0, e1, e2, e3, e4⟩ := hX
    exact ⟨q _ _ _ (by omega) e0, q _ _ _ (by omega) e1, q _ _ _ (by omega) e2, q _ _ _ (by omega) e3, q _ _ _ (by omega) e4⟩
  have HSS : Hid (∀ X, Below W0.heap.size W0 X → (X.cell? ⟨w.heap.size, 0, none⟩ = some (.slice a n c) ∧ X.cell? ⟨w.heap.size, 1, none⟩ = some (.slice b m d) ∧ X.cell? ⟨w.heap.size, 2, none⟩ = some (.int .i64 cp) ∧ X.cell? ⟨w.heap.size, 3, none⟩ = some (.int .i64 fu) ∧ X.cell? ⟨w.heap.size, 4, none⟩ = some (.bool de))) := fun X hX => HSF.out W0 X S0 (Fr.of_below hX (S := fun _ => False)) (fun g e => e.elim)
  clear k0 k2
  refine wp_region_noPanic ?_
  refine wp_region_held_drew (S := (fun w' => (w'.cell? ⟨w.heap.size, 0, none⟩ = some (.slice a n c) ∧ w'.cell? ⟨w.heap.size, 1, none⟩ = some (.slice b m d) ∧ w'.cell? ⟨w.heap.size, 2, none⟩ = some (.int .i64 cp) ∧ w'.cell? ⟨w.heap.size, 3, none⟩ = some (.int .i64 fu) ∧ w'.cell? ⟨w.heap.size, 4, none⟩ = some (.bool de)))) (by kernel_rfl) ?_ (fun hHeld => ?_)
  · exact S0
  refine wpAnyH_take (i := 0) (oi := { dst := some 3, op := Op.load 26 (Operand.tmp 1), type := 26, pos := "l1_disk.go:111", after := #[], guard := none }) (v := ?_) rfl (by kernel_rfl) (by kernel_rfl) (by kernel_rfl) (fun _ _ _ h => h) (Or.inl ⟨by rfl, ?_⟩) (by assumption) ?_
  rotate_left 1
  · intro w hSw; (try dsimp only at hSw); go_simp; try (with_reducible rfl)
  try simp only [Act.put, List.setIfInBounds_toArray, List.set_cons_zero, List.set_cons_succ]
  refine wpAnyH_take (i := 1) (oi := { dst := some 4, op := Op.load 26 (Operand.tmp 1), type := 26, pos := "l1_disk.go:111", after := #[], guard := none }) (v := ?_) rfl (by kernel_rfl) (by kernel_rfl) (by kernel_rfl) (fun _ _ _ h => h) (Or.inl ⟨by rfl, ?_⟩) (by assumption) ?_
  rotate_left 1
  · intro w hSw; (try dsimp only at hSw); go_simp; try (with_reducible rfl)
  try simp only [Act.put, List.setIfInBounds_toArray, List.set_cons_zero, List.set_cons_succ]
  refine wpAnyH_ready (rs := [2]) (by kernel_rfl) (by simp) ?_
  refine AllReadyH.cons (o := { dst := some 5, op := Op.call { callee := Callee.value (Operand.func 53), args := #[Operand.tmp 4], argTypes := #[26] }, type := 2, pos := "l1_disk.go:111", after := #[{ on := 1, ground := Ground.data }], guard := none }) rfl (fun K hK => ?_) ?_
  rotate_left 1
  exact AllReadyH.nil
  · go_simp
    refine (refuseStep_any a n c fs b m d ps cp fu de W0.drew A B (by show B ≤ W0.heap.size; omega) (HF.out _ hb0.drew) (HP.out _ hb0.drew) HA.out).mono ?_
    rintro e w1 ⟨rfl, hb1x⟩
    have hb1 : Below W0.heap.size W0 w1 := ((Below.refl _ W0).drew).trans hb1x
    have hs1 := hb1.size
    have bel1 : Below w.heap.size w w1 := hb0.trans (hb1.mono (by omega))
    have S1 := HSS.out w1 hb1
    have kR := (hb1.block _ (by omega)).trans HK2.out
    obtain ⟨rf, hrf⟩ : ∃ rf, rf = rsI fs ps cp fu de := ⟨_, rfl⟩
    rw [← hrf]
    have HRF : Hid (rf = rsI fs ps cp fu de) := hrf
    clear hrf hb1x
    go_wp2_with fail
    refine hK.out _ _ S1 (fun hHeld => ?_)
    clear hK K
    try simp only [Act.put, List.setIfInBounds_toArray, List.set_cons_zero, List.set_cons_succ]
    refine wpAnyH_ready (rs := [3]) (by kernel_rfl) (by simp) ?_
    refine AllReadyH.cons (o := { dst := some 6, op := Op.call { callee := Callee.value (Operand.func 36), args := #[Operand.tmp 3, Operand.tmp 5, Operand.func 54], argTypes := #[26, 2, 72] }, type := 30, pos := "l1_disk.go:111", after := #[{ on := 0, ground := Ground.data }, { on := 2, ground := Ground.data }, { on := 2, ground := Ground.chain }], guard := none }) rfl (fun K hK => ?_) ?_
    rotate_left 1
    exact AllReadyH.nil
    · go_simp
      refine (deviceStepS_any a n c fs (lastF ps fs) b m d ps [] cp fu de rf w1 A B (by omega) (HF.out _ bel1) (HP.out _ bel1) hn hm HA.out HA2.out hfu (fun h => sync_ok (HRF.out.symm.trans h) w1)).mono ?_
      rintro e w2 hres
      obtain ⟨a2, c2, b2, d2, xs, vs, ys, us, rfl, hO2, hb2⟩ := hres.out
      have hs2 := hb2.size
      have S2 := HSS.out w2 (hb1.trans (hb2.mono hs1))
      have kR2 := (hb2.block _ (by omega)).trans kR
      have HR : Hid (ResAt w (.returned (.agg #[.int .i64 (dsE rf fu), .slice a2 (dsX rf fu fs (lastF ps fs)).length c2, .slice b2 (dsX rf fu ps []).length d2, .int .i64 cp, .int .i64 (dsF rf fu), .bool (dsD rf fu de)])) (put6R w2 (w.heap.size + 1) (.int .i64 (dsE rf fu)) (.slice a2 (dsX rf fu fs (lastF ps fs)).length c2) (.slice b2 (dsX rf fu ps []).length d2) (.int .i64 cp) (.int .i64 (dsF rf fu)) (.bool (dsD rf fu de))) (dsE rf fu) (dsX rf fu fs (lastF ps fs)) (dsX rf fu ps []) cp (dsF rf fu) (dsD rf fu de)) := ResAt.mk6 (by omega) (base := w1.heap.size) hO2 (by omega) (by omega) (bel1.trans (hb2.mono bel1.size))
      clear hres hO2
      go_wp2_with fail
      refine hK.out _ _ S2 (fun hHeld => ?_)
      clear hK K
      try simp only [Act.put, List.setIfInBounds_toArray, List.set_cons_zero, List.set_cons_succ]
      refine wpAnyH_ready (rs := [4]) (by kernel_rfl) (by simp) ?_
      refine AllReadyH.cons (o := { dst := none, op := Op.store 30 (Operand.tmp 2) (Operand.tmp 6), type := 0, pos := "l1_disk.go:111", after := #[{ on := 3, ground := Ground.data }, { on := 3, ground := Ground.chain }, { on := 0, ground := Ground.phase }, { on := 1, ground := Ground.phase }, { on := 2, ground := Ground.phase }, { on := 3, ground := Ground.phase }], guard := none }) rfl (fun K hK => ?_) ?_
      rotate_left 1
      exact AllReadyH.nil
      · obtain ⟨r0, r1, r2, r3, r4, r5⟩ := box_sixR kR2
        have ff := box_thawC kR2
        have HB := put6R_box kR2 (.int .i64 (dsE rf fu)) (.slice a2 (dsX rf fu fs (lastF ps fs)).length c2) (.slice b2 (dsX rf fu ps []).length d2) (.int .i64 cp) (.int .i64 (dsF rf fu)) (.bool (dsD rf fu de))
        have S3 : ((put6R w2 (w.heap.size + 1) (.int .i64 (dsE rf fu)) (.slice a2 (dsX rf fu fs (lastF ps fs)).length c2) (.slice b2 (dsX rf fu ps []).length d2) (.int .i64 cp) (.int .i64 (dsF rf fu)) (.bool (dsD rf fu de))).cell? ⟨w.heap.size, 0, none⟩ = some (.slice a n c) ∧ (put6R w2 (w.heap.size + 1) (.int .i64 (dsE rf fu)) (.slice a2 (dsX rf fu fs (lastF ps fs)).length c2) (.slice b2 (dsX rf fu ps []).length d2) (.int .i64 cp) (.int .i64 (dsF rf fu)) (.bool (dsD rf fu de))).cell? ⟨w.heap.size, 1, none⟩ = some (.slice b m d) ∧ (put6R w2 (w.heap.size + 1) (.int .i64 (dsE rf fu)) (.slice a2 (dsX rf fu fs (lastF ps fs)).length c2) (.slice b2 (dsX rf fu ps []).length d2) (.int .i64 cp) (.int .i64 (dsF rf fu)) (.bool (dsD rf fu de))).cell? ⟨w.heap.size, 2, none⟩ = some (.int .i64 cp) ∧ (put6R w2 (w.heap.size + 1) (.int .i64 (dsE rf fu)) (.slice a2 (dsX rf fu fs (lastF ps fs)).length c2) (.slice b2 (dsX rf fu ps []).length d2) (.int .i64 cp) (.int .i64 (dsF rf fu)) (.bool (dsD rf fu de))).cell? ⟨w.heap.size, 3, none⟩ = some (.int .i64 fu) ∧ (put6R w2 (w.heap.size + 1) (.int .i64 (dsE rf fu)) (.slice a2 (dsX rf fu fs (lastF ps fs)).length c2) (.slice b2 (dsX rf fu ps []).length d2) (.int .i64 cp) (.int .i64 (dsF rf fu)) (.bool (dsD rf fu de))).cell? ⟨w.heap.size, 4, none⟩ = some (.bool de)) := HSF.out _ _ S2 (put6R_fr _ _ _ _ _ _ _ _) (fun g e => by omega)
        go_simp
        clear r0 r1 r2 r3 r4 r5
        refine hK.out _ _ S3 (fun hHeld => ?_)
        clear hK K
        try simp only [Act.put, List.setIfInBounds_toArray, List.set_cons_zero, List.set_cons_succ]
        refine wpAnyH_done (by kernel_rfl) ?_ _
        refine NoPanic.normal ?_
        go_wp2
        show bodyPost _ _ _ _ _ (put6R w2 (w.heap.size + 1) (.int .i64 (dsE rf fu)) (.slice a2 (dsX rf fu fs (lastF ps fs)).length c2) (.slice b2 (dsX rf fu ps []).length d2) (.int .i64 cp) (.int .i64 (dsF rf fu)) (.bool (dsD rf fu de)))
        obtain ⟨r0, r1, r2, r3, r4, r5⟩ := box_sixR HB
        exact bodyPost_ret (v := .agg #[.int .i64 (dsE rf fu), .slice a2 (dsX rf fu fs (lastF ps fs)).length c2, .slice b2 (dsX rf fu ps []).length d2, .int .i64 cp, .int .i64 (dsF rf fu), .bool (dsD rf fu de)]) (by simp [results, Try.results10, go_sem, r0, r1, r2, r3, r4, r5]) rfl (by rw [← HRF.out]; exact HR.out)
end Go.Proofs.Ytakdaandbdbdnaa
namespace Go.Proofs.Ytakdaandbdbdnaa
open Go.RowKit Go.Maps
set_option linter.unusedVariables false
set_option maxRecDepth 100000

/-- A map's bound may be its size. -/
theorem MapAt.tight {w : World} {mb k : Nat} {D : DataW Unit} (h : MapAt w mb k D) : MapAt w mb (Maps.size D) D := by
  obtain ⟨es, clock, hb, F, _, rfl⟩ := h
  exact ⟨es, clock, hb, F, by simp [Maps.size, length_sorted], rfl⟩

/-- What the program says to a write: 0, 1 or 2. -/
def rwI (fs : List PF) (ps : List PP) (cp fu : Int) (de : Bool) (nm : ByteArray) (pg : Int) (bs : List Int) : Int :=
  if implV fs ps cp fu = true ∧ de = false ∧ nameB nm = true ∧ bs.length = 128 then
    (if pg < 0 ∨ lenI (lastF ps fs) nm < pg then 1 else if ps.length = 1000 ∨ 12 < (doP (lastF ps fs) nm pg.toNat bs).length ∨ cp < totalI (doP (lastF ps fs) nm pg.toNat bs) then 2 else 0)
  else 1
theorem inv_lastW : ∀ (ps : List PP) (fs : List PF), Inv fs → Inv (lastF ps fs)
  | [], _, h => h
  | p :: r, fs, h => by
    simp only [lastF]
    exact inv_lastW r _ (doP_inv h)
theorem boxW5 {wr : World} {N : Nat} {v0 v1 v2 v3 v4 : Value} {t : TypeId} (h : wr.heap[N]? = some (.cells #[v0, v1, v2, v3, v4] t)) : wr.cell? ⟨N, 0, none⟩ = some v0 ∧ wr.cell? ⟨N, 1, none⟩ = some v1 ∧ wr.cell? ⟨N, 2, none⟩ = some v2 ∧ wr.cell? ⟨N, 3, none⟩ = some v3 ∧ wr.cell? ⟨N, 4, none⟩ = some v4 := by
  refine ⟨?_, ?_, ?_, ?_, ?_⟩
  · rw [cell_of_row wr N 0 _ _ _ h]; rfl
  · rw [cell_of_row wr N 1 _ _ _ h]; rfl
  · rw [cell_of_row wr N 2 _ _ _ h]; rfl
  · rw [cell_of_row wr N 3 _ _ _ h]; rfl
  · rw [cell_of_row wr N 4 _ _ _ h]; rfl
theorem cacheI_lastW {cp : Int} : ∀ (ps : List PP) (fs : List PF), cacheI cp ps fs = true → fitsB cp (lastF ps fs) = true
  | [], fs, h => by simpa [cacheI, lastF] using h
  | p :: r, fs, h => by
    simp only [cacheI, Bool.and_eq_true] at h
    simp only [lastF]
    exact cacheI_lastW r _ h.2
/-- Where the disk is good, what is seen fits. -/
theorem specV_partsW {fs : List PF} {ps : List PP} {cp fu : Int} (h : true = implV fs ps cp fu) : cp ≤ 1000 ∧ (lastF ps fs).length ≤ 12 ∧ totalI (lastF ps fs) ≤ cp := by
  simp only [implV, Bool.true_eq, Bool.and_eq_true, decide_eq_true_eq] at h
  have h2 := cacheI_lastW ps fs h.2
  simp only [fitsB, Bool.and_eq_true, decide_eq_true_eq] at h2
  exact ⟨h.1.1.1.1.2.1, h2.1, h2.2⟩
theorem retW {x y : Int} (h : x = y) : (Ending.returned (.int .i64 x)) = .returned (.int .i64 y) := by rw [h]
set_option maxHeartbeats 1600000 in
theorem refuseWrite_any (a : Option Addr) (n c : Nat) (fs : List PF) (b : Option Addr) (m d : Nat) (ps : List PP) (cp fu : Int) (de : Bool) (nm : ByteArray) (pg : Int) (pa : Option Addr) (pn pc : Nat) (bs : List Int) (w : World) (A B : Nat) (hB : B ≤ w.heap.size) (hF : FilesAt w A B a n c fs) (hP : PendsAt w A B b m d ps) (hs : nm.size ≤ maxLen) (hbl : bs.length = pn)
    (hall : ∀ j, j < n → (fs.getD j (ByteArray.empty, [])).2.length ≤ 1048576) :
    Calls Try.prog 37 #[.agg #[.slice a n c, .slice b m d, .int .i64 cp, .int .i64 fu, .bool de], .string nm, .int .i64 pg, .slice pa pn pc] w fun e w' => e = .returned (.int .i64 (rwI fs ps cp fu de nm pg bs)) ∧ Below w.heap.size w w' := by
  have hb0 : Below w.heap.size w (w.alloc (.cells #[.slice a n c, .slice b m d, .int .i64 cp, .int .i64 fu, .bool de] 26)) := (Below.refl _ _).alloc (Nat.le_refl _) _
  have hml : ps.length = m := hP.1
  have HBL : Hid (bs.length = pn) := hbl
  clear hbl
  go_enter Try.func37, Try.ntmps37
  go_wp2_with fail
  refine (countSeen_any _ _ _ fs _ _ _ ps _ _ _ _ A B (by simp; omega) (hF.below (hb0.mono hB)) (hP.below (hb0.mono hB)) hall).mono ?_
  rintro e w1 ⟨r, t, ok, rfl, hok, hb1, hyes⟩
  have hg1 := hb0.trans (hb1.mono (by simp))
  have hz1 : w.heap.size + 1 ≤ w1.heap.size := by simpa using hb1.size
  have hbx1 : Hid (w1.heap[w.heap.size]? = some (.cells #[.slice a n c, .slice b m d, .int .i64 cp, .int .i64 fu, .bool de] 26)) := (hb1.block _ (by simp)).trans (heap_alloc_new w _)
  have HOK : Hid (ok = implV fs ps cp fu) := hok
  have HY : Hid (ok = true → t = totalI (lastF ps fs) ∧ ∃ mb k D, r = some mb ∧ (w.alloc (.cells #[.slice a n c, .slice b m d, .int .i64 cp, .int .i64 fu, .bool de] 26)).heap.size ≤ mb ∧ MapAt w1 mb k D ∧ Rep D (lastF ps fs)) := hyes
  have HML : Hid (ps.length = m) := hml
  clear hok hyes hml
  have k0 := (Below.heap_alloc w1 (.cells #[.map r, .int .i64 t] 113) w.heap.size hz1).trans hbx1.out
  obtain ⟨x0, x1, x2, x3, x4⟩ := boxW5 k0
  have hg2 := hg1.alloc (o := .cells #[.map r, .int .i64 t] 113) (by omega)
  cases ok with
  | false =>
    have HR : Hid (rwI fs ps cp fu de nm pg bs = 1) := by show _ = _; unfold rwI; rw [← HOK.out]; simp
    clear k0 HOK HY
    go_wp2_with fail
    go_ret
    exact ⟨retW HR.out.symm, hg2⟩
  | true =>
    obtain ⟨ht, mb, k, D, rfl, hmb, hM0, hR⟩ := HY.out rfl
    have HT : Hid (t = totalI (lastF ps fs)) := ht
    clear ht
    have hM1 := hM0.tight
    rw [hR.size_] at hM1
    clear hM0
    have hmz : w.heap.size + 1 ≤ mb := by simpa using hmb
    clear hmb
    have hI : Inv (lastF ps fs) := by
      refine inv_lastW _ _ (inv_all ?_)
      have h2 := HOK.out
      simp only [implV, Bool.true_eq, Bool.and_eq_true] at h2
      exact h2.1.1.2
    have hl0 := lenI_le_total (lastF ps fs) nm
    have htb := totalI_bd (lastF ps fs)
    have hM := hM1.keep (Below.heap_alloc w1 (.cells #[.map (some mb), .int .i64 t] 113) _ hM1.lt)
    have hmlt := hM1.lt
    have hlk := look_at hM hR hs 0
    have hlk' : (Instr.lookup 111 (.map (some mb)) (.string nm) false).run Try.prog (w1.alloc (.cells #[.map (some mb), .int .i64 t] 113)) = .ok (.int .i64 (lenI (lastF ps fs) nm)) (w1.alloc (.cells #[.map (some mb), .int .i64 t] 113)) := hlk
    have KC : Hid ((w1.alloc (.cells #[.map (some mb), .int .i64 t] 113)).heap[w1.heap.size]? = some (.cells #[.map (some mb), .int .i64 t] 113)) := heap_alloc_new w1 _
    have HK0 : Hid ((w1.alloc (.cells #[.map (some mb), .int .i64 t] 113)).heap[w.heap.size]? = some (.cells #[.slice a n c, .slice b m d, .int .i64 cp, .int .i64 fu, .bool de] 26)) := k0
    clear HY hlk k0
    by_cases t0 : de = false ∧ nameB nm = true ∧ pn = 128
    · obtain ⟨rfl, tn, rfl⟩ := t0
      have HN : Hid (nameB nm = true) := tn
      have hwS := (specV_partsW (HOK.out))
      by_cases t1 : pg < 0
      · have HR : Hid (rwI fs ps cp fu false nm pg bs = 1) := by show _ = _; unfold rwI; rw [if_pos ⟨HOK.out.symm, rfl, tn, HBL.out⟩, if_pos (.inl t1)]
        have s1 : decide (pg < 0) = true := by simp; omega
        clear tn hlk' hM hM1 hR hI t1
        go_wp2_with fail
        refine (isName_any _ _ hs).mono ?_
        rintro e w2 ⟨rfl, rfl⟩
        rw [HN.out]
        go_wp2_with fail
        go_ret
        exact ⟨retW HR.out.symm, hg2⟩
      · have s1 : decide (pg < 0) = false := by simp; omega
        by_cases t2 : lenI (lastF ps fs) nm < pg
        · have HR : Hid (rwI fs ps cp fu false nm pg bs = 1) := by show _ = _; unfold rwI; rw [if_pos ⟨HOK.out.symm, rfl, tn, HBL.out⟩, if_pos (.inr t2)]
          have s2 : decide (lenI (lastF ps fs) nm < pg) = true := by simp; omega
          clear tn hM hM1 hR hI t1 t2
          generalize lenI (lastF ps fs) nm = ln at *
          go_wp2_with fail
          refine (isName_any _ _ hs).mono ?_
          rintro e w2 ⟨rfl, rfl⟩
          rw [HN.out]
          go_wp2_with fail
          go_ret
          exact ⟨retW HR.out.symm, hg2⟩
        · have s2 : decide (lenI (lastF ps fs) nm < pg) = false := by simp; omega
          obtain ⟨pgN, rfl⟩ := Int.eq_ofNat_of_zero_le (show 0 ≤ pg by omega)
          have HR : Hid (rwI fs ps cp fu false nm (pgN : Int) bs = if ps.length = 1000 ∨ 12 < (doP (lastF ps fs) nm pgN bs).length ∨ cp < totalI (doP (lastF ps fs) nm pgN bs) then 2 else 0) := by show _ = _; unfold rwI; rw [if_pos ⟨HOK.out.symm, rfl, tn, HBL.out⟩, if_neg (by omega), Int.toNat_natCast]
          have htot := doP_total2 (bs := bs) hI (show (pgN : Int) ≤ lenI (lastF ps fs) nm by omega)
          have hrp := Rep.pend (bs := bs) hR hI (show (pgN : Int) ≤ lenI (lastF ps fs) nm by omega)
          have HAT : Hid (D.atKey (keyL nm) (.lit (.int .i64 0)) = .lit (.int .i64 (lenI (lastF ps fs) nm))) := hR.at_ nm
          rw [HML.out] at HR
          by_cases t3 : (pgN : Int) = lenI (lastF ps fs) nm
          · have s3 : ((pgN : Int) == lenI (lastF ps fs) nm) = true := by simp [t3]
            rw [if_pos t3, ← HT.out] at htot
            have HTO : Hid (totalI (doP (lastF ps fs) nm pgN bs) = t + 1) := htot
            have HRP : Hid (Rep (D.put (keyL nm) (.lit (.int .i64 (lenI (lastF ps fs) nm + 1)))) (doP (lastF ps fs) nm pgN bs)) := hrp.1 t3
            rw [← HT.out] at hwS htb hl0
            clear hrp htot t3 hI hR t1 t2 tn HT
            generalize doP (lastF ps fs) nm pgN bs = G at *
            generalize lenI (lastF ps fs) nm = ln at *
            go_wp2_with fail
            refine (isName_any _ _ hs).mono ?_
            rintro e w2 ⟨rfl, rfl⟩
            rw [HN.out]
            go_wp2_with fail
            refine (add_any nm 1 ln t w1.heap.size mb _ D _ KC.out hM (by omega) HAT.out hs (by omega) (by omega) (by omega) (by omega) (by omega) (by omega)).mono ?_
            rintro e w3 ⟨rfl, hc3, hm3, ht3⟩
            have hB3 : Below w.heap.size w w3 := hg2.trans (ht3.below (by simp; omega) (by omega) (by omega))
            have k3 := (ht3.block w.heap.size (by simp; omega) (by omega) (by omega)).trans HK0.out
            have hlen := hm3.len Try.underlying111 3
            rw [HRP.out.size_] at hlen
            clear x0 x1 x2 x3 x4 hlk'
            obtain ⟨x0, x1, x2, x3, x4⟩ := boxW5 k3
            obtain ⟨⟨q0, q1⟩, _, _⟩ := two_cells hc3
            clear hc3 k3 hm3 ht3 hM hM1
            rw [HTO.out] at HR
            generalize hGl : G.length = gl at *
            have HGL : Hid (G.length = gl) := hGl
            clear hGl
            by_cases t5 : m = 1000
            · have u1 : ((m : Int) == 1000) = true := by simp; omega
              rw [if_pos (.inl t5)] at HR
              clear t5
              go_wp2_with fail
              go_ret
              exact ⟨retW HR.out.symm, hB3⟩
            · have u1 : ((m : Int) == 1000) = false := by simp; omega
              by_cases t6 : 12 < gl
              · have u2 : decide ((12 : Int) < (gl : Int)) = true := by simp; omega
                rw [if_pos (.inr (.inl t6))] at HR
                clear t5 t6
                go_wp2_with fail
                go_ret
                exact ⟨retW HR.out.symm, hB3⟩
              · have u2 : decide ((12 : Int) < (gl : Int)) = false := by simp; omega
                by_cases t7 : cp < (t + 1)
                · have u3 : decide (cp < (t + 1)) = true := by simp; omega
                  rw [if_pos (.inr (.inr t7))] at HR
                  clear t5 t6 t7
                  go_wp2_with fail
                  go_ret
                  exact ⟨retW HR.out.symm, hB3⟩
                · have u3 : decide (cp < (t + 1)) = false := by simp; omega
                  rw [if_neg (by omega)] at HR
                  clear t5 t6 t7
                  go_wp2_with fail
                  go_ret
                  exact ⟨retW HR.out.symm, hB3⟩
          · have s3 : ((pgN : Int) == lenI (lastF ps fs) nm) = false := by simp [t3]
            rw [if_neg t3, Int.add_zero, ← HT.out] at htot
            have HTO : Hid (totalI (doP (lastF ps fs) nm pgN bs) = t) := htot
            have HRP := hrp.2 t3
            have hB3 := hg2
            have hM' : (w1.alloc (.cells #[.map (some mb), .int .i64 t] 113)).ownsMap Try.prog 9 (plainElem Try.prog 2) mb _ D := hM
            have hlen := hM'.len Try.underlying111 3
            rw [HRP.size_] at hlen
            rw [HTO.out] at HR
            clear hrp htot hI hR t1 t2 tn HT HRP hM hM' hM1 HAT HTO
            generalize doP (lastF ps fs) nm pgN bs = G at *
            generalize lenI (lastF ps fs) nm = ln at *
            generalize hGl : G.length = gl at *
            have HGL : Hid (G.length = gl) := hGl
            clear hGl t3
            by_cases t5 : m = 1000
            · have u1 : ((m : Int) == 1000) = true := by simp; omega
              rw [if_pos (.inl t5)] at HR
              clear t5
              go_wp2_with fail
              refine (isName_any _ _ hs).mono ?_
              rintro e w2 ⟨rfl, rfl⟩
              rw [HN.out]
              go_wp2_with fail
              go_ret
              exact ⟨retW HR.out.symm, hB3⟩
            · have u1 : ((m : Int) == 1000) = false := by simp; omega
              by_cases t6 : 12 < gl
              · have u2 : decide ((12 : Int) < (gl : Int)) = true := by simp; omega
                rw [if_pos (.inr (.inl t6))] at HR
                clear t5 t6
                go_wp2_with fail
                refine (isName_any _ _ hs).mono ?_
                rintro e w2 ⟨rfl, rfl⟩
                rw [HN.out]
                go_wp2_with fail
                go_ret
                exact ⟨retW HR.out.symm, hB3⟩
              · have u2 : decide ((12 : Int) < (gl : Int)) = false := by simp; omega
                by_cases t7 : cp < t
                · have u3 : decide (cp < t) = true := by simp; omega
                  rw [if_pos (.inr (.inr t7))] at HR
                  clear t5 t6 t7
                  go_wp2_with fail
                  refine (isName_any _ _ hs).mono ?_
                  rintro e w2 ⟨rfl, rfl⟩
                  rw [HN.out]
                  go_wp2_with fail
                  go_ret
                  exact ⟨retW HR.out.symm, hB3⟩
                · have u3 : decide (cp < t) = false := by simp; omega
                  rw [if_neg (by omega)] at HR
                  clear t5 t6 t7
                  go_wp2_with fail
                  refine (isName_any _ _ hs).mono ?_
                  rintro e w2 ⟨rfl, rfl⟩
                  rw [HN.out]
                  go_wp2_with fail
                  go_ret
                  exact ⟨retW HR.out.symm, hB3⟩
    · have HR : Hid (rwI fs ps cp fu de nm pg bs = 1) := by show _ = _; unfold rwI; rw [HBL.out, if_neg (fun h => t0 ⟨h.2.1, h.2.2⟩)]
      have hT : de = true ∨ nameB nm = false ∨ pn ≠ 128 := by
        cases de with
        | true => exact .inl rfl
        | false => cases hn : nameB nm with
          | false => exact .inr (.inl rfl)
          | true => exact .inr (.inr (fun e => t0 ⟨rfl, hn, e⟩))
      clear t0 hlk' hM hM1 hR hI hl0 HT htb KC HK0 HOK
      rcases hT with rfl | hn | hp
      · go_wp2_with fail
        go_ret
        exact ⟨retW HR.out.symm, hg2⟩
      · have HN : Hid (nameB nm = false) := hn
        clear hn
        cases de with
        | true =>
          go_wp2_with fail
          go_ret
          exact ⟨retW HR.out.symm, hg2⟩
        | false =>
          go_wp2_with fail
          refine (isName_any _ _ hs).mono ?_
          rintro e w2 ⟨rfl, rfl⟩
          rw [HN.out]
          go_wp2_with fail
          go_ret
          exact ⟨retW HR.out.symm, hg2⟩
      · have s1 : ((pn : Int) == 128) = false := by simp; omega
        cases de with
        | true =>
          go_wp2_with fail
          go_ret
          exact ⟨retW HR.out.symm, hg2⟩
        | false =>
          go_wp2_with fail
          refine (isName_any _ _ hs).mono ?_
          rintro e w2 ⟨rfl, rfl⟩
          cases hn : nameB nm
          · go_wp2_with fail
            go_ret
            exact ⟨retW HR.out.symm, hg2⟩
          · go_wp2_with fail
            go_ret
            exact ⟨retW HR.out.symm, hg2⟩
end Go.Proofs.Ytakdaandbdbdnaa
namespace Go.Proofs.Ytakdaandbdbdnaa
open Go.RowKit
set_option linter.unusedVariables false
set_option maxRecDepth 100000
theorem rsI_bad {fs : List PF} {ps : List PP} {cp fu : Int} {de : Bool} (h : ¬ (de = false ∧ implV fs ps cp fu = true)) : rsI fs ps cp fu de = 1 := by unfold rsI; rw [if_neg h]
set_option maxHeartbeats 3200000 in
theorem specSync_any (a : Option Addr) (n c : Nat) (fs : List PF) (b : Option Addr) (m d : Nat) (ps : List PP) (cp fu : Int) (de : Bool) (w : World) (A B : Nat) (hB : B ≤ w.heap.size) (hF : FilesAt w A B a n c fs) (hP : PendsAt w A B b m d ps) (hfu : -9223372036854775808 ≤ fu ∧ fu ≤ 9223372036854775807)
    (hn : n ≤ 1048576) (hm : m ≤ 1048576) (hall : ∀ j, j < n → (fs.getD j (ByteArray.empty, [])).2.length ≤ 1048576) (hall2 : ∀ j, j < m → (ps.getD j (ByteArray.empty, 0, [])).2.2.length ≤ 1048576) :
    Calls Try.prog 16 #[.agg #[.slice a n c, .slice b m d, .int .i64 cp, .int .i64 fu, .bool de]] w fun e w' => ResAt w e w' (dsE (rsI fs ps cp fu de) fu) (dsX (rsI fs ps cp fu de) fu fs (lastF ps fs)) (dsX (rsI fs ps cp fu de) fu ps []) cp (dsF (rsI fs ps cp fu de) fu) (dsD (rsI fs ps cp fu de) fu de) := by
  have HF : Hid (∀ W, Below w.heap.size w W → FilesAt W A B a n c fs) := fun W hW => hF.below (hW.mono hB)
  have HP : Hid (∀ W, Below w.heap.size w W → PendsAt W A B b m d ps) := fun W hW => hP.below (hW.mono hB)
  have HA : Hid (∀ j, j < n → (fs.getD j (ByteArray.empty, [])).2.length ≤ 1048576) := hall
  have HA2 : Hid (∀ j, j < m → (ps.getD j (ByteArray.empty, 0, [])).2.2.length ≤ 1048576) := hall2
  have HML : Hid (ps.length = m) := hP.1
  have HNL : Hid (fs.length = n) := hF.1
  clear hF hP hall hall2
  go_enter Try.func16, Try.ntmps16
  go_wp2_with fail
  obtain ⟨W0, hW0⟩ : ∃ W0, W0 = (w.alloc (.cells #[.slice a n c, .slice b m d, .int .i64 cp, .int .i64 fu, .bool de] 26)).alloc (.cells #[.int .i64 0, .slice none 0 0, .slice none 0 0, .int .i64 0, .int .i64 0, .bool false] 30) := ⟨_, rfl⟩
  have hs0 : W0.heap.size = w.heap.size + 2 := by rw [hW0]; simp
  have hb0 : Below w.heap.size w W0 := by rw [hW0]; exact ((Below.refl _ _).alloc (Nat.le_refl _) _).alloc (by simp) _
  have k0 : W0.heap[w.heap.size]? = some (.cells #[.slice a n c, .slice b m d, .int .i64 cp, .int .i64 fu, .bool de] 26) := by rw [hW0, heap_alloc_old _ _ (by simp)]; exact heap_alloc_new _ _
  have k1 : W0.heap[w.heap.size + 1]? = some (.cells #[.int .i64 0, .slice none 0 0, .slice none 0 0, .int .i64 0, .int .i64 0, .bool false] 30) := by rw [hW0]; have := heap_alloc_new (w.alloc (.cells #[.slice a n c, .slice b m d, .int .i64 cp, .int .i64 fu, .bool de] 26)) (.cells #[.int .i64 0, .slice none 0 0, .slice none 0 0, .int .i64 0, .int .i64 0, .bool false] 30); simpa using this
  rw [← hW0]
  clear hW0
  refine (l1Live_any a n c fs b m d ps cp fu de W0 A B (by omega) (HF.out _ hb0) (HP.out _ hb0) HA.out).mono ?_
  rintro e w1 ⟨rfl, hb1⟩
  have hs1 := hb1.size
  have bel1 : Below w.heap.size w w1 := hb0.trans (hb1.mono (by omega))
  have jD1 := (hb1.block w.heap.size (by omega)).trans k0
  have jR1 := (hb1.block (w.heap.size + 1) (by omega)).trans k1
  clear k0 k1 hb0 hb1
  obtain ⟨x0, x1, x2, x3, x4⟩ := boxW5 jD1
  have hlD : w.heap.size < w1.heap.size := by omega
  cases hv : (specV fs ps cp fu && !de) with
  | false =>
    have HW : Hid (rsI fs ps cp fu de = 1) := rsI_bad (fun h => by rw [valid_eq, h.2, h.1] at hv; cases hv)
    clear hv
    go_wp2_with fail
    refine (l1Bad_any a n c fs b m d ps cp fu de w1 A B (by omega) (HF.out _ bel1) (HP.out _ bel1) hn hm HA.out HA2.out).mono ?_
    rintro e w9 hres
    obtain ⟨a9, c9, b9, d9, xs9, vs9, ys9, us9, rfl, hO9, hb9⟩ := hres.out
    clear hres
    have jR := (hb9.block (w.heap.size + 1) (by omega)).trans jR1
    have hs9 := hb9.size
    obtain ⟨r0, r1, r2, r3, r4, r5⟩ := box_sixR jR
    have ff := box_thawC jR
    have HB := put6R_box jR (.int .i64 1) (.slice a9 fs.length c9) (.slice b9 ps.length d9) (.int .i64 cp) (.int .i64 fu) (.bool de)
    have HR : Hid (ResAt w (.returned (.agg #[.int .i64 1, .slice a9 fs.length c9, .slice b9 ps.length d9, .int .i64 cp, .int .i64 fu, .bool de])) (put6R w9 (w.heap.size + 1) (.int .i64 1) (.slice a9 fs.length c9) (.slice b9 ps.length d9) (.int .i64 cp) (.int .i64 fu) (.bool de)) 1 fs ps cp fu de) := ResAt.mk6 (by omega) (base := w1.heap.size) hO9 (by omega) (by omega) (bel1.trans (hb9.mono bel1.size))
    clear hO9 hb9 jR jR1 jD1
    go_wp2
    show bodyPost _ _ _ _ _ (put6R w9 (w.heap.size + 1) (.int .i64 1) (.slice a9 fs.length c9) (.slice b9 ps.length d9) (.int .i64 cp) (.int .i64 fu) (.bool de))
    clear r0 r1 r2 r3 r4 r5
    obtain ⟨r0, r1, r2, r3, r4, r5⟩ := box_sixR HB
    exact bodyPost_ret (v := .agg #[.int .i64 1, .slice a9 fs.length c9, .slice b9 ps.length d9, .int .i64 cp, .int .i64 fu, .bool de]) (by simp [results, Try.results16, go_sem, r0, r1, r2, r3, r4, r5]) rfl (by rw [HW.out]; simpa [dsE, dsX, dsF, dsD] using HR.out)
  | true =>
    have hv1 : specV fs ps cp fu = true := by cases h : specV fs ps cp fu <;> simp [h] at hv <;> rfl
    obtain rfl : de = false := by cases de <;> simp [hv1] at hv <;> rfl
    have HV : Hid (implV fs ps cp fu = true) := by show _ = _; rw [← valid_eq]; exact hv1
    clear hv hv1
    obtain ⟨q1, q2, q3, q4, q5⟩ := specV_parts (by rw [valid_eq]; exact HV.out)
    have HQ3 : Hid (totalI fs ≤ cp) := q3
    have HQ4 : Hid (cacheS cp ps fs = true) := q4
    have hn12 : n ≤ 12 := by rw [← HNL.out]; exact q1
    clear q1 q3 q4 q5
    have HW : Hid (rsI fs ps cp fu false = 0) := by show _ = _; unfold rsI; rw [if_pos ⟨rfl, HV.out⟩]
    go_wp2_with fail
    refine (l1Spend_any a n c fs b m d ps cp fu false w1 A B (by omega) (HF.out _ bel1) (HP.out _ bel1) hn hm HA.out HA2.out hfu).mono ?_
    rintro e w9 hres
    obtain ⟨a9, c9, b9, d9, xs9, vs9, ys9, us9, rfl, hO9, hb9⟩ := hres.out
    clear hres
    have hs9 := hb9.size
    have bel9 := bel1.trans (hb9.mono bel1.size)
    have jR9 := (hb9.block (w.heap.size + 1) (by omega)).trans jR1
    have jD9 := (hb9.block w.heap.size (by omega)).trans jD1
    clear x0 x1 x2 x3 x4 jD1 jR1
    by_cases h0 : fu = 0
    · subst h0
      rw [show spE 0 = 3 from rfl, show spF 0 = 0 from rfl, show spD 0 false = true from rfl]
      have hal : Below w9.heap.size w9 (w9.alloc (.cells #[.int .i64 3, .slice a9 fs.length c9, .slice b9 ps.length d9, .int .i64 cp, .int .i64 0, .bool true] 30)) := (Below.refl _ _).alloc (Nat.le_refl _) _
      have kN := heap_alloc_new w9 (.cells #[.int .i64 3, .slice a9 fs.length c9, .slice b9 ps.length d9, .int .i64 cp, .int .i64 0, .bool true] 30)
      have jR := (hal.block (w.heap.size + 1) (by omega)).trans jR9
      have hsX : (w9.alloc (.cells #[.int .i64 3, .slice a9 fs.length c9, .slice b9 ps.length d9, .int .i64 cp, .int .i64 0, .bool true] 30)).heap.size = w9.heap.size + 1 := by simp
      obtain ⟨y0, y1, y2, y3, y4, y5⟩ := box_sixR kN
      obtain ⟨r0, r1, r2, r3, r4, r5⟩ := box_sixR jR
      have ff := box_thawC jR
      have HB := put6R_box jR (.int .i64 3) (.slice a9 fs.length c9) (.slice b9 ps.length d9) (.int .i64 cp) (.int .i64 0) (.bool true)
      have HR : Hid (ResAt w (.returned (.agg #[.int .i64 3, .slice a9 fs.length c9, .slice b9 ps.length d9, .int .i64 cp, .int .i64 0, .bool true])) (put6R (w9.alloc (.cells #[.int .i64 3, .slice a9 fs.length c9, .slice b9 ps.length d9, .int .i64 cp, .int .i64 0, .bool true] 30)) (w.heap.size + 1) (.int .i64 3) (.slice a9 fs.length c9) (.slice b9 ps.length d9) (.int .i64 cp) (.int .i64 0) (.bool true)) 3 fs ps cp 0 true) := ResAt.mk6 (by omega) (base := w1.heap.size) (hO9.below hal) (by omega) (by omega) (bel9.trans (hal.mono bel9.size))
      clear hO9 hb9 jR jR9 hal kN
      go_wp2
      show bodyPost _ _ _ _ _ (put6R (w9.alloc (.cells #[.int .i64 3, .slice a9 fs.length c9, .slice b9 ps.length d9, .int .i64 cp, .int .i64 0, .bool true] 30)) (w.heap.size + 1) (.int .i64 3) (.slice a9 fs.length c9) (.slice b9 ps.length d9) (.int .i64 cp) (.int .i64 0) (.bool true))
      clear r0 r1 r2 r3 r4 r5
      obtain ⟨r0, r1, r2, r3, r4, r5⟩ := box_sixR HB
      exact bodyPost_ret (v := .agg #[.int .i64 3, .slice a9 fs.length c9, .slice b9 ps.length d9, .int .i64 cp, .int .i64 0, .bool true]) (by simp [results, Try.results16, go_sem, r0, r1, r2, r3, r4, r5]) rfl (by rw [HW.out]; simpa [dsE, dsX, dsF, dsD, spE, spF, spD] using HR.out)
    · rw [show spE fu = 0 by simp [spE, h0]]
      have HX : Hid (dsE 0 fu = 0 ∧ dsX 0 fu fs (lastF ps fs) = lastF ps fs ∧ dsX 0 fu ps [] = [] ∧ dsF 0 fu = spF fu ∧ dsD 0 fu false = spD fu false) := by show _ ∧ _; simp [dsE, dsX, dsF, dsD, spE, h0]
      generalize spF fu = F at *
      generalize spD fu false = D at *
      have hal : Below w9.heap.size w9 (w9.alloc (.cells #[.int .i64 0, .slice a9 fs.length c9, .slice b9 ps.length d9, .int .i64 cp, .int .i64 F, .bool D] 30)) := (Below.refl _ _).alloc (Nat.le_refl _) _
      have XO := heap_alloc_new w9 (.cells #[.int .i64 0, .slice a9 fs.length c9, .slice b9 ps.length d9, .int .i64 cp, .int .i64 F, .bool D] 30)
      have jR := (hal.block (w.heap.size + 1) (by omega)).trans jR9
      have hsX : (w9.alloc (.cells #[.int .i64 0, .slice a9 fs.length c9, .slice b9 ps.length d9, .int .i64 cp, .int .i64 F, .bool D] 30)).heap.size = w9.heap.size + 1 := by simp
      have own := hO9.below hal
      have hlt : ∀ g, Blk (.slice a9 fs.length c9) vs9 g ∨ Blk (.slice b9 ps.length d9) us9 g → g < w9.heap.size := fun g hg => (hO9.blk hg).2
      have belX := bel9.trans (hal.mono bel9.size)
      have jDX := (hal.block w.heap.size (by omega)).trans jD9
      obtain ⟨z0, z1, z2, z3, z4⟩ := boxW5 jDX
      obtain ⟨y0, y1, y2, y3, y4, y5⟩ := box_sixR XO
      clear hO9 hb9 jR9 hal jD9
      go_wp2_with fail
      generalize (w9.alloc (.cells #[.int .i64 0, .slice a9 fs.length c9, .slice b9 ps.length d9, .int .i64 cp, .int .i64 F, .bool D] 30)) = W at *
      clear y0 y1 y2 y3 y4 y5 z0 z1 z2 z3 z4
      refine (l1Seen_any a n c fs b m d ps cp fu false W A B (by omega) (HF.out _ belX) (HP.out _ belX) hn12 q2 HQ3.out HQ4.out).mono ?_
      rintro e w8 ⟨v8, xs8, vs8, rfl, own8, hb8⟩
      obtain ⟨ua, un, uc, rfl, hun, _⟩ := own8.files
      subst hun
      have hs8 := hb8.size
      have XO8 := (hb8.block _ (by omega)).trans XO
      have jR8 := (hb8.block _ (by omega)).trans jR
      obtain ⟨y0, y1, y2, y3, y4, y5⟩ := box_sixR XO8
      have fo := box_thawC XO8
      obtain ⟨r0, r1, r2, r3, r4, r5⟩ := box_sixR jR8
      have ff := box_thawC jR8
      have hN8 : w9.heap.size < w8.heap.size := by omega
      have hR8 : w.heap.size + 1 < w8.heap.size := by omega
      have hNR : w.heap.size + 1 < w9.heap.size := by omega
      have XO8b := heap_setCell_at XO8 1 (.slice ua (lastF ps fs).length uc)
      have fo8 := box_thawC XO8b
      have hsetY : Fr (fun g => g = w9.heap.size) w8 ((w8.setCell ⟨w9.heap.size, 1, none⟩ (.slice ua (lastF ps fs).length uc)).setCell ⟨w9.heap.size, 2, none⟩ (.slice (some ⟨w8.heap.size, 0, none⟩) 0 0)) := (fr_setCell w8 w9.heap.size 1 _).trans (fr_setCell _ w9.heap.size 2 _)
      have jRY : ((w8.setCell ⟨w9.heap.size, 1, none⟩ (.slice ua (lastF ps fs).length uc)).setCell ⟨w9.heap.size, 2, none⟩ (.slice (some ⟨w8.heap.size, 0, none⟩) 0 0)).heap[(w.heap.size + 1)]? = some (.cells #[.int .i64 0, .slice none 0 0, .slice none 0 0, .int .i64 0, .int .i64 0, .bool false] 30) := (hsetY.block _ (by omega) (fun e => by omega)).trans jR8
      have HB := put6R_box jRY (.int .i64 0) (.slice ua (lastF ps fs).length uc) (.slice (some ⟨w8.heap.size, 0, none⟩) 0 0) (.int .i64 cp) (.int .i64 F) (.bool D)
      have hputF := put6R_fr ((w8.setCell ⟨w9.heap.size, 1, none⟩ (.slice ua (lastF ps fs).length uc)).setCell ⟨w9.heap.size, 2, none⟩ (.slice (some ⟨w8.heap.size, 0, none⟩) 0 0)) (w.heap.size + 1) (.int .i64 0) (.slice ua (lastF ps fs).length uc) (.slice (some ⟨w8.heap.size, 0, none⟩) 0 0) (.int .i64 cp) (.int .i64 F) (.bool D)
      have hset : Fr (fun g => g = w9.heap.size ∨ g = (w.heap.size + 1)) w8 (put6R ((w8.setCell ⟨w9.heap.size, 1, none⟩ (.slice ua (lastF ps fs).length uc)).setCell ⟨w9.heap.size, 2, none⟩ (.slice (some ⟨w8.heap.size, 0, none⟩) 0 0)) (w.heap.size + 1) (.int .i64 0) (.slice ua (lastF ps fs).length uc) (.slice (some ⟨w8.heap.size, 0, none⟩) 0 0) (.int .i64 cp) (.int .i64 F) (.bool D)) := (hsetY.weak (fun g e => .inl e)).trans (hputF.weak (fun g e => .inr e))
      have hsP : (put6R ((w8.setCell ⟨w9.heap.size, 1, none⟩ (.slice ua (lastF ps fs).length uc)).setCell ⟨w9.heap.size, 2, none⟩ (.slice (some ⟨w8.heap.size, 0, none⟩) 0 0)) (w.heap.size + 1) (.int .i64 0) (.slice ua (lastF ps fs).length uc) (.slice (some ⟨w8.heap.size, 0, none⟩) 0 0) (.int .i64 cp) (.int .i64 F) (.bool D)).heap.size = w8.heap.size := by simp [put6R, World.setCell]
      generalize hP : put6R ((w8.setCell ⟨w9.heap.size, 1, none⟩ (.slice ua (lastF ps fs).length uc)).setCell ⟨w9.heap.size, 2, none⟩ (.slice (some ⟨w8.heap.size, 0, none⟩) 0 0)) (w.heap.size + 1) (.int .i64 0) (.slice ua (lastF ps fs).length uc) (.slice (some ⟨w8.heap.size, 0, none⟩) 0 0) (.int .i64 cp) (.int .i64 F) (.bool D) = P at *
      have hal : Below P.heap.size P (P.alloc (.cells #[] 71)) := (Below.refl _ _).alloc (Nat.le_refl _) _
      have hrowc : (P.alloc (.cells #[] 71)).ownsRow w.heap.size 71 3 (.slice (some ⟨P.heap.size, 0, none⟩) 0 0) 0 [] := World.ownsRow_made P #[] 0 (by omega) (by unfold maxLen; omega) (by simp)
      rw [hsP] at hrowc
      have hfl : OwnF (P.alloc (.cells #[] 71)) w.heap.size (.slice ua (lastF ps fs).length uc) (lastF ps fs) xs8 vs8 := ((own8.fr hset (fun g hg e => by have := (own8.blk hg).1; omega)).below hal).lower (by omega)
      have hD : OwnD (P.alloc (.cells #[] 71)) w.heap.size (.slice ua (lastF ps fs).length uc) (.slice (some ⟨w8.heap.size, 0, none⟩) 0 0) (lastF ps fs) [] xs8 vs8 [] [] := ⟨hfl, OwnP.nil hrowc, fun g hg hb => by
        have h1 := (own8.blk hg).2
        rcases hb with e | ⟨j, hj, _⟩
        · have : w8.heap.size = g := by simpa [Value.ownBlock] using e
          omega
        · simp at hj⟩
      have hbZ : Below w.heap.size w (P.alloc (.cells #[] 71)) := ((belX.trans (hb8.mono belX.size)).trans (hset.below (by omega) (fun g e => by omega))).trans (hal.mono (by omega))
      have HR : Hid (ResAt w (.returned (.agg #[.int .i64 0, .slice ua (lastF ps fs).length uc, .slice (some ⟨w8.heap.size, 0, none⟩) 0 0, .int .i64 cp, .int .i64 F, .bool D])) (P.alloc (.cells #[] 71)) 0 (lastF ps fs) [] cp F D) := ⟨ua, uc, some ⟨w8.heap.size, 0, none⟩, 0, xs8, vs8, [], [], rfl, hD, hbZ⟩
      have HBZ := (hal.block (w.heap.size + 1) (by omega)).trans HB
      clear hD hfl hrowc hbZ hset hsetY jRY hputF hal own own8 hlt HB
      subst hP
      go_wp2
      show bodyPost _ _ _ _ _ ((put6R ((w8.setCell ⟨w9.heap.size, 1, none⟩ (.slice ua (lastF ps fs).length uc)).setCell ⟨w9.heap.size, 2, none⟩ (.slice (some ⟨w8.heap.size, 0, none⟩) 0 0)) (w.heap.size + 1) (.int .i64 0) (.slice ua (lastF ps fs).length uc) (.slice (some ⟨w8.heap.size, 0, none⟩) 0 0) (.int .i64 cp) (.int .i64 F) (.bool D)).alloc (.cells #[] 71))
      clear r0 r1 r2 r3 r4 r5
      obtain ⟨r0, r1, r2, r3, r4, r5⟩ := box_sixR HBZ
      exact bodyPost_ret (v := .agg #[.int .i64 0, .slice ua (lastF ps fs).length uc, .slice (some ⟨w8.heap.size, 0, none⟩) 0 0, .int .i64 cp, .int .i64 F, .bool D]) (by simp [results, Try.results16, go_sem, r0, r1, r2, r3, r4, r5]) rfl (by rw [HW.out, HX.out.1, HX.out.2.1, HX.out.2.2.1, HX.out.2.2.2.1, HX.out.2.2.2.2]; exact HR.out)
end Go.Proofs.Ytakdaandbdbdnaa
namespace Go.Proofs.Ytakdaandbdbdnaa
open Go.RowKit
set_option linter.unusedVariables false
set_option maxRecDepth 100000

set_option maxHeartbeats 8000000 in
theorem core_SyncDisk (a : Option Addr) (n c : Nat) (fs : List PF) (b : Option Addr) (m d : Nat) (ps : List PP) (cp fu : Int) (de : Bool) (er fu2 : Int) (de2 : Bool) (gs : List PF) (qs : List PP) (w : World) (hF : FilesAt w 0 w.heap.size a n c fs) (hP : PendsAt w 0 w.heap.size b m d ps)
    (hI : n ≤ 1048576 → m ≤ 1048576 → (∀ j, j < n → (fs.getD j (ByteArray.empty, [])).2.length ≤ 1048576) → (∀ j, j < m → (ps.getD j (ByteArray.empty, 0, [])).2.2.length ≤ 1048576) → ∀ (a1 : Option Addr) (c1 : Nat) (b1 : Option Addr) (d1 : Nat) (W : World) (A B : Nat), B ≤ W.heap.size → FilesAt W A B a1 n c1 fs → PendsAt W A B b1 m d1 ps → Calls Try.prog 10 #[.agg #[.slice a1 n c1, .slice b1 m d1, .int .i64 cp, .int .i64 fu, .bool de]] W fun e w' => ResAt W e w' er gs qs cp fu2 de2)
    (hS : n ≤ 1048576 → m ≤ 1048576 → (∀ j, j < n → (fs.getD j (ByteArray.empty, [])).2.length ≤ 1048576) → (∀ j, j < m → (ps.getD j (ByteArray.empty, 0, [])).2.2.length ≤ 1048576) → ∀ (a1 : Option Addr) (c1 : Nat) (b1 : Option Addr) (d1 : Nat) (W : World) (A B : Nat), B ≤ W.heap.size → FilesAt W A B a1 n c1 fs → PendsAt W A B b1 m d1 ps → Calls Try.prog 16 #[.agg #[.slice a1 n c1, .slice b1 m d1, .int .i64 cp, .int .i64 fu, .bool de]] W fun e w' => ResAt W e w' er gs qs cp fu2 de2)
    (hk : (n : Int) + wFiles fs + m + wPends ps ≤ 1048576 → kP (kF 1 gs) qs ≤ 1099511627776) :
    Calls Try.prog 4 #[.agg #[.slice a n c, .slice b m d, .int .i64 cp, .int .i64 fu, .bool de]] w fun e w' => e = .returned (.bool true) ∧ Below w.heap.size w w' := by
  have hb0 : Below w.heap.size w (w.alloc (.cells #[.slice a n c, .slice b m d, .int .i64 cp, .int .i64 fu, .bool de] 44)) := (Below.refl _ _).alloc (Nat.le_refl _) _
  have HF : Hid (∀ W, Below w.heap.size w W → FilesAt W 0 w.heap.size a n c fs) := fun W hW => hF.below hW
  have HP : Hid (∀ W, Below w.heap.size w W → PendsAt W 0 w.heap.size b m d ps) := fun W hW => hP.below hW
  have HFL : Hid (fs.length = n) := hF.1
  have HPL : Hid (ps.length = m) := hP.1
  have HI : Hid (n ≤ 1048576 → m ≤ 1048576 → (∀ j, j < n → (fs.getD j (ByteArray.empty, [])).2.length ≤ 1048576) → (∀ j, j < m → (ps.getD j (ByteArray.empty, 0, [])).2.2.length ≤ 1048576) → ∀ (a1 : Option Addr) (c1 : Nat) (b1 : Option Addr) (d1 : Nat) (W : World) (A B : Nat), B ≤ W.heap.size → FilesAt W A B a1 n c1 fs → PendsAt W A B b1 m d1 ps → Calls Try.prog 10 #[.agg #[.slice a1 n c1, .slice b1 m d1, .int .i64 cp, .int .i64 fu, .bool de]] W fun e w' => ResAt W e w' er gs qs cp fu2 de2) := hI
  have HS : Hid (n ≤ 1048576 → m ≤ 1048576 → (∀ j, j < n → (fs.getD j (ByteArray.empty, [])).2.length ≤ 1048576) → (∀ j, j < m → (ps.getD j (ByteArray.empty, 0, [])).2.2.length ≤ 1048576) → ∀ (a1 : Option Addr) (c1 : Nat) (b1 : Option Addr) (d1 : Nat) (W : World) (A B : Nat), B ≤ W.heap.size → FilesAt W A B a1 n c1 fs → PendsAt W A B b1 m d1 ps → Calls Try.prog 16 #[.agg #[.slice a1 n c1, .slice b1 m d1, .int .i64 cp, .int .i64 fu, .bool de]] W fun e w' => ResAt W e w' er gs qs cp fu2 de2) := hS
  have HK : Hid ((n : Int) + wFiles fs + m + wPends ps ≤ 1048576 → kP (kF 1 gs) qs ≤ 1099511627776) := hk
  clear hF hP hI hS hk
  go_enter Try.func4, Try.ntmps4
  go_wp2_with fail
  refine (szDisk_any _ _ _ fs _ _ _ ps _ _ _ _ _ (by omega) (by omega) 0 w.heap.size (by simp) (HF.out _ hb0) (HP.out _ hb0)).mono ?_
  rintro e w1 ⟨r, rfl, hr, hb1⟩
  have g1 := hb0.trans (hb1.mono (by simp))
  have hz1 := hb1.size
  simp at hz1
  have k1 : w.heap.size < w1.heap.size := by omega
  have A1 : Hid (w1.heap[w.heap.size]? = some (.cells #[.slice a n c, .slice b m d, .int .i64 cp, .int .i64 fu, .bool de] 44)) := (hb1.block _ (by simp)).trans (heap_alloc_new w _)
  obtain ⟨x10, x11, x12, x13, x14⟩ := box_fiveC A1.out
  by_cases t1 : r < 0
  · go_wp2_with fail
    go_ret
    exact ⟨rfl, g1⟩
  have hw := hr.2.2 (by omega)
  have hwf := wFiles_nonneg fs
  have hwp := wPends_nonneg ps
  have hn : n ≤ 1048576 := by omega
  have hm : m ≤ 1048576 := by omega
  have HA : Hid (∀ j, j < n → (fs.getD j (ByteArray.empty, [])).2.length ≤ 1048576) := fun j hj => by have := wFiles_get fs j (by rw [HFL.out]; exact hj); omega
  have HA2 : Hid (∀ j, j < m → (ps.getD j (ByteArray.empty, 0, [])).2.2.length ≤ 1048576) := fun j hj => by have := wPends_get ps j (by rw [HPL.out]; exact hj); omega
  have hk2 := HK.out (by omega)
  have hkx : kP (kF 1 fs) ps ≤ 4194304 := by
    have h1 := kF_bound 1 fs
    have h2 := kP_bound (kF 1 fs) ps
    rw [HFL.out] at h1
    rw [HPL.out] at h2
    omega
  clear hw hr hwf hwp HK hb1
  go_wp2_with fail
  refine (toDisk_z _ _ _ fs _ _ _ ps _ _ _ w1 0 w.heap.size g1.size (HF.out _ g1) (HP.out _ g1) hn hm HA.out HA2.out).mono ?_
  rintro e w3 ⟨ga, gb, rfl, z3, hb3⟩
  have g3 := g1.trans (hb3.mono g1.size)
  have s3 := hb3.size
  have A3 : Hid _ := box_below A1.out hb3
  clear x10 x11 x12 x13 x14
  go_wp2_with fail
  refine (HS.out hn hm HA.out HA2.out _ _ _ _ w3 w1.heap.size w3.heap.size (Nat.le_refl _) z3.files z3.pends).mono ?_
  rintro e w4 hR4
  obtain ⟨a4, c4, b4, d4, rfl, z4, hb4⟩ := hR4.z
  have g4 := g3.trans (hb4.mono g3.size)
  have s4 := hb4.size
  have k4 : w.heap.size < w4.heap.size := by omega
  have A4 : Hid _ := box_below A3.out hb4
  obtain ⟨x0, x1, x2, x3, x4⟩ := box_fiveC A4.out
  clear z3 hR4 hb3 hb4 A1 A3
  go_wp2_with fail
  clear x0 x1 x2 x3 x4
  have hal := (Below.refl w4.heap.size w4).alloc (Nat.le_refl _) (.cells #[.int .i64 er, .slice a4 gs.length c4, .slice b4 qs.length d4, .int .i64 cp, .int .i64 fu2, .bool de2] 30)
  have X5 : Hid _ := heap_alloc_new w4 (.cells #[.int .i64 er, .slice a4 gs.length c4, .slice b4 qs.length d4, .int .i64 cp, .int .i64 fu2, .bool de2] 30)
  have g5 := g4.trans (hal.mono g4.size)
  have A5 : Hid _ := box_below A4.out hal
  have z5 := z4.below hal
  generalize w4.alloc (.cells #[.int .i64 er, .slice a4 gs.length c4, .slice b4 qs.length d4, .int .i64 cp, .int .i64 fu2, .bool de2] 30) = w5 at hal X5 g5 A5 z5 ⊢
  have s45 : w4.heap.size < w5.heap.size := (Array.getElem?_eq_some_iff.1 X5.out).1
  clear hal A4 z4 g4
  generalize w4.heap.size = N4 at X5 z5 s45 s4 k4 ⊢
  refine (toDisk_z _ _ _ fs _ _ _ ps _ _ _ w5 0 w.heap.size g5.size (HF.out _ g5) (HP.out _ g5) hn hm HA.out HA2.out).mono ?_
  rintro e w6 ⟨ga6, gb6, rfl, z6, hb6⟩
  have g6 := g5.trans (hb6.mono g5.size)
  have s6 := hb6.size
  have A6 : Hid _ := box_below A5.out hb6
  have X6 : Hid _ := box_below X5.out hb6
  have y6 := z5.below hb6
  clear A5 X5 z5 hb6 g5
  go_wp2_with fail
  have hal := (Below.refl w6.heap.size w6).alloc (Nat.le_refl _) (.cells #[.slice (some ⟨ga6, 0, none⟩) n n, .slice (some ⟨gb6, 0, none⟩) m m, .int .i64 cp, .int .i64 fu, .bool de] 26)
  have Y8 : Hid _ := heap_alloc_new w6 (.cells #[.slice (some ⟨ga6, 0, none⟩) n n, .slice (some ⟨gb6, 0, none⟩) m m, .int .i64 cp, .int .i64 fu, .bool de] 26)
  have g8 := g6.trans (hal.mono g6.size)
  have A8 : Hid _ := box_below A6.out hal
  have X8 : Hid _ := box_below X6.out hal
  have y8 := y6.below hal
  have z8 := z6.below hal
  generalize w6.alloc (.cells #[.slice (some ⟨ga6, 0, none⟩) n n, .slice (some ⟨gb6, 0, none⟩) m m, .int .i64 cp, .int .i64 fu, .bool de] 26) = w8 at hal Y8 g8 A8 X8 y8 z8 ⊢
  have s68 : w6.heap.size < w8.heap.size := (Array.getElem?_eq_some_iff.1 Y8.out).1
  clear hal A6 X6 y6 z6 g6
  generalize w5.heap.size = A5 at z8 s45 s6 ⊢
  generalize w6.heap.size = N6 at Y8 z8 s68 s6 ⊢
  have g8s := g8.size
  refine (HI.out hn hm HA.out HA2.out _ _ _ _ w8 A5 w8.heap.size (Nat.le_refl _) z8.files z8.pends).mono ?_
  rintro e w9 hR9
  obtain ⟨a9, c9, b9, d9, rfl, q9, hb9⟩ := hR9.z
  have g9 := g8.trans (hb9.mono g8.size)
  have s9 := hb9.size
  have A9 : Hid _ := box_below A8.out hb9
  have X9 : Hid _ := box_below X8.out hb9
  have Y9 : Hid _ := box_below Y8.out hb9
  have y9 := y8.below hb9
  have z9 := z8.below hb9
  clear A8 X8 Y8 y8 z8 hb9 g8 hR9
  obtain ⟨x0, x1, x2, x3, x4, x5⟩ := box_sixR X9.out
  have k9 : N4 < w9.heap.size := by omega
  go_wp2_with fail
  clear x0 x1 x2 x3 x4 x5
  have hal := (Below.refl w9.heap.size w9).alloc (Nat.le_refl _) (.cells #[.int .i64 er, .slice a9 gs.length c9, .slice b9 qs.length d9, .int .i64 cp, .int .i64 fu2, .bool de2] 30)
  have Z10 : Hid _ := heap_alloc_new w9 (.cells #[.int .i64 er, .slice a9 gs.length c9, .slice b9 qs.length d9, .int .i64 cp, .int .i64 fu2, .bool de2] 30)
  have g10 := g9.trans (hal.mono g9.size)
  have A10 : Hid _ := box_below A9.out hal
  have X10 : Hid _ := box_below X9.out hal
  have Y10 : Hid _ := box_below Y9.out hal
  have y10 := y9.below hal
  have z10 := z9.below hal
  have q10 := q9.below hal
  generalize w9.alloc (.cells #[.int .i64 er, .slice a9 gs.length c9, .slice b9 qs.length d9, .int .i64 cp, .int .i64 fu2, .bool de2] 30) = w10 at hal Z10 g10 A10 X10 Y10 y10 z10 q10 ⊢
  have s910 : w9.heap.size < w10.heap.size := (Array.getElem?_eq_some_iff.1 Z10.out).1
  clear hal A9 X9 Y9 y9 z9 q9 g9
  generalize w9.heap.size = N9 at Z10 q10 s910 s9 k9 ⊢
  refine (eqDiskRes_same er _ _ _ gs _ _ _ qs _ _ _ _ cp fu2 de2 w10 _ _ _ _ (Nat.le_refl _) (Nat.le_refl _) q10.files q10.pends y10.files y10.pends).mono ?_
  rintro e w11 ⟨rfl, hb11⟩
  have g11 := g10.trans (hb11.mono g10.size)
  have s11 := hb11.size
  have A11 : Hid _ := box_below A10.out hb11
  have X11 : Hid _ := box_below X10.out hb11
  have Y11 : Hid _ := box_below Y10.out hb11
  have Z11 : Hid _ := box_below Z10.out hb11
  have y11 := y10.below hb11
  have z11 := z10.below hb11
  have q11 := q10.below hb11
  clear A10 X10 Y10 Z10 y10 z10 q10 hb11 g10
  obtain ⟨x0, x1, x2, x3, x4⟩ := box_fiveC A11.out
  obtain ⟨y0, y1, y2, y3, y4⟩ := box_fiveC Y11.out
  have k11 : w.heap.size < w11.heap.size := by omega
  have k11' : N6 < w11.heap.size := by omega
  have hFd : FilesAt w11.drew 0 w.heap.size a n c fs := HF.out _ g11.drew
  have hPd : PendsAt w11.drew 0 w.heap.size b m d ps := HP.out _ g11.drew
  go_wp2_with fail
  go_region_with (first | (go_at_call 17; refine (toDisk_z _ _ _ fs _ _ _ ps _ _ _ w11.drew 0 w.heap.size g11.size hFd hPd hn hm HA.out HA2.out).mono ?_; rintro e w12 ⟨ge, gf, rfl, v12, hb12⟩; have hb12' : Below w11.heap.size w11 w12 := ((Below.refl _ w11).drew).trans hb12; obtain ⟨u0, u1, u2, u3, u4⟩ := box_fiveC (box_below Y11.out hb12')) | (go_at_call 19; refine (eqDisk_same _ _ _ fs _ _ _ ps _ _ _ _ _ _ _ w12 A5 w12.heap.size w11.drew.heap.size w12.heap.size (Nat.le_refl _) (Nat.le_refl _) ?_ ?_ v12.files v12.pends).mono ?_; exact (z11.below hb12').files; exact (z11.below hb12').pends; rintro e w13 ⟨rfl, hb13⟩))
  all_goals
    have g13 : Below w.heap.size w w13 := (g11.trans (hb12'.mono g11.size)).trans (hb13.mono (Nat.le_trans g11.size hb12'.size))
    have h1113 : Below w11.heap.size w11 w13 := hb12'.trans (hb13.mono hb12'.size)
    have s15 := h1113.size
    have A15 : Hid _ := box_below A11.out h1113
    have X15 : Hid _ := box_below X11.out h1113
    have Y15 : Hid _ := box_below Y11.out h1113
    have Z15 : Hid _ := box_below Z11.out h1113
    have p15 := y11.below h1113
    have z15 := z11.below h1113
    have q15 := q11.below h1113
    clear A11 X11 Y11 Z11 y11 z11 q11 h1113 hb12 hb12' hb13 v12 hFd hPd g11 x0 x1 x2 x3 x4 y0 y1 y2 y3 y4 u0 u1 u2 u3 u4
    obtain ⟨y0, y1, y2, y3, y4⟩ := box_fiveC Y15.out
    go_wp2_with fail
    clear y0 y1 y2 y3 y4
    refine (markDisk_z _ _ _ _ _ _ _ _ _ 1 A5 N6 fs ps w13 z15 HFL.out.symm HPL.out.symm (by omega) (by omega)).mono ?_
    rintro e w17 ⟨rfl, _, f17⟩
    have s17 := f17.size
    have g17 := g13.trans (f17.below g13.size (fun g e => by omega))
    have A17 : Hid _ := box_fr A15.out f17 (by omega)
    have X17 : Hid _ := box_fr X15.out f17 (by omega)
    have Z17 : Hid _ := box_fr Z15.out f17 (by omega)
    have p17 := p15.fr f17 (fun g e => by omega)
    have q17 := q15.fr f17 (fun g e => by omega)
    clear A15 X15 Y15 Z15 p15 z15 q15 f17 g13 hkx
    generalize kP (kF 1 fs) ps = kx
    have hk4 : ¬ ((kx : Nat) : Int) < 0 := by omega
    obtain ⟨x0, x1, x2, x3, x4, x5⟩ := box_sixR X17.out
    obtain ⟨z0, z1, z2, z3, z4, z5⟩ := box_sixR Z17.out
    go_wp2_with fail
    clear x0 x1 x2 x3 x4 x5 z0 z1 z2 z3 z4 z5
    refine (eqDiskRes_same er _ _ _ gs _ _ _ qs _ _ _ _ cp fu2 de2 w17 _ _ _ _ (Nat.le_refl _) (Nat.le_refl _) q17.files q17.pends p17.files p17.pends).mono ?_
    rintro e w18 ⟨rfl, hb18⟩
    have s18 := hb18.size
    have g18 := g17.trans (hb18.mono g17.size)
    have A18 : Hid _ := box_below A17.out hb18
    have X18 : Hid _ := box_below X17.out hb18
    have Z18 : Hid _ := box_below Z17.out hb18
    have p18 := p17.below hb18
    have q18 := q17.below hb18
    clear A17 X17 Z17 p17 q17 hb18 g17 hk4
    obtain ⟨z0, z1, z2, z3, z4, z5⟩ := box_sixR Z18.out
    go_wp2_with fail
    clear z0 z1 z2 z3 z4 z5
    refine (markDiskRes_z er _ _ _ _ _ _ cp fu2 de2 1 w8.heap.size N9 gs qs w18 q18 rfl rfl (by omega) hk2).mono ?_
    rintro e w19 ⟨rfl, q19, f19⟩
    have s19 := f19.size
    have g19 := g18.trans (f19.below g18.size (fun g e => by have := g8s; omega))
    have A19 : Hid _ := box_fr A18.out f19 (by omega)
    have X19 : Hid _ := box_fr X18.out f19 (by omega)
    have Z19 : Hid _ := box_fr Z18.out f19 (by omega)
    have p19 := p18.fr f19 (fun g e => by omega)
    clear A18 X18 Z18 p18 q18 f19 g18
    obtain ⟨z0, z1, z2, z3, z4, z5⟩ := box_sixR Z19.out
    have HK2 : Hid (kP (kF 1 gs) qs ≤ 1099511627776) := hk2
    clear hk2
    go_wp2_with fail
    clear z0 z1 z2 z3 z4 z5
    refine (heldDiskRes_any er _ _ _ _ _ _ cp fu2 de2 1 _ _ gs qs w19 q19.files q19.pends (Nat.le_refl _) HK2.out).mono ?_
    rintro e w20 ⟨rfl, hb20⟩
    have s20 := hb20.size
    have g20 := g19.trans (hb20.mono g19.size)
    have A20 : Hid _ := box_below A19.out hb20
    have X20 : Hid _ := box_below X19.out hb20
    have p20 := p19.below hb20
    clear A19 X19 Z19 p19 q19 hb20 g19 HK2
    generalize kP (kF 1 gs) qs = ky
    have hq0 : ¬ ((ky : Nat) : Int) < 0 := by omega
    have hqm : (((ky : Nat) : Int) != ((ky : Nat) : Int)) = false := by simp
    obtain ⟨x0, x1, x2, x3, x4⟩ := box_fiveC A20.out
    go_wp2_with fail
    clear x0 x1 x2 x3 x4 hq0 hqm
    refine (toDisk_z _ _ _ fs _ _ _ ps _ _ _ w20 0 w.heap.size g20.size (HF.out _ g20) (HP.out _ g20) hn hm HA.out HA2.out).mono ?_
    rintro e w22 ⟨gh, gi, rfl, z22, hb22⟩
    have s22 := hb22.size
    have g22 := g20.trans (hb22.mono g20.size)
    have X22 : Hid _ := box_below X20.out hb22
    have p22 := p20.below hb22
    clear A20 X20 p20 hb22 g20
    go_wp2_with fail
    refine (HI.out hn hm HA.out HA2.out _ _ _ _ w22 w20.heap.size w22.heap.size (Nat.le_refl _) z22.files z22.pends).mono ?_
    rintro e w23 hR23
    obtain ⟨a23, c23, b23, d23, rfl, q23, hb23⟩ := hR23.z
    have s23 := hb23.size
    have g23 := g22.trans (hb23.mono g22.size)
    have X23 : Hid _ := box_below X22.out hb23
    have p23 := p22.below hb23
    have k23 : N4 < w23.heap.size := by omega
    clear X22 p22 z22 hR23 hb23 g22
    obtain ⟨x0, x1, x2, x3, x4, x5⟩ := box_sixR X23.out
    go_wp2_with fail
    clear x0 x1 x2 x3 x4 x5
    have hal := (Below.refl w23.heap.size w23).alloc (Nat.le_refl _) (.cells #[.int .i64 er, .slice a23 gs.length c23, .slice b23 qs.length d23, .int .i64 cp, .int .i64 fu2, .bool de2] 30)
    have g24 := g23.trans (hal.mono g23.size)
    have p24 := p23.below hal
    have q24 := q23.below hal
    generalize w23.alloc (.cells #[.int .i64 er, .slice a23 gs.length c23, .slice b23 qs.length d23, .int .i64 cp, .int .i64 fu2, .bool de2] 30) = w24 at hal g24 p24 q24 ⊢
    clear X23 p23 q23 hal g23
    refine (eqDiskRes_same er _ _ _ gs _ _ _ qs _ _ _ _ cp fu2 de2 w24 _ _ _ _ (Nat.le_refl _) (Nat.le_refl _) q24.files q24.pends p24.files p24.pends).mono ?_
    rintro e w25 ⟨rfl, hb25⟩
    have g25 := g24.trans (hb25.mono g24.size)
    clear p24 q24 hb25 g24
    go_wp2
    go_ret
    exact ⟨rfl, g25⟩
theorem doP_names2 {M : Nat} {fs : List PF} {nm : ByteArray} {pg : Nat} {bs : List Int} (h : ∀ f ∈ fs, f.1.size ≤ M) (hn : nm.size ≤ M) : ∀ f ∈ doP fs nm pg bs, f.1.size ≤ M := by
  intro f hf
  unfold doP at hf
  rcases List.mem_or_eq_of_mem_set hf with h1 | h1
  · unfold withName at h1
    split at h1
    · exact h f h1
    · rcases List.mem_append.1 h1 with h2 | h2
      · exact h f (List.mem_of_mem_take h2)
      · rcases List.mem_cons.1 h2 with h3 | h3
        · rw [h3]; exact hn
        · exact h f (List.mem_of_mem_drop h3)
  · rw [h1]; exact hn
theorem last_names2 {M : Nat} : ∀ (ps : List PP) (fs : List PF), (∀ f ∈ fs, f.1.size ≤ M) → (∀ p ∈ ps, p.1.size ≤ M) → ∀ f ∈ lastF ps fs, f.1.size ≤ M
  | [], _, h, _ => h
  | p :: r, fs, h, hp => last_names2 r _ (doP_names2 h (hp p List.mem_cons_self)) (fun q hq => hp q (List.mem_cons_of_mem _ hq))
theorem wFiles_sum {K : Int} : ∀ L : List PF, (∀ f ∈ L, wFile f ≤ K) → wFiles L ≤ L.length * K
  | [], _ => by simp [wFiles]
  | f :: r, h => by
    have h1 := wFiles_sum r (fun g hg => h g (List.mem_cons_of_mem _ hg))
    have h2 := h f List.mem_cons_self
    simp only [wFiles, List.length_cons]
    rw [show (((r.length + 1 : Nat)) : Int) * K = r.length * K + K by rw [Int.natCast_add, Int.add_mul]; simp]
    omega
theorem law_SyncDisk (a : Option Addr) (n c : Nat) (fs : List PF) (b : Option Addr) (m d : Nat) (ps : List PP) (cp fu : Int) (hfu : -9223372036854775808 ≤ fu ∧ fu ≤ 9223372036854775807) (de : Bool) (w : World) (hF : FilesAt w 0 w.heap.size a n c fs) (hP : PendsAt w 0 w.heap.size b m d ps) :
    Calls Try.prog 4 #[.agg #[.slice a n c, .slice b m d, .int .i64 cp, .int .i64 fu, .bool de]] w fun e w' => e = .returned (.bool true) ∧ Below w.heap.size w w' := by
  refine core_SyncDisk a n c fs b m d ps cp fu de _ _ _ _ _ w hF hP (fun hn hm hall hall2 a1 c1 b1 d1 W A B hB kF kP => implSync_any a1 n c1 fs b1 m d1 ps cp fu de W A B hB kF kP hfu hn hm hall hall2) (fun hn hm hall hall2 a1 c1 b1 d1 W A B hB kF kP => specSync_any a1 n c1 fs b1 m d1 ps cp fu de W A B hB kF kP hfu hn hm hall hall2) ?_
  intro h3
  have e1 := hF.1
  have e2 := hP.1
  have w1 := wFiles_nonneg fs
  have w2 := wPends_nonneg ps
  by_cases hr : rsI fs ps cp fu de = 0 ∧ fu ≠ 0
  · have hx1 : dsX (rsI fs ps cp fu de) fu fs (lastF ps fs) = lastF ps fs := by rw [hr.1]; simp [dsX, hr.2]
    have hx2 : dsX (rsI fs ps cp fu de) fu ps [] = [] := by rw [hr.1]; simp [dsX, hr.2]
    rw [hx1, hx2]
    have hv : implV fs ps cp fu = true := by
      have h := hr.1
      unfold rsI at h
      split at h
      · rename_i hc; exact hc.2
      · cases h
    obtain ⟨q1, q2, q3, q4, q5⟩ := specV_parts (by rw [valid_eq]; exact hv)
    obtain ⟨t1, t2⟩ := last_fits ps fs q1 q3 q4
    have hnames := last_names2 (M := 1048576) ps fs (fun f hf => by
      obtain ⟨i, hi, rfl⟩ := List.getElem_of_mem hf
      have := wFiles_get fs i hi
      simp only [List.getD, List.getElem?_eq_getElem hi, Option.getD_some] at this
      omega) (fun p hp => by
      obtain ⟨i, hi, rfl⟩ := List.getElem_of_mem hp
      have := wPends_get ps i hi
      simp only [List.getD, List.getElem?_eq_getElem hi, Option.getD_some] at this
      omega)
    have hsum := wFiles_sum (K := 1176704) (lastF ps fs) (fun f hf => by
      have hnm := hnames f hf
      obtain ⟨i, hi, rfl⟩ := List.getElem_of_mem hf
      have := small_of_total (fs := lastF ps fs) (by omega) i hi
      simp only [List.getD, List.getElem?_eq_getElem hi, Option.getD_some] at this
      unfold wFile
      omega)
    have f1 := kF_bound 1 (lastF ps fs)
    have f2 := kP_bound (kF 1 (lastF ps fs)) []
    simp only [wPends, List.length_nil] at f2
    omega
  · have hx : dsX (rsI fs ps cp fu de) fu fs (lastF ps fs) = fs ∧ dsX (rsI fs ps cp fu de) fu ps [] = ps := by
      unfold dsX
      by_cases h0 : rsI fs ps cp fu de = 0
      · by_cases h1 : fu = 0
        · simp [h1]
        · exact (hr ⟨h0, h1⟩).elim
      · simp [h0]
    rw [hx.1, hx.2]
    have f1 := kF_bound 1 fs
    have f2 := kP_bound (kF 1 fs) ps
    omega
end Go.Proofs.Ytakdaandbdbdnaa
