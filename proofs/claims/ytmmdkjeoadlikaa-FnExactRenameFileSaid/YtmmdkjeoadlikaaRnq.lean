import Derived.Test.YtmmdkjeoadlikaaJN2
import Derived.Test.YtmmdkjeoadlikaaJN3
namespace Go.Proofs.Ytmmdkjeoadlikaa
open Go.RowKit
set_option linter.unusedVariables false
set_option maxRecDepth 100000
theorem rnI_bad {fs : List PF} {ps : List PP} {cp fu : Int} {de : Bool} {fr to : ByteArray} (h : ¬ (nameB to = true ∧ fr ≠ to ∧ de = false ∧ ps.length = 0 ∧ implV fs ps cp fu = true ∧ findN fs fr < fs.length)) : rnI fs ps cp fu de fr to = 1 := by
  unfold rnI
  split
  · rename_i h1
    unfold rfI
    rw [if_neg (fun h2 => h ⟨h1.1, h1.2, h2⟩)]
  · rfl
theorem box_twoF {w : World} {N : Nat} {v0 v1 : Value} {t : TypeId} (h : w.heap[N]? = some (.cells #[v0, v1] t)) : w.cell? ⟨N, 0, none⟩ = some v0 ∧ w.cell? ⟨N, 1, none⟩ = some v1 := by simp [World.cell?, h]
theorem rowF_pick {w w' : World} {B : Nat} {a : Option Addr} {n c : Nat} {xs : List Value} {nms : Nat → ByteArray} {base : Nat} {a' : Option Addr} {c' : Nat} {nm : ByteArray} (h : RowF w B a n c xs nms) (hr : w'.ownsRow base 83 2 (.slice a' (keptI nms nm n).length c') (keptI nms nm n).length (pickR xs (keptI nms nm n))) : RowF w' w'.heap.size a' (keptI nms nm n).length c' (pickR xs (keptI nms nm n)) (fun j => nms ((keptI nms nm n).getD j 0)) := by
  refine ⟨hr.1, ?_, ?_, fun i hi => ?_, fun h0 => ?_⟩
  · rcases hr.2 with ⟨e, h0⟩ | ⟨g, cap, cur, e, _, _, h3, h4, _⟩
    · injection e with e1 e2 e3; omega
    · injection e with e1 e2 e3; omega
  · rcases hr.2 with ⟨e, h0⟩ | ⟨g, cap, cur, e, _, _, h3, h4, _⟩
    · injection e with e1 e2 e3; subst e3; unfold maxLen; omega
    · injection e with e1 e2 e3; subst e3; exact h4
  · have hp := pickR_get xs (keptI nms nm n) i hi
    have hk : (keptI nms nm n).getD i 0 < n := keptI_lt (nms := nms) (nm := nm) (by simp [List.getD, List.getElem?_eq_getElem hi])
    obtain ⟨x1, a2, n2, c2, x2⟩ := h.2.2.2.1 _ hk
    rw [getD_some x1] at hp
    refine ⟨hp.1, a2, n2, c2, ?_⟩
    rw [hp.2, getD_some x2]
  · rcases hr.2 with ⟨e, h1⟩ | ⟨g, cap, cur, e, _⟩
    · omega
    · injection e with e1 e2 e3
      subst e1 e3
      exact ⟨g, 0, rfl, (hr.lt g rfl).2, fun j hj => by rw [Nat.zero_add, hr.cellAt j hj]⟩
theorem insPos_congr {n p : Nat} {nms nms' : Nat → ByteArray} {nm : ByteArray} (h : insPos n nms nm p) (he : ∀ j, j < n → nms' j = nms j) : insPos n nms' nm p := by
  refine ⟨h.1, fun i hi => ?_, fun hp => ?_⟩
  · rw [he i (by have := h.1; omega)]; exact h.2.1 i hi
  · rw [he p hp]; exact h.2.2 hp
theorem getD_mapN (f : Nat → Nat) (l : List Nat) (j : Nat) (h : j < l.length) : (l.map f).getD j 0 = f (l.getD j 0) := by simp [List.getD, List.getElem?_eq_getElem h]
theorem own_len2 {w : World} {base : Nat} {a : Option Addr} {n c m : Nat} {fs : List PF} {xs vs ys : List Value} (h : OwnF w base (.slice a n c) fs xs vs) (hr : w.ownsRow base 83 2 (.slice a n c) m ys) : m = fs.length := by
  have h1 := own_len h
  rcases hr.2 with ⟨e, h2⟩ | ⟨g, cap, cur, e, _⟩
  · injection e with e1 e2 e3; omega
  · injection e with e1 e2 e3; omega
set_option maxHeartbeats 6400000 in
theorem specRename_any (a : Option Addr) (n c : Nat) (fs : List PF) (b : Option Addr) (m d : Nat) (ps : List PP) (cp fu : Int) (de : Bool) (fr to : ByteArray) (w : World) (A B : Nat) (hB : B ≤ w.heap.size) (hF : FilesAt w A B a n c fs) (hP : PendsAt w A B b m d ps) (hsf : fr.size ≤ maxLen) (hst : to.size ≤ maxLen) (hfu : -9223372036854775808 ≤ fu ∧ fu ≤ 9223372036854775807)
    (hn : n ≤ 1048576) (hm : m ≤ 1048576) (hall : ∀ j, j < n → (fs.getD j (ByteArray.empty, [])).2.length ≤ 1048576) (hall2 : ∀ j, j < m → (ps.getD j (ByteArray.empty, 0, [])).2.2.length ≤ 1048576) :
    Calls Try.prog 22 #[.agg #[.slice a n c, .slice b m d, .int .i64 cp, .int .i64 fu, .bool de], .string fr, .string to] w fun e w' => ResAt w e w' (dsE (rnI fs ps cp fu de fr to) fu) (dsX (rnI fs ps cp fu de fr to) fu fs (renF fs fr to)) (dsX (rnI fs ps cp fu de fr to) fu ps ps) cp (dsF (rnI fs ps cp fu de fr to) fu) (dsD (rnI fs ps cp fu de fr to) fu de) := by
  have HF : Hid (∀ W, Below w.heap.size w W → FilesAt W A B a n c fs) := fun W hW => hF.below (hW.mono hB)
  have HP : Hid (∀ W, Below w.heap.size w W → PendsAt W A B b m d ps) := fun W hW => hP.below (hW.mono hB)
  have HA : Hid (∀ j, j < n → (fs.getD j (ByteArray.empty, [])).2.length ≤ 1048576) := hall
  have HA2 : Hid (∀ j, j < m → (ps.getD j (ByteArray.empty, 0, [])).2.2.length ≤ 1048576) := hall2
  have HML : Hid (ps.length = m) := hP.1
  have HNL : Hid (fs.length = n) := hF.1
  clear hF hP hall hall2
  go_enter Try.func22, Try.ntmps22
  go_wp2_with fail
  obtain ⟨W0, hW0⟩ : ∃ W0, W0 = (w.alloc (.cells #[.slice a n c, .slice b m d, .int .i64 cp, .int .i64 fu, .bool de] 32)).alloc (.cells #[.int .i64 0, .slice none 0 0, .slice none 0 0, .int .i64 0, .int .i64 0, .bool false] 40) := ⟨_, rfl⟩
  have hs0 : W0.heap.size = w.heap.size + 2 := by rw [hW0]; simp
  have hb0 : Below w.heap.size w W0 := by rw [hW0]; exact ((Below.refl _ _).alloc (Nat.le_refl _) _).alloc (by simp) _
  have k0 : W0.heap[w.heap.size]? = some (.cells #[.slice a n c, .slice b m d, .int .i64 cp, .int .i64 fu, .bool de] 32) := by rw [hW0, heap_alloc_old _ _ (by simp)]; exact heap_alloc_new _ _
  have k1 : W0.heap[w.heap.size + 1]? = some (.cells #[.int .i64 0, .slice none 0 0, .slice none 0 0, .int .i64 0, .int .i64 0, .bool false] 40) := by rw [hW0]; have := heap_alloc_new (w.alloc (.cells #[.slice a n c, .slice b m d, .int .i64 cp, .int .i64 fu, .bool de] 32)) (.cells #[.int .i64 0, .slice none 0 0, .slice none 0 0, .int .i64 0, .int .i64 0, .bool false] 40); simpa using this
  rw [← hW0]
  clear hW0
  refine (l1Live_any a n c fs b m d ps cp fu de W0 A B (by omega) (HF.out _ hb0) (HP.out _ hb0) HA.out).mono ?_
  rintro e w1 ⟨rfl, hb1⟩
  have hs1 := hb1.size
  have bel1 : Below w.heap.size w w1 := hb0.trans (hb1.mono (by omega))
  have jD1 := (hb1.block w.heap.size (by omega)).trans k0
  have jR1 := (hb1.block (w.heap.size + 1) (by omega)).trans k1
  clear k0 k1 hb0 hb1
  obtain ⟨x0, x1, x2, x3, x4⟩ := boxW5 jD1
  have hlD : w.heap.size < w1.heap.size := by omega
  cases hv : (specV fs ps cp fu && !de) with
  | false =>
    have HW : Hid (rnI fs ps cp fu de fr to = 1) := rnI_bad (fun h => by rw [valid_eq, h.2.2.2.2.1, h.2.2.1] at hv; cases hv)
    clear hv
    go_wp2_with fail
    refine (l1Bad_any a n c fs b m d ps cp fu de w1 A B (by omega) (HF.out _ bel1) (HP.out _ bel1) hn hm HA.out HA2.out).mono ?_
    rintro e w9 hres
    obtain ⟨a9, c9, b9, d9, xs9, vs9, ys9, us9, rfl, hO9, hb9⟩ := hres.out
    clear hres
    have jR := (hb9.block (w.heap.size + 1) (by omega)).trans jR1
    have hs9 := hb9.size
    obtain ⟨r0, r1, r2, r3, r4, r5⟩ := box_sixR jR
    have ff := box_thawC jR
    have HB := put6R_box jR (.int .i64 1) (.slice a9 fs.length c9) (.slice b9 ps.length d9) (.int .i64 cp) (.int .i64 fu) (.bool de)
    have HR : Hid (ResAt w (.returned (.agg #[.int .i64 1, .slice a9 fs.length c9, .slice b9 ps.length d9, .int .i64 cp, .int .i64 fu, .bool de])) (put6R w9 (w.heap.size + 1) (.int .i64 1) (.slice a9 fs.length c9) (.slice b9 ps.length d9) (.int .i64 cp) (.int .i64 fu) (.bool de)) 1 fs ps cp fu de) := ResAt.mk6 (by omega) (base := w1.heap.size) hO9 (by omega) (by omega) (bel1.trans (hb9.mono bel1.size))
    clear hO9 hb9 jR jR1 jD1
    go_wp2
    show bodyPost _ _ _ _ _ (put6R w9 (w.heap.size + 1) (.int .i64 1) (.slice a9 fs.length c9) (.slice b9 ps.length d9) (.int .i64 cp) (.int .i64 fu) (.bool de))
    clear r0 r1 r2 r3 r4 r5
    obtain ⟨r0, r1, r2, r3, r4, r5⟩ := box_sixR HB
    exact bodyPost_ret (v := .agg #[.int .i64 1, .slice a9 fs.length c9, .slice b9 ps.length d9, .int .i64 cp, .int .i64 fu, .bool de]) (by simp [results, Try.results22, go_sem, r0, r1, r2, r3, r4, r5]) rfl (by rw [HW.out]; simpa [dsE, dsX, dsF, dsD] using HR.out)
  | true =>
    have hv1 : specV fs ps cp fu = true := by cases h : specV fs ps cp fu <;> simp [h] at hv <;> rfl
    obtain rfl : de = false := by cases de <;> simp [hv1] at hv <;> rfl
    have HV : Hid (implV fs ps cp fu = true) := by show _ = _; rw [← valid_eq]; exact hv1
    clear hv hv1
    by_cases hm0 : 0 < m
    · have hmz : decide ((0 : Int) < (m : Int)) = true := by simp; omega
      have HW : Hid (rnI fs ps cp fu false fr to = 1) := rnI_bad (fun h => by have := HML.out; omega)
      go_wp2_with fail
      refine (l1Bad_any a n c fs b m d ps cp fu false w1 A B (by omega) (HF.out _ bel1) (HP.out _ bel1) hn hm HA.out HA2.out).mono ?_
      rintro e w9 hres
      obtain ⟨a9, c9, b9, d9, xs9, vs9, ys9, us9, rfl, hO9, hb9⟩ := hres.out
      clear hres
      have jR := (hb9.block (w.heap.size + 1) (by omega)).trans jR1
      have hs9 := hb9.size
      obtain ⟨r0, r1, r2, r3, r4, r5⟩ := box_sixR jR
      have ff := box_thawC jR
      have HB := put6R_box jR (.int .i64 1) (.slice a9 fs.length c9) (.slice b9 ps.length d9) (.int .i64 cp) (.int .i64 fu) (.bool false)
      have HR : Hid (ResAt w (.returned (.agg #[.int .i64 1, .slice a9 fs.length c9, .slice b9 ps.length d9, .int .i64 cp, .int .i64 fu, .bool false])) (put6R w9 (w.heap.size + 1) (.int .i64 1) (.slice a9 fs.length c9) (.slice b9 ps.length d9) (.int .i64 cp) (.int .i64 fu) (.bool false)) 1 fs ps cp fu false) := ResAt.mk6 (by omega) (base := w1.heap.size) hO9 (by omega) (by omega) (bel1.trans (hb9.mono bel1.size))
      clear hO9 hb9 jR jR1 jD1
      go_wp2
      show bodyPost _ _ _ _ _ (put6R w9 (w.heap.size + 1) (.int .i64 1) (.slice a9 fs.length c9) (.slice b9 ps.length d9) (.int .i64 cp) (.int .i64 fu) (.bool false))
      clear r0 r1 r2 r3 r4 r5
      obtain ⟨r0, r1, r2, r3, r4, r5⟩ := box_sixR HB
      exact bodyPost_ret (v := .agg #[.int .i64 1, .slice a9 fs.length c9, .slice b9 ps.length d9, .int .i64 cp, .int .i64 fu, .bool false]) (by simp [results, Try.results22, go_sem, r0, r1, r2, r3, r4, r5]) rfl (by rw [HW.out]; simpa [dsE, dsX, dsF, dsD] using HR.out)
    have hmz : decide ((0 : Int) < (m : Int)) = false := by simp; omega
    have hfind := l1Find_any a n c fs fr w1 A B (HF.out _ bel1)
    rcases findI_cases fs fr with ⟨e1, e2⟩ | ⟨e1, e2⟩
    · rw [e1] at hfind
      have HW : Hid (rnI fs ps cp fu false fr to = 1) := rnI_bad (fun h => by omega)
      clear e1 e2
      go_wp2_with fail
      refine hfind.mono ?_
      rintro e w1' ⟨rfl, rfl⟩
      clear hfind
      go_wp2_with fail
      refine (l1Bad_any a n c fs b m d ps cp fu false w1' A B (by omega) (HF.out _ bel1) (HP.out _ bel1) hn hm HA.out HA2.out).mono ?_
      rintro e w9 hres
      obtain ⟨a9, c9, b9, d9, xs9, vs9, ys9, us9, rfl, hO9, hb9⟩ := hres.out
      clear hres
      have jR := (hb9.block (w.heap.size + 1) (by omega)).trans jR1
      have hs9 := hb9.size
      obtain ⟨r0, r1, r2, r3, r4, r5⟩ := box_sixR jR
      have ff := box_thawC jR
      have HB := put6R_box jR (.int .i64 1) (.slice a9 fs.length c9) (.slice b9 ps.length d9) (.int .i64 cp) (.int .i64 fu) (.bool false)
      have HR : Hid (ResAt w (.returned (.agg #[.int .i64 1, .slice a9 fs.length c9, .slice b9 ps.length d9, .int .i64 cp, .int .i64 fu, .bool false])) (put6R w9 (w.heap.size + 1) (.int .i64 1) (.slice a9 fs.length c9) (.slice b9 ps.length d9) (.int .i64 cp) (.int .i64 fu) (.bool false)) 1 fs ps cp fu false) := ResAt.mk6 (by omega) (base := w1'.heap.size) hO9 (by omega) (by omega) (bel1.trans (hb9.mono bel1.size))
      clear hO9 hb9 jR jR1 jD1
      go_wp2
      show bodyPost _ _ _ _ _ (put6R w9 (w.heap.size + 1) (.int .i64 1) (.slice a9 fs.length c9) (.slice b9 ps.length d9) (.int .i64 cp) (.int .i64 fu) (.bool false))
      clear r0 r1 r2 r3 r4 r5
      obtain ⟨r0, r1, r2, r3, r4, r5⟩ := box_sixR HB
      exact bodyPost_ret (v := .agg #[.int .i64 1, .slice a9 fs.length c9, .slice b9 ps.length d9, .int .i64 cp, .int .i64 fu, .bool false]) (by simp [results, Try.results22, go_sem, r0, r1, r2, r3, r4, r5]) rfl (by rw [HW.out]; simpa [dsE, dsX, dsF, dsD] using HR.out)
    rw [e1] at hfind
    have hneg : ¬ ((findN fs fr : Nat) : Int) < 0 := by omega
    have HFI : Hid (findI fs fr = ((findN fs fr : Nat) : Int)) := e1
    have HE2 : Hid (findN fs fr < fs.length) := e2
    clear e1 e2
    obtain ⟨fi, hfi⟩ : ∃ fi, fi = findN fs fr := ⟨_, rfl⟩
    rw [← hfi] at hfind hneg
    have HFN : Hid (fi = findN fs fr) := hfi
    clear hfi
    go_wp2_with fail
    refine hfind.mono ?_
    rintro e w1' ⟨rfl, rfl⟩
    clear hfind
    go_wp2_with fail
    refine (l1Name_any to w1' hst).mono ?_
    rintro e w1'' ⟨rfl, rfl⟩
    cases hnm : nameB to with
    | false =>
      have HW : Hid (rnI fs ps cp fu false fr to = 1) := rnI_bad (fun h => by rw [h.1] at hnm; cases hnm)
      clear hnm
      go_wp2_with fail
      refine (l1Bad_any a n c fs b m d ps cp fu false w1'' A B (by omega) (HF.out _ bel1) (HP.out _ bel1) hn hm HA.out HA2.out).mono ?_
      rintro e w9 hres
      obtain ⟨a9, c9, b9, d9, xs9, vs9, ys9, us9, rfl, hO9, hb9⟩ := hres.out
      clear hres
      have jR := (hb9.block (w.heap.size + 1) (by omega)).trans jR1
      have hs9 := hb9.size
      obtain ⟨r0, r1, r2, r3, r4, r5⟩ := box_sixR jR
      have ff := box_thawC jR
      have HB := put6R_box jR (.int .i64 1) (.slice a9 fs.length c9) (.slice b9 ps.length d9) (.int .i64 cp) (.int .i64 fu) (.bool false)
      have HR : Hid (ResAt w (.returned (.agg #[.int .i64 1, .slice a9 fs.length c9, .slice b9 ps.length d9, .int .i64 cp, .int .i64 fu, .bool false])) (put6R w9 (w.heap.size + 1) (.int .i64 1) (.slice a9 fs.length c9) (.slice b9 ps.length d9) (.int .i64 cp) (.int .i64 fu) (.bool false)) 1 fs ps cp fu false) := ResAt.mk6 (by omega) (base := w1''.heap.size) hO9 (by omega) (by omega) (bel1.trans (hb9.mono bel1.size))
      clear hO9 hb9 jR jR1 jD1
      go_wp2
      show bodyPost _ _ _ _ _ (put6R w9 (w.heap.size + 1) (.int .i64 1) (.slice a9 fs.length c9) (.slice b9 ps.length d9) (.int .i64 cp) (.int .i64 fu) (.bool false))
      clear r0 r1 r2 r3 r4 r5
      obtain ⟨r0, r1, r2, r3, r4, r5⟩ := box_sixR HB
      exact bodyPost_ret (v := .agg #[.int .i64 1, .slice a9 fs.length c9, .slice b9 ps.length d9, .int .i64 cp, .int .i64 fu, .bool false]) (by simp [results, Try.results22, go_sem, r0, r1, r2, r3, r4, r5]) rfl (by rw [HW.out]; simpa [dsE, dsX, dsF, dsD] using HR.out)
    | true =>
      by_cases he : fr = to
      · have hb2' := same_yes he
        have HW : Hid (rnI fs ps cp fu false fr to = 1) := rnI_bad (fun h => h.2.1 he)
        clear he hnm
        go_wp2_with fail
        refine (l1Bad_any a n c fs b m d ps cp fu false w1'' A B (by omega) (HF.out _ bel1) (HP.out _ bel1) hn hm HA.out HA2.out).mono ?_
        rintro e w9 hres
        obtain ⟨a9, c9, b9, d9, xs9, vs9, ys9, us9, rfl, hO9, hb9⟩ := hres.out
        clear hres
        have jR := (hb9.block (w.heap.size + 1) (by omega)).trans jR1
        have hs9 := hb9.size
        obtain ⟨r0, r1, r2, r3, r4, r5⟩ := box_sixR jR
        have ff := box_thawC jR
        have HB := put6R_box jR (.int .i64 1) (.slice a9 fs.length c9) (.slice b9 ps.length d9) (.int .i64 cp) (.int .i64 fu) (.bool false)
        have HR : Hid (ResAt w (.returned (.agg #[.int .i64 1, .slice a9 fs.length c9, .slice b9 ps.length d9, .int .i64 cp, .int .i64 fu, .bool false])) (put6R w9 (w.heap.size + 1) (.int .i64 1) (.slice a9 fs.length c9) (.slice b9 ps.length d9) (.int .i64 cp) (.int .i64 fu) (.bool false)) 1 fs ps cp fu false) := ResAt.mk6 (by omega) (base := w1''.heap.size) hO9 (by omega) (by omega) (bel1.trans (hb9.mono bel1.size))
        clear hO9 hb9 jR jR1 jD1
        go_wp2
        show bodyPost _ _ _ _ _ (put6R w9 (w.heap.size + 1) (.int .i64 1) (.slice a9 fs.length c9) (.slice b9 ps.length d9) (.int .i64 cp) (.int .i64 fu) (.bool false))
        clear r0 r1 r2 r3 r4 r5
        obtain ⟨r0, r1, r2, r3, r4, r5⟩ := box_sixR HB
        exact bodyPost_ret (v := .agg #[.int .i64 1, .slice a9 fs.length c9, .slice b9 ps.length d9, .int .i64 cp, .int .i64 fu, .bool false]) (by simp [results, Try.results22, go_sem, r0, r1, r2, r3, r4, r5]) rfl (by rw [HW.out]; simpa [dsE, dsX, dsF, dsD] using HR.out)
      have hb2' := same_no he
      have HW : Hid (rnI fs ps cp fu false fr to = 0) := by show _ = _; unfold rnI rfI; rw [if_pos ⟨hnm, he⟩, if_pos ⟨rfl, by have := HML.out; omega, HV.out, HE2.out⟩]
      clear he hnm
      go_wp2_with fail
      refine (l1Spend_any a n c fs b m d ps cp fu false w1'' A B (by omega) (HF.out _ bel1) (HP.out _ bel1) hn hm HA.out HA2.out hfu).mono ?_
      rintro e w9 hres
      obtain ⟨a9, c9, b9, d9, xs9, vs9, ys9, us9, rfl, hO9, hb9⟩ := hres.out
      clear hres
      have hs9 := hb9.size
      have bel9 := bel1.trans (hb9.mono bel1.size)
      have jR9 := (hb9.block (w.heap.size + 1) (by omega)).trans jR1
      clear x0 x1 x2 x3 x4 jD1 jR1 hneg
      by_cases h0 : fu = 0
      · subst h0
        rw [show spE 0 = 3 from rfl, show spF 0 = 0 from rfl, show spD 0 false = true from rfl]
        have hal : Below w9.heap.size w9 (w9.alloc (.cells #[.int .i64 3, .slice a9 fs.length c9, .slice b9 ps.length d9, .int .i64 cp, .int .i64 0, .bool true] 40)) := (Below.refl _ _).alloc (Nat.le_refl _) _
        have kN := heap_alloc_new w9 (.cells #[.int .i64 3, .slice a9 fs.length c9, .slice b9 ps.length d9, .int .i64 cp, .int .i64 0, .bool true] 40)
        have jR := (hal.block (w.heap.size + 1) (by omega)).trans jR9
        have hsX : (w9.alloc (.cells #[.int .i64 3, .slice a9 fs.length c9, .slice b9 ps.length d9, .int .i64 cp, .int .i64 0, .bool true] 40)).heap.size = w9.heap.size + 1 := by simp
        obtain ⟨y0, y1, y2, y3, y4, y5⟩ := box_sixR kN
        obtain ⟨r0, r1, r2, r3, r4, r5⟩ := box_sixR jR
        have ff := box_thawC jR
        have HB := put6R_box jR (.int .i64 3) (.slice a9 fs.length c9) (.slice b9 ps.length d9) (.int .i64 cp) (.int .i64 0) (.bool true)
        have HR : Hid (ResAt w (.returned (.agg #[.int .i64 3, .slice a9 fs.length c9, .slice b9 ps.length d9, .int .i64 cp, .int .i64 0, .bool true])) (put6R (w9.alloc (.cells #[.int .i64 3, .slice a9 fs.length c9, .slice b9 ps.length d9, .int .i64 cp, .int .i64 0, .bool true] 40)) (w.heap.size + 1) (.int .i64 3) (.slice a9 fs.length c9) (.slice b9 ps.length d9) (.int .i64 cp) (.int .i64 0) (.bool true)) 3 fs ps cp 0 true) := ResAt.mk6 (by omega) (base := w1''.heap.size) (hO9.below hal) (by omega) (by omega) (bel9.trans (hal.mono bel9.size))
        clear hO9 hb9 jR jR9 hal kN
        go_wp2
        show bodyPost _ _ _ _ _ (put6R (w9.alloc (.cells #[.int .i64 3, .slice a9 fs.length c9, .slice b9 ps.length d9, .int .i64 cp, .int .i64 0, .bool true] 40)) (w.heap.size + 1) (.int .i64 3) (.slice a9 fs.length c9) (.slice b9 ps.length d9) (.int .i64 cp) (.int .i64 0) (.bool true))
        clear r0 r1 r2 r3 r4 r5
        obtain ⟨r0, r1, r2, r3, r4, r5⟩ := box_sixR HB
        exact bodyPost_ret (v := .agg #[.int .i64 3, .slice a9 fs.length c9, .slice b9 ps.length d9, .int .i64 cp, .int .i64 0, .bool true]) (by simp [results, Try.results22, go_sem, r0, r1, r2, r3, r4, r5]) rfl (by rw [HW.out]; simpa [dsE, dsX, dsF, dsD, spE, spF, spD] using HR.out)
      rw [show spE fu = 0 by simp [spE, h0]]
      have HX : Hid (dsE 0 fu = 0 ∧ dsX 0 fu fs (renF fs fr to) = (renF fs fr to) ∧ dsX 0 fu ps ps = ps ∧ dsF 0 fu = spF fu ∧ dsD 0 fu false = spD fu false) := by show _ ∧ _; simp [dsE, dsX, dsF, dsD, spE, h0]
      generalize spF fu = F at *
      generalize spD fu false = D at *
      have hal : Below w9.heap.size w9 (w9.alloc (.cells #[.int .i64 0, .slice a9 fs.length c9, .slice b9 ps.length d9, .int .i64 cp, .int .i64 F, .bool D] 40)) := (Below.refl _ _).alloc (Nat.le_refl _) _
      have XO := heap_alloc_new w9 (.cells #[.int .i64 0, .slice a9 fs.length c9, .slice b9 ps.length d9, .int .i64 cp, .int .i64 F, .bool D] 40)
      have jR := (hal.block (w.heap.size + 1) (by omega)).trans jR9
      have hsX : (w9.alloc (.cells #[.int .i64 0, .slice a9 fs.length c9, .slice b9 ps.length d9, .int .i64 cp, .int .i64 F, .bool D] 40)).heap.size = w9.heap.size + 1 := by simp
      have own := hO9.below hal
      have hlt : ∀ g, Blk (.slice a9 fs.length c9) vs9 g ∨ Blk (.slice b9 ps.length d9) us9 g → g < w9.heap.size := fun g hg => (hO9.blk hg).2
      have belX := bel9.trans (hal.mono bel9.size)
      obtain ⟨y0, y1, y2, y3, y4, y5⟩ := box_sixR XO
      clear hO9 hb9 jR9 hal h0
      go_wp2_with fail
      generalize (w9.alloc (.cells #[.int .i64 0, .slice a9 fs.length c9, .slice b9 ps.length d9, .int .i64 cp, .int .i64 F, .bool D] 40)) = W at *
      clear y0 y1 y2 y3 y4 y5
      have hfl : fi < fs.length := by rw [HFN.out]; exact HE2.out
      obtain ⟨g, rfl⟩ : ∃ g, a9 = some ⟨g, 0, none⟩ := by
        rcases own.files.row.2 with ⟨h0, h1⟩ | ⟨g, cap, cur, h0, _⟩
        · omega
        · injection h0 with h1; exact ⟨g, h1⟩
      obtain ⟨va, vc, hvs⟩ := own_shape (own.files.data fi hfl)
      obtain ⟨ln, hln⟩ : ∃ ln, ln = (fs.getD fi (ByteArray.empty, [])).2.length := ⟨_, rfl⟩
      rw [← hln] at hvs
      clear hln
      have HVS : Hid (vs9.getD fi (.slice none 0 0) = .slice va ln vc) := hvs
      have hxn := (own.files.name fi hfl).1
      have hxv := own.files.val fi hfl
      rw [hvs] at hxv
      clear hvs
      obtain ⟨fnm, hfnm⟩ : ∃ x, x = (fs.getD fi (ByteArray.empty, [])).1 := ⟨_, rfl⟩
      rw [← hfnm] at hxn
      clear hfnm
      have S0 : W.cell? ⟨w9.heap.size, 1, none⟩ = some (.slice (some ⟨g, 0, none⟩) fs.length c9) ∧ W.cell? ⟨g, fi * 2, none⟩ = some (.string fnm) ∧ W.cell? ⟨g, fi * 2 + 1, none⟩ = some (.slice va ln vc) := ⟨(box_sixR XO).2.1, (own.files.row.cellAt (fi * 2) (by omega)).trans hxn, (own.files.row.cellAt (fi * 2 + 1) (by omega)).trans hxv⟩
      clear hxn hxv
      have hgW : g < w9.heap.size := hlt g (.inl (.inl rfl))
      have HSS : Hid (∀ X, Below W.heap.size W X → X.cell? ⟨w9.heap.size, 1, none⟩ = some (.slice (some ⟨g, 0, none⟩) fs.length c9) ∧ X.cell? ⟨g, fi * 2, none⟩ = some (.string fnm) ∧ X.cell? ⟨g, fi * 2 + 1, none⟩ = some (.slice va ln vc)) := fun X hX => ⟨(World.cell?_of_block (hX.block w9.heap.size (by omega))).trans S0.1, (World.cell?_of_block (hX.block g (by omega))).trans S0.2.1, (World.cell?_of_block (hX.block g (by omega))).trans S0.2.2⟩
      have hFW := own.files.files
      obtain ⟨_, _, _, eF, _, hFW⟩ := hFW
      cases eF
      have HFW : Hid (∀ X, Below W.heap.size W X → FilesAt X w1''.heap.size W.heap.size (some ⟨g, 0, none⟩) fs.length c9 fs) := fun X hX => hFW.below hX
      clear hFW
      have HCL : Hid (∀ X, Below W.heap.size W X → Calls Try.prog 45 #[.slice (some ⟨g, 0, none⟩) fs.length c9, .string fr] X fun e w' => e = .returned (.int .i64 ((fi : Nat) : Int)) ∧ w' = X) := fun X hX => by have := l1Find_any _ _ _ fs fr X _ _ (HFW.out X hX); rw [HFI.out, ← HFN.out] at this; exact this
      have HFL2 : Hid (fs.length ≤ 1048576) := by have := HNL.out; show _ ≤ _; omega
      have hflb : fs.length ≤ 1048576 := HFL2.out
      refine wp_region_noPanic ?_
      refine wp_region_held_drew (S := (fun w' => w'.cell? ⟨w9.heap.size, 1, none⟩ = some (.slice (some ⟨g, 0, none⟩) fs.length c9) ∧ w'.cell? ⟨g, fi * 2, none⟩ = some (.string fnm) ∧ w'.cell? ⟨g, fi * 2 + 1, none⟩ = some (.slice va ln vc))) (by kernel_rfl) ?_ (fun hHeld => ?_)
      · exact S0
      refine wpAnyH_take (i := 0) (oi := { dst := some 42, op := Op.fieldAddr 40 (Operand.tmp 7) 1, type := 0, pos := "l1_disk.go:235", after := #[], guard := none }) (v := ?_) rfl (by kernel_rfl) (by kernel_rfl) (by kernel_rfl) (fun _ _ _ h => h) (Or.inl ⟨by rfl, ?_⟩) (by assumption) ?_
      rotate_left 1
      · intro w hSw; (try dsimp only at hSw); go_simp; try (with_reducible rfl)
      try simp only [Act.put, List.setIfInBounds_toArray, List.set_cons_zero, List.set_cons_succ]
      refine wpAnyH_take (i := 1) (oi := { dst := some 43, op := Op.fieldAddr 32 (Operand.tmp 42) 0, type := 0, pos := "l1_disk.go:235", after := #[{ on := 0, ground := Ground.data }], guard := none }) (v := ?_) rfl (by kernel_rfl) (by kernel_rfl) (by kernel_rfl) (fun _ _ _ h => h) (Or.inl ⟨by rfl, ?_⟩) (by assumption) ?_
      rotate_left 1
      · intro w hSw; (try dsimp only at hSw); go_simp; try (with_reducible rfl)
      try simp only [Act.put, List.setIfInBounds_toArray, List.set_cons_zero, List.set_cons_succ]
      refine wpAnyH_take (i := 2) (oi := { dst := some 44, op := Op.load 29 (Operand.tmp 43), type := 29, pos := "l1_disk.go:235", after := #[{ on := 1, ground := Ground.data }], guard := none }) (v := ?_) rfl (by kernel_rfl) (by kernel_rfl) (by kernel_rfl) (fun _ _ _ h => h) (Or.inl ⟨by rfl, ?_⟩) (by assumption) ?_
      rotate_left 1
      · intro w hSw; (try dsimp only at hSw); go_simp; try (with_reducible rfl)
      try simp only [Act.put, List.setIfInBounds_toArray, List.set_cons_zero, List.set_cons_succ]
      refine wpAnyH_take (i := 3) (oi := { dst := some 45, op := Op.fieldAddr 40 (Operand.tmp 7) 1, type := 0, pos := "l1_disk.go:235", after := #[], guard := none }) (v := ?_) rfl (by kernel_rfl) (by kernel_rfl) (by kernel_rfl) (fun _ _ _ h => h) (Or.inl ⟨by rfl, ?_⟩) (by assumption) ?_
      rotate_left 1
      · intro w hSw; (try dsimp only at hSw); go_simp; try (with_reducible rfl)
      try simp only [Act.put, List.setIfInBounds_toArray, List.set_cons_zero, List.set_cons_succ]
      refine wpAnyH_take (i := 4) (oi := { dst := some 46, op := Op.fieldAddr 32 (Operand.tmp 45) 0, type := 0, pos := "l1_disk.go:235", after := #[{ on := 3, ground := Ground.data }], guard := none }) (v := ?_) rfl (by kernel_rfl) (by kernel_rfl) (by kernel_rfl) (fun _ _ _ h => h) (Or.inl ⟨by rfl, ?_⟩) (by assumption) ?_
      rotate_left 1
      · intro w hSw; (try dsimp only at hSw); go_simp; try (with_reducible rfl)
      try simp only [Act.put, List.setIfInBounds_toArray, List.set_cons_zero, List.set_cons_succ]
      refine wpAnyH_take (i := 5) (oi := { dst := some 47, op := Op.load 29 (Operand.tmp 46), type := 29, pos := "l1_disk.go:235", after := #[{ on := 4, ground := Ground.data }], guard := none }) (v := ?_) rfl (by kernel_rfl) (by kernel_rfl) (by kernel_rfl) (fun _ _ _ h => h) (Or.inl ⟨by rfl, ?_⟩) (by assumption) ?_
      rotate_left 1
      · intro w hSw; (try dsimp only at hSw); go_simp; try (with_reducible rfl)
      try simp only [Act.put, List.setIfInBounds_toArray, List.set_cons_zero, List.set_cons_succ]
      refine wpAnyH_take (i := 6) (oi := { dst := some 48, op := Op.move (Operand.tmp 1), type := 9, pos := "l1_disk.go:235", after := #[], guard := none }) (v := ?_) rfl (by kernel_rfl) (by kernel_rfl) (by kernel_rfl) (fun _ _ _ h => h) (Or.inl ⟨by rfl, ?_⟩) (by assumption) ?_
      rotate_left 1
      · intro w hSw; (try dsimp only at hSw); go_simp; try (with_reducible rfl)
      try simp only [Act.put, List.setIfInBounds_toArray, List.set_cons_zero, List.set_cons_succ]
      refine wpAnyH_ready (rs := [7, 10]) (by kernel_rfl) (by simp) ?_
      refine AllReadyH.cons (o := { dst := some 49, op := Op.call { callee := Callee.value (Operand.func 45), args := #[Operand.tmp 47, Operand.tmp 48], argTypes := #[29, 9] }, type := 3, pos := "l1_disk.go:235", after := #[{ on := 5, ground := Ground.data }, { on := 6, ground := Ground.data }], guard := none }) rfl (fun K hK => ?_) ?_
      rotate_left 1
      refine AllReadyH.cons (o := { dst := some 8, op := Op.alloc 83, type := 0, pos := "l1_disk.go:235", after := #[], guard := none }) rfl (fun K hK => ?_) ?_
      rotate_left 1
      exact AllReadyH.nil
      · go_simp
        refine (HCL.out W.drew (Below.refl _ W).drew).mono ?_
        rintro e w2 ⟨rfl, rfl⟩
        go_wp2_with fail
        have bB : Below W.heap.size W W.drew := (Below.refl _ W).drew
        refine hK.out _ _ (HSS.out _ bB) (fun hHeld => ?_)
        clear hK K
        try simp only [Act.put, List.setIfInBounds_toArray, List.set_cons_zero, List.set_cons_succ]
        refine wpAnyH_take (i := 8) (oi := { dst := some 50, op := Op.indexAddr 29 (Operand.tmp 44) (Operand.tmp 49), type := 0, pos := "l1_disk.go:235", after := #[{ on := 2, ground := Ground.data }, { on := 7, ground := Ground.data }], guard := none }) (v := ?_) rfl (by kernel_rfl) (by kernel_rfl) (by kernel_rfl) (fun _ _ _ h => h) (Or.inl ⟨by rfl, ?_⟩) (by assumption) ?_
        rotate_left 1
        · intro w hSw; (try dsimp only at hSw); go_simp; try (with_reducible rfl)
        try simp only [Act.put, List.setIfInBounds_toArray, List.set_cons_zero, List.set_cons_succ]
        refine wpAnyH_take (i := 9) (oi := { dst := some 51, op := Op.load 83 (Operand.tmp 50), type := 83, pos := "l1_disk.go:235", after := #[{ on := 8, ground := Ground.data }], guard := none }) (v := ?_) rfl (by kernel_rfl) (by kernel_rfl) (by kernel_rfl) (fun _ _ _ h => h) (Or.inl ⟨by rfl, ?_⟩) (by assumption) ?_
        rotate_left 1
        · intro w hSw; (try dsimp only at hSw); go_simp; try (with_reducible rfl)
        try simp only [Act.put, List.setIfInBounds_toArray, List.set_cons_zero, List.set_cons_succ]
        refine wpAnyH_ready (rs := [10]) (by kernel_rfl) (by simp) ?_
        refine AllReadyH.cons (o := { dst := some 8, op := Op.alloc 83, type := 0, pos := "l1_disk.go:235", after := #[], guard := none }) rfl (fun K hK => ?_) ?_
        rotate_left 1
        exact AllReadyH.nil
        · go_simp
          have bA1 : Below W.heap.size W (W.drew.alloc (.cells #[.string ⟨#[]⟩, .slice none 0 0] 83)) := bB.alloc (Nat.le_refl _) _
          refine hK.out _ _ (HSS.out _ bA1) (fun hHeld => ?_)
          clear hK K
          try simp only [Act.put, List.setIfInBounds_toArray, List.set_cons_zero, List.set_cons_succ]
          refine wpAnyH_ready (rs := [11]) (by kernel_rfl) (by simp) ?_
          refine AllReadyH.cons (o := { dst := none, op := Op.store 83 (Operand.tmp 8) (Operand.tmp 51), type := 0, pos := "l1_disk.go:235", after := #[{ on := 10, ground := Ground.data }, { on := 9, ground := Ground.data }, { on := 7, ground := Ground.chain }, { on := 0, ground := Ground.phase }, { on := 1, ground := Ground.phase }, { on := 2, ground := Ground.phase }, { on := 3, ground := Ground.phase }, { on := 4, ground := Ground.phase }, { on := 5, ground := Ground.phase }, { on := 6, ground := Ground.phase }, { on := 7, ground := Ground.phase }, { on := 8, ground := Ground.phase }, { on := 9, ground := Ground.phase }, { on := 10, ground := Ground.phase }], guard := none }) rfl (fun K hK => ?_) ?_
          rotate_left 1
          exact AllReadyH.nil
          · have bS : Below W.heap.size W (W.alloc (.cells #[.string fnm, .slice va ln vc] 83)).drew := ((Below.refl _ W).alloc (Nat.le_refl _) _).drew
            have bx : (W.drew.alloc (.cells #[.string ⟨#[]⟩, .slice none 0 0] 83)).heap[W.heap.size]? = some (.cells #[.string ⟨#[]⟩, .slice none 0 0] 83) := by first | exact heap_alloc_new W _ | exact heap_alloc_new W.drew _
            obtain ⟨z0, z1⟩ := box_twoF bx
            have fz := box_thawC bx
            go_simp
            clear z0 z1 fz bx
            refine hK.out _ _ (HSS.out _ bS) (fun hHeld => ?_)
            clear hK K
            try simp only [Act.put, List.setIfInBounds_toArray, List.set_cons_zero, List.set_cons_succ]
            refine wpAnyH_done (by kernel_rfl) ?_ _
            refine NoPanic.normal ?_
            have XOz : (W.alloc (.cells #[.string fnm, .slice va ln vc] 83)).drew.heap[w9.heap.size]? = some (.cells #[.int .i64 0, .slice (some ⟨g, 0, none⟩) fs.length c9, .slice b9 ps.length d9, .int .i64 cp, .int .i64 F, .bool D] 40) := (bS.block _ (by omega)).trans XO
            have jRz : (W.alloc (.cells #[.string fnm, .slice va ln vc] 83)).drew.heap[(w.heap.size + 1)]? = some (.cells #[.int .i64 0, .slice none 0 0, .slice none 0 0, .int .i64 0, .int .i64 0, .bool false] 40) := (bS.block _ (by omega)).trans jR
            have ownz := own.below bS
            have belz := belX.trans (bS.mono belX.size)
            have hsz := bS.size
            have bxz : (W.alloc (.cells #[.string fnm, .slice va ln vc] 83)).drew.heap[W.heap.size]? = some (.cells #[.string fnm, .slice va ln vc] 83) := heap_alloc_new W _
            rw [hsX] at bxz
            clear bS own XO jR belX S0 HSS HFW HCL
            try clear bB
            try clear bA0
            try clear bA1
            generalize (W.alloc (.cells #[.string fnm, .slice va ln vc] 83)).drew = Z at XOz jRz ownz belz hsz bxz ⊢
            have hN8 : w9.heap.size + 1 < Z.heap.size := (Array.getElem?_eq_some_iff.1 bxz).1
            have q1 := (box_twoF bxz).2
            have HRF : Hid (RowF Z Z.heap.size (some ⟨g, 0, none⟩) fs.length c9 xs9 (fun i => (fs.getD i (ByteArray.empty, [])).1)) := ownz.files.rowF.2.1
            go_wp2_with fail
            refine wp_region_noPanic ?_
            refine wp_region_held_drew (S := (fun w' => w'.cell? ⟨w9.heap.size + 1, 1, none⟩ = some (.slice va ln vc))) (by kernel_rfl) ?_ (fun hHeld => ?_)
            · exact q1
            refine wpAnyH_take (i := 0) (oi := { dst := some 52, op := Op.fieldAddr 40 (Operand.tmp 7) 1, type := 0, pos := "l1_disk.go:236", after := #[], guard := none }) (v := ?_) rfl (by kernel_rfl) (by kernel_rfl) (by kernel_rfl) (fun _ _ _ h => h) (Or.inl ⟨by rfl, ?_⟩) (by assumption) ?_
            rotate_left 1
            · intro w hSw; (try dsimp only at hSw); go_simp; try (with_reducible rfl)
            try simp only [Act.put, List.setIfInBounds_toArray, List.set_cons_zero, List.set_cons_succ]
            refine wpAnyH_take (i := 1) (oi := { dst := some 53, op := Op.fieldAddr 32 (Operand.tmp 52) 0, type := 0, pos := "l1_disk.go:236", after := #[{ on := 0, ground := Ground.data }], guard := none }) (v := ?_) rfl (by kernel_rfl) (by kernel_rfl) (by kernel_rfl) (fun _ _ _ h => h) (Or.inl ⟨by rfl, ?_⟩) (by assumption) ?_
            rotate_left 1
            · intro w hSw; (try dsimp only at hSw); go_simp; try (with_reducible rfl)
            try simp only [Act.put, List.setIfInBounds_toArray, List.set_cons_zero, List.set_cons_succ]
            refine wpAnyH_take (i := 3) (oi := { dst := some 55, op := Op.move (Operand.tmp 1), type := 9, pos := "l1_disk.go:236", after := #[], guard := none }) (v := ?_) rfl (by kernel_rfl) (by kernel_rfl) (by kernel_rfl) (fun _ _ _ h => h) (Or.inl ⟨by rfl, ?_⟩) (by assumption) ?_
            rotate_left 1
            · intro w hSw; (try dsimp only at hSw); go_simp; try (with_reducible rfl)
            try simp only [Act.put, List.setIfInBounds_toArray, List.set_cons_zero, List.set_cons_succ]
            refine wpAnyH_take (i := 5) (oi := { dst := some 57, op := Op.move (Operand.tmp 2), type := 9, pos := "l1_disk.go:236", after := #[], guard := none }) (v := ?_) rfl (by kernel_rfl) (by kernel_rfl) (by kernel_rfl) (fun _ _ _ h => h) (Or.inl ⟨by rfl, ?_⟩) (by assumption) ?_
            rotate_left 1
            · intro w hSw; (try dsimp only at hSw); go_simp; try (with_reducible rfl)
            try simp only [Act.put, List.setIfInBounds_toArray, List.set_cons_zero, List.set_cons_succ]
            refine wpAnyH_take (i := 7) (oi := { dst := some 59, op := Op.move (Operand.tmp 2), type := 9, pos := "l1_disk.go:236", after := #[], guard := none }) (v := ?_) rfl (by kernel_rfl) (by kernel_rfl) (by kernel_rfl) (fun _ _ _ h => h) (Or.inl ⟨by rfl, ?_⟩) (by assumption) ?_
            rotate_left 1
            · intro w hSw; (try dsimp only at hSw); go_simp; try (with_reducible rfl)
            try simp only [Act.put, List.setIfInBounds_toArray, List.set_cons_zero, List.set_cons_succ]
            refine wpAnyH_take (i := 8) (oi := { dst := some 60, op := Op.fieldAddr 83 (Operand.tmp 8) 1, type := 0, pos := "l1_disk.go:236", after := #[], guard := none }) (v := ?_) rfl (by kernel_rfl) (by kernel_rfl) (by kernel_rfl) (fun _ _ _ h => h) (Or.inl ⟨by rfl, ?_⟩) (by assumption) ?_
            rotate_left 1
            · intro w hSw; (try dsimp only at hSw); go_simp; try (with_reducible rfl)
            try simp only [Act.put, List.setIfInBounds_toArray, List.set_cons_zero, List.set_cons_succ]
            refine wpAnyH_take (i := 9) (oi := { dst := some 61, op := Op.load 27 (Operand.tmp 60), type := 27, pos := "l1_disk.go:236", after := #[{ on := 8, ground := Ground.data }], guard := none }) (v := ?_) rfl (by kernel_rfl) (by kernel_rfl) (by kernel_rfl) (fun _ _ _ h => h) (Or.inl ⟨by rfl, ?_⟩) (by assumption) ?_
            rotate_left 1
            · intro w hSw; (try dsimp only at hSw); go_simp; try (with_reducible rfl)
            try simp only [Act.put, List.setIfInBounds_toArray, List.set_cons_zero, List.set_cons_succ]
            refine wpAnyH_take (i := 10) (oi := { dst := some 62, op := Op.build 83 #[(0, Operand.tmp 59), (1, Operand.tmp 61)], type := 83, pos := "l1_disk.go:236", after := #[{ on := 7, ground := Ground.data }, { on := 9, ground := Ground.data }], guard := none }) (v := ?_) rfl (by kernel_rfl) (by kernel_rfl) (by kernel_rfl) (fun _ _ _ h => h) (Or.inl ⟨by rfl, ?_⟩) (by assumption) ?_
            rotate_left 1
            · intro w hSw; (try dsimp only at hSw); go_simp; try (with_reducible rfl)
            try simp only [Act.put, List.setIfInBounds_toArray, List.set_cons_zero, List.set_cons_succ]
            refine wpAnyH_ready (rs := [2]) (by kernel_rfl) (by simp) ?_
            refine AllReadyH.cons (o := { dst := some 54, op := Op.load 29 (Operand.tmp 53), type := 29, pos := "l1_disk.go:236", after := #[{ on := 1, ground := Ground.data }], guard := none }) rfl (fun K hK => ?_) ?_
            rotate_left 1
            exact AllReadyH.nil
            · obtain ⟨o0, o1, o2, o3, o4, o5⟩ := box_sixR XOz
              go_simp
              clear o0 o1 o2 o3 o4 o5
              refine hK.out _ _ q1 (fun hHeld => ?_)
              clear hK K
              try simp only [Act.put, List.setIfInBounds_toArray, List.set_cons_zero, List.set_cons_succ]
              refine wpAnyH_ready (rs := [4]) (by kernel_rfl) (by simp) ?_
              refine AllReadyH.cons (o := { dst := some 56, op := Op.call { callee := Callee.value (Operand.func 55), args := #[Operand.tmp 54, Operand.tmp 55], argTypes := #[29, 9] }, type := 29, pos := "l1_disk.go:236", after := #[{ on := 2, ground := Ground.data }, { on := 3, ground := Ground.data }], guard := none }) rfl (fun K hK => ?_) ?_
              rotate_left 1
              exact AllReadyH.nil
              · go_simp
                have hRd : RowF Z.drew Z.heap.size (some ⟨g, 0, none⟩) fs.length c9 xs9 (fun i => (fs.getD i (ByteArray.empty, [])).1) := HRF.out
                refine (l1Without_any _ _ _ xs9 _ fr Z.drew Z.heap.size (Nat.le_refl _) hRd hflb).mono ?_
                rintro e u1 ⟨v1, rfl, hr1, hb1x⟩
                have hb1 : Below Z.heap.size Z u1 := ((Below.refl _ Z).drew).trans hb1x
                clear hb1x hRd
                obtain ⟨va1, vc1, rfl⟩ := own_shape hr1
                have t1 := hb1.size
                have p1 : u1.cell? ⟨w9.heap.size + 1, 1, none⟩ = some (.slice va ln vc) := (World.cell?_of_block (hb1.block (w9.heap.size + 1) hN8)).trans q1
                go_wp2_with fail
                refine hK.out _ _ p1 (fun hHeld => ?_)
                clear hK K
                try simp only [Act.put, List.setIfInBounds_toArray, List.set_cons_zero, List.set_cons_succ]
                refine wpAnyH_ready (rs := [6]) (by kernel_rfl) (by simp) ?_
                refine AllReadyH.cons (o := { dst := some 58, op := Op.call { callee := Callee.value (Operand.func 55), args := #[Operand.tmp 56, Operand.tmp 57], argTypes := #[29, 9] }, type := 29, pos := "l1_disk.go:236", after := #[{ on := 4, ground := Ground.data }, { on := 5, ground := Ground.data }, { on := 4, ground := Ground.chain }], guard := none }) rfl (fun K hK => ?_) ?_
                rotate_left 1
                exact AllReadyH.nil
                · go_simp
                  have hR1 : RowF u1 u1.heap.size va1 (keptI (fun i => (fs.getD i (ByteArray.empty, [])).1) fr fs.length).length vc1 (pickR xs9 (keptI (fun i => (fs.getD i (ByteArray.empty, [])).1) fr fs.length)) (fun j => (fs.getD ((keptI (fun i => (fs.getD i (ByteArray.empty, [])).1) fr fs.length).getD j 0) (ByteArray.empty, [])).1) := rowF_pick HRF.out hr1
                  refine (l1Without_any _ _ _ _ _ to u1 u1.heap.size (Nat.le_refl _) hR1 (Nat.le_trans (keptI_len _ _ _) hflb)).mono ?_
                  rintro e u2 ⟨v2, rfl, hr2, hb2⟩
                  obtain ⟨va2, vc2, rfl⟩ := own_shape hr2
                  have t2 := hb2.size
                  have p2 : u2.cell? ⟨w9.heap.size + 1, 1, none⟩ = some (.slice va ln vc) := (World.cell?_of_block (hb2.block (w9.heap.size + 1) (by omega))).trans p1
                  go_wp2_with fail
                  refine hK.out _ _ p2 (fun hHeld => ?_)
                  clear hK K
                  try simp only [Act.put, List.setIfInBounds_toArray, List.set_cons_zero, List.set_cons_succ]
                  refine wpAnyH_ready (rs := [11]) (by kernel_rfl) (by simp) ?_
                  refine AllReadyH.cons (o := { dst := some 63, op := Op.call { callee := Callee.value (Operand.func 54), args := #[Operand.tmp 58, Operand.tmp 62], argTypes := #[29, 83] }, type := 29, pos := "l1_disk.go:236", after := #[{ on := 6, ground := Ground.data }, { on := 10, ground := Ground.data }, { on := 6, ground := Ground.chain }], guard := none }) rfl (fun K hK => ?_) ?_
                  rotate_left 1
                  exact AllReadyH.nil
                  · go_simp
                    have hR2 := rowF_pick hR1 hr2
                    refine (l1Insert_any _ _ _ _ _ to va ln vc u2 u2.heap.size (Nat.le_refl _) hR2 (Nat.le_trans (keptI_len _ _ _) (Nat.le_trans (keptI_len _ _ _) hflb))).mono ?_
                    rintro e u3 ⟨v3, rfl, p, hpos, hr3, hb3⟩
                    obtain ⟨va3, vc3, rfl⟩ := own_shape hr3
                    have t3 := hb3.size
                    have p3 : u3.cell? ⟨w9.heap.size + 1, 1, none⟩ = some (.slice va ln vc) := (World.cell?_of_block (hb3.block (w9.heap.size + 1) (by omega))).trans p2
                    have bZ3 : Below Z.heap.size Z u3 := (hb1.trans (hb2.mono t1)).trans (hb3.mono (by omega))
                    have XO3 := (bZ3.block _ (by omega)).trans XOz
                    have jR3 := (bZ3.block _ (by omega)).trans jRz
                    obtain ⟨kn, hkn⟩ : ∃ kn, kn = (keptI (fun j => (fs.getD ((keptI (fun i => (fs.getD i (ByteArray.empty, [])).1) fr fs.length).getD j 0) (ByteArray.empty, [])).1) to (keptI (fun i => (fs.getD i (ByteArray.empty, [])).1) fr fs.length).length).length + 1 := ⟨_, rfl⟩
                    have HKN : Hid (kn = _) := hkn
                    rw [← hkn] at hr3 ⊢
                    clear hkn
                    go_wp2_with fail
                    refine hK.out _ _ p3 (fun hHeld => ?_)
                    clear hK K
                    try simp only [Act.put, List.setIfInBounds_toArray, List.set_cons_zero, List.set_cons_succ]
                    refine wpAnyH_take (i := 12) (oi := { dst := some 64, op := Op.fieldAddr 40 (Operand.tmp 7) 1, type := 0, pos := "l1_disk.go:236", after := #[{ on := 0, ground := Ground.phase }, { on := 1, ground := Ground.phase }, { on := 2, ground := Ground.phase }, { on := 3, ground := Ground.phase }, { on := 4, ground := Ground.phase }, { on := 5, ground := Ground.phase }, { on := 6, ground := Ground.phase }, { on := 7, ground := Ground.phase }, { on := 8, ground := Ground.phase }, { on := 9, ground := Ground.phase }, { on := 10, ground := Ground.phase }, { on := 11, ground := Ground.phase }], guard := none }) (v := ?_) rfl (by kernel_rfl) (by kernel_rfl) (by kernel_rfl) (fun _ _ _ h => h) (Or.inl ⟨by rfl, ?_⟩) (by assumption) ?_
                    rotate_left 1
                    · intro w hSw; (try dsimp only at hSw); go_simp; try (with_reducible rfl)
                    try simp only [Act.put, List.setIfInBounds_toArray, List.set_cons_zero, List.set_cons_succ]
                    refine wpAnyH_take (i := 13) (oi := { dst := some 65, op := Op.fieldAddr 32 (Operand.tmp 64) 0, type := 0, pos := "l1_disk.go:236", after := #[{ on := 12, ground := Ground.data }, { on := 0, ground := Ground.phase }, { on := 1, ground := Ground.phase }, { on := 2, ground := Ground.phase }, { on := 3, ground := Ground.phase }, { on := 4, ground := Ground.phase }, { on := 5, ground := Ground.phase }, { on := 6, ground := Ground.phase }, { on := 7, ground := Ground.phase }, { on := 8, ground := Ground.phase }, { on := 9, ground := Ground.phase }, { on := 10, ground := Ground.phase }, { on := 11, ground := Ground.phase }], guard := none }) (v := ?_) rfl (by kernel_rfl) (by kernel_rfl) (by kernel_rfl) (fun _ _ _ h => h) (Or.inl ⟨by rfl, ?_⟩) (by assumption) ?_
                    rotate_left 1
                    · intro w hSw; (try dsimp only at hSw); go_simp; try (with_reducible rfl)
                    try simp only [Act.put, List.setIfInBounds_toArray, List.set_cons_zero, List.set_cons_succ]
                    refine wpAnyH_ready (rs := [14]) (by kernel_rfl) (by simp) ?_
                    refine AllReadyH.cons (o := { dst := none, op := Op.store 29 (Operand.tmp 65) (Operand.tmp 63), type := 0, pos := "l1_disk.go:236", after := #[{ on := 13, ground := Ground.data }, { on := 11, ground := Ground.data }, { on := 11, ground := Ground.chain }, { on := 0, ground := Ground.phase }, { on := 1, ground := Ground.phase }, { on := 2, ground := Ground.phase }, { on := 3, ground := Ground.phase }, { on := 4, ground := Ground.phase }, { on := 5, ground := Ground.phase }, { on := 6, ground := Ground.phase }, { on := 7, ground := Ground.phase }, { on := 8, ground := Ground.phase }, { on := 9, ground := Ground.phase }, { on := 10, ground := Ground.phase }, { on := 11, ground := Ground.phase }], guard := none }) rfl (fun K hK => ?_) ?_
                    rotate_left 1
                    exact AllReadyH.nil
                    · obtain ⟨o0, o1, o2, o3, o4, o5⟩ := box_sixR XO3
                      have fo := box_thawC XO3
                      have hset := fr_setCell u3 w9.heap.size 1 (.slice va3 kn vc3)
                      have p4 : (u3.setCell ⟨w9.heap.size, 1, none⟩ (.slice va3 kn vc3)).cell? ⟨w9.heap.size + 1, 1, none⟩ = some (.slice va ln vc) := (World.cell?_of_block (hset.block (w9.heap.size + 1) (by omega) (by omega))).trans p3
                      go_simp
                      clear o0 o1 o2 o3 o4 o5 fo
                      refine hK.out _ _ p4 (fun hHeld => ?_)
                      clear hK K
                      try simp only [Act.put, List.setIfInBounds_toArray, List.set_cons_zero, List.set_cons_succ]
                      refine wpAnyH_done (by kernel_rfl) ?_ _
                      refine NoPanic.normal ?_
                      have hkk : (keptI (fun j => (fs.getD ((keptI (fun i => (fs.getD i (ByteArray.empty, [])).1) fr fs.length).getD j 0) (ByteArray.empty, [])).1) to (keptI (fun i => (fs.getD i (ByteArray.empty, [])).1) fr fs.length).length).length = (keptD fs fr to).length := by rw [keptD, List.length_map]
                      have hpp : pickR (pickR xs9 (keptI (fun i => (fs.getD i (ByteArray.empty, [])).1) fr fs.length)) (keptI (fun j => (fs.getD ((keptI (fun i => (fs.getD i (ByteArray.empty, [])).1) fr fs.length).getD j 0) (ByteArray.empty, [])).1) to (keptI (fun i => (fs.getD i (ByteArray.empty, [])).1) fr fs.length).length) = pickR xs9 (keptD fs fr to) := pickR_pickR _ _ _ (fun j hj => keptI_lt hj)
                      have hr4 := own_lower hr3 (show w1''.heap.size ≤ u2.heap.size by omega)
                      rw [HKN.out, hkk, hpp] at hr4
                      rw [hkk] at hpos
                      have hpos2 : insPos (keptD fs fr to).length (fun j => (fs.getD ((keptD fs fr to).getD j 0) (ByteArray.empty, [])).1) to p := insPos_congr hpos (fun j hj => by rw [← hkk] at hj; simp only [keptD]; rw [show ((keptI _ _ _).map _).getD j 0 = _ from getD_mapN _ _ j hj])
                      have hvv : vs9.getD (findN fs fr) (.slice none 0 0) = .slice va ln vc := by rw [← HFN.out]; exact HVS.out
                      rw [← hvv] at hr4
                      have hknl : kn = (keptD fs fr to).length + 1 := by rw [HKN.out, hkk]
                      obtain ⟨xs7, vs7, own7, hsub7⟩ := ownz.files.renamed (w' := u3) (fr := fr) (to := to) (p := p) hst HE2.out (fun j hj => owns_below (ownz.files.data j hj) bZ3) hpos2 hr4
                      have hrl : (renF fs fr to).length = kn := by rw [hknl]; exact (own_len2 own7 hr4).symm
                      rw [← hknl] at own7 hsub7
                      have hnew : ∀ x, (Value.slice va3 kn vc3).ownBlock = some x → u2.heap.size ≤ x := fun x e => (hr3.lt x e).1
                      have hD : OwnD u3 w1''.heap.size (.slice va3 kn vc3) (.slice b9 ps.length d9) (renF fs fr to) ps xs7 vs7 ys9 us9 := ⟨own7, ownz.cache.below bZ3, fun x hx hx2 => by have := hlt x (.inr hx2); rcases hsub7 x hx with h1 | h1; (have := hnew x h1; omega); (exact ownz.apart x h1 hx2)⟩
                      have hset := fr_setCell u3 w9.heap.size 1 (.slice va3 kn vc3)
                      have hp5 := hD.frS hset (fun x e hx => by subst e; rcases hx with hx | hx; (rcases hsub7 _ hx with h1 | h1; (have := hnew _ h1; omega); (have := hlt _ (.inl h1); omega)); (have := hlt _ (.inr hx); omega))
                      have XO5 : (u3.setCell ⟨w9.heap.size, 1, none⟩ (.slice va3 kn vc3)).heap[w9.heap.size]? = some (.cells #[.int .i64 0, .slice va3 kn vc3, .slice b9 ps.length d9, .int .i64 cp, .int .i64 F, .bool D] 40) := heap_setCell_at XO3 1 (.slice va3 kn vc3)
                      have jR5 : (u3.setCell ⟨w9.heap.size, 1, none⟩ (.slice va3 kn vc3)).heap[(w.heap.size + 1)]? = some (.cells #[.int .i64 0, .slice none 0 0, .slice none 0 0, .int .i64 0, .int .i64 0, .bool false] 40) := (hset.block _ (by omega) (fun e => by omega)).trans jR3
                      have hbY : Below w.heap.size w (u3.setCell ⟨w9.heap.size, 1, none⟩ (.slice va3 kn vc3)) := (belz.trans (bZ3.mono (by omega))).trans (hset.below (by omega) (fun g e => by omega))
                      have hsY : w9.heap.size < (u3.setCell ⟨w9.heap.size, 1, none⟩ (.slice va3 kn vc3)).heap.size := (Array.getElem?_eq_some_iff.1 XO5).1
                      rw [← hrl] at hp5
                      have HR0 : ResAt w (.returned (.agg #[.int .i64 0, .slice va3 (renF fs fr to).length vc3, .slice b9 ps.length d9, .int .i64 cp, .int .i64 F, .bool D])) (put6R _ (w.heap.size + 1) (.int .i64 0) (.slice va3 (renF fs fr to).length vc3) (.slice b9 ps.length d9) (.int .i64 cp) (.int .i64 F) (.bool D)) 0 (renF fs fr to) ps cp F D := ResAt.mk6 (by omega) (base := w1''.heap.size) hp5 (by omega) (by rw [hrl]; omega) (by rw [hrl]; exact hbY)
                      rw [hrl] at HR0
                      have HR : Hid (ResAt w (.returned (.agg #[.int .i64 0, .slice va3 kn vc3, .slice b9 ps.length d9, .int .i64 cp, .int .i64 F, .bool D])) (put6R (u3.setCell ⟨w9.heap.size, 1, none⟩ (.slice va3 kn vc3)) (w.heap.size + 1) (.int .i64 0) (.slice va3 kn vc3) (.slice b9 ps.length d9) (.int .i64 cp) (.int .i64 F) (.bool D)) 0 (renF fs fr to) ps cp F D) := HR0
                      have HB := put6R_box jR5 (.int .i64 0) (.slice va3 kn vc3) (.slice b9 ps.length d9) (.int .i64 cp) (.int .i64 F) (.bool D)
                      obtain ⟨y0, y1, y2, y3, y4, y5⟩ := box_sixR XO5
                      obtain ⟨r0, r1, r2, r3, r4, r5⟩ := box_sixR jR5
                      have ff := box_thawC jR5
                      clear HR0 hp5 hD hset hbY jR5 XO5 jR3 XO3 own7 hsub7 hnew hknl hrl hvv hpos2 hpos hr4 hpp hkk hr3 hR2 hr2 hR1 hr1 bZ3 hb1 hb2 hb3 ownz XOz jRz belz bxz hlt p1 p2 p3 p4 q1
                      generalize (u3.setCell ⟨w9.heap.size, 1, none⟩ (.slice va3 kn vc3)) = Z9 at *
                      go_wp2
                      show bodyPost _ _ _ _ _ (put6R Z9 (w.heap.size + 1) (.int .i64 0) (.slice va3 kn vc3) (.slice b9 ps.length d9) (.int .i64 cp) (.int .i64 F) (.bool D))
                      clear r0 r1 r2 r3 r4 r5
                      obtain ⟨r0, r1, r2, r3, r4, r5⟩ := box_sixR HB
                      exact bodyPost_ret (v := .agg #[.int .i64 0, .slice va3 kn vc3, .slice b9 ps.length d9, .int .i64 cp, .int .i64 F, .bool D]) (by simp [results, Try.results22, go_sem, r0, r1, r2, r3, r4, r5]) rfl (by rw [HW.out, HX.out.1, HX.out.2.1, HX.out.2.2.1, HX.out.2.2.2.1, HX.out.2.2.2.2]; exact HR.out)
      · go_simp
        have bA0 : Below W.heap.size W (W.alloc (.cells #[.string ⟨#[]⟩, .slice none 0 0] 83)).drew := ((Below.refl _ W).alloc (Nat.le_refl _) _).drew
        refine hK.out _ _ (HSS.out _ bA0) (fun hHeld => ?_)
        clear hK K
        try simp only [Act.put, List.setIfInBounds_toArray, List.set_cons_zero, List.set_cons_succ]
        refine wpAnyH_ready (rs := [7]) (by kernel_rfl) (by simp) ?_
        refine AllReadyH.cons (o := { dst := some 49, op := Op.call { callee := Callee.value (Operand.func 45), args := #[Operand.tmp 47, Operand.tmp 48], argTypes := #[29, 9] }, type := 3, pos := "l1_disk.go:235", after := #[{ on := 5, ground := Ground.data }, { on := 6, ground := Ground.data }], guard := none }) rfl (fun K hK => ?_) ?_
        rotate_left 1
        exact AllReadyH.nil
        · go_simp
          refine (HCL.out _ bA0).mono ?_
          rintro e w2 ⟨rfl, rfl⟩
          go_wp2_with fail
          refine hK.out _ _ (HSS.out _ bA0) (fun hHeld => ?_)
          clear hK K
          try simp only [Act.put, List.setIfInBounds_toArray, List.set_cons_zero, List.set_cons_succ]
          refine wpAnyH_take (i := 8) (oi := { dst := some 50, op := Op.indexAddr 29 (Operand.tmp 44) (Operand.tmp 49), type := 0, pos := "l1_disk.go:235", after := #[{ on := 2, ground := Ground.data }, { on := 7, ground := Ground.data }], guard := none }) (v := ?_) rfl (by kernel_rfl) (by kernel_rfl) (by kernel_rfl) (fun _ _ _ h => h) (Or.inl ⟨by rfl, ?_⟩) (by assumption) ?_
          rotate_left 1
          · intro w hSw; (try dsimp only at hSw); go_simp; try (with_reducible rfl)
          try simp only [Act.put, List.setIfInBounds_toArray, List.set_cons_zero, List.set_cons_succ]
          refine wpAnyH_take (i := 9) (oi := { dst := some 51, op := Op.load 83 (Operand.tmp 50), type := 83, pos := "l1_disk.go:235", after := #[{ on := 8, ground := Ground.data }], guard := none }) (v := ?_) rfl (by kernel_rfl) (by kernel_rfl) (by kernel_rfl) (fun _ _ _ h => h) (Or.inl ⟨by rfl, ?_⟩) (by assumption) ?_
          rotate_left 1
          · intro w hSw; (try dsimp only at hSw); go_simp; try (with_reducible rfl)
          try simp only [Act.put, List.setIfInBounds_toArray, List.set_cons_zero, List.set_cons_succ]
          refine wpAnyH_ready (rs := [11]) (by kernel_rfl) (by simp) ?_
          refine AllReadyH.cons (o := { dst := none, op := Op.store 83 (Operand.tmp 8) (Operand.tmp 51), type := 0, pos := "l1_disk.go:235", after := #[{ on := 10, ground := Ground.data }, { on := 9, ground := Ground.data }, { on := 7, ground := Ground.chain }, { on := 0, ground := Ground.phase }, { on := 1, ground := Ground.phase }, { on := 2, ground := Ground.phase }, { on := 3, ground := Ground.phase }, { on := 4, ground := Ground.phase }, { on := 5, ground := Ground.phase }, { on := 6, ground := Ground.phase }, { on := 7, ground := Ground.phase }, { on := 8, ground := Ground.phase }, { on := 9, ground := Ground.phase }, { on := 10, ground := Ground.phase }], guard := none }) rfl (fun K hK => ?_) ?_
          rotate_left 1
          exact AllReadyH.nil
          · have bS : Below W.heap.size W (W.alloc (.cells #[.string fnm, .slice va ln vc] 83)).drew := ((Below.refl _ W).alloc (Nat.le_refl _) _).drew
            have bx : (W.alloc (.cells #[.string ⟨#[]⟩, .slice none 0 0] 83)).drew.heap[W.heap.size]? = some (.cells #[.string ⟨#[]⟩, .slice none 0 0] 83) := by first | exact heap_alloc_new W _ | exact heap_alloc_new W.drew _
            obtain ⟨z0, z1⟩ := box_twoF bx
            have fz := box_thawC bx
            go_simp
            clear z0 z1 fz bx
            refine hK.out _ _ (HSS.out _ bS) (fun hHeld => ?_)
            clear hK K
            try simp only [Act.put, List.setIfInBounds_toArray, List.set_cons_zero, List.set_cons_succ]
            refine wpAnyH_done (by kernel_rfl) ?_ _
            refine NoPanic.normal ?_
            have XOz : (W.alloc (.cells #[.string fnm, .slice va ln vc] 83)).drew.heap[w9.heap.size]? = some (.cells #[.int .i64 0, .slice (some ⟨g, 0, none⟩) fs.length c9, .slice b9 ps.length d9, .int .i64 cp, .int .i64 F, .bool D] 40) := (bS.block _ (by omega)).trans XO
            have jRz : (W.alloc (.cells #[.string fnm, .slice va ln vc] 83)).drew.heap[(w.heap.size + 1)]? = some (.cells #[.int .i64 0, .slice none 0 0, .slice none 0 0, .int .i64 0, .int .i64 0, .bool false] 40) := (bS.block _ (by omega)).trans jR
            have ownz := own.below bS
            have belz := belX.trans (bS.mono belX.size)
            have hsz := bS.size
            have bxz : (W.alloc (.cells #[.string fnm, .slice va ln vc] 83)).drew.heap[W.heap.size]? = some (.cells #[.string fnm, .slice va ln vc] 83) := heap_alloc_new W _
            rw [hsX] at bxz
            clear bS own XO jR belX S0 HSS HFW HCL
            try clear bB
            try clear bA0
            try clear bA1
            generalize (W.alloc (.cells #[.string fnm, .slice va ln vc] 83)).drew = Z at XOz jRz ownz belz hsz bxz ⊢
            have hN8 : w9.heap.size + 1 < Z.heap.size := (Array.getElem?_eq_some_iff.1 bxz).1
            have q1 := (box_twoF bxz).2
            have HRF : Hid (RowF Z Z.heap.size (some ⟨g, 0, none⟩) fs.length c9 xs9 (fun i => (fs.getD i (ByteArray.empty, [])).1)) := ownz.files.rowF.2.1
            go_wp2_with fail
            refine wp_region_noPanic ?_
            refine wp_region_held_drew (S := (fun w' => w'.cell? ⟨w9.heap.size + 1, 1, none⟩ = some (.slice va ln vc))) (by kernel_rfl) ?_ (fun hHeld => ?_)
            · exact q1
            refine wpAnyH_take (i := 0) (oi := { dst := some 52, op := Op.fieldAddr 40 (Operand.tmp 7) 1, type := 0, pos := "l1_disk.go:236", after := #[], guard := none }) (v := ?_) rfl (by kernel_rfl) (by kernel_rfl) (by kernel_rfl) (fun _ _ _ h => h) (Or.inl ⟨by rfl, ?_⟩) (by assumption) ?_
            rotate_left 1
            · intro w hSw; (try dsimp only at hSw); go_simp; try (with_reducible rfl)
            try simp only [Act.put, List.setIfInBounds_toArray, List.set_cons_zero, List.set_cons_succ]
            refine wpAnyH_take (i := 1) (oi := { dst := some 53, op := Op.fieldAddr 32 (Operand.tmp 52) 0, type := 0, pos := "l1_disk.go:236", after := #[{ on := 0, ground := Ground.data }], guard := none }) (v := ?_) rfl (by kernel_rfl) (by kernel_rfl) (by kernel_rfl) (fun _ _ _ h => h) (Or.inl ⟨by rfl, ?_⟩) (by assumption) ?_
            rotate_left 1
            · intro w hSw; (try dsimp only at hSw); go_simp; try (with_reducible rfl)
            try simp only [Act.put, List.setIfInBounds_toArray, List.set_cons_zero, List.set_cons_succ]
            refine wpAnyH_take (i := 3) (oi := { dst := some 55, op := Op.move (Operand.tmp 1), type := 9, pos := "l1_disk.go:236", after := #[], guard := none }) (v := ?_) rfl (by kernel_rfl) (by kernel_rfl) (by kernel_rfl) (fun _ _ _ h => h) (Or.inl ⟨by rfl, ?_⟩) (by assumption) ?_
            rotate_left 1
            · intro w hSw; (try dsimp only at hSw); go_simp; try (with_reducible rfl)
            try simp only [Act.put, List.setIfInBounds_toArray, List.set_cons_zero, List.set_cons_succ]
            refine wpAnyH_take (i := 5) (oi := { dst := some 57, op := Op.move (Operand.tmp 2), type := 9, pos := "l1_disk.go:236", after := #[], guard := none }) (v := ?_) rfl (by kernel_rfl) (by kernel_rfl) (by kernel_rfl) (fun _ _ _ h => h) (Or.inl ⟨by rfl, ?_⟩) (by assumption) ?_
            rotate_left 1
            · intro w hSw; (try dsimp only at hSw); go_simp; try (with_reducible rfl)
            try simp only [Act.put, List.setIfInBounds_toArray, List.set_cons_zero, List.set_cons_succ]
            refine wpAnyH_take (i := 7) (oi := { dst := some 59, op := Op.move (Operand.tmp 2), type := 9, pos := "l1_disk.go:236", after := #[], guard := none }) (v := ?_) rfl (by kernel_rfl) (by kernel_rfl) (by kernel_rfl) (fun _ _ _ h => h) (Or.inl ⟨by rfl, ?_⟩) (by assumption) ?_
            rotate_left 1
            · intro w hSw; (try dsimp only at hSw); go_simp; try (with_reducible rfl)
            try simp only [Act.put, List.setIfInBounds_toArray, List.set_cons_zero, List.set_cons_succ]
            refine wpAnyH_take (i := 8) (oi := { dst := some 60, op := Op.fieldAddr 83 (Operand.tmp 8) 1, type := 0, pos := "l1_disk.go:236", after := #[], guard := none }) (v := ?_) rfl (by kernel_rfl) (by kernel_rfl) (by kernel_rfl) (fun _ _ _ h => h) (Or.inl ⟨by rfl, ?_⟩) (by assumption) ?_
            rotate_left 1
            · intro w hSw; (try dsimp only at hSw); go_simp; try (with_reducible rfl)
            try simp only [Act.put, List.setIfInBounds_toArray, List.set_cons_zero, List.set_cons_succ]
            refine wpAnyH_take (i := 9) (oi := { dst := some 61, op := Op.load 27 (Operand.tmp 60), type := 27, pos := "l1_disk.go:236", after := #[{ on := 8, ground := Ground.data }], guard := none }) (v := ?_) rfl (by kernel_rfl) (by kernel_rfl) (by kernel_rfl) (fun _ _ _ h => h) (Or.inl ⟨by rfl, ?_⟩) (by assumption) ?_
            rotate_left 1
            · intro w hSw; (try dsimp only at hSw); go_simp; try (with_reducible rfl)
            try simp only [Act.put, List.setIfInBounds_toArray, List.set_cons_zero, List.set_cons_succ]
            refine wpAnyH_take (i := 10) (oi := { dst := some 62, op := Op.build 83 #[(0, Operand.tmp 59), (1, Operand.tmp 61)], type := 83, pos := "l1_disk.go:236", after := #[{ on := 7, ground := Ground.data }, { on := 9, ground := Ground.data }], guard := none }) (v := ?_) rfl (by kernel_rfl) (by kernel_rfl) (by kernel_rfl) (fun _ _ _ h => h) (Or.inl ⟨by rfl, ?_⟩) (by assumption) ?_
            rotate_left 1
            · intro w hSw; (try dsimp only at hSw); go_simp; try (with_reducible rfl)
            try simp only [Act.put, List.setIfInBounds_toArray, List.set_cons_zero, List.set_cons_succ]
            refine wpAnyH_ready (rs := [2]) (by kernel_rfl) (by simp) ?_
            refine AllReadyH.cons (o := { dst := some 54, op := Op.load 29 (Operand.tmp 53), type := 29, pos := "l1_disk.go:236", after := #[{ on := 1, ground := Ground.data }], guard := none }) rfl (fun K hK => ?_) ?_
            rotate_left 1
            exact AllReadyH.nil
            · obtain ⟨o0, o1, o2, o3, o4, o5⟩ := box_sixR XOz
              go_simp
              clear o0 o1 o2 o3 o4 o5
              refine hK.out _ _ q1 (fun hHeld => ?_)
              clear hK K
              try simp only [Act.put, List.setIfInBounds_toArray, List.set_cons_zero, List.set_cons_succ]
              refine wpAnyH_ready (rs := [4]) (by kernel_rfl) (by simp) ?_
              refine AllReadyH.cons (o := { dst := some 56, op := Op.call { callee := Callee.value (Operand.func 55), args := #[Operand.tmp 54, Operand.tmp 55], argTypes := #[29, 9] }, type := 29, pos := "l1_disk.go:236", after := #[{ on := 2, ground := Ground.data }, { on := 3, ground := Ground.data }], guard := none }) rfl (fun K hK => ?_) ?_
              rotate_left 1
              exact AllReadyH.nil
              · go_simp
                have hRd : RowF Z.drew Z.heap.size (some ⟨g, 0, none⟩) fs.length c9 xs9 (fun i => (fs.getD i (ByteArray.empty, [])).1) := HRF.out
                refine (l1Without_any _ _ _ xs9 _ fr Z.drew Z.heap.size (Nat.le_refl _) hRd hflb).mono ?_
                rintro e u1 ⟨v1, rfl, hr1, hb1x⟩
                have hb1 : Below Z.heap.size Z u1 := ((Below.refl _ Z).drew).trans hb1x
                clear hb1x hRd
                obtain ⟨va1, vc1, rfl⟩ := own_shape hr1
                have t1 := hb1.size
                have p1 : u1.cell? ⟨w9.heap.size + 1, 1, none⟩ = some (.slice va ln vc) := (World.cell?_of_block (hb1.block (w9.heap.size + 1) hN8)).trans q1
                go_wp2_with fail
                refine hK.out _ _ p1 (fun hHeld => ?_)
                clear hK K
                try simp only [Act.put, List.setIfInBounds_toArray, List.set_cons_zero, List.set_cons_succ]
                refine wpAnyH_ready (rs := [6]) (by kernel_rfl) (by simp) ?_
                refine AllReadyH.cons (o := { dst := some 58, op := Op.call { callee := Callee.value (Operand.func 55), args := #[Operand.tmp 56, Operand.tmp 57], argTypes := #[29, 9] }, type := 29, pos := "l1_disk.go:236", after := #[{ on := 4, ground := Ground.data }, { on := 5, ground := Ground.data }, { on := 4, ground := Ground.chain }], guard := none }) rfl (fun K hK => ?_) ?_
                rotate_left 1
                exact AllReadyH.nil
                · go_simp
                  have hR1 : RowF u1 u1.heap.size va1 (keptI (fun i => (fs.getD i (ByteArray.empty, [])).1) fr fs.length).length vc1 (pickR xs9 (keptI (fun i => (fs.getD i (ByteArray.empty, [])).1) fr fs.length)) (fun j => (fs.getD ((keptI (fun i => (fs.getD i (ByteArray.empty, [])).1) fr fs.length).getD j 0) (ByteArray.empty, [])).1) := rowF_pick HRF.out hr1
                  refine (l1Without_any _ _ _ _ _ to u1 u1.heap.size (Nat.le_refl _) hR1 (Nat.le_trans (keptI_len _ _ _) hflb)).mono ?_
                  rintro e u2 ⟨v2, rfl, hr2, hb2⟩
                  obtain ⟨va2, vc2, rfl⟩ := own_shape hr2
                  have t2 := hb2.size
                  have p2 : u2.cell? ⟨w9.heap.size + 1, 1, none⟩ = some (.slice va ln vc) := (World.cell?_of_block (hb2.block (w9.heap.size + 1) (by omega))).trans p1
                  go_wp2_with fail
                  refine hK.out _ _ p2 (fun hHeld => ?_)
                  clear hK K
                  try simp only [Act.put, List.setIfInBounds_toArray, List.set_cons_zero, List.set_cons_succ]
                  refine wpAnyH_ready (rs := [11]) (by kernel_rfl) (by simp) ?_
                  refine AllReadyH.cons (o := { dst := some 63, op := Op.call { callee := Callee.value (Operand.func 54), args := #[Operand.tmp 58, Operand.tmp 62], argTypes := #[29, 83] }, type := 29, pos := "l1_disk.go:236", after := #[{ on := 6, ground := Ground.data }, { on := 10, ground := Ground.data }, { on := 6, ground := Ground.chain }], guard := none }) rfl (fun K hK => ?_) ?_
                  rotate_left 1
                  exact AllReadyH.nil
                  · go_simp
                    have hR2 := rowF_pick hR1 hr2
                    refine (l1Insert_any _ _ _ _ _ to va ln vc u2 u2.heap.size (Nat.le_refl _) hR2 (Nat.le_trans (keptI_len _ _ _) (Nat.le_trans (keptI_len _ _ _) hflb))).mono ?_
                    rintro e u3 ⟨v3, rfl, p, hpos, hr3, hb3⟩
                    obtain ⟨va3, vc3, rfl⟩ := own_shape hr3
                    have t3 := hb3.size
                    have p3 : u3.cell? ⟨w9.heap.size + 1, 1, none⟩ = some (.slice va ln vc) := (World.cell?_of_block (hb3.block (w9.heap.size + 1) (by omega))).trans p2
                    have bZ3 : Below Z.heap.size Z u3 := (hb1.trans (hb2.mono t1)).trans (hb3.mono (by omega))
                    have XO3 := (bZ3.block _ (by omega)).trans XOz
                    have jR3 := (bZ3.block _ (by omega)).trans jRz
                    obtain ⟨kn, hkn⟩ : ∃ kn, kn = (keptI (fun j => (fs.getD ((keptI (fun i => (fs.getD i (ByteArray.empty, [])).1) fr fs.length).getD j 0) (ByteArray.empty, [])).1) to (keptI (fun i => (fs.getD i (ByteArray.empty, [])).1) fr fs.length).length).length + 1 := ⟨_, rfl⟩
                    have HKN : Hid (kn = _) := hkn
                    rw [← hkn] at hr3 ⊢
                    clear hkn
                    go_wp2_with fail
                    refine hK.out _ _ p3 (fun hHeld => ?_)
                    clear hK K
                    try simp only [Act.put, List.setIfInBounds_toArray, List.set_cons_zero, List.set_cons_succ]
                    refine wpAnyH_take (i := 12) (oi := { dst := some 64, op := Op.fieldAddr 40 (Operand.tmp 7) 1, type := 0, pos := "l1_disk.go:236", after := #[{ on := 0, ground := Ground.phase }, { on := 1, ground := Ground.phase }, { on := 2, ground := Ground.phase }, { on := 3, ground := Ground.phase }, { on := 4, ground := Ground.phase }, { on := 5, ground := Ground.phase }, { on := 6, ground := Ground.phase }, { on := 7, ground := Ground.phase }, { on := 8, ground := Ground.phase }, { on := 9, ground := Ground.phase }, { on := 10, ground := Ground.phase }, { on := 11, ground := Ground.phase }], guard := none }) (v := ?_) rfl (by kernel_rfl) (by kernel_rfl) (by kernel_rfl) (fun _ _ _ h => h) (Or.inl ⟨by rfl, ?_⟩) (by assumption) ?_
                    rotate_left 1
                    · intro w hSw; (try dsimp only at hSw); go_simp; try (with_reducible rfl)
                    try simp only [Act.put, List.setIfInBounds_toArray, List.set_cons_zero, List.set_cons_succ]
                    refine wpAnyH_take (i := 13) (oi := { dst := some 65, op := Op.fieldAddr 32 (Operand.tmp 64) 0, type := 0, pos := "l1_disk.go:236", after := #[{ on := 12, ground := Ground.data }, { on := 0, ground := Ground.phase }, { on := 1, ground := Ground.phase }, { on := 2, ground := Ground.phase }, { on := 3, ground := Ground.phase }, { on := 4, ground := Ground.phase }, { on := 5, ground := Ground.phase }, { on := 6, ground := Ground.phase }, { on := 7, ground := Ground.phase }, { on := 8, ground := Ground.phase }, { on := 9, ground := Ground.phase }, { on := 10, ground := Ground.phase }, { on := 11, ground := Ground.phase }], guard := none }) (v := ?_) rfl (by kernel_rfl) (by kernel_rfl) (by kernel_rfl) (fun _ _ _ h => h) (Or.inl ⟨by rfl, ?_⟩) (by assumption) ?_
                    rotate_left 1
                    · intro w hSw; (try dsimp only at hSw); go_simp; try (with_reducible rfl)
                    try simp only [Act.put, List.setIfInBounds_toArray, List.set_cons_zero, List.set_cons_succ]
                    refine wpAnyH_ready (rs := [14]) (by kernel_rfl) (by simp) ?_
                    refine AllReadyH.cons (o := { dst := none, op := Op.store 29 (Operand.tmp 65) (Operand.tmp 63), type := 0, pos := "l1_disk.go:236", after := #[{ on := 13, ground := Ground.data }, { on := 11, ground := Ground.data }, { on := 11, ground := Ground.chain }, { on := 0, ground := Ground.phase }, { on := 1, ground := Ground.phase }, { on := 2, ground := Ground.phase }, { on := 3, ground := Ground.phase }, { on := 4, ground := Ground.phase }, { on := 5, ground := Ground.phase }, { on := 6, ground := Ground.phase }, { on := 7, ground := Ground.phase }, { on := 8, ground := Ground.phase }, { on := 9, ground := Ground.phase }, { on := 10, ground := Ground.phase }, { on := 11, ground := Ground.phase }], guard := none }) rfl (fun K hK => ?_) ?_
                    rotate_left 1
                    exact AllReadyH.nil
                    · obtain ⟨o0, o1, o2, o3, o4, o5⟩ := box_sixR XO3
                      have fo := box_thawC XO3
                      have hset := fr_setCell u3 w9.heap.size 1 (.slice va3 kn vc3)
                      have p4 : (u3.setCell ⟨w9.heap.size, 1, none⟩ (.slice va3 kn vc3)).cell? ⟨w9.heap.size + 1, 1, none⟩ = some (.slice va ln vc) := (World.cell?_of_block (hset.block (w9.heap.size + 1) (by omega) (by omega))).trans p3
                      go_simp
                      clear o0 o1 o2 o3 o4 o5 fo
                      refine hK.out _ _ p4 (fun hHeld => ?_)
                      clear hK K
                      try simp only [Act.put, List.setIfInBounds_toArray, List.set_cons_zero, List.set_cons_succ]
                      refine wpAnyH_done (by kernel_rfl) ?_ _
                      refine NoPanic.normal ?_
                      have hkk : (keptI (fun j => (fs.getD ((keptI (fun i => (fs.getD i (ByteArray.empty, [])).1) fr fs.length).getD j 0) (ByteArray.empty, [])).1) to (keptI (fun i => (fs.getD i (ByteArray.empty, [])).1) fr fs.length).length).length = (keptD fs fr to).length := by rw [keptD, List.length_map]
                      have hpp : pickR (pickR xs9 (keptI (fun i => (fs.getD i (ByteArray.empty, [])).1) fr fs.length)) (keptI (fun j => (fs.getD ((keptI (fun i => (fs.getD i (ByteArray.empty, [])).1) fr fs.length).getD j 0) (ByteArray.empty, [])).1) to (keptI (fun i => (fs.getD i (ByteArray.empty, [])).1) fr fs.length).length) = pickR xs9 (keptD fs fr to) := pickR_pickR _ _ _ (fun j hj => keptI_lt hj)
                      have hr4 := own_lower hr3 (show w1''.heap.size ≤ u2.heap.size by omega)
                      rw [HKN.out, hkk, hpp] at hr4
                      rw [hkk] at hpos
                      have hpos2 : insPos (keptD fs fr to).length (fun j => (fs.getD ((keptD fs fr to).getD j 0) (ByteArray.empty, [])).1) to p := insPos_congr hpos (fun j hj => by rw [← hkk] at hj; simp only [keptD]; rw [show ((keptI _ _ _).map _).getD j 0 = _ from getD_mapN _ _ j hj])
                      have hvv : vs9.getD (findN fs fr) (.slice none 0 0) = .slice va ln vc := by rw [← HFN.out]; exact HVS.out
                      rw [← hvv] at hr4
                      have hknl : kn = (keptD fs fr to).length + 1 := by rw [HKN.out, hkk]
                      obtain ⟨xs7, vs7, own7, hsub7⟩ := ownz.files.renamed (w' := u3) (fr := fr) (to := to) (p := p) hst HE2.out (fun j hj => owns_below (ownz.files.data j hj) bZ3) hpos2 hr4
                      have hrl : (renF fs fr to).length = kn := by rw [hknl]; exact (own_len2 own7 hr4).symm
                      rw [← hknl] at own7 hsub7
                      have hnew : ∀ x, (Value.slice va3 kn vc3).ownBlock = some x → u2.heap.size ≤ x := fun x e => (hr3.lt x e).1
                      have hD : OwnD u3 w1''.heap.size (.slice va3 kn vc3) (.slice b9 ps.length d9) (renF fs fr to) ps xs7 vs7 ys9 us9 := ⟨own7, ownz.cache.below bZ3, fun x hx hx2 => by have := hlt x (.inr hx2); rcases hsub7 x hx with h1 | h1; (have := hnew x h1; omega); (exact ownz.apart x h1 hx2)⟩
                      have hset := fr_setCell u3 w9.heap.size 1 (.slice va3 kn vc3)
                      have hp5 := hD.frS hset (fun x e hx => by subst e; rcases hx with hx | hx; (rcases hsub7 _ hx with h1 | h1; (have := hnew _ h1; omega); (have := hlt _ (.inl h1); omega)); (have := hlt _ (.inr hx); omega))
                      have XO5 : (u3.setCell ⟨w9.heap.size, 1, none⟩ (.slice va3 kn vc3)).heap[w9.heap.size]? = some (.cells #[.int .i64 0, .slice va3 kn vc3, .slice b9 ps.length d9, .int .i64 cp, .int .i64 F, .bool D] 40) := heap_setCell_at XO3 1 (.slice va3 kn vc3)
                      have jR5 : (u3.setCell ⟨w9.heap.size, 1, none⟩ (.slice va3 kn vc3)).heap[(w.heap.size + 1)]? = some (.cells #[.int .i64 0, .slice none 0 0, .slice none 0 0, .int .i64 0, .int .i64 0, .bool false] 40) := (hset.block _ (by omega) (fun e => by omega)).trans jR3
                      have hbY : Below w.heap.size w (u3.setCell ⟨w9.heap.size, 1, none⟩ (.slice va3 kn vc3)) := (belz.trans (bZ3.mono (by omega))).trans (hset.below (by omega) (fun g e => by omega))
                      have hsY : w9.heap.size < (u3.setCell ⟨w9.heap.size, 1, none⟩ (.slice va3 kn vc3)).heap.size := (Array.getElem?_eq_some_iff.1 XO5).1
                      rw [← hrl] at hp5
                      have HR0 : ResAt w (.returned (.agg #[.int .i64 0, .slice va3 (renF fs fr to).length vc3, .slice b9 ps.length d9, .int .i64 cp, .int .i64 F, .bool D])) (put6R _ (w.heap.size + 1) (.int .i64 0) (.slice va3 (renF fs fr to).length vc3) (.slice b9 ps.length d9) (.int .i64 cp) (.int .i64 F) (.bool D)) 0 (renF fs fr to) ps cp F D := ResAt.mk6 (by omega) (base := w1''.heap.size) hp5 (by omega) (by rw [hrl]; omega) (by rw [hrl]; exact hbY)
                      rw [hrl] at HR0
                      have HR : Hid (ResAt w (.returned (.agg #[.int .i64 0, .slice va3 kn vc3, .slice b9 ps.length d9, .int .i64 cp, .int .i64 F, .bool D])) (put6R (u3.setCell ⟨w9.heap.size, 1, none⟩ (.slice va3 kn vc3)) (w.heap.size + 1) (.int .i64 0) (.slice va3 kn vc3) (.slice b9 ps.length d9) (.int .i64 cp) (.int .i64 F) (.bool D)) 0 (renF fs fr to) ps cp F D) := HR0
                      have HB := put6R_box jR5 (.int .i64 0) (.slice va3 kn vc3) (.slice b9 ps.length d9) (.int .i64 cp) (.int .i64 F) (.bool D)
                      obtain ⟨y0, y1, y2, y3, y4, y5⟩ := box_sixR XO5
                      obtain ⟨r0, r1, r2, r3, r4, r5⟩ := box_sixR jR5
                      have ff := box_thawC jR5
                      clear HR0 hp5 hD hset hbY jR5 XO5 jR3 XO3 own7 hsub7 hnew hknl hrl hvv hpos2 hpos hr4 hpp hkk hr3 hR2 hr2 hR1 hr1 bZ3 hb1 hb2 hb3 ownz XOz jRz belz bxz hlt p1 p2 p3 p4 q1
                      generalize (u3.setCell ⟨w9.heap.size, 1, none⟩ (.slice va3 kn vc3)) = Z9 at *
                      go_wp2
                      show bodyPost _ _ _ _ _ (put6R Z9 (w.heap.size + 1) (.int .i64 0) (.slice va3 kn vc3) (.slice b9 ps.length d9) (.int .i64 cp) (.int .i64 F) (.bool D))
                      clear r0 r1 r2 r3 r4 r5
                      obtain ⟨r0, r1, r2, r3, r4, r5⟩ := box_sixR HB
                      exact bodyPost_ret (v := .agg #[.int .i64 0, .slice va3 kn vc3, .slice b9 ps.length d9, .int .i64 cp, .int .i64 F, .bool D]) (by simp [results, Try.results22, go_sem, r0, r1, r2, r3, r4, r5]) rfl (by rw [HW.out, HX.out.1, HX.out.2.1, HX.out.2.2.1, HX.out.2.2.2.1, HX.out.2.2.2.2]; exact HR.out)
end Go.Proofs.Ytmmdkjeoadlikaa
