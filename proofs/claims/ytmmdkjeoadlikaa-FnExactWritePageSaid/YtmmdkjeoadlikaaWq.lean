import Derived.Test.YtmmdkjeoadlikaaWp
import Derived.Test.YtmmdkjeoadlikaaSeen
import Derived.Test.YtmmdkjeoadlikaaIn
namespace Go.Proofs.Ytmmdkjeoadlikaa
open Go.RowKit
set_option linter.unusedVariables false
set_option maxRecDepth 100000
theorem rwI_eq {fs : List PF} {ps : List PP} {cp fu : Int} {nm : ByteArray} {pg : Int} {bs : List Int} (hv : implV fs ps cp fu = true) (hn : nameB nm = true) (hb : bs.length = 128) (h1 : 0 ≤ pg) (h2 : pg ≤ lenI (lastF ps fs) nm) :
    rwI fs ps cp fu false nm pg bs = if ps.length = 1000 ∨ (pg = lenI (lastF ps fs) nm ∧ totalI (lastF ps fs) = cp) ∨ (findI (lastF ps fs) nm < 0 ∧ (lastF ps fs).length = 12) then 2 else 0 := by
  obtain ⟨q1, q2, q3⟩ := specV_partsW hv.symm
  have hI : Inv (lastF ps fs) := by
    refine inv_lastW _ _ (inv_all ?_)
    have h3 := hv
    simp only [implV, Bool.and_eq_true] at h3
    exact h3.1.1.2
  obtain ⟨k, rfl⟩ := Int.eq_ofNat_of_zero_le h1
  have ht := doP_total2 (bs := bs) hI h2
  have hl := doP_len (lastF ps fs) nm k bs
  unfold rwI
  rw [if_pos ⟨hv, rfl, hn, hb⟩, if_neg (by omega), Int.toNat_natCast, ht, hl]
  have hiff : (ps.length = 1000 ∨ 12 < (if findN (lastF ps fs) nm < (lastF ps fs).length then (lastF ps fs).length else (lastF ps fs).length + 1) ∨ cp < totalI (lastF ps fs) + (if (k : Int) = lenI (lastF ps fs) nm then 1 else 0)) ↔ (ps.length = 1000 ∨ ((k : Int) = lenI (lastF ps fs) nm ∧ totalI (lastF ps fs) = cp) ∨ (findI (lastF ps fs) nm < 0 ∧ (lastF ps fs).length = 12)) := by
    rcases findI_cases (lastF ps fs) nm with ⟨e1, e2⟩ | ⟨e1, e2⟩
    · rw [if_neg (by omega)]
      split <;> omega
    · rw [if_pos e2]
      split <;> omega
  by_cases hc : (ps.length = 1000 ∨ ((k : Int) = lenI (lastF ps fs) nm ∧ totalI (lastF ps fs) = cp) ∨ (findI (lastF ps fs) nm < 0 ∧ (lastF ps fs).length = 12))
  · rw [if_pos hc, if_pos (hiff.2 hc)]
  · rw [if_neg hc, if_neg (fun h => hc (hiff.1 h))]
theorem rwI_bad {fs : List PF} {ps : List PP} {cp fu : Int} {de : Bool} {nm : ByteArray} {pg : Int} {bs : List Int} (h : ¬ (implV fs ps cp fu = true ∧ de = false ∧ nameB nm = true ∧ bs.length = 128)) : rwI fs ps cp fu de nm pg bs = 1 := by unfold rwI; rw [if_neg h]
theorem rwI_bad2 {fs : List PF} {ps : List PP} {cp fu : Int} {de : Bool} {nm : ByteArray} {pg : Int} {bs : List Int} (h : ¬ (0 ≤ pg ∧ pg ≤ lenI (lastF ps fs) nm)) : rwI fs ps cp fu de nm pg bs = 1 := by unfold rwI; rw [if_pos (show pg < 0 ∨ lenI (lastF ps fs) nm < pg by omega)]; split <;> rfl
theorem specV_partsQ {fs : List PF} {ps : List PP} {cp fu : Int} (h : specV fs ps cp fu = true) : fs.length ≤ 12 ∧ cp ≤ 1000 ∧ totalI fs ≤ cp ∧ cacheS cp ps fs = true := by
  simp only [specV, headB, Bool.and_eq_true, decide_eq_true_eq] at h
  obtain ⟨⟨⟨⟨⟨⟨a1, a2⟩, a3⟩, a4⟩, a5⟩, a6⟩, a7⟩ := h
  exact ⟨a1, a2.2, a6, a7⟩
set_option maxHeartbeats 3200000 in
theorem specWrite_any (a : Option Addr) (n c : Nat) (fs : List PF) (b : Option Addr) (m d : Nat) (ps : List PP) (cp fu : Int) (de : Bool) (nm : ByteArray) (pg : Int) (pa : Option Addr) (pn pc : Nat) (bs : List Int) (w : World) (A B : Nat) (hB : B ≤ w.heap.size) (hF : FilesAt w A B a n c fs) (hP : PendsAt w A B b m d ps) (hby : BytesAt w A B pa pn pc bs) (hs : nm.size ≤ maxLen) (hpg : -9223372036854775808 ≤ pg ∧ pg ≤ 9223372036854775807) (hfu : -9223372036854775808 ≤ fu ∧ fu ≤ 9223372036854775807)
    (hn : n ≤ 1048576) (hm : m ≤ 1048576) (hpn : pn ≤ 1048576) (hall : ∀ j, j < n → (fs.getD j (ByteArray.empty, [])).2.length ≤ 1048576) (hall2 : ∀ j, j < m → (ps.getD j (ByteArray.empty, 0, [])).2.2.length ≤ 1048576) :
    Calls Try.prog 16 #[.agg #[.slice a n c, .slice b m d, .int .i64 cp, .int .i64 fu, .bool de], .string nm, .int .i64 pg, .slice pa pn pc] w fun e w' => ResAt w e w' (dsE (rwI fs ps cp fu de nm pg bs) fu) (dsX (rwI fs ps cp fu de nm pg bs) fu fs fs) (dsX (rwI fs ps cp fu de nm pg bs) fu ps (ps ++ [(nm, pg, bs)])) cp (dsF (rwI fs ps cp fu de nm pg bs) fu) (dsD (rwI fs ps cp fu de nm pg bs) fu de) := by
  have HF : Hid (∀ W, Below w.heap.size w W → FilesAt W A B a n c fs) := fun W hW => hF.below (hW.mono hB)
  have HP : Hid (∀ W, Below w.heap.size w W → PendsAt W A B b m d ps) := fun W hW => hP.below (hW.mono hB)
  have HBY : Hid (∀ W, Below w.heap.size w W → BytesAt W A B pa pn pc bs) := fun W hW => hby.below (hW.mono hB)
  have HA : Hid (∀ j, j < n → (fs.getD j (ByteArray.empty, [])).2.length ≤ 1048576) := hall
  have HA2 : Hid (∀ j, j < m → (ps.getD j (ByteArray.empty, 0, [])).2.2.length ≤ 1048576) := hall2
  have HBL : Hid (bs.length = pn) := hby.1
  have HML : Hid (ps.length = m) := hP.1
  have HNL : Hid (fs.length = n) := hF.1
  clear hF hP hall hall2 hby
  go_enter Try.func16, Try.ntmps16
  go_wp2_with fail
  obtain ⟨W0, hW0⟩ : ∃ W0, W0 = (w.alloc (.cells #[.slice a n c, .slice b m d, .int .i64 cp, .int .i64 fu, .bool de] 32)).alloc (.cells #[.int .i64 0, .slice none 0 0, .slice none 0 0, .int .i64 0, .int .i64 0, .bool false] 40) := ⟨_, rfl⟩
  have hs0 : W0.heap.size = w.heap.size + 2 := by rw [hW0]; simp
  have hb0 : Below w.heap.size w W0 := by rw [hW0]; exact ((Below.refl _ _).alloc (Nat.le_refl _) _).alloc (by simp) _
  have k0 : W0.heap[w.heap.size]? = some (.cells #[.slice a n c, .slice b m d, .int .i64 cp, .int .i64 fu, .bool de] 32) := by rw [hW0, heap_alloc_old _ _ (by simp)]; exact heap_alloc_new _ _
  have k1 : W0.heap[w.heap.size + 1]? = some (.cells #[.int .i64 0, .slice none 0 0, .slice none 0 0, .int .i64 0, .int .i64 0, .bool false] 40) := by rw [hW0]; have := heap_alloc_new (w.alloc (.cells #[.slice a n c, .slice b m d, .int .i64 cp, .int .i64 fu, .bool de] 32)) (.cells #[.int .i64 0, .slice none 0 0, .slice none 0 0, .int .i64 0, .int .i64 0, .bool false] 40); simpa using this
  rw [← hW0]
  clear hW0
  refine (l1Live_any a n c fs b m d ps cp fu de W0 A B (by omega) (HF.out _ hb0) (HP.out _ hb0) HA.out).mono ?_
  rintro e w1 ⟨rfl, hb1⟩
  have hs1 := hb1.size
  have bel1 : Below w.heap.size w w1 := hb0.trans (hb1.mono (by omega))
  have jD1 := (hb1.block w.heap.size (by omega)).trans k0
  have jR1 := (hb1.block (w.heap.size + 1) (by omega)).trans k1
  clear k0 k1 hb0 hb1
  obtain ⟨x0, x1, x2, x3, x4⟩ := boxW5 jD1
  cases hv : (specV fs ps cp fu && !de) with
  | false =>
    have HW : Hid (rwI fs ps cp fu de nm pg bs = 1) := rwI_bad (fun h => by rw [valid_eq, h.1, h.2.1] at hv; cases hv)
    clear hv
    go_wp2_with fail
    refine (l1Bad_any a n c fs b m d ps cp fu de w1 A B (by omega) (HF.out _ bel1) (HP.out _ bel1) hn hm HA.out HA2.out).mono ?_
    rintro e w9 hres
    obtain ⟨a9, c9, b9, d9, xs9, vs9, ys9, us9, rfl, hO9, hb9⟩ := hres.out
    clear hres
    have jR := (hb9.block (w.heap.size + 1) (by omega)).trans jR1
    have hs9 := hb9.size
    obtain ⟨r0, r1, r2, r3, r4, r5⟩ := box_sixR jR
    have ff := box_thawC jR
    have HB := put6R_box jR (.int .i64 1) (.slice a9 fs.length c9) (.slice b9 ps.length d9) (.int .i64 cp) (.int .i64 fu) (.bool de)
    have HR : Hid (ResAt w (.returned (.agg #[.int .i64 1, .slice a9 fs.length c9, .slice b9 ps.length d9, .int .i64 cp, .int .i64 fu, .bool de])) (put6R w9 (w.heap.size + 1) (.int .i64 1) (.slice a9 fs.length c9) (.slice b9 ps.length d9) (.int .i64 cp) (.int .i64 fu) (.bool de)) 1 fs ps cp fu de) := ResAt.mk6 (by omega) (base := w1.heap.size) hO9 (by omega) (by omega) (bel1.trans (hb9.mono bel1.size))
    clear hO9 hb9 jR jR1 jD1
    go_wp2
    show bodyPost _ _ _ _ _ (put6R w9 (w.heap.size + 1) (.int .i64 1) (.slice a9 fs.length c9) (.slice b9 ps.length d9) (.int .i64 cp) (.int .i64 fu) (.bool de))
    clear r0 r1 r2 r3 r4 r5
    obtain ⟨r0, r1, r2, r3, r4, r5⟩ := box_sixR HB
    exact bodyPost_ret (v := .agg #[.int .i64 1, .slice a9 fs.length c9, .slice b9 ps.length d9, .int .i64 cp, .int .i64 fu, .bool de]) (by simp [results, Try.results16, go_sem, r0, r1, r2, r3, r4, r5]) rfl (by rw [HW.out]; simpa [dsE, dsX, dsF, dsD] using HR.out)
  | true =>
    have hv1 : specV fs ps cp fu = true := by cases h : specV fs ps cp fu <;> simp [h] at hv <;> rfl
    obtain rfl : de = false := by cases de <;> simp [hv1] at hv <;> rfl
    have HV : Hid (implV fs ps cp fu = true) := by show _ = _; rw [← valid_eq]; exact hv1
    obtain ⟨p1, p2, p3, p4⟩ := specV_partsQ hv1
    have HP34 : Hid (totalI fs ≤ cp ∧ cacheS cp ps fs = true ∧ n ≤ 12) := ⟨p3, p4, by have := HNL.out; omega⟩
    clear hv hv1 p1 p3 p4
    go_wp2_with fail
    refine (l1Name_any nm _ hs).mono ?_
    rintro e w1' ⟨rfl, rfl⟩
    cases hnm : nameB nm with
    | false =>
      have HW : Hid (rwI fs ps cp fu false nm pg bs = 1) := rwI_bad (fun h => by rw [h.2.2.1] at hnm; cases hnm)
      clear hnm
      go_wp2_with fail
      refine (l1Bad_any a n c fs b m d ps cp fu false w1' A B (by omega) (HF.out _ bel1) (HP.out _ bel1) hn hm HA.out HA2.out).mono ?_
      rintro e w9 hres
      obtain ⟨a9, c9, b9, d9, xs9, vs9, ys9, us9, rfl, hO9, hb9⟩ := hres.out
      clear hres
      have jR := (hb9.block (w.heap.size + 1) (by omega)).trans jR1
      have hs9 := hb9.size
      obtain ⟨r0, r1, r2, r3, r4, r5⟩ := box_sixR jR
      have ff := box_thawC jR
      have HB := put6R_box jR (.int .i64 1) (.slice a9 fs.length c9) (.slice b9 ps.length d9) (.int .i64 cp) (.int .i64 fu) (.bool false)
      have HR : Hid (ResAt w (.returned (.agg #[.int .i64 1, .slice a9 fs.length c9, .slice b9 ps.length d9, .int .i64 cp, .int .i64 fu, .bool false])) (put6R w9 (w.heap.size + 1) (.int .i64 1) (.slice a9 fs.length c9) (.slice b9 ps.length d9) (.int .i64 cp) (.int .i64 fu) (.bool false)) 1 fs ps cp fu false) := ResAt.mk6 (by omega) (base := w1'.heap.size) hO9 (by omega) (by omega) (bel1.trans (hb9.mono bel1.size))
      clear hO9 hb9 jR jR1 jD1
      go_wp2
      show bodyPost _ _ _ _ _ (put6R w9 (w.heap.size + 1) (.int .i64 1) (.slice a9 fs.length c9) (.slice b9 ps.length d9) (.int .i64 cp) (.int .i64 fu) (.bool false))
      clear r0 r1 r2 r3 r4 r5
      obtain ⟨r0, r1, r2, r3, r4, r5⟩ := box_sixR HB
      exact bodyPost_ret (v := .agg #[.int .i64 1, .slice a9 fs.length c9, .slice b9 ps.length d9, .int .i64 cp, .int .i64 fu, .bool false]) (by simp [results, Try.results16, go_sem, r0, r1, r2, r3, r4, r5]) rfl (by rw [HW.out]; simpa [dsE, dsX, dsF, dsD] using HR.out)
    | true =>
      have HN : Hid (nameB nm = true) := hnm
      clear hnm
      by_cases t1 : pn = 128
      · subst t1
        go_wp2_with fail
        refine (l1Seen_any a n c fs b m d ps cp fu false w1' A B (by omega) (HF.out _ bel1) (HP.out _ bel1) HP34.out.2.2 p2 HP34.out.1 HP34.out.2.1).mono ?_
        rintro e w2 ⟨v2, xs2, vs2, rfl, hO2, hb2⟩
        obtain ⟨a2, n2, c2, rfl, hn2, hF2⟩ := hO2.files
        have HN2 : Hid ((lastF ps fs).length = n2) := hF2.1
        clear hn2 hO2
        have hs2 := hb2.size
        have bel2 := bel1.trans (hb2.mono bel1.size)
        have jD2 := (hb2.block w.heap.size (by omega)).trans jD1
        have jR2 := (hb2.block (w.heap.size + 1) (by omega)).trans jR1
        clear x0 x1 x2 x3 x4 jD1 jR1 hb2
        obtain ⟨x0, x1, x2, x3, x4⟩ := boxW5 jD2
        go_wp2_with fail
        refine (l1Len_any _ _ _ (lastF ps fs) nm _ _ _ hF2).mono ?_
        rintro e w2' ⟨rfl, rfl⟩
        go_wp2_with fail
        refine (l1In_any _ _ _ _).mono ?_
        rintro e w2'' ⟨rfl, rfl⟩
        by_cases t2 : 0 ≤ pg ∧ pg ≤ lenI (lastF ps fs) nm
        · rw [decide_eq_true t2]
          have HE : Hid (rwI fs ps cp fu false nm pg bs = if m = 1000 ∨ (pg = lenI (lastF ps fs) nm ∧ totalI (lastF ps fs) = cp) ∨ (findI (lastF ps fs) nm < 0 ∧ n2 = 12) then 2 else 0) := by show _ = _; rw [rwI_eq HV.out HN.out HBL.out t2.1 t2.2, HML.out, HN2.out]
          have hT2 : totalI (lastF ps fs) ≤ 1073741824 := by have := (specV_partsW HV.out.symm); omega
          clear t2
          by_cases v1 : m = 1000
          · have u1 : ((m : Int) == 1000) = true := by simp; omega
            have HW : Hid (rwI fs ps cp fu false nm pg bs = 2) := by show _ = _; rw [HE.out, if_pos (by omega)]
            clear HE
            try clear v1
            try clear v2
            try clear v3
            try clear v4
            try clear v5
            go_wp2_with fail
            go_quiet (first | (go_at_call 44; exact Calls.quiet_of_same (l1Total_any _ _ _ (lastF ps fs) _ _ _ (by exact hF2) hT2)) | (go_at_call 45; exact Calls.quiet_of_same (l1Find_any _ _ _ (lastF ps fs) nm _ _ _ (by exact hF2))))
            have bel4 : Below w.heap.size w (w2''.drewN nq) := bel2.trans ⟨rfl, rfl, rfl, Nat.le_refl _, fun _ _ => rfl⟩
            have jD4 : (w2''.drewN nq).heap[w.heap.size]? = some (.cells #[.slice a n c, .slice b m d, .int .i64 cp, .int .i64 fu, .bool false] 32) := jD2
            have jR4 : (w2''.drewN nq).heap[w.heap.size + 1]? = some (.cells #[.int .i64 0, .slice none 0 0, .slice none 0 0, .int .i64 0, .int .i64 0, .bool false] 40) := jR2
            have hs4 : w.heap.size + 2 ≤ (w2''.drewN nq).heap.size := by show _ ≤ w2''.heap.size; omega
            clear x0 x1 x2 x3 x4 jD2 jR2 hF2 bel2 hs2 hs1 hs0 bel1
            generalize w2''.drewN nq = w4 at bel4 jD4 jR4 hs4 ⊢
            obtain ⟨x0, x1, x2, x3, x4⟩ := boxW5 jD4
            go_wp2_with fail
            refine (l1Copy_any a n c fs b m d ps cp fu false w4 A B (by omega) (HF.out _ bel4) (HP.out _ bel4) hn hm HA.out HA2.out).mono ?_
            rintro e w9 ⟨v9, u9, xs9, vs9, ys9, us9, rfl, hO9, hb9⟩
            obtain ⟨⟨a9, c9, rfl⟩, b9, d9, rfl⟩ := hO9.shape
            have jR := (hb9.block (w.heap.size + 1) (by omega)).trans jR4
            have hs9 := hb9.size
            obtain ⟨r0, r1, r2, r3, r4, r5⟩ := box_sixR jR
            have ff := box_thawC jR
            have HB := put6R_box jR (.int .i64 2) (.slice a9 fs.length c9) (.slice b9 ps.length d9) (.int .i64 cp) (.int .i64 fu) (.bool false)
            have HR : Hid (ResAt w (.returned (.agg #[.int .i64 2, .slice a9 fs.length c9, .slice b9 ps.length d9, .int .i64 cp, .int .i64 fu, .bool false])) (put6R w9 (w.heap.size + 1) (.int .i64 2) (.slice a9 fs.length c9) (.slice b9 ps.length d9) (.int .i64 cp) (.int .i64 fu) (.bool false)) 2 fs ps cp fu false) := ResAt.mk6 (by omega) (base := w4.heap.size) hO9 (by omega) (by omega) (bel4.trans (hb9.mono bel4.size))
            clear hO9 hb9 jR jR4 jD4
            go_wp2
            show bodyPost _ _ _ _ _ (put6R w9 (w.heap.size + 1) (.int .i64 2) (.slice a9 fs.length c9) (.slice b9 ps.length d9) (.int .i64 cp) (.int .i64 fu) (.bool false))
            clear r0 r1 r2 r3 r4 r5
            obtain ⟨r0, r1, r2, r3, r4, r5⟩ := box_sixR HB
            exact bodyPost_ret (v := .agg #[.int .i64 2, .slice a9 fs.length c9, .slice b9 ps.length d9, .int .i64 cp, .int .i64 fu, .bool false]) (by simp [results, Try.results16, go_sem, r0, r1, r2, r3, r4, r5]) rfl (by rw [HW.out]; simpa [dsE, dsX, dsF, dsD] using HR.out)
          · have u1 : ((m : Int) == 1000) = false := by simp; omega
            by_cases v2 : pg = lenI (lastF ps fs) nm
            · have u2 : (pg == lenI (lastF ps fs) nm) = true := by simp; omega
              by_cases v3 : totalI (lastF ps fs) = cp
              · have u3 : (totalI (lastF ps fs) == cp) = true := by simp; omega
                have HW : Hid (rwI fs ps cp fu false nm pg bs = 2) := by show _ = _; rw [HE.out, if_pos (by omega)]
                clear HE
                try clear v1
                try clear v2
                try clear v3
                try clear v4
                try clear v5
                go_wp2_with fail
                go_quiet (first | (go_at_call 44; exact Calls.quiet_of_same (l1Total_any _ _ _ (lastF ps fs) _ _ _ (by exact hF2) hT2)) | (go_at_call 45; exact Calls.quiet_of_same (l1Find_any _ _ _ (lastF ps fs) nm _ _ _ (by exact hF2))))
                have bel4 : Below w.heap.size w (w2''.drewN nq) := bel2.trans ⟨rfl, rfl, rfl, Nat.le_refl _, fun _ _ => rfl⟩
                have jD4 : (w2''.drewN nq).heap[w.heap.size]? = some (.cells #[.slice a n c, .slice b m d, .int .i64 cp, .int .i64 fu, .bool false] 32) := jD2
                have jR4 : (w2''.drewN nq).heap[w.heap.size + 1]? = some (.cells #[.int .i64 0, .slice none 0 0, .slice none 0 0, .int .i64 0, .int .i64 0, .bool false] 40) := jR2
                have hs4 : w.heap.size + 2 ≤ (w2''.drewN nq).heap.size := by show _ ≤ w2''.heap.size; omega
                clear x0 x1 x2 x3 x4 jD2 jR2 hF2 bel2 hs2 hs1 hs0 bel1
                generalize w2''.drewN nq = w4 at bel4 jD4 jR4 hs4 ⊢
                obtain ⟨x0, x1, x2, x3, x4⟩ := boxW5 jD4
                go_wp2_with fail
                refine (l1Copy_any a n c fs b m d ps cp fu false w4 A B (by omega) (HF.out _ bel4) (HP.out _ bel4) hn hm HA.out HA2.out).mono ?_
                rintro e w9 ⟨v9, u9, xs9, vs9, ys9, us9, rfl, hO9, hb9⟩
                obtain ⟨⟨a9, c9, rfl⟩, b9, d9, rfl⟩ := hO9.shape
                have jR := (hb9.block (w.heap.size + 1) (by omega)).trans jR4
                have hs9 := hb9.size
                obtain ⟨r0, r1, r2, r3, r4, r5⟩ := box_sixR jR
                have ff := box_thawC jR
                have HB := put6R_box jR (.int .i64 2) (.slice a9 fs.length c9) (.slice b9 ps.length d9) (.int .i64 cp) (.int .i64 fu) (.bool false)
                have HR : Hid (ResAt w (.returned (.agg #[.int .i64 2, .slice a9 fs.length c9, .slice b9 ps.length d9, .int .i64 cp, .int .i64 fu, .bool false])) (put6R w9 (w.heap.size + 1) (.int .i64 2) (.slice a9 fs.length c9) (.slice b9 ps.length d9) (.int .i64 cp) (.int .i64 fu) (.bool false)) 2 fs ps cp fu false) := ResAt.mk6 (by omega) (base := w4.heap.size) hO9 (by omega) (by omega) (bel4.trans (hb9.mono bel4.size))
                clear hO9 hb9 jR jR4 jD4
                go_wp2
                show bodyPost _ _ _ _ _ (put6R w9 (w.heap.size + 1) (.int .i64 2) (.slice a9 fs.length c9) (.slice b9 ps.length d9) (.int .i64 cp) (.int .i64 fu) (.bool false))
                clear r0 r1 r2 r3 r4 r5
                obtain ⟨r0, r1, r2, r3, r4, r5⟩ := box_sixR HB
                exact bodyPost_ret (v := .agg #[.int .i64 2, .slice a9 fs.length c9, .slice b9 ps.length d9, .int .i64 cp, .int .i64 fu, .bool false]) (by simp [results, Try.results16, go_sem, r0, r1, r2, r3, r4, r5]) rfl (by rw [HW.out]; simpa [dsE, dsX, dsF, dsD] using HR.out)
              · have u3 : (totalI (lastF ps fs) == cp) = false := by simp; omega
                by_cases v4 : findI (lastF ps fs) nm < 0
                · have u4 : decide (findI (lastF ps fs) nm < 0) = true := by simp; omega
                  by_cases v5 : n2 = 12
                  · have u5 : ((n2 : Int) == 12) = true := by simp; omega
                    have HW : Hid (rwI fs ps cp fu false nm pg bs = 2) := by show _ = _; rw [HE.out, if_pos (by omega)]
                    clear HE
                    try clear v1
                    try clear v2
                    try clear v3
                    try clear v4
                    try clear v5
                    go_wp2_with fail
                    go_quiet (first | (go_at_call 44; exact Calls.quiet_of_same (l1Total_any _ _ _ (lastF ps fs) _ _ _ (by exact hF2) hT2)) | (go_at_call 45; exact Calls.quiet_of_same (l1Find_any _ _ _ (lastF ps fs) nm _ _ _ (by exact hF2))))
                    have bel4 : Below w.heap.size w (w2''.drewN nq) := bel2.trans ⟨rfl, rfl, rfl, Nat.le_refl _, fun _ _ => rfl⟩
                    have jD4 : (w2''.drewN nq).heap[w.heap.size]? = some (.cells #[.slice a n c, .slice b m d, .int .i64 cp, .int .i64 fu, .bool false] 32) := jD2
                    have jR4 : (w2''.drewN nq).heap[w.heap.size + 1]? = some (.cells #[.int .i64 0, .slice none 0 0, .slice none 0 0, .int .i64 0, .int .i64 0, .bool false] 40) := jR2
                    have hs4 : w.heap.size + 2 ≤ (w2''.drewN nq).heap.size := by show _ ≤ w2''.heap.size; omega
                    clear x0 x1 x2 x3 x4 jD2 jR2 hF2 bel2 hs2 hs1 hs0 bel1
                    generalize w2''.drewN nq = w4 at bel4 jD4 jR4 hs4 ⊢
                    obtain ⟨x0, x1, x2, x3, x4⟩ := boxW5 jD4
                    go_wp2_with fail
                    refine (l1Copy_any a n c fs b m d ps cp fu false w4 A B (by omega) (HF.out _ bel4) (HP.out _ bel4) hn hm HA.out HA2.out).mono ?_
                    rintro e w9 ⟨v9, u9, xs9, vs9, ys9, us9, rfl, hO9, hb9⟩
                    obtain ⟨⟨a9, c9, rfl⟩, b9, d9, rfl⟩ := hO9.shape
                    have jR := (hb9.block (w.heap.size + 1) (by omega)).trans jR4
                    have hs9 := hb9.size
                    obtain ⟨r0, r1, r2, r3, r4, r5⟩ := box_sixR jR
                    have ff := box_thawC jR
                    have HB := put6R_box jR (.int .i64 2) (.slice a9 fs.length c9) (.slice b9 ps.length d9) (.int .i64 cp) (.int .i64 fu) (.bool false)
                    have HR : Hid (ResAt w (.returned (.agg #[.int .i64 2, .slice a9 fs.length c9, .slice b9 ps.length d9, .int .i64 cp, .int .i64 fu, .bool false])) (put6R w9 (w.heap.size + 1) (.int .i64 2) (.slice a9 fs.length c9) (.slice b9 ps.length d9) (.int .i64 cp) (.int .i64 fu) (.bool false)) 2 fs ps cp fu false) := ResAt.mk6 (by omega) (base := w4.heap.size) hO9 (by omega) (by omega) (bel4.trans (hb9.mono bel4.size))
                    clear hO9 hb9 jR jR4 jD4
                    go_wp2
                    show bodyPost _ _ _ _ _ (put6R w9 (w.heap.size + 1) (.int .i64 2) (.slice a9 fs.length c9) (.slice b9 ps.length d9) (.int .i64 cp) (.int .i64 fu) (.bool false))
                    clear r0 r1 r2 r3 r4 r5
                    obtain ⟨r0, r1, r2, r3, r4, r5⟩ := box_sixR HB
                    exact bodyPost_ret (v := .agg #[.int .i64 2, .slice a9 fs.length c9, .slice b9 ps.length d9, .int .i64 cp, .int .i64 fu, .bool false]) (by simp [results, Try.results16, go_sem, r0, r1, r2, r3, r4, r5]) rfl (by rw [HW.out]; simpa [dsE, dsX, dsF, dsD] using HR.out)
                  · have u5 : ((n2 : Int) == 12) = false := by simp; omega
                    have HW : Hid (rwI fs ps cp fu false nm pg bs = 0) := by show _ = _; rw [HE.out, if_neg (by omega)]
                    clear HE
                    try clear v1
                    try clear v2
                    try clear v3
                    try clear v4
                    try clear v5
                    go_wp2_with fail
                    go_quiet (first | (go_at_call 44; exact Calls.quiet_of_same (l1Total_any _ _ _ (lastF ps fs) _ _ _ (by exact hF2) hT2)) | (go_at_call 45; exact Calls.quiet_of_same (l1Find_any _ _ _ (lastF ps fs) nm _ _ _ (by exact hF2))))
                    have bel4 : Below w.heap.size w (w2''.drewN nq) := bel2.trans ⟨rfl, rfl, rfl, Nat.le_refl _, fun _ _ => rfl⟩
                    have jD4 : (w2''.drewN nq).heap[w.heap.size]? = some (.cells #[.slice a n c, .slice b m d, .int .i64 cp, .int .i64 fu, .bool false] 32) := jD2
                    have jR4 : (w2''.drewN nq).heap[w.heap.size + 1]? = some (.cells #[.int .i64 0, .slice none 0 0, .slice none 0 0, .int .i64 0, .int .i64 0, .bool false] 40) := jR2
                    have hs4 : w.heap.size + 2 ≤ (w2''.drewN nq).heap.size := by show _ ≤ w2''.heap.size; omega
                    clear x0 x1 x2 x3 x4 jD2 jR2 hF2 bel2 hs2 hs1 hs0 bel1
                    generalize w2''.drewN nq = w4 at bel4 jD4 jR4 hs4 ⊢
                    obtain ⟨x0, x1, x2, x3, x4⟩ := boxW5 jD4
                    go_wp2_with fail
                    refine (l1Spend_any a n c fs b m d ps cp fu false w4 A B (by omega) (HF.out _ bel4) (HP.out _ bel4) hn hm HA.out HA2.out hfu).mono ?_
                    rintro e w9 hres
                    obtain ⟨a9, c9, b9, d9, xs9, vs9, ys9, us9, rfl, hO9, hb9⟩ := hres.out
                    clear hres
                    have hs9 := hb9.size
                    have bel9 := bel4.trans (hb9.mono bel4.size)
                    have jR9 := (hb9.block (w.heap.size + 1) (by omega)).trans jR4
                    clear x0 x1 x2 x3 x4 jD4 jR4
                    by_cases h0 : fu = 0
                    · subst h0
                      rw [show spE 0 = 3 from rfl, show spF 0 = 0 from rfl, show spD 0 false = true from rfl]
                      have hal : Below w9.heap.size w9 (w9.alloc (.cells #[.int .i64 3, .slice a9 fs.length c9, .slice b9 ps.length d9, .int .i64 cp, .int .i64 0, .bool true] 40)) := (Below.refl _ _).alloc (Nat.le_refl _) _
                      have kN := heap_alloc_new w9 (.cells #[.int .i64 3, .slice a9 fs.length c9, .slice b9 ps.length d9, .int .i64 cp, .int .i64 0, .bool true] 40)
                      have jR := (hal.block (w.heap.size + 1) (by omega)).trans jR9
                      have hsX : (w9.alloc (.cells #[.int .i64 3, .slice a9 fs.length c9, .slice b9 ps.length d9, .int .i64 cp, .int .i64 0, .bool true] 40)).heap.size = w9.heap.size + 1 := by simp
                      obtain ⟨y0, y1, y2, y3, y4, y5⟩ := box_sixR kN
                      obtain ⟨r0, r1, r2, r3, r4, r5⟩ := box_sixR jR
                      have ff := box_thawC jR
                      have HB := put6R_box jR (.int .i64 3) (.slice a9 fs.length c9) (.slice b9 ps.length d9) (.int .i64 cp) (.int .i64 0) (.bool true)
                      have HR : Hid (ResAt w (.returned (.agg #[.int .i64 3, .slice a9 fs.length c9, .slice b9 ps.length d9, .int .i64 cp, .int .i64 0, .bool true])) (put6R (w9.alloc (.cells #[.int .i64 3, .slice a9 fs.length c9, .slice b9 ps.length d9, .int .i64 cp, .int .i64 0, .bool true] 40)) (w.heap.size + 1) (.int .i64 3) (.slice a9 fs.length c9) (.slice b9 ps.length d9) (.int .i64 cp) (.int .i64 0) (.bool true)) 3 fs ps cp 0 true) := ResAt.mk6 (by omega) (base := w4.heap.size) (hO9.below hal) (by omega) (by omega) (bel9.trans (hal.mono bel9.size))
                      clear hO9 hb9 jR jR9 hal kN
                      go_wp2
                      show bodyPost _ _ _ _ _ (put6R (w9.alloc (.cells #[.int .i64 3, .slice a9 fs.length c9, .slice b9 ps.length d9, .int .i64 cp, .int .i64 0, .bool true] 40)) (w.heap.size + 1) (.int .i64 3) (.slice a9 fs.length c9) (.slice b9 ps.length d9) (.int .i64 cp) (.int .i64 0) (.bool true))
                      clear r0 r1 r2 r3 r4 r5
                      obtain ⟨r0, r1, r2, r3, r4, r5⟩ := box_sixR HB
                      exact bodyPost_ret (v := .agg #[.int .i64 3, .slice a9 fs.length c9, .slice b9 ps.length d9, .int .i64 cp, .int .i64 0, .bool true]) (by simp [results, Try.results16, go_sem, r0, r1, r2, r3, r4, r5]) rfl (by rw [HW.out]; simpa [dsE, dsX, dsF, dsD, spE, spF, spD] using HR.out)
                    · obtain ⟨i0, hi, hz0, hz1, hz2⟩ := info_parts info_Pend
                      rw [show spE fu = 0 by simp [spE, h0]]
                      have HX : Hid (dsE 0 fu = 0 ∧ dsX 0 fu fs fs = fs ∧ dsX 0 fu ps (ps ++ [(nm, pg, bs)]) = ps ++ [(nm, pg, bs)] ∧ dsF 0 fu = spF fu ∧ dsD 0 fu false = spD fu false) := by show _ ∧ _; simp [dsE, dsX, dsF, dsD, spE, h0]
                      generalize spF fu = F at *
                      generalize spD fu false = D at *
                      have hal : Below w9.heap.size w9 (w9.alloc (.cells #[.int .i64 0, .slice a9 fs.length c9, .slice b9 ps.length d9, .int .i64 cp, .int .i64 F, .bool D] 40)) := (Below.refl _ _).alloc (Nat.le_refl _) _
                      have XO := heap_alloc_new w9 (.cells #[.int .i64 0, .slice a9 fs.length c9, .slice b9 ps.length d9, .int .i64 cp, .int .i64 F, .bool D] 40)
                      have jR := (hal.block (w.heap.size + 1) (by omega)).trans jR9
                      have hsX : (w9.alloc (.cells #[.int .i64 0, .slice a9 fs.length c9, .slice b9 ps.length d9, .int .i64 cp, .int .i64 F, .bool D] 40)).heap.size = w9.heap.size + 1 := by simp
                      have own := hO9.below hal
                      have hlt : ∀ g, Blk (.slice a9 fs.length c9) vs9 g ∨ Blk (.slice b9 ps.length d9) us9 g → g < w9.heap.size := fun g hg => (hO9.blk hg).2
                      have belX := bel9.trans (hal.mono bel9.size)
                      have hbyX := HBY.out _ belX
                      have hbyt := hbyX.2.2.2.1
                      have hps : ps.length ≤ 1048576 := by have := HML.out; omega
                      obtain ⟨y0, y1, y2, y3, y4, y5⟩ := box_sixR XO
                      clear hO9 hb9 jR9 hal
                      go_wp2_with fail
                      generalize (w9.alloc (.cells #[.int .i64 0, .slice a9 fs.length c9, .slice b9 ps.length d9, .int .i64 cp, .int .i64 F, .bool D] 40)) = W at *
                      clear y0 y1 y2 y3 y4 y5
                      refine wp_region_noPanic ?_
                      refine wp_region_held_drew (S := (fun _ => True)) (by kernel_rfl) ?_ (fun hHeld => ?_)
                      · exact trivial
                      refine wpAnyH_take (i := 0) (oi := { dst := some 73, op := Op.fieldAddr 40 (Operand.tmp 11) 1, type := 0, pos := "l1_disk.go:202", after := #[], guard := none }) (v := ?_) rfl (by kernel_rfl) (by kernel_rfl) (by kernel_rfl) (fun _ _ _ h => h) (Or.inl ⟨by rfl, ?_⟩) (by assumption) ?_
                      rotate_left 1
                      · intro w hSw; (try dsimp only at hSw); go_simp; try (with_reducible rfl)
                      try simp only [Act.put, List.setIfInBounds_toArray, List.set_cons_zero, List.set_cons_succ]
                      refine wpAnyH_take (i := 1) (oi := { dst := some 74, op := Op.fieldAddr 32 (Operand.tmp 73) 1, type := 0, pos := "l1_disk.go:202", after := #[{ on := 0, ground := Ground.data }], guard := none }) (v := ?_) rfl (by kernel_rfl) (by kernel_rfl) (by kernel_rfl) (fun _ _ _ h => h) (Or.inl ⟨by rfl, ?_⟩) (by assumption) ?_
                      rotate_left 1
                      · intro w hSw; (try dsimp only at hSw); go_simp; try (with_reducible rfl)
                      try simp only [Act.put, List.setIfInBounds_toArray, List.set_cons_zero, List.set_cons_succ]
                      refine wpAnyH_take (i := 3) (oi := { dst := some 76, op := Op.move (Operand.tmp 1), type := 9, pos := "l1_disk.go:202", after := #[], guard := none }) (v := ?_) rfl (by kernel_rfl) (by kernel_rfl) (by kernel_rfl) (fun _ _ _ h => h) (Or.inl ⟨by rfl, ?_⟩) (by assumption) ?_
                      rotate_left 1
                      · intro w hSw; (try dsimp only at hSw); go_simp; try (with_reducible rfl)
                      try simp only [Act.put, List.setIfInBounds_toArray, List.set_cons_zero, List.set_cons_succ]
                      refine wpAnyH_take (i := 4) (oi := { dst := some 77, op := Op.move (Operand.tmp 2), type := 2, pos := "l1_disk.go:202", after := #[], guard := none }) (v := ?_) rfl (by kernel_rfl) (by kernel_rfl) (by kernel_rfl) (fun _ _ _ h => h) (Or.inl ⟨by rfl, ?_⟩) (by assumption) ?_
                      rotate_left 1
                      · intro w hSw; (try dsimp only at hSw); go_simp; try (with_reducible rfl)
                      try simp only [Act.put, List.setIfInBounds_toArray, List.set_cons_zero, List.set_cons_succ]
                      refine wpAnyH_take (i := 5) (oi := { dst := some 78, op := Op.move (Operand.tmp 3), type := 27, pos := "l1_disk.go:202", after := #[], guard := none }) (v := ?_) rfl (by kernel_rfl) (by kernel_rfl) (by kernel_rfl) (fun _ _ _ h => h) (Or.inl ⟨by rfl, ?_⟩) (by assumption) ?_
                      rotate_left 1
                      · intro w hSw; (try dsimp only at hSw); go_simp; try (with_reducible rfl)
                      try simp only [Act.put, List.setIfInBounds_toArray, List.set_cons_zero, List.set_cons_succ]
                      refine wpAnyH_ready (rs := [2, 6]) (by kernel_rfl) (by simp) ?_
                      refine AllReadyH.cons (o := { dst := some 75, op := Op.load 30 (Operand.tmp 74), type := 30, pos := "l1_disk.go:202", after := #[{ on := 1, ground := Ground.data }], guard := none }) rfl (fun K hK => ?_) ?_
                      rotate_left 1
                      refine AllReadyH.cons (o := { dst := some 79, op := Op.call { callee := Callee.value (Operand.func 48), args := #[Operand.tmp 78], argTypes := #[27] }, type := 27, pos := "l1_disk.go:202", after := #[{ on := 5, ground := Ground.data }], guard := none }) rfl (fun K hK => ?_) ?_
                      rotate_left 1
                      exact AllReadyH.nil
                      · obtain ⟨o0, o1, o2, o3, o4, o5⟩ := box_sixR XO
                        go_simp
                        clear o0 o1 o2 o3 o4 o5
                        refine hK.out _ _ trivial (fun hHeld => ?_)
                        clear hK K
                        try simp only [Act.put, List.setIfInBounds_toArray, List.set_cons_zero, List.set_cons_succ]
                        refine wpAnyH_ready (rs := [6]) (by kernel_rfl) (by simp) ?_
                        refine AllReadyH.cons (o := { dst := some 79, op := Op.call { callee := Callee.value (Operand.func 48), args := #[Operand.tmp 78], argTypes := #[27] }, type := 27, pos := "l1_disk.go:202", after := #[{ on := 5, ground := Ground.data }], guard := none }) rfl (fun K hK => ?_) ?_
                        rotate_left 1
                        exact AllReadyH.nil
                        · go_simp
                          refine (l1Bytes_any pa 128 pc bs W.drew A B (by show B ≤ W.heap.size; omega) hbyX (by omega)).mono ?_
                          rintro e w2 ⟨va, vc, rfl, hvb, hb2x⟩
                          have hb2 : Below W.heap.size W w2 := ((Below.refl _ W).drew).trans hb2x
                          have XO2 := (hb2.block _ (by omega)).trans XO
                          have own2 := own.below hb2
                          have hs2 := hb2.size
                          clear hb2x
                          go_wp2_with fail
                          refine hK.out _ _ trivial (fun hHeld => ?_)
                          clear hK K
                          try simp only [Act.put, List.setIfInBounds_toArray, List.set_cons_zero, List.set_cons_succ]
                          refine wpAnyH_take (i := 7) (oi := { dst := some 80, op := Op.build 77 #[(0, Operand.tmp 76), (1, Operand.tmp 77), (2, Operand.tmp 79)], type := 77, pos := "l1_disk.go:202", after := #[{ on := 3, ground := Ground.data }, { on := 4, ground := Ground.data }, { on := 6, ground := Ground.data }], guard := none }) (v := ?_) rfl (by kernel_rfl) (by kernel_rfl) (by kernel_rfl) (fun _ _ _ h => h) (Or.inl ⟨by rfl, ?_⟩) (by assumption) ?_
                          rotate_left 1
                          · intro w hSw; (try dsimp only at hSw); go_simp; try (with_reducible rfl)
                          try simp only [Act.put, List.setIfInBounds_toArray, List.set_cons_zero, List.set_cons_succ]
                          refine wpAnyH_ready (rs := [8]) (by kernel_rfl) (by simp) ?_
                          refine AllReadyH.cons (o := { dst := some 81, op := Op.buildSlice 30 1 #[(0, Operand.tmp 80)], type := 30, pos := "l1_disk.go:202", after := #[{ on := 7, ground := Ground.data }], guard := none }) rfl (fun K hK => ?_) ?_
                          rotate_left 1
                          exact AllReadyH.nil
                          · have hal3 : Below w2.heap.size w2 (w2.alloc (.cells #[.string nm, .int .i64 pg, .slice va 128 vc] 77)) := (Below.refl _ _).alloc (Nat.le_refl _) _
                            have XO3 := (hal3.block _ (by omega)).trans XO2
                            have own3 := own2.below hal3
                            go_simp
                            refine hK.out _ _ trivial (fun hHeld => ?_)
                            clear hK K
                            try simp only [Act.put, List.setIfInBounds_toArray, List.set_cons_zero, List.set_cons_succ]
                            refine wpAnyH_ready (rs := [9]) (by kernel_rfl) (by simp) ?_
                            refine AllReadyH.cons (o := { dst := some 82, op := Op.call { callee := Callee.builtin Builtin.append, args := #[Operand.tmp 75, Operand.tmp 81], argTypes := #[30, 30] }, type := 30, pos := "l1_disk.go:202", after := #[{ on := 2, ground := Ground.data }, { on := 8, ground := Ground.data }, { on := 6, ground := Ground.chain }], guard := none }) rfl (fun K hK => ?_) ?_
                            rotate_left 1
                            exact AllReadyH.nil
                            · have hrow3 := own3.cache.row
                              refine step_append_ownD rfl _ _ 30 rfl w4.heap.size 77 i0 _ 3 48 Try.underlying30 hi hz0 hz1 hz2 rfl (by decide) (.slice b9 ps.length d9) ps.length ys9 (by simp [Act.eval]) hrow3 ⟨w2.heap.size, 0, none⟩ 1 1 [.string nm, .int .i64 pg, .slice va 128 vc] (by simp [Act.eval]) rfl (cell_three_new _ _ _ _ _) (by simp [Value.oneCell']) (by unfold maxLen; omega) (by omega) (by have := hal3.size; omega) ?_
                              intro u4 w8 hown4 hgr hlies
                              obtain ⟨ua4, uc4, rfl⟩ := own_shape hown4
                              have hub : ∀ g, (Value.slice b9 ps.length d9).ownBlock = some g → w4.heap.size ≤ g ∧ g < w9.heap.size := fun g e => ⟨(own.cache.row.lt g e).1, hlt g (.inr (.inl e))⟩
                              have hF4 : Fr (fun g => (Value.slice b9 ps.length d9).ownBlock = some g) (w2.alloc (.cells #[.string nm, .int .i64 pg, .slice va 128 vc] 77)) w8 := Fr.of_grown hgr (fun g e => e)
                              have XO4 := (hF4.block _ (by have := hal3.size; omega) (fun e => by have := (hub _ e).2; omega)).trans XO3
                              refine hK.out _ _ trivial (fun hHeld => ?_)
                              clear hK K
                              try simp only [Act.put, List.setIfInBounds_toArray, List.set_cons_zero, List.set_cons_succ]
                              refine wpAnyH_take (i := 10) (oi := { dst := some 83, op := Op.fieldAddr 40 (Operand.tmp 11) 1, type := 0, pos := "l1_disk.go:202", after := #[{ on := 0, ground := Ground.phase }, { on := 1, ground := Ground.phase }, { on := 2, ground := Ground.phase }, { on := 3, ground := Ground.phase }, { on := 4, ground := Ground.phase }, { on := 5, ground := Ground.phase }, { on := 6, ground := Ground.phase }, { on := 7, ground := Ground.phase }, { on := 8, ground := Ground.phase }, { on := 9, ground := Ground.phase }], guard := none }) (v := ?_) rfl (by kernel_rfl) (by kernel_rfl) (by kernel_rfl) (fun _ _ _ h => h) (Or.inl ⟨by rfl, ?_⟩) (by assumption) ?_
                              rotate_left 1
                              · intro w hSw; (try dsimp only at hSw); go_simp; try (with_reducible rfl)
                              try simp only [Act.put, List.setIfInBounds_toArray, List.set_cons_zero, List.set_cons_succ]
                              refine wpAnyH_take (i := 11) (oi := { dst := some 84, op := Op.fieldAddr 32 (Operand.tmp 83) 1, type := 0, pos := "l1_disk.go:202", after := #[{ on := 10, ground := Ground.data }, { on := 0, ground := Ground.phase }, { on := 1, ground := Ground.phase }, { on := 2, ground := Ground.phase }, { on := 3, ground := Ground.phase }, { on := 4, ground := Ground.phase }, { on := 5, ground := Ground.phase }, { on := 6, ground := Ground.phase }, { on := 7, ground := Ground.phase }, { on := 8, ground := Ground.phase }, { on := 9, ground := Ground.phase }], guard := none }) (v := ?_) rfl (by kernel_rfl) (by kernel_rfl) (by kernel_rfl) (fun _ _ _ h => h) (Or.inl ⟨by rfl, ?_⟩) (by assumption) ?_
                              rotate_left 1
                              · intro w hSw; (try dsimp only at hSw); go_simp; try (with_reducible rfl)
                              try simp only [Act.put, List.setIfInBounds_toArray, List.set_cons_zero, List.set_cons_succ]
                              refine wpAnyH_ready (rs := [12]) (by kernel_rfl) (by simp) ?_
                              refine AllReadyH.cons (o := { dst := none, op := Op.store 30 (Operand.tmp 84) (Operand.tmp 82), type := 0, pos := "l1_disk.go:202", after := #[{ on := 11, ground := Ground.data }, { on := 9, ground := Ground.data }, { on := 9, ground := Ground.chain }, { on := 0, ground := Ground.phase }, { on := 1, ground := Ground.phase }, { on := 2, ground := Ground.phase }, { on := 3, ground := Ground.phase }, { on := 4, ground := Ground.phase }, { on := 5, ground := Ground.phase }, { on := 6, ground := Ground.phase }, { on := 7, ground := Ground.phase }, { on := 8, ground := Ground.phase }, { on := 9, ground := Ground.phase }], guard := none }) rfl (fun K hK => ?_) ?_
                              rotate_left 1
                              exact AllReadyH.nil
                              · obtain ⟨o0, o1, o2, o3, o4, o5⟩ := box_sixR XO4
                                have fo := box_thawC XO4
                                go_simp
                                clear o0 o1 o2 o3 o4 o5 fo
                                refine hK.out _ _ trivial (fun hHeld => ?_)
                                clear hK K
                                try simp only [Act.put, List.setIfInBounds_toArray, List.set_cons_zero, List.set_cons_succ]
                                refine wpAnyH_done (by kernel_rfl) ?_ _
                                refine NoPanic.normal ?_
                                have hvb' : w2.ownsRow W.heap.size 5 1 (.slice va 128 vc) bs.length (u8s bs) := by rw [HBL.out]; exact hvb
                                have hp := OwnD.push own (by omega) hb2 (f := (nm, pg, bs)) (vb := .slice va 128 vc) hvb' hs hpg hbyt hal3 hown4 hgr hlies
                                have hset := fr_setCell w8 w9.heap.size 2 (.slice ua4 (ps.length + 1) uc4)
                                have hp5 := hp.frS hset (blk_push hlt hlies (by have := hal3.size; omega) (fun g e => by have := (hvb'.lt g e).1; omega))
                                have XO5 : (w8.setCell ⟨w9.heap.size, 2, none⟩ (.slice ua4 (ps.length + 1) uc4)).heap[w9.heap.size]? = some (.cells #[.int .i64 0, .slice a9 fs.length c9, .slice ua4 (ps.length + 1) uc4, .int .i64 cp, .int .i64 F, .bool D] 40) := heap_setCell_at XO4 2 (.slice ua4 (ps.length + 1) uc4)
                                have jR2 := (hb2.block _ (by omega)).trans jR
                                have jR3 := (hal3.block _ (by omega)).trans jR2
                                have jR4 := (hF4.block _ (by have := hal3.size; omega) (fun e => by have := (hub _ e).1; omega)).trans jR3
                                have jR5 : (w8.setCell ⟨w9.heap.size, 2, none⟩ (.slice ua4 (ps.length + 1) uc4)).heap[(w.heap.size + 1)]? = some (.cells #[.int .i64 0, .slice none 0 0, .slice none 0 0, .int .i64 0, .int .i64 0, .bool false] 40) := (hset.block _ (by have := hF4.size; have := hal3.size; omega) (fun e => by omega)).trans jR4
                                have hbY : Below w.heap.size w (w8.setCell ⟨w9.heap.size, 2, none⟩ (.slice ua4 (ps.length + 1) uc4)) := (((belX.trans (hb2.mono (by omega))).trans (hal3.mono (by omega))).trans (hF4.below (by have := hal3.size; omega) (fun g e => by have := (hub g e).1; omega))).trans (hset.below (by have := hF4.size; have := hal3.size; omega) (fun g e => by omega))
                                have hsY : w9.heap.size < (w8.setCell ⟨w9.heap.size, 2, none⟩ (.slice ua4 (ps.length + 1) uc4)).heap.size := (Array.getElem?_eq_some_iff.1 XO5).1
                                have hpl : (ps ++ [(nm, pg, bs)]).length = ps.length + 1 := by rw [List.length_append, List.length_singleton]
                                have hp6 := hp5
                                rw [← hpl] at hp6
                                have HR0 : ResAt w (.returned (.agg #[.int .i64 0, .slice a9 fs.length c9, .slice ua4 (ps ++ [(nm, pg, bs)]).length uc4, .int .i64 cp, .int .i64 F, .bool D])) (put6R _ (w.heap.size + 1) (.int .i64 0) (.slice a9 fs.length c9) (.slice ua4 (ps ++ [(nm, pg, bs)]).length uc4) (.int .i64 cp) (.int .i64 F) (.bool D)) 0 fs (ps ++ [(nm, pg, bs)]) cp F D := ResAt.mk6 (by omega) (base := w4.heap.size) hp6 (by omega) (by rw [hpl]; omega) (by rw [hpl]; exact hbY)
                                rw [hpl] at HR0
                                have HR : Hid (ResAt w (.returned (.agg #[.int .i64 0, .slice a9 fs.length c9, .slice ua4 (ps.length + 1) uc4, .int .i64 cp, .int .i64 F, .bool D])) (put6R (w8.setCell ⟨w9.heap.size, 2, none⟩ (.slice ua4 (ps.length + 1) uc4)) (w.heap.size + 1) (.int .i64 0) (.slice a9 fs.length c9) (.slice ua4 (ps.length + 1) uc4) (.int .i64 cp) (.int .i64 F) (.bool D)) 0 fs (ps ++ [(nm, pg, bs)]) cp F D) := HR0
                                have HB := put6R_box jR5 (.int .i64 0) (.slice a9 fs.length c9) (.slice ua4 (ps.length + 1) uc4) (.int .i64 cp) (.int .i64 F) (.bool D)
                                obtain ⟨y0, y1, y2, y3, y4, y5⟩ := box_sixR XO5
                                obtain ⟨r0, r1, r2, r3, r4, r5⟩ := box_sixR jR5
                                have ff := box_thawC jR5
                                clear HR0 hp6 hp5 hp hset hbY jR5 jR4 jR3 jR2 hF4 hgr hlies hown4 XO4 XO5 own own2 own3 hlt hub hal3 hvb hvb'
                                generalize (w8.setCell ⟨w9.heap.size, 2, none⟩ (.slice ua4 (ps.length + 1) uc4)) = Z at *
                                go_wp2
                                show bodyPost _ _ _ _ _ (put6R Z (w.heap.size + 1) (.int .i64 0) (.slice a9 fs.length c9) (.slice ua4 (ps.length + 1) uc4) (.int .i64 cp) (.int .i64 F) (.bool D))
                                clear r0 r1 r2 r3 r4 r5
                                obtain ⟨r0, r1, r2, r3, r4, r5⟩ := box_sixR HB
                                exact bodyPost_ret (v := .agg #[.int .i64 0, .slice a9 fs.length c9, .slice ua4 (ps.length + 1) uc4, .int .i64 cp, .int .i64 F, .bool D]) (by simp [results, Try.results16, go_sem, r0, r1, r2, r3, r4, r5]) rfl (by rw [HW.out, HX.out.1, HX.out.2.1, HX.out.2.2.1, HX.out.2.2.2.1, HX.out.2.2.2.2]; exact HR.out)
                      · go_simp
                        refine (l1Bytes_any pa 128 pc bs W.drew A B (by show B ≤ W.heap.size; omega) hbyX (by omega)).mono ?_
                        rintro e w2 ⟨va, vc, rfl, hvb, hb2x⟩
                        have hb2 : Below W.heap.size W w2 := ((Below.refl _ W).drew).trans hb2x
                        have XO2 := (hb2.block _ (by omega)).trans XO
                        have own2 := own.below hb2
                        have hs2 := hb2.size
                        clear hb2x
                        go_wp2_with fail
                        refine hK.out _ _ trivial (fun hHeld => ?_)
                        clear hK K
                        try simp only [Act.put, List.setIfInBounds_toArray, List.set_cons_zero, List.set_cons_succ]
                        refine wpAnyH_take (i := 7) (oi := { dst := some 80, op := Op.build 77 #[(0, Operand.tmp 76), (1, Operand.tmp 77), (2, Operand.tmp 79)], type := 77, pos := "l1_disk.go:202", after := #[{ on := 3, ground := Ground.data }, { on := 4, ground := Ground.data }, { on := 6, ground := Ground.data }], guard := none }) (v := ?_) rfl (by kernel_rfl) (by kernel_rfl) (by kernel_rfl) (fun _ _ _ h => h) (Or.inl ⟨by rfl, ?_⟩) (by assumption) ?_
                        rotate_left 1
                        · intro w hSw; (try dsimp only at hSw); go_simp; try (with_reducible rfl)
                        try simp only [Act.put, List.setIfInBounds_toArray, List.set_cons_zero, List.set_cons_succ]
                        refine wpAnyH_ready (rs := [2, 8]) (by kernel_rfl) (by simp) ?_
                        refine AllReadyH.cons (o := { dst := some 75, op := Op.load 30 (Operand.tmp 74), type := 30, pos := "l1_disk.go:202", after := #[{ on := 1, ground := Ground.data }], guard := none }) rfl (fun K hK => ?_) ?_
                        rotate_left 1
                        refine AllReadyH.cons (o := { dst := some 81, op := Op.buildSlice 30 1 #[(0, Operand.tmp 80)], type := 30, pos := "l1_disk.go:202", after := #[{ on := 7, ground := Ground.data }], guard := none }) rfl (fun K hK => ?_) ?_
                        rotate_left 1
                        exact AllReadyH.nil
                        · obtain ⟨o0, o1, o2, o3, o4, o5⟩ := box_sixR XO2
                          go_simp
                          clear o0 o1 o2 o3 o4 o5
                          refine hK.out _ _ trivial (fun hHeld => ?_)
                          clear hK K
                          try simp only [Act.put, List.setIfInBounds_toArray, List.set_cons_zero, List.set_cons_succ]
                          refine wpAnyH_ready (rs := [8]) (by kernel_rfl) (by simp) ?_
                          refine AllReadyH.cons (o := { dst := some 81, op := Op.buildSlice 30 1 #[(0, Operand.tmp 80)], type := 30, pos := "l1_disk.go:202", after := #[{ on := 7, ground := Ground.data }], guard := none }) rfl (fun K hK => ?_) ?_
                          rotate_left 1
                          exact AllReadyH.nil
                          · have hal3 : Below w2.heap.size w2 (w2.alloc (.cells #[.string nm, .int .i64 pg, .slice va 128 vc] 77)) := (Below.refl _ _).alloc (Nat.le_refl _) _
                            have XO3 := (hal3.block _ (by omega)).trans XO2
                            have own3 := own2.below hal3
                            go_simp
                            refine hK.out _ _ trivial (fun hHeld => ?_)
                            clear hK K
                            try simp only [Act.put, List.setIfInBounds_toArray, List.set_cons_zero, List.set_cons_succ]
                            refine wpAnyH_ready (rs := [9]) (by kernel_rfl) (by simp) ?_
                            refine AllReadyH.cons (o := { dst := some 82, op := Op.call { callee := Callee.builtin Builtin.append, args := #[Operand.tmp 75, Operand.tmp 81], argTypes := #[30, 30] }, type := 30, pos := "l1_disk.go:202", after := #[{ on := 2, ground := Ground.data }, { on := 8, ground := Ground.data }, { on := 6, ground := Ground.chain }], guard := none }) rfl (fun K hK => ?_) ?_
                            rotate_left 1
                            exact AllReadyH.nil
                            · have hrow3 := own3.cache.row
                              refine step_append_ownD rfl _ _ 30 rfl w4.heap.size 77 i0 _ 3 48 Try.underlying30 hi hz0 hz1 hz2 rfl (by decide) (.slice b9 ps.length d9) ps.length ys9 (by simp [Act.eval]) hrow3 ⟨w2.heap.size, 0, none⟩ 1 1 [.string nm, .int .i64 pg, .slice va 128 vc] (by simp [Act.eval]) rfl (cell_three_new _ _ _ _ _) (by simp [Value.oneCell']) (by unfold maxLen; omega) (by omega) (by have := hal3.size; omega) ?_
                              intro u4 w8 hown4 hgr hlies
                              obtain ⟨ua4, uc4, rfl⟩ := own_shape hown4
                              have hub : ∀ g, (Value.slice b9 ps.length d9).ownBlock = some g → w4.heap.size ≤ g ∧ g < w9.heap.size := fun g e => ⟨(own.cache.row.lt g e).1, hlt g (.inr (.inl e))⟩
                              have hF4 : Fr (fun g => (Value.slice b9 ps.length d9).ownBlock = some g) (w2.alloc (.cells #[.string nm, .int .i64 pg, .slice va 128 vc] 77)) w8 := Fr.of_grown hgr (fun g e => e)
                              have XO4 := (hF4.block _ (by have := hal3.size; omega) (fun e => by have := (hub _ e).2; omega)).trans XO3
                              refine hK.out _ _ trivial (fun hHeld => ?_)
                              clear hK K
                              try simp only [Act.put, List.setIfInBounds_toArray, List.set_cons_zero, List.set_cons_succ]
                              refine wpAnyH_take (i := 10) (oi := { dst := some 83, op := Op.fieldAddr 40 (Operand.tmp 11) 1, type := 0, pos := "l1_disk.go:202", after := #[{ on := 0, ground := Ground.phase }, { on := 1, ground := Ground.phase }, { on := 2, ground := Ground.phase }, { on := 3, ground := Ground.phase }, { on := 4, ground := Ground.phase }, { on := 5, ground := Ground.phase }, { on := 6, ground := Ground.phase }, { on := 7, ground := Ground.phase }, { on := 8, ground := Ground.phase }, { on := 9, ground := Ground.phase }], guard := none }) (v := ?_) rfl (by kernel_rfl) (by kernel_rfl) (by kernel_rfl) (fun _ _ _ h => h) (Or.inl ⟨by rfl, ?_⟩) (by assumption) ?_
                              rotate_left 1
                              · intro w hSw; (try dsimp only at hSw); go_simp; try (with_reducible rfl)
                              try simp only [Act.put, List.setIfInBounds_toArray, List.set_cons_zero, List.set_cons_succ]
                              refine wpAnyH_take (i := 11) (oi := { dst := some 84, op := Op.fieldAddr 32 (Operand.tmp 83) 1, type := 0, pos := "l1_disk.go:202", after := #[{ on := 10, ground := Ground.data }, { on := 0, ground := Ground.phase }, { on := 1, ground := Ground.phase }, { on := 2, ground := Ground.phase }, { on := 3, ground := Ground.phase }, { on := 4, ground := Ground.phase }, { on := 5, ground := Ground.phase }, { on := 6, ground := Ground.phase }, { on := 7, ground := Ground.phase }, { on := 8, ground := Ground.phase }, { on := 9, ground := Ground.phase }], guard := none }) (v := ?_) rfl (by kernel_rfl) (by kernel_rfl) (by kernel_rfl) (fun _ _ _ h => h) (Or.inl ⟨by rfl, ?_⟩) (by assumption) ?_
                              rotate_left 1
                              · intro w hSw; (try dsimp only at hSw); go_simp; try (with_reducible rfl)
                              try simp only [Act.put, List.setIfInBounds_toArray, List.set_cons_zero, List.set_cons_succ]
                              refine wpAnyH_ready (rs := [12]) (by kernel_rfl) (by simp) ?_
                              refine AllReadyH.cons (o := { dst := none, op := Op.store 30 (Operand.tmp 84) (Operand.tmp 82), type := 0, pos := "l1_disk.go:202", after := #[{ on := 11, ground := Ground.data }, { on := 9, ground := Ground.data }, { on := 9, ground := Ground.chain }, { on := 0, ground := Ground.phase }, { on := 1, ground := Ground.phase }, { on := 2, ground := Ground.phase }, { on := 3, ground := Ground.phase }, { on := 4, ground := Ground.phase }, { on := 5, ground := Ground.phase }, { on := 6, ground := Ground.phase }, { on := 7, ground := Ground.phase }, { on := 8, ground := Ground.phase }, { on := 9, ground := Ground.phase }], guard := none }) rfl (fun K hK => ?_) ?_
                              rotate_left 1
                              exact AllReadyH.nil
                              · obtain ⟨o0, o1, o2, o3, o4, o5⟩ := box_sixR XO4
                                have fo := box_thawC XO4
                                go_simp
                                clear o0 o1 o2 o3 o4 o5 fo
                                refine hK.out _ _ trivial (fun hHeld => ?_)
                                clear hK K
                                try simp only [Act.put, List.setIfInBounds_toArray, List.set_cons_zero, List.set_cons_succ]
                                refine wpAnyH_done (by kernel_rfl) ?_ _
                                refine NoPanic.normal ?_
                                have hvb' : w2.ownsRow W.heap.size 5 1 (.slice va 128 vc) bs.length (u8s bs) := by rw [HBL.out]; exact hvb
                                have hp := OwnD.push own (by omega) hb2 (f := (nm, pg, bs)) (vb := .slice va 128 vc) hvb' hs hpg hbyt hal3 hown4 hgr hlies
                                have hset := fr_setCell w8 w9.heap.size 2 (.slice ua4 (ps.length + 1) uc4)
                                have hp5 := hp.frS hset (blk_push hlt hlies (by have := hal3.size; omega) (fun g e => by have := (hvb'.lt g e).1; omega))
                                have XO5 : (w8.setCell ⟨w9.heap.size, 2, none⟩ (.slice ua4 (ps.length + 1) uc4)).heap[w9.heap.size]? = some (.cells #[.int .i64 0, .slice a9 fs.length c9, .slice ua4 (ps.length + 1) uc4, .int .i64 cp, .int .i64 F, .bool D] 40) := heap_setCell_at XO4 2 (.slice ua4 (ps.length + 1) uc4)
                                have jR2 := (hb2.block _ (by omega)).trans jR
                                have jR3 := (hal3.block _ (by omega)).trans jR2
                                have jR4 := (hF4.block _ (by have := hal3.size; omega) (fun e => by have := (hub _ e).1; omega)).trans jR3
                                have jR5 : (w8.setCell ⟨w9.heap.size, 2, none⟩ (.slice ua4 (ps.length + 1) uc4)).heap[(w.heap.size + 1)]? = some (.cells #[.int .i64 0, .slice none 0 0, .slice none 0 0, .int .i64 0, .int .i64 0, .bool false] 40) := (hset.block _ (by have := hF4.size; have := hal3.size; omega) (fun e => by omega)).trans jR4
                                have hbY : Below w.heap.size w (w8.setCell ⟨w9.heap.size, 2, none⟩ (.slice ua4 (ps.length + 1) uc4)) := (((belX.trans (hb2.mono (by omega))).trans (hal3.mono (by omega))).trans (hF4.below (by have := hal3.size; omega) (fun g e => by have := (hub g e).1; omega))).trans (hset.below (by have := hF4.size; have := hal3.size; omega) (fun g e => by omega))
                                have hsY : w9.heap.size < (w8.setCell ⟨w9.heap.size, 2, none⟩ (.slice ua4 (ps.length + 1) uc4)).heap.size := (Array.getElem?_eq_some_iff.1 XO5).1
                                have hpl : (ps ++ [(nm, pg, bs)]).length = ps.length + 1 := by rw [List.length_append, List.length_singleton]
                                have hp6 := hp5
                                rw [← hpl] at hp6
                                have HR0 : ResAt w (.returned (.agg #[.int .i64 0, .slice a9 fs.length c9, .slice ua4 (ps ++ [(nm, pg, bs)]).length uc4, .int .i64 cp, .int .i64 F, .bool D])) (put6R _ (w.heap.size + 1) (.int .i64 0) (.slice a9 fs.length c9) (.slice ua4 (ps ++ [(nm, pg, bs)]).length uc4) (.int .i64 cp) (.int .i64 F) (.bool D)) 0 fs (ps ++ [(nm, pg, bs)]) cp F D := ResAt.mk6 (by omega) (base := w4.heap.size) hp6 (by omega) (by rw [hpl]; omega) (by rw [hpl]; exact hbY)
                                rw [hpl] at HR0
                                have HR : Hid (ResAt w (.returned (.agg #[.int .i64 0, .slice a9 fs.length c9, .slice ua4 (ps.length + 1) uc4, .int .i64 cp, .int .i64 F, .bool D])) (put6R (w8.setCell ⟨w9.heap.size, 2, none⟩ (.slice ua4 (ps.length + 1) uc4)) (w.heap.size + 1) (.int .i64 0) (.slice a9 fs.length c9) (.slice ua4 (ps.length + 1) uc4) (.int .i64 cp) (.int .i64 F) (.bool D)) 0 fs (ps ++ [(nm, pg, bs)]) cp F D) := HR0
                                have HB := put6R_box jR5 (.int .i64 0) (.slice a9 fs.length c9) (.slice ua4 (ps.length + 1) uc4) (.int .i64 cp) (.int .i64 F) (.bool D)
                                obtain ⟨y0, y1, y2, y3, y4, y5⟩ := box_sixR XO5
                                obtain ⟨r0, r1, r2, r3, r4, r5⟩ := box_sixR jR5
                                have ff := box_thawC jR5
                                clear HR0 hp6 hp5 hp hset hbY jR5 jR4 jR3 jR2 hF4 hgr hlies hown4 XO4 XO5 own own2 own3 hlt hub hal3 hvb hvb'
                                generalize (w8.setCell ⟨w9.heap.size, 2, none⟩ (.slice ua4 (ps.length + 1) uc4)) = Z at *
                                go_wp2
                                show bodyPost _ _ _ _ _ (put6R Z (w.heap.size + 1) (.int .i64 0) (.slice a9 fs.length c9) (.slice ua4 (ps.length + 1) uc4) (.int .i64 cp) (.int .i64 F) (.bool D))
                                clear r0 r1 r2 r3 r4 r5
                                obtain ⟨r0, r1, r2, r3, r4, r5⟩ := box_sixR HB
                                exact bodyPost_ret (v := .agg #[.int .i64 0, .slice a9 fs.length c9, .slice ua4 (ps.length + 1) uc4, .int .i64 cp, .int .i64 F, .bool D]) (by simp [results, Try.results16, go_sem, r0, r1, r2, r3, r4, r5]) rfl (by rw [HW.out, HX.out.1, HX.out.2.1, HX.out.2.2.1, HX.out.2.2.2.1, HX.out.2.2.2.2]; exact HR.out)
                        · have hal3 : Below w2.heap.size w2 (w2.alloc (.cells #[.string nm, .int .i64 pg, .slice va 128 vc] 77)) := (Below.refl _ _).alloc (Nat.le_refl _) _
                          have XO3 := (hal3.block _ (by omega)).trans XO2
                          have own3 := own2.below hal3
                          go_simp
                          refine hK.out _ _ trivial (fun hHeld => ?_)
                          clear hK K
                          try simp only [Act.put, List.setIfInBounds_toArray, List.set_cons_zero, List.set_cons_succ]
                          refine wpAnyH_ready (rs := [2]) (by kernel_rfl) (by simp) ?_
                          refine AllReadyH.cons (o := { dst := some 75, op := Op.load 30 (Operand.tmp 74), type := 30, pos := "l1_disk.go:202", after := #[{ on := 1, ground := Ground.data }], guard := none }) rfl (fun K hK => ?_) ?_
                          rotate_left 1
                          exact AllReadyH.nil
                          · obtain ⟨o0, o1, o2, o3, o4, o5⟩ := box_sixR XO3
                            go_simp
                            clear o0 o1 o2 o3 o4 o5
                            refine hK.out _ _ trivial (fun hHeld => ?_)
                            clear hK K
                            try simp only [Act.put, List.setIfInBounds_toArray, List.set_cons_zero, List.set_cons_succ]
                            refine wpAnyH_ready (rs := [9]) (by kernel_rfl) (by simp) ?_
                            refine AllReadyH.cons (o := { dst := some 82, op := Op.call { callee := Callee.builtin Builtin.append, args := #[Operand.tmp 75, Operand.tmp 81], argTypes := #[30, 30] }, type := 30, pos := "l1_disk.go:202", after := #[{ on := 2, ground := Ground.data }, { on := 8, ground := Ground.data }, { on := 6, ground := Ground.chain }], guard := none }) rfl (fun K hK => ?_) ?_
                            rotate_left 1
                            exact AllReadyH.nil
                            · have hrow3 := own3.cache.row
                              refine step_append_ownD rfl _ _ 30 rfl w4.heap.size 77 i0 _ 3 48 Try.underlying30 hi hz0 hz1 hz2 rfl (by decide) (.slice b9 ps.length d9) ps.length ys9 (by simp [Act.eval]) hrow3 ⟨w2.heap.size, 0, none⟩ 1 1 [.string nm, .int .i64 pg, .slice va 128 vc] (by simp [Act.eval]) rfl (cell_three_new _ _ _ _ _) (by simp [Value.oneCell']) (by unfold maxLen; omega) (by omega) (by have := hal3.size; omega) ?_
                              intro u4 w8 hown4 hgr hlies
                              obtain ⟨ua4, uc4, rfl⟩ := own_shape hown4
                              have hub : ∀ g, (Value.slice b9 ps.length d9).ownBlock = some g → w4.heap.size ≤ g ∧ g < w9.heap.size := fun g e => ⟨(own.cache.row.lt g e).1, hlt g (.inr (.inl e))⟩
                              have hF4 : Fr (fun g => (Value.slice b9 ps.length d9).ownBlock = some g) (w2.alloc (.cells #[.string nm, .int .i64 pg, .slice va 128 vc] 77)) w8 := Fr.of_grown hgr (fun g e => e)
                              have XO4 := (hF4.block _ (by have := hal3.size; omega) (fun e => by have := (hub _ e).2; omega)).trans XO3
                              refine hK.out _ _ trivial (fun hHeld => ?_)
                              clear hK K
                              try simp only [Act.put, List.setIfInBounds_toArray, List.set_cons_zero, List.set_cons_succ]
                              refine wpAnyH_take (i := 10) (oi := { dst := some 83, op := Op.fieldAddr 40 (Operand.tmp 11) 1, type := 0, pos := "l1_disk.go:202", after := #[{ on := 0, ground := Ground.phase }, { on := 1, ground := Ground.phase }, { on := 2, ground := Ground.phase }, { on := 3, ground := Ground.phase }, { on := 4, ground := Ground.phase }, { on := 5, ground := Ground.phase }, { on := 6, ground := Ground.phase }, { on := 7, ground := Ground.phase }, { on := 8, ground := Ground.phase }, { on := 9, ground := Ground.phase }], guard := none }) (v := ?_) rfl (by kernel_rfl) (by kernel_rfl) (by kernel_rfl) (fun _ _ _ h => h) (Or.inl ⟨by rfl, ?_⟩) (by assumption) ?_
                              rotate_left 1
                              · intro w hSw; (try dsimp only at hSw); go_simp; try (with_reducible rfl)
                              try simp only [Act.put, List.setIfInBounds_toArray, List.set_cons_zero, List.set_cons_succ]
                              refine wpAnyH_take (i := 11) (oi := { dst := some 84, op := Op.fieldAddr 32 (Operand.tmp 83) 1, type := 0, pos := "l1_disk.go:202", after := #[{ on := 10, ground := Ground.data }, { on := 0, ground := Ground.phase }, { on := 1, ground := Ground.phase }, { on := 2, ground := Ground.phase }, { on := 3, ground := Ground.phase }, { on := 4, ground := Ground.phase }, { on := 5, ground := Ground.phase }, { on := 6, ground := Ground.phase }, { on := 7, ground := Ground.phase }, { on := 8, ground := Ground.phase }, { on := 9, ground := Ground.phase }], guard := none }) (v := ?_) rfl (by kernel_rfl) (by kernel_rfl) (by kernel_rfl) (fun _ _ _ h => h) (Or.inl ⟨by rfl, ?_⟩) (by assumption) ?_
                              rotate_left 1
                              · intro w hSw; (try dsimp only at hSw); go_simp; try (with_reducible rfl)
                              try simp only [Act.put, List.setIfInBounds_toArray, List.set_cons_zero, List.set_cons_succ]
                              refine wpAnyH_ready (rs := [12]) (by kernel_rfl) (by simp) ?_
                              refine AllReadyH.cons (o := { dst := none, op := Op.store 30 (Operand.tmp 84) (Operand.tmp 82), type := 0, pos := "l1_disk.go:202", after := #[{ on := 11, ground := Ground.data }, { on := 9, ground := Ground.data }, { on := 9, ground := Ground.chain }, { on := 0, ground := Ground.phase }, { on := 1, ground := Ground.phase }, { on := 2, ground := Ground.phase }, { on := 3, ground := Ground.phase }, { on := 4, ground := Ground.phase }, { on := 5, ground := Ground.phase }, { on := 6, ground := Ground.phase }, { on := 7, ground := Ground.phase }, { on := 8, ground := Ground.phase }, { on := 9, ground := Ground.phase }], guard := none }) rfl (fun K hK => ?_) ?_
                              rotate_left 1
                              exact AllReadyH.nil
                              · obtain ⟨o0, o1, o2, o3, o4, o5⟩ := box_sixR XO4
                                have fo := box_thawC XO4
                                go_simp
                                clear o0 o1 o2 o3 o4 o5 fo
                                refine hK.out _ _ trivial (fun hHeld => ?_)
                                clear hK K
                                try simp only [Act.put, List.setIfInBounds_toArray, List.set_cons_zero, List.set_cons_succ]
                                refine wpAnyH_done (by kernel_rfl) ?_ _
                                refine NoPanic.normal ?_
                                have hvb' : w2.ownsRow W.heap.size 5 1 (.slice va 128 vc) bs.length (u8s bs) := by rw [HBL.out]; exact hvb
                                have hp := OwnD.push own (by omega) hb2 (f := (nm, pg, bs)) (vb := .slice va 128 vc) hvb' hs hpg hbyt hal3 hown4 hgr hlies
                                have hset := fr_setCell w8 w9.heap.size 2 (.slice ua4 (ps.length + 1) uc4)
                                have hp5 := hp.frS hset (blk_push hlt hlies (by have := hal3.size; omega) (fun g e => by have := (hvb'.lt g e).1; omega))
                                have XO5 : (w8.setCell ⟨w9.heap.size, 2, none⟩ (.slice ua4 (ps.length + 1) uc4)).heap[w9.heap.size]? = some (.cells #[.int .i64 0, .slice a9 fs.length c9, .slice ua4 (ps.length + 1) uc4, .int .i64 cp, .int .i64 F, .bool D] 40) := heap_setCell_at XO4 2 (.slice ua4 (ps.length + 1) uc4)
                                have jR2 := (hb2.block _ (by omega)).trans jR
                                have jR3 := (hal3.block _ (by omega)).trans jR2
                                have jR4 := (hF4.block _ (by have := hal3.size; omega) (fun e => by have := (hub _ e).1; omega)).trans jR3
                                have jR5 : (w8.setCell ⟨w9.heap.size, 2, none⟩ (.slice ua4 (ps.length + 1) uc4)).heap[(w.heap.size + 1)]? = some (.cells #[.int .i64 0, .slice none 0 0, .slice none 0 0, .int .i64 0, .int .i64 0, .bool false] 40) := (hset.block _ (by have := hF4.size; have := hal3.size; omega) (fun e => by omega)).trans jR4
                                have hbY : Below w.heap.size w (w8.setCell ⟨w9.heap.size, 2, none⟩ (.slice ua4 (ps.length + 1) uc4)) := (((belX.trans (hb2.mono (by omega))).trans (hal3.mono (by omega))).trans (hF4.below (by have := hal3.size; omega) (fun g e => by have := (hub g e).1; omega))).trans (hset.below (by have := hF4.size; have := hal3.size; omega) (fun g e => by omega))
                                have hsY : w9.heap.size < (w8.setCell ⟨w9.heap.size, 2, none⟩ (.slice ua4 (ps.length + 1) uc4)).heap.size := (Array.getElem?_eq_some_iff.1 XO5).1
                                have hpl : (ps ++ [(nm, pg, bs)]).length = ps.length + 1 := by rw [List.length_append, List.length_singleton]
                                have hp6 := hp5
                                rw [← hpl] at hp6
                                have HR0 : ResAt w (.returned (.agg #[.int .i64 0, .slice a9 fs.length c9, .slice ua4 (ps ++ [(nm, pg, bs)]).length uc4, .int .i64 cp, .int .i64 F, .bool D])) (put6R _ (w.heap.size + 1) (.int .i64 0) (.slice a9 fs.length c9) (.slice ua4 (ps ++ [(nm, pg, bs)]).length uc4) (.int .i64 cp) (.int .i64 F) (.bool D)) 0 fs (ps ++ [(nm, pg, bs)]) cp F D := ResAt.mk6 (by omega) (base := w4.heap.size) hp6 (by omega) (by rw [hpl]; omega) (by rw [hpl]; exact hbY)
                                rw [hpl] at HR0
                                have HR : Hid (ResAt w (.returned (.agg #[.int .i64 0, .slice a9 fs.length c9, .slice ua4 (ps.length + 1) uc4, .int .i64 cp, .int .i64 F, .bool D])) (put6R (w8.setCell ⟨w9.heap.size, 2, none⟩ (.slice ua4 (ps.length + 1) uc4)) (w.heap.size + 1) (.int .i64 0) (.slice a9 fs.length c9) (.slice ua4 (ps.length + 1) uc4) (.int .i64 cp) (.int .i64 F) (.bool D)) 0 fs (ps ++ [(nm, pg, bs)]) cp F D) := HR0
                                have HB := put6R_box jR5 (.int .i64 0) (.slice a9 fs.length c9) (.slice ua4 (ps.length + 1) uc4) (.int .i64 cp) (.int .i64 F) (.bool D)
                                obtain ⟨y0, y1, y2, y3, y4, y5⟩ := box_sixR XO5
                                obtain ⟨r0, r1, r2, r3, r4, r5⟩ := box_sixR jR5
                                have ff := box_thawC jR5
                                clear HR0 hp6 hp5 hp hset hbY jR5 jR4 jR3 jR2 hF4 hgr hlies hown4 XO4 XO5 own own2 own3 hlt hub hal3 hvb hvb'
                                generalize (w8.setCell ⟨w9.heap.size, 2, none⟩ (.slice ua4 (ps.length + 1) uc4)) = Z at *
                                go_wp2
                                show bodyPost _ _ _ _ _ (put6R Z (w.heap.size + 1) (.int .i64 0) (.slice a9 fs.length c9) (.slice ua4 (ps.length + 1) uc4) (.int .i64 cp) (.int .i64 F) (.bool D))
                                clear r0 r1 r2 r3 r4 r5
                                obtain ⟨r0, r1, r2, r3, r4, r5⟩ := box_sixR HB
                                exact bodyPost_ret (v := .agg #[.int .i64 0, .slice a9 fs.length c9, .slice ua4 (ps.length + 1) uc4, .int .i64 cp, .int .i64 F, .bool D]) (by simp [results, Try.results16, go_sem, r0, r1, r2, r3, r4, r5]) rfl (by rw [HW.out, HX.out.1, HX.out.2.1, HX.out.2.2.1, HX.out.2.2.2.1, HX.out.2.2.2.2]; exact HR.out)
                · have u4 : decide (findI (lastF ps fs) nm < 0) = false := by simp; omega
                  have HW : Hid (rwI fs ps cp fu false nm pg bs = 0) := by show _ = _; rw [HE.out, if_neg (by omega)]
                  clear HE
                  try clear v1
                  try clear v2
                  try clear v3
                  try clear v4
                  try clear v5
                  go_wp2_with fail
                  go_quiet (first | (go_at_call 44; exact Calls.quiet_of_same (l1Total_any _ _ _ (lastF ps fs) _ _ _ (by exact hF2) hT2)) | (go_at_call 45; exact Calls.quiet_of_same (l1Find_any _ _ _ (lastF ps fs) nm _ _ _ (by exact hF2))))
                  have bel4 : Below w.heap.size w (w2''.drewN nq) := bel2.trans ⟨rfl, rfl, rfl, Nat.le_refl _, fun _ _ => rfl⟩
                  have jD4 : (w2''.drewN nq).heap[w.heap.size]? = some (.cells #[.slice a n c, .slice b m d, .int .i64 cp, .int .i64 fu, .bool false] 32) := jD2
                  have jR4 : (w2''.drewN nq).heap[w.heap.size + 1]? = some (.cells #[.int .i64 0, .slice none 0 0, .slice none 0 0, .int .i64 0, .int .i64 0, .bool false] 40) := jR2
                  have hs4 : w.heap.size + 2 ≤ (w2''.drewN nq).heap.size := by show _ ≤ w2''.heap.size; omega
                  clear x0 x1 x2 x3 x4 jD2 jR2 hF2 bel2 hs2 hs1 hs0 bel1
                  generalize w2''.drewN nq = w4 at bel4 jD4 jR4 hs4 ⊢
                  obtain ⟨x0, x1, x2, x3, x4⟩ := boxW5 jD4
                  go_wp2_with fail
                  refine (l1Spend_any a n c fs b m d ps cp fu false w4 A B (by omega) (HF.out _ bel4) (HP.out _ bel4) hn hm HA.out HA2.out hfu).mono ?_
                  rintro e w9 hres
                  obtain ⟨a9, c9, b9, d9, xs9, vs9, ys9, us9, rfl, hO9, hb9⟩ := hres.out
                  clear hres
                  have hs9 := hb9.size
                  have bel9 := bel4.trans (hb9.mono bel4.size)
                  have jR9 := (hb9.block (w.heap.size + 1) (by omega)).trans jR4
                  clear x0 x1 x2 x3 x4 jD4 jR4
                  by_cases h0 : fu = 0
                  · subst h0
                    rw [show spE 0 = 3 from rfl, show spF 0 = 0 from rfl, show spD 0 false = true from rfl]
                    have hal : Below w9.heap.size w9 (w9.alloc (.cells #[.int .i64 3, .slice a9 fs.length c9, .slice b9 ps.length d9, .int .i64 cp, .int .i64 0, .bool true] 40)) := (Below.refl _ _).alloc (Nat.le_refl _) _
                    have kN := heap_alloc_new w9 (.cells #[.int .i64 3, .slice a9 fs.length c9, .slice b9 ps.length d9, .int .i64 cp, .int .i64 0, .bool true] 40)
                    have jR := (hal.block (w.heap.size + 1) (by omega)).trans jR9
                    have hsX : (w9.alloc (.cells #[.int .i64 3, .slice a9 fs.length c9, .slice b9 ps.length d9, .int .i64 cp, .int .i64 0, .bool true] 40)).heap.size = w9.heap.size + 1 := by simp
                    obtain ⟨y0, y1, y2, y3, y4, y5⟩ := box_sixR kN
                    obtain ⟨r0, r1, r2, r3, r4, r5⟩ := box_sixR jR
                    have ff := box_thawC jR
                    have HB := put6R_box jR (.int .i64 3) (.slice a9 fs.length c9) (.slice b9 ps.length d9) (.int .i64 cp) (.int .i64 0) (.bool true)
                    have HR : Hid (ResAt w (.returned (.agg #[.int .i64 3, .slice a9 fs.length c9, .slice b9 ps.length d9, .int .i64 cp, .int .i64 0, .bool true])) (put6R (w9.alloc (.cells #[.int .i64 3, .slice a9 fs.length c9, .slice b9 ps.length d9, .int .i64 cp, .int .i64 0, .bool true] 40)) (w.heap.size + 1) (.int .i64 3) (.slice a9 fs.length c9) (.slice b9 ps.length d9) (.int .i64 cp) (.int .i64 0) (.bool true)) 3 fs ps cp 0 true) := ResAt.mk6 (by omega) (base := w4.heap.size) (hO9.below hal) (by omega) (by omega) (bel9.trans (hal.mono bel9.size))
                    clear hO9 hb9 jR jR9 hal kN
                    go_wp2
                    show bodyPost _ _ _ _ _ (put6R (w9.alloc (.cells #[.int .i64 3, .slice a9 fs.length c9, .slice b9 ps.length d9, .int .i64 cp, .int .i64 0, .bool true] 40)) (w.heap.size + 1) (.int .i64 3) (.slice a9 fs.length c9) (.slice b9 ps.length d9) (.int .i64 cp) (.int .i64 0) (.bool true))
                    clear r0 r1 r2 r3 r4 r5
                    obtain ⟨r0, r1, r2, r3, r4, r5⟩ := box_sixR HB
                    exact bodyPost_ret (v := .agg #[.int .i64 3, .slice a9 fs.length c9, .slice b9 ps.length d9, .int .i64 cp, .int .i64 0, .bool true]) (by simp [results, Try.results16, go_sem, r0, r1, r2, r3, r4, r5]) rfl (by rw [HW.out]; simpa [dsE, dsX, dsF, dsD, spE, spF, spD] using HR.out)
                  · obtain ⟨i0, hi, hz0, hz1, hz2⟩ := info_parts info_Pend
                    rw [show spE fu = 0 by simp [spE, h0]]
                    have HX : Hid (dsE 0 fu = 0 ∧ dsX 0 fu fs fs = fs ∧ dsX 0 fu ps (ps ++ [(nm, pg, bs)]) = ps ++ [(nm, pg, bs)] ∧ dsF 0 fu = spF fu ∧ dsD 0 fu false = spD fu false) := by show _ ∧ _; simp [dsE, dsX, dsF, dsD, spE, h0]
                    generalize spF fu = F at *
                    generalize spD fu false = D at *
                    have hal : Below w9.heap.size w9 (w9.alloc (.cells #[.int .i64 0, .slice a9 fs.length c9, .slice b9 ps.length d9, .int .i64 cp, .int .i64 F, .bool D] 40)) := (Below.refl _ _).alloc (Nat.le_refl _) _
                    have XO := heap_alloc_new w9 (.cells #[.int .i64 0, .slice a9 fs.length c9, .slice b9 ps.length d9, .int .i64 cp, .int .i64 F, .bool D] 40)
                    have jR := (hal.block (w.heap.size + 1) (by omega)).trans jR9
                    have hsX : (w9.alloc (.cells #[.int .i64 0, .slice a9 fs.length c9, .slice b9 ps.length d9, .int .i64 cp, .int .i64 F, .bool D] 40)).heap.size = w9.heap.size + 1 := by simp
                    have own := hO9.below hal
                    have hlt : ∀ g, Blk (.slice a9 fs.length c9) vs9 g ∨ Blk (.slice b9 ps.length d9) us9 g → g < w9.heap.size := fun g hg => (hO9.blk hg).2
                    have belX := bel9.trans (hal.mono bel9.size)
                    have hbyX := HBY.out _ belX
                    have hbyt := hbyX.2.2.2.1
                    have hps : ps.length ≤ 1048576 := by have := HML.out; omega
                    obtain ⟨y0, y1, y2, y3, y4, y5⟩ := box_sixR XO
                    clear hO9 hb9 jR9 hal
                    go_wp2_with fail
                    generalize (w9.alloc (.cells #[.int .i64 0, .slice a9 fs.length c9, .slice b9 ps.length d9, .int .i64 cp, .int .i64 F, .bool D] 40)) = W at *
                    clear y0 y1 y2 y3 y4 y5
                    refine wp_region_noPanic ?_
                    refine wp_region_held_drew (S := (fun _ => True)) (by kernel_rfl) ?_ (fun hHeld => ?_)
                    · exact trivial
                    refine wpAnyH_take (i := 0) (oi := { dst := some 73, op := Op.fieldAddr 40 (Operand.tmp 11) 1, type := 0, pos := "l1_disk.go:202", after := #[], guard := none }) (v := ?_) rfl (by kernel_rfl) (by kernel_rfl) (by kernel_rfl) (fun _ _ _ h => h) (Or.inl ⟨by rfl, ?_⟩) (by assumption) ?_
                    rotate_left 1
                    · intro w hSw; (try dsimp only at hSw); go_simp; try (with_reducible rfl)
                    try simp only [Act.put, List.setIfInBounds_toArray, List.set_cons_zero, List.set_cons_succ]
                    refine wpAnyH_take (i := 1) (oi := { dst := some 74, op := Op.fieldAddr 32 (Operand.tmp 73) 1, type := 0, pos := "l1_disk.go:202", after := #[{ on := 0, ground := Ground.data }], guard := none }) (v := ?_) rfl (by kernel_rfl) (by kernel_rfl) (by kernel_rfl) (fun _ _ _ h => h) (Or.inl ⟨by rfl, ?_⟩) (by assumption) ?_
                    rotate_left 1
                    · intro w hSw; (try dsimp only at hSw); go_simp; try (with_reducible rfl)
                    try simp only [Act.put, List.setIfInBounds_toArray, List.set_cons_zero, List.set_cons_succ]
                    refine wpAnyH_take (i := 3) (oi := { dst := some 76, op := Op.move (Operand.tmp 1), type := 9, pos := "l1_disk.go:202", after := #[], guard := none }) (v := ?_) rfl (by kernel_rfl) (by kernel_rfl) (by kernel_rfl) (fun _ _ _ h => h) (Or.inl ⟨by rfl, ?_⟩) (by assumption) ?_
                    rotate_left 1
                    · intro w hSw; (try dsimp only at hSw); go_simp; try (with_reducible rfl)
                    try simp only [Act.put, List.setIfInBounds_toArray, List.set_cons_zero, List.set_cons_succ]
                    refine wpAnyH_take (i := 4) (oi := { dst := some 77, op := Op.move (Operand.tmp 2), type := 2, pos := "l1_disk.go:202", after := #[], guard := none }) (v := ?_) rfl (by kernel_rfl) (by kernel_rfl) (by kernel_rfl) (fun _ _ _ h => h) (Or.inl ⟨by rfl, ?_⟩) (by assumption) ?_
                    rotate_left 1
                    · intro w hSw; (try dsimp only at hSw); go_simp; try (with_reducible rfl)
                    try simp only [Act.put, List.setIfInBounds_toArray, List.set_cons_zero, List.set_cons_succ]
                    refine wpAnyH_take (i := 5) (oi := { dst := some 78, op := Op.move (Operand.tmp 3), type := 27, pos := "l1_disk.go:202", after := #[], guard := none }) (v := ?_) rfl (by kernel_rfl) (by kernel_rfl) (by kernel_rfl) (fun _ _ _ h => h) (Or.inl ⟨by rfl, ?_⟩) (by assumption) ?_
                    rotate_left 1
                    · intro w hSw; (try dsimp only at hSw); go_simp; try (with_reducible rfl)
                    try simp only [Act.put, List.setIfInBounds_toArray, List.set_cons_zero, List.set_cons_succ]
                    refine wpAnyH_ready (rs := [2, 6]) (by kernel_rfl) (by simp) ?_
                    refine AllReadyH.cons (o := { dst := some 75, op := Op.load 30 (Operand.tmp 74), type := 30, pos := "l1_disk.go:202", after := #[{ on := 1, ground := Ground.data }], guard := none }) rfl (fun K hK => ?_) ?_
                    rotate_left 1
                    refine AllReadyH.cons (o := { dst := some 79, op := Op.call { callee := Callee.value (Operand.func 48), args := #[Operand.tmp 78], argTypes := #[27] }, type := 27, pos := "l1_disk.go:202", after := #[{ on := 5, ground := Ground.data }], guard := none }) rfl (fun K hK => ?_) ?_
                    rotate_left 1
                    exact AllReadyH.nil
                    · obtain ⟨o0, o1, o2, o3, o4, o5⟩ := box_sixR XO
                      go_simp
                      clear o0 o1 o2 o3 o4 o5
                      refine hK.out _ _ trivial (fun hHeld => ?_)
                      clear hK K
                      try simp only [Act.put, List.setIfInBounds_toArray, List.set_cons_zero, List.set_cons_succ]
                      refine wpAnyH_ready (rs := [6]) (by kernel_rfl) (by simp) ?_
                      refine AllReadyH.cons (o := { dst := some 79, op := Op.call { callee := Callee.value (Operand.func 48), args := #[Operand.tmp 78], argTypes := #[27] }, type := 27, pos := "l1_disk.go:202", after := #[{ on := 5, ground := Ground.data }], guard := none }) rfl (fun K hK => ?_) ?_
                      rotate_left 1
                      exact AllReadyH.nil
                      · go_simp
                        refine (l1Bytes_any pa 128 pc bs W.drew A B (by show B ≤ W.heap.size; omega) hbyX (by omega)).mono ?_
                        rintro e w2 ⟨va, vc, rfl, hvb, hb2x⟩
                        have hb2 : Below W.heap.size W w2 := ((Below.refl _ W).drew).trans hb2x
                        have XO2 := (hb2.block _ (by omega)).trans XO
                        have own2 := own.below hb2
                        have hs2 := hb2.size
                        clear hb2x
                        go_wp2_with fail
                        refine hK.out _ _ trivial (fun hHeld => ?_)
                        clear hK K
                        try simp only [Act.put, List.setIfInBounds_toArray, List.set_cons_zero, List.set_cons_succ]
                        refine wpAnyH_take (i := 7) (oi := { dst := some 80, op := Op.build 77 #[(0, Operand.tmp 76), (1, Operand.tmp 77), (2, Operand.tmp 79)], type := 77, pos := "l1_disk.go:202", after := #[{ on := 3, ground := Ground.data }, { on := 4, ground := Ground.data }, { on := 6, ground := Ground.data }], guard := none }) (v := ?_) rfl (by kernel_rfl) (by kernel_rfl) (by kernel_rfl) (fun _ _ _ h => h) (Or.inl ⟨by rfl, ?_⟩) (by assumption) ?_
                        rotate_left 1
                        · intro w hSw; (try dsimp only at hSw); go_simp; try (with_reducible rfl)
                        try simp only [Act.put, List.setIfInBounds_toArray, List.set_cons_zero, List.set_cons_succ]
                        refine wpAnyH_ready (rs := [8]) (by kernel_rfl) (by simp) ?_
                        refine AllReadyH.cons (o := { dst := some 81, op := Op.buildSlice 30 1 #[(0, Operand.tmp 80)], type := 30, pos := "l1_disk.go:202", after := #[{ on := 7, ground := Ground.data }], guard := none }) rfl (fun K hK => ?_) ?_
                        rotate_left 1
                        exact AllReadyH.nil
                        · have hal3 : Below w2.heap.size w2 (w2.alloc (.cells #[.string nm, .int .i64 pg, .slice va 128 vc] 77)) := (Below.refl _ _).alloc (Nat.le_refl _) _
                          have XO3 := (hal3.block _ (by omega)).trans XO2
                          have own3 := own2.below hal3
                          go_simp
                          refine hK.out _ _ trivial (fun hHeld => ?_)
                          clear hK K
                          try simp only [Act.put, List.setIfInBounds_toArray, List.set_cons_zero, List.set_cons_succ]
                          refine wpAnyH_ready (rs := [9]) (by kernel_rfl) (by simp) ?_
                          refine AllReadyH.cons (o := { dst := some 82, op := Op.call { callee := Callee.builtin Builtin.append, args := #[Operand.tmp 75, Operand.tmp 81], argTypes := #[30, 30] }, type := 30, pos := "l1_disk.go:202", after := #[{ on := 2, ground := Ground.data }, { on := 8, ground := Ground.data }, { on := 6, ground := Ground.chain }], guard := none }) rfl (fun K hK => ?_) ?_
                          rotate_left 1
                          exact AllReadyH.nil
                          · have hrow3 := own3.cache.row
                            refine step_append_ownD rfl _ _ 30 rfl w4.heap.size 77 i0 _ 3 48 Try.underlying30 hi hz0 hz1 hz2 rfl (by decide) (.slice b9 ps.length d9) ps.length ys9 (by simp [Act.eval]) hrow3 ⟨w2.heap.size, 0, none⟩ 1 1 [.string nm, .int .i64 pg, .slice va 128 vc] (by simp [Act.eval]) rfl (cell_three_new _ _ _ _ _) (by simp [Value.oneCell']) (by unfold maxLen; omega) (by omega) (by have := hal3.size; omega) ?_
                            intro u4 w8 hown4 hgr hlies
                            obtain ⟨ua4, uc4, rfl⟩ := own_shape hown4
                            have hub : ∀ g, (Value.slice b9 ps.length d9).ownBlock = some g → w4.heap.size ≤ g ∧ g < w9.heap.size := fun g e => ⟨(own.cache.row.lt g e).1, hlt g (.inr (.inl e))⟩
                            have hF4 : Fr (fun g => (Value.slice b9 ps.length d9).ownBlock = some g) (w2.alloc (.cells #[.string nm, .int .i64 pg, .slice va 128 vc] 77)) w8 := Fr.of_grown hgr (fun g e => e)
                            have XO4 := (hF4.block _ (by have := hal3.size; omega) (fun e => by have := (hub _ e).2; omega)).trans XO3
                            refine hK.out _ _ trivial (fun hHeld => ?_)
                            clear hK K
                            try simp only [Act.put, List.setIfInBounds_toArray, List.set_cons_zero, List.set_cons_succ]
                            refine wpAnyH_take (i := 10) (oi := { dst := some 83, op := Op.fieldAddr 40 (Operand.tmp 11) 1, type := 0, pos := "l1_disk.go:202", after := #[{ on := 0, ground := Ground.phase }, { on := 1, ground := Ground.phase }, { on := 2, ground := Ground.phase }, { on := 3, ground := Ground.phase }, { on := 4, ground := Ground.phase }, { on := 5, ground := Ground.phase }, { on := 6, ground := Ground.phase }, { on := 7, ground := Ground.phase }, { on := 8, ground := Ground.phase }, { on := 9, ground := Ground.phase }], guard := none }) (v := ?_) rfl (by kernel_rfl) (by kernel_rfl) (by kernel_rfl) (fun _ _ _ h => h) (Or.inl ⟨by rfl, ?_⟩) (by assumption) ?_
                            rotate_left 1
                            · intro w hSw; (try dsimp only at hSw); go_simp; try (with_reducible rfl)
                            try simp only [Act.put, List.setIfInBounds_toArray, List.set_cons_zero, List.set_cons_succ]
                            refine wpAnyH_take (i := 11) (oi := { dst := some 84, op := Op.fieldAddr 32 (Operand.tmp 83) 1, type := 0, pos := "l1_disk.go:202", after := #[{ on := 10, ground := Ground.data }, { on := 0, ground := Ground.phase }, { on := 1, ground := Ground.phase }, { on := 2, ground := Ground.phase }, { on := 3, ground := Ground.phase }, { on := 4, ground := Ground.phase }, { on := 5, ground := Ground.phase }, { on := 6, ground := Ground.phase }, { on := 7, ground := Ground.phase }, { on := 8, ground := Ground.phase }, { on := 9, ground := Ground.phase }], guard := none }) (v := ?_) rfl (by kernel_rfl) (by kernel_rfl) (by kernel_rfl) (fun _ _ _ h => h) (Or.inl ⟨by rfl, ?_⟩) (by assumption) ?_
                            rotate_left 1
                            · intro w hSw; (try dsimp only at hSw); go_simp; try (with_reducible rfl)
                            try simp only [Act.put, List.setIfInBounds_toArray, List.set_cons_zero, List.set_cons_succ]
                            refine wpAnyH_ready (rs := [12]) (by kernel_rfl) (by simp) ?_
                            refine AllReadyH.cons (o := { dst := none, op := Op.store 30 (Operand.tmp 84) (Operand.tmp 82), type := 0, pos := "l1_disk.go:202", after := #[{ on := 11, ground := Ground.data }, { on := 9, ground := Ground.data }, { on := 9, ground := Ground.chain }, { on := 0, ground := Ground.phase }, { on := 1, ground := Ground.phase }, { on := 2, ground := Ground.phase }, { on := 3, ground := Ground.phase }, { on := 4, ground := Ground.phase }, { on := 5, ground := Ground.phase }, { on := 6, ground := Ground.phase }, { on := 7, ground := Ground.phase }, { on := 8, ground := Ground.phase }, { on := 9, ground := Ground.phase }], guard := none }) rfl (fun K hK => ?_) ?_
                            rotate_left 1
                            exact AllReadyH.nil
                            · obtain ⟨o0, o1, o2, o3, o4, o5⟩ := box_sixR XO4
                              have fo := box_thawC XO4
                              go_simp
                              clear o0 o1 o2 o3 o4 o5 fo
                              refine hK.out _ _ trivial (fun hHeld => ?_)
                              clear hK K
                              try simp only [Act.put, List.setIfInBounds_toArray, List.set_cons_zero, List.set_cons_succ]
                              refine wpAnyH_done (by kernel_rfl) ?_ _
                              refine NoPanic.normal ?_
                              have hvb' : w2.ownsRow W.heap.size 5 1 (.slice va 128 vc) bs.length (u8s bs) := by rw [HBL.out]; exact hvb
                              have hp := OwnD.push own (by omega) hb2 (f := (nm, pg, bs)) (vb := .slice va 128 vc) hvb' hs hpg hbyt hal3 hown4 hgr hlies
                              have hset := fr_setCell w8 w9.heap.size 2 (.slice ua4 (ps.length + 1) uc4)
                              have hp5 := hp.frS hset (blk_push hlt hlies (by have := hal3.size; omega) (fun g e => by have := (hvb'.lt g e).1; omega))
                              have XO5 : (w8.setCell ⟨w9.heap.size, 2, none⟩ (.slice ua4 (ps.length + 1) uc4)).heap[w9.heap.size]? = some (.cells #[.int .i64 0, .slice a9 fs.length c9, .slice ua4 (ps.length + 1) uc4, .int .i64 cp, .int .i64 F, .bool D] 40) := heap_setCell_at XO4 2 (.slice ua4 (ps.length + 1) uc4)
                              have jR2 := (hb2.block _ (by omega)).trans jR
                              have jR3 := (hal3.block _ (by omega)).trans jR2
                              have jR4 := (hF4.block _ (by have := hal3.size; omega) (fun e => by have := (hub _ e).1; omega)).trans jR3
                              have jR5 : (w8.setCell ⟨w9.heap.size, 2, none⟩ (.slice ua4 (ps.length + 1) uc4)).heap[(w.heap.size + 1)]? = some (.cells #[.int .i64 0, .slice none 0 0, .slice none 0 0, .int .i64 0, .int .i64 0, .bool false] 40) := (hset.block _ (by have := hF4.size; have := hal3.size; omega) (fun e => by omega)).trans jR4
                              have hbY : Below w.heap.size w (w8.setCell ⟨w9.heap.size, 2, none⟩ (.slice ua4 (ps.length + 1) uc4)) := (((belX.trans (hb2.mono (by omega))).trans (hal3.mono (by omega))).trans (hF4.below (by have := hal3.size; omega) (fun g e => by have := (hub g e).1; omega))).trans (hset.below (by have := hF4.size; have := hal3.size; omega) (fun g e => by omega))
                              have hsY : w9.heap.size < (w8.setCell ⟨w9.heap.size, 2, none⟩ (.slice ua4 (ps.length + 1) uc4)).heap.size := (Array.getElem?_eq_some_iff.1 XO5).1
                              have hpl : (ps ++ [(nm, pg, bs)]).length = ps.length + 1 := by rw [List.length_append, List.length_singleton]
                              have hp6 := hp5
                              rw [← hpl] at hp6
                              have HR0 : ResAt w (.returned (.agg #[.int .i64 0, .slice a9 fs.length c9, .slice ua4 (ps ++ [(nm, pg, bs)]).length uc4, .int .i64 cp, .int .i64 F, .bool D])) (put6R _ (w.heap.size + 1) (.int .i64 0) (.slice a9 fs.length c9) (.slice ua4 (ps ++ [(nm, pg, bs)]).length uc4) (.int .i64 cp) (.int .i64 F) (.bool D)) 0 fs (ps ++ [(nm, pg, bs)]) cp F D := ResAt.mk6 (by omega) (base := w4.heap.size) hp6 (by omega) (by rw [hpl]; omega) (by rw [hpl]; exact hbY)
                              rw [hpl] at HR0
                              have HR : Hid (ResAt w (.returned (.agg #[.int .i64 0, .slice a9 fs.length c9, .slice ua4 (ps.length + 1) uc4, .int .i64 cp, .int .i64 F, .bool D])) (put6R (w8.setCell ⟨w9.heap.size, 2, none⟩ (.slice ua4 (ps.length + 1) uc4)) (w.heap.size + 1) (.int .i64 0) (.slice a9 fs.length c9) (.slice ua4 (ps.length + 1) uc4) (.int .i64 cp) (.int .i64 F) (.bool D)) 0 fs (ps ++ [(nm, pg, bs)]) cp F D) := HR0
                              have HB := put6R_box jR5 (.int .i64 0) (.slice a9 fs.length c9) (.slice ua4 (ps.length + 1) uc4) (.int .i64 cp) (.int .i64 F) (.bool D)
                              obtain ⟨y0, y1, y2, y3, y4, y5⟩ := box_sixR XO5
                              obtain ⟨r0, r1, r2, r3, r4, r5⟩ := box_sixR jR5
                              have ff := box_thawC jR5
                              clear HR0 hp6 hp5 hp hset hbY jR5 jR4 jR3 jR2 hF4 hgr hlies hown4 XO4 XO5 own own2 own3 hlt hub hal3 hvb hvb'
                              generalize (w8.setCell ⟨w9.heap.size, 2, none⟩ (.slice ua4 (ps.length + 1) uc4)) = Z at *
                              go_wp2
                              show bodyPost _ _ _ _ _ (put6R Z (w.heap.size + 1) (.int .i64 0) (.slice a9 fs.length c9) (.slice ua4 (ps.length + 1) uc4) (.int .i64 cp) (.int .i64 F) (.bool D))
                              clear r0 r1 r2 r3 r4 r5
                              obtain ⟨r0, r1, r2, r3, r4, r5⟩ := box_sixR HB
                              exact bodyPost_ret (v := .agg #[.int .i64 0, .slice a9 fs.length c9, .slice ua4 (ps.length + 1) uc4, .int .i64 cp, .int .i64 F, .bool D]) (by simp [results, Try.results16, go_sem, r0, r1, r2, r3, r4, r5]) rfl (by rw [HW.out, HX.out.1, HX.out.2.1, HX.out.2.2.1, HX.out.2.2.2.1, HX.out.2.2.2.2]; exact HR.out)
                    · go_simp
                      refine (l1Bytes_any pa 128 pc bs W.drew A B (by show B ≤ W.heap.size; omega) hbyX (by omega)).mono ?_
                      rintro e w2 ⟨va, vc, rfl, hvb, hb2x⟩
                      have hb2 : Below W.heap.size W w2 := ((Below.refl _ W).drew).trans hb2x
                      have XO2 := (hb2.block _ (by omega)).trans XO
                      have own2 := own.below hb2
                      have hs2 := hb2.size
                      clear hb2x
                      go_wp2_with fail
                      refine hK.out _ _ trivial (fun hHeld => ?_)
                      clear hK K
                      try simp only [Act.put, List.setIfInBounds_toArray, List.set_cons_zero, List.set_cons_succ]
                      refine wpAnyH_take (i := 7) (oi := { dst := some 80, op := Op.build 77 #[(0, Operand.tmp 76), (1, Operand.tmp 77), (2, Operand.tmp 79)], type := 77, pos := "l1_disk.go:202", after := #[{ on := 3, ground := Ground.data }, { on := 4, ground := Ground.data }, { on := 6, ground := Ground.data }], guard := none }) (v := ?_) rfl (by kernel_rfl) (by kernel_rfl) (by kernel_rfl) (fun _ _ _ h => h) (Or.inl ⟨by rfl, ?_⟩) (by assumption) ?_
                      rotate_left 1
                      · intro w hSw; (try dsimp only at hSw); go_simp; try (with_reducible rfl)
                      try simp only [Act.put, List.setIfInBounds_toArray, List.set_cons_zero, List.set_cons_succ]
                      refine wpAnyH_ready (rs := [2, 8]) (by kernel_rfl) (by simp) ?_
                      refine AllReadyH.cons (o := { dst := some 75, op := Op.load 30 (Operand.tmp 74), type := 30, pos := "l1_disk.go:202", after := #[{ on := 1, ground := Ground.data }], guard := none }) rfl (fun K hK => ?_) ?_
                      rotate_left 1
                      refine AllReadyH.cons (o := { dst := some 81, op := Op.buildSlice 30 1 #[(0, Operand.tmp 80)], type := 30, pos := "l1_disk.go:202", after := #[{ on := 7, ground := Ground.data }], guard := none }) rfl (fun K hK => ?_) ?_
                      rotate_left 1
                      exact AllReadyH.nil
                      · obtain ⟨o0, o1, o2, o3, o4, o5⟩ := box_sixR XO2
                        go_simp
                        clear o0 o1 o2 o3 o4 o5
                        refine hK.out _ _ trivial (fun hHeld => ?_)
                        clear hK K
                        try simp only [Act.put, List.setIfInBounds_toArray, List.set_cons_zero, List.set_cons_succ]
                        refine wpAnyH_ready (rs := [8]) (by kernel_rfl) (by simp) ?_
                        refine AllReadyH.cons (o := { dst := some 81, op := Op.buildSlice 30 1 #[(0, Operand.tmp 80)], type := 30, pos := "l1_disk.go:202", after := #[{ on := 7, ground := Ground.data }], guard := none }) rfl (fun K hK => ?_) ?_
                        rotate_left 1
                        exact AllReadyH.nil
                        · have hal3 : Below w2.heap.size w2 (w2.alloc (.cells #[.string nm, .int .i64 pg, .slice va 128 vc] 77)) := (Below.refl _ _).alloc (Nat.le_refl _) _
                          have XO3 := (hal3.block _ (by omega)).trans XO2
                          have own3 := own2.below hal3
                          go_simp
                          refine hK.out _ _ trivial (fun hHeld => ?_)
                          clear hK K
                          try simp only [Act.put, List.setIfInBounds_toArray, List.set_cons_zero, List.set_cons_succ]
                          refine wpAnyH_ready (rs := [9]) (by kernel_rfl) (by simp) ?_
                          refine AllReadyH.cons (o := { dst := some 82, op := Op.call { callee := Callee.builtin Builtin.append, args := #[Operand.tmp 75, Operand.tmp 81], argTypes := #[30, 30] }, type := 30, pos := "l1_disk.go:202", after := #[{ on := 2, ground := Ground.data }, { on := 8, ground := Ground.data }, { on := 6, ground := Ground.chain }], guard := none }) rfl (fun K hK => ?_) ?_
                          rotate_left 1
                          exact AllReadyH.nil
                          · have hrow3 := own3.cache.row
                            refine step_append_ownD rfl _ _ 30 rfl w4.heap.size 77 i0 _ 3 48 Try.underlying30 hi hz0 hz1 hz2 rfl (by decide) (.slice b9 ps.length d9) ps.length ys9 (by simp [Act.eval]) hrow3 ⟨w2.heap.size, 0, none⟩ 1 1 [.string nm, .int .i64 pg, .slice va 128 vc] (by simp [Act.eval]) rfl (cell_three_new _ _ _ _ _) (by simp [Value.oneCell']) (by unfold maxLen; omega) (by omega) (by have := hal3.size; omega) ?_
                            intro u4 w8 hown4 hgr hlies
                            obtain ⟨ua4, uc4, rfl⟩ := own_shape hown4
                            have hub : ∀ g, (Value.slice b9 ps.length d9).ownBlock = some g → w4.heap.size ≤ g ∧ g < w9.heap.size := fun g e => ⟨(own.cache.row.lt g e).1, hlt g (.inr (.inl e))⟩
                            have hF4 : Fr (fun g => (Value.slice b9 ps.length d9).ownBlock = some g) (w2.alloc (.cells #[.string nm, .int .i64 pg, .slice va 128 vc] 77)) w8 := Fr.of_grown hgr (fun g e => e)
                            have XO4 := (hF4.block _ (by have := hal3.size; omega) (fun e => by have := (hub _ e).2; omega)).trans XO3
                            refine hK.out _ _ trivial (fun hHeld => ?_)
                            clear hK K
                            try simp only [Act.put, List.setIfInBounds_toArray, List.set_cons_zero, List.set_cons_succ]
                            refine wpAnyH_take (i := 10) (oi := { dst := some 83, op := Op.fieldAddr 40 (Operand.tmp 11) 1, type := 0, pos := "l1_disk.go:202", after := #[{ on := 0, ground := Ground.phase }, { on := 1, ground := Ground.phase }, { on := 2, ground := Ground.phase }, { on := 3, ground := Ground.phase }, { on := 4, ground := Ground.phase }, { on := 5, ground := Ground.phase }, { on := 6, ground := Ground.phase }, { on := 7, ground := Ground.phase }, { on := 8, ground := Ground.phase }, { on := 9, ground := Ground.phase }], guard := none }) (v := ?_) rfl (by kernel_rfl) (by kernel_rfl) (by kernel_rfl) (fun _ _ _ h => h) (Or.inl ⟨by rfl, ?_⟩) (by assumption) ?_
                            rotate_left 1
                            · intro w hSw; (try dsimp only at hSw); go_simp; try (with_reducible rfl)
                            try simp only [Act.put, List.setIfInBounds_toArray, List.set_cons_zero, List.set_cons_succ]
                            refine wpAnyH_take (i := 11) (oi := { dst := some 84, op := Op.fieldAddr 32 (Operand.tmp 83) 1, type := 0, pos := "l1_disk.go:202", after := #[{ on := 10, ground := Ground.data }, { on := 0, ground := Ground.phase }, { on := 1, ground := Ground.phase }, { on := 2, ground := Ground.phase }, { on := 3, ground := Ground.phase }, { on := 4, ground := Ground.phase }, { on := 5, ground := Ground.phase }, { on := 6, ground := Ground.phase }, { on := 7, ground := Ground.phase }, { on := 8, ground := Ground.phase }, { on := 9, ground := Ground.phase }], guard := none }) (v := ?_) rfl (by kernel_rfl) (by kernel_rfl) (by kernel_rfl) (fun _ _ _ h => h) (Or.inl ⟨by rfl, ?_⟩) (by assumption) ?_
                            rotate_left 1
                            · intro w hSw; (try dsimp only at hSw); go_simp; try (with_reducible rfl)
                            try simp only [Act.put, List.setIfInBounds_toArray, List.set_cons_zero, List.set_cons_succ]
                            refine wpAnyH_ready (rs := [12]) (by kernel_rfl) (by simp) ?_
                            refine AllReadyH.cons (o := { dst := none, op := Op.store 30 (Operand.tmp 84) (Operand.tmp 82), type := 0, pos := "l1_disk.go:202", after := #[{ on := 11, ground := Ground.data }, { on := 9, ground := Ground.data }, { on := 9, ground := Ground.chain }, { on := 0, ground := Ground.phase }, { on := 1, ground := Ground.phase }, { on := 2, ground := Ground.phase }, { on := 3, ground := Ground.phase }, { on := 4, ground := Ground.phase }, { on := 5, ground := Ground.phase }, { on := 6, ground := Ground.phase }, { on := 7, ground := Ground.phase }, { on := 8, ground := Ground.phase }, { on := 9, ground := Ground.phase }], guard := none }) rfl (fun K hK => ?_) ?_
                            rotate_left 1
                            exact AllReadyH.nil
                            · obtain ⟨o0, o1, o2, o3, o4, o5⟩ := box_sixR XO4
                              have fo := box_thawC XO4
                              go_simp
                              clear o0 o1 o2 o3 o4 o5 fo
                              refine hK.out _ _ trivial (fun hHeld => ?_)
                              clear hK K
                              try simp only [Act.put, List.setIfInBounds_toArray, List.set_cons_zero, List.set_cons_succ]
                              refine wpAnyH_done (by kernel_rfl) ?_ _
                              refine NoPanic.normal ?_
                              have hvb' : w2.ownsRow W.heap.size 5 1 (.slice va 128 vc) bs.length (u8s bs) := by rw [HBL.out]; exact hvb
                              have hp := OwnD.push own (by omega) hb2 (f := (nm, pg, bs)) (vb := .slice va 128 vc) hvb' hs hpg hbyt hal3 hown4 hgr hlies
                              have hset := fr_setCell w8 w9.heap.size 2 (.slice ua4 (ps.length + 1) uc4)
                              have hp5 := hp.frS hset (blk_push hlt hlies (by have := hal3.size; omega) (fun g e => by have := (hvb'.lt g e).1; omega))
                              have XO5 : (w8.setCell ⟨w9.heap.size, 2, none⟩ (.slice ua4 (ps.length + 1) uc4)).heap[w9.heap.size]? = some (.cells #[.int .i64 0, .slice a9 fs.length c9, .slice ua4 (ps.length + 1) uc4, .int .i64 cp, .int .i64 F, .bool D] 40) := heap_setCell_at XO4 2 (.slice ua4 (ps.length + 1) uc4)
                              have jR2 := (hb2.block _ (by omega)).trans jR
                              have jR3 := (hal3.block _ (by omega)).trans jR2
                              have jR4 := (hF4.block _ (by have := hal3.size; omega) (fun e => by have := (hub _ e).1; omega)).trans jR3
                              have jR5 : (w8.setCell ⟨w9.heap.size, 2, none⟩ (.slice ua4 (ps.length + 1) uc4)).heap[(w.heap.size + 1)]? = some (.cells #[.int .i64 0, .slice none 0 0, .slice none 0 0, .int .i64 0, .int .i64 0, .bool false] 40) := (hset.block _ (by have := hF4.size; have := hal3.size; omega) (fun e => by omega)).trans jR4
                              have hbY : Below w.heap.size w (w8.setCell ⟨w9.heap.size, 2, none⟩ (.slice ua4 (ps.length + 1) uc4)) := (((belX.trans (hb2.mono (by omega))).trans (hal3.mono (by omega))).trans (hF4.below (by have := hal3.size; omega) (fun g e => by have := (hub g e).1; omega))).trans (hset.below (by have := hF4.size; have := hal3.size; omega) (fun g e => by omega))
                              have hsY : w9.heap.size < (w8.setCell ⟨w9.heap.size, 2, none⟩ (.slice ua4 (ps.length + 1) uc4)).heap.size := (Array.getElem?_eq_some_iff.1 XO5).1
                              have hpl : (ps ++ [(nm, pg, bs)]).length = ps.length + 1 := by rw [List.length_append, List.length_singleton]
                              have hp6 := hp5
                              rw [← hpl] at hp6
                              have HR0 : ResAt w (.returned (.agg #[.int .i64 0, .slice a9 fs.length c9, .slice ua4 (ps ++ [(nm, pg, bs)]).length uc4, .int .i64 cp, .int .i64 F, .bool D])) (put6R _ (w.heap.size + 1) (.int .i64 0) (.slice a9 fs.length c9) (.slice ua4 (ps ++ [(nm, pg, bs)]).length uc4) (.int .i64 cp) (.int .i64 F) (.bool D)) 0 fs (ps ++ [(nm, pg, bs)]) cp F D := ResAt.mk6 (by omega) (base := w4.heap.size) hp6 (by omega) (by rw [hpl]; omega) (by rw [hpl]; exact hbY)
                              rw [hpl] at HR0
                              have HR : Hid (ResAt w (.returned (.agg #[.int .i64 0, .slice a9 fs.length c9, .slice ua4 (ps.length + 1) uc4, .int .i64 cp, .int .i64 F, .bool D])) (put6R (w8.setCell ⟨w9.heap.size, 2, none⟩ (.slice ua4 (ps.length + 1) uc4)) (w.heap.size + 1) (.int .i64 0) (.slice a9 fs.length c9) (.slice ua4 (ps.length + 1) uc4) (.int .i64 cp) (.int .i64 F) (.bool D)) 0 fs (ps ++ [(nm, pg, bs)]) cp F D) := HR0
                              have HB := put6R_box jR5 (.int .i64 0) (.slice a9 fs.length c9) (.slice ua4 (ps.length + 1) uc4) (.int .i64 cp) (.int .i64 F) (.bool D)
                              obtain ⟨y0, y1, y2, y3, y4, y5⟩ := box_sixR XO5
                              obtain ⟨r0, r1, r2, r3, r4, r5⟩ := box_sixR jR5
                              have ff := box_thawC jR5
                              clear HR0 hp6 hp5 hp hset hbY jR5 jR4 jR3 jR2 hF4 hgr hlies hown4 XO4 XO5 own own2 own3 hlt hub hal3 hvb hvb'
                              generalize (w8.setCell ⟨w9.heap.size, 2, none⟩ (.slice ua4 (ps.length + 1) uc4)) = Z at *
                              go_wp2
                              show bodyPost _ _ _ _ _ (put6R Z (w.heap.size + 1) (.int .i64 0) (.slice a9 fs.length c9) (.slice ua4 (ps.length + 1) uc4) (.int .i64 cp) (.int .i64 F) (.bool D))
                              clear r0 r1 r2 r3 r4 r5
                              obtain ⟨r0, r1, r2, r3, r4, r5⟩ := box_sixR HB
                              exact bodyPost_ret (v := .agg #[.int .i64 0, .slice a9 fs.length c9, .slice ua4 (ps.length + 1) uc4, .int .i64 cp, .int .i64 F, .bool D]) (by simp [results, Try.results16, go_sem, r0, r1, r2, r3, r4, r5]) rfl (by rw [HW.out, HX.out.1, HX.out.2.1, HX.out.2.2.1, HX.out.2.2.2.1, HX.out.2.2.2.2]; exact HR.out)
                      · have hal3 : Below w2.heap.size w2 (w2.alloc (.cells #[.string nm, .int .i64 pg, .slice va 128 vc] 77)) := (Below.refl _ _).alloc (Nat.le_refl _) _
                        have XO3 := (hal3.block _ (by omega)).trans XO2
                        have own3 := own2.below hal3
                        go_simp
                        refine hK.out _ _ trivial (fun hHeld => ?_)
                        clear hK K
                        try simp only [Act.put, List.setIfInBounds_toArray, List.set_cons_zero, List.set_cons_succ]
                        refine wpAnyH_ready (rs := [2]) (by kernel_rfl) (by simp) ?_
                        refine AllReadyH.cons (o := { dst := some 75, op := Op.load 30 (Operand.tmp 74), type := 30, pos := "l1_disk.go:202", after := #[{ on := 1, ground := Ground.data }], guard := none }) rfl (fun K hK => ?_) ?_
                        rotate_left 1
                        exact AllReadyH.nil
                        · obtain ⟨o0, o1, o2, o3, o4, o5⟩ := box_sixR XO3
                          go_simp
                          clear o0 o1 o2 o3 o4 o5
                          refine hK.out _ _ trivial (fun hHeld => ?_)
                          clear hK K
                          try simp only [Act.put, List.setIfInBounds_toArray, List.set_cons_zero, List.set_cons_succ]
                          refine wpAnyH_ready (rs := [9]) (by kernel_rfl) (by simp) ?_
                          refine AllReadyH.cons (o := { dst := some 82, op := Op.call { callee := Callee.builtin Builtin.append, args := #[Operand.tmp 75, Operand.tmp 81], argTypes := #[30, 30] }, type := 30, pos := "l1_disk.go:202", after := #[{ on := 2, ground := Ground.data }, { on := 8, ground := Ground.data }, { on := 6, ground := Ground.chain }], guard := none }) rfl (fun K hK => ?_) ?_
                          rotate_left 1
                          exact AllReadyH.nil
                          · have hrow3 := own3.cache.row
                            refine step_append_ownD rfl _ _ 30 rfl w4.heap.size 77 i0 _ 3 48 Try.underlying30 hi hz0 hz1 hz2 rfl (by decide) (.slice b9 ps.length d9) ps.length ys9 (by simp [Act.eval]) hrow3 ⟨w2.heap.size, 0, none⟩ 1 1 [.string nm, .int .i64 pg, .slice va 128 vc] (by simp [Act.eval]) rfl (cell_three_new _ _ _ _ _) (by simp [Value.oneCell']) (by unfold maxLen; omega) (by omega) (by have := hal3.size; omega) ?_
                            intro u4 w8 hown4 hgr hlies
                            obtain ⟨ua4, uc4, rfl⟩ := own_shape hown4
                            have hub : ∀ g, (Value.slice b9 ps.length d9).ownBlock = some g → w4.heap.size ≤ g ∧ g < w9.heap.size := fun g e => ⟨(own.cache.row.lt g e).1, hlt g (.inr (.inl e))⟩
                            have hF4 : Fr (fun g => (Value.slice b9 ps.length d9).ownBlock = some g) (w2.alloc (.cells #[.string nm, .int .i64 pg, .slice va 128 vc] 77)) w8 := Fr.of_grown hgr (fun g e => e)
                            have XO4 := (hF4.block _ (by have := hal3.size; omega) (fun e => by have := (hub _ e).2; omega)).trans XO3
                            refine hK.out _ _ trivial (fun hHeld => ?_)
                            clear hK K
                            try simp only [Act.put, List.setIfInBounds_toArray, List.set_cons_zero, List.set_cons_succ]
                            refine wpAnyH_take (i := 10) (oi := { dst := some 83, op := Op.fieldAddr 40 (Operand.tmp 11) 1, type := 0, pos := "l1_disk.go:202", after := #[{ on := 0, ground := Ground.phase }, { on := 1, ground := Ground.phase }, { on := 2, ground := Ground.phase }, { on := 3, ground := Ground.phase }, { on := 4, ground := Ground.phase }, { on := 5, ground := Ground.phase }, { on := 6, ground := Ground.phase }, { on := 7, ground := Ground.phase }, { on := 8, ground := Ground.phase }, { on := 9, ground := Ground.phase }], guard := none }) (v := ?_) rfl (by kernel_rfl) (by kernel_rfl) (by kernel_rfl) (fun _ _ _ h => h) (Or.inl ⟨by rfl, ?_⟩) (by assumption) ?_
                            rotate_left 1
                            · intro w hSw; (try dsimp only at hSw); go_simp; try (with_reducible rfl)
                            try simp only [Act.put, List.setIfInBounds_toArray, List.set_cons_zero, List.set_cons_succ]
                            refine wpAnyH_take (i := 11) (oi := { dst := some 84, op := Op.fieldAddr 32 (Operand.tmp 83) 1, type := 0, pos := "l1_disk.go:202", after := #[{ on := 10, ground := Ground.data }, { on := 0, ground := Ground.phase }, { on := 1, ground := Ground.phase }, { on := 2, ground := Ground.phase }, { on := 3, ground := Ground.phase }, { on := 4, ground := Ground.phase }, { on := 5, ground := Ground.phase }, { on := 6, ground := Ground.phase }, { on := 7, ground := Ground.phase }, { on := 8, ground := Ground.phase }, { on := 9, ground := Ground.phase }], guard := none }) (v := ?_) rfl (by kernel_rfl) (by kernel_rfl) (by kernel_rfl) (fun _ _ _ h => h) (Or.inl ⟨by rfl, ?_⟩) (by assumption) ?_
                            rotate_left 1
                            · intro w hSw; (try dsimp only at hSw); go_simp; try (with_reducible rfl)
                            try simp only [Act.put, List.setIfInBounds_toArray, List.set_cons_zero, List.set_cons_succ]
                            refine wpAnyH_ready (rs := [12]) (by kernel_rfl) (by simp) ?_
                            refine AllReadyH.cons (o := { dst := none, op := Op.store 30 (Operand.tmp 84) (Operand.tmp 82), type := 0, pos := "l1_disk.go:202", after := #[{ on := 11, ground := Ground.data }, { on := 9, ground := Ground.data }, { on := 9, ground := Ground.chain }, { on := 0, ground := Ground.phase }, { on := 1, ground := Ground.phase }, { on := 2, ground := Ground.phase }, { on := 3, ground := Ground.phase }, { on := 4, ground := Ground.phase }, { on := 5, ground := Ground.phase }, { on := 6, ground := Ground.phase }, { on := 7, ground := Ground.phase }, { on := 8, ground := Ground.phase }, { on := 9, ground := Ground.phase }], guard := none }) rfl (fun K hK => ?_) ?_
                            rotate_left 1
                            exact AllReadyH.nil
                            · obtain ⟨o0, o1, o2, o3, o4, o5⟩ := box_sixR XO4
                              have fo := box_thawC XO4
                              go_simp
                              clear o0 o1 o2 o3 o4 o5 fo
                              refine hK.out _ _ trivial (fun hHeld => ?_)
                              clear hK K
                              try simp only [Act.put, List.setIfInBounds_toArray, List.set_cons_zero, List.set_cons_succ]
                              refine wpAnyH_done (by kernel_rfl) ?_ _
                              refine NoPanic.normal ?_
                              have hvb' : w2.ownsRow W.heap.size 5 1 (.slice va 128 vc) bs.length (u8s bs) := by rw [HBL.out]; exact hvb
                              have hp := OwnD.push own (by omega) hb2 (f := (nm, pg, bs)) (vb := .slice va 128 vc) hvb' hs hpg hbyt hal3 hown4 hgr hlies
                              have hset := fr_setCell w8 w9.heap.size 2 (.slice ua4 (ps.length + 1) uc4)
                              have hp5 := hp.frS hset (blk_push hlt hlies (by have := hal3.size; omega) (fun g e => by have := (hvb'.lt g e).1; omega))
                              have XO5 : (w8.setCell ⟨w9.heap.size, 2, none⟩ (.slice ua4 (ps.length + 1) uc4)).heap[w9.heap.size]? = some (.cells #[.int .i64 0, .slice a9 fs.length c9, .slice ua4 (ps.length + 1) uc4, .int .i64 cp, .int .i64 F, .bool D] 40) := heap_setCell_at XO4 2 (.slice ua4 (ps.length + 1) uc4)
                              have jR2 := (hb2.block _ (by omega)).trans jR
                              have jR3 := (hal3.block _ (by omega)).trans jR2
                              have jR4 := (hF4.block _ (by have := hal3.size; omega) (fun e => by have := (hub _ e).1; omega)).trans jR3
                              have jR5 : (w8.setCell ⟨w9.heap.size, 2, none⟩ (.slice ua4 (ps.length + 1) uc4)).heap[(w.heap.size + 1)]? = some (.cells #[.int .i64 0, .slice none 0 0, .slice none 0 0, .int .i64 0, .int .i64 0, .bool false] 40) := (hset.block _ (by have := hF4.size; have := hal3.size; omega) (fun e => by omega)).trans jR4
                              have hbY : Below w.heap.size w (w8.setCell ⟨w9.heap.size, 2, none⟩ (.slice ua4 (ps.length + 1) uc4)) := (((belX.trans (hb2.mono (by omega))).trans (hal3.mono (by omega))).trans (hF4.below (by have := hal3.size; omega) (fun g e => by have := (hub g e).1; omega))).trans (hset.below (by have := hF4.size; have := hal3.size; omega) (fun g e => by omega))
                              have hsY : w9.heap.size < (w8.setCell ⟨w9.heap.size, 2, none⟩ (.slice ua4 (ps.length + 1) uc4)).heap.size := (Array.getElem?_eq_some_iff.1 XO5).1
                              have hpl : (ps ++ [(nm, pg, bs)]).length = ps.length + 1 := by rw [List.length_append, List.length_singleton]
                              have hp6 := hp5
                              rw [← hpl] at hp6
                              have HR0 : ResAt w (.returned (.agg #[.int .i64 0, .slice a9 fs.length c9, .slice ua4 (ps ++ [(nm, pg, bs)]).length uc4, .int .i64 cp, .int .i64 F, .bool D])) (put6R _ (w.heap.size + 1) (.int .i64 0) (.slice a9 fs.length c9) (.slice ua4 (ps ++ [(nm, pg, bs)]).length uc4) (.int .i64 cp) (.int .i64 F) (.bool D)) 0 fs (ps ++ [(nm, pg, bs)]) cp F D := ResAt.mk6 (by omega) (base := w4.heap.size) hp6 (by omega) (by rw [hpl]; omega) (by rw [hpl]; exact hbY)
                              rw [hpl] at HR0
                              have HR : Hid (ResAt w (.returned (.agg #[.int .i64 0, .slice a9 fs.length c9, .slice ua4 (ps.length + 1) uc4, .int .i64 cp, .int .i64 F, .bool D])) (put6R (w8.setCell ⟨w9.heap.size, 2, none⟩ (.slice ua4 (ps.length + 1) uc4)) (w.heap.size + 1) (.int .i64 0) (.slice a9 fs.length c9) (.slice ua4 (ps.length + 1) uc4) (.int .i64 cp) (.int .i64 F) (.bool D)) 0 fs (ps ++ [(nm, pg, bs)]) cp F D) := HR0
                              have HB := put6R_box jR5 (.int .i64 0) (.slice a9 fs.length c9) (.slice ua4 (ps.length + 1) uc4) (.int .i64 cp) (.int .i64 F) (.bool D)
                              obtain ⟨y0, y1, y2, y3, y4, y5⟩ := box_sixR XO5
                              obtain ⟨r0, r1, r2, r3, r4, r5⟩ := box_sixR jR5
                              have ff := box_thawC jR5
                              clear HR0 hp6 hp5 hp hset hbY jR5 jR4 jR3 jR2 hF4 hgr hlies hown4 XO4 XO5 own own2 own3 hlt hub hal3 hvb hvb'
                              generalize (w8.setCell ⟨w9.heap.size, 2, none⟩ (.slice ua4 (ps.length + 1) uc4)) = Z at *
                              go_wp2
                              show bodyPost _ _ _ _ _ (put6R Z (w.heap.size + 1) (.int .i64 0) (.slice a9 fs.length c9) (.slice ua4 (ps.length + 1) uc4) (.int .i64 cp) (.int .i64 F) (.bool D))
                              clear r0 r1 r2 r3 r4 r5
                              obtain ⟨r0, r1, r2, r3, r4, r5⟩ := box_sixR HB
                              exact bodyPost_ret (v := .agg #[.int .i64 0, .slice a9 fs.length c9, .slice ua4 (ps.length + 1) uc4, .int .i64 cp, .int .i64 F, .bool D]) (by simp [results, Try.results16, go_sem, r0, r1, r2, r3, r4, r5]) rfl (by rw [HW.out, HX.out.1, HX.out.2.1, HX.out.2.2.1, HX.out.2.2.2.1, HX.out.2.2.2.2]; exact HR.out)
            · have u2 : (pg == lenI (lastF ps fs) nm) = false := by simp; omega
              by_cases v4 : findI (lastF ps fs) nm < 0
              · have u4 : decide (findI (lastF ps fs) nm < 0) = true := by simp; omega
                by_cases v5 : n2 = 12
                · have u5 : ((n2 : Int) == 12) = true := by simp; omega
                  have HW : Hid (rwI fs ps cp fu false nm pg bs = 2) := by show _ = _; rw [HE.out, if_pos (by omega)]
                  clear HE
                  try clear v1
                  try clear v2
                  try clear v3
                  try clear v4
                  try clear v5
                  go_wp2_with fail
                  go_quiet (first | (go_at_call 44; exact Calls.quiet_of_same (l1Total_any _ _ _ (lastF ps fs) _ _ _ (by exact hF2) hT2)) | (go_at_call 45; exact Calls.quiet_of_same (l1Find_any _ _ _ (lastF ps fs) nm _ _ _ (by exact hF2))))
                  have bel4 : Below w.heap.size w (w2''.drewN nq) := bel2.trans ⟨rfl, rfl, rfl, Nat.le_refl _, fun _ _ => rfl⟩
                  have jD4 : (w2''.drewN nq).heap[w.heap.size]? = some (.cells #[.slice a n c, .slice b m d, .int .i64 cp, .int .i64 fu, .bool false] 32) := jD2
                  have jR4 : (w2''.drewN nq).heap[w.heap.size + 1]? = some (.cells #[.int .i64 0, .slice none 0 0, .slice none 0 0, .int .i64 0, .int .i64 0, .bool false] 40) := jR2
                  have hs4 : w.heap.size + 2 ≤ (w2''.drewN nq).heap.size := by show _ ≤ w2''.heap.size; omega
                  clear x0 x1 x2 x3 x4 jD2 jR2 hF2 bel2 hs2 hs1 hs0 bel1
                  generalize w2''.drewN nq = w4 at bel4 jD4 jR4 hs4 ⊢
                  obtain ⟨x0, x1, x2, x3, x4⟩ := boxW5 jD4
                  go_wp2_with fail
                  refine (l1Copy_any a n c fs b m d ps cp fu false w4 A B (by omega) (HF.out _ bel4) (HP.out _ bel4) hn hm HA.out HA2.out).mono ?_
                  rintro e w9 ⟨v9, u9, xs9, vs9, ys9, us9, rfl, hO9, hb9⟩
                  obtain ⟨⟨a9, c9, rfl⟩, b9, d9, rfl⟩ := hO9.shape
                  have jR := (hb9.block (w.heap.size + 1) (by omega)).trans jR4
                  have hs9 := hb9.size
                  obtain ⟨r0, r1, r2, r3, r4, r5⟩ := box_sixR jR
                  have ff := box_thawC jR
                  have HB := put6R_box jR (.int .i64 2) (.slice a9 fs.length c9) (.slice b9 ps.length d9) (.int .i64 cp) (.int .i64 fu) (.bool false)
                  have HR : Hid (ResAt w (.returned (.agg #[.int .i64 2, .slice a9 fs.length c9, .slice b9 ps.length d9, .int .i64 cp, .int .i64 fu, .bool false])) (put6R w9 (w.heap.size + 1) (.int .i64 2) (.slice a9 fs.length c9) (.slice b9 ps.length d9) (.int .i64 cp) (.int .i64 fu) (.bool false)) 2 fs ps cp fu false) := ResAt.mk6 (by omega) (base := w4.heap.size) hO9 (by omega) (by omega) (bel4.trans (hb9.mono bel4.size))
                  clear hO9 hb9 jR jR4 jD4
                  go_wp2
                  show bodyPost _ _ _ _ _ (put6R w9 (w.heap.size + 1) (.int .i64 2) (.slice a9 fs.length c9) (.slice b9 ps.length d9) (.int .i64 cp) (.int .i64 fu) (.bool false))
                  clear r0 r1 r2 r3 r4 r5
                  obtain ⟨r0, r1, r2, r3, r4, r5⟩ := box_sixR HB
                  exact bodyPost_ret (v := .agg #[.int .i64 2, .slice a9 fs.length c9, .slice b9 ps.length d9, .int .i64 cp, .int .i64 fu, .bool false]) (by simp [results, Try.results16, go_sem, r0, r1, r2, r3, r4, r5]) rfl (by rw [HW.out]; simpa [dsE, dsX, dsF, dsD] using HR.out)
                · have u5 : ((n2 : Int) == 12) = false := by simp; omega
                  have HW : Hid (rwI fs ps cp fu false nm pg bs = 0) := by show _ = _; rw [HE.out, if_neg (by omega)]
                  clear HE
                  try clear v1
                  try clear v2
                  try clear v3
                  try clear v4
                  try clear v5
                  go_wp2_with fail
                  go_quiet (first | (go_at_call 44; exact Calls.quiet_of_same (l1Total_any _ _ _ (lastF ps fs) _ _ _ (by exact hF2) hT2)) | (go_at_call 45; exact Calls.quiet_of_same (l1Find_any _ _ _ (lastF ps fs) nm _ _ _ (by exact hF2))))
                  have bel4 : Below w.heap.size w (w2''.drewN nq) := bel2.trans ⟨rfl, rfl, rfl, Nat.le_refl _, fun _ _ => rfl⟩
                  have jD4 : (w2''.drewN nq).heap[w.heap.size]? = some (.cells #[.slice a n c, .slice b m d, .int .i64 cp, .int .i64 fu, .bool false] 32) := jD2
                  have jR4 : (w2''.drewN nq).heap[w.heap.size + 1]? = some (.cells #[.int .i64 0, .slice none 0 0, .slice none 0 0, .int .i64 0, .int .i64 0, .bool false] 40) := jR2
                  have hs4 : w.heap.size + 2 ≤ (w2''.drewN nq).heap.size := by show _ ≤ w2''.heap.size; omega
                  clear x0 x1 x2 x3 x4 jD2 jR2 hF2 bel2 hs2 hs1 hs0 bel1
                  generalize w2''.drewN nq = w4 at bel4 jD4 jR4 hs4 ⊢
                  obtain ⟨x0, x1, x2, x3, x4⟩ := boxW5 jD4
                  go_wp2_with fail
                  refine (l1Spend_any a n c fs b m d ps cp fu false w4 A B (by omega) (HF.out _ bel4) (HP.out _ bel4) hn hm HA.out HA2.out hfu).mono ?_
                  rintro e w9 hres
                  obtain ⟨a9, c9, b9, d9, xs9, vs9, ys9, us9, rfl, hO9, hb9⟩ := hres.out
                  clear hres
                  have hs9 := hb9.size
                  have bel9 := bel4.trans (hb9.mono bel4.size)
                  have jR9 := (hb9.block (w.heap.size + 1) (by omega)).trans jR4
                  clear x0 x1 x2 x3 x4 jD4 jR4
                  by_cases h0 : fu = 0
                  · subst h0
                    rw [show spE 0 = 3 from rfl, show spF 0 = 0 from rfl, show spD 0 false = true from rfl]
                    have hal : Below w9.heap.size w9 (w9.alloc (.cells #[.int .i64 3, .slice a9 fs.length c9, .slice b9 ps.length d9, .int .i64 cp, .int .i64 0, .bool true] 40)) := (Below.refl _ _).alloc (Nat.le_refl _) _
                    have kN := heap_alloc_new w9 (.cells #[.int .i64 3, .slice a9 fs.length c9, .slice b9 ps.length d9, .int .i64 cp, .int .i64 0, .bool true] 40)
                    have jR := (hal.block (w.heap.size + 1) (by omega)).trans jR9
                    have hsX : (w9.alloc (.cells #[.int .i64 3, .slice a9 fs.length c9, .slice b9 ps.length d9, .int .i64 cp, .int .i64 0, .bool true] 40)).heap.size = w9.heap.size + 1 := by simp
                    obtain ⟨y0, y1, y2, y3, y4, y5⟩ := box_sixR kN
                    obtain ⟨r0, r1, r2, r3, r4, r5⟩ := box_sixR jR
                    have ff := box_thawC jR
                    have HB := put6R_box jR (.int .i64 3) (.slice a9 fs.length c9) (.slice b9 ps.length d9) (.int .i64 cp) (.int .i64 0) (.bool true)
                    have HR : Hid (ResAt w (.returned (.agg #[.int .i64 3, .slice a9 fs.length c9, .slice b9 ps.length d9, .int .i64 cp, .int .i64 0, .bool true])) (put6R (w9.alloc (.cells #[.int .i64 3, .slice a9 fs.length c9, .slice b9 ps.length d9, .int .i64 cp, .int .i64 0, .bool true] 40)) (w.heap.size + 1) (.int .i64 3) (.slice a9 fs.length c9) (.slice b9 ps.length d9) (.int .i64 cp) (.int .i64 0) (.bool true)) 3 fs ps cp 0 true) := ResAt.mk6 (by omega) (base := w4.heap.size) (hO9.below hal) (by omega) (by omega) (bel9.trans (hal.mono bel9.size))
                    clear hO9 hb9 jR jR9 hal kN
                    go_wp2
                    show bodyPost _ _ _ _ _ (put6R (w9.alloc (.cells #[.int .i64 3, .slice a9 fs.length c9, .slice b9 ps.length d9, .int .i64 cp, .int .i64 0, .bool true] 40)) (w.heap.size + 1) (.int .i64 3) (.slice a9 fs.length c9) (.slice b9 ps.length d9) (.int .i64 cp) (.int .i64 0) (.bool true))
                    clear r0 r1 r2 r3 r4 r5
                    obtain ⟨r0, r1, r2, r3, r4, r5⟩ := box_sixR HB
                    exact bodyPost_ret (v := .agg #[.int .i64 3, .slice a9 fs.length c9, .slice b9 ps.length d9, .int .i64 cp, .int .i64 0, .bool true]) (by simp [results, Try.results16, go_sem, r0, r1, r2, r3, r4, r5]) rfl (by rw [HW.out]; simpa [dsE, dsX, dsF, dsD, spE, spF, spD] using HR.out)
                  · obtain ⟨i0, hi, hz0, hz1, hz2⟩ := info_parts info_Pend
                    rw [show spE fu = 0 by simp [spE, h0]]
                    have HX : Hid (dsE 0 fu = 0 ∧ dsX 0 fu fs fs = fs ∧ dsX 0 fu ps (ps ++ [(nm, pg, bs)]) = ps ++ [(nm, pg, bs)] ∧ dsF 0 fu = spF fu ∧ dsD 0 fu false = spD fu false) := by show _ ∧ _; simp [dsE, dsX, dsF, dsD, spE, h0]
                    generalize spF fu = F at *
                    generalize spD fu false = D at *
                    have hal : Below w9.heap.size w9 (w9.alloc (.cells #[.int .i64 0, .slice a9 fs.length c9, .slice b9 ps.length d9, .int .i64 cp, .int .i64 F, .bool D] 40)) := (Below.refl _ _).alloc (Nat.le_refl _) _
                    have XO := heap_alloc_new w9 (.cells #[.int .i64 0, .slice a9 fs.length c9, .slice b9 ps.length d9, .int .i64 cp, .int .i64 F, .bool D] 40)
                    have jR := (hal.block (w.heap.size + 1) (by omega)).trans jR9
                    have hsX : (w9.alloc (.cells #[.int .i64 0, .slice a9 fs.length c9, .slice b9 ps.length d9, .int .i64 cp, .int .i64 F, .bool D] 40)).heap.size = w9.heap.size + 1 := by simp
                    have own := hO9.below hal
                    have hlt : ∀ g, Blk (.slice a9 fs.length c9) vs9 g ∨ Blk (.slice b9 ps.length d9) us9 g → g < w9.heap.size := fun g hg => (hO9.blk hg).2
                    have belX := bel9.trans (hal.mono bel9.size)
                    have hbyX := HBY.out _ belX
                    have hbyt := hbyX.2.2.2.1
                    have hps : ps.length ≤ 1048576 := by have := HML.out; omega
                    obtain ⟨y0, y1, y2, y3, y4, y5⟩ := box_sixR XO
                    clear hO9 hb9 jR9 hal
                    go_wp2_with fail
                    generalize (w9.alloc (.cells #[.int .i64 0, .slice a9 fs.length c9, .slice b9 ps.length d9, .int .i64 cp, .int .i64 F, .bool D] 40)) = W at *
                    clear y0 y1 y2 y3 y4 y5
                    refine wp_region_noPanic ?_
                    refine wp_region_held_drew (S := (fun _ => True)) (by kernel_rfl) ?_ (fun hHeld => ?_)
                    · exact trivial
                    refine wpAnyH_take (i := 0) (oi := { dst := some 73, op := Op.fieldAddr 40 (Operand.tmp 11) 1, type := 0, pos := "l1_disk.go:202", after := #[], guard := none }) (v := ?_) rfl (by kernel_rfl) (by kernel_rfl) (by kernel_rfl) (fun _ _ _ h => h) (Or.inl ⟨by rfl, ?_⟩) (by assumption) ?_
                    rotate_left 1
                    · intro w hSw; (try dsimp only at hSw); go_simp; try (with_reducible rfl)
                    try simp only [Act.put, List.setIfInBounds_toArray, List.set_cons_zero, List.set_cons_succ]
                    refine wpAnyH_take (i := 1) (oi := { dst := some 74, op := Op.fieldAddr 32 (Operand.tmp 73) 1, type := 0, pos := "l1_disk.go:202", after := #[{ on := 0, ground := Ground.data }], guard := none }) (v := ?_) rfl (by kernel_rfl) (by kernel_rfl) (by kernel_rfl) (fun _ _ _ h => h) (Or.inl ⟨by rfl, ?_⟩) (by assumption) ?_
                    rotate_left 1
                    · intro w hSw; (try dsimp only at hSw); go_simp; try (with_reducible rfl)
                    try simp only [Act.put, List.setIfInBounds_toArray, List.set_cons_zero, List.set_cons_succ]
                    refine wpAnyH_take (i := 3) (oi := { dst := some 76, op := Op.move (Operand.tmp 1), type := 9, pos := "l1_disk.go:202", after := #[], guard := none }) (v := ?_) rfl (by kernel_rfl) (by kernel_rfl) (by kernel_rfl) (fun _ _ _ h => h) (Or.inl ⟨by rfl, ?_⟩) (by assumption) ?_
                    rotate_left 1
                    · intro w hSw; (try dsimp only at hSw); go_simp; try (with_reducible rfl)
                    try simp only [Act.put, List.setIfInBounds_toArray, List.set_cons_zero, List.set_cons_succ]
                    refine wpAnyH_take (i := 4) (oi := { dst := some 77, op := Op.move (Operand.tmp 2), type := 2, pos := "l1_disk.go:202", after := #[], guard := none }) (v := ?_) rfl (by kernel_rfl) (by kernel_rfl) (by kernel_rfl) (fun _ _ _ h => h) (Or.inl ⟨by rfl, ?_⟩) (by assumption) ?_
                    rotate_left 1
                    · intro w hSw; (try dsimp only at hSw); go_simp; try (with_reducible rfl)
                    try simp only [Act.put, List.setIfInBounds_toArray, List.set_cons_zero, List.set_cons_succ]
                    refine wpAnyH_take (i := 5) (oi := { dst := some 78, op := Op.move (Operand.tmp 3), type := 27, pos := "l1_disk.go:202", after := #[], guard := none }) (v := ?_) rfl (by kernel_rfl) (by kernel_rfl) (by kernel_rfl) (fun _ _ _ h => h) (Or.inl ⟨by rfl, ?_⟩) (by assumption) ?_
                    rotate_left 1
                    · intro w hSw; (try dsimp only at hSw); go_simp; try (with_reducible rfl)
                    try simp only [Act.put, List.setIfInBounds_toArray, List.set_cons_zero, List.set_cons_succ]
                    refine wpAnyH_ready (rs := [2, 6]) (by kernel_rfl) (by simp) ?_
                    refine AllReadyH.cons (o := { dst := some 75, op := Op.load 30 (Operand.tmp 74), type := 30, pos := "l1_disk.go:202", after := #[{ on := 1, ground := Ground.data }], guard := none }) rfl (fun K hK => ?_) ?_
                    rotate_left 1
                    refine AllReadyH.cons (o := { dst := some 79, op := Op.call { callee := Callee.value (Operand.func 48), args := #[Operand.tmp 78], argTypes := #[27] }, type := 27, pos := "l1_disk.go:202", after := #[{ on := 5, ground := Ground.data }], guard := none }) rfl (fun K hK => ?_) ?_
                    rotate_left 1
                    exact AllReadyH.nil
                    · obtain ⟨o0, o1, o2, o3, o4, o5⟩ := box_sixR XO
                      go_simp
                      clear o0 o1 o2 o3 o4 o5
                      refine hK.out _ _ trivial (fun hHeld => ?_)
                      clear hK K
                      try simp only [Act.put, List.setIfInBounds_toArray, List.set_cons_zero, List.set_cons_succ]
                      refine wpAnyH_ready (rs := [6]) (by kernel_rfl) (by simp) ?_
                      refine AllReadyH.cons (o := { dst := some 79, op := Op.call { callee := Callee.value (Operand.func 48), args := #[Operand.tmp 78], argTypes := #[27] }, type := 27, pos := "l1_disk.go:202", after := #[{ on := 5, ground := Ground.data }], guard := none }) rfl (fun K hK => ?_) ?_
                      rotate_left 1
                      exact AllReadyH.nil
                      · go_simp
                        refine (l1Bytes_any pa 128 pc bs W.drew A B (by show B ≤ W.heap.size; omega) hbyX (by omega)).mono ?_
                        rintro e w2 ⟨va, vc, rfl, hvb, hb2x⟩
                        have hb2 : Below W.heap.size W w2 := ((Below.refl _ W).drew).trans hb2x
                        have XO2 := (hb2.block _ (by omega)).trans XO
                        have own2 := own.below hb2
                        have hs2 := hb2.size
                        clear hb2x
                        go_wp2_with fail
                        refine hK.out _ _ trivial (fun hHeld => ?_)
                        clear hK K
                        try simp only [Act.put, List.setIfInBounds_toArray, List.set_cons_zero, List.set_cons_succ]
                        refine wpAnyH_take (i := 7) (oi := { dst := some 80, op := Op.build 77 #[(0, Operand.tmp 76), (1, Operand.tmp 77), (2, Operand.tmp 79)], type := 77, pos := "l1_disk.go:202", after := #[{ on := 3, ground := Ground.data }, { on := 4, ground := Ground.data }, { on := 6, ground := Ground.data }], guard := none }) (v := ?_) rfl (by kernel_rfl) (by kernel_rfl) (by kernel_rfl) (fun _ _ _ h => h) (Or.inl ⟨by rfl, ?_⟩) (by assumption) ?_
                        rotate_left 1
                        · intro w hSw; (try dsimp only at hSw); go_simp; try (with_reducible rfl)
                        try simp only [Act.put, List.setIfInBounds_toArray, List.set_cons_zero, List.set_cons_succ]
                        refine wpAnyH_ready (rs := [8]) (by kernel_rfl) (by simp) ?_
                        refine AllReadyH.cons (o := { dst := some 81, op := Op.buildSlice 30 1 #[(0, Operand.tmp 80)], type := 30, pos := "l1_disk.go:202", after := #[{ on := 7, ground := Ground.data }], guard := none }) rfl (fun K hK => ?_) ?_
                        rotate_left 1
                        exact AllReadyH.nil
                        · have hal3 : Below w2.heap.size w2 (w2.alloc (.cells #[.string nm, .int .i64 pg, .slice va 128 vc] 77)) := (Below.refl _ _).alloc (Nat.le_refl _) _
                          have XO3 := (hal3.block _ (by omega)).trans XO2
                          have own3 := own2.below hal3
                          go_simp
                          refine hK.out _ _ trivial (fun hHeld => ?_)
                          clear hK K
                          try simp only [Act.put, List.setIfInBounds_toArray, List.set_cons_zero, List.set_cons_succ]
                          refine wpAnyH_ready (rs := [9]) (by kernel_rfl) (by simp) ?_
                          refine AllReadyH.cons (o := { dst := some 82, op := Op.call { callee := Callee.builtin Builtin.append, args := #[Operand.tmp 75, Operand.tmp 81], argTypes := #[30, 30] }, type := 30, pos := "l1_disk.go:202", after := #[{ on := 2, ground := Ground.data }, { on := 8, ground := Ground.data }, { on := 6, ground := Ground.chain }], guard := none }) rfl (fun K hK => ?_) ?_
                          rotate_left 1
                          exact AllReadyH.nil
                          · have hrow3 := own3.cache.row
                            refine step_append_ownD rfl _ _ 30 rfl w4.heap.size 77 i0 _ 3 48 Try.underlying30 hi hz0 hz1 hz2 rfl (by decide) (.slice b9 ps.length d9) ps.length ys9 (by simp [Act.eval]) hrow3 ⟨w2.heap.size, 0, none⟩ 1 1 [.string nm, .int .i64 pg, .slice va 128 vc] (by simp [Act.eval]) rfl (cell_three_new _ _ _ _ _) (by simp [Value.oneCell']) (by unfold maxLen; omega) (by omega) (by have := hal3.size; omega) ?_
                            intro u4 w8 hown4 hgr hlies
                            obtain ⟨ua4, uc4, rfl⟩ := own_shape hown4
                            have hub : ∀ g, (Value.slice b9 ps.length d9).ownBlock = some g → w4.heap.size ≤ g ∧ g < w9.heap.size := fun g e => ⟨(own.cache.row.lt g e).1, hlt g (.inr (.inl e))⟩
                            have hF4 : Fr (fun g => (Value.slice b9 ps.length d9).ownBlock = some g) (w2.alloc (.cells #[.string nm, .int .i64 pg, .slice va 128 vc] 77)) w8 := Fr.of_grown hgr (fun g e => e)
                            have XO4 := (hF4.block _ (by have := hal3.size; omega) (fun e => by have := (hub _ e).2; omega)).trans XO3
                            refine hK.out _ _ trivial (fun hHeld => ?_)
                            clear hK K
                            try simp only [Act.put, List.setIfInBounds_toArray, List.set_cons_zero, List.set_cons_succ]
                            refine wpAnyH_take (i := 10) (oi := { dst := some 83, op := Op.fieldAddr 40 (Operand.tmp 11) 1, type := 0, pos := "l1_disk.go:202", after := #[{ on := 0, ground := Ground.phase }, { on := 1, ground := Ground.phase }, { on := 2, ground := Ground.phase }, { on := 3, ground := Ground.phase }, { on := 4, ground := Ground.phase }, { on := 5, ground := Ground.phase }, { on := 6, ground := Ground.phase }, { on := 7, ground := Ground.phase }, { on := 8, ground := Ground.phase }, { on := 9, ground := Ground.phase }], guard := none }) (v := ?_) rfl (by kernel_rfl) (by kernel_rfl) (by kernel_rfl) (fun _ _ _ h => h) (Or.inl ⟨by rfl, ?_⟩) (by assumption) ?_
                            rotate_left 1
                            · intro w hSw; (try dsimp only at hSw); go_simp; try (with_reducible rfl)
                            try simp only [Act.put, List.setIfInBounds_toArray, List.set_cons_zero, List.set_cons_succ]
                            refine wpAnyH_take (i := 11) (oi := { dst := some 84, op := Op.fieldAddr 32 (Operand.tmp 83) 1, type := 0, pos := "l1_disk.go:202", after := #[{ on := 10, ground := Ground.data }, { on := 0, ground := Ground.phase }, { on := 1, ground := Ground.phase }, { on := 2, ground := Ground.phase }, { on := 3, ground := Ground.phase }, { on := 4, ground := Ground.phase }, { on := 5, ground := Ground.phase }, { on := 6, ground := Ground.phase }, { on := 7, ground := Ground.phase }, { on := 8, ground := Ground.phase }, { on := 9, ground := Ground.phase }], guard := none }) (v := ?_) rfl (by kernel_rfl) (by kernel_rfl) (by kernel_rfl) (fun _ _ _ h => h) (Or.inl ⟨by rfl, ?_⟩) (by assumption) ?_
                            rotate_left 1
                            · intro w hSw; (try dsimp only at hSw); go_simp; try (with_reducible rfl)
                            try simp only [Act.put, List.setIfInBounds_toArray, List.set_cons_zero, List.set_cons_succ]
                            refine wpAnyH_ready (rs := [12]) (by kernel_rfl) (by simp) ?_
                            refine AllReadyH.cons (o := { dst := none, op := Op.store 30 (Operand.tmp 84) (Operand.tmp 82), type := 0, pos := "l1_disk.go:202", after := #[{ on := 11, ground := Ground.data }, { on := 9, ground := Ground.data }, { on := 9, ground := Ground.chain }, { on := 0, ground := Ground.phase }, { on := 1, ground := Ground.phase }, { on := 2, ground := Ground.phase }, { on := 3, ground := Ground.phase }, { on := 4, ground := Ground.phase }, { on := 5, ground := Ground.phase }, { on := 6, ground := Ground.phase }, { on := 7, ground := Ground.phase }, { on := 8, ground := Ground.phase }, { on := 9, ground := Ground.phase }], guard := none }) rfl (fun K hK => ?_) ?_
                            rotate_left 1
                            exact AllReadyH.nil
                            · obtain ⟨o0, o1, o2, o3, o4, o5⟩ := box_sixR XO4
                              have fo := box_thawC XO4
                              go_simp
                              clear o0 o1 o2 o3 o4 o5 fo
                              refine hK.out _ _ trivial (fun hHeld => ?_)
                              clear hK K
                              try simp only [Act.put, List.setIfInBounds_toArray, List.set_cons_zero, List.set_cons_succ]
                              refine wpAnyH_done (by kernel_rfl) ?_ _
                              refine NoPanic.normal ?_
                              have hvb' : w2.ownsRow W.heap.size 5 1 (.slice va 128 vc) bs.length (u8s bs) := by rw [HBL.out]; exact hvb
                              have hp := OwnD.push own (by omega) hb2 (f := (nm, pg, bs)) (vb := .slice va 128 vc) hvb' hs hpg hbyt hal3 hown4 hgr hlies
                              have hset := fr_setCell w8 w9.heap.size 2 (.slice ua4 (ps.length + 1) uc4)
                              have hp5 := hp.frS hset (blk_push hlt hlies (by have := hal3.size; omega) (fun g e => by have := (hvb'.lt g e).1; omega))
                              have XO5 : (w8.setCell ⟨w9.heap.size, 2, none⟩ (.slice ua4 (ps.length + 1) uc4)).heap[w9.heap.size]? = some (.cells #[.int .i64 0, .slice a9 fs.length c9, .slice ua4 (ps.length + 1) uc4, .int .i64 cp, .int .i64 F, .bool D] 40) := heap_setCell_at XO4 2 (.slice ua4 (ps.length + 1) uc4)
                              have jR2 := (hb2.block _ (by omega)).trans jR
                              have jR3 := (hal3.block _ (by omega)).trans jR2
                              have jR4 := (hF4.block _ (by have := hal3.size; omega) (fun e => by have := (hub _ e).1; omega)).trans jR3
                              have jR5 : (w8.setCell ⟨w9.heap.size, 2, none⟩ (.slice ua4 (ps.length + 1) uc4)).heap[(w.heap.size + 1)]? = some (.cells #[.int .i64 0, .slice none 0 0, .slice none 0 0, .int .i64 0, .int .i64 0, .bool false] 40) := (hset.block _ (by have := hF4.size; have := hal3.size; omega) (fun e => by omega)).trans jR4
                              have hbY : Below w.heap.size w (w8.setCell ⟨w9.heap.size, 2, none⟩ (.slice ua4 (ps.length + 1) uc4)) := (((belX.trans (hb2.mono (by omega))).trans (hal3.mono (by omega))).trans (hF4.below (by have := hal3.size; omega) (fun g e => by have := (hub g e).1; omega))).trans (hset.below (by have := hF4.size; have := hal3.size; omega) (fun g e => by omega))
                              have hsY : w9.heap.size < (w8.setCell ⟨w9.heap.size, 2, none⟩ (.slice ua4 (ps.length + 1) uc4)).heap.size := (Array.getElem?_eq_some_iff.1 XO5).1
                              have hpl : (ps ++ [(nm, pg, bs)]).length = ps.length + 1 := by rw [List.length_append, List.length_singleton]
                              have hp6 := hp5
                              rw [← hpl] at hp6
                              have HR0 : ResAt w (.returned (.agg #[.int .i64 0, .slice a9 fs.length c9, .slice ua4 (ps ++ [(nm, pg, bs)]).length uc4, .int .i64 cp, .int .i64 F, .bool D])) (put6R _ (w.heap.size + 1) (.int .i64 0) (.slice a9 fs.length c9) (.slice ua4 (ps ++ [(nm, pg, bs)]).length uc4) (.int .i64 cp) (.int .i64 F) (.bool D)) 0 fs (ps ++ [(nm, pg, bs)]) cp F D := ResAt.mk6 (by omega) (base := w4.heap.size) hp6 (by omega) (by rw [hpl]; omega) (by rw [hpl]; exact hbY)
                              rw [hpl] at HR0
                              have HR : Hid (ResAt w (.returned (.agg #[.int .i64 0, .slice a9 fs.length c9, .slice ua4 (ps.length + 1) uc4, .int .i64 cp, .int .i64 F, .bool D])) (put6R (w8.setCell ⟨w9.heap.size, 2, none⟩ (.slice ua4 (ps.length + 1) uc4)) (w.heap.size + 1) (.int .i64 0) (.slice a9 fs.length c9) (.slice ua4 (ps.length + 1) uc4) (.int .i64 cp) (.int .i64 F) (.bool D)) 0 fs (ps ++ [(nm, pg, bs)]) cp F D) := HR0
                              have HB := put6R_box jR5 (.int .i64 0) (.slice a9 fs.length c9) (.slice ua4 (ps.length + 1) uc4) (.int .i64 cp) (.int .i64 F) (.bool D)
                              obtain ⟨y0, y1, y2, y3, y4, y5⟩ := box_sixR XO5
                              obtain ⟨r0, r1, r2, r3, r4, r5⟩ := box_sixR jR5
                              have ff := box_thawC jR5
                              clear HR0 hp6 hp5 hp hset hbY jR5 jR4 jR3 jR2 hF4 hgr hlies hown4 XO4 XO5 own own2 own3 hlt hub hal3 hvb hvb'
                              generalize (w8.setCell ⟨w9.heap.size, 2, none⟩ (.slice ua4 (ps.length + 1) uc4)) = Z at *
                              go_wp2
                              show bodyPost _ _ _ _ _ (put6R Z (w.heap.size + 1) (.int .i64 0) (.slice a9 fs.length c9) (.slice ua4 (ps.length + 1) uc4) (.int .i64 cp) (.int .i64 F) (.bool D))
                              clear r0 r1 r2 r3 r4 r5
                              obtain ⟨r0, r1, r2, r3, r4, r5⟩ := box_sixR HB
                              exact bodyPost_ret (v := .agg #[.int .i64 0, .slice a9 fs.length c9, .slice ua4 (ps.length + 1) uc4, .int .i64 cp, .int .i64 F, .bool D]) (by simp [results, Try.results16, go_sem, r0, r1, r2, r3, r4, r5]) rfl (by rw [HW.out, HX.out.1, HX.out.2.1, HX.out.2.2.1, HX.out.2.2.2.1, HX.out.2.2.2.2]; exact HR.out)
                    · go_simp
                      refine (l1Bytes_any pa 128 pc bs W.drew A B (by show B ≤ W.heap.size; omega) hbyX (by omega)).mono ?_
                      rintro e w2 ⟨va, vc, rfl, hvb, hb2x⟩
                      have hb2 : Below W.heap.size W w2 := ((Below.refl _ W).drew).trans hb2x
                      have XO2 := (hb2.block _ (by omega)).trans XO
                      have own2 := own.below hb2
                      have hs2 := hb2.size
                      clear hb2x
                      go_wp2_with fail
                      refine hK.out _ _ trivial (fun hHeld => ?_)
                      clear hK K
                      try simp only [Act.put, List.setIfInBounds_toArray, List.set_cons_zero, List.set_cons_succ]
                      refine wpAnyH_take (i := 7) (oi := { dst := some 80, op := Op.build 77 #[(0, Operand.tmp 76), (1, Operand.tmp 77), (2, Operand.tmp 79)], type := 77, pos := "l1_disk.go:202", after := #[{ on := 3, ground := Ground.data }, { on := 4, ground := Ground.data }, { on := 6, ground := Ground.data }], guard := none }) (v := ?_) rfl (by kernel_rfl) (by kernel_rfl) (by kernel_rfl) (fun _ _ _ h => h) (Or.inl ⟨by rfl, ?_⟩) (by assumption) ?_
                      rotate_left 1
                      · intro w hSw; (try dsimp only at hSw); go_simp; try (with_reducible rfl)
                      try simp only [Act.put, List.setIfInBounds_toArray, List.set_cons_zero, List.set_cons_succ]
                      refine wpAnyH_ready (rs := [2, 8]) (by kernel_rfl) (by simp) ?_
                      refine AllReadyH.cons (o := { dst := some 75, op := Op.load 30 (Operand.tmp 74), type := 30, pos := "l1_disk.go:202", after := #[{ on := 1, ground := Ground.data }], guard := none }) rfl (fun K hK => ?_) ?_
                      rotate_left 1
                      refine AllReadyH.cons (o := { dst := some 81, op := Op.buildSlice 30 1 #[(0, Operand.tmp 80)], type := 30, pos := "l1_disk.go:202", after := #[{ on := 7, ground := Ground.data }], guard := none }) rfl (fun K hK => ?_) ?_
                      rotate_left 1
                      exact AllReadyH.nil
                      · obtain ⟨o0, o1, o2, o3, o4, o5⟩ := box_sixR XO2
                        go_simp
                        clear o0 o1 o2 o3 o4 o5
                        refine hK.out _ _ trivial (fun hHeld => ?_)
                        clear hK K
                        try simp only [Act.put, List.setIfInBounds_toArray, List.set_cons_zero, List.set_cons_succ]
                        refine wpAnyH_ready (rs := [8]) (by kernel_rfl) (by simp) ?_
                        refine AllReadyH.cons (o := { dst := some 81, op := Op.buildSlice 30 1 #[(0, Operand.tmp 80)], type := 30, pos := "l1_disk.go:202", after := #[{ on := 7, ground := Ground.data }], guard := none }) rfl (fun K hK => ?_) ?_
                        rotate_left 1
                        exact AllReadyH.nil
                        · have hal3 : Below w2.heap.size w2 (w2.alloc (.cells #[.string nm, .int .i64 pg, .slice va 128 vc] 77)) := (Below.refl _ _).alloc (Nat.le_refl _) _
                          have XO3 := (hal3.block _ (by omega)).trans XO2
                          have own3 := own2.below hal3
                          go_simp
                          refine hK.out _ _ trivial (fun hHeld => ?_)
                          clear hK K
                          try simp only [Act.put, List.setIfInBounds_toArray, List.set_cons_zero, List.set_cons_succ]
                          refine wpAnyH_ready (rs := [9]) (by kernel_rfl) (by simp) ?_
                          refine AllReadyH.cons (o := { dst := some 82, op := Op.call { callee := Callee.builtin Builtin.append, args := #[Operand.tmp 75, Operand.tmp 81], argTypes := #[30, 30] }, type := 30, pos := "l1_disk.go:202", after := #[{ on := 2, ground := Ground.data }, { on := 8, ground := Ground.data }, { on := 6, ground := Ground.chain }], guard := none }) rfl (fun K hK => ?_) ?_
                          rotate_left 1
                          exact AllReadyH.nil
                          · have hrow3 := own3.cache.row
                            refine step_append_ownD rfl _ _ 30 rfl w4.heap.size 77 i0 _ 3 48 Try.underlying30 hi hz0 hz1 hz2 rfl (by decide) (.slice b9 ps.length d9) ps.length ys9 (by simp [Act.eval]) hrow3 ⟨w2.heap.size, 0, none⟩ 1 1 [.string nm, .int .i64 pg, .slice va 128 vc] (by simp [Act.eval]) rfl (cell_three_new _ _ _ _ _) (by simp [Value.oneCell']) (by unfold maxLen; omega) (by omega) (by have := hal3.size; omega) ?_
                            intro u4 w8 hown4 hgr hlies
                            obtain ⟨ua4, uc4, rfl⟩ := own_shape hown4
                            have hub : ∀ g, (Value.slice b9 ps.length d9).ownBlock = some g → w4.heap.size ≤ g ∧ g < w9.heap.size := fun g e => ⟨(own.cache.row.lt g e).1, hlt g (.inr (.inl e))⟩
                            have hF4 : Fr (fun g => (Value.slice b9 ps.length d9).ownBlock = some g) (w2.alloc (.cells #[.string nm, .int .i64 pg, .slice va 128 vc] 77)) w8 := Fr.of_grown hgr (fun g e => e)
                            have XO4 := (hF4.block _ (by have := hal3.size; omega) (fun e => by have := (hub _ e).2; omega)).trans XO3
                            refine hK.out _ _ trivial (fun hHeld => ?_)
                            clear hK K
                            try simp only [Act.put, List.setIfInBounds_toArray, List.set_cons_zero, List.set_cons_succ]
                            refine wpAnyH_take (i := 10) (oi := { dst := some 83, op := Op.fieldAddr 40 (Operand.tmp 11) 1, type := 0, pos := "l1_disk.go:202", after := #[{ on := 0, ground := Ground.phase }, { on := 1, ground := Ground.phase }, { on := 2, ground := Ground.phase }, { on := 3, ground := Ground.phase }, { on := 4, ground := Ground.phase }, { on := 5, ground := Ground.phase }, { on := 6, ground := Ground.phase }, { on := 7, ground := Ground.phase }, { on := 8, ground := Ground.phase }, { on := 9, ground := Ground.phase }], guard := none }) (v := ?_) rfl (by kernel_rfl) (by kernel_rfl) (by kernel_rfl) (fun _ _ _ h => h) (Or.inl ⟨by rfl, ?_⟩) (by assumption) ?_
                            rotate_left 1
                            · intro w hSw; (try dsimp only at hSw); go_simp; try (with_reducible rfl)
                            try simp only [Act.put, List.setIfInBounds_toArray, List.set_cons_zero, List.set_cons_succ]
                            refine wpAnyH_take (i := 11) (oi := { dst := some 84, op := Op.fieldAddr 32 (Operand.tmp 83) 1, type := 0, pos := "l1_disk.go:202", after := #[{ on := 10, ground := Ground.data }, { on := 0, ground := Ground.phase }, { on := 1, ground := Ground.phase }, { on := 2, ground := Ground.phase }, { on := 3, ground := Ground.phase }, { on := 4, ground := Ground.phase }, { on := 5, ground := Ground.phase }, { on := 6, ground := Ground.phase }, { on := 7, ground := Ground.phase }, { on := 8, ground := Ground.phase }, { on := 9, ground := Ground.phase }], guard := none }) (v := ?_) rfl (by kernel_rfl) (by kernel_rfl) (by kernel_rfl) (fun _ _ _ h => h) (Or.inl ⟨by rfl, ?_⟩) (by assumption) ?_
                            rotate_left 1
                            · intro w hSw; (try dsimp only at hSw); go_simp; try (with_reducible rfl)
                            try simp only [Act.put, List.setIfInBounds_toArray, List.set_cons_zero, List.set_cons_succ]
                            refine wpAnyH_ready (rs := [12]) (by kernel_rfl) (by simp) ?_
                            refine AllReadyH.cons (o := { dst := none, op := Op.store 30 (Operand.tmp 84) (Operand.tmp 82), type := 0, pos := "l1_disk.go:202", after := #[{ on := 11, ground := Ground.data }, { on := 9, ground := Ground.data }, { on := 9, ground := Ground.chain }, { on := 0, ground := Ground.phase }, { on := 1, ground := Ground.phase }, { on := 2, ground := Ground.phase }, { on := 3, ground := Ground.phase }, { on := 4, ground := Ground.phase }, { on := 5, ground := Ground.phase }, { on := 6, ground := Ground.phase }, { on := 7, ground := Ground.phase }, { on := 8, ground := Ground.phase }, { on := 9, ground := Ground.phase }], guard := none }) rfl (fun K hK => ?_) ?_
                            rotate_left 1
                            exact AllReadyH.nil
                            · obtain ⟨o0, o1, o2, o3, o4, o5⟩ := box_sixR XO4
                              have fo := box_thawC XO4
                              go_simp
                              clear o0 o1 o2 o3 o4 o5 fo
                              refine hK.out _ _ trivial (fun hHeld => ?_)
                              clear hK K
                              try simp only [Act.put, List.setIfInBounds_toArray, List.set_cons_zero, List.set_cons_succ]
                              refine wpAnyH_done (by kernel_rfl) ?_ _
                              refine NoPanic.normal ?_
                              have hvb' : w2.ownsRow W.heap.size 5 1 (.slice va 128 vc) bs.length (u8s bs) := by rw [HBL.out]; exact hvb
                              have hp := OwnD.push own (by omega) hb2 (f := (nm, pg, bs)) (vb := .slice va 128 vc) hvb' hs hpg hbyt hal3 hown4 hgr hlies
                              have hset := fr_setCell w8 w9.heap.size 2 (.slice ua4 (ps.length + 1) uc4)
                              have hp5 := hp.frS hset (blk_push hlt hlies (by have := hal3.size; omega) (fun g e => by have := (hvb'.lt g e).1; omega))
                              have XO5 : (w8.setCell ⟨w9.heap.size, 2, none⟩ (.slice ua4 (ps.length + 1) uc4)).heap[w9.heap.size]? = some (.cells #[.int .i64 0, .slice a9 fs.length c9, .slice ua4 (ps.length + 1) uc4, .int .i64 cp, .int .i64 F, .bool D] 40) := heap_setCell_at XO4 2 (.slice ua4 (ps.length + 1) uc4)
                              have jR2 := (hb2.block _ (by omega)).trans jR
                              have jR3 := (hal3.block _ (by omega)).trans jR2
                              have jR4 := (hF4.block _ (by have := hal3.size; omega) (fun e => by have := (hub _ e).1; omega)).trans jR3
                              have jR5 : (w8.setCell ⟨w9.heap.size, 2, none⟩ (.slice ua4 (ps.length + 1) uc4)).heap[(w.heap.size + 1)]? = some (.cells #[.int .i64 0, .slice none 0 0, .slice none 0 0, .int .i64 0, .int .i64 0, .bool false] 40) := (hset.block _ (by have := hF4.size; have := hal3.size; omega) (fun e => by omega)).trans jR4
                              have hbY : Below w.heap.size w (w8.setCell ⟨w9.heap.size, 2, none⟩ (.slice ua4 (ps.length + 1) uc4)) := (((belX.trans (hb2.mono (by omega))).trans (hal3.mono (by omega))).trans (hF4.below (by have := hal3.size; omega) (fun g e => by have := (hub g e).1; omega))).trans (hset.below (by have := hF4.size; have := hal3.size; omega) (fun g e => by omega))
                              have hsY : w9.heap.size < (w8.setCell ⟨w9.heap.size, 2, none⟩ (.slice ua4 (ps.length + 1) uc4)).heap.size := (Array.getElem?_eq_some_iff.1 XO5).1
                              have hpl : (ps ++ [(nm, pg, bs)]).length = ps.length + 1 := by rw [List.length_append, List.length_singleton]
                              have hp6 := hp5
                              rw [← hpl] at hp6
                              have HR0 : ResAt w (.returned (.agg #[.int .i64 0, .slice a9 fs.length c9, .slice ua4 (ps ++ [(nm, pg, bs)]).length uc4, .int .i64 cp, .int .i64 F, .bool D])) (put6R _ (w.heap.size + 1) (.int .i64 0) (.slice a9 fs.length c9) (.slice ua4 (ps ++ [(nm, pg, bs)]).length uc4) (.int .i64 cp) (.int .i64 F) (.bool D)) 0 fs (ps ++ [(nm, pg, bs)]) cp F D := ResAt.mk6 (by omega) (base := w4.heap.size) hp6 (by omega) (by rw [hpl]; omega) (by rw [hpl]; exact hbY)
                              rw [hpl] at HR0
                              have HR : Hid (ResAt w (.returned (.agg #[.int .i64 0, .slice a9 fs.length c9, .slice ua4 (ps.length + 1) uc4, .int .i64 cp, .int .i64 F, .bool D])) (put6R (w8.setCell ⟨w9.heap.size, 2, none⟩ (.slice ua4 (ps.length + 1) uc4)) (w.heap.size + 1) (.int .i64 0) (.slice a9 fs.length c9) (.slice ua4 (ps.length + 1) uc4) (.int .i64 cp) (.int .i64 F) (.bool D)) 0 fs (ps ++ [(nm, pg, bs)]) cp F D) := HR0
                              have HB := put6R_box jR5 (.int .i64 0) (.slice a9 fs.length c9) (.slice ua4 (ps.length + 1) uc4) (.int .i64 cp) (.int .i64 F) (.bool D)
                              obtain ⟨y0, y1, y2, y3, y4, y5⟩ := box_sixR XO5
                              obtain ⟨r0, r1, r2, r3, r4, r5⟩ := box_sixR jR5
                              have ff := box_thawC jR5
                              clear HR0 hp6 hp5 hp hset hbY jR5 jR4 jR3 jR2 hF4 hgr hlies hown4 XO4 XO5 own own2 own3 hlt hub hal3 hvb hvb'
                              generalize (w8.setCell ⟨w9.heap.size, 2, none⟩ (.slice ua4 (ps.length + 1) uc4)) = Z at *
                              go_wp2
                              show bodyPost _ _ _ _ _ (put6R Z (w.heap.size + 1) (.int .i64 0) (.slice a9 fs.length c9) (.slice ua4 (ps.length + 1) uc4) (.int .i64 cp) (.int .i64 F) (.bool D))
                              clear r0 r1 r2 r3 r4 r5
                              obtain ⟨r0, r1, r2, r3, r4, r5⟩ := box_sixR HB
                              exact bodyPost_ret (v := .agg #[.int .i64 0, .slice a9 fs.length c9, .slice ua4 (ps.length + 1) uc4, .int .i64 cp, .int .i64 F, .bool D]) (by simp [results, Try.results16, go_sem, r0, r1, r2, r3, r4, r5]) rfl (by rw [HW.out, HX.out.1, HX.out.2.1, HX.out.2.2.1, HX.out.2.2.2.1, HX.out.2.2.2.2]; exact HR.out)
                      · have hal3 : Below w2.heap.size w2 (w2.alloc (.cells #[.string nm, .int .i64 pg, .slice va 128 vc] 77)) := (Below.refl _ _).alloc (Nat.le_refl _) _
                        have XO3 := (hal3.block _ (by omega)).trans XO2
                        have own3 := own2.below hal3
                        go_simp
                        refine hK.out _ _ trivial (fun hHeld => ?_)
                        clear hK K
                        try simp only [Act.put, List.setIfInBounds_toArray, List.set_cons_zero, List.set_cons_succ]
                        refine wpAnyH_ready (rs := [2]) (by kernel_rfl) (by simp) ?_
                        refine AllReadyH.cons (o := { dst := some 75, op := Op.load 30 (Operand.tmp 74), type := 30, pos := "l1_disk.go:202", after := #[{ on := 1, ground := Ground.data }], guard := none }) rfl (fun K hK => ?_) ?_
                        rotate_left 1
                        exact AllReadyH.nil
                        · obtain ⟨o0, o1, o2, o3, o4, o5⟩ := box_sixR XO3
                          go_simp
                          clear o0 o1 o2 o3 o4 o5
                          refine hK.out _ _ trivial (fun hHeld => ?_)
                          clear hK K
                          try simp only [Act.put, List.setIfInBounds_toArray, List.set_cons_zero, List.set_cons_succ]
                          refine wpAnyH_ready (rs := [9]) (by kernel_rfl) (by simp) ?_
                          refine AllReadyH.cons (o := { dst := some 82, op := Op.call { callee := Callee.builtin Builtin.append, args := #[Operand.tmp 75, Operand.tmp 81], argTypes := #[30, 30] }, type := 30, pos := "l1_disk.go:202", after := #[{ on := 2, ground := Ground.data }, { on := 8, ground := Ground.data }, { on := 6, ground := Ground.chain }], guard := none }) rfl (fun K hK => ?_) ?_
                          rotate_left 1
                          exact AllReadyH.nil
                          · have hrow3 := own3.cache.row
                            refine step_append_ownD rfl _ _ 30 rfl w4.heap.size 77 i0 _ 3 48 Try.underlying30 hi hz0 hz1 hz2 rfl (by decide) (.slice b9 ps.length d9) ps.length ys9 (by simp [Act.eval]) hrow3 ⟨w2.heap.size, 0, none⟩ 1 1 [.string nm, .int .i64 pg, .slice va 128 vc] (by simp [Act.eval]) rfl (cell_three_new _ _ _ _ _) (by simp [Value.oneCell']) (by unfold maxLen; omega) (by omega) (by have := hal3.size; omega) ?_
                            intro u4 w8 hown4 hgr hlies
                            obtain ⟨ua4, uc4, rfl⟩ := own_shape hown4
                            have hub : ∀ g, (Value.slice b9 ps.length d9).ownBlock = some g → w4.heap.size ≤ g ∧ g < w9.heap.size := fun g e => ⟨(own.cache.row.lt g e).1, hlt g (.inr (.inl e))⟩
                            have hF4 : Fr (fun g => (Value.slice b9 ps.length d9).ownBlock = some g) (w2.alloc (.cells #[.string nm, .int .i64 pg, .slice va 128 vc] 77)) w8 := Fr.of_grown hgr (fun g e => e)
                            have XO4 := (hF4.block _ (by have := hal3.size; omega) (fun e => by have := (hub _ e).2; omega)).trans XO3
                            refine hK.out _ _ trivial (fun hHeld => ?_)
                            clear hK K
                            try simp only [Act.put, List.setIfInBounds_toArray, List.set_cons_zero, List.set_cons_succ]
                            refine wpAnyH_take (i := 10) (oi := { dst := some 83, op := Op.fieldAddr 40 (Operand.tmp 11) 1, type := 0, pos := "l1_disk.go:202", after := #[{ on := 0, ground := Ground.phase }, { on := 1, ground := Ground.phase }, { on := 2, ground := Ground.phase }, { on := 3, ground := Ground.phase }, { on := 4, ground := Ground.phase }, { on := 5, ground := Ground.phase }, { on := 6, ground := Ground.phase }, { on := 7, ground := Ground.phase }, { on := 8, ground := Ground.phase }, { on := 9, ground := Ground.phase }], guard := none }) (v := ?_) rfl (by kernel_rfl) (by kernel_rfl) (by kernel_rfl) (fun _ _ _ h => h) (Or.inl ⟨by rfl, ?_⟩) (by assumption) ?_
                            rotate_left 1
                            · intro w hSw; (try dsimp only at hSw); go_simp; try (with_reducible rfl)
                            try simp only [Act.put, List.setIfInBounds_toArray, List.set_cons_zero, List.set_cons_succ]
                            refine wpAnyH_take (i := 11) (oi := { dst := some 84, op := Op.fieldAddr 32 (Operand.tmp 83) 1, type := 0, pos := "l1_disk.go:202", after := #[{ on := 10, ground := Ground.data }, { on := 0, ground := Ground.phase }, { on := 1, ground := Ground.phase }, { on := 2, ground := Ground.phase }, { on := 3, ground := Ground.phase }, { on := 4, ground := Ground.phase }, { on := 5, ground := Ground.phase }, { on := 6, ground := Ground.phase }, { on := 7, ground := Ground.phase }, { on := 8, ground := Ground.phase }, { on := 9, ground := Ground.phase }], guard := none }) (v := ?_) rfl (by kernel_rfl) (by kernel_rfl) (by kernel_rfl) (fun _ _ _ h => h) (Or.inl ⟨by rfl, ?_⟩) (by assumption) ?_
                            rotate_left 1
                            · intro w hSw; (try dsimp only at hSw); go_simp; try (with_reducible rfl)
                            try simp only [Act.put, List.setIfInBounds_toArray, List.set_cons_zero, List.set_cons_succ]
                            refine wpAnyH_ready (rs := [12]) (by kernel_rfl) (by simp) ?_
                            refine AllReadyH.cons (o := { dst := none, op := Op.store 30 (Operand.tmp 84) (Operand.tmp 82), type := 0, pos := "l1_disk.go:202", after := #[{ on := 11, ground := Ground.data }, { on := 9, ground := Ground.data }, { on := 9, ground := Ground.chain }, { on := 0, ground := Ground.phase }, { on := 1, ground := Ground.phase }, { on := 2, ground := Ground.phase }, { on := 3, ground := Ground.phase }, { on := 4, ground := Ground.phase }, { on := 5, ground := Ground.phase }, { on := 6, ground := Ground.phase }, { on := 7, ground := Ground.phase }, { on := 8, ground := Ground.phase }, { on := 9, ground := Ground.phase }], guard := none }) rfl (fun K hK => ?_) ?_
                            rotate_left 1
                            exact AllReadyH.nil
                            · obtain ⟨o0, o1, o2, o3, o4, o5⟩ := box_sixR XO4
                              have fo := box_thawC XO4
                              go_simp
                              clear o0 o1 o2 o3 o4 o5 fo
                              refine hK.out _ _ trivial (fun hHeld => ?_)
                              clear hK K
                              try simp only [Act.put, List.setIfInBounds_toArray, List.set_cons_zero, List.set_cons_succ]
                              refine wpAnyH_done (by kernel_rfl) ?_ _
                              refine NoPanic.normal ?_
                              have hvb' : w2.ownsRow W.heap.size 5 1 (.slice va 128 vc) bs.length (u8s bs) := by rw [HBL.out]; exact hvb
                              have hp := OwnD.push own (by omega) hb2 (f := (nm, pg, bs)) (vb := .slice va 128 vc) hvb' hs hpg hbyt hal3 hown4 hgr hlies
                              have hset := fr_setCell w8 w9.heap.size 2 (.slice ua4 (ps.length + 1) uc4)
                              have hp5 := hp.frS hset (blk_push hlt hlies (by have := hal3.size; omega) (fun g e => by have := (hvb'.lt g e).1; omega))
                              have XO5 : (w8.setCell ⟨w9.heap.size, 2, none⟩ (.slice ua4 (ps.length + 1) uc4)).heap[w9.heap.size]? = some (.cells #[.int .i64 0, .slice a9 fs.length c9, .slice ua4 (ps.length + 1) uc4, .int .i64 cp, .int .i64 F, .bool D] 40) := heap_setCell_at XO4 2 (.slice ua4 (ps.length + 1) uc4)
                              have jR2 := (hb2.block _ (by omega)).trans jR
                              have jR3 := (hal3.block _ (by omega)).trans jR2
                              have jR4 := (hF4.block _ (by have := hal3.size; omega) (fun e => by have := (hub _ e).1; omega)).trans jR3
                              have jR5 : (w8.setCell ⟨w9.heap.size, 2, none⟩ (.slice ua4 (ps.length + 1) uc4)).heap[(w.heap.size + 1)]? = some (.cells #[.int .i64 0, .slice none 0 0, .slice none 0 0, .int .i64 0, .int .i64 0, .bool false] 40) := (hset.block _ (by have := hF4.size; have := hal3.size; omega) (fun e => by omega)).trans jR4
                              have hbY : Below w.heap.size w (w8.setCell ⟨w9.heap.size, 2, none⟩ (.slice ua4 (ps.length + 1) uc4)) := (((belX.trans (hb2.mono (by omega))).trans (hal3.mono (by omega))).trans (hF4.below (by have := hal3.size; omega) (fun g e => by have := (hub g e).1; omega))).trans (hset.below (by have := hF4.size; have := hal3.size; omega) (fun g e => by omega))
                              have hsY : w9.heap.size < (w8.setCell ⟨w9.heap.size, 2, none⟩ (.slice ua4 (ps.length + 1) uc4)).heap.size := (Array.getElem?_eq_some_iff.1 XO5).1
                              have hpl : (ps ++ [(nm, pg, bs)]).length = ps.length + 1 := by rw [List.length_append, List.length_singleton]
                              have hp6 := hp5
                              rw [← hpl] at hp6
                              have HR0 : ResAt w (.returned (.agg #[.int .i64 0, .slice a9 fs.length c9, .slice ua4 (ps ++ [(nm, pg, bs)]).length uc4, .int .i64 cp, .int .i64 F, .bool D])) (put6R _ (w.heap.size + 1) (.int .i64 0) (.slice a9 fs.length c9) (.slice ua4 (ps ++ [(nm, pg, bs)]).length uc4) (.int .i64 cp) (.int .i64 F) (.bool D)) 0 fs (ps ++ [(nm, pg, bs)]) cp F D := ResAt.mk6 (by omega) (base := w4.heap.size) hp6 (by omega) (by rw [hpl]; omega) (by rw [hpl]; exact hbY)
                              rw [hpl] at HR0
                              have HR : Hid (ResAt w (.returned (.agg #[.int .i64 0, .slice a9 fs.length c9, .slice ua4 (ps.length + 1) uc4, .int .i64 cp, .int .i64 F, .bool D])) (put6R (w8.setCell ⟨w9.heap.size, 2, none⟩ (.slice ua4 (ps.length + 1) uc4)) (w.heap.size + 1) (.int .i64 0) (.slice a9 fs.length c9) (.slice ua4 (ps.length + 1) uc4) (.int .i64 cp) (.int .i64 F) (.bool D)) 0 fs (ps ++ [(nm, pg, bs)]) cp F D) := HR0
                              have HB := put6R_box jR5 (.int .i64 0) (.slice a9 fs.length c9) (.slice ua4 (ps.length + 1) uc4) (.int .i64 cp) (.int .i64 F) (.bool D)
                              obtain ⟨y0, y1, y2, y3, y4, y5⟩ := box_sixR XO5
                              obtain ⟨r0, r1, r2, r3, r4, r5⟩ := box_sixR jR5
                              have ff := box_thawC jR5
                              clear HR0 hp6 hp5 hp hset hbY jR5 jR4 jR3 jR2 hF4 hgr hlies hown4 XO4 XO5 own own2 own3 hlt hub hal3 hvb hvb'
                              generalize (w8.setCell ⟨w9.heap.size, 2, none⟩ (.slice ua4 (ps.length + 1) uc4)) = Z at *
                              go_wp2
                              show bodyPost _ _ _ _ _ (put6R Z (w.heap.size + 1) (.int .i64 0) (.slice a9 fs.length c9) (.slice ua4 (ps.length + 1) uc4) (.int .i64 cp) (.int .i64 F) (.bool D))
                              clear r0 r1 r2 r3 r4 r5
                              obtain ⟨r0, r1, r2, r3, r4, r5⟩ := box_sixR HB
                              exact bodyPost_ret (v := .agg #[.int .i64 0, .slice a9 fs.length c9, .slice ua4 (ps.length + 1) uc4, .int .i64 cp, .int .i64 F, .bool D]) (by simp [results, Try.results16, go_sem, r0, r1, r2, r3, r4, r5]) rfl (by rw [HW.out, HX.out.1, HX.out.2.1, HX.out.2.2.1, HX.out.2.2.2.1, HX.out.2.2.2.2]; exact HR.out)
              · have u4 : decide (findI (lastF ps fs) nm < 0) = false := by simp; omega
                have HW : Hid (rwI fs ps cp fu false nm pg bs = 0) := by show _ = _; rw [HE.out, if_neg (by omega)]
                clear HE
                try clear v1
                try clear v2
                try clear v3
                try clear v4
                try clear v5
                go_wp2_with fail
                go_quiet (first | (go_at_call 44; exact Calls.quiet_of_same (l1Total_any _ _ _ (lastF ps fs) _ _ _ (by exact hF2) hT2)) | (go_at_call 45; exact Calls.quiet_of_same (l1Find_any _ _ _ (lastF ps fs) nm _ _ _ (by exact hF2))))
                have bel4 : Below w.heap.size w (w2''.drewN nq) := bel2.trans ⟨rfl, rfl, rfl, Nat.le_refl _, fun _ _ => rfl⟩
                have jD4 : (w2''.drewN nq).heap[w.heap.size]? = some (.cells #[.slice a n c, .slice b m d, .int .i64 cp, .int .i64 fu, .bool false] 32) := jD2
                have jR4 : (w2''.drewN nq).heap[w.heap.size + 1]? = some (.cells #[.int .i64 0, .slice none 0 0, .slice none 0 0, .int .i64 0, .int .i64 0, .bool false] 40) := jR2
                have hs4 : w.heap.size + 2 ≤ (w2''.drewN nq).heap.size := by show _ ≤ w2''.heap.size; omega
                clear x0 x1 x2 x3 x4 jD2 jR2 hF2 bel2 hs2 hs1 hs0 bel1
                generalize w2''.drewN nq = w4 at bel4 jD4 jR4 hs4 ⊢
                obtain ⟨x0, x1, x2, x3, x4⟩ := boxW5 jD4
                go_wp2_with fail
                refine (l1Spend_any a n c fs b m d ps cp fu false w4 A B (by omega) (HF.out _ bel4) (HP.out _ bel4) hn hm HA.out HA2.out hfu).mono ?_
                rintro e w9 hres
                obtain ⟨a9, c9, b9, d9, xs9, vs9, ys9, us9, rfl, hO9, hb9⟩ := hres.out
                clear hres
                have hs9 := hb9.size
                have bel9 := bel4.trans (hb9.mono bel4.size)
                have jR9 := (hb9.block (w.heap.size + 1) (by omega)).trans jR4
                clear x0 x1 x2 x3 x4 jD4 jR4
                by_cases h0 : fu = 0
                · subst h0
                  rw [show spE 0 = 3 from rfl, show spF 0 = 0 from rfl, show spD 0 false = true from rfl]
                  have hal : Below w9.heap.size w9 (w9.alloc (.cells #[.int .i64 3, .slice a9 fs.length c9, .slice b9 ps.length d9, .int .i64 cp, .int .i64 0, .bool true] 40)) := (Below.refl _ _).alloc (Nat.le_refl _) _
                  have kN := heap_alloc_new w9 (.cells #[.int .i64 3, .slice a9 fs.length c9, .slice b9 ps.length d9, .int .i64 cp, .int .i64 0, .bool true] 40)
                  have jR := (hal.block (w.heap.size + 1) (by omega)).trans jR9
                  have hsX : (w9.alloc (.cells #[.int .i64 3, .slice a9 fs.length c9, .slice b9 ps.length d9, .int .i64 cp, .int .i64 0, .bool true] 40)).heap.size = w9.heap.size + 1 := by simp
                  obtain ⟨y0, y1, y2, y3, y4, y5⟩ := box_sixR kN
                  obtain ⟨r0, r1, r2, r3, r4, r5⟩ := box_sixR jR
                  have ff := box_thawC jR
                  have HB := put6R_box jR (.int .i64 3) (.slice a9 fs.length c9) (.slice b9 ps.length d9) (.int .i64 cp) (.int .i64 0) (.bool true)
                  have HR : Hid (ResAt w (.returned (.agg #[.int .i64 3, .slice a9 fs.length c9, .slice b9 ps.length d9, .int .i64 cp, .int .i64 0, .bool true])) (put6R (w9.alloc (.cells #[.int .i64 3, .slice a9 fs.length c9, .slice b9 ps.length d9, .int .i64 cp, .int .i64 0, .bool true] 40)) (w.heap.size + 1) (.int .i64 3) (.slice a9 fs.length c9) (.slice b9 ps.length d9) (.int .i64 cp) (.int .i64 0) (.bool true)) 3 fs ps cp 0 true) := ResAt.mk6 (by omega) (base := w4.heap.size) (hO9.below hal) (by omega) (by omega) (bel9.trans (hal.mono bel9.size))
                  clear hO9 hb9 jR jR9 hal kN
                  go_wp2
                  show bodyPost _ _ _ _ _ (put6R (w9.alloc (.cells #[.int .i64 3, .slice a9 fs.length c9, .slice b9 ps.length d9, .int .i64 cp, .int .i64 0, .bool true] 40)) (w.heap.size + 1) (.int .i64 3) (.slice a9 fs.length c9) (.slice b9 ps.length d9) (.int .i64 cp) (.int .i64 0) (.bool true))
                  clear r0 r1 r2 r3 r4 r5
                  obtain ⟨r0, r1, r2, r3, r4, r5⟩ := box_sixR HB
                  exact bodyPost_ret (v := .agg #[.int .i64 3, .slice a9 fs.length c9, .slice b9 ps.length d9, .int .i64 cp, .int .i64 0, .bool true]) (by simp [results, Try.results16, go_sem, r0, r1, r2, r3, r4, r5]) rfl (by rw [HW.out]; simpa [dsE, dsX, dsF, dsD, spE, spF, spD] using HR.out)
                · obtain ⟨i0, hi, hz0, hz1, hz2⟩ := info_parts info_Pend
                  rw [show spE fu = 0 by simp [spE, h0]]
                  have HX : Hid (dsE 0 fu = 0 ∧ dsX 0 fu fs fs = fs ∧ dsX 0 fu ps (ps ++ [(nm, pg, bs)]) = ps ++ [(nm, pg, bs)] ∧ dsF 0 fu = spF fu ∧ dsD 0 fu false = spD fu false) := by show _ ∧ _; simp [dsE, dsX, dsF, dsD, spE, h0]
                  generalize spF fu = F at *
                  generalize spD fu false = D at *
                  have hal : Below w9.heap.size w9 (w9.alloc (.cells #[.int .i64 0, .slice a9 fs.length c9, .slice b9 ps.length d9, .int .i64 cp, .int .i64 F, .bool D] 40)) := (Below.refl _ _).alloc (Nat.le_refl _) _
                  have XO := heap_alloc_new w9 (.cells #[.int .i64 0, .slice a9 fs.length c9, .slice b9 ps.length d9, .int .i64 cp, .int .i64 F, .bool D] 40)
                  have jR := (hal.block (w.heap.size + 1) (by omega)).trans jR9
                  have hsX : (w9.alloc (.cells #[.int .i64 0, .slice a9 fs.length c9, .slice b9 ps.length d9, .int .i64 cp, .int .i64 F, .bool D] 40)).heap.size = w9.heap.size + 1 := by simp
                  have own := hO9.below hal
                  have hlt : ∀ g, Blk (.slice a9 fs.length c9) vs9 g ∨ Blk (.slice b9 ps.length d9) us9 g → g < w9.heap.size := fun g hg => (hO9.blk hg).2
                  have belX := bel9.trans (hal.mono bel9.size)
                  have hbyX := HBY.out _ belX
                  have hbyt := hbyX.2.2.2.1
                  have hps : ps.length ≤ 1048576 := by have := HML.out; omega
                  obtain ⟨y0, y1, y2, y3, y4, y5⟩ := box_sixR XO
                  clear hO9 hb9 jR9 hal
                  go_wp2_with fail
                  generalize (w9.alloc (.cells #[.int .i64 0, .slice a9 fs.length c9, .slice b9 ps.length d9, .int .i64 cp, .int .i64 F, .bool D] 40)) = W at *
                  clear y0 y1 y2 y3 y4 y5
                  refine wp_region_noPanic ?_
                  refine wp_region_held_drew (S := (fun _ => True)) (by kernel_rfl) ?_ (fun hHeld => ?_)
                  · exact trivial
                  refine wpAnyH_take (i := 0) (oi := { dst := some 73, op := Op.fieldAddr 40 (Operand.tmp 11) 1, type := 0, pos := "l1_disk.go:202", after := #[], guard := none }) (v := ?_) rfl (by kernel_rfl) (by kernel_rfl) (by kernel_rfl) (fun _ _ _ h => h) (Or.inl ⟨by rfl, ?_⟩) (by assumption) ?_
                  rotate_left 1
                  · intro w hSw; (try dsimp only at hSw); go_simp; try (with_reducible rfl)
                  try simp only [Act.put, List.setIfInBounds_toArray, List.set_cons_zero, List.set_cons_succ]
                  refine wpAnyH_take (i := 1) (oi := { dst := some 74, op := Op.fieldAddr 32 (Operand.tmp 73) 1, type := 0, pos := "l1_disk.go:202", after := #[{ on := 0, ground := Ground.data }], guard := none }) (v := ?_) rfl (by kernel_rfl) (by kernel_rfl) (by kernel_rfl) (fun _ _ _ h => h) (Or.inl ⟨by rfl, ?_⟩) (by assumption) ?_
                  rotate_left 1
                  · intro w hSw; (try dsimp only at hSw); go_simp; try (with_reducible rfl)
                  try simp only [Act.put, List.setIfInBounds_toArray, List.set_cons_zero, List.set_cons_succ]
                  refine wpAnyH_take (i := 3) (oi := { dst := some 76, op := Op.move (Operand.tmp 1), type := 9, pos := "l1_disk.go:202", after := #[], guard := none }) (v := ?_) rfl (by kernel_rfl) (by kernel_rfl) (by kernel_rfl) (fun _ _ _ h => h) (Or.inl ⟨by rfl, ?_⟩) (by assumption) ?_
                  rotate_left 1
                  · intro w hSw; (try dsimp only at hSw); go_simp; try (with_reducible rfl)
                  try simp only [Act.put, List.setIfInBounds_toArray, List.set_cons_zero, List.set_cons_succ]
                  refine wpAnyH_take (i := 4) (oi := { dst := some 77, op := Op.move (Operand.tmp 2), type := 2, pos := "l1_disk.go:202", after := #[], guard := none }) (v := ?_) rfl (by kernel_rfl) (by kernel_rfl) (by kernel_rfl) (fun _ _ _ h => h) (Or.inl ⟨by rfl, ?_⟩) (by assumption) ?_
                  rotate_left 1
                  · intro w hSw; (try dsimp only at hSw); go_simp; try (with_reducible rfl)
                  try simp only [Act.put, List.setIfInBounds_toArray, List.set_cons_zero, List.set_cons_succ]
                  refine wpAnyH_take (i := 5) (oi := { dst := some 78, op := Op.move (Operand.tmp 3), type := 27, pos := "l1_disk.go:202", after := #[], guard := none }) (v := ?_) rfl (by kernel_rfl) (by kernel_rfl) (by kernel_rfl) (fun _ _ _ h => h) (Or.inl ⟨by rfl, ?_⟩) (by assumption) ?_
                  rotate_left 1
                  · intro w hSw; (try dsimp only at hSw); go_simp; try (with_reducible rfl)
                  try simp only [Act.put, List.setIfInBounds_toArray, List.set_cons_zero, List.set_cons_succ]
                  refine wpAnyH_ready (rs := [2, 6]) (by kernel_rfl) (by simp) ?_
                  refine AllReadyH.cons (o := { dst := some 75, op := Op.load 30 (Operand.tmp 74), type := 30, pos := "l1_disk.go:202", after := #[{ on := 1, ground := Ground.data }], guard := none }) rfl (fun K hK => ?_) ?_
                  rotate_left 1
                  refine AllReadyH.cons (o := { dst := some 79, op := Op.call { callee := Callee.value (Operand.func 48), args := #[Operand.tmp 78], argTypes := #[27] }, type := 27, pos := "l1_disk.go:202", after := #[{ on := 5, ground := Ground.data }], guard := none }) rfl (fun K hK => ?_) ?_
                  rotate_left 1
                  exact AllReadyH.nil
                  · obtain ⟨o0, o1, o2, o3, o4, o5⟩ := box_sixR XO
                    go_simp
                    clear o0 o1 o2 o3 o4 o5
                    refine hK.out _ _ trivial (fun hHeld => ?_)
                    clear hK K
                    try simp only [Act.put, List.setIfInBounds_toArray, List.set_cons_zero, List.set_cons_succ]
                    refine wpAnyH_ready (rs := [6]) (by kernel_rfl) (by simp) ?_
                    refine AllReadyH.cons (o := { dst := some 79, op := Op.call { callee := Callee.value (Operand.func 48), args := #[Operand.tmp 78], argTypes := #[27] }, type := 27, pos := "l1_disk.go:202", after := #[{ on := 5, ground := Ground.data }], guard := none }) rfl (fun K hK => ?_) ?_
                    rotate_left 1
                    exact AllReadyH.nil
                    · go_simp
                      refine (l1Bytes_any pa 128 pc bs W.drew A B (by show B ≤ W.heap.size; omega) hbyX (by omega)).mono ?_
                      rintro e w2 ⟨va, vc, rfl, hvb, hb2x⟩
                      have hb2 : Below W.heap.size W w2 := ((Below.refl _ W).drew).trans hb2x
                      have XO2 := (hb2.block _ (by omega)).trans XO
                      have own2 := own.below hb2
                      have hs2 := hb2.size
                      clear hb2x
                      go_wp2_with fail
                      refine hK.out _ _ trivial (fun hHeld => ?_)
                      clear hK K
                      try simp only [Act.put, List.setIfInBounds_toArray, List.set_cons_zero, List.set_cons_succ]
                      refine wpAnyH_take (i := 7) (oi := { dst := some 80, op := Op.build 77 #[(0, Operand.tmp 76), (1, Operand.tmp 77), (2, Operand.tmp 79)], type := 77, pos := "l1_disk.go:202", after := #[{ on := 3, ground := Ground.data }, { on := 4, ground := Ground.data }, { on := 6, ground := Ground.data }], guard := none }) (v := ?_) rfl (by kernel_rfl) (by kernel_rfl) (by kernel_rfl) (fun _ _ _ h => h) (Or.inl ⟨by rfl, ?_⟩) (by assumption) ?_
                      rotate_left 1
                      · intro w hSw; (try dsimp only at hSw); go_simp; try (with_reducible rfl)
                      try simp only [Act.put, List.setIfInBounds_toArray, List.set_cons_zero, List.set_cons_succ]
                      refine wpAnyH_ready (rs := [8]) (by kernel_rfl) (by simp) ?_
                      refine AllReadyH.cons (o := { dst := some 81, op := Op.buildSlice 30 1 #[(0, Operand.tmp 80)], type := 30, pos := "l1_disk.go:202", after := #[{ on := 7, ground := Ground.data }], guard := none }) rfl (fun K hK => ?_) ?_
                      rotate_left 1
                      exact AllReadyH.nil
                      · have hal3 : Below w2.heap.size w2 (w2.alloc (.cells #[.string nm, .int .i64 pg, .slice va 128 vc] 77)) := (Below.refl _ _).alloc (Nat.le_refl _) _
                        have XO3 := (hal3.block _ (by omega)).trans XO2
                        have own3 := own2.below hal3
                        go_simp
                        refine hK.out _ _ trivial (fun hHeld => ?_)
                        clear hK K
                        try simp only [Act.put, List.setIfInBounds_toArray, List.set_cons_zero, List.set_cons_succ]
                        refine wpAnyH_ready (rs := [9]) (by kernel_rfl) (by simp) ?_
                        refine AllReadyH.cons (o := { dst := some 82, op := Op.call { callee := Callee.builtin Builtin.append, args := #[Operand.tmp 75, Operand.tmp 81], argTypes := #[30, 30] }, type := 30, pos := "l1_disk.go:202", after := #[{ on := 2, ground := Ground.data }, { on := 8, ground := Ground.data }, { on := 6, ground := Ground.chain }], guard := none }) rfl (fun K hK => ?_) ?_
                        rotate_left 1
                        exact AllReadyH.nil
                        · have hrow3 := own3.cache.row
                          refine step_append_ownD rfl _ _ 30 rfl w4.heap.size 77 i0 _ 3 48 Try.underlying30 hi hz0 hz1 hz2 rfl (by decide) (.slice b9 ps.length d9) ps.length ys9 (by simp [Act.eval]) hrow3 ⟨w2.heap.size, 0, none⟩ 1 1 [.string nm, .int .i64 pg, .slice va 128 vc] (by simp [Act.eval]) rfl (cell_three_new _ _ _ _ _) (by simp [Value.oneCell']) (by unfold maxLen; omega) (by omega) (by have := hal3.size; omega) ?_
                          intro u4 w8 hown4 hgr hlies
                          obtain ⟨ua4, uc4, rfl⟩ := own_shape hown4
                          have hub : ∀ g, (Value.slice b9 ps.length d9).ownBlock = some g → w4.heap.size ≤ g ∧ g < w9.heap.size := fun g e => ⟨(own.cache.row.lt g e).1, hlt g (.inr (.inl e))⟩
                          have hF4 : Fr (fun g => (Value.slice b9 ps.length d9).ownBlock = some g) (w2.alloc (.cells #[.string nm, .int .i64 pg, .slice va 128 vc] 77)) w8 := Fr.of_grown hgr (fun g e => e)
                          have XO4 := (hF4.block _ (by have := hal3.size; omega) (fun e => by have := (hub _ e).2; omega)).trans XO3
                          refine hK.out _ _ trivial (fun hHeld => ?_)
                          clear hK K
                          try simp only [Act.put, List.setIfInBounds_toArray, List.set_cons_zero, List.set_cons_succ]
                          refine wpAnyH_take (i := 10) (oi := { dst := some 83, op := Op.fieldAddr 40 (Operand.tmp 11) 1, type := 0, pos := "l1_disk.go:202", after := #[{ on := 0, ground := Ground.phase }, { on := 1, ground := Ground.phase }, { on := 2, ground := Ground.phase }, { on := 3, ground := Ground.phase }, { on := 4, ground := Ground.phase }, { on := 5, ground := Ground.phase }, { on := 6, ground := Ground.phase }, { on := 7, ground := Ground.phase }, { on := 8, ground := Ground.phase }, { on := 9, ground := Ground.phase }], guard := none }) (v := ?_) rfl (by kernel_rfl) (by kernel_rfl) (by kernel_rfl) (fun _ _ _ h => h) (Or.inl ⟨by rfl, ?_⟩) (by assumption) ?_
                          rotate_left 1
                          · intro w hSw; (try dsimp only at hSw); go_simp; try (with_reducible rfl)
                          try simp only [Act.put, List.setIfInBounds_toArray, List.set_cons_zero, List.set_cons_succ]
                          refine wpAnyH_take (i := 11) (oi := { dst := some 84, op := Op.fieldAddr 32 (Operand.tmp 83) 1, type := 0, pos := "l1_disk.go:202", after := #[{ on := 10, ground := Ground.data }, { on := 0, ground := Ground.phase }, { on := 1, ground := Ground.phase }, { on := 2, ground := Ground.phase }, { on := 3, ground := Ground.phase }, { on := 4, ground := Ground.phase }, { on := 5, ground := Ground.phase }, { on := 6, ground := Ground.phase }, { on := 7, ground := Ground.phase }, { on := 8, ground := Ground.phase }, { on := 9, ground := Ground.phase }], guard := none }) (v := ?_) rfl (by kernel_rfl) (by kernel_rfl) (by kernel_rfl) (fun _ _ _ h => h) (Or.inl ⟨by rfl, ?_⟩) (by assumption) ?_
                          rotate_left 1
                          · intro w hSw; (try dsimp only at hSw); go_simp; try (with_reducible rfl)
                          try simp only [Act.put, List.setIfInBounds_toArray, List.set_cons_zero, List.set_cons_succ]
                          refine wpAnyH_ready (rs := [12]) (by kernel_rfl) (by simp) ?_
                          refine AllReadyH.cons (o := { dst := none, op := Op.store 30 (Operand.tmp 84) (Operand.tmp 82), type := 0, pos := "l1_disk.go:202", after := #[{ on := 11, ground := Ground.data }, { on := 9, ground := Ground.data }, { on := 9, ground := Ground.chain }, { on := 0, ground := Ground.phase }, { on := 1, ground := Ground.phase }, { on := 2, ground := Ground.phase }, { on := 3, ground := Ground.phase }, { on := 4, ground := Ground.phase }, { on := 5, ground := Ground.phase }, { on := 6, ground := Ground.phase }, { on := 7, ground := Ground.phase }, { on := 8, ground := Ground.phase }, { on := 9, ground := Ground.phase }], guard := none }) rfl (fun K hK => ?_) ?_
                          rotate_left 1
                          exact AllReadyH.nil
                          · obtain ⟨o0, o1, o2, o3, o4, o5⟩ := box_sixR XO4
                            have fo := box_thawC XO4
                            go_simp
                            clear o0 o1 o2 o3 o4 o5 fo
                            refine hK.out _ _ trivial (fun hHeld => ?_)
                            clear hK K
                            try simp only [Act.put, List.setIfInBounds_toArray, List.set_cons_zero, List.set_cons_succ]
                            refine wpAnyH_done (by kernel_rfl) ?_ _
                            refine NoPanic.normal ?_
                            have hvb' : w2.ownsRow W.heap.size 5 1 (.slice va 128 vc) bs.length (u8s bs) := by rw [HBL.out]; exact hvb
                            have hp := OwnD.push own (by omega) hb2 (f := (nm, pg, bs)) (vb := .slice va 128 vc) hvb' hs hpg hbyt hal3 hown4 hgr hlies
                            have hset := fr_setCell w8 w9.heap.size 2 (.slice ua4 (ps.length + 1) uc4)
                            have hp5 := hp.frS hset (blk_push hlt hlies (by have := hal3.size; omega) (fun g e => by have := (hvb'.lt g e).1; omega))
                            have XO5 : (w8.setCell ⟨w9.heap.size, 2, none⟩ (.slice ua4 (ps.length + 1) uc4)).heap[w9.heap.size]? = some (.cells #[.int .i64 0, .slice a9 fs.length c9, .slice ua4 (ps.length + 1) uc4, .int .i64 cp, .int .i64 F, .bool D] 40) := heap_setCell_at XO4 2 (.slice ua4 (ps.length + 1) uc4)
                            have jR2 := (hb2.block _ (by omega)).trans jR
                            have jR3 := (hal3.block _ (by omega)).trans jR2
                            have jR4 := (hF4.block _ (by have := hal3.size; omega) (fun e => by have := (hub _ e).1; omega)).trans jR3
                            have jR5 : (w8.setCell ⟨w9.heap.size, 2, none⟩ (.slice ua4 (ps.length + 1) uc4)).heap[(w.heap.size + 1)]? = some (.cells #[.int .i64 0, .slice none 0 0, .slice none 0 0, .int .i64 0, .int .i64 0, .bool false] 40) := (hset.block _ (by have := hF4.size; have := hal3.size; omega) (fun e => by omega)).trans jR4
                            have hbY : Below w.heap.size w (w8.setCell ⟨w9.heap.size, 2, none⟩ (.slice ua4 (ps.length + 1) uc4)) := (((belX.trans (hb2.mono (by omega))).trans (hal3.mono (by omega))).trans (hF4.below (by have := hal3.size; omega) (fun g e => by have := (hub g e).1; omega))).trans (hset.below (by have := hF4.size; have := hal3.size; omega) (fun g e => by omega))
                            have hsY : w9.heap.size < (w8.setCell ⟨w9.heap.size, 2, none⟩ (.slice ua4 (ps.length + 1) uc4)).heap.size := (Array.getElem?_eq_some_iff.1 XO5).1
                            have hpl : (ps ++ [(nm, pg, bs)]).length = ps.length + 1 := by rw [List.length_append, List.length_singleton]
                            have hp6 := hp5
                            rw [← hpl] at hp6
                            have HR0 : ResAt w (.returned (.agg #[.int .i64 0, .slice a9 fs.length c9, .slice ua4 (ps ++ [(nm, pg, bs)]).length uc4, .int .i64 cp, .int .i64 F, .bool D])) (put6R _ (w.heap.size + 1) (.int .i64 0) (.slice a9 fs.length c9) (.slice ua4 (ps ++ [(nm, pg, bs)]).length uc4) (.int .i64 cp) (.int .i64 F) (.bool D)) 0 fs (ps ++ [(nm, pg, bs)]) cp F D := ResAt.mk6 (by omega) (base := w4.heap.size) hp6 (by omega) (by rw [hpl]; omega) (by rw [hpl]; exact hbY)
                            rw [hpl] at HR0
                            have HR : Hid (ResAt w (.returned (.agg #[.int .i64 0, .slice a9 fs.length c9, .slice ua4 (ps.length + 1) uc4, .int .i64 cp, .int .i64 F, .bool D])) (put6R (w8.setCell ⟨w9.heap.size, 2, none⟩ (.slice ua4 (ps.length + 1) uc4)) (w.heap.size + 1) (.int .i64 0) (.slice a9 fs.length c9) (.slice ua4 (ps.length + 1) uc4) (.int .i64 cp) (.int .i64 F) (.bool D)) 0 fs (ps ++ [(nm, pg, bs)]) cp F D) := HR0
                            have HB := put6R_box jR5 (.int .i64 0) (.slice a9 fs.length c9) (.slice ua4 (ps.length + 1) uc4) (.int .i64 cp) (.int .i64 F) (.bool D)
                            obtain ⟨y0, y1, y2, y3, y4, y5⟩ := box_sixR XO5
                            obtain ⟨r0, r1, r2, r3, r4, r5⟩ := box_sixR jR5
                            have ff := box_thawC jR5
                            clear HR0 hp6 hp5 hp hset hbY jR5 jR4 jR3 jR2 hF4 hgr hlies hown4 XO4 XO5 own own2 own3 hlt hub hal3 hvb hvb'
                            generalize (w8.setCell ⟨w9.heap.size, 2, none⟩ (.slice ua4 (ps.length + 1) uc4)) = Z at *
                            go_wp2
                            show bodyPost _ _ _ _ _ (put6R Z (w.heap.size + 1) (.int .i64 0) (.slice a9 fs.length c9) (.slice ua4 (ps.length + 1) uc4) (.int .i64 cp) (.int .i64 F) (.bool D))
                            clear r0 r1 r2 r3 r4 r5
                            obtain ⟨r0, r1, r2, r3, r4, r5⟩ := box_sixR HB
                            exact bodyPost_ret (v := .agg #[.int .i64 0, .slice a9 fs.length c9, .slice ua4 (ps.length + 1) uc4, .int .i64 cp, .int .i64 F, .bool D]) (by simp [results, Try.results16, go_sem, r0, r1, r2, r3, r4, r5]) rfl (by rw [HW.out, HX.out.1, HX.out.2.1, HX.out.2.2.1, HX.out.2.2.2.1, HX.out.2.2.2.2]; exact HR.out)
                  · go_simp
                    refine (l1Bytes_any pa 128 pc bs W.drew A B (by show B ≤ W.heap.size; omega) hbyX (by omega)).mono ?_
                    rintro e w2 ⟨va, vc, rfl, hvb, hb2x⟩
                    have hb2 : Below W.heap.size W w2 := ((Below.refl _ W).drew).trans hb2x
                    have XO2 := (hb2.block _ (by omega)).trans XO
                    have own2 := own.below hb2
                    have hs2 := hb2.size
                    clear hb2x
                    go_wp2_with fail
                    refine hK.out _ _ trivial (fun hHeld => ?_)
                    clear hK K
                    try simp only [Act.put, List.setIfInBounds_toArray, List.set_cons_zero, List.set_cons_succ]
                    refine wpAnyH_take (i := 7) (oi := { dst := some 80, op := Op.build 77 #[(0, Operand.tmp 76), (1, Operand.tmp 77), (2, Operand.tmp 79)], type := 77, pos := "l1_disk.go:202", after := #[{ on := 3, ground := Ground.data }, { on := 4, ground := Ground.data }, { on := 6, ground := Ground.data }], guard := none }) (v := ?_) rfl (by kernel_rfl) (by kernel_rfl) (by kernel_rfl) (fun _ _ _ h => h) (Or.inl ⟨by rfl, ?_⟩) (by assumption) ?_
                    rotate_left 1
                    · intro w hSw; (try dsimp only at hSw); go_simp; try (with_reducible rfl)
                    try simp only [Act.put, List.setIfInBounds_toArray, List.set_cons_zero, List.set_cons_succ]
                    refine wpAnyH_ready (rs := [2, 8]) (by kernel_rfl) (by simp) ?_
                    refine AllReadyH.cons (o := { dst := some 75, op := Op.load 30 (Operand.tmp 74), type := 30, pos := "l1_disk.go:202", after := #[{ on := 1, ground := Ground.data }], guard := none }) rfl (fun K hK => ?_) ?_
                    rotate_left 1
                    refine AllReadyH.cons (o := { dst := some 81, op := Op.buildSlice 30 1 #[(0, Operand.tmp 80)], type := 30, pos := "l1_disk.go:202", after := #[{ on := 7, ground := Ground.data }], guard := none }) rfl (fun K hK => ?_) ?_
                    rotate_left 1
                    exact AllReadyH.nil
                    · obtain ⟨o0, o1, o2, o3, o4, o5⟩ := box_sixR XO2
                      go_simp
                      clear o0 o1 o2 o3 o4 o5
                      refine hK.out _ _ trivial (fun hHeld => ?_)
                      clear hK K
                      try simp only [Act.put, List.setIfInBounds_toArray, List.set_cons_zero, List.set_cons_succ]
                      refine wpAnyH_ready (rs := [8]) (by kernel_rfl) (by simp) ?_
                      refine AllReadyH.cons (o := { dst := some 81, op := Op.buildSlice 30 1 #[(0, Operand.tmp 80)], type := 30, pos := "l1_disk.go:202", after := #[{ on := 7, ground := Ground.data }], guard := none }) rfl (fun K hK => ?_) ?_
                      rotate_left 1
                      exact AllReadyH.nil
                      · have hal3 : Below w2.heap.size w2 (w2.alloc (.cells #[.string nm, .int .i64 pg, .slice va 128 vc] 77)) := (Below.refl _ _).alloc (Nat.le_refl _) _
                        have XO3 := (hal3.block _ (by omega)).trans XO2
                        have own3 := own2.below hal3
                        go_simp
                        refine hK.out _ _ trivial (fun hHeld => ?_)
                        clear hK K
                        try simp only [Act.put, List.setIfInBounds_toArray, List.set_cons_zero, List.set_cons_succ]
                        refine wpAnyH_ready (rs := [9]) (by kernel_rfl) (by simp) ?_
                        refine AllReadyH.cons (o := { dst := some 82, op := Op.call { callee := Callee.builtin Builtin.append, args := #[Operand.tmp 75, Operand.tmp 81], argTypes := #[30, 30] }, type := 30, pos := "l1_disk.go:202", after := #[{ on := 2, ground := Ground.data }, { on := 8, ground := Ground.data }, { on := 6, ground := Ground.chain }], guard := none }) rfl (fun K hK => ?_) ?_
                        rotate_left 1
                        exact AllReadyH.nil
                        · have hrow3 := own3.cache.row
                          refine step_append_ownD rfl _ _ 30 rfl w4.heap.size 77 i0 _ 3 48 Try.underlying30 hi hz0 hz1 hz2 rfl (by decide) (.slice b9 ps.length d9) ps.length ys9 (by simp [Act.eval]) hrow3 ⟨w2.heap.size, 0, none⟩ 1 1 [.string nm, .int .i64 pg, .slice va 128 vc] (by simp [Act.eval]) rfl (cell_three_new _ _ _ _ _) (by simp [Value.oneCell']) (by unfold maxLen; omega) (by omega) (by have := hal3.size; omega) ?_
                          intro u4 w8 hown4 hgr hlies
                          obtain ⟨ua4, uc4, rfl⟩ := own_shape hown4
                          have hub : ∀ g, (Value.slice b9 ps.length d9).ownBlock = some g → w4.heap.size ≤ g ∧ g < w9.heap.size := fun g e => ⟨(own.cache.row.lt g e).1, hlt g (.inr (.inl e))⟩
                          have hF4 : Fr (fun g => (Value.slice b9 ps.length d9).ownBlock = some g) (w2.alloc (.cells #[.string nm, .int .i64 pg, .slice va 128 vc] 77)) w8 := Fr.of_grown hgr (fun g e => e)
                          have XO4 := (hF4.block _ (by have := hal3.size; omega) (fun e => by have := (hub _ e).2; omega)).trans XO3
                          refine hK.out _ _ trivial (fun hHeld => ?_)
                          clear hK K
                          try simp only [Act.put, List.setIfInBounds_toArray, List.set_cons_zero, List.set_cons_succ]
                          refine wpAnyH_take (i := 10) (oi := { dst := some 83, op := Op.fieldAddr 40 (Operand.tmp 11) 1, type := 0, pos := "l1_disk.go:202", after := #[{ on := 0, ground := Ground.phase }, { on := 1, ground := Ground.phase }, { on := 2, ground := Ground.phase }, { on := 3, ground := Ground.phase }, { on := 4, ground := Ground.phase }, { on := 5, ground := Ground.phase }, { on := 6, ground := Ground.phase }, { on := 7, ground := Ground.phase }, { on := 8, ground := Ground.phase }, { on := 9, ground := Ground.phase }], guard := none }) (v := ?_) rfl (by kernel_rfl) (by kernel_rfl) (by kernel_rfl) (fun _ _ _ h => h) (Or.inl ⟨by rfl, ?_⟩) (by assumption) ?_
                          rotate_left 1
                          · intro w hSw; (try dsimp only at hSw); go_simp; try (with_reducible rfl)
                          try simp only [Act.put, List.setIfInBounds_toArray, List.set_cons_zero, List.set_cons_succ]
                          refine wpAnyH_take (i := 11) (oi := { dst := some 84, op := Op.fieldAddr 32 (Operand.tmp 83) 1, type := 0, pos := "l1_disk.go:202", after := #[{ on := 10, ground := Ground.data }, { on := 0, ground := Ground.phase }, { on := 1, ground := Ground.phase }, { on := 2, ground := Ground.phase }, { on := 3, ground := Ground.phase }, { on := 4, ground := Ground.phase }, { on := 5, ground := Ground.phase }, { on := 6, ground := Ground.phase }, { on := 7, ground := Ground.phase }, { on := 8, ground := Ground.phase }, { on := 9, ground := Ground.phase }], guard := none }) (v := ?_) rfl (by kernel_rfl) (by kernel_rfl) (by kernel_rfl) (fun _ _ _ h => h) (Or.inl ⟨by rfl, ?_⟩) (by assumption) ?_
                          rotate_left 1
                          · intro w hSw; (try dsimp only at hSw); go_simp; try (with_reducible rfl)
                          try simp only [Act.put, List.setIfInBounds_toArray, List.set_cons_zero, List.set_cons_succ]
                          refine wpAnyH_ready (rs := [12]) (by kernel_rfl) (by simp) ?_
                          refine AllReadyH.cons (o := { dst := none, op := Op.store 30 (Operand.tmp 84) (Operand.tmp 82), type := 0, pos := "l1_disk.go:202", after := #[{ on := 11, ground := Ground.data }, { on := 9, ground := Ground.data }, { on := 9, ground := Ground.chain }, { on := 0, ground := Ground.phase }, { on := 1, ground := Ground.phase }, { on := 2, ground := Ground.phase }, { on := 3, ground := Ground.phase }, { on := 4, ground := Ground.phase }, { on := 5, ground := Ground.phase }, { on := 6, ground := Ground.phase }, { on := 7, ground := Ground.phase }, { on := 8, ground := Ground.phase }, { on := 9, ground := Ground.phase }], guard := none }) rfl (fun K hK => ?_) ?_
                          rotate_left 1
                          exact AllReadyH.nil
                          · obtain ⟨o0, o1, o2, o3, o4, o5⟩ := box_sixR XO4
                            have fo := box_thawC XO4
                            go_simp
                            clear o0 o1 o2 o3 o4 o5 fo
                            refine hK.out _ _ trivial (fun hHeld => ?_)
                            clear hK K
                            try simp only [Act.put, List.setIfInBounds_toArray, List.set_cons_zero, List.set_cons_succ]
                            refine wpAnyH_done (by kernel_rfl) ?_ _
                            refine NoPanic.normal ?_
                            have hvb' : w2.ownsRow W.heap.size 5 1 (.slice va 128 vc) bs.length (u8s bs) := by rw [HBL.out]; exact hvb
                            have hp := OwnD.push own (by omega) hb2 (f := (nm, pg, bs)) (vb := .slice va 128 vc) hvb' hs hpg hbyt hal3 hown4 hgr hlies
                            have hset := fr_setCell w8 w9.heap.size 2 (.slice ua4 (ps.length + 1) uc4)
                            have hp5 := hp.frS hset (blk_push hlt hlies (by have := hal3.size; omega) (fun g e => by have := (hvb'.lt g e).1; omega))
                            have XO5 : (w8.setCell ⟨w9.heap.size, 2, none⟩ (.slice ua4 (ps.length + 1) uc4)).heap[w9.heap.size]? = some (.cells #[.int .i64 0, .slice a9 fs.length c9, .slice ua4 (ps.length + 1) uc4, .int .i64 cp, .int .i64 F, .bool D] 40) := heap_setCell_at XO4 2 (.slice ua4 (ps.length + 1) uc4)
                            have jR2 := (hb2.block _ (by omega)).trans jR
                            have jR3 := (hal3.block _ (by omega)).trans jR2
                            have jR4 := (hF4.block _ (by have := hal3.size; omega) (fun e => by have := (hub _ e).1; omega)).trans jR3
                            have jR5 : (w8.setCell ⟨w9.heap.size, 2, none⟩ (.slice ua4 (ps.length + 1) uc4)).heap[(w.heap.size + 1)]? = some (.cells #[.int .i64 0, .slice none 0 0, .slice none 0 0, .int .i64 0, .int .i64 0, .bool false] 40) := (hset.block _ (by have := hF4.size; have := hal3.size; omega) (fun e => by omega)).trans jR4
                            have hbY : Below w.heap.size w (w8.setCell ⟨w9.heap.size, 2, none⟩ (.slice ua4 (ps.length + 1) uc4)) := (((belX.trans (hb2.mono (by omega))).trans (hal3.mono (by omega))).trans (hF4.below (by have := hal3.size; omega) (fun g e => by have := (hub g e).1; omega))).trans (hset.below (by have := hF4.size; have := hal3.size; omega) (fun g e => by omega))
                            have hsY : w9.heap.size < (w8.setCell ⟨w9.heap.size, 2, none⟩ (.slice ua4 (ps.length + 1) uc4)).heap.size := (Array.getElem?_eq_some_iff.1 XO5).1
                            have hpl : (ps ++ [(nm, pg, bs)]).length = ps.length + 1 := by rw [List.length_append, List.length_singleton]
                            have hp6 := hp5
                            rw [← hpl] at hp6
                            have HR0 : ResAt w (.returned (.agg #[.int .i64 0, .slice a9 fs.length c9, .slice ua4 (ps ++ [(nm, pg, bs)]).length uc4, .int .i64 cp, .int .i64 F, .bool D])) (put6R _ (w.heap.size + 1) (.int .i64 0) (.slice a9 fs.length c9) (.slice ua4 (ps ++ [(nm, pg, bs)]).length uc4) (.int .i64 cp) (.int .i64 F) (.bool D)) 0 fs (ps ++ [(nm, pg, bs)]) cp F D := ResAt.mk6 (by omega) (base := w4.heap.size) hp6 (by omega) (by rw [hpl]; omega) (by rw [hpl]; exact hbY)
                            rw [hpl] at HR0
                            have HR : Hid (ResAt w (.returned (.agg #[.int .i64 0, .slice a9 fs.length c9, .slice ua4 (ps.length + 1) uc4, .int .i64 cp, .int .i64 F, .bool D])) (put6R (w8.setCell ⟨w9.heap.size, 2, none⟩ (.slice ua4 (ps.length + 1) uc4)) (w.heap.size + 1) (.int .i64 0) (.slice a9 fs.length c9) (.slice ua4 (ps.length + 1) uc4) (.int .i64 cp) (.int .i64 F) (.bool D)) 0 fs (ps ++ [(nm, pg, bs)]) cp F D) := HR0
                            have HB := put6R_box jR5 (.int .i64 0) (.slice a9 fs.length c9) (.slice ua4 (ps.length + 1) uc4) (.int .i64 cp) (.int .i64 F) (.bool D)
                            obtain ⟨y0, y1, y2, y3, y4, y5⟩ := box_sixR XO5
                            obtain ⟨r0, r1, r2, r3, r4, r5⟩ := box_sixR jR5
                            have ff := box_thawC jR5
                            clear HR0 hp6 hp5 hp hset hbY jR5 jR4 jR3 jR2 hF4 hgr hlies hown4 XO4 XO5 own own2 own3 hlt hub hal3 hvb hvb'
                            generalize (w8.setCell ⟨w9.heap.size, 2, none⟩ (.slice ua4 (ps.length + 1) uc4)) = Z at *
                            go_wp2
                            show bodyPost _ _ _ _ _ (put6R Z (w.heap.size + 1) (.int .i64 0) (.slice a9 fs.length c9) (.slice ua4 (ps.length + 1) uc4) (.int .i64 cp) (.int .i64 F) (.bool D))
                            clear r0 r1 r2 r3 r4 r5
                            obtain ⟨r0, r1, r2, r3, r4, r5⟩ := box_sixR HB
                            exact bodyPost_ret (v := .agg #[.int .i64 0, .slice a9 fs.length c9, .slice ua4 (ps.length + 1) uc4, .int .i64 cp, .int .i64 F, .bool D]) (by simp [results, Try.results16, go_sem, r0, r1, r2, r3, r4, r5]) rfl (by rw [HW.out, HX.out.1, HX.out.2.1, HX.out.2.2.1, HX.out.2.2.2.1, HX.out.2.2.2.2]; exact HR.out)
                    · have hal3 : Below w2.heap.size w2 (w2.alloc (.cells #[.string nm, .int .i64 pg, .slice va 128 vc] 77)) := (Below.refl _ _).alloc (Nat.le_refl _) _
                      have XO3 := (hal3.block _ (by omega)).trans XO2
                      have own3 := own2.below hal3
                      go_simp
                      refine hK.out _ _ trivial (fun hHeld => ?_)
                      clear hK K
                      try simp only [Act.put, List.setIfInBounds_toArray, List.set_cons_zero, List.set_cons_succ]
                      refine wpAnyH_ready (rs := [2]) (by kernel_rfl) (by simp) ?_
                      refine AllReadyH.cons (o := { dst := some 75, op := Op.load 30 (Operand.tmp 74), type := 30, pos := "l1_disk.go:202", after := #[{ on := 1, ground := Ground.data }], guard := none }) rfl (fun K hK => ?_) ?_
                      rotate_left 1
                      exact AllReadyH.nil
                      · obtain ⟨o0, o1, o2, o3, o4, o5⟩ := box_sixR XO3
                        go_simp
                        clear o0 o1 o2 o3 o4 o5
                        refine hK.out _ _ trivial (fun hHeld => ?_)
                        clear hK K
                        try simp only [Act.put, List.setIfInBounds_toArray, List.set_cons_zero, List.set_cons_succ]
                        refine wpAnyH_ready (rs := [9]) (by kernel_rfl) (by simp) ?_
                        refine AllReadyH.cons (o := { dst := some 82, op := Op.call { callee := Callee.builtin Builtin.append, args := #[Operand.tmp 75, Operand.tmp 81], argTypes := #[30, 30] }, type := 30, pos := "l1_disk.go:202", after := #[{ on := 2, ground := Ground.data }, { on := 8, ground := Ground.data }, { on := 6, ground := Ground.chain }], guard := none }) rfl (fun K hK => ?_) ?_
                        rotate_left 1
                        exact AllReadyH.nil
                        · have hrow3 := own3.cache.row
                          refine step_append_ownD rfl _ _ 30 rfl w4.heap.size 77 i0 _ 3 48 Try.underlying30 hi hz0 hz1 hz2 rfl (by decide) (.slice b9 ps.length d9) ps.length ys9 (by simp [Act.eval]) hrow3 ⟨w2.heap.size, 0, none⟩ 1 1 [.string nm, .int .i64 pg, .slice va 128 vc] (by simp [Act.eval]) rfl (cell_three_new _ _ _ _ _) (by simp [Value.oneCell']) (by unfold maxLen; omega) (by omega) (by have := hal3.size; omega) ?_
                          intro u4 w8 hown4 hgr hlies
                          obtain ⟨ua4, uc4, rfl⟩ := own_shape hown4
                          have hub : ∀ g, (Value.slice b9 ps.length d9).ownBlock = some g → w4.heap.size ≤ g ∧ g < w9.heap.size := fun g e => ⟨(own.cache.row.lt g e).1, hlt g (.inr (.inl e))⟩
                          have hF4 : Fr (fun g => (Value.slice b9 ps.length d9).ownBlock = some g) (w2.alloc (.cells #[.string nm, .int .i64 pg, .slice va 128 vc] 77)) w8 := Fr.of_grown hgr (fun g e => e)
                          have XO4 := (hF4.block _ (by have := hal3.size; omega) (fun e => by have := (hub _ e).2; omega)).trans XO3
                          refine hK.out _ _ trivial (fun hHeld => ?_)
                          clear hK K
                          try simp only [Act.put, List.setIfInBounds_toArray, List.set_cons_zero, List.set_cons_succ]
                          refine wpAnyH_take (i := 10) (oi := { dst := some 83, op := Op.fieldAddr 40 (Operand.tmp 11) 1, type := 0, pos := "l1_disk.go:202", after := #[{ on := 0, ground := Ground.phase }, { on := 1, ground := Ground.phase }, { on := 2, ground := Ground.phase }, { on := 3, ground := Ground.phase }, { on := 4, ground := Ground.phase }, { on := 5, ground := Ground.phase }, { on := 6, ground := Ground.phase }, { on := 7, ground := Ground.phase }, { on := 8, ground := Ground.phase }, { on := 9, ground := Ground.phase }], guard := none }) (v := ?_) rfl (by kernel_rfl) (by kernel_rfl) (by kernel_rfl) (fun _ _ _ h => h) (Or.inl ⟨by rfl, ?_⟩) (by assumption) ?_
                          rotate_left 1
                          · intro w hSw; (try dsimp only at hSw); go_simp; try (with_reducible rfl)
                          try simp only [Act.put, List.setIfInBounds_toArray, List.set_cons_zero, List.set_cons_succ]
                          refine wpAnyH_take (i := 11) (oi := { dst := some 84, op := Op.fieldAddr 32 (Operand.tmp 83) 1, type := 0, pos := "l1_disk.go:202", after := #[{ on := 10, ground := Ground.data }, { on := 0, ground := Ground.phase }, { on := 1, ground := Ground.phase }, { on := 2, ground := Ground.phase }, { on := 3, ground := Ground.phase }, { on := 4, ground := Ground.phase }, { on := 5, ground := Ground.phase }, { on := 6, ground := Ground.phase }, { on := 7, ground := Ground.phase }, { on := 8, ground := Ground.phase }, { on := 9, ground := Ground.phase }], guard := none }) (v := ?_) rfl (by kernel_rfl) (by kernel_rfl) (by kernel_rfl) (fun _ _ _ h => h) (Or.inl ⟨by rfl, ?_⟩) (by assumption) ?_
                          rotate_left 1
                          · intro w hSw; (try dsimp only at hSw); go_simp; try (with_reducible rfl)
                          try simp only [Act.put, List.setIfInBounds_toArray, List.set_cons_zero, List.set_cons_succ]
                          refine wpAnyH_ready (rs := [12]) (by kernel_rfl) (by simp) ?_
                          refine AllReadyH.cons (o := { dst := none, op := Op.store 30 (Operand.tmp 84) (Operand.tmp 82), type := 0, pos := "l1_disk.go:202", after := #[{ on := 11, ground := Ground.data }, { on := 9, ground := Ground.data }, { on := 9, ground := Ground.chain }, { on := 0, ground := Ground.phase }, { on := 1, ground := Ground.phase }, { on := 2, ground := Ground.phase }, { on := 3, ground := Ground.phase }, { on := 4, ground := Ground.phase }, { on := 5, ground := Ground.phase }, { on := 6, ground := Ground.phase }, { on := 7, ground := Ground.phase }, { on := 8, ground := Ground.phase }, { on := 9, ground := Ground.phase }], guard := none }) rfl (fun K hK => ?_) ?_
                          rotate_left 1
                          exact AllReadyH.nil
                          · obtain ⟨o0, o1, o2, o3, o4, o5⟩ := box_sixR XO4
                            have fo := box_thawC XO4
                            go_simp
                            clear o0 o1 o2 o3 o4 o5 fo
                            refine hK.out _ _ trivial (fun hHeld => ?_)
                            clear hK K
                            try simp only [Act.put, List.setIfInBounds_toArray, List.set_cons_zero, List.set_cons_succ]
                            refine wpAnyH_done (by kernel_rfl) ?_ _
                            refine NoPanic.normal ?_
                            have hvb' : w2.ownsRow W.heap.size 5 1 (.slice va 128 vc) bs.length (u8s bs) := by rw [HBL.out]; exact hvb
                            have hp := OwnD.push own (by omega) hb2 (f := (nm, pg, bs)) (vb := .slice va 128 vc) hvb' hs hpg hbyt hal3 hown4 hgr hlies
                            have hset := fr_setCell w8 w9.heap.size 2 (.slice ua4 (ps.length + 1) uc4)
                            have hp5 := hp.frS hset (blk_push hlt hlies (by have := hal3.size; omega) (fun g e => by have := (hvb'.lt g e).1; omega))
                            have XO5 : (w8.setCell ⟨w9.heap.size, 2, none⟩ (.slice ua4 (ps.length + 1) uc4)).heap[w9.heap.size]? = some (.cells #[.int .i64 0, .slice a9 fs.length c9, .slice ua4 (ps.length + 1) uc4, .int .i64 cp, .int .i64 F, .bool D] 40) := heap_setCell_at XO4 2 (.slice ua4 (ps.length + 1) uc4)
                            have jR2 := (hb2.block _ (by omega)).trans jR
                            have jR3 := (hal3.block _ (by omega)).trans jR2
                            have jR4 := (hF4.block _ (by have := hal3.size; omega) (fun e => by have := (hub _ e).1; omega)).trans jR3
                            have jR5 : (w8.setCell ⟨w9.heap.size, 2, none⟩ (.slice ua4 (ps.length + 1) uc4)).heap[(w.heap.size + 1)]? = some (.cells #[.int .i64 0, .slice none 0 0, .slice none 0 0, .int .i64 0, .int .i64 0, .bool false] 40) := (hset.block _ (by have := hF4.size; have := hal3.size; omega) (fun e => by omega)).trans jR4
                            have hbY : Below w.heap.size w (w8.setCell ⟨w9.heap.size, 2, none⟩ (.slice ua4 (ps.length + 1) uc4)) := (((belX.trans (hb2.mono (by omega))).trans (hal3.mono (by omega))).trans (hF4.below (by have := hal3.size; omega) (fun g e => by have := (hub g e).1; omega))).trans (hset.below (by have := hF4.size; have := hal3.size; omega) (fun g e => by omega))
                            have hsY : w9.heap.size < (w8.setCell ⟨w9.heap.size, 2, none⟩ (.slice ua4 (ps.length + 1) uc4)).heap.size := (Array.getElem?_eq_some_iff.1 XO5).1
                            have hpl : (ps ++ [(nm, pg, bs)]).length = ps.length + 1 := by rw [List.length_append, List.length_singleton]
                            have hp6 := hp5
                            rw [← hpl] at hp6
                            have HR0 : ResAt w (.returned (.agg #[.int .i64 0, .slice a9 fs.length c9, .slice ua4 (ps ++ [(nm, pg, bs)]).length uc4, .int .i64 cp, .int .i64 F, .bool D])) (put6R _ (w.heap.size + 1) (.int .i64 0) (.slice a9 fs.length c9) (.slice ua4 (ps ++ [(nm, pg, bs)]).length uc4) (.int .i64 cp) (.int .i64 F) (.bool D)) 0 fs (ps ++ [(nm, pg, bs)]) cp F D := ResAt.mk6 (by omega) (base := w4.heap.size) hp6 (by omega) (by rw [hpl]; omega) (by rw [hpl]; exact hbY)
                            rw [hpl] at HR0
                            have HR : Hid (ResAt w (.returned (.agg #[.int .i64 0, .slice a9 fs.length c9, .slice ua4 (ps.length + 1) uc4, .int .i64 cp, .int .i64 F, .bool D])) (put6R (w8.setCell ⟨w9.heap.size, 2, none⟩ (.slice ua4 (ps.length + 1) uc4)) (w.heap.size + 1) (.int .i64 0) (.slice a9 fs.length c9) (.slice ua4 (ps.length + 1) uc4) (.int .i64 cp) (.int .i64 F) (.bool D)) 0 fs (ps ++ [(nm, pg, bs)]) cp F D) := HR0
                            have HB := put6R_box jR5 (.int .i64 0) (.slice a9 fs.length c9) (.slice ua4 (ps.length + 1) uc4) (.int .i64 cp) (.int .i64 F) (.bool D)
                            obtain ⟨y0, y1, y2, y3, y4, y5⟩ := box_sixR XO5
                            obtain ⟨r0, r1, r2, r3, r4, r5⟩ := box_sixR jR5
                            have ff := box_thawC jR5
                            clear HR0 hp6 hp5 hp hset hbY jR5 jR4 jR3 jR2 hF4 hgr hlies hown4 XO4 XO5 own own2 own3 hlt hub hal3 hvb hvb'
                            generalize (w8.setCell ⟨w9.heap.size, 2, none⟩ (.slice ua4 (ps.length + 1) uc4)) = Z at *
                            go_wp2
                            show bodyPost _ _ _ _ _ (put6R Z (w.heap.size + 1) (.int .i64 0) (.slice a9 fs.length c9) (.slice ua4 (ps.length + 1) uc4) (.int .i64 cp) (.int .i64 F) (.bool D))
                            clear r0 r1 r2 r3 r4 r5
                            obtain ⟨r0, r1, r2, r3, r4, r5⟩ := box_sixR HB
                            exact bodyPost_ret (v := .agg #[.int .i64 0, .slice a9 fs.length c9, .slice ua4 (ps.length + 1) uc4, .int .i64 cp, .int .i64 F, .bool D]) (by simp [results, Try.results16, go_sem, r0, r1, r2, r3, r4, r5]) rfl (by rw [HW.out, HX.out.1, HX.out.2.1, HX.out.2.2.1, HX.out.2.2.2.1, HX.out.2.2.2.2]; exact HR.out)
        · rw [decide_eq_false t2]
          have HW : Hid (rwI fs ps cp fu false nm pg bs = 1) := rwI_bad2 t2
          generalize lenI (lastF ps fs) nm = ln at *
          clear t2
          go_wp2_with fail
          refine (l1Bad_any a n c fs b m d ps cp fu false w2'' A B (by omega) (HF.out _ bel2) (HP.out _ bel2) hn hm HA.out HA2.out).mono ?_
          rintro e w9 hres
          obtain ⟨a9, c9, b9, d9, xs9, vs9, ys9, us9, rfl, hO9, hb9⟩ := hres.out
          clear hres
          have jR := (hb9.block (w.heap.size + 1) (by omega)).trans jR2
          have hs9 := hb9.size
          obtain ⟨r0, r1, r2, r3, r4, r5⟩ := box_sixR jR
          have ff := box_thawC jR
          have HB := put6R_box jR (.int .i64 1) (.slice a9 fs.length c9) (.slice b9 ps.length d9) (.int .i64 cp) (.int .i64 fu) (.bool false)
          have HR : Hid (ResAt w (.returned (.agg #[.int .i64 1, .slice a9 fs.length c9, .slice b9 ps.length d9, .int .i64 cp, .int .i64 fu, .bool false])) (put6R w9 (w.heap.size + 1) (.int .i64 1) (.slice a9 fs.length c9) (.slice b9 ps.length d9) (.int .i64 cp) (.int .i64 fu) (.bool false)) 1 fs ps cp fu false) := ResAt.mk6 (by omega) (base := w2''.heap.size) hO9 (by omega) (by omega) (bel2.trans (hb9.mono bel2.size))
          clear hO9 hb9 jR jR2 jD2
          go_wp2
          show bodyPost _ _ _ _ _ (put6R w9 (w.heap.size + 1) (.int .i64 1) (.slice a9 fs.length c9) (.slice b9 ps.length d9) (.int .i64 cp) (.int .i64 fu) (.bool false))
          clear r0 r1 r2 r3 r4 r5
          obtain ⟨r0, r1, r2, r3, r4, r5⟩ := box_sixR HB
          exact bodyPost_ret (v := .agg #[.int .i64 1, .slice a9 fs.length c9, .slice b9 ps.length d9, .int .i64 cp, .int .i64 fu, .bool false]) (by simp [results, Try.results16, go_sem, r0, r1, r2, r3, r4, r5]) rfl (by rw [HW.out]; simpa [dsE, dsX, dsF, dsD] using HR.out)
      · have s1 : ((pn : Int) == 128) = false := by simp; omega
        have HW : Hid (rwI fs ps cp fu false nm pg bs = 1) := rwI_bad (fun h => by have := HBL.out; omega)
        clear t1
        go_wp2_with fail
        refine (l1Bad_any a n c fs b m d ps cp fu false w1' A B (by omega) (HF.out _ bel1) (HP.out _ bel1) hn hm HA.out HA2.out).mono ?_
        rintro e w9 hres
        obtain ⟨a9, c9, b9, d9, xs9, vs9, ys9, us9, rfl, hO9, hb9⟩ := hres.out
        clear hres
        have jR := (hb9.block (w.heap.size + 1) (by omega)).trans jR1
        have hs9 := hb9.size
        obtain ⟨r0, r1, r2, r3, r4, r5⟩ := box_sixR jR
        have ff := box_thawC jR
        have HB := put6R_box jR (.int .i64 1) (.slice a9 fs.length c9) (.slice b9 ps.length d9) (.int .i64 cp) (.int .i64 fu) (.bool false)
        have HR : Hid (ResAt w (.returned (.agg #[.int .i64 1, .slice a9 fs.length c9, .slice b9 ps.length d9, .int .i64 cp, .int .i64 fu, .bool false])) (put6R w9 (w.heap.size + 1) (.int .i64 1) (.slice a9 fs.length c9) (.slice b9 ps.length d9) (.int .i64 cp) (.int .i64 fu) (.bool false)) 1 fs ps cp fu false) := ResAt.mk6 (by omega) (base := w1'.heap.size) hO9 (by omega) (by omega) (bel1.trans (hb9.mono bel1.size))
        clear hO9 hb9 jR jR1 jD1
        go_wp2
        show bodyPost _ _ _ _ _ (put6R w9 (w.heap.size + 1) (.int .i64 1) (.slice a9 fs.length c9) (.slice b9 ps.length d9) (.int .i64 cp) (.int .i64 fu) (.bool false))
        clear r0 r1 r2 r3 r4 r5
        obtain ⟨r0, r1, r2, r3, r4, r5⟩ := box_sixR HB
        exact bodyPost_ret (v := .agg #[.int .i64 1, .slice a9 fs.length c9, .slice b9 ps.length d9, .int .i64 cp, .int .i64 fu, .bool false]) (by simp [results, Try.results16, go_sem, r0, r1, r2, r3, r4, r5]) rfl (by rw [HW.out]; simpa [dsE, dsX, dsF, dsD] using HR.out)
end Go.Proofs.Ytmmdkjeoadlikaa
