import Derived.Test.YteienboknicpjaaGAK
import Derived.Test.YteienboknicpjaaGAN
import Derived.Sort.Walk0
namespace Go.Proofs.Yteienboknicpjaa
open Go.RowKit Go.Maps
set_option linter.unusedVariables false
set_option maxRecDepth 100000

/-- A map's bound may be its size. -/
theorem MapAt.tight {w : World} {mb k : Nat} {D : DataW Unit} (h : MapAt w mb k D) : MapAt w mb (Maps.size D) D := by
  obtain ⟨es, clock, hb, F, _, rfl⟩ := h
  exact ⟨es, clock, hb, F, by simp [Maps.size, length_sorted], rfl⟩

/-- What the program says to a write: 0, 1 or 2. -/
def rwI (fs : List PF) (ps : List PP) (cp fu : Int) (de : Bool) (nm : ByteArray) (pg : Int) (bs : List Int) : Int :=
  if implV fs ps cp fu = true ∧ de = false ∧ nameB nm = true ∧ bs.length = 128 then
    (if pg < 0 ∨ lenI (lastF ps fs) nm < pg then 1 else if ps.length = 1000 ∨ 12 < (doP (lastF ps fs) nm pg.toNat bs).length ∨ cp < totalI (doP (lastF ps fs) nm pg.toNat bs) then 2 else 0)
  else 1
theorem inv_lastW : ∀ (ps : List PP) (fs : List PF), Inv fs → Inv (lastF ps fs)
  | [], _, h => h
  | p :: r, fs, h => by
    simp only [lastF]
    exact inv_lastW r _ (doP_inv h)
theorem boxW5 {wr : World} {N : Nat} {v0 v1 v2 v3 v4 : Value} {t : TypeId} (h : wr.heap[N]? = some (.cells #[v0, v1, v2, v3, v4] t)) : wr.cell? ⟨N, 0, none⟩ = some v0 ∧ wr.cell? ⟨N, 1, none⟩ = some v1 ∧ wr.cell? ⟨N, 2, none⟩ = some v2 ∧ wr.cell? ⟨N, 3, none⟩ = some v3 ∧ wr.cell? ⟨N, 4, none⟩ = some v4 := by
  refine ⟨?_, ?_, ?_, ?_, ?_⟩
  · rw [cell_of_row wr N 0 _ _ _ h]; rfl
  · rw [cell_of_row wr N 1 _ _ _ h]; rfl
  · rw [cell_of_row wr N 2 _ _ _ h]; rfl
  · rw [cell_of_row wr N 3 _ _ _ h]; rfl
  · rw [cell_of_row wr N 4 _ _ _ h]; rfl
theorem cacheI_lastW {cp : Int} : ∀ (ps : List PP) (fs : List PF), cacheI cp ps fs = true → fitsB cp (lastF ps fs) = true
  | [], fs, h => by simpa [cacheI, lastF] using h
  | p :: r, fs, h => by
    simp only [cacheI, Bool.and_eq_true] at h
    simp only [lastF]
    exact cacheI_lastW r _ h.2
/-- Where the disk is good, what is seen fits. -/
theorem specV_partsW {fs : List PF} {ps : List PP} {cp fu : Int} (h : true = implV fs ps cp fu) : cp ≤ 1000 ∧ (lastF ps fs).length ≤ 12 ∧ totalI (lastF ps fs) ≤ cp := by
  simp only [implV, Bool.true_eq, Bool.and_eq_true, decide_eq_true_eq] at h
  have h2 := cacheI_lastW ps fs h.2
  simp only [fitsB, Bool.and_eq_true, decide_eq_true_eq] at h2
  exact ⟨h.1.1.1.1.2.1, h2.1, h2.2⟩
theorem retW {x y : Int} (h : x = y) : (Ending.returned (.int .i64 x)) = .returned (.int .i64 y) := by rw [h]
set_option maxHeartbeats 1600000 in
theorem refuseWrite_any (a : Option Addr) (n c : Nat) (fs : List PF) (b : Option Addr) (m d : Nat) (ps : List PP) (cp fu : Int) (de : Bool) (nm : ByteArray) (pg : Int) (pa : Option Addr) (pn pc : Nat) (bs : List Int) (w : World) (A B : Nat) (hB : B ≤ w.heap.size) (hF : FilesAt w A B a n c fs) (hP : PendsAt w A B b m d ps) (hs : nm.size ≤ maxLen) (hbl : bs.length = pn)
    (hall : ∀ j, j < n → (fs.getD j (ByteArray.empty, [])).2.length ≤ 1048576) :
    Calls Try.prog 21 #[.agg #[.slice a n c, .slice b m d, .int .i64 cp, .int .i64 fu, .bool de], .string nm, .int .i64 pg, .slice pa pn pc] w fun e w' => e = .returned (.int .i64 (rwI fs ps cp fu de nm pg bs)) ∧ Below w.heap.size w w' := by
  have hb0 : Below w.heap.size w (w.alloc (.cells #[.slice a n c, .slice b m d, .int .i64 cp, .int .i64 fu, .bool de] 26)) := (Below.refl _ _).alloc (Nat.le_refl _) _
  have hml : ps.length = m := hP.1
  have HBL : Hid (bs.length = pn) := hbl
  clear hbl
  go_enter Try.func21, Try.ntmps21
  go_wp2_with fail
  refine (countSeen_any _ _ _ fs _ _ _ ps _ _ _ _ A B (by simp; omega) (hF.below (hb0.mono hB)) (hP.below (hb0.mono hB)) hall).mono ?_
  rintro e w1 ⟨r, t, ok, rfl, hok, hb1, hyes⟩
  have hg1 := hb0.trans (hb1.mono (by simp))
  have hz1 : w.heap.size + 1 ≤ w1.heap.size := by simpa using hb1.size
  have hbx1 : Hid (w1.heap[w.heap.size]? = some (.cells #[.slice a n c, .slice b m d, .int .i64 cp, .int .i64 fu, .bool de] 26)) := (hb1.block _ (by simp)).trans (heap_alloc_new w _)
  have HOK : Hid (ok = implV fs ps cp fu) := hok
  have HY : Hid (ok = true → t = totalI (lastF ps fs) ∧ ∃ mb k D, r = some mb ∧ (w.alloc (.cells #[.slice a n c, .slice b m d, .int .i64 cp, .int .i64 fu, .bool de] 26)).heap.size ≤ mb ∧ MapAt w1 mb k D ∧ Rep D (lastF ps fs)) := hyes
  have HML : Hid (ps.length = m) := hml
  clear hok hyes hml
  have k0 := (Below.heap_alloc w1 (.cells #[.map r, .int .i64 t] 86) w.heap.size hz1).trans hbx1.out
  obtain ⟨x0, x1, x2, x3, x4⟩ := boxW5 k0
  have hg2 := hg1.alloc (o := .cells #[.map r, .int .i64 t] 86) (by omega)
  cases ok with
  | false =>
    have HR : Hid (rwI fs ps cp fu de nm pg bs = 1) := by show _ = _; unfold rwI; rw [← HOK.out]; simp
    clear k0 HOK HY
    go_wp2_with fail
    go_ret
    exact ⟨retW HR.out.symm, hg2⟩
  | true =>
    obtain ⟨ht, mb, k, D, rfl, hmb, hM0, hR⟩ := HY.out rfl
    have HT : Hid (t = totalI (lastF ps fs)) := ht
    clear ht
    have hM1 := hM0.tight
    rw [hR.size_] at hM1
    clear hM0
    have hmz : w.heap.size + 1 ≤ mb := by simpa using hmb
    clear hmb
    have hI : Inv (lastF ps fs) := by
      refine inv_lastW _ _ (inv_all ?_)
      have h2 := HOK.out
      simp only [implV, Bool.true_eq, Bool.and_eq_true] at h2
      exact h2.1.1.2
    have hl0 := lenI_le_total (lastF ps fs) nm
    have htb := totalI_bd (lastF ps fs)
    have hM := hM1.keep (Below.heap_alloc w1 (.cells #[.map (some mb), .int .i64 t] 86) _ hM1.lt)
    have hmlt := hM1.lt
    have hlk := look_at hM hR hs 0
    have hlk' : (Instr.lookup 84 (.map (some mb)) (.string nm) false).run Try.prog (w1.alloc (.cells #[.map (some mb), .int .i64 t] 86)) = .ok (.int .i64 (lenI (lastF ps fs) nm)) (w1.alloc (.cells #[.map (some mb), .int .i64 t] 86)) := hlk
    have KC : Hid ((w1.alloc (.cells #[.map (some mb), .int .i64 t] 86)).heap[w1.heap.size]? = some (.cells #[.map (some mb), .int .i64 t] 86)) := heap_alloc_new w1 _
    have HK0 : Hid ((w1.alloc (.cells #[.map (some mb), .int .i64 t] 86)).heap[w.heap.size]? = some (.cells #[.slice a n c, .slice b m d, .int .i64 cp, .int .i64 fu, .bool de] 26)) := k0
    clear HY hlk k0
    by_cases t0 : de = false ∧ nameB nm = true ∧ pn = 128
    · obtain ⟨rfl, tn, rfl⟩ := t0
      have HN : Hid (nameB nm = true) := tn
      have hwS := (specV_partsW (HOK.out))
      by_cases t1 : pg < 0
      · have HR : Hid (rwI fs ps cp fu false nm pg bs = 1) := by show _ = _; unfold rwI; rw [if_pos ⟨HOK.out.symm, rfl, tn, HBL.out⟩, if_pos (.inl t1)]
        have s1 : decide (pg < 0) = true := by simp; omega
        clear tn hlk' hM hM1 hR hI t1
        go_wp2_with fail
        refine (isName_any _ _ hs).mono ?_
        rintro e w2 ⟨rfl, rfl⟩
        rw [HN.out]
        go_wp2_with fail
        go_ret
        exact ⟨retW HR.out.symm, hg2⟩
      · have s1 : decide (pg < 0) = false := by simp; omega
        by_cases t2 : lenI (lastF ps fs) nm < pg
        · have HR : Hid (rwI fs ps cp fu false nm pg bs = 1) := by show _ = _; unfold rwI; rw [if_pos ⟨HOK.out.symm, rfl, tn, HBL.out⟩, if_pos (.inr t2)]
          have s2 : decide (lenI (lastF ps fs) nm < pg) = true := by simp; omega
          clear tn hM hM1 hR hI t1 t2
          generalize lenI (lastF ps fs) nm = ln at *
          go_wp2_with fail
          refine (isName_any _ _ hs).mono ?_
          rintro e w2 ⟨rfl, rfl⟩
          rw [HN.out]
          go_wp2_with fail
          go_ret
          exact ⟨retW HR.out.symm, hg2⟩
        · have s2 : decide (lenI (lastF ps fs) nm < pg) = false := by simp; omega
          obtain ⟨pgN, rfl⟩ := Int.eq_ofNat_of_zero_le (show 0 ≤ pg by omega)
          have HR : Hid (rwI fs ps cp fu false nm (pgN : Int) bs = if ps.length = 1000 ∨ 12 < (doP (lastF ps fs) nm pgN bs).length ∨ cp < totalI (doP (lastF ps fs) nm pgN bs) then 2 else 0) := by show _ = _; unfold rwI; rw [if_pos ⟨HOK.out.symm, rfl, tn, HBL.out⟩, if_neg (by omega), Int.toNat_natCast]
          have htot := doP_total2 (bs := bs) hI (show (pgN : Int) ≤ lenI (lastF ps fs) nm by omega)
          have hrp := Rep.pend (bs := bs) hR hI (show (pgN : Int) ≤ lenI (lastF ps fs) nm by omega)
          have HAT : Hid (D.atKey (keyL nm) (.lit (.int .i64 0)) = .lit (.int .i64 (lenI (lastF ps fs) nm))) := hR.at_ nm
          rw [HML.out] at HR
          by_cases t3 : (pgN : Int) = lenI (lastF ps fs) nm
          · have s3 : ((pgN : Int) == lenI (lastF ps fs) nm) = true := by simp [t3]
            rw [if_pos t3, ← HT.out] at htot
            have HTO : Hid (totalI (doP (lastF ps fs) nm pgN bs) = t + 1) := htot
            have HRP : Hid (Rep (D.put (keyL nm) (.lit (.int .i64 (lenI (lastF ps fs) nm + 1)))) (doP (lastF ps fs) nm pgN bs)) := hrp.1 t3
            rw [← HT.out] at hwS htb hl0
            clear hrp htot t3 hI hR t1 t2 tn HT
            generalize doP (lastF ps fs) nm pgN bs = G at *
            generalize lenI (lastF ps fs) nm = ln at *
            go_wp2_with fail
            refine (isName_any _ _ hs).mono ?_
            rintro e w2 ⟨rfl, rfl⟩
            rw [HN.out]
            go_wp2_with fail
            refine (add_any nm 1 ln t w1.heap.size mb _ D _ KC.out hM (by omega) HAT.out hs (by omega) (by omega) (by omega) (by omega) (by omega) (by omega)).mono ?_
            rintro e w3 ⟨rfl, hc3, hm3, ht3⟩
            have hB3 : Below w.heap.size w w3 := hg2.trans (ht3.below (by simp; omega) (by omega) (by omega))
            have k3 := (ht3.block w.heap.size (by simp; omega) (by omega) (by omega)).trans HK0.out
            have hlen := hm3.len Try.underlying84 3
            rw [HRP.out.size_] at hlen
            clear x0 x1 x2 x3 x4 hlk'
            obtain ⟨x0, x1, x2, x3, x4⟩ := boxW5 k3
            obtain ⟨⟨q0, q1⟩, _, _⟩ := two_cells hc3
            clear hc3 k3 hm3 ht3 hM hM1
            rw [HTO.out] at HR
            generalize hGl : G.length = gl at *
            have HGL : Hid (G.length = gl) := hGl
            clear hGl
            by_cases t5 : m = 1000
            · have u1 : ((m : Int) == 1000) = true := by simp; omega
              rw [if_pos (.inl t5)] at HR
              clear t5
              go_wp2_with fail
              go_ret
              exact ⟨retW HR.out.symm, hB3⟩
            · have u1 : ((m : Int) == 1000) = false := by simp; omega
              by_cases t6 : 12 < gl
              · have u2 : decide ((12 : Int) < (gl : Int)) = true := by simp; omega
                rw [if_pos (.inr (.inl t6))] at HR
                clear t5 t6
                go_wp2_with fail
                go_ret
                exact ⟨retW HR.out.symm, hB3⟩
              · have u2 : decide ((12 : Int) < (gl : Int)) = false := by simp; omega
                by_cases t7 : cp < (t + 1)
                · have u3 : decide (cp < (t + 1)) = true := by simp; omega
                  rw [if_pos (.inr (.inr t7))] at HR
                  clear t5 t6 t7
                  go_wp2_with fail
                  go_ret
                  exact ⟨retW HR.out.symm, hB3⟩
                · have u3 : decide (cp < (t + 1)) = false := by simp; omega
                  rw [if_neg (by omega)] at HR
                  clear t5 t6 t7
                  go_wp2_with fail
                  go_ret
                  exact ⟨retW HR.out.symm, hB3⟩
          · have s3 : ((pgN : Int) == lenI (lastF ps fs) nm) = false := by simp [t3]
            rw [if_neg t3, Int.add_zero, ← HT.out] at htot
            have HTO : Hid (totalI (doP (lastF ps fs) nm pgN bs) = t) := htot
            have HRP := hrp.2 t3
            have hB3 := hg2
            have hM' : (w1.alloc (.cells #[.map (some mb), .int .i64 t] 86)).ownsMap Try.prog 9 (plainElem Try.prog 2) mb _ D := hM
            have hlen := hM'.len Try.underlying84 3
            rw [HRP.size_] at hlen
            rw [HTO.out] at HR
            clear hrp htot hI hR t1 t2 tn HT HRP hM hM' hM1 HAT HTO
            generalize doP (lastF ps fs) nm pgN bs = G at *
            generalize lenI (lastF ps fs) nm = ln at *
            generalize hGl : G.length = gl at *
            have HGL : Hid (G.length = gl) := hGl
            clear hGl t3
            by_cases t5 : m = 1000
            · have u1 : ((m : Int) == 1000) = true := by simp; omega
              rw [if_pos (.inl t5)] at HR
              clear t5
              go_wp2_with fail
              refine (isName_any _ _ hs).mono ?_
              rintro e w2 ⟨rfl, rfl⟩
              rw [HN.out]
              go_wp2_with fail
              go_ret
              exact ⟨retW HR.out.symm, hB3⟩
            · have u1 : ((m : Int) == 1000) = false := by simp; omega
              by_cases t6 : 12 < gl
              · have u2 : decide ((12 : Int) < (gl : Int)) = true := by simp; omega
                rw [if_pos (.inr (.inl t6))] at HR
                clear t5 t6
                go_wp2_with fail
                refine (isName_any _ _ hs).mono ?_
                rintro e w2 ⟨rfl, rfl⟩
                rw [HN.out]
                go_wp2_with fail
                go_ret
                exact ⟨retW HR.out.symm, hB3⟩
              · have u2 : decide ((12 : Int) < (gl : Int)) = false := by simp; omega
                by_cases t7 : cp < t
                · have u3 : decide (cp < t) = true := by simp; omega
                  rw [if_pos (.inr (.inr t7))] at HR
                  clear t5 t6 t7
                  go_wp2_with fail
                  refine (isName_any _ _ hs).mono ?_
                  rintro e w2 ⟨rfl, rfl⟩
                  rw [HN.out]
                  go_wp2_with fail
                  go_ret
                  exact ⟨retW HR.out.symm, hB3⟩
                · have u3 : decide (cp < t) = false := by simp; omega
                  rw [if_neg (by omega)] at HR
                  clear t5 t6 t7
                  go_wp2_with fail
                  refine (isName_any _ _ hs).mono ?_
                  rintro e w2 ⟨rfl, rfl⟩
                  rw [HN.out]
                  go_wp2_with fail
                  go_ret
                  exact ⟨retW HR.out.symm, hB3⟩
    · have HR : Hid (rwI fs ps cp fu de nm pg bs = 1) := by show _ = _; unfold rwI; rw [HBL.out, if_neg (fun h => t0 ⟨h.2.1, h.2.2⟩)]
      have hT : de = true ∨ nameB nm = false ∨ pn ≠ 128 := by
        cases de with
        | true => exact .inl rfl
        | false => cases hn : nameB nm with
          | false => exact .inr (.inl rfl)
          | true => exact .inr (.inr (fun e => t0 ⟨rfl, hn, e⟩))
      clear t0 hlk' hM hM1 hR hI hl0 HT htb KC HK0 HOK
      rcases hT with rfl | hn | hp
      · go_wp2_with fail
        go_ret
        exact ⟨retW HR.out.symm, hg2⟩
      · have HN : Hid (nameB nm = false) := hn
        clear hn
        cases de with
        | true =>
          go_wp2_with fail
          go_ret
          exact ⟨retW HR.out.symm, hg2⟩
        | false =>
          go_wp2_with fail
          refine (isName_any _ _ hs).mono ?_
          rintro e w2 ⟨rfl, rfl⟩
          rw [HN.out]
          go_wp2_with fail
          go_ret
          exact ⟨retW HR.out.symm, hg2⟩
      · have s1 : ((pn : Int) == 128) = false := by simp; omega
        cases de with
        | true =>
          go_wp2_with fail
          go_ret
          exact ⟨retW HR.out.symm, hg2⟩
        | false =>
          go_wp2_with fail
          refine (isName_any _ _ hs).mono ?_
          rintro e w2 ⟨rfl, rfl⟩
          cases hn : nameB nm
          · go_wp2_with fail
            go_ret
            exact ⟨retW HR.out.symm, hg2⟩
          · go_wp2_with fail
            go_ret
            exact ⟨retW HR.out.symm, hg2⟩
end Go.Proofs.Yteienboknicpjaa
namespace Go.Proofs.Yteienboknicpjaa
open Go.RowKit Go.Maps
set_option linter.unusedVariables false
set_option maxRecDepth 100000

theorem lastF_snoc : ∀ (ps : List PP) (p : PP) (fs : List PF), lastF (ps ++ [p]) fs = stepP (lastF ps fs) p
  | [], p, fs => rfl
  | q :: r, p, fs => by simp only [List.cons_append, lastF]; exact lastF_snoc r p _
theorem pendsOk_snoc : ∀ (ps : List PP) (p : PP) (fs : List PF), pendsOk (ps ++ [p]) fs = (pendsOk ps fs && pendOk (lastF ps fs) p)
  | [], p, fs => by simp [pendsOk, lastF]
  | q :: r, p, fs => by simp only [List.cons_append, pendsOk, lastF]; rw [pendsOk_snoc r p _, Bool.and_assoc]
theorem cacheI_parts {cp : Int} {ps : List PP} {fs : List PF} (h : cacheI cp ps fs = true) : pendsOk ps fs = true ∧ fitsB cp (lastF ps fs) = true := by
  rw [cacheI_eq, Bool.and_eq_true] at h
  exact h
theorem implV_parts {fs : List PF} {ps : List PP} {cp fu : Int} (h : implV fs ps cp fu = true) : (0 ≤ cp ∧ cp ≤ 1000 ∧ -1 ≤ fu ∧ fu ≤ 1000000) ∧ fs.length ≤ 12 ∧ filesOk fs = true ∧ ps.length ≤ 1000 ∧ cacheI cp ps fs = true := by
  simp only [implV, Bool.and_eq_true, decide_eq_true_eq] at h
  exact ⟨h.1.1.1.1, h.1.1.1.2, h.1.1.2, h.1.2, h.2⟩
/-- A write that was taken leaves the disk valid. -/
theorem valid_write {fs : List PF} {ps : List PP} {cp fu : Int} {de : Bool} {nm : ByteArray} {pg : Int} {bs : List Int} (h : rwI fs ps cp fu de nm pg bs = 0) : implV fs (ps ++ [(nm, pg, bs)]) cp (-1) = true ∧ de = false ∧ implV fs ps cp fu = true ∧ bs.length = 128 ∧ 0 ≤ pg ∧ pg ≤ lenI (lastF ps fs) nm ∧ nameB nm = true := by
  unfold rwI at h
  split at h
  · rename_i hc
    split at h
    · cases h
    · rename_i h2
      split at h
      · cases h
      · rename_i h3
        obtain ⟨q1, q2, q3, q4, q5⟩ := implV_parts hc.1
        obtain ⟨t1, t2⟩ := cacheI_parts q5
        have hpg : 0 ≤ pg ∧ pg ≤ lenI (lastF ps fs) nm := by omega
        refine ⟨?_, hc.2.1, hc.1, hc.2.2.2, hpg.1, hpg.2, hc.2.2.1⟩
        simp only [implV, Bool.and_eq_true, decide_eq_true_eq]
        refine ⟨⟨⟨⟨⟨q1.1, q1.2.1, by omega, by omega⟩, q2⟩, q3⟩, by simp; omega⟩, ?_⟩
        rw [cacheI_eq, lastF_snoc, pendsOk_snoc, t1]
        simp only [Bool.true_and, Bool.and_eq_true, pendOk, fitsB, stepP, decide_eq_true_eq, beq_iff_eq]
        refine ⟨⟨⟨hc.2.2.1, hc.2.2.2⟩, hpg⟩, ?_, ?_⟩
        · exact decide_eq_true (by omega)
        · exact decide_eq_true (by omega)
  · cases h
theorem doP_nameB {fs : List PF} {nm : ByteArray} {pg : Nat} {bs : List Int} (h : ∀ f ∈ fs, nameB f.1 = true) (hn : nameB nm = true) : ∀ f ∈ doP fs nm pg bs, nameB f.1 = true := by
  intro f hf
  unfold doP at hf
  rcases List.mem_or_eq_of_mem_set hf with h1 | h1
  · unfold withName at h1
    split at h1
    · exact h f h1
    · rcases List.mem_append.1 h1 with h2 | h2
      · exact h f (List.mem_of_mem_take h2)
      · rcases List.mem_cons.1 h2 with h3 | h3
        · rw [h3]; exact hn
        · exact h f (List.mem_of_mem_drop h3)
  · rw [h1]; exact hn
theorem last_nameB : ∀ (ps : List PP) (fs : List PF), (∀ f ∈ fs, nameB f.1 = true) → pendsOk ps fs = true → ∀ f ∈ lastF ps fs, nameB f.1 = true
  | [], _, h, _ => h
  | p :: r, fs, h, hc => by
    simp only [pendsOk, pendOk, Bool.and_eq_true] at hc
    exact last_nameB r _ (doP_nameB h hc.1.1.1) hc.2
theorem less_of {x y : List UInt8} (h : x < y) : Op.bytesLess x y = true := by
  rw [bytesLess_eq]
  exact decide_eq_true h
theorem filesOk_of {L : List PF} (hs : SortedN L) (hI : Inv L) (hn : ∀ f ∈ L, nameB f.1 = true) : filesOk L = true := by
  refine filesOk_yes fun i hi => ?_
  have h1 := hI.pg i hi
  have h2 : nameB (L.getD i (ByteArray.empty, [])).1 = true := hn _ (by simp [List.getD, List.getElem?_eq_getElem hi])
  simp only [fileOk, Bool.and_eq_true, Bool.not_eq_true', beq_eq_false_iff_ne, ne_eq, beq_iff_eq, Bool.and_eq_false_iff, decide_eq_false_iff_not]
  refine ⟨⟨⟨h2, by omega⟩, h1.2⟩, ?_⟩
  by_cases h0 : 0 < i
  · right
    have h3 := List.pairwise_iff_getElem.1 hs (i - 1) i (by omega) hi (by omega)
    unfold geB
    rw [show (L.getD (i - 1) (ByteArray.empty, [])).1 = L[i - 1].1 by simp [List.getD, List.getElem?_eq_getElem (show i - 1 < L.length by omega)], show (L.getD i (ByteArray.empty, [])).1 = L[i].1 by simp [List.getD, List.getElem?_eq_getElem hi], less_of h3]
    rfl
  · exact .inl h0
/-- What is seen, made durable, is a valid disk. -/
theorem valid_sync {fs : List PF} {ps : List PP} {cp fu : Int} (h : implV fs ps cp fu = true) : implV (lastF ps fs) [] cp (-1) = true := by
  obtain ⟨q1, q2, q3, q4, q5⟩ := implV_parts h
  obtain ⟨t1, t2⟩ := cacheI_parts q5
  have t3 := t2
  simp only [fitsB, Bool.and_eq_true, decide_eq_true_eq] at t3
  have hI := inv_all q3
  have hs := sortedN_of_ok (of_decide_eq_true q3)
  have hnm : ∀ f ∈ fs, nameB f.1 = true := by
    intro f hf
    obtain ⟨i, hi, rfl⟩ := List.getElem_of_mem hf
    have h2 := of_decide_eq_true q3 i hi
    simp only [fileOk, Bool.and_eq_true] at h2
    have h3 := h2.1.1.1
    simpa [List.getD, List.getElem?_eq_getElem hi] using h3
  simp only [implV, Bool.and_eq_true, decide_eq_true_eq]
  refine ⟨⟨⟨⟨⟨q1.1, q1.2.1, by omega, by omega⟩, t3.1⟩, ?_⟩, by simp⟩, ?_⟩
  · exact filesOk_of (last_sorted ps fs hs) (inv_lastW ps fs hI) (last_nameB ps fs hnm t1)
  · simpa [cacheI] using t2
/-- A crash in which all writes are kept leaves what was seen. -/
theorem crF_all {ta : Int} {ks : List Bool} : ∀ (ps : List PP) (k : Nat) (fs : List PF), (∀ i, i < ps.length → ks.getD (k + i) false = true) → crF (-1) ta ks k ps fs = lastF ps fs
  | [], k, fs, h => rfl
  | p :: r, k, fs, h => by
    simp only [crF, crS, lastF]
    rw [if_neg (by omega), if_pos (by simpa using h 0 (by simp))]
    exact crF_all r (k + 1) _ (fun i hi => by have := h (i + 1) (by simpa using hi); rwa [show k + 1 + i = k + (i + 1) by omega])
/-- One in which none is kept, what was durable. -/
theorem crF_none {ta : Int} : ∀ (ps : List PP) (k : Nat) (fs : List PF), crF (-1) ta [] k ps fs = fs
  | [], k, fs => rfl
  | p :: r, k, fs => by
    simp only [crF, crS]
    rw [if_neg (by omega), if_neg (by simp)]
    exact crF_none r (k + 1) fs
end Go.Proofs.Yteienboknicpjaa
namespace Go.Proofs.Yteienboknicpjaa
open Go.RowKit Go.Maps
set_option linter.unusedVariables false
set_option maxRecDepth 100000

theorem files_byte {w : World} {A B : Nat} {a : Option Addr} {n c : Nat} {fs : List PF} (h : FilesAt w A B a n c fs) : ByteF fs := by
  obtain ⟨h1, h2, h3, h4⟩ := h
  intro nm x hx
  unfold dataN at hx
  by_cases hf : findN fs nm < fs.length
  · rw [if_pos hf] at hx
    obtain ⟨ab, aoff, _, _, hcb⟩ := h4 (by omega)
    obtain ⟨p1, p2, pa, pn, pc, p3, p4⟩ := hcb (findN fs nm) (by omega)
    exact p4.2.2.2.1 x hx
  · rw [if_neg hf] at hx; cases hx
set_option maxHeartbeats 3200000 in
theorem see_any (a : Option Addr) (n c : Nat) (fs : List PF) (b : Option Addr) (m d : Nat) (ps : List PP) (cp fu : Int) (de : Bool) (w : World) (A B : Nat) (hB : B ≤ w.heap.size) (hF : FilesAt w A B a n c fs) (hP : PendsAt w A B b m d ps)
    (hn : n ≤ 12) (hm : m ≤ 1000) (hcp : cp ≤ 1000) (htot : totalI fs ≤ cp) (hca : cacheS cp ps fs = true) (hI : Inv fs) :
    Calls Try.prog 39 #[.agg #[.slice a n c, .slice b m d, .int .i64 cp, .int .i64 fu, .bool de]] w fun e w' => ∃ (mb q : Nat) (D : DataW Unit), e = .returned (.map (some mb)) ∧ w.heap.size ≤ mb ∧ MapS w' mb q D ∧ q ≤ 2097152 ∧ RepS D (pageOf (lastF ps fs)) ∧ ByteF (lastF ps fs) ∧ Inv (lastF ps fs) ∧ Below w.heap.size w w' := by
  have hb0 : Below w.heap.size w (w.alloc (.cells #[.slice a n c, .slice b m d, .int .i64 cp, .int .i64 fu, .bool de] 26)) := (Below.refl _ _).alloc (Nat.le_refl _) _
  have k0 := heap_alloc_new w (.cells #[.slice a n c, .slice b m d, .int .i64 cp, .int .i64 fu, .bool de] 26)
  have hsm := small_of_total (fs := fs) (by omega)
  have hfl := hF.1
  have HBY : Hid (ByteF fs) := files_byte hF
  have HI : Hid (Inv fs) := hI
  have HCA : Hid (cacheS cp ps fs = true) := hca
  go_enter Try.func39, Try.ntmps39
  go_wp2_with fail
  refine (durable_any a n c fs b m d ps cp fu de _ A B (by simp; omega) (hF.below (hb0.mono hB)) (by omega) hI hn (fun j hj => Nat.le_trans (hsm j (by omega)) (by omega))).mono ?_
  rintro e w1 ⟨mb, q1, D1, rfl, hmb1, hM1, hq1, hR1, hb1⟩
  have hmb : w.heap.size < mb := by simp at hmb1; omega
  have F1 : Hid (Below w.heap.size w w1) := hb0.trans (hb1.mono (by simp))
  have hz1 : w.heap.size < w1.heap.size := by have := hb1.size; simp at this; omega
  have hbx1 : w1.heap[w.heap.size]? = some (.cells #[.slice a n c, .slice b m d, .int .i64 cp, .int .i64 fu, .bool de] 26) := (hb1.block _ (by simp)).trans k0
  have HBX : Hid (w1.heap[w.heap.size]? = some (.cells #[.slice a n c, .slice b m d, .int .i64 cp, .int .i64 fu, .bool de] 26)) := hbx1
  have HM1 : Hid (MapS w1 mb q1 D1) := hM1
  have HR1 : Hid (RepS D1 (pageOf fs)) := hR1
  have HPL : Hid (ps.length = m) := hP.1
  have HP : Hid (∀ W, Below w.heap.size w W → PendsAt W A B b m d ps) := fun W hW => hP.below (hW.mono hB)
  have pnc := hP.2.1
  have pc0 := hP.2.2.1
  unfold maxLen at pc0
  obtain ⟨y0, y1, y2⟩ := box_cells hbx1
  clear hF hca hI hb0 k0 hb1 hbx1 hM1 hR1 hsm hmb1 hP
  go_wp2
  clear y0 y1 y2
  go_loopw [5, 11] (fun _ i wr => ∃ (k q : Nat) (fk : List PF) (D : DataW Unit), k ≤ m ∧ i = .int .i64 k ∧ q ≤ 1048576 + k * 1001 ∧ Hid (MapS wr mb q D) ∧ Hid (RepS D (pageOf fk)) ∧ Hid (Inv fk) ∧ Hid (ByteF fk) ∧ Hid (totalI fk ≤ cp) ∧ Hid (cacheS cp (ps.drop k) fk = true) ∧ Hid (lastF ps fs = lastF (ps.drop k) fk) ∧ Hid (Below w.heap.size w wr)) (fun _ i _ => m - (intOf i).toNat)
  case atStart => exact ⟨0, q1, fs, D1, Nat.zero_le _, rfl, by omega, HM1, HR1, HI, HBY, htot, HCA, rfl, F1⟩
  case round =>
    clear F1 hz1 HBX HM1 HR1 HI HBY HCA
    obtain ⟨k, q, fk, D, hk, rfl, hq, HM, HR, HI, HBY, HT, HCA, HLA, HBE⟩ := hrel
    by_cases hlt : k < m
    · obtain ⟨_, _, _, pcell⟩ := HP.out wr HBE.out
      obtain ⟨pb, poff, rfl, hpb, hpc⟩ := pcell (by omega)
      have e1 := hpc k hlt
      have hpl := HPL.out
      have hdr : ps.drop k = ps.getD k (ByteArray.empty, 0, []) :: ps.drop (k + 1) := by
        rw [List.drop_eq_getElem_cons (by omega)]; simp [List.getD, List.getElem?_eq_getElem (show k < ps.length by omega)]
      obtain ⟨p, hp⟩ : ∃ p, p = ps.getD k (ByteArray.empty, 0, []) := ⟨_, rfl⟩
      rw [← hp] at e1 hdr
      clear hp
      obtain ⟨nm, pq, pd⟩ := p
      obtain ⟨g1, g2, g3, g4, da, dn, dc, g5, g6⟩ := e1
      simp only at g1 g2 g3 g4 g6
      have hca' := HCA.out
      rw [hdr] at hca'
      simp only [cacheS, Bool.and_eq_true, pendOk, fitsB, decide_eq_true_eq, beq_iff_eq] at hca'
      obtain ⟨⟨⟨t1, t2⟩, t3, t4⟩, ⟨t5, t6⟩, t7⟩ := hca'
      obtain ⟨pgN, rfl⟩ := Int.eq_ofNat_of_zero_le t3
      have hst : stepP fk (nm, (pgN : Int), pd) = doP fk nm pgN pd := by simp [stepP]
      rw [hst] at t5 t6 t7
      have L1 : Hid (lastF ps fs = lastF (ps.drop (k + 1)) (doP fk nm pgN pd)) := by show _ = _; rw [HLA.out, hdr]; simp only [lastF]; rw [hst]
      have hle := lenI_le_total fk nm
      have htk := HT.out
      have hpg : pgN ≤ 1000 := by omega
      have hdn : dn = 128 := by rw [← g6.1]; exact t2
      subst hdn
      have T6 : Hid (totalI (doP fk nm pgN pd) ≤ cp) := t6
      have T7 : Hid (cacheS cp (ps.drop (k + 1)) (doP fk nm pgN pd) = true) := t7
      have T4 : Hid ((pgN : Int) ≤ lenI fk nm) := t4
      have T2 : Hid (pd.length = 128) := t2
      have hbs := HBE.out.size
      have hbk : pb < wr.heap.size := by omega
      have HG6 : Hid (BytesAt wr A B da 128 dc pd) := g6
      have I1 : Hid (Inv (doP fk nm pgN pd)) := doP_inv HI.out
      have B1 : Hid (ByteF (doP fk nm pgN pd)) := HBY.out.do HI.out g6.2.2.2.1
      clear hpc pcell g6 t5 t6 t7 hdr hst hle htk t1 t2 t3 t4 hpl
      have hal : Below wr.heap.size wr (wr.alloc (.cells #[.string nm, .int .i64 (pgN : Int), .slice da 128 dc] 54)) := (Below.refl _ _).alloc (Nat.le_refl _) _
      go_wp2_with fail
      refine (write_any nm g2 pgN 128 (lenI fk nm).toNat mb q da dc pd D (pageOf fk) _ A B (by simp; omega) (HG6.out.below (hal.mono (by omega))) (.inr (by omega)) (Nat.le_refl _) (by omega) (by omega) (World.ownsMap.alloc HM.out _) HR.out (fun t => page_there HI.out nm t) (fun t bs hb => page_byte HBY.out nm t bs hb)).mono ?_
      rintro e w3 ⟨rfl, q3, D3, hq3, hM3, hR3, hF3⟩
      have R3 : Hid (RepS D3 (pageOf (doP fk nm pgN pd))) := hR3.congr fun nm' t => do_write HI.out T4.out T2.out nm' t
      have M3 : Hid (MapS w3 mb q3 D3) := hM3
      have E3 : Hid (Below w.heap.size w w3) := (HBE.out.trans (hal.mono (by omega))).trans (hF3.below (by simp; omega) (fun g e => by omega))
      clear hM3 hR3 hF3 hal
      go_wp2
      go_roundw
      case rel => exact ⟨k + 1, q3, doP fk nm pgN pd, D3, by omega, by go_num, by omega, M3, R3, I1, B1, T6, T7, L1, E3⟩
      case measure => simp [intOf]; omega
    · have HL : Hid (lastF ps fs = fk) := by show _ = _; rw [HLA.out, List.drop_eq_nil_of_le (by have := HPL.out; omega)]; rfl
      go_wp2
      go_ret
      exact ⟨mb, q, D, rfl, by omega, HM.out, by omega, by rw [HL.out]; exact HR.out, by rw [HL.out]; exact HBY.out, by rw [HL.out]; exact HI.out, HBE.out⟩
end Go.Proofs.Yteienboknicpjaa
