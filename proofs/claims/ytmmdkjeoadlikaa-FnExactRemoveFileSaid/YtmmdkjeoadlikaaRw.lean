import Derived.Test.YtmmdkjeoadlikaaWl
import Derived.Test.YtmmdkjeoadlikaaCSee
namespace Go.Proofs.Ytmmdkjeoadlikaa
open Go.RowKit Go.Maps
set_option linter.unusedVariables false
set_option maxRecDepth 100000

/-- A map's bound may be its size. -/
theorem MapAt.tight {w : World} {mb k : Nat} {D : DataW Unit} (h : MapAt w mb k D) : MapAt w mb (Maps.size D) D := by
  obtain ⟨es, clock, hb, F, _, rfl⟩ := h
  exact ⟨es, clock, hb, F, by simp [Maps.size, length_sorted], rfl⟩

/-- What the program says to a write: 0, 1 or 2. -/
def rwI (fs : List PF) (ps : List PP) (cp fu : Int) (de : Bool) (nm : ByteArray) (pg : Int) (bs : List Int) : Int :=
  if implV fs ps cp fu = true ∧ de = false ∧ nameB nm = true ∧ bs.length = 128 then
    (if pg < 0 ∨ lenI (lastF ps fs) nm < pg then 1 else if ps.length = 1000 ∨ 12 < (doP (lastF ps fs) nm pg.toNat bs).length ∨ cp < totalI (doP (lastF ps fs) nm pg.toNat bs) then 2 else 0)
  else 1
theorem inv_lastW : ∀ (ps : List PP) (fs : List PF), Inv fs → Inv (lastF ps fs)
  | [], _, h => h
  | p :: r, fs, h => by
    simp only [lastF]
    exact inv_lastW r _ (doP_inv h)
theorem boxW5 {wr : World} {N : Nat} {v0 v1 v2 v3 v4 : Value} {t : TypeId} (h : wr.heap[N]? = some (.cells #[v0, v1, v2, v3, v4] t)) : wr.cell? ⟨N, 0, none⟩ = some v0 ∧ wr.cell? ⟨N, 1, none⟩ = some v1 ∧ wr.cell? ⟨N, 2, none⟩ = some v2 ∧ wr.cell? ⟨N, 3, none⟩ = some v3 ∧ wr.cell? ⟨N, 4, none⟩ = some v4 := by
  refine ⟨?_, ?_, ?_, ?_, ?_⟩
  · rw [cell_of_row wr N 0 _ _ _ h]; rfl
  · rw [cell_of_row wr N 1 _ _ _ h]; rfl
  · rw [cell_of_row wr N 2 _ _ _ h]; rfl
  · rw [cell_of_row wr N 3 _ _ _ h]; rfl
  · rw [cell_of_row wr N 4 _ _ _ h]; rfl
theorem cacheI_lastW {cp : Int} : ∀ (ps : List PP) (fs : List PF), cacheI cp ps fs = true → fitsB cp (lastF ps fs) = true
  | [], fs, h => by simpa [cacheI, lastF] using h
  | p :: r, fs, h => by
    simp only [cacheI, Bool.and_eq_true] at h
    simp only [lastF]
    exact cacheI_lastW r _ h.2
/-- Where the disk is good, what is seen fits. -/
theorem specV_partsW {fs : List PF} {ps : List PP} {cp fu : Int} (h : true = implV fs ps cp fu) : cp ≤ 1000 ∧ (lastF ps fs).length ≤ 12 ∧ totalI (lastF ps fs) ≤ cp := by
  simp only [implV, Bool.true_eq, Bool.and_eq_true, decide_eq_true_eq] at h
  have h2 := cacheI_lastW ps fs h.2
  simp only [fitsB, Bool.and_eq_true, decide_eq_true_eq] at h2
  exact ⟨h.1.1.1.1.2.1, h2.1, h2.2⟩
theorem retW {x y : Int} (h : x = y) : (Ending.returned (.int .i64 x)) = .returned (.int .i64 y) := by rw [h]
set_option maxHeartbeats 1600000 in
theorem refuseWrite_any (a : Option Addr) (n c : Nat) (fs : List PF) (b : Option Addr) (m d : Nat) (ps : List PP) (cp fu : Int) (de : Bool) (nm : ByteArray) (pg : Int) (pa : Option Addr) (pn pc : Nat) (bs : List Int) (w : World) (A B : Nat) (hB : B ≤ w.heap.size) (hF : FilesAt w A B a n c fs) (hP : PendsAt w A B b m d ps) (hs : nm.size ≤ maxLen) (hbl : bs.length = pn)
    (hall : ∀ j, j < n → (fs.getD j (ByteArray.empty, [])).2.length ≤ 1048576) :
    Calls Try.prog 50 #[.agg #[.slice a n c, .slice b m d, .int .i64 cp, .int .i64 fu, .bool de], .string nm, .int .i64 pg, .slice pa pn pc] w fun e w' => e = .returned (.int .i64 (rwI fs ps cp fu de nm pg bs)) ∧ Below w.heap.size w w' := by
  have hb0 : Below w.heap.size w (w.alloc (.cells #[.slice a n c, .slice b m d, .int .i64 cp, .int .i64 fu, .bool de] 32)) := (Below.refl _ _).alloc (Nat.le_refl _) _
  have hml : ps.length = m := hP.1
  have HBL : Hid (bs.length = pn) := hbl
  clear hbl
  go_enter Try.func50, Try.ntmps50
  go_wp2_with fail
  refine (countSeen_any _ _ _ fs _ _ _ ps _ _ _ _ A B (by simp; omega) (hF.below (hb0.mono hB)) (hP.below (hb0.mono hB)) hall).mono ?_
  rintro e w1 ⟨r, t, ok, rfl, hok, hb1, hyes⟩
  have hg1 := hb0.trans (hb1.mono (by simp))
  have hz1 : w.heap.size + 1 ≤ w1.heap.size := by simpa using hb1.size
  have hbx1 : Hid (w1.heap[w.heap.size]? = some (.cells #[.slice a n c, .slice b m d, .int .i64 cp, .int .i64 fu, .bool de] 32)) := (hb1.block _ (by simp)).trans (heap_alloc_new w _)
  have HOK : Hid (ok = implV fs ps cp fu) := hok
  have HY : Hid (ok = true → t = totalI (lastF ps fs) ∧ ∃ mb k D, r = some mb ∧ (w.alloc (.cells #[.slice a n c, .slice b m d, .int .i64 cp, .int .i64 fu, .bool de] 32)).heap.size ≤ mb ∧ MapAt w1 mb k D ∧ Rep D (lastF ps fs)) := hyes
  have HML : Hid (ps.length = m) := hml
  clear hok hyes hml
  have k0 := (Below.heap_alloc w1 (.cells #[.map r, .int .i64 t] 99) w.heap.size hz1).trans hbx1.out
  obtain ⟨x0, x1, x2, x3, x4⟩ := boxW5 k0
  have hg2 := hg1.alloc (o := .cells #[.map r, .int .i64 t] 99) (by omega)
  cases ok with
  | false =>
    have HR : Hid (rwI fs ps cp fu de nm pg bs = 1) := by show _ = _; unfold rwI; rw [← HOK.out]; simp
    clear k0 HOK HY
    go_wp2_with fail
    go_ret
    exact ⟨retW HR.out.symm, hg2⟩
  | true =>
    obtain ⟨ht, mb, k, D, rfl, hmb, hM0, hR⟩ := HY.out rfl
    have HT : Hid (t = totalI (lastF ps fs)) := ht
    clear ht
    have hM1 := hM0.tight
    rw [hR.size_] at hM1
    clear hM0
    have hmz : w.heap.size + 1 ≤ mb := by simpa using hmb
    clear hmb
    have hI : Inv (lastF ps fs) := by
      refine inv_lastW _ _ (inv_all ?_)
      have h2 := HOK.out
      simp only [implV, Bool.true_eq, Bool.and_eq_true] at h2
      exact h2.1.1.2
    have hl0 := lenI_le_total (lastF ps fs) nm
    have htb := totalI_bd (lastF ps fs)
    have hM := hM1.keep (Below.heap_alloc w1 (.cells #[.map (some mb), .int .i64 t] 99) _ hM1.lt)
    have hmlt := hM1.lt
    have hlk := look_at hM hR hs 0
    have hlk' : (Instr.lookup 97 (.map (some mb)) (.string nm) false).run Try.prog (w1.alloc (.cells #[.map (some mb), .int .i64 t] 99)) = .ok (.int .i64 (lenI (lastF ps fs) nm)) (w1.alloc (.cells #[.map (some mb), .int .i64 t] 99)) := hlk
    have KC : Hid ((w1.alloc (.cells #[.map (some mb), .int .i64 t] 99)).heap[w1.heap.size]? = some (.cells #[.map (some mb), .int .i64 t] 99)) := heap_alloc_new w1 _
    have HK0 : Hid ((w1.alloc (.cells #[.map (some mb), .int .i64 t] 99)).heap[w.heap.size]? = some (.cells #[.slice a n c, .slice b m d, .int .i64 cp, .int .i64 fu, .bool de] 32)) := k0
    clear HY hlk k0
    by_cases t0 : de = false ∧ nameB nm = true ∧ pn = 128
    · obtain ⟨rfl, tn, rfl⟩ := t0
      have HN : Hid (nameB nm = true) := tn
      have hwS := (specV_partsW (HOK.out))
      by_cases t1 : pg < 0
      · have HR : Hid (rwI fs ps cp fu false nm pg bs = 1) := by show _ = _; unfold rwI; rw [if_pos ⟨HOK.out.symm, rfl, tn, HBL.out⟩, if_pos (.inl t1)]
        have s1 : decide (pg < 0) = true := by simp; omega
        clear tn hlk' hM hM1 hR hI t1
        go_wp2_with fail
        refine (isName_any _ _ hs).mono ?_
        rintro e w2 ⟨rfl, rfl⟩
        rw [HN.out]
        go_wp2_with fail
        go_ret
        exact ⟨retW HR.out.symm, hg2⟩
      · have s1 : decide (pg < 0) = false := by simp; omega
        by_cases t2 : lenI (lastF ps fs) nm < pg
        · have HR : Hid (rwI fs ps cp fu false nm pg bs = 1) := by show _ = _; unfold rwI; rw [if_pos ⟨HOK.out.symm, rfl, tn, HBL.out⟩, if_pos (.inr t2)]
          have s2 : decide (lenI (lastF ps fs) nm < pg) = true := by simp; omega
          clear tn hM hM1 hR hI t1 t2
          generalize lenI (lastF ps fs) nm = ln at *
          go_wp2_with fail
          refine (isName_any _ _ hs).mono ?_
          rintro e w2 ⟨rfl, rfl⟩
          rw [HN.out]
          go_wp2_with fail
          go_ret
          exact ⟨retW HR.out.symm, hg2⟩
        · have s2 : decide (lenI (lastF ps fs) nm < pg) = false := by simp; omega
          obtain ⟨pgN, rfl⟩ := Int.eq_ofNat_of_zero_le (show 0 ≤ pg by omega)
          have HR : Hid (rwI fs ps cp fu false nm (pgN : Int) bs = if ps.length = 1000 ∨ 12 < (doP (lastF ps fs) nm pgN bs).length ∨ cp < totalI (doP (lastF ps fs) nm pgN bs) then 2 else 0) := by show _ = _; unfold rwI; rw [if_pos ⟨HOK.out.symm, rfl, tn, HBL.out⟩, if_neg (by omega), Int.toNat_natCast]
          have htot := doP_total2 (bs := bs) hI (show (pgN : Int) ≤ lenI (lastF ps fs) nm by omega)
          have hrp := Rep.pend (bs := bs) hR hI (show (pgN : Int) ≤ lenI (lastF ps fs) nm by omega)
          have HAT : Hid (D.atKey (keyL nm) (.lit (.int .i64 0)) = .lit (.int .i64 (lenI (lastF ps fs) nm))) := hR.at_ nm
          rw [HML.out] at HR
          by_cases t3 : (pgN : Int) = lenI (lastF ps fs) nm
          · have s3 : ((pgN : Int) == lenI (lastF ps fs) nm) = true := by simp [t3]
            rw [if_pos t3, ← HT.out] at htot
            have HTO : Hid (totalI (doP (lastF ps fs) nm pgN bs) = t + 1) := htot
            have HRP : Hid (Rep (D.put (keyL nm) (.lit (.int .i64 (lenI (lastF ps fs) nm + 1)))) (doP (lastF ps fs) nm pgN bs)) := hrp.1 t3
            rw [← HT.out] at hwS htb hl0
            clear hrp htot t3 hI hR t1 t2 tn HT
            generalize doP (lastF ps fs) nm pgN bs = G at *
            generalize lenI (lastF ps fs) nm = ln at *
            go_wp2_with fail
            refine (isName_any _ _ hs).mono ?_
            rintro e w2 ⟨rfl, rfl⟩
            rw [HN.out]
            go_wp2_with fail
            refine (add_any nm 1 ln t w1.heap.size mb _ D _ KC.out hM (by omega) HAT.out hs (by omega) (by omega) (by omega) (by omega) (by omega) (by omega)).mono ?_
            rintro e w3 ⟨rfl, hc3, hm3, ht3⟩
            have hB3 : Below w.heap.size w w3 := hg2.trans (ht3.below (by simp; omega) (by omega) (by omega))
            have k3 := (ht3.block w.heap.size (by simp; omega) (by omega) (by omega)).trans HK0.out
            have hlen := hm3.len Try.underlying97 3
            rw [HRP.out.size_] at hlen
            clear x0 x1 x2 x3 x4 hlk'
            obtain ⟨x0, x1, x2, x3, x4⟩ := boxW5 k3
            obtain ⟨⟨q0, q1⟩, _, _⟩ := two_cells hc3
            clear hc3 k3 hm3 ht3 hM hM1
            rw [HTO.out] at HR
            generalize hGl : G.length = gl at *
            have HGL : Hid (G.length = gl) := hGl
            clear hGl
            by_cases t5 : m = 1000
            · have u1 : ((m : Int) == 1000) = true := by simp; omega
              rw [if_pos (.inl t5)] at HR
              clear t5
              go_wp2_with fail
              go_ret
              exact ⟨retW HR.out.symm, hB3⟩
            · have u1 : ((m : Int) == 1000) = false := by simp; omega
              by_cases t6 : 12 < gl
              · have u2 : decide ((12 : Int) < (gl : Int)) = true := by simp; omega
                rw [if_pos (.inr (.inl t6))] at HR
                clear t5 t6
                go_wp2_with fail
                go_ret
                exact ⟨retW HR.out.symm, hB3⟩
              · have u2 : decide ((12 : Int) < (gl : Int)) = false := by simp; omega
                by_cases t7 : cp < (t + 1)
                · have u3 : decide (cp < (t + 1)) = true := by simp; omega
                  rw [if_pos (.inr (.inr t7))] at HR
                  clear t5 t6 t7
                  go_wp2_with fail
                  go_ret
                  exact ⟨retW HR.out.symm, hB3⟩
                · have u3 : decide (cp < (t + 1)) = false := by simp; omega
                  rw [if_neg (by omega)] at HR
                  clear t5 t6 t7
                  go_wp2_with fail
                  go_ret
                  exact ⟨retW HR.out.symm, hB3⟩
          · have s3 : ((pgN : Int) == lenI (lastF ps fs) nm) = false := by simp [t3]
            rw [if_neg t3, Int.add_zero, ← HT.out] at htot
            have HTO : Hid (totalI (doP (lastF ps fs) nm pgN bs) = t) := htot
            have HRP := hrp.2 t3
            have hB3 := hg2
            have hM' : (w1.alloc (.cells #[.map (some mb), .int .i64 t] 99)).ownsMap Try.prog 9 (plainElem Try.prog 2) mb _ D := hM
            have hlen := hM'.len Try.underlying97 3
            rw [HRP.size_] at hlen
            rw [HTO.out] at HR
            clear hrp htot hI hR t1 t2 tn HT HRP hM hM' hM1 HAT HTO
            generalize doP (lastF ps fs) nm pgN bs = G at *
            generalize lenI (lastF ps fs) nm = ln at *
            generalize hGl : G.length = gl at *
            have HGL : Hid (G.length = gl) := hGl
            clear hGl t3
            by_cases t5 : m = 1000
            · have u1 : ((m : Int) == 1000) = true := by simp; omega
              rw [if_pos (.inl t5)] at HR
              clear t5
              go_wp2_with fail
              refine (isName_any _ _ hs).mono ?_
              rintro e w2 ⟨rfl, rfl⟩
              rw [HN.out]
              go_wp2_with fail
              go_ret
              exact ⟨retW HR.out.symm, hB3⟩
            · have u1 : ((m : Int) == 1000) = false := by simp; omega
              by_cases t6 : 12 < gl
              · have u2 : decide ((12 : Int) < (gl : Int)) = true := by simp; omega
                rw [if_pos (.inr (.inl t6))] at HR
                clear t5 t6
                go_wp2_with fail
                refine (isName_any _ _ hs).mono ?_
                rintro e w2 ⟨rfl, rfl⟩
                rw [HN.out]
                go_wp2_with fail
                go_ret
                exact ⟨retW HR.out.symm, hB3⟩
              · have u2 : decide ((12 : Int) < (gl : Int)) = false := by simp; omega
                by_cases t7 : cp < t
                · have u3 : decide (cp < t) = true := by simp; omega
                  rw [if_pos (.inr (.inr t7))] at HR
                  clear t5 t6 t7
                  go_wp2_with fail
                  refine (isName_any _ _ hs).mono ?_
                  rintro e w2 ⟨rfl, rfl⟩
                  rw [HN.out]
                  go_wp2_with fail
                  go_ret
                  exact ⟨retW HR.out.symm, hB3⟩
                · have u3 : decide (cp < t) = false := by simp; omega
                  rw [if_neg (by omega)] at HR
                  clear t5 t6 t7
                  go_wp2_with fail
                  refine (isName_any _ _ hs).mono ?_
                  rintro e w2 ⟨rfl, rfl⟩
                  rw [HN.out]
                  go_wp2_with fail
                  go_ret
                  exact ⟨retW HR.out.symm, hB3⟩
    · have HR : Hid (rwI fs ps cp fu de nm pg bs = 1) := by show _ = _; unfold rwI; rw [HBL.out, if_neg (fun h => t0 ⟨h.2.1, h.2.2⟩)]
      have hT : de = true ∨ nameB nm = false ∨ pn ≠ 128 := by
        cases de with
        | true => exact .inl rfl
        | false => cases hn : nameB nm with
          | false => exact .inr (.inl rfl)
          | true => exact .inr (.inr (fun e => t0 ⟨rfl, hn, e⟩))
      clear t0 hlk' hM hM1 hR hI hl0 HT htb KC HK0 HOK
      rcases hT with rfl | hn | hp
      · go_wp2_with fail
        go_ret
        exact ⟨retW HR.out.symm, hg2⟩
      · have HN : Hid (nameB nm = false) := hn
        clear hn
        cases de with
        | true =>
          go_wp2_with fail
          go_ret
          exact ⟨retW HR.out.symm, hg2⟩
        | false =>
          go_wp2_with fail
          refine (isName_any _ _ hs).mono ?_
          rintro e w2 ⟨rfl, rfl⟩
          rw [HN.out]
          go_wp2_with fail
          go_ret
          exact ⟨retW HR.out.symm, hg2⟩
      · have s1 : ((pn : Int) == 128) = false := by simp; omega
        cases de with
        | true =>
          go_wp2_with fail
          go_ret
          exact ⟨retW HR.out.symm, hg2⟩
        | false =>
          go_wp2_with fail
          refine (isName_any _ _ hs).mono ?_
          rintro e w2 ⟨rfl, rfl⟩
          cases hn : nameB nm
          · go_wp2_with fail
            go_ret
            exact ⟨retW HR.out.symm, hg2⟩
          · go_wp2_with fail
            go_ret
            exact ⟨retW HR.out.symm, hg2⟩
end Go.Proofs.Ytmmdkjeoadlikaa
