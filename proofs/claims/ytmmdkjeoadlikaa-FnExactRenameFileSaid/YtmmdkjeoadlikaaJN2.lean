import Derived.Test.YtmmdkjeoadlikaaTo
import Derived.Test.YtmmdkjeoadlikaaEq
import Derived.Test.YtmmdkjeoadlikaaWs
import Derived.Test.YtmmdkjeoadlikaaTd
import Derived.Test.YtmmdkjeoadlikaaTe
import Derived.Test.YtmmdkjeoadlikaaSz
import Derived.Test.YtmmdkjeoadlikaaWl
import Derived.Test.YtmmdkjeoadlikaaCPl
import Derived.Test.YtmmdkjeoadlikaaCSee
import Derived.Test.YtmmdkjeoadlikaaSeen
import Derived.Test.YtmmdkjeoadlikaaJR1
import Derived.Sort.Grow
import Derived.Sort.Walk0
import Derived.Shelf.GgSortFunc.InsertionK
namespace Go.Proofs.Ytmmdkjeoadlikaa
open Go.RowKit Go.Maps
set_option linter.unusedVariables false
set_option maxRecDepth 100000

theorem box5' {wr : World} {N : Nat} {v0 v1 v2 v3 v4 : Value} {t : TypeId} (h : wr.heap[N]? = some (.cells #[v0, v1, v2, v3, v4] t)) : wr.cell? ⟨N, 0, none⟩ = some v0 ∧ wr.cell? ⟨N, 1, none⟩ = some v1 ∧ wr.cell? ⟨N, 2, none⟩ = some v2 ∧ wr.cell? ⟨N, 3, none⟩ = some v3 ∧ wr.cell? ⟨N, 4, none⟩ = some v4 := by
  refine ⟨?_, ?_, ?_, ?_, ?_⟩
  · rw [cell_of_row wr N 0 _ _ _ h]; rfl
  · rw [cell_of_row wr N 1 _ _ _ h]; rfl
  · rw [cell_of_row wr N 2 _ _ _ h]; rfl
  · rw [cell_of_row wr N 3 _ _ _ h]; rfl
  · rw [cell_of_row wr N 4 _ _ _ h]; rfl

/-- How many pages a file has as seen, or -1. -/
def pageC (fs : List PF) (ps : List PP) (cp fu : Int) (nm : ByteArray) : Int :=
  if implV fs ps cp fu = true then (if findN (lastF ps fs) nm < (lastF ps fs).length then lenI (lastF ps fs) nm else -1) else -1
theorem inv_last : ∀ (ps : List PP) (fs : List PF), Inv fs → Inv (lastF ps fs)
  | [], _, h => h
  | p :: r, fs, h => by
    simp only [lastF]
    exact inv_last r _ (doP_inv h)
theorem specV_parts {fs : List PF} {ps : List PP} {cp fu : Int} (h : specV fs ps cp fu = true) : fs.length ≤ 12 ∧ cp ≤ 1000 ∧ totalI fs ≤ cp ∧ cacheS cp ps fs = true ∧ filesOk fs = true := by
  simp only [specV, headB, Bool.and_eq_true, decide_eq_true_eq] at h
  obtain ⟨⟨⟨⟨⟨⟨a1, a2⟩, a3⟩, a4⟩, a5⟩, a6⟩, a7⟩ := h
  exact ⟨a1, a2.2, a6, a7, a5⟩

set_option maxHeartbeats 1000000 in
theorem implPageCount_any (a : Option Addr) (n c : Nat) (fs : List PF) (b : Option Addr) (m d : Nat) (ps : List PP) (cp fu : Int) (de : Bool) (nm : ByteArray) (w : World) (A B : Nat) (hB : B ≤ w.heap.size) (hF : FilesAt w A B a n c fs) (hP : PendsAt w A B b m d ps) (hs : nm.size ≤ maxLen)
    (hall : ∀ j, j < n → (fs.getD j (ByteArray.empty, [])).2.length ≤ 1048576) :
    Calls Try.prog 79 #[.agg #[.slice a n c, .slice b m d, .int .i64 cp, .int .i64 fu, .bool de], .string nm] w fun e w' => e = .returned (.int .i64 (pageC fs ps cp fu nm)) ∧ Below w.heap.size w w' := by
  have hb0 : Below w.heap.size w (w.alloc (.cells #[.slice a n c, .slice b m d, .int .i64 cp, .int .i64 fu, .bool de] 32)) := (Below.refl _ _).alloc (Nat.le_refl _) _
  go_enter Try.func79, Try.ntmps79
  go_wp2_with fail
  refine (countSeen_any _ _ _ fs _ _ _ ps _ _ _ _ A B (by simp; omega) (hF.below (hb0.mono hB)) (hP.below (hb0.mono hB)) hall).mono ?_
  rintro e w1 ⟨r, t, ok, rfl, hok, hb1, hyes⟩
  have hg1 := hb0.trans (hb1.mono (by simp))
  have hz1 : w.heap.size + 1 ≤ w1.heap.size := by simpa using hb1.size
  cases ok with
  | false =>
    have HR : Hid (pageC fs ps cp fu nm = -1) := by show _ = _; unfold pageC; rw [← hok]; simp
    clear hok hyes
    go_wp2_with fail
    go_ret
    exact ⟨ret_int HR.out.symm, hg1.alloc (by omega) _⟩
  | true =>
    obtain ⟨ht, mb, k, D, rfl, hmb, hM, hR⟩ := hyes rfl
    have hI : Inv (lastF ps fs) := by
      refine inv_last _ _ (inv_all ?_)
      have h2 := hok
      simp only [implV, Bool.true_eq, Bool.and_eq_true] at h2
      exact h2.1.1.2
    have hl0 := (lenI_le_total (lastF ps fs) nm).1
    have hlk := look_at (w := w1.alloc (.cells #[.map (some mb), .int .i64 t] 99)) (hM.keep (Below.heap_alloc _ _ _ hM.lt)) hR hs 0
    have hlk' : (Instr.lookup 97 (.map (some mb)) (.string nm) false).run Try.prog (w1.alloc (.cells #[.map (some mb), .int .i64 t] 99)) = .ok (.int .i64 (lenI (lastF ps fs) nm)) (w1.alloc (.cells #[.map (some mb), .int .i64 t] 99)) := hlk
    have HPC : Hid (pageC fs ps cp fu nm = if lenI (lastF ps fs) nm = 0 then -1 else lenI (lastF ps fs) nm) := by
      show _ = _
      unfold pageC
      rw [if_pos hok.symm]
      by_cases hf : findN (lastF ps fs) nm < (lastF ps fs).length
      · have := lenI_pos hI hf
        rw [if_pos hf, if_neg (by omega)]
      · rw [if_neg hf, lenI_none hf]; rfl
    clear hlk hok hyes hI hM hR ht
    generalize lenI (lastF ps fs) nm = ln at *
    by_cases t1 : ln = 0
    · have s1 : (ln == 0) = true := by simp [t1]
      have HR : Hid (pageC fs ps cp fu nm = -1) := by show _ = _; rw [HPC.out, if_pos t1]
      clear t1
      go_wp2_with fail
      go_ret
      exact ⟨ret_int HR.out.symm, hg1.alloc (by omega) _⟩
    · have s1 : (ln == 0) = false := by simp [t1]
      have HR : Hid (pageC fs ps cp fu nm = ln) := by show _ = _; rw [HPC.out, if_neg t1]
      go_wp2_with fail
      go_ret
      exact ⟨ret_int HR.out.symm, hg1.alloc (by omega) _⟩
end Go.Proofs.Ytmmdkjeoadlikaa
namespace Go.Proofs.Ytmmdkjeoadlikaa
open Go.RowKit Go.Maps
set_option linter.unusedVariables false
set_option maxRecDepth 100000

/-- What the program says to a step on a file: 0 or 1. -/
def rfI (fs : List PF) (ps : List PP) (cp fu : Int) (de : Bool) (nm : ByteArray) : Int :=
  if de = false ∧ ps.length = 0 ∧ implV fs ps cp fu = true ∧ findN fs nm < fs.length then 0 else 1
theorem pageC_nil {fs : List PF} {ps : List PP} {cp fu : Int} {nm : ByteArray} (h : ps.length = 0) : pageC fs ps cp fu nm < 0 ↔ ¬ (implV fs ps cp fu = true ∧ findN fs nm < fs.length) := by
  obtain rfl : ps = [] := List.length_eq_zero_iff.1 h
  show (if implV fs [] cp fu = true then (if findN fs nm < fs.length then lenI fs nm else -1) else -1) < 0 ↔ _
  have := (lenI_le_total fs nm).1
  by_cases h1 : implV fs [] cp fu = true
  · by_cases h2 : findN fs nm < fs.length
    · rw [if_pos h1, if_pos h2]; simp [h1, h2]; omega
    · rw [if_pos h1, if_neg h2]; simp [h2]
  · rw [if_neg h1]; simp [h1]
set_option maxHeartbeats 800000 in
theorem refuseFile_any (a : Option Addr) (n c : Nat) (fs : List PF) (b : Option Addr) (m d : Nat) (ps : List PP) (cp fu : Int) (de : Bool) (nm : ByteArray) (w : World) (A B : Nat) (hB : B ≤ w.heap.size) (hF : FilesAt w A B a n c fs) (hP : PendsAt w A B b m d ps) (hs : nm.size ≤ maxLen)
    (hall : ∀ j, j < n → (fs.getD j (ByteArray.empty, [])).2.length ≤ 1048576) :
    Calls Try.prog 56 #[.agg #[.slice a n c, .slice b m d, .int .i64 cp, .int .i64 fu, .bool de], .string nm] w fun e w' => e = .returned (.int .i64 (rfI fs ps cp fu de nm)) ∧ Below w.heap.size w w' := by
  have hb0 : Below w.heap.size w (w.alloc (.cells #[.slice a n c, .slice b m d, .int .i64 cp, .int .i64 fu, .bool de] 32)) := (Below.refl _ _).alloc (Nat.le_refl _) _
  have HPL : Hid (ps.length = m) := hP.1
  have hcall := implPageCount_any a n c fs b m d ps cp fu de nm _ A B (by simp; omega) (hF.below (hb0.mono hB)) (hP.below (hb0.mono hB)) hs hall
  clear hF hP hall
  cases de with
  | true =>
    have HR : Hid (rfI fs ps cp fu true nm = 1) := by show _ = _; unfold rfI; rw [if_neg (by simp)]
    clear hcall
    go_enter Try.func56, Try.ntmps56
    go_wp2_with fail
    go_ret
    exact ⟨ret_int HR.out.symm, hb0⟩
  | false =>
    by_cases hm : 0 < m
    · have hmz : decide ((0 : Int) < (m : Int)) = true := by simp; omega
      have HR : Hid (rfI fs ps cp fu false nm = 1) := by show _ = _; unfold rfI; rw [if_neg (by have := HPL.out; omega)]
      clear hcall
      go_enter Try.func56, Try.ntmps56
      go_wp2_with fail
      go_ret
      exact ⟨ret_int HR.out.symm, hb0⟩
    · have hmz : decide ((0 : Int) < (m : Int)) = false := by simp; omega
      have hp := pageC_nil (fs := fs) (cp := cp) (fu := fu) (nm := nm) (show ps.length = 0 by have := HPL.out; omega)
      by_cases hneg : pageC fs ps cp fu nm < 0
      · have HR : Hid (rfI fs ps cp fu false nm = 1) := by show _ = _; unfold rfI; rw [if_neg (fun h => hp.1 hneg h.2.2)]
        clear hp
        generalize pageC fs ps cp fu nm = q at hneg hcall
        go_enter Try.func56, Try.ntmps56
        go_wp2_with fail
        refine hcall.mono ?_
        rintro e w2 ⟨rfl, hb2⟩
        have hb3 := hb0.trans (hb2.mono (by simp))
        clear hcall hb2 hb0
        go_wp2
        go_ret
        exact ⟨ret_int HR.out.symm, hb3⟩
      · have HR : Hid (rfI fs ps cp fu false nm = 0) := by
          show _ = _
          unfold rfI
          rw [if_pos ⟨rfl, by have := HPL.out; omega, Decidable.byContradiction (fun h => hneg (hp.2 (fun hh => h hh.1))), Decidable.byContradiction (fun h => hneg (hp.2 (fun hh => h hh.2)))⟩]
        clear hp
        generalize pageC fs ps cp fu nm = q at hneg hcall
        go_enter Try.func56, Try.ntmps56
        go_wp2_with fail
        refine hcall.mono ?_
        rintro e w2 ⟨rfl, hb2⟩
        have hb3 := hb0.trans (hb2.mono (by simp))
        clear hcall hb2 hb0
        go_wp2
        go_ret
        exact ⟨ret_int HR.out.symm, hb3⟩
end Go.Proofs.Ytmmdkjeoadlikaa
namespace Go.Proofs.Ytmmdkjeoadlikaa
open Go.RowKit Go.Maps
set_option linter.unusedVariables false
set_option maxRecDepth 100000

/-- A map's bound may be its size. -/
theorem MapAt.tight {w : World} {mb k : Nat} {D : DataW Unit} (h : MapAt w mb k D) : MapAt w mb (Maps.size D) D := by
  obtain ⟨es, clock, hb, F, _, rfl⟩ := h
  exact ⟨es, clock, hb, F, by simp [Maps.size, length_sorted], rfl⟩

/-- What the program says to a write: 0, 1 or 2. -/
def rwI (fs : List PF) (ps : List PP) (cp fu : Int) (de : Bool) (nm : ByteArray) (pg : Int) (bs : List Int) : Int :=
  if implV fs ps cp fu = true ∧ de = false ∧ nameB nm = true ∧ bs.length = 128 then
    (if pg < 0 ∨ lenI (lastF ps fs) nm < pg then 1 else if ps.length = 1000 ∨ 12 < (doP (lastF ps fs) nm pg.toNat bs).length ∨ cp < totalI (doP (lastF ps fs) nm pg.toNat bs) then 2 else 0)
  else 1
theorem inv_lastW : ∀ (ps : List PP) (fs : List PF), Inv fs → Inv (lastF ps fs)
  | [], _, h => h
  | p :: r, fs, h => by
    simp only [lastF]
    exact inv_lastW r _ (doP_inv h)
theorem boxW5 {wr : World} {N : Nat} {v0 v1 v2 v3 v4 : Value} {t : TypeId} (h : wr.heap[N]? = some (.cells #[v0, v1, v2, v3, v4] t)) : wr.cell? ⟨N, 0, none⟩ = some v0 ∧ wr.cell? ⟨N, 1, none⟩ = some v1 ∧ wr.cell? ⟨N, 2, none⟩ = some v2 ∧ wr.cell? ⟨N, 3, none⟩ = some v3 ∧ wr.cell? ⟨N, 4, none⟩ = some v4 := by
  refine ⟨?_, ?_, ?_, ?_, ?_⟩
  · rw [cell_of_row wr N 0 _ _ _ h]; rfl
  · rw [cell_of_row wr N 1 _ _ _ h]; rfl
  · rw [cell_of_row wr N 2 _ _ _ h]; rfl
  · rw [cell_of_row wr N 3 _ _ _ h]; rfl
  · rw [cell_of_row wr N 4 _ _ _ h]; rfl
theorem cacheI_lastW {cp : Int} : ∀ (ps : List PP) (fs : List PF), cacheI cp ps fs = true → fitsB cp (lastF ps fs) = true
  | [], fs, h => by simpa [cacheI, lastF] using h
  | p :: r, fs, h => by
    simp only [cacheI, Bool.and_eq_true] at h
    simp only [lastF]
    exact cacheI_lastW r _ h.2
/-- Where the disk is good, what is seen fits. -/
theorem specV_partsW {fs : List PF} {ps : List PP} {cp fu : Int} (h : true = implV fs ps cp fu) : cp ≤ 1000 ∧ (lastF ps fs).length ≤ 12 ∧ totalI (lastF ps fs) ≤ cp := by
  simp only [implV, Bool.true_eq, Bool.and_eq_true, decide_eq_true_eq] at h
  have h2 := cacheI_lastW ps fs h.2
  simp only [fitsB, Bool.and_eq_true, decide_eq_true_eq] at h2
  exact ⟨h.1.1.1.1.2.1, h2.1, h2.2⟩
theorem retW {x y : Int} (h : x = y) : (Ending.returned (.int .i64 x)) = .returned (.int .i64 y) := by rw [h]
set_option maxHeartbeats 1600000 in
theorem refuseWrite_any (a : Option Addr) (n c : Nat) (fs : List PF) (b : Option Addr) (m d : Nat) (ps : List PP) (cp fu : Int) (de : Bool) (nm : ByteArray) (pg : Int) (pa : Option Addr) (pn pc : Nat) (bs : List Int) (w : World) (A B : Nat) (hB : B ≤ w.heap.size) (hF : FilesAt w A B a n c fs) (hP : PendsAt w A B b m d ps) (hs : nm.size ≤ maxLen) (hbl : bs.length = pn)
    (hall : ∀ j, j < n → (fs.getD j (ByteArray.empty, [])).2.length ≤ 1048576) :
    Calls Try.prog 50 #[.agg #[.slice a n c, .slice b m d, .int .i64 cp, .int .i64 fu, .bool de], .string nm, .int .i64 pg, .slice pa pn pc] w fun e w' => e = .returned (.int .i64 (rwI fs ps cp fu de nm pg bs)) ∧ Below w.heap.size w w' := by
  have hb0 : Below w.heap.size w (w.alloc (.cells #[.slice a n c, .slice b m d, .int .i64 cp, .int .i64 fu, .bool de] 32)) := (Below.refl _ _).alloc (Nat.le_refl _) _
  have hml : ps.length = m := hP.1
  have HBL : Hid (bs.length = pn) := hbl
  clear hbl
  go_enter Try.func50, Try.ntmps50
  go_wp2_with fail
  refine (countSeen_any _ _ _ fs _ _ _ ps _ _ _ _ A B (by simp; omega) (hF.below (hb0.mono hB)) (hP.below (hb0.mono hB)) hall).mono ?_
  rintro e w1 ⟨r, t, ok, rfl, hok, hb1, hyes⟩
  have hg1 := hb0.trans (hb1.mono (by simp))
  have hz1 : w.heap.size + 1 ≤ w1.heap.size := by simpa using hb1.size
  have hbx1 : Hid (w1.heap[w.heap.size]? = some (.cells #[.slice a n c, .slice b m d, .int .i64 cp, .int .i64 fu, .bool de] 32)) := (hb1.block _ (by simp)).trans (heap_alloc_new w _)
  have HOK : Hid (ok = implV fs ps cp fu) := hok
  have HY : Hid (ok = true → t = totalI (lastF ps fs) ∧ ∃ mb k D, r = some mb ∧ (w.alloc (.cells #[.slice a n c, .slice b m d, .int .i64 cp, .int .i64 fu, .bool de] 32)).heap.size ≤ mb ∧ MapAt w1 mb k D ∧ Rep D (lastF ps fs)) := hyes
  have HML : Hid (ps.length = m) := hml
  clear hok hyes hml
  have k0 := (Below.heap_alloc w1 (.cells #[.map r, .int .i64 t] 99) w.heap.size hz1).trans hbx1.out
  obtain ⟨x0, x1, x2, x3, x4⟩ := boxW5 k0
  have hg2 := hg1.alloc (o := .cells #[.map r, .int .i64 t] 99) (by omega)
  cases ok with
  | false =>
    have HR : Hid (rwI fs ps cp fu de nm pg bs = 1) := by show _ = _; unfold rwI; rw [← HOK.out]; simp
    clear k0 HOK HY
    go_wp2_with fail
    go_ret
    exact ⟨retW HR.out.symm, hg2⟩
  | true =>
    obtain ⟨ht, mb, k, D, rfl, hmb, hM0, hR⟩ := HY.out rfl
    have HT : Hid (t = totalI (lastF ps fs)) := ht
    clear ht
    have hM1 := hM0.tight
    rw [hR.size_] at hM1
    clear hM0
    have hmz : w.heap.size + 1 ≤ mb := by simpa using hmb
    clear hmb
    have hI : Inv (lastF ps fs) := by
      refine inv_lastW _ _ (inv_all ?_)
      have h2 := HOK.out
      simp only [implV, Bool.true_eq, Bool.and_eq_true] at h2
      exact h2.1.1.2
    have hl0 := lenI_le_total (lastF ps fs) nm
    have htb := totalI_bd (lastF ps fs)
    have hM := hM1.keep (Below.heap_alloc w1 (.cells #[.map (some mb), .int .i64 t] 99) _ hM1.lt)
    have hmlt := hM1.lt
    have hlk := look_at hM hR hs 0
    have hlk' : (Instr.lookup 97 (.map (some mb)) (.string nm) false).run Try.prog (w1.alloc (.cells #[.map (some mb), .int .i64 t] 99)) = .ok (.int .i64 (lenI (lastF ps fs) nm)) (w1.alloc (.cells #[.map (some mb), .int .i64 t] 99)) := hlk
    have KC : Hid ((w1.alloc (.cells #[.map (some mb), .int .i64 t] 99)).heap[w1.heap.size]? = some (.cells #[.map (some mb), .int .i64 t] 99)) := heap_alloc_new w1 _
    have HK0 : Hid ((w1.alloc (.cells #[.map (some mb), .int .i64 t] 99)).heap[w.heap.size]? = some (.cells #[.slice a n c, .slice b m d, .int .i64 cp, .int .i64 fu, .bool de] 32)) := k0
    clear HY hlk k0
    by_cases t0 : de = false ∧ nameB nm = true ∧ pn = 128
    · obtain ⟨rfl, tn, rfl⟩ := t0
      have HN : Hid (nameB nm = true) := tn
      have hwS := (specV_partsW (HOK.out))
      by_cases t1 : pg < 0
      · have HR : Hid (rwI fs ps cp fu false nm pg bs = 1) := by show _ = _; unfold rwI; rw [if_pos ⟨HOK.out.symm, rfl, tn, HBL.out⟩, if_pos (.inl t1)]
        have s1 : decide (pg < 0) = true := by simp; omega
        clear tn hlk' hM hM1 hR hI t1
        go_wp2_with fail
        refine (isName_any _ _ hs).mono ?_
        rintro e w2 ⟨rfl, rfl⟩
        rw [HN.out]
        go_wp2_with fail
        go_ret
        exact ⟨retW HR.out.symm, hg2⟩
      · have s1 : decide (pg < 0) = false := by simp; omega
        by_cases t2 : lenI (lastF ps fs) nm < pg
        · have HR : Hid (rwI fs ps cp fu false nm pg bs = 1) := by show _ = _; unfold rwI; rw [if_pos ⟨HOK.out.symm, rfl, tn, HBL.out⟩, if_pos (.inr t2)]
          have s2 : decide (lenI (lastF ps fs) nm < pg) = true := by simp; omega
          clear tn hM hM1 hR hI t1 t2
          generalize lenI (lastF ps fs) nm = ln at *
          go_wp2_with fail
          refine (isName_any _ _ hs).mono ?_
          rintro e w2 ⟨rfl, rfl⟩
          rw [HN.out]
          go_wp2_with fail
          go_ret
          exact ⟨retW HR.out.symm, hg2⟩
        · have s2 : decide (lenI (lastF ps fs) nm < pg) = false := by simp; omega
          obtain ⟨pgN, rfl⟩ := Int.eq_ofNat_of_zero_le (show 0 ≤ pg by omega)
          have HR : Hid (rwI fs ps cp fu false nm (pgN : Int) bs = if ps.length = 1000 ∨ 12 < (doP (lastF ps fs) nm pgN bs).length ∨ cp < totalI (doP (lastF ps fs) nm pgN bs) then 2 else 0) := by show _ = _; unfold rwI; rw [if_pos ⟨HOK.out.symm, rfl, tn, HBL.out⟩, if_neg (by omega), Int.toNat_natCast]
          have htot := doP_total2 (bs := bs) hI (show (pgN : Int) ≤ lenI (lastF ps fs) nm by omega)
          have hrp := Rep.pend (bs := bs) hR hI (show (pgN : Int) ≤ lenI (lastF ps fs) nm by omega)
          have HAT : Hid (D.atKey (keyL nm) (.lit (.int .i64 0)) = .lit (.int .i64 (lenI (lastF ps fs) nm))) := hR.at_ nm
          rw [HML.out] at HR
          by_cases t3 : (pgN : Int) = lenI (lastF ps fs) nm
          · have s3 : ((pgN : Int) == lenI (lastF ps fs) nm) = true := by simp [t3]
            rw [if_pos t3, ← HT.out] at htot
            have HTO : Hid (totalI (doP (lastF ps fs) nm pgN bs) = t + 1) := htot
            have HRP : Hid (Rep (D.put (keyL nm) (.lit (.int .i64 (lenI (lastF ps fs) nm + 1)))) (doP (lastF ps fs) nm pgN bs)) := hrp.1 t3
            rw [← HT.out] at hwS htb hl0
            clear hrp htot t3 hI hR t1 t2 tn HT
            generalize doP (lastF ps fs) nm pgN bs = G at *
            generalize lenI (lastF ps fs) nm = ln at *
            go_wp2_with fail
            refine (isName_any _ _ hs).mono ?_
            rintro e w2 ⟨rfl, rfl⟩
            rw [HN.out]
            go_wp2_with fail
            refine (add_any nm 1 ln t w1.heap.size mb _ D _ KC.out hM (by omega) HAT.out hs (by omega) (by omega) (by omega) (by omega) (by omega) (by omega)).mono ?_
            rintro e w3 ⟨rfl, hc3, hm3, ht3⟩
            have hB3 : Below w.heap.size w w3 := hg2.trans (ht3.below (by simp; omega) (by omega) (by omega))
            have k3 := (ht3.block w.heap.size (by simp; omega) (by omega) (by omega)).trans HK0.out
            have hlen := hm3.len Try.underlying97 3
            rw [HRP.out.size_] at hlen
            clear x0 x1 x2 x3 x4 hlk'
            obtain ⟨x0, x1, x2, x3, x4⟩ := boxW5 k3
            obtain ⟨⟨q0, q1⟩, _, _⟩ := two_cells hc3
            clear hc3 k3 hm3 ht3 hM hM1
            rw [HTO.out] at HR
            generalize hGl : G.length = gl at *
            have HGL : Hid (G.length = gl) := hGl
            clear hGl
            by_cases t5 : m = 1000
            · have u1 : ((m : Int) == 1000) = true := by simp; omega
              rw [if_pos (.inl t5)] at HR
              clear t5
              go_wp2_with fail
              go_ret
              exact ⟨retW HR.out.symm, hB3⟩
            · have u1 : ((m : Int) == 1000) = false := by simp; omega
              by_cases t6 : 12 < gl
              · have u2 : decide ((12 : Int) < (gl : Int)) = true := by simp; omega
                rw [if_pos (.inr (.inl t6))] at HR
                clear t5 t6
                go_wp2_with fail
                go_ret
                exact ⟨retW HR.out.symm, hB3⟩
              · have u2 : decide ((12 : Int) < (gl : Int)) = false := by simp; omega
                by_cases t7 : cp < (t + 1)
                · have u3 : decide (cp < (t + 1)) = true := by simp; omega
                  rw [if_pos (.inr (.inr t7))] at HR
                  clear t5 t6 t7
                  go_wp2_with fail
                  go_ret
                  exact ⟨retW HR.out.symm, hB3⟩
                · have u3 : decide (cp < (t + 1)) = false := by simp; omega
                  rw [if_neg (by omega)] at HR
                  clear t5 t6 t7
                  go_wp2_with fail
                  go_ret
                  exact ⟨retW HR.out.symm, hB3⟩
          · have s3 : ((pgN : Int) == lenI (lastF ps fs) nm) = false := by simp [t3]
            rw [if_neg t3, Int.add_zero, ← HT.out] at htot
            have HTO : Hid (totalI (doP (lastF ps fs) nm pgN bs) = t) := htot
            have HRP := hrp.2 t3
            have hB3 := hg2
            have hM' : (w1.alloc (.cells #[.map (some mb), .int .i64 t] 99)).ownsMap Try.prog 9 (plainElem Try.prog 2) mb _ D := hM
            have hlen := hM'.len Try.underlying97 3
            rw [HRP.size_] at hlen
            rw [HTO.out] at HR
            clear hrp htot hI hR t1 t2 tn HT HRP hM hM' hM1 HAT HTO
            generalize doP (lastF ps fs) nm pgN bs = G at *
            generalize lenI (lastF ps fs) nm = ln at *
            generalize hGl : G.length = gl at *
            have HGL : Hid (G.length = gl) := hGl
            clear hGl t3
            by_cases t5 : m = 1000
            · have u1 : ((m : Int) == 1000) = true := by simp; omega
              rw [if_pos (.inl t5)] at HR
              clear t5
              go_wp2_with fail
              refine (isName_any _ _ hs).mono ?_
              rintro e w2 ⟨rfl, rfl⟩
              rw [HN.out]
              go_wp2_with fail
              go_ret
              exact ⟨retW HR.out.symm, hB3⟩
            · have u1 : ((m : Int) == 1000) = false := by simp; omega
              by_cases t6 : 12 < gl
              · have u2 : decide ((12 : Int) < (gl : Int)) = true := by simp; omega
                rw [if_pos (.inr (.inl t6))] at HR
                clear t5 t6
                go_wp2_with fail
                refine (isName_any _ _ hs).mono ?_
                rintro e w2 ⟨rfl, rfl⟩
                rw [HN.out]
                go_wp2_with fail
                go_ret
                exact ⟨retW HR.out.symm, hB3⟩
              · have u2 : decide ((12 : Int) < (gl : Int)) = false := by simp; omega
                by_cases t7 : cp < t
                · have u3 : decide (cp < t) = true := by simp; omega
                  rw [if_pos (.inr (.inr t7))] at HR
                  clear t5 t6 t7
                  go_wp2_with fail
                  refine (isName_any _ _ hs).mono ?_
                  rintro e w2 ⟨rfl, rfl⟩
                  rw [HN.out]
                  go_wp2_with fail
                  go_ret
                  exact ⟨retW HR.out.symm, hB3⟩
                · have u3 : decide (cp < t) = false := by simp; omega
                  rw [if_neg (by omega)] at HR
                  clear t5 t6 t7
                  go_wp2_with fail
                  refine (isName_any _ _ hs).mono ?_
                  rintro e w2 ⟨rfl, rfl⟩
                  rw [HN.out]
                  go_wp2_with fail
                  go_ret
                  exact ⟨retW HR.out.symm, hB3⟩
    · have HR : Hid (rwI fs ps cp fu de nm pg bs = 1) := by show _ = _; unfold rwI; rw [HBL.out, if_neg (fun h => t0 ⟨h.2.1, h.2.2⟩)]
      have hT : de = true ∨ nameB nm = false ∨ pn ≠ 128 := by
        cases de with
        | true => exact .inl rfl
        | false => cases hn : nameB nm with
          | false => exact .inr (.inl rfl)
          | true => exact .inr (.inr (fun e => t0 ⟨rfl, hn, e⟩))
      clear t0 hlk' hM hM1 hR hI hl0 HT htb KC HK0 HOK
      rcases hT with rfl | hn | hp
      · go_wp2_with fail
        go_ret
        exact ⟨retW HR.out.symm, hg2⟩
      · have HN : Hid (nameB nm = false) := hn
        clear hn
        cases de with
        | true =>
          go_wp2_with fail
          go_ret
          exact ⟨retW HR.out.symm, hg2⟩
        | false =>
          go_wp2_with fail
          refine (isName_any _ _ hs).mono ?_
          rintro e w2 ⟨rfl, rfl⟩
          rw [HN.out]
          go_wp2_with fail
          go_ret
          exact ⟨retW HR.out.symm, hg2⟩
      · have s1 : ((pn : Int) == 128) = false := by simp; omega
        cases de with
        | true =>
          go_wp2_with fail
          go_ret
          exact ⟨retW HR.out.symm, hg2⟩
        | false =>
          go_wp2_with fail
          refine (isName_any _ _ hs).mono ?_
          rintro e w2 ⟨rfl, rfl⟩
          cases hn : nameB nm
          · go_wp2_with fail
            go_ret
            exact ⟨retW HR.out.symm, hg2⟩
          · go_wp2_with fail
            go_ret
            exact ⟨retW HR.out.symm, hg2⟩
end Go.Proofs.Ytmmdkjeoadlikaa
namespace Go.Proofs.Ytmmdkjeoadlikaa
open Go.RowKit
set_option linter.unusedVariables false
set_option maxRecDepth 100000

/-- Files whose names ascend. -/
def SortedN (l : List PF) : Prop := l.Pairwise (fun f g => f.1.toList < g.1.toList)
theorem sortedN_of_ok {fs : List PF} (h : ∀ i, i < fs.length → fileOk fs i = true) : SortedN fs := by
  refine List.pairwise_iff_getElem.2 fun i j hi hj hij => ?_
  have := names_up h i j hij hj
  simpa [List.getD, List.getElem?_eq_getElem hi, List.getElem?_eq_getElem hj] using this
theorem SortedN.rem {fs : List PF} (h : SortedN fs) (nm : ByteArray) : SortedN (remF fs nm) := List.Pairwise.filter _ h
theorem lt_or_eqL {a b : List UInt8} (h : ¬ b < a) : a < b ∨ a = b := by
  by_cases h2 : a < b
  · exact .inl h2
  · exact .inr (List.le_antisymm (List.not_lt.1 h) (List.not_lt.1 h2))
theorem gtB_iff (a b : ByteArray) : gtB a b = true ↔ b.toList < a.toList := by
  unfold gtB
  rw [bytesLess_eq]
  simp only [Bool.and_eq_true, Bool.not_eq_true', decide_eq_false_iff_not, beq_eq_false_iff_ne, ne_eq]
  constructor
  · rintro ⟨h1, h2⟩
    rcases lt_or_eqL h1 with h | h
    · exact h
    · exact absurd h.symm h2
  · intro h
    exact ⟨fun h' => List.lt_irrefl _ (List.lt_trans h h'), fun e => by rw [e] at h; exact List.lt_irrefl _ h⟩
theorem toList_inj {a b : ByteArray} (h : a.toList = b.toList) : a = b := by
  have := same_yes (a := a) (b := a) rfl
  exact Decidable.byContradiction fun hn => by have := same_no hn; rw [h] at this; simp at this
theorem lt_of_not_gt {a b : ByteArray} (h : gtB a b = false) (hn : a ≠ b) : a.toList < b.toList := by
  have h1 : ¬ b.toList < a.toList := fun h' => by rw [(gtB_iff a b).2 h'] at h; cases h
  rcases lt_or_eqL h1 with h2 | h2
  · exact h2
  · exact absurd (toList_inj h2) hn
/-- A file more, in its place by name. -/
def insF (l : List PF) (f : PF) : List PF := l.takeWhile (fun g => !gtB g.1 f.1) ++ f :: l.dropWhile (fun g => !gtB g.1 f.1)
theorem insF_perm (l : List PF) (f : PF) : (insF l f).Perm (f :: l) := by
  unfold insF
  refine List.perm_middle.trans ?_
  rw [List.takeWhile_append_dropWhile]
theorem insF_sorted {l : List PF} {f : PF} (h : SortedN l) (hn : ∀ g ∈ l, g.1 ≠ f.1) : SortedN (insF l f) := by
  induction l with
  | nil => simp [insF, SortedN]
  | cons x r ih =>
    obtain ⟨h1, h2⟩ := List.pairwise_cons.1 h
    have hr := ih h2 (fun g hg => hn g (List.mem_cons_of_mem _ hg))
    cases hx : gtB x.1 f.1 with
    | false =>
      have e : insF (x :: r) f = x :: insF r f := by simp [insF, hx]
      rw [e]
      refine List.pairwise_cons.2 ⟨fun g hg => ?_, hr⟩
      rcases List.mem_cons.1 ((insF_perm r f).mem_iff.1 hg) with rfl | hg'
      · exact lt_of_not_gt hx (hn x List.mem_cons_self)
      · exact h1 g hg'
    | true =>
      have e : insF (x :: r) f = f :: x :: r := by simp [insF, hx]
      rw [e]
      have hfx := (gtB_iff _ _).1 hx
      refine List.pairwise_cons.2 ⟨fun g hg => ?_, h⟩
      rcases List.mem_cons.1 hg with rfl | hg'
      · exact hfx
      · exact List.lt_trans hfx (h1 g hg')
theorem sortedN_unique {a b : List PF} (ha : SortedN a) (hb : SortedN b) (h : a.Perm b) : a = b :=
  List.Perm.eq_of_pairwise (fun x y _ _ h1 h2 => absurd (List.lt_trans h1 h2) (List.lt_irrefl _)) ha hb h
def renOne (fr to : ByteArray) (f : PF) : PF := if f.1 = fr then (to, f.2) else f
/-- What a rename makes of files: the document's way. -/
def renF (fs : List PF) (fr to : ByteArray) : List PF := insF (remF (remF fs fr) to) (to, (fs.getD (findN fs fr) (ByteArray.empty, [])).2)
/-- .. the program's, before it sorts. -/
def renB (fs : List PF) (fr to : ByteArray) : List PF := (remF fs to).map (renOne fr to)
theorem remF_mem {fs : List PF} {nm : ByteArray} {f : PF} (h : f ∈ remF fs nm) : f ∈ fs ∧ f.1 ≠ nm := by
  have := List.mem_filter.1 h
  exact ⟨this.1, by simpa using this.2⟩
theorem remF_append (a b : List PF) (nm : ByteArray) : remF (a ++ b) nm = remF a nm ++ remF b nm := by simp [remF]
theorem remF_self {fs : List PF} {nm : ByteArray} (h : ∀ f ∈ fs, f.1 ≠ nm) : remF fs nm = fs := by
  unfold remF
  rw [List.filter_eq_self]
  intro f hf
  simp [h f hf]
theorem renOne_self {fs : List PF} {fr to : ByteArray} (h : ∀ f ∈ fs, f.1 ≠ fr) : fs.map (renOne fr to) = fs := by
  conv => rhs; rw [← List.map_id fs]
  refine List.map_congr_left fun f hf => ?_
  simp [renOne, h f hf]
theorem renF_perm {fs : List PF} {fr to : ByteArray} (hs : SortedN fs) (hf : findN fs fr < fs.length) (hne : fr ≠ to) : (renF fs fr to).Perm (renB fs fr to) := by
  obtain ⟨x, hx⟩ : ∃ x, x = fs.getD (findN fs fr) (ByteArray.empty, []) := ⟨_, rfl⟩
  have hx1 : x.1 = fr := by
    have h1 := List.findIdx_getElem (w := hf)
    rw [hx, List.getD, List.getElem?_eq_getElem hf]
    exact of_decide_eq_true (show decide ((fs[findN fs fr]'hf).1 = fr) = true from h1)
  have hsplit : fs = fs.take (findN fs fr) ++ x :: fs.drop (findN fs fr + 1) := by
    conv => lhs; rw [← List.take_append_drop (findN fs fr) fs]
    rw [List.drop_eq_getElem_cons hf]
    congr 2
    rw [hx]; simp [List.getD, List.getElem?_eq_getElem hf]
  unfold renF renB
  rw [← hx]
  generalize findN fs fr = i at *
  generalize fs.take i = p at hsplit
  generalize fs.drop (i + 1) = s at hsplit
  subst hsplit
  have hs' := List.pairwise_append.1 hs
  have hp : ∀ f ∈ p, f.1 ≠ fr := fun f hf e => by have := hs'.2.2 f hf x List.mem_cons_self; rw [e, ← hx1] at this; exact List.lt_irrefl _ this
  have hss : ∀ f ∈ s, f.1 ≠ fr := fun f hf e => by have := (List.pairwise_cons.1 hs'.2.1).1 f hf; rw [e, ← hx1] at this; exact List.lt_irrefl _ this
  have e1 : remF (p ++ x :: s) fr = p ++ s := by
    rw [remF_append, remF_self hp]
    have : remF (x :: s) fr = remF s fr := by simp [remF, hx1]
    rw [this, remF_self hss]
  have e2 : remF (p ++ x :: s) to = remF p to ++ x :: remF s to := by
    rw [remF_append]
    have : remF (x :: s) to = x :: remF s to := by simp [remF, hx1, hne]
    rw [this]
  rw [e1, e2, remF_append, List.map_append, List.map_cons, renOne_self (fun f hf => hp f (remF_mem hf).1), renOne_self (fun f hf => hss f (remF_mem hf).1), show renOne fr to x = (to, x.2) by simp [renOne, hx1]]
  exact (insF_perm _ _).trans List.perm_middle.symm
theorem renF_sorted {fs : List PF} {fr to : ByteArray} (hs : SortedN fs) : SortedN (renF fs fr to) := insF_sorted ((hs.rem fr).rem to) (fun g hg => (remF_mem hg).2)
theorem ren_sort {fs C : List PF} {fr to : ByteArray} (hs : SortedN fs) (hf : findN fs fr < fs.length) (hne : fr ≠ to) (hp : C.Perm (renB fs fr to)) (hC : SortedN C) : C = renF fs fr to := sortedN_unique hC (renF_sorted hs) (hp.trans (renF_perm hs hf hne).symm)
/-- Names that do not descend ascend, where no two are one. -/
theorem sortedN_of_le {C : List PF} (h : ∀ i j (hij : i < j) (hj : j < C.length), ¬ (C[j]'hj).1.toList < (C[i]'(Nat.lt_trans hij hj)).1.toList) (hd : (C.map (·.1)).Nodup) : SortedN C := by
  refine List.pairwise_iff_getElem.2 fun i j hi hj hij => ?_
  rcases lt_or_eqL (h i j hij hj) with h1 | h1
  · exact h1
  · exfalso
    have := List.pairwise_iff_getElem.1 hd i j (by simpa using hi) (by simpa using hj) hij
    simp only [List.getElem_map, ne_eq] at this
    exact this (toList_inj h1)
theorem sortedN_nodup {l : List PF} (h : SortedN l) : (l.map (·.1)).Nodup := by
  refine List.pairwise_map.2 (h.imp fun h' e => ?_)
  rw [e] at h'
  exact List.lt_irrefl _ h'
end Go.Proofs.Ytmmdkjeoadlikaa
namespace Go.Proofs.Ytmmdkjeoadlikaa
open Go.RowKit
set_option linter.unusedVariables false
set_option maxRecDepth 100000

/-- What cmp.Compare says of two names. -/
def cmpB (x y : ByteArray) : Int := if Op.bytesLess x.toList y.toList = true then -1 else if Op.bytesLess y.toList x.toList = true then 1 else 0
theorem cmpStr_any (x y : ByteArray) (W : World) : Calls Try.prog 84 #[.string x, .string y] W fun e w' => e = .returned (.int .i64 (cmpB x y)) ∧ w' = W := by
  have n1 : (x.toList == x.toList) = true := by simp
  have n2 : (y.toList == y.toList) = true := by simp
  cases h1 : Op.bytesLess x.toList y.toList with
  | true =>
    have H : Hid (cmpB x y = -1) := by show _ = _; simp [cmpB, h1]
    go_enter Try.func84, Try.ntmps84
    go_wp2
    go_ret
    exact ⟨by rw [H.out]; rfl, rfl⟩
  | false =>
    cases h2 : Op.bytesLess y.toList x.toList with
    | true =>
      have H : Hid (cmpB x y = 1) := by show _ = _; simp [cmpB, h1, h2]
      have h3 : (x.toList == y.toList) = false := by
        rw [bytesLess_eq] at h2
        have h2' := of_decide_eq_true h2
        rw [beq_eq_false_iff_ne]
        intro e; rw [e] at h2'; exact List.lt_irrefl _ h2'
      go_enter Try.func84, Try.ntmps84
      go_wp2
      go_ret
      exact ⟨by rw [H.out]; rfl, rfl⟩
    | false =>
      have H : Hid (cmpB x y = 0) := by show _ = _; simp [cmpB, h1, h2]
      have h3 : (x.toList == y.toList) = true := by
        rw [bytesLess_eq] at h1 h2
        have h1' := of_decide_eq_false h1
        have h2' := of_decide_eq_false h2
        rw [beq_iff_eq]
        exact List.le_antisymm (List.not_lt.1 h2') (List.not_lt.1 h1')
      go_enter Try.func84, Try.ntmps84
      go_wp2
      go_ret
      exact ⟨by rw [H.out]; rfl, rfl⟩
theorem compareFiles_any (x y : ByteArray) (a : Option Addr) (n c : Nat) (b : Option Addr) (m d : Nat) (W : World) : Calls Try.prog 61 #[.agg #[.string x, .slice a n c], .agg #[.string y, .slice b m d]] W fun e w' => e = .returned (.int .i64 (cmpB x y)) ∧ ∃ q os', w' = Go.Sort.grow (W.drewN q) os' := by
  have hcon := fun W' => cmpStr_any x y W'
  generalize cmpB x y = r at hcon ⊢
  go_enter Try.func61, Try.ntmps61
  go_wp2_with fail
  refine (hcon _).mono ?_
  rintro e w' ⟨rfl, rfl⟩
  go_wp2
  go_ret
  exact ⟨rfl, 0, _, by rw [Go.Sort.alloc_eq_grow, Go.Sort.alloc_eq_grow, Go.Sort.grow_grow]; rfl⟩
end Go.Proofs.Ytmmdkjeoadlikaa
namespace Go.Proofs.Ytmmdkjeoadlikaa
open Go.RowKit
open Go.Sort (flatK size_flatK get_flatK putRowK HoldsK PermIn SortedIn putCells)
set_option linter.unusedVariables false
set_option maxRecDepth 100000

/-- A file as the sort sees it: its place, its name, its bytes' slice. -/
abbrev NV := Nat × ByteArray × Option Addr × Nat × Nat
def encV (x : NV) : List Value := [.string x.2.1, .slice x.2.2.1 x.2.2.2.1 x.2.2.2.2]
theorem fr_sortWorld {α : Type} [Inhabited α] (enc : α → List Value) (k : Nat) (w : World) (g off m : Nat) (d : Array α) (os : Array Obj) : Fr (fun x => x = g) w (sortWorldK enc k w g off m d os) := by
  refine ⟨rfl, rfl, rfl, ?_, fun x hx hn => ?_⟩
  · show w.heap.size ≤ ((w.heap.modify g _) ++ os).size
    simp
  · show ((w.heap.modify g _) ++ os)[x]? = _
    rw [Array.getElem?_append_left (by simpa using hx), Array.getElem?_modify, if_neg (fun e => hn e.symm)]
theorem heap_sortWorld {α : Type} [Inhabited α] (enc : α → List Value) (k : Nat) (w : World) (g m : Nat) (d : Array α) (os : Array Obj) {cur : Array Value} {e : TypeId} (h : w.heap[g]? = some (.cells cur e (0, 0))) : (sortWorldK enc k w g 0 m d os).heap[g]? = some (.cells (putCells id 0 (flatK enc k d) cur) e (0, 0)) := by
  show ((w.heap.modify g _) ++ os)[g]? = _
  have hg : g < w.heap.size := (Array.getElem?_eq_some_iff.1 h).1
  rw [Array.getElem?_append_left (by simpa using hg), Array.getElem?_modify, if_pos rfl, h]
  rfl
/-- The row that the sort leaves. -/
theorem own_sortWorld {w : World} {base g n c : Nat} {xs : List Value} (h : w.ownsRow base 83 2 (.slice (some ⟨g, 0, none⟩) n c) n xs) (d : Array NV) (hd : d.size = n) (m : Nat) (os : Array Obj) (ks : List Nat) (hk : ks.length = n) (he : ∀ j, j < n → encV d[j]! = cellsK xs (ks.getD j 0)) :
    (sortWorldK encV 2 w g 0 m d os).ownsRow base 83 2 (.slice (some ⟨g, 0, none⟩) n c) n (pickR xs ks) := by
  refine ⟨by rw [pickR_len, hk], .inr ?_⟩
  rcases h.2 with ⟨h', _⟩ | ⟨g', cap, cur, e1, h1, h2, h3, h4, h5, h6⟩
  · simp at h'
  · injection e1 with e1 e2 e3
    injection e1 with e1
    injection e1 with e1
    subst e1 e3
    refine ⟨g, c, _, rfl, h1, heap_sortWorld encV 2 w g m d os h2, h3, h4, by simp [putCells, h5], ?_⟩
    have hc2 : n * 2 ≤ c * 2 := Nat.mul_le_mul_right _ h3
    apply List.ext_getElem?
    intro t
    by_cases ht : t < n * 2
    · rw [List.getElem?_take_of_lt ht]
      have hg : (putCells id 0 (flatK encV 2 d) cur).toList[t]? = some ((flatK encV 2 d)[t]!) := by
        rw [Array.getElem?_toList, putCells, Array.getElem?_mapIdx, Array.getElem?_eq_getElem (show t < cur.size by omega)]
        simp only [Option.map_some, id_eq, Nat.zero_le, Nat.zero_add, true_and, Nat.sub_zero]
        rw [if_pos (by rw [size_flatK, hd]; exact ht)]
      rw [hg, get_flatK _ _ _ _ (by rw [hd]; exact ht), he (t / 2) (by omega)]
      have hp := pickR_get xs ks (t / 2) (by omega)
      rcases Nat.mod_two_eq_zero_or_one t with h0 | h0
      · rw [show t / 2 * 2 = t by omega] at hp
        rw [hp.1, h0]; rfl
      · rw [show t / 2 * 2 + 1 = t by omega] at hp
        rw [hp.2, h0]; rfl
    · rw [List.getElem?_eq_none (by rw [List.length_take]; omega), List.getElem?_eq_none (by rw [pickR_len, hk]; omega)]
/-- The row that the sort finds. -/
theorem holds_own {w : World} {base g n c : Nat} {xs : List Value} (h : w.ownsRow base 83 2 (.slice (some ⟨g, 0, none⟩) n c) n xs) (d : Array NV) (hd : d.size = n) (he : ∀ j, j < n → encV d[j]! = cellsK xs j) : HoldsK encV 2 w g 0 d := by
  intro t ht
  rw [size_flatK, hd] at ht
  rw [Nat.zero_add, get_flatK _ _ _ _ (by rw [hd]; exact ht), he (t / 2) (by omega)]
  refine ⟨?_, h.frozenAt t⟩
  have hl := h.1
  rw [h.cellAt t ht, List.getElem?_eq_getElem (by omega)]
  rcases Nat.mod_two_eq_zero_or_one t with h0 | h0
  · rw [h0]
    simp only [cellsK, show t / 2 * 2 = t by omega, List.getD, List.getElem?_eq_getElem (show t < xs.length by omega)]
    rfl
  · rw [h0]
    simp only [cellsK, show t / 2 * 2 + 1 = t by omega, List.getD, List.getElem?_eq_getElem (show t < xs.length by omega)]
    rfl
end Go.Proofs.Ytmmdkjeoadlikaa
namespace Go.Proofs.Ytmmdkjeoadlikaa
open Go.RowKit
set_option linter.unusedVariables false
set_option maxRecDepth 100000

/-- A disk's two lists in memory of one's own, all in the blocks from lo to hi. -/
structure OwnZ (w : World) (lo hi : Nat) (v u : Value) (fs : List PF) (ps : List PP) : Prop where
  ex : ∃ xs vs ys us, OwnD w lo v u fs ps xs vs ys us ∧ ∀ g, Blk v vs g ∨ Blk u us g → g < hi
theorem OwnZ.below {w w' : World} {lo hi : Nat} {v u : Value} {fs : List PF} {ps : List PP} (h : OwnZ w lo hi v u fs ps) (hb : Below w.heap.size w w') : OwnZ w' lo hi v u fs ps := by
  obtain ⟨xs, vs, ys, us, hO, hg⟩ := h.ex
  exact ⟨xs, vs, ys, us, hO.below hb, hg⟩
theorem OwnZ.fr {S : Nat → Prop} {w w' : World} {lo hi : Nat} {v u : Value} {fs : List PF} {ps : List PP} (h : OwnZ w lo hi v u fs ps) (hf : Fr S w w') (hS : ∀ g, S g → g < lo ∨ hi ≤ g) : OwnZ w' lo hi v u fs ps := by
  obtain ⟨xs, vs, ys, us, hO, hg⟩ := h.ex
  refine ⟨xs, vs, ys, us, hO.frS hf (fun g hs hb => ?_), hg⟩
  have h1 := hg g hb
  have h2 := (hO.blk hb).1
  have := hS g hs
  omega
theorem OwnZ.files {w : World} {lo hi : Nat} {a : Option Addr} {n c : Nat} {u : Value} {fs : List PF} {ps : List PP} (h : OwnZ w lo hi (.slice a n c) u fs ps) : FilesAt w lo w.heap.size a n c fs := by
  obtain ⟨xs, vs, ys, us, hO, hg⟩ := h.ex
  obtain ⟨a', n', c', e, _, hF⟩ := hO.files.files
  cases e
  exact hF
theorem OwnZ.pends {w : World} {lo hi : Nat} {b : Option Addr} {m d : Nat} {v : Value} {fs : List PF} {ps : List PP} (h : OwnZ w lo hi v (.slice b m d) fs ps) : PendsAt w lo w.heap.size b m d ps := by
  obtain ⟨xs, vs, ys, us, hO, hg⟩ := h.ex
  obtain ⟨a', n', c', e, _, hF⟩ := hO.cache.pends
  cases e
  exact hF
theorem OwnZ.up {w : World} {lo hi hi' : Nat} {v u : Value} {fs : List PF} {ps : List PP} (h : OwnZ w lo hi v u fs ps) (hh : hi ≤ hi') : OwnZ w lo hi' v u fs ps := by
  obtain ⟨xs, vs, ys, us, hO, hg⟩ := h.ex
  exact ⟨xs, vs, ys, us, hO, fun g e => Nat.lt_of_lt_of_le (hg g e) hh⟩
theorem ResAt.z {w w' : World} {e : Ending} {er cp fu : Int} {de : Bool} {fs : List PF} {ps : List PP} (h : ResAt w e w' er fs ps cp fu de) : ∃ (a : Option Addr) (c : Nat) (b : Option Addr) (d : Nat), e = .returned (.agg #[.int .i64 er, .slice a fs.length c, .slice b ps.length d, .int .i64 cp, .int .i64 fu, .bool de]) ∧ OwnZ w' w.heap.size w'.heap.size (.slice a fs.length c) (.slice b ps.length d) fs ps ∧ Below w.heap.size w w' := by
  obtain ⟨a, c, b, d, xs, vs, ys, us, e1, hO, hb⟩ := h.out
  exact ⟨a, c, b, d, e1, ⟨xs, vs, ys, us, hO, fun g hg => (hO.blk hg).2⟩, hb⟩
theorem toDisk_z (a : Option Addr) (n c : Nat) (fs : List PF) (b : Option Addr) (m d : Nat) (ps : List PP) (cp fu : Int) (de : Bool) (w : World) (A B : Nat) (hB : B ≤ w.heap.size)
    (hF : FilesAt w A B a n c fs) (hP : PendsAt w A B b m d ps) (hn : n ≤ 1048576) (hm : m ≤ 1048576) (hall : ∀ j, j < n → (fs.getD j (ByteArray.empty, [])).2.length ≤ 1048576) (hall2 : ∀ j, j < m → (ps.getD j (ByteArray.empty, 0, [])).2.2.length ≤ 1048576) :
    Calls Try.prog 9 #[.agg #[.slice a n c, .slice b m d, .int .i64 cp, .int .i64 fu, .bool de]] w fun e w' => ∃ g h, e = .returned (.agg #[.slice (some ⟨g, 0, none⟩) n n, .slice (some ⟨h, 0, none⟩) m m, .int .i64 cp, .int .i64 fu, .bool de]) ∧ OwnZ w' w.heap.size w'.heap.size (.slice (some ⟨g, 0, none⟩) n n) (.slice (some ⟨h, 0, none⟩) m m) fs ps ∧ Below w.heap.size w w' := by
  refine (toDisk_own a n c fs b m d ps cp fu de w A B hB hF hP hn hm hall hall2).mono ?_
  rintro e w' ⟨g, h, xs, vs, ys, us, rfl, hO, hb⟩
  exact ⟨g, h, rfl, ⟨xs, vs, ys, us, hO, fun g hg => (hO.blk hg).2⟩, hb⟩
theorem markDisk_z (a : Option Addr) (n c : Nat) (b : Option Addr) (m d : Nat) (cp fu de : Value) (k lo hi : Nat) (fs : List PF) (ps : List PP) (w : World) (h : OwnZ w lo hi (.slice a n c) (.slice b m d) fs ps) (hn : n = fs.length) (hm : m = ps.length) (hb : lo ≤ w.heap.size) (hk : kP (kF k fs) ps ≤ 1099511627776) :
    Calls Try.prog 13 #[.agg #[.slice a n c, .slice b m d, cp, fu, de], .int .i64 k] w fun e w' => e = .returned (.int .i64 ((kP (kF k fs) ps : Nat) : Int)) ∧ OwnZ w' lo hi (.slice a n c) (.slice b m d) (markF k fs) (markP (kF k fs) ps) ∧ Fr (fun g => lo ≤ g ∧ g < hi) w w' := by
  obtain ⟨xs, vs, ys, us, hO, hg⟩ := h.ex
  refine (markDisk_any a n c b m d cp fu de k lo fs ps xs vs ys us w hO hn hm hb hk).mono ?_
  rintro e w' ⟨rfl, xs', ys', hO', hb', hF'⟩
  exact ⟨rfl, ⟨xs', vs, ys', us, hO', hg⟩, hF'.weak (fun g e => ⟨(hO.blk e).1, hg g e⟩)⟩
theorem markDiskRes_z (er : Int) (a : Option Addr) (n c : Nat) (b : Option Addr) (m d : Nat) (cp fu : Int) (de : Bool) (k lo hi : Nat) (fs : List PF) (ps : List PP) (w : World) (h : OwnZ w lo hi (.slice a n c) (.slice b m d) fs ps) (hn : n = fs.length) (hm : m = ps.length) (hb : lo ≤ w.heap.size) (hk : kP (kF k fs) ps ≤ 1099511627776) :
    Calls Try.prog 20 #[.agg #[.int .i64 er, .slice a n c, .slice b m d, .int .i64 cp, .int .i64 fu, .bool de], .int .i64 k] w fun e w' => e = .returned (.int .i64 ((kP (kF k fs) ps : Nat) : Int)) ∧ OwnZ w' lo hi (.slice a n c) (.slice b m d) (markF k fs) (markP (kF k fs) ps) ∧ Fr (fun g => lo ≤ g ∧ g < hi) w w' := by
  obtain ⟨xs, vs, ys, us, hO, hg⟩ := h.ex
  refine (markDiskRes_any er a n c b m d cp fu de k lo fs ps xs vs ys us w hO hn hm hb hk).mono ?_
  rintro e w' ⟨rfl, xs', ys', hO', hb', hF'⟩
  exact ⟨rfl, ⟨xs', vs, ys', us, hO', hg⟩, hF'.weak (fun g e => ⟨(hO.blk e).1, hg g e⟩)⟩
theorem box_below {w w' : World} {N : Nat} {x : Obj} (h : w.heap[N]? = some x) (hb : Below w.heap.size w w') : w'.heap[N]? = some x := (hb.block N (Array.getElem?_eq_some_iff.1 h).1).trans h
theorem box_fr {S : Nat → Prop} {w w' : World} {N : Nat} {x : Obj} (h : w.heap[N]? = some x) (hf : Fr S w w') (hS : ¬ S N) : w'.heap[N]? = some x := (hf.block N (Array.getElem?_eq_some_iff.1 h).1 hS).trans h
theorem kF_bound (k : Nat) (fs : List PF) : (kF k fs : Int) ≤ k + fs.length + wFiles fs := by
  induction fs generalizing k with
  | nil => simp [kF, wFiles]
  | cons x r ih =>
    have := ih (k + 1 + x.2.length)
    simp only [kF, wFiles, wFile, List.length_cons]
    omega
theorem kP_bound (k : Nat) (ps : List PP) : (kP k ps : Int) ≤ k + 2 * ps.length + wPends ps := by
  induction ps generalizing k with
  | nil => simp [kP, wPends]
  | cons x r ih =>
    have := ih (k + 2 + x.2.2.length)
    simp only [kP, wPends, wPend, List.length_cons]
    omega
end Go.Proofs.Ytmmdkjeoadlikaa
