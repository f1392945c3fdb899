import Derived.Test.YtmmdkjeoadlikaaCFil
namespace Go.Proofs.Ytmmdkjeoadlikaa
open Go.RowKit Go.Maps
set_option linter.unusedVariables false
set_option maxRecDepth 100000

def pendsOk : List PP → List PF → Bool
  | [], _ => true
  | p :: r, fs => pendOk fs p && pendsOk r (stepP fs p)
def lastF : List PP → List PF → List PF
  | [], fs => fs
  | p :: r, fs => lastF r (stepP fs p)
theorem cacheI_eq (cp : Int) : ∀ (ps : List PP) (fs : List PF), cacheI cp ps fs = (pendsOk ps fs && fitsB cp (lastF ps fs))
  | [], fs => by simp [cacheI, pendsOk, lastF]
  | p :: r, fs => by simp only [cacheI, pendsOk, lastF]; rw [cacheI_eq cp r]; simp [Bool.and_assoc]

theorem look_at {w : World} {mb k : Nat} {D : DataW Unit} {fs : List PF} {nm : ByteArray} (h : MapAt w mb k D) (hr : Rep D fs) (hs : nm.size ≤ maxLen) : ∀ q, (Instr.lookup 97 (.map (some mb)) (.string nm) false).run Try.prog (w.drewN q) = .ok (.int .i64 (lenI fs nm)) (w.drewN q) := by
  intro q
  have h2 : (w.drewN q).ownsMap Try.prog 9 (plainElem Try.prog 2) mb k D := MapAt.keep (w' := w.drewN q) h rfl
  obtain ⟨c, hrun, hat, _⟩ := h2.lookup_int lawS Try.underlying97 Try.underlying2 (zeroI _) (keyS hs)
  have e := (hr.at_ nm).symm.trans hat
  injection e with e
  injection e with _ e
  rw [e]
  exact hrun

def CCRes (w w' : World) (ps : List PP) (fs : List PF) (cb mb k0 : Nat) (ok : Bool) : Prop :=
  ok = (decide (ps.length ≤ 1000) && pendsOk ps fs) ∧ Turn w w' cb mb ∧ (ok = true → w'.heap[cb]? = some (.cells #[.map (some mb), .int .i64 (totalI (lastF ps fs))] 99) ∧ ∃ D, MapAt w' mb (k0 + ps.length) D ∧ Rep D (lastF ps fs))

set_option maxRecDepth 100000 in
set_option maxHeartbeats 2000000 in
theorem countCache_any (b : Option Addr) (m d : Nat) (ps : List PP) (fs : List PF) (w : World) (A B S cb mb k0 : Nat) (D0 : DataW Unit) (hP : PendsAt w A B b m d ps) (hBS : B ≤ S) (hS : S ≤ w.heap.size) (h1 : S ≤ cb) (h2 : S ≤ mb)
    (hcb : w.heap[cb]? = some (.cells #[.map (some mb), .int .i64 (totalI fs)] 99)) (hM : MapAt w mb k0 D0) (hR : Rep D0 fs) (hI : Inv fs) (hk0 : k0 ≤ 1048576) (ht0 : totalI fs ≤ 1073741824) :
    Calls Try.prog 87 #[.pointer (some ⟨cb, 0, none⟩), .slice b m d] w fun e w' => ∃ ok : Bool, e = .returned (.bool ok) ∧ CCRes w w' ps fs cb mb k0 ok := by
  obtain ⟨hl, hnc, hc, pcell⟩ := hP
  unfold maxLen at hc
  by_cases hm : 1000 < m
  · have d1 : decide ((1000 : Int) < (m : Int)) = true := by simp; omega
    clear hcb hM hR hI
    go_enter Try.func87, Try.ntmps87
    go_wp2
    go_ret
    exact ⟨false, rfl, by rw [show decide (ps.length ≤ 1000) = false by simp; omega]; simp, Turn.refl _ _ _, fun h => by cases h⟩
  · have d1 : decide ((1000 : Int) < (m : Int)) = false := by simp; omega
    have hpl : decide (ps.length ≤ 1000) = true := by simp; omega
    have HPL : Hid (decide (ps.length ≤ 1000) = true) := hpl
    have HCB0 : Hid (w.heap[cb]? = some (.cells #[.map (some mb), .int .i64 (totalI fs)] 99)) := hcb
    have hcl : cb < w.heap.size := (Array.getElem?_eq_some_iff.1 hcb).1
    clear hcb hpl
    go_enter Try.func87, Try.ntmps87
    go_wp2
    clear d1
    go_loopw [6, 12] (fun pv i wr => ∃ (k : Nat) (fk : List PF) (D : DataW Unit), k ≤ m ∧ i = .int .i64 k ∧ Hid (wr.heap[cb]? = some (.cells #[.map (some mb), .int .i64 (totalI fk)] 99)) ∧ MapAt wr mb (k0 + k) D ∧ Rep D fk ∧ Inv fk ∧ Hid (pendsOk ps fs = pendsOk (ps.drop k) fk) ∧ Hid (lastF ps fs = lastF (ps.drop k) fk) ∧ Hid (totalI fk ≤ 1073741824 + k) ∧ Turn w wr cb mb) (fun _ i _ => m - (intOf i).toNat)
    case atStart => exact ⟨0, fs, D0, Nat.zero_le _, rfl, HCB0, hM, hR, hI, rfl, rfl, by show _ ≤ _; omega, Turn.refl _ _ _⟩
    case round =>
      clear hM hR hI ht0
      obtain ⟨k, fk, D, hk, rfl, hCB, hM, hR, hI, hpo, hla, htk, hT⟩ := hrel
      have hClr : cb < wr.heap.size := Nat.lt_of_lt_of_le hcl hT.size
      obtain ⟨⟨m0, m1⟩, fm0, fm1⟩ := two_cells hCB.out
      have hbw := hT.below hS h1 h2
      by_cases hlt : k < m
      · obtain ⟨pb, poff, rfl, hpb, hpc⟩ := pcell (by omega)
        have e1 := (hpc k hlt).below hpb (hbw.mono hBS)
        have hdr : ps.drop k = ps.getD k (ByteArray.empty, 0, []) :: ps.drop (k + 1) := by
          rw [List.drop_eq_getElem_cons (by omega)]; simp [List.getD, List.getElem?_eq_getElem (show k < ps.length by omega)]
        obtain ⟨p, hp⟩ : ∃ p, p = ps.getD k (ByteArray.empty, 0, []) := ⟨_, rfl⟩
        rw [← hp] at e1 hdr
        clear hp
        obtain ⟨nm, pq, pd⟩ := p
        have HD : Hid (ps.drop k = (nm, pq, pd) :: ps.drop (k + 1)) := hdr
        clear hdr
        obtain ⟨g1, g2, g3, g4, da, dn, dc, g5, g6⟩ := e1
        simp only at g1 g2 g3 g4 g6
        have hdn := g6.1
        have hbk : pb < wr.heap.size := by have := hT.size; omega
        have hlk := look_at (w := wr.alloc (.cells #[.string nm, .int .i64 pq, .slice da dn dc] 77)) (hM.keep (Below.heap_alloc _ _ _ hM.lt)) hR g2
        have hle := lenI_le_total fk nm
        clear hpc pcell g6
        by_cases t1 : nameB nm = true
        · by_cases t2 : dn = 128
          · subst t2
            have s2 : (((128 : Nat) : Int) != 128) = false := by simp
            by_cases t3 : pq < 0
            · have HB : Hid (false = (decide (ps.length ≤ 1000) && pendsOk ps fs)) := by
                show _ = _
                rw [hpo.out, HD.out]; simp [pendsOk, pendOk, show ¬ 0 ≤ pq by omega]
              have s3 : decide (pq < 0) = true := by simp; omega
              have hTT := fun q => hT.trans (Turn.of_below (cb := cb) (mb := mb) (below_dn (o := (.cells #[.string nm, .int .i64 pq, .slice da 128 dc] 77)) (q := q) (Below.refl wr.heap.size wr) (Nat.le_refl _)))
              have HTT : Hid (∀ q, Turn w ((wr.alloc (.cells #[.string nm, .int .i64 pq, .slice da 128 dc] 77)).drewN q) cb mb) := hTT
              generalize lenI fk nm = ln at *
              clear hTT
              go_wp2_with fail
              go_quiet ((go_at_call 57; exact Calls.quiet_of_same (isName_any _ _ g2)))
              go_wp2
              go_ret
              exact ⟨false, rfl, HB.out, HTT.out _, fun h => by cases h⟩
            · by_cases t4 : lenI fk nm < pq
              · have HB : Hid (false = (decide (ps.length ≤ 1000) && pendsOk ps fs)) := by
                  show _ = _
                  rw [hpo.out, HD.out]; simp [pendsOk, pendOk, show ¬ pq ≤ lenI fk nm by omega]
                have s3 : decide (pq < 0) = false := by simp; omega
                have s4 : decide (lenI fk nm < pq) = true := by simp; omega
                have hTT := fun q => hT.trans (Turn.of_below (cb := cb) (mb := mb) (below_dn (o := (.cells #[.string nm, .int .i64 pq, .slice da 128 dc] 77)) (q := q) (Below.refl wr.heap.size wr) (Nat.le_refl _)))
                have HTT : Hid (∀ q, Turn w ((wr.alloc (.cells #[.string nm, .int .i64 pq, .slice da 128 dc] 77)).drewN q) cb mb) := hTT
                generalize lenI fk nm = ln at *
                clear hTT
                go_wp2_with fail
                go_quiet ((go_at_call 57; exact Calls.quiet_of_same (isName_any _ _ g2)))
                go_wp2
                go_ret
                exact ⟨false, rfl, HB.out, HTT.out _, fun h => by cases h⟩
              · obtain ⟨pgN, rfl⟩ := Int.eq_ofNat_of_zero_le (show 0 ≤ pq by omega)
                have s3 : decide ((pgN : Int) < 0) = false := by simp
                have s4 : decide (lenI fk nm < (pgN : Int)) = false := by simp; omega
                have hpk : pendOk fk (nm, (pgN : Int), pd) = true := by simp [pendOk, t1, hdn]; omega
                have hst : stepP fk (nm, (pgN : Int), pd) = doP fk nm pgN pd := by simp [stepP]
                have hpo2 : Hid (pendsOk ps fs = pendsOk (ps.drop (k + 1)) (doP fk nm pgN pd)) := by
                  show _ = _
                  rw [hpo.out, HD.out]; simp only [pendsOk]; rw [hpk, hst]; simp
                have hla2 : Hid (lastF ps fs = lastF (ps.drop (k + 1)) (doP fk nm pgN pd)) := by
                  show _ = _
                  rw [hla.out, HD.out]; simp only [lastF]; rw [hst]
                have hI2 := doP_inv (nm := nm) (pg := pgN) (bs := pd) hI
                have htot := doP_total2 (bs := pd) hI (show (pgN : Int) ≤ lenI fk nm by omega)
                have hrp := Rep.pend (bs := pd) hR hI (show (pgN : Int) ≤ lenI fk nm by omega)
                have htk' := htk.out
                have hbX : Below wr.heap.size wr (wr.alloc (.cells #[.string nm, .int .i64 (pgN : Int), .slice da 128 dc] 77)) := (Below.refl _ _).alloc (Nat.le_refl _) _
                by_cases t5 : (pgN : Int) = lenI fk nm
                · have s5 : ((pgN : Int) == lenI fk nm) = true := by simp [t5]
                  have HRP : Hid (Rep (D.put (keyL nm) (.lit (.int .i64 (lenI fk nm + 1)))) (doP fk nm pgN pd)) := hrp.1 t5
                  rw [if_pos t5] at htot
                  have HTO : Hid (totalI (doP fk nm pgN pd) = totalI fk + 1) := htot
                  have HAT : Hid (D.atKey (keyL nm) (.lit (.int .i64 0)) = .lit (.int .i64 (lenI fk nm))) := hR.at_ nm
                  have HT5 : Hid ((pgN : Int) = lenI fk nm) := t5
                  have htb := totalI_bd fk
                  clear hrp htot t5 hpk hst hI hR
                  generalize doP fk nm pgN pd = f2 at *
                  generalize lenI fk nm = ln at *
                  generalize totalI fk = tk at *
                  go_wp2_with fail
                  go_quiet ((go_at_call 57; exact Calls.quiet_of_same (isName_any _ _ g2)))
                  go_wp2_with fail
                  go_quiet (fail)
                  go_wp2_with fail
                  refine (add_any nm 1 ln tk cb mb (k0 + k) D _ (by exact (hbX.block _ hClr).trans hCB.out) (by exact hM.keep (hbX.block _ hM.lt)) (by omega) HAT.out g2 (by omega) (by omega) (by omega) (by omega) (by omega) (by omega)).mono ?_
                  rintro e w3 ⟨rfl, hc3, hm3, ht3⟩
                  have hC3 : Hid (w3.heap[cb]? = some (.cells #[.map (some mb), .int .i64 (totalI f2)] 99)) := by show _ = _; rw [HTO.out]; exact hc3
                  have hT3 : Turn w w3 cb mb := (hT.trans (Turn.of_below (b := (wr.alloc (.cells #[.string nm, .int .i64 (pgN : Int), .slice da 128 dc] 77))) hbX)).trans ⟨ht3.os, ht3.tape, ht3.output, ht3.size, ht3.block⟩
                  have htk3 : Hid (totalI f2 ≤ 1073741824 + ((k + 1 : Nat) : Int)) := by show _ ≤ _; rw [HTO.out]; omega
                  clear hc3 ht3 hM hT hCB m0 m1 fm0 fm1 hlk
                  go_wp2
                  go_roundw
                  case rel => exact ⟨k + 1, f2, _, by omega, by go_num, hC3, by rw [← Nat.add_assoc]; exact hm3, HRP.out, hI2, hpo2, hla2, htk3, hT3⟩
                  case measure => simp [intOf]; omega
                · have s5 : ((pgN : Int) == lenI fk nm) = false := by simp [t5]
                  have HRP : Rep D (doP fk nm pgN pd) := hrp.2 t5
                  rw [if_neg t5] at htot
                  have htot2 : totalI (doP fk nm pgN pd) = totalI fk := by omega
                  have HTO : Hid (totalI (doP fk nm pgN pd) = totalI fk) := htot2
                  clear hrp htot htot2 hpk hst hI hR
                  generalize doP fk nm pgN pd = f2 at *
                  generalize lenI fk nm = ln at *
                  generalize totalI fk = tk at *
                  go_wp2_with fail
                  go_quiet ((go_at_call 57; exact Calls.quiet_of_same (isName_any _ _ g2)))
                  go_wp2_with fail
                  go_quiet (fail)
                  go_wp2
                  go_roundw
                  case rel => exact ⟨k + 1, f2, D, by omega, by go_num, by show _ = _; rw [HTO.out]; exact (hbX.block _ hClr).trans hCB.out, (hM.keep (hbX.block _ hM.lt)).mono (by omega), HRP, hI2, hpo2, hla2, by show _ ≤ _; rw [HTO.out]; omega, hT.trans (Turn.of_below (below_dn (Below.refl _ _) (Nat.le_refl _)))⟩
                  case measure => simp [intOf]; omega
          · have HB : Hid (false = (decide (ps.length ≤ 1000) && pendsOk ps fs)) := by
              show _ = _
              rw [hpo.out, HD.out]; simp [pendsOk, pendOk, hdn, t2]
            have s2 : ((dn : Int) != 128) = true := by simp; omega
            have hTT := fun q => hT.trans (Turn.of_below (cb := cb) (mb := mb) (below_dn (o := (.cells #[.string nm, .int .i64 pq, .slice da dn dc] 77)) (q := q) (Below.refl wr.heap.size wr) (Nat.le_refl _)))
            have HTT : Hid (∀ q, Turn w ((wr.alloc (.cells #[.string nm, .int .i64 pq, .slice da dn dc] 77)).drewN q) cb mb) := hTT
            generalize lenI fk nm = ln at *
            clear hTT
            go_wp2_with fail
            go_quiet ((go_at_call 57; exact Calls.quiet_of_same (isName_any _ _ g2)))
            go_wp2
            go_ret
            exact ⟨false, rfl, HB.out, HTT.out _, fun h => by cases h⟩
        · have t1' : nameB nm = false := by simpa using t1
          have HB : Hid (false = (decide (ps.length ≤ 1000) && pendsOk ps fs)) := by
            show _ = _
            rw [hpo.out, HD.out]; simp [pendsOk, pendOk, t1']
          have hTT := fun q => hT.trans (Turn.of_below (cb := cb) (mb := mb) (below_dn (o := (.cells #[.string nm, .int .i64 pq, .slice da dn dc] 77)) (q := q) (Below.refl wr.heap.size wr) (Nat.le_refl _)))
          have HTT : Hid (∀ q, Turn w ((wr.alloc (.cells #[.string nm, .int .i64 pq, .slice da dn dc] 77)).drewN q) cb mb) := hTT
          generalize lenI fk nm = ln at *
          clear hTT
          go_wp2_with fail
          go_quiet ((go_at_call 57; exact Calls.quiet_of_same (isName_any _ _ g2)))
          go_wp2
          go_ret
          exact ⟨false, rfl, HB.out, HTT.out _, fun h => by cases h⟩
      · have HE : Hid (true = (decide (ps.length ≤ 1000) && pendsOk ps fs)) := by
          show _ = _
          rw [HPL.out, hpo.out, List.drop_eq_nil_of_le (by omega)]; rfl
        have HL : Hid (lastF ps fs = fk) := by show _ = _; rw [hla.out, List.drop_eq_nil_of_le (by omega)]; rfl
        have hkm : k = ps.length := by omega
        have HCE : Hid (wr.heap[cb]? = some (.cells #[.map (some mb), .int .i64 (totalI (lastF ps fs))] 99)) := by show _ = _; rw [HL.out]; exact hCB.out
        generalize totalI fk = tk at *
        go_wp2
        go_ret
        exact ⟨true, rfl, HE.out, hT, fun _ => ⟨HCE.out, D, by rw [← hkm]; exact hM, by rw [HL.out]; exact hR⟩⟩
end Go.Proofs.Ytmmdkjeoadlikaa
