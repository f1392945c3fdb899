import Derived.Test.YtnpndbicmamggaaGreatGAA
import Derived.Test.YtnpndbicmamggaaGreatGBF
import Derived.Maps.OwnSet
import Derived.Deep.RegionHeld3
import Derived.Test.YtnpndbicmamggaaGreatChecked
namespace Go.Proofs.YtnpndbicmamggaaGreat
open Go.RowKit Go.Maps
set_option linter.unusedVariables false
set_option maxRecDepth 100000

def pendsOk : List PP → List PF → Bool
  | [], _ => true
  | p :: r, fs => pendOk fs p && pendsOk r (stepP fs p)
def lastF : List PP → List PF → List PF
  | [], fs => fs
  | p :: r, fs => lastF r (stepP fs p)
theorem cacheI_eq (cp : Int) : ∀ (ps : List PP) (fs : List PF), cacheI cp ps fs = (pendsOk ps fs && fitsB cp (lastF ps fs))
  | [], fs => by simp [cacheI, pendsOk, lastF]
  | p :: r, fs => by simp only [cacheI, pendsOk, lastF]; rw [cacheI_eq cp r]; simp [Bool.and_assoc]

theorem look_at {w : World} {mb k : Nat} {D : DataW Unit} {fs : List PF} {nm : ByteArray} (h : MapAt w mb k D) (hr : Rep D fs) (hs : nm.size ≤ maxLen) : ∀ q, (Instr.lookup 75 (.map (some mb)) (.string nm) false).run Tryz.prog (w.drewN q) = .ok (.int .i64 (lenI fs nm)) (w.drewN q) := by
  intro q
  have h2 : (w.drewN q).ownsMap Tryz.prog 9 (plainElem Tryz.prog 2) mb k D := MapAt.keep (w' := w.drewN q) h rfl
  obtain ⟨c, hrun, hat, _⟩ := h2.lookup_int lawS Tryz.underlying75 Tryz.underlying2 (zeroI _) (keyS hs)
  have e := (hr.at_ nm).symm.trans hat
  injection e with e
  injection e with _ e
  rw [e]
  exact hrun

def CCRes (w w' : World) (ps : List PP) (fs : List PF) (cb mb k0 : Nat) (ok : Bool) : Prop :=
  ok = (decide (ps.length ≤ 1000) && pendsOk ps fs) ∧ Turn w w' cb mb ∧ (ok = true → w'.heap[cb]? = some (.cells #[.map (some mb), .int .i64 (totalI (lastF ps fs))] 77) ∧ ∃ D, MapAt w' mb (k0 + ps.length) D ∧ Rep D (lastF ps fs))

set_option maxRecDepth 100000 in
set_option maxHeartbeats 2000000 in
theorem countCache_any (b : Option Addr) (m d : Nat) (ps : List PP) (fs : List PF) (w : World) (A B S cb mb k0 : Nat) (D0 : DataW Unit) (hP : PendsAt w A B b m d ps) (hBS : B ≤ S) (hS : S ≤ w.heap.size) (h1 : S ≤ cb) (h2 : S ≤ mb)
    (hcb : w.heap[cb]? = some (.cells #[.map (some mb), .int .i64 (totalI fs)] 77)) (hM : MapAt w mb k0 D0) (hR : Rep D0 fs) (hI : Inv fs) (hk0 : k0 ≤ 1048576) (ht0 : totalI fs ≤ 1073741824) :
    Calls Tryz.prog 50 #[.pointer (some ⟨cb, 0, none⟩), .slice b m d] w fun e w' => ∃ ok : Bool, e = .returned (.bool ok) ∧ CCRes w w' ps fs cb mb k0 ok := by
  obtain ⟨hl, hnc, hc, pcell⟩ := hP
  unfold maxLen at hc
  by_cases hm : 1000 < m
  · have d1 : decide ((1000 : Int) < (m : Int)) = true := by simp; omega
    clear hcb hM hR hI
    go_enter Tryz.func50, Tryz.ntmps50
    go_wp2
    go_ret
    exact ⟨false, rfl, by rw [show decide (ps.length ≤ 1000) = false by simp; omega]; simp, Turn.refl _ _ _, fun h => by cases h⟩
  · have d1 : decide ((1000 : Int) < (m : Int)) = false := by simp; omega
    have hpl : decide (ps.length ≤ 1000) = true := by simp; omega
    have HPL : Hid (decide (ps.length ≤ 1000) = true) := hpl
    have HCB0 : Hid (w.heap[cb]? = some (.cells #[.map (some mb), .int .i64 (totalI fs)] 77)) := hcb
    have hcl : cb < w.heap.size := (Array.getElem?_eq_some_iff.1 hcb).1
    clear hcb hpl
    go_enter Tryz.func50, Tryz.ntmps50
    go_wp2
    clear d1
    go_loopw [6, 12] (fun pv i wr => ∃ (k : Nat) (fk : List PF) (D : DataW Unit), k ≤ m ∧ i = .int .i64 k ∧ Hid (wr.heap[cb]? = some (.cells #[.map (some mb), .int .i64 (totalI fk)] 77)) ∧ MapAt wr mb (k0 + k) D ∧ Rep D fk ∧ Inv fk ∧ Hid (pendsOk ps fs = pendsOk (ps.drop k) fk) ∧ Hid (lastF ps fs = lastF (ps.drop k) fk) ∧ Hid (totalI fk ≤ 1073741824 + k) ∧ Turn w wr cb mb) (fun _ i _ => m - (intOf i).toNat)
    case atStart => exact ⟨0, fs, D0, Nat.zero_le _, rfl, HCB0, hM, hR, hI, rfl, rfl, by show _ ≤ _; omega, Turn.refl _ _ _⟩
    case round =>
      clear hM hR hI ht0
      obtain ⟨k, fk, D, hk, rfl, hCB, hM, hR, hI, hpo, hla, htk, hT⟩ := hrel
      have hClr : cb < wr.heap.size := Nat.lt_of_lt_of_le hcl hT.size
      obtain ⟨⟨m0, m1⟩, fm0, fm1⟩ := two_cells hCB.out
      have hbw := hT.below hS h1 h2
      by_cases hlt : k < m
      · obtain ⟨pb, poff, rfl, hpb, hpc⟩ := pcell (by omega)
        have e1 := (hpc k hlt).below hpb (hbw.mono hBS)
        have hdr : ps.drop k = ps.getD k (ByteArray.empty, 0, []) :: ps.drop (k + 1) := by
          rw [List.drop_eq_getElem_cons (by omega)]; simp [List.getD, List.getElem?_eq_getElem (show k < ps.length by omega)]
        obtain ⟨p, hp⟩ : ∃ p, p = ps.getD k (ByteArray.empty, 0, []) := ⟨_, rfl⟩
        rw [← hp] at e1 hdr
        clear hp
        obtain ⟨nm, pq, pd⟩ := p
        have HD : Hid (ps.drop k = (nm, pq, pd) :: ps.drop (k + 1)) := hdr
        clear hdr
        obtain ⟨g1, g2, g3, g4, da, dn, dc, g5, g6⟩ := e1
        simp only at g1 g2 g3 g4 g6
        have hdn := g6.1
        have hbk : pb < wr.heap.size := by have := hT.size; omega
        have hlk := look_at (w := wr.alloc (.cells #[.string nm, .int .i64 pq, .slice da dn dc] 73)) (hM.keep (Below.heap_alloc _ _ _ hM.lt)) hR g2
        have hle := lenI_le_total fk nm
        clear hpc pcell g6
        by_cases t1 : nameB nm = true
        · by_cases t2 : dn = 128
          · subst t2
            have s2 : (((128 : Nat) : Int) != 128) = false := by simp
            by_cases t3 : pq < 0
            · have HB : Hid (false = (decide (ps.length ≤ 1000) && pendsOk ps fs)) := by
                show _ = _
                rw [hpo.out, HD.out]; simp [pendsOk, pendOk, show ¬ 0 ≤ pq by omega]
              have s3 : decide (pq < 0) = true := by simp; omega
              have hTT := fun q => hT.trans (Turn.of_below (cb := cb) (mb := mb) (below_dn (o := (.cells #[.string nm, .int .i64 pq, .slice da 128 dc] 73)) (q := q) (Below.refl wr.heap.size wr) (Nat.le_refl _)))
              have HTT : Hid (∀ q, Turn w ((wr.alloc (.cells #[.string nm, .int .i64 pq, .slice da 128 dc] 73)).drewN q) cb mb) := hTT
              generalize lenI fk nm = ln at *
              clear hTT
              go_wp2_with fail
              go_quiet ((go_at_call 67; exact Calls.quiet_of_same (isName_any _ _ g2)))
              go_wp2
              go_ret
              exact ⟨false, rfl, HB.out, HTT.out _, fun h => by cases h⟩
            · by_cases t4 : lenI fk nm < pq
              · have HB : Hid (false = (decide (ps.length ≤ 1000) && pendsOk ps fs)) := by
                  show _ = _
                  rw [hpo.out, HD.out]; simp [pendsOk, pendOk, show ¬ pq ≤ lenI fk nm by omega]
                have s3 : decide (pq < 0) = false := by simp; omega
                have s4 : decide (lenI fk nm < pq) = true := by simp; omega
                have hTT := fun q => hT.trans (Turn.of_below (cb := cb) (mb := mb) (below_dn (o := (.cells #[.string nm, .int .i64 pq, .slice da 128 dc] 73)) (q := q) (Below.refl wr.heap.size wr) (Nat.le_refl _)))
                have HTT : Hid (∀ q, Turn w ((wr.alloc (.cells #[.string nm, .int .i64 pq, .slice da 128 dc] 73)).drewN q) cb mb) := hTT
                generalize lenI fk nm = ln at *
                clear hTT
                go_wp2_with fail
                go_quiet ((go_at_call 67; exact Calls.quiet_of_same (isName_any _ _ g2)))
                go_wp2
                go_ret
                exact ⟨false, rfl, HB.out, HTT.out _, fun h => by cases h⟩
              · obtain ⟨pgN, rfl⟩ := Int.eq_ofNat_of_zero_le (show 0 ≤ pq by omega)
                have s3 : decide ((pgN : Int) < 0) = false := by simp
                have s4 : decide (lenI fk nm < (pgN : Int)) = false := by simp; omega
                have hpk : pendOk fk (nm, (pgN : Int), pd) = true := by simp [pendOk, t1, hdn]; omega
                have hst : stepP fk (nm, (pgN : Int), pd) = doP fk nm pgN pd := by simp [stepP]
                have hpo2 : Hid (pendsOk ps fs = pendsOk (ps.drop (k + 1)) (doP fk nm pgN pd)) := by
                  show _ = _
                  rw [hpo.out, HD.out]; simp only [pendsOk]; rw [hpk, hst]; simp
                have hla2 : Hid (lastF ps fs = lastF (ps.drop (k + 1)) (doP fk nm pgN pd)) := by
                  show _ = _
                  rw [hla.out, HD.out]; simp only [lastF]; rw [hst]
                have hI2 := doP_inv (nm := nm) (pg := pgN) (bs := pd) hI
                have htot := doP_total2 (bs := pd) hI (show (pgN : Int) ≤ lenI fk nm by omega)
                have hrp := Rep.pend (bs := pd) hR hI (show (pgN : Int) ≤ lenI fk nm by omega)
                have htk' := htk.out
                have hbX : Below wr.heap.size wr (wr.alloc (.cells #[.string nm, .int .i64 (pgN : Int), .slice da 128 dc] 73)) := (Below.refl _ _).alloc (Nat.le_refl _) _
                by_cases t5 : (pgN : Int) = lenI fk nm
                · have s5 : ((pgN : Int) == lenI fk nm) = true := by simp [t5]
                  have HRP : Hid (Rep (D.put (keyL nm) (.lit (.int .i64 (lenI fk nm + 1)))) (doP fk nm pgN pd)) := hrp.1 t5
                  rw [if_pos t5] at htot
                  have HTO : Hid (totalI (doP fk nm pgN pd) = totalI fk + 1) := htot
                  have HAT : Hid (D.atKey (keyL nm) (.lit (.int .i64 0)) = .lit (.int .i64 (lenI fk nm))) := hR.at_ nm
                  have HT5 : Hid ((pgN : Int) = lenI fk nm) := t5
                  have htb := totalI_bd fk
                  clear hrp htot t5 hpk hst hI hR
                  generalize doP fk nm pgN pd = f2 at *
                  generalize lenI fk nm = ln at *
                  generalize totalI fk = tk at *
                  go_wp2_with fail
                  go_quiet ((go_at_call 67; exact Calls.quiet_of_same (isName_any _ _ g2)))
                  go_wp2_with fail
                  go_quiet (fail)
                  go_wp2_with fail
                  refine (add_any nm 1 ln tk cb mb (k0 + k) D _ (by exact (hbX.block _ hClr).trans hCB.out) (by exact hM.keep (hbX.block _ hM.lt)) (by omega) HAT.out g2 (by omega) (by omega) (by omega) (by omega) (by omega) (by omega)).mono ?_
                  rintro e w3 ⟨rfl, hc3, hm3, ht3⟩
                  have hC3 : Hid (w3.heap[cb]? = some (.cells #[.map (some mb), .int .i64 (totalI f2)] 77)) := by show _ = _; rw [HTO.out]; exact hc3
                  have hT3 : Turn w w3 cb mb := (hT.trans (Turn.of_below (b := (wr.alloc (.cells #[.string nm, .int .i64 (pgN : Int), .slice da 128 dc] 73))) hbX)).trans ⟨ht3.os, ht3.tape, ht3.output, ht3.size, ht3.block⟩
                  have htk3 : Hid (totalI f2 ≤ 1073741824 + ((k + 1 : Nat) : Int)) := by show _ ≤ _; rw [HTO.out]; omega
                  clear hc3 ht3 hM hT hCB m0 m1 fm0 fm1 hlk
                  go_wp2
                  go_roundw
                  case rel => exact ⟨k + 1, f2, _, by omega, by go_num, hC3, by rw [← Nat.add_assoc]; exact hm3, HRP.out, hI2, hpo2, hla2, htk3, hT3⟩
                  case measure => simp [intOf]; omega
                · have s5 : ((pgN : Int) == lenI fk nm) = false := by simp [t5]
                  have HRP : Rep D (doP fk nm pgN pd) := hrp.2 t5
                  rw [if_neg t5] at htot
                  have htot2 : totalI (doP fk nm pgN pd) = totalI fk := by omega
                  have HTO : Hid (totalI (doP fk nm pgN pd) = totalI fk) := htot2
                  clear hrp htot htot2 hpk hst hI hR
                  generalize doP fk nm pgN pd = f2 at *
                  generalize lenI fk nm = ln at *
                  generalize totalI fk = tk at *
                  go_wp2_with fail
                  go_quiet ((go_at_call 67; exact Calls.quiet_of_same (isName_any _ _ g2)))
                  go_wp2_with fail
                  go_quiet (fail)
                  go_wp2
                  go_roundw
                  case rel => exact ⟨k + 1, f2, D, by omega, by go_num, by show _ = _; rw [HTO.out]; exact (hbX.block _ hClr).trans hCB.out, (hM.keep (hbX.block _ hM.lt)).mono (by omega), HRP, hI2, hpo2, hla2, by show _ ≤ _; rw [HTO.out]; omega, hT.trans (Turn.of_below (below_dn (Below.refl _ _) (Nat.le_refl _)))⟩
                  case measure => simp [intOf]; omega
          · have HB : Hid (false = (decide (ps.length ≤ 1000) && pendsOk ps fs)) := by
              show _ = _
              rw [hpo.out, HD.out]; simp [pendsOk, pendOk, hdn, t2]
            have s2 : ((dn : Int) != 128) = true := by simp; omega
            have hTT := fun q => hT.trans (Turn.of_below (cb := cb) (mb := mb) (below_dn (o := (.cells #[.string nm, .int .i64 pq, .slice da dn dc] 73)) (q := q) (Below.refl wr.heap.size wr) (Nat.le_refl _)))
            have HTT : Hid (∀ q, Turn w ((wr.alloc (.cells #[.string nm, .int .i64 pq, .slice da dn dc] 73)).drewN q) cb mb) := hTT
            generalize lenI fk nm = ln at *
            clear hTT
            go_wp2_with fail
            go_quiet ((go_at_call 67; exact Calls.quiet_of_same (isName_any _ _ g2)))
            go_wp2
            go_ret
            exact ⟨false, rfl, HB.out, HTT.out _, fun h => by cases h⟩
        · have t1' : nameB nm = false := by simpa using t1
          have HB : Hid (false = (decide (ps.length ≤ 1000) && pendsOk ps fs)) := by
            show _ = _
            rw [hpo.out, HD.out]; simp [pendsOk, pendOk, t1']
          have hTT := fun q => hT.trans (Turn.of_below (cb := cb) (mb := mb) (below_dn (o := (.cells #[.string nm, .int .i64 pq, .slice da dn dc] 73)) (q := q) (Below.refl wr.heap.size wr) (Nat.le_refl _)))
          have HTT : Hid (∀ q, Turn w ((wr.alloc (.cells #[.string nm, .int .i64 pq, .slice da dn dc] 73)).drewN q) cb mb) := hTT
          generalize lenI fk nm = ln at *
          clear hTT
          go_wp2_with fail
          go_quiet ((go_at_call 67; exact Calls.quiet_of_same (isName_any _ _ g2)))
          go_wp2
          go_ret
          exact ⟨false, rfl, HB.out, HTT.out _, fun h => by cases h⟩
      · have HE : Hid (true = (decide (ps.length ≤ 1000) && pendsOk ps fs)) := by
          show _ = _
          rw [HPL.out, hpo.out, List.drop_eq_nil_of_le (by omega)]; rfl
        have HL : Hid (lastF ps fs = fk) := by show _ = _; rw [hla.out, List.drop_eq_nil_of_le (by omega)]; rfl
        have hkm : k = ps.length := by omega
        have HCE : Hid (wr.heap[cb]? = some (.cells #[.map (some mb), .int .i64 (totalI (lastF ps fs))] 77)) := by show _ = _; rw [HL.out]; exact hCB.out
        generalize totalI fk = tk at *
        go_wp2
        go_ret
        exact ⟨true, rfl, HE.out, hT, fun _ => ⟨HCE.out, D, by rw [← hkm]; exact hM, by rw [HL.out]; exact hR⟩⟩
end Go.Proofs.YtnpndbicmamggaaGreat
namespace Go.Proofs.YtnpndbicmamggaaGreat
open Go.RowKit Go.Maps
set_option linter.unusedVariables false
set_option maxRecDepth 100000

def CSRes (w w' : World) (fs : List PF) (ps : List PP) (cp fu : Int) (r : Option Nat) (t : Int) (ok : Bool) : Prop :=
  ok = implV fs ps cp fu ∧ Below w.heap.size w w' ∧ (ok = true → t = totalI (lastF ps fs) ∧ ∃ mb k D, r = some mb ∧ w.heap.size ≤ mb ∧ MapAt w' mb k D ∧ Rep D (lastF ps fs))
theorem inv_all {fs : List PF} (h : filesOk fs = true) : Inv fs := by
  have h2 : ∀ i, i < fs.length → fileOk fs i = true := of_decide_eq_true h
  have := inv_of_ok (k := fs.length) (Nat.le_refl _) h2
  rwa [List.take_length] at this
theorem implV_head {fs : List PF} {ps : List PP} {cp fu : Int} (h : ¬ (0 ≤ cp ∧ cp ≤ 1000 ∧ -1 ≤ fu ∧ fu ≤ 1000000)) : false = implV fs ps cp fu := by simp [implV, h]

set_option maxHeartbeats 2000000 in
theorem countSeen_head (v0 v1 : Value) (cp fu : Int) (de : Bool) (w : World) (h : ¬ (0 ≤ cp ∧ cp ≤ 1000 ∧ -1 ≤ fu ∧ fu ≤ 1000000)) :
    Calls Tryz.prog 31 #[.agg #[v0, v1, .int .i64 cp, .int .i64 fu, .bool de]] w fun e w' => e = .returned (.tuple #[.agg #[.map none, .int .i64 0], .bool false]) ∧ Below w.heap.size w w' := by
  by_cases t1 : cp < 0
  · have s1 : decide (cp < 0) = true := by simp; omega
    clear h
    go_enter Tryz.func31, Tryz.ntmps31
    go_wp2
    exact bodyPost_ret (v := .tuple #[.agg #[.map none, .int .i64 0], .bool false]) (by simp [results, Tryz.results31, go_sem]) rfl ⟨rfl, ((Below.refl _ _).alloc (Nat.le_refl _) _).alloc (by simp) _⟩
  · have s1 : decide (cp < 0) = false := by simp; omega
    by_cases t2 : 1000 < cp
    · have s2 : decide ((1000 : Int) < cp) = true := by simp; omega
      clear h
      go_enter Tryz.func31, Tryz.ntmps31
      go_wp2
      exact bodyPost_ret (v := .tuple #[.agg #[.map none, .int .i64 0], .bool false]) (by simp [results, Tryz.results31, go_sem]) rfl ⟨rfl, ((Below.refl _ _).alloc (Nat.le_refl _) _).alloc (by simp) _⟩
    · have s2 : decide ((1000 : Int) < cp) = false := by simp; omega
      by_cases t3 : fu < -1
      · have s3 : decide (fu < -1) = true := by simp; omega
        clear h
        go_enter Tryz.func31, Tryz.ntmps31
        go_wp2
        exact bodyPost_ret (v := .tuple #[.agg #[.map none, .int .i64 0], .bool false]) (by simp [results, Tryz.results31, go_sem]) rfl ⟨rfl, ((Below.refl _ _).alloc (Nat.le_refl _) _).alloc (by simp) _⟩
      · have s3 : decide (fu < -1) = false := by simp; omega
        have s4 : decide ((1000000 : Int) < fu) = true := by simp; omega
        clear h
        go_enter Tryz.func31, Tryz.ntmps31
        go_wp2
        exact bodyPost_ret (v := .tuple #[.agg #[.map none, .int .i64 0], .bool false]) (by simp [results, Tryz.results31, go_sem]) rfl ⟨rfl, ((Below.refl _ _).alloc (Nat.le_refl _) _).alloc (by simp) _⟩

set_option maxRecDepth 100000 in
set_option maxHeartbeats 2000000 in
theorem countSeen_main (a : Option Addr) (n c : Nat) (fs : List PF) (b : Option Addr) (m d : Nat) (ps : List PP) (cp fu : Int) (de : Bool) (w : World) (A B : Nat) (hB : B ≤ w.heap.size) (hF : FilesAt w A B a n c fs) (hP : PendsAt w A B b m d ps)
    (hall : ∀ j, j < n → (fs.getD j (ByteArray.empty, [])).2.length ≤ 1048576) (h : 0 ≤ cp ∧ cp ≤ 1000 ∧ -1 ≤ fu ∧ fu ≤ 1000000) :
    Calls Tryz.prog 31 #[.agg #[.slice a n c, .slice b m d, .int .i64 cp, .int .i64 fu, .bool de]] w fun e w' => ∃ (r : Option Nat) (t : Int) (ok : Bool), e = .returned (.tuple #[.agg #[.map r, .int .i64 t], .bool ok]) ∧ CSRes w w' fs ps cp fu r t ok := by
  obtain ⟨h1, h2, h3, h4⟩ := h
  have s1 : decide (cp < 0) = false := by simp; omega
  have s2 : decide ((1000 : Int) < cp) = false := by simp; omega
  have s3 : decide (fu < -1) = false := by simp; omega
  have s4 : decide ((1000000 : Int) < fu) = false := by simp; omega
  have hb0 : Below w.heap.size w ((w.alloc (.cells #[.slice a n c, .slice b m d, .int .i64 cp, .int .i64 fu, .bool de] 35)).alloc (.cells #[.map none, .int .i64 0] 77)) := ((Below.refl _ _).alloc (Nat.le_refl _) _).alloc (by simp) _
  have hfl := hF.1
  have HIV : Hid (implV fs ps cp fu = (decide (fs.length ≤ 12) && filesOk fs && (decide (ps.length ≤ 1000) && cacheI cp ps fs))) := by
    show _ = _
    unfold implV
    rw [show decide (0 ≤ cp ∧ cp ≤ 1000 ∧ -1 ≤ fu ∧ fu ≤ 1000000) = true from decide_eq_true ⟨h1, h2, h3, h4⟩]
    simp [Bool.and_assoc]
  go_enter Tryz.func31, Tryz.ntmps31
  go_wp2_with fail
  clear s1 s2 s3 s4
  refine (countFiles_any _ _ _ fs _ A B (by simp; omega) (hF.below (hb0.mono hB)) hall).mono ?_
  rintro e w1 ⟨mb, t, ok, rfl, hok, hmb, hyes, hb1⟩
  simp at hmb
  have hz := hb1.size
  simp at hz
  have hz1 : w.heap.size < w1.heap.size := by omega
  have hz2 : w.heap.size + 1 < w1.heap.size := by omega
  obtain ⟨hc1, hf1⟩ := bcell hb1
  have hbel1 := hb0.trans (hb1.mono (by simp; omega))
  cases ok with
  | false =>
    have HB : Hid (false = implV fs ps cp fu) := by show _ = _; rw [HIV.out, ← hok]; simp
    clear hyes hok hb1
    go_wp2_with fail
    exact bodyPost_ret (v := .tuple #[.agg #[.map none, .int .i64 0], .bool false]) (by simp [results, Tryz.results31, go_sem, hc1, hz2]) rfl ⟨none, 0, false, rfl, HB.out, ((hbel1.setCell (by simp) _).setCell (by simp) _).alloc (by simp; omega) _, fun h => by cases h⟩
  | true =>
    obtain ⟨ht, D, hM, hR⟩ := hyes rfl
    subst ht
    simp only [Bool.true_eq, Bool.and_eq_true, decide_eq_true_eq] at hok
    have hI := inv_all hok.2
    have htot : totalI fs ≤ 1073741824 := by
      have := totalI_small (fs := fs) (K := 1048576) (fun j hj => hall j (by omega))
      have h12 : ((fs.length : Int)) ≤ 12 := by omega
      omega
    have HIV2 : Hid (implV fs ps cp fu = (decide (ps.length ≤ 1000) && pendsOk ps fs && fitsB cp (lastF ps fs))) := by
      show _ = _
      rw [HIV.out, cacheI_eq, hok.2, show decide (fs.length ≤ 12) = true by simp; omega]
      simp [Bool.and_assoc]
    have hb2 : Below w1.heap.size w1 (w1.alloc (.cells #[.map (some mb), .int .i64 (totalI fs)] 77)) := (Below.refl _ _).alloc (Nat.le_refl _) _
    have hbel2 : Below w.heap.size w (w1.alloc (.cells #[.map (some mb), .int .i64 (totalI fs)] 77)) := hbel1.alloc (by omega) _
    have hk0 : fs.length ≤ 1048576 := by omega
    have HN0 : Hid (w1.heap[w.heap.size]? = some (.cells #[.slice a n c, .slice b m d, .int .i64 cp, .int .i64 fu, .bool de] 35)) := by
      show _ = _
      rw [hb1.block _ (by simp; omega), Below.heap_alloc _ _ _ (by simp)]; exact heap_alloc_new w _
    have HN1 : Hid (w1.heap[w.heap.size + 1]? = some (.cells #[.map none, .int .i64 0] 77)) := by
      show _ = _
      rw [hb1.block _ (by simp)]
      have := heap_alloc_new (w.alloc (.cells #[.slice a n c, .slice b m d, .int .i64 cp, .int .i64 fu, .bool de] 35)) (.cells #[.map none, .int .i64 0] 77)
      simpa using this
    clear hyes hok hb1
    go_wp2_with fail
    refine (countCache_any _ _ _ ps fs _ A B (w.heap.size + 1 + 1) w1.heap.size mb fs.length D (hP.below (hbel2.mono hB)) (by omega) (by simp; omega) (by omega) (by omega) (heap_alloc_new w1 _) (hM.keep (hb2.block _ hM.lt)) hR hI hk0 htot).mono ?_
    rintro e w3 ⟨ok2, rfl, hok2, hT, hyes2⟩
    have hz3 := hT.size
    simp at hz3
    have hml := hM.lt
    have HN03 : w3.heap[w.heap.size]? = some (.cells #[.slice a n c, .slice b m d, .int .i64 cp, .int .i64 fu, .bool de] 35) := (hT.block _ (by simp; omega) (by omega) (by omega)).trans ((hb2.block _ hz1).trans HN0.out)
    have HN13 : w3.heap[w.heap.size + 1]? = some (.cells #[.map none, .int .i64 0] 77) := (hT.block _ (by simp; omega) (by omega) (by omega)).trans ((hb2.block _ hz2).trans HN1.out)
    obtain ⟨y0, y1, y2⟩ := box_cells HN03
    obtain ⟨⟨r0, r1⟩, fr0, fr1⟩ := two_cells HN13
    have hbel3 : Below w.heap.size w w3 := hbel2.trans (hT.below (by simp; omega) (by omega) (by omega))
    clear HN03 HN13 hT hM hR hI hc1 hf1 HN0 HN1 hb2 hbel2 hbel1
    cases ok2 with
    | false =>
      have HB : Hid (false = implV fs ps cp fu) := by show _ = _; rw [HIV2.out, ← hok2]; simp
      clear hyes2 hok2
      generalize totalI fs = tt at *
      go_wp2_with fail
      exact bodyPost_ret (v := .tuple #[.agg #[.map none, .int .i64 0], .bool false]) (by simp [results, Tryz.results31, go_sem, r0, r1]) rfl ⟨none, 0, false, rfl, HB.out, (hbel3.setCell (by simp) _).setCell (by simp) _, fun h => by cases h⟩
    | true =>
      obtain ⟨hc3, D3, hM3, hR3⟩ := hyes2 rfl
      obtain ⟨⟨q0, q1⟩, _, _⟩ := two_cells hc3
      have hM3' : w3.ownsMap Tryz.prog 9 (plainElem Tryz.prog 2) mb (fs.length + ps.length) D3 := hM3
      have hsz := hR3.size_
      have HIV3 : Hid (implV fs ps cp fu = (decide (Maps.size D3 ≤ 12) && decide (totalI (lastF ps fs) ≤ cp))) := by
        show _ = _
        rw [HIV2.out, ← hok2, hsz]; simp [fitsB]
      have HT3 : Hid (totalI (lastF ps fs) = totalI (lastF ps fs)) := rfl
      have hmap := hM3.lt
      clear hyes2 hok2 hc3 hsz
      obtain ⟨T, hTe⟩ : ∃ T, T = totalI (lastF ps fs) := ⟨_, rfl⟩
      rw [← hTe] at q1 HIV3
      have HTE : Hid (T = totalI (lastF ps fs)) := hTe
      clear hTe HT3
      generalize totalI fs = tt at *
      obtain ⟨z, hze⟩ : ∃ z, z = Maps.size D3 := ⟨_, rfl⟩
      rw [← hze] at HIV3
      have HZ : Hid (Maps.size D3 = z) := hze.symm
      clear hze
      have hlen := hM3'.len Tryz.underlying75 3
      rw [HZ.out] at hlen
      by_cases t5 : 12 < z
      · have s5 : decide ((12 : Int) < (z : Int)) = true := by simp; omega
        have HB : Hid (false = implV fs ps cp fu) := by show _ = _; rw [HIV3.out, show decide (z ≤ 12) = false by simp; omega]; simp
        go_wp2_with fail
        exact bodyPost_ret (v := .tuple #[.agg #[.map none, .int .i64 0], .bool false]) (by simp [results, Tryz.results31, go_sem, r0, r1]) rfl ⟨none, 0, false, rfl, HB.out, (hbel3.setCell (by simp) _).setCell (by simp) _, fun h => by cases h⟩
      · have s5 : decide ((12 : Int) < (z : Int)) = false := by simp; omega
        by_cases t6 : cp < T
        · have s6 : decide (cp < T) = true := by simp; omega
          have HB : Hid (false = implV fs ps cp fu) := by show _ = _; rw [HIV3.out, show decide (T ≤ cp) = false by simp; omega]; simp
          go_wp2_with fail
          exact bodyPost_ret (v := .tuple #[.agg #[.map none, .int .i64 0], .bool false]) (by simp [results, Tryz.results31, go_sem, r0, r1]) rfl ⟨none, 0, false, rfl, HB.out, (hbel3.setCell (by simp) _).setCell (by simp) _, fun h => by cases h⟩
        · have s6 : decide (cp < T) = false := by simp; omega
          have HB : Hid (true = implV fs ps cp fu) := by show _ = _; rw [HIV3.out, show decide (T ≤ cp) = true by simp; omega, show decide (z ≤ 12) = true by simp; omega]; rfl
          go_wp2_with fail
          refine bodyPost_ret (v := .tuple #[.agg #[.map (some mb), .int .i64 T], .bool true]) (by simp [results, Tryz.results31, go_sem, r0, r1]) rfl ⟨some mb, T, true, rfl, HB.out, (hbel3.setCell (by simp) _).setCell (by simp) _, fun _ => ⟨HTE.out, mb, fs.length + ps.length, D3, rfl, by omega, ?_, hR3⟩⟩
          refine hM3.keep ?_
          rw [Below.heap_setCell _ _ _ _ (by show mb ≠ w.heap.size + 1; omega), Below.heap_setCell _ _ _ _ (by show mb ≠ w.heap.size + 1; omega)]

theorem countSeen_any (a : Option Addr) (n c : Nat) (fs : List PF) (b : Option Addr) (m d : Nat) (ps : List PP) (cp fu : Int) (de : Bool) (w : World) (A B : Nat) (hB : B ≤ w.heap.size) (hF : FilesAt w A B a n c fs) (hP : PendsAt w A B b m d ps)
    (hall : ∀ j, j < n → (fs.getD j (ByteArray.empty, [])).2.length ≤ 1048576) :
    Calls Tryz.prog 31 #[.agg #[.slice a n c, .slice b m d, .int .i64 cp, .int .i64 fu, .bool de]] w fun e w' => ∃ (r : Option Nat) (t : Int) (ok : Bool), e = .returned (.tuple #[.agg #[.map r, .int .i64 t], .bool ok]) ∧ CSRes w w' fs ps cp fu r t ok := by
  by_cases h : 0 ≤ cp ∧ cp ≤ 1000 ∧ -1 ≤ fu ∧ fu ≤ 1000000
  · exact countSeen_main a n c fs b m d ps cp fu de w A B hB hF hP hall h
  · refine (countSeen_head _ _ cp fu de w h).mono ?_
    rintro e w' ⟨rfl, hb⟩
    exact ⟨none, 0, false, rfl, implV_head h, hb, fun h => by cases h⟩

set_option maxHeartbeats 400000 in
theorem implValid_any (a : Option Addr) (n c : Nat) (fs : List PF) (b : Option Addr) (m d : Nat) (ps : List PP) (cp fu : Int) (de : Bool) (w : World) (A B : Nat) (hB : B ≤ w.heap.size) (hF : FilesAt w A B a n c fs) (hP : PendsAt w A B b m d ps)
    (hall : ∀ j, j < n → (fs.getD j (ByteArray.empty, [])).2.length ≤ 1048576) :
    Calls Tryz.prog 16 #[.agg #[.slice a n c, .slice b m d, .int .i64 cp, .int .i64 fu, .bool de]] w fun e w' => e = .returned (.bool (implV fs ps cp fu)) ∧ Below w.heap.size w w' := by
  have hb0 : Below w.heap.size w (w.alloc (.cells #[.slice a n c, .slice b m d, .int .i64 cp, .int .i64 fu, .bool de] 35)) := (Below.refl _ _).alloc (Nat.le_refl _) _
  go_enter Tryz.func16, Tryz.ntmps16
  go_wp2_with fail
  refine (countSeen_any _ _ _ fs _ _ _ ps _ _ _ _ A B (by simp; omega) (hF.below (hb0.mono hB)) (hP.below (hb0.mono hB)) hall).mono ?_
  rintro e w1 ⟨r, t, ok, rfl, hok, hb1, _⟩
  have hb2 := hb0.trans (hb1.mono (by simp))
  have hz := hb1.size
  simp at hz
  have HO : Hid (ok = implV fs ps cp fu) := hok
  clear hok hb1
  go_wp2_with fail
  go_ret
  exact ⟨by rw [← HO.out]; rfl, hb2.alloc (by omega) _⟩
end Go.Proofs.YtnpndbicmamggaaGreat
namespace Go.Proofs.YtnpndbicmamggaaGreat
open Go.RowKit Go.Maps
set_option linter.unusedVariables false
set_option maxRecDepth 100000

theorem cacheS_pends {cp : Int} : ∀ (ps : List PP) (fs : List PF), cacheS cp ps fs = true → pendsOk ps fs = true
  | [], _, _ => rfl
  | p :: r, fs, h => by
    simp only [cacheS, Bool.and_eq_true] at h
    simp only [pendsOk, Bool.and_eq_true]
    exact ⟨h.1, cacheS_pends r _ h.2.2⟩

set_option maxRecDepth 100000 in
set_option maxHeartbeats 2000000 in
theorem l1Seen_any (a : Option Addr) (n c : Nat) (fs : List PF) (b : Option Addr) (m d : Nat) (ps : List PP) (cp fu : Int) (de : Bool) (w : World) (A B : Nat) (hB : B ≤ w.heap.size) (hF : FilesAt w A B a n c fs) (hP : PendsAt w A B b m d ps)
    (hn : n ≤ 12) (hcp : cp ≤ 1000) (htot : totalI fs ≤ cp) (hca : cacheS cp ps fs = true) :
    Calls Tryz.prog 27 #[.agg #[.slice a n c, .slice b m d, .int .i64 cp, .int .i64 fu, .bool de]] w fun e w' => ∃ v xs vs, e = .returned v ∧ OwnF w' (w.heap.size + 1) v (lastF ps fs) xs vs ∧ Below w.heap.size w w' := by
  have hb0 : Below w.heap.size w (w.alloc (.cells #[.slice a n c, .slice b m d, .int .i64 cp, .int .i64 fu, .bool de] 35)) := (Below.refl _ _).alloc (Nat.le_refl _) _
  have hsm := small_of_total (fs := fs) (by omega)
  have hfl := hF.1
  go_enter Tryz.func27, Tryz.ntmps27
  go_wp2_with fail
  refine (l1Files_any _ _ _ fs _ A B (by simp; omega) (hF.below (hb0.mono hB)) (by omega) (fun j hj => Nat.le_trans (hsm j (by omega)) (by omega))).mono ?_
  rintro e w1 ⟨v1, xs1, vs1, rfl, hO1, hb1⟩
  have hO1' : OwnF w1 (w.heap.size + 1) v1 fs xs1 vs1 := by simpa using hO1
  have hg1 := hb0.trans (hb1.mono (by simp))
  have hz1 : w.heap.size + 1 ≤ w1.heap.size := by simpa using hb1.size
  have hbx1 : Hid (w1.heap[w.heap.size]? = some (.cells #[.slice a n c, .slice b m d, .int .i64 cp, .int .i64 fu, .bool de] 35)) := (hb1.block _ (by simp)).trans (heap_alloc_new w _)
  obtain ⟨pl, pnc, pc0, pcell⟩ := hP
  unfold maxLen at pc0
  obtain ⟨a1, n1, c1, rfl, hn1, hF1⟩ := hO1'.files
  clear hn1 hF1
  have HCA : Hid (cacheS cp ps fs = true) := hca
  clear hO1 hb1 hca hsm
  obtain ⟨y0, y1, y2⟩ := box_cells hbx1.out
  go_wp2
  go_loopw [3, 4] (fun v i wr => ∃ (k : Nat) (fk : List PF) (xk vk : List Value) (a' : Option Addr) (n' c' : Nat), k ≤ m ∧ i = .int .i64 k ∧ v = .slice a' n' c' ∧ OwnF wr (w.heap.size + 1) (.slice a' n' c') fk xk vk ∧ Hid (fk.length ≤ 12) ∧ Hid (totalI fk ≤ cp) ∧ Hid (cacheS cp (ps.drop k) fk = true) ∧ Hid (lastF ps fs = lastF (ps.drop k) fk) ∧ Below w.heap.size w wr ∧ w.heap.size + 1 ≤ wr.heap.size ∧ Hid (wr.heap[w.heap.size]? = some (.cells #[.slice a n c, .slice b m d, .int .i64 cp, .int .i64 fu, .bool de] 35))) (fun _ i _ => m - (intOf i).toNat)
  case atStart => exact ⟨0, fs, xs1, vs1, a1, n1, c1, Nat.zero_le _, rfl, rfl, hO1', by show _ ≤ _; omega, htot, HCA, rfl, hg1, hz1, hbx1⟩
  case round =>
    clear hO1' hg1 hz1 hbx1 y0 y1 y2
    obtain ⟨k, fk, xk, vk, a', n', c', hk, rfl, rfl, hO, hl12, htk, hca, hla, hbel, hSz, hbox⟩ := hrel
    obtain ⟨y0, y1, y2⟩ := box_cells hbox.out
    by_cases hlt : k < m
    · obtain ⟨pb, poff, rfl, hpb, hpc⟩ := pcell (by omega)
      have e1 := (hpc k hlt).below hpb (hbel.mono hB)
      have e1w := hpc k hlt
      have hdr : ps.drop k = ps.getD k (ByteArray.empty, 0, []) :: ps.drop (k + 1) := by
        rw [List.drop_eq_getElem_cons (by omega)]; simp [List.getD, List.getElem?_eq_getElem (show k < ps.length by omega)]
      obtain ⟨p, hp⟩ : ∃ p, p = ps.getD k (ByteArray.empty, 0, []) := ⟨_, rfl⟩
      rw [← hp] at e1 hdr e1w
      clear hp
      obtain ⟨nm, pq, pd⟩ := p
      obtain ⟨g1, g2, g3, g4, da, dn, dc, g5, g6⟩ := e1
      simp only at g1 g2 g3 g4 g6
      have hca' := hca.out
      rw [hdr] at hca'
      simp only [cacheS, Bool.and_eq_true, pendOk, fitsB, decide_eq_true_eq, beq_iff_eq] at hca'
      obtain ⟨⟨⟨t1, t2⟩, t3, t4⟩, ⟨t5, t6⟩, t7⟩ := hca'
      obtain ⟨pgN, rfl⟩ := Int.eq_ofNat_of_zero_le t3
      have hst : stepP fk (nm, (pgN : Int), pd) = doP fk nm pgN pd := by simp [stepP]
      rw [hst] at t5 t6 t7
      have hla2 : Hid (lastF ps fs = lastF (ps.drop (k + 1)) (doP fk nm pgN pd)) := by show _ = _; rw [hla.out, hdr]; simp only [lastF]; rw [hst]
      have hle := lenI_le_total fk nm
      have htk' := htk.out
      have hl12' := hl12.out
      have hpg : pgN ≤ 1000 := by omega
      have hallk := small_of_total (fs := fk) (by omega)
      have hdn : dn = 128 := by rw [← g6.1]; exact t2
      subst hdn
      have T5 : Hid ((doP fk nm pgN pd).length ≤ 12) := t5
      have T6 : Hid (totalI (doP fk nm pgN pd) ≤ cp) := t6
      have T7 : Hid (cacheS cp (ps.drop (k + 1)) (doP fk nm pgN pd) = true) := t7
      have hbk : pb < wr.heap.size := by have := hbel.size; omega
      have HO : Hid (OwnF wr (w.heap.size + 1) (.slice a' n' c') fk xk vk) := hO
      have HG6 : Hid (BytesAt wr A B da 128 dc pd) := g6
      have HALL : Hid (∀ j, j < fk.length → (fk.getD j (ByteArray.empty, [])).2.length ≤ 1073741824) := fun j hj => Nat.le_trans (hallk j hj) (by omega)
      have hfk : fk.length ≤ 1048576 := by omega
      clear hpc pcell hO g6 hallk t5 t6 t7 hdr hst hle htk' hl12' t1 t2 t3 t4 hca htk hl12 e1w
      go_wp2
      go_region_held3 (fun w' => w'.cell? ⟨w.heap.size, 1, none⟩ = some (.slice (some ⟨pb, poff, none⟩) m d) ∧ w'.cell? ⟨pb, poff + k * 3, none⟩ = some (.string nm) ∧ w'.cell? ⟨pb, poff + k * 3 + 1, none⟩ = some (.int .i64 (pgN : Int)) ∧ w'.cell? ⟨pb, poff + k * 3 + 2, none⟩ = some (.slice da 128 dc)) (go_keep)
        (first | (go_at_call 47; refine (l1Do_any _ _ _ fk xk vk nm pgN _ _ _ pd wr.drew (w.heap.size + 1) A B hSz (HO.out.below ((Below.refl _ _).drew)) (by omega) (HG6.out.below ((Below.refl _ _).drew)) (by omega) g2 hfk (by omega) HALL.out).mono ?_; rintro e w3 ⟨v3, rfl, xs3, vs3, hO3, hb3⟩; have hbw : Below (w.heap.size + 1) wr w3 := ((Below.refl _ wr).drew).trans hb3; have z1 := (hbw.cell (p := ⟨w.heap.size, 1, none⟩) (Nat.lt_succ_self _)).trans y1; have z2 := (hbw.cell (p := ⟨pb, poff + k * 3, none⟩) (by show pb < _; omega)).trans g1; have z3 := (hbw.cell (p := ⟨pb, poff + k * 3 + 1, none⟩) (by show pb < _; omega)).trans g3; have z4 := (hbw.cell (p := ⟨pb, poff + k * 3 + 2, none⟩) (by show pb < _; omega)).trans g5))
      obtain ⟨a3, n3, c3, rfl, hn3, hF3⟩ := hO3.files
      clear hn3 hF3
      have hg3 : Below w.heap.size w w3 := hbel.trans (hbw.mono (by omega))
      have hz3 : w.heap.size + 1 ≤ w3.heap.size := Nat.le_trans hSz hbw.size
      have hbx3 : Hid (w3.heap[w.heap.size]? = some (.cells #[.slice a n c, .slice (some ⟨pb, poff, none⟩) m d, .int .i64 cp, .int .i64 fu, .bool de] 35)) := (hbw.block _ (Nat.lt_succ_self _)).trans hbox.out
      clear hb3 hbw z1 z2 z3 z4 y0 y1 y2 hbel hbox
      go_wp2
      go_roundw
      case rel => exact ⟨k + 1, doP fk nm pgN pd, xs3, vs3, a3, n3, c3, by omega, by go_num, rfl, hO3, T5, T6, T7, hla2, hg3, hz3, hbx3⟩
      case measure => simp [intOf]; omega
    · have HL : Hid (lastF ps fs = fk) := by show _ = _; rw [hla.out, List.drop_eq_nil_of_le (by omega)]; rfl
      go_wp2
      go_ret
      exact ⟨_, xk, vk, rfl, by rw [HL.out]; exact hO, hbel⟩
end Go.Proofs.YtnpndbicmamggaaGreat
namespace Go.Proofs.YtnpndbicmamggaaGreat
open Go.RowKit
set_option linter.unusedVariables false
set_option maxRecDepth 100000

set_option maxHeartbeats 400000 in
theorem szByteS_any (a : Option Addr) (n c : Nat) (left : Int) (w : World) (h0 : 0 ≤ left) (h1 : left ≤ 1048576) (hn : n ≤ maxLen) :
    Calls Tryz.prog 37 #[.slice a n c, .int .i64 left] w fun e w' => ∃ r : Int, e = .returned (.int .i64 r) ∧ (-1 ≤ r ∧ r ≤ left ∧ (0 ≤ r → r = left - n)) ∧ w' = w := by
  unfold maxLen at hn
  by_cases h : left - n < 0
  · go_enter Tryz.func37, Tryz.ntmps37
    go_wp2
    go_ret
    exact ⟨-1, rfl, ⟨by omega, by omega, by omega⟩, rfl⟩
  · go_enter Tryz.func37, Tryz.ntmps37
    go_wp2
    go_ret
    exact ⟨left - n, rfl, ⟨by omega, by omega, by omega⟩, rfl⟩

set_option maxHeartbeats 400000 in
theorem szFile_any (s : ByteArray) (a : Option Addr) (n c : Nat) (left : Int) (w : World) (h0 : 0 ≤ left) (h1 : left ≤ 1048576) (hn : n ≤ maxLen) (hs : s.size ≤ maxLen) :
    Calls Tryz.prog 22 #[.agg #[.string s, .slice a n c], .int .i64 left] w fun e w' => ∃ r : Int, e = .returned (.int .i64 r) ∧ (-1 ≤ r ∧ r ≤ left ∧ (0 ≤ r → r = left - s.size - n)) ∧ Below w.heap.size w w' := by
  unfold maxLen at hs
  by_cases h : left - s.size < 0
  · go_enter Tryz.func22, Tryz.ntmps22
    go_wp2
    go_ret
    exact ⟨-1, rfl, ⟨by omega, by omega, by omega⟩, (Below.refl _ _).alloc (Nat.le_refl _) _⟩
  · go_enter Tryz.func22, Tryz.ntmps22
    go_wp2_with fail
    refine (szByteS_any _ _ _ _ _ (by omega) (by omega) hn).mono ?_
    rintro e w1 ⟨r, rfl, hr, rfl⟩
    by_cases h2 : r < 0
    all_goals
      go_wp2
      go_ret
    · exact ⟨-1, rfl, ⟨by omega, by omega, by omega⟩, (Below.refl _ _).alloc (Nat.le_refl _) _⟩
    · exact ⟨r, rfl, ⟨by omega, by omega, by omega⟩, (Below.refl _ _).alloc (Nat.le_refl _) _⟩

set_option maxHeartbeats 400000 in
theorem szPend_any (s : ByteArray) (pg : Int) (a : Option Addr) (n c : Nat) (left : Int) (w : World) (h0 : 0 ≤ left) (h1 : left ≤ 1048576) (hn : n ≤ maxLen) (hs : s.size ≤ maxLen) :
    Calls Tryz.prog 23 #[.agg #[.string s, .int .i64 pg, .slice a n c], .int .i64 left] w fun e w' => ∃ r : Int, e = .returned (.int .i64 r) ∧ (-1 ≤ r ∧ r ≤ left ∧ (0 ≤ r → r = left - s.size - n)) ∧ Below w.heap.size w w' := by
  unfold maxLen at hs
  by_cases h : left - s.size < 0
  · go_enter Tryz.func23, Tryz.ntmps23
    go_wp2
    go_ret
    exact ⟨-1, rfl, ⟨by omega, by omega, by omega⟩, (Below.refl _ _).alloc (Nat.le_refl _) _⟩
  · go_enter Tryz.func23, Tryz.ntmps23
    go_wp2_with fail
    refine (szByteS_any _ _ _ _ _ (by omega) (by omega) hn).mono ?_
    rintro e w1 ⟨r, rfl, hr, rfl⟩
    by_cases h2 : r < 0
    all_goals
      go_wp2
      go_ret
    · exact ⟨-1, rfl, ⟨by omega, by omega, by omega⟩, (Below.refl _ _).alloc (Nat.le_refl _) _⟩
    · exact ⟨r, rfl, ⟨by omega, by omega, by omega⟩, (Below.refl _ _).alloc (Nat.le_refl _) _⟩

set_option maxHeartbeats 400000 in
theorem szFileS_any (a : Option Addr) (n c : Nat) (fs : List PF) (left : Int) (w : World) (h0 : 0 ≤ left) (h1 : left ≤ 1048576) (A B : Nat) (hB : B ≤ w.heap.size) (hF : FilesAt w A B a n c fs) :
    Calls Tryz.prog 10 #[.slice a n c, .int .i64 left] w fun e w' => ∃ r : Int, e = .returned (.int .i64 r) ∧ (-1 ≤ r ∧ r ≤ left ∧ (0 ≤ r → r = left - n - wFiles fs)) ∧ Below w.heap.size w w' := by
  obtain ⟨hl, hnc, hc, hcell⟩ := hF
  unfold maxLen at hc
  by_cases h : left - n < 0
  · go_enter Tryz.func10, Tryz.ntmps10
    go_wp2
    go_ret
    exact ⟨-1, rfl, ⟨by omega, by omega, by omega⟩, Below.refl _ _⟩
  · go_enter Tryz.func10, Tryz.ntmps10
    go_wp2
    go_loopw [1, 5] (fun l i wr => ∃ (k : Nat) (r : Int), k ≤ n ∧ i = .int .i64 k ∧ l = .int .i64 r ∧ 0 ≤ r ∧ r ≤ left - n ∧ r = left - n - wFiles (fs.take k) ∧ Below w.heap.size w wr) (fun _ i _ => n - (intOf i).toNat)
    case atStart => exact ⟨0, left - n, Nat.zero_le _, rfl, rfl, by omega, by omega, by simp [wFiles], Below.refl _ _⟩
    case round =>
      obtain ⟨k, r, hk, rfl, rfl, hr0, hr1, hr2, hbel⟩ := hrel
      have HR : Hid (r = left - n - wFiles (fs.take k)) := hr2
      clear hr2
      by_cases hlt : k < n
      · obtain ⟨b, off, rfl, hb, hfi⟩ := hcell (by omega)
        have hfk := (hfi k hlt).below hb (hbel.mono hB)
        have hsn := take_snocD fs k (ByteArray.empty, []) (by omega)
        generalize fs.getD k (ByteArray.empty, []) = f at hfk hsn
        have HS : Hid (wFiles (fs.take (k + 1)) = wFiles (fs.take k) + wFile f) := by show wFiles (fs.take (k + 1)) = _; rw [hsn, wFiles_append]; simp [wFiles]
        clear hsn hfi
        obtain ⟨g1, g2, a', n', c', g3, g4⟩ := hfk
        go_wp2_with fail
        refine (szFile_any _ _ _ _ _ _ hr0 (by omega) (Nat.le_trans g4.2.1 g4.2.2.1) g2).mono ?_
        rintro e w1 ⟨r2, rfl, hr2, hb2⟩
        have hb3 := hbel.trans (hb2.mono hbel.size)
        have hnn := wFiles_nonneg fs
        by_cases h2 : r2 < 0
        · go_wp2
          go_ret
          exact ⟨-1, rfl, ⟨by omega, by omega, by omega⟩, hb3⟩
        · have h3 : r2 = r - f.1.size - n' := hr2.2.2 (by omega)
          have H3 : Hid (r2 = left - n - wFiles (fs.take (k + 1))) := by
            have e1 := HR.out; have e2 := HS.out
            unfold wFile at e2
            have e3 := g4.1
            show r2 = _
            omega
          clear h3
          go_wp2
          go_roundw
          case rel => exact ⟨k + 1, r2, by omega, by go_num, rfl, by omega, by omega, H3.out, hb3⟩
          case measure => simp [intOf]; omega
      · go_wp2
        go_ret
        exact ⟨r, rfl, ⟨by omega, by omega, fun _ => by rw [HR.out, List.take_of_length_le (by omega)]⟩, hbel⟩

set_option maxHeartbeats 400000 in
theorem szPendS_any (a : Option Addr) (n c : Nat) (fs : List PP) (left : Int) (w : World) (h0 : 0 ≤ left) (h1 : left ≤ 1048576) (A B : Nat) (hB : B ≤ w.heap.size) (hF : PendsAt w A B a n c fs) :
    Calls Tryz.prog 11 #[.slice a n c, .int .i64 left] w fun e w' => ∃ r : Int, e = .returned (.int .i64 r) ∧ (-1 ≤ r ∧ r ≤ left ∧ (0 ≤ r → r = left - n - wPends fs)) ∧ Below w.heap.size w w' := by
  obtain ⟨hl, hnc, hc, hcell⟩ := hF
  unfold maxLen at hc
  by_cases h : left - n < 0
  · go_enter Tryz.func11, Tryz.ntmps11
    go_wp2
    go_ret
    exact ⟨-1, rfl, ⟨by omega, by omega, by omega⟩, Below.refl _ _⟩
  · go_enter Tryz.func11, Tryz.ntmps11
    go_wp2
    go_loopw [1, 5] (fun l i wr => ∃ (k : Nat) (r : Int), k ≤ n ∧ i = .int .i64 k ∧ l = .int .i64 r ∧ 0 ≤ r ∧ r ≤ left - n ∧ r = left - n - wPends (fs.take k) ∧ Below w.heap.size w wr) (fun _ i _ => n - (intOf i).toNat)
    case atStart => exact ⟨0, left - n, Nat.zero_le _, rfl, rfl, by omega, by omega, by simp [wPends], Below.refl _ _⟩
    case round =>
      obtain ⟨k, r, hk, rfl, rfl, hr0, hr1, hr2, hbel⟩ := hrel
      have HR : Hid (r = left - n - wPends (fs.take k)) := hr2
      clear hr2
      by_cases hlt : k < n
      · obtain ⟨b, off, rfl, hb, hfi⟩ := hcell (by omega)
        have hfk := (hfi k hlt).below hb (hbel.mono hB)
        have hsn := take_snocD fs k (ByteArray.empty, 0, []) (by omega)
        generalize fs.getD k (ByteArray.empty, 0, []) = f at hfk hsn
        have HS : Hid (wPends (fs.take (k + 1)) = wPends (fs.take k) + wPend f) := by show wPends (fs.take (k + 1)) = _; rw [hsn, wPends_append]; simp [wPends]
        clear hsn hfi
        obtain ⟨g1, g2, g5, g6, a', n', c', g3, g4⟩ := hfk
        go_wp2_with fail
        refine (szPend_any _ _ _ _ _ _ _ hr0 (by omega) (Nat.le_trans g4.2.1 g4.2.2.1) g2).mono ?_
        rintro e w1 ⟨r2, rfl, hr2, hb2⟩
        have hb3 := hbel.trans (hb2.mono hbel.size)
        have hnn := wPends_nonneg fs
        by_cases h2 : r2 < 0
        · go_wp2
          go_ret
          exact ⟨-1, rfl, ⟨by omega, by omega, by omega⟩, hb3⟩
        · have h3 : r2 = r - f.1.size - n' := hr2.2.2 (by omega)
          have H3 : Hid (r2 = left - n - wPends (fs.take (k + 1))) := by
            have e1 := HR.out; have e2 := HS.out
            unfold wPend at e2
            have e3 := g4.1
            show r2 = _
            omega
          clear h3
          go_wp2
          go_roundw
          case rel => exact ⟨k + 1, r2, by omega, by go_num, rfl, by omega, by omega, H3.out, hb3⟩
          case measure => simp [intOf]; omega
      · go_wp2
        go_ret
        exact ⟨r, rfl, ⟨by omega, by omega, fun _ => by rw [HR.out, List.take_of_length_le (by omega)]⟩, hbel⟩

set_option maxHeartbeats 400000 in
theorem szDisk_any (a : Option Addr) (n c : Nat) (fs : List PF) (a2 : Option Addr) (n2 c2 : Nat) (ps : List PP) (cp fu : Int) (de : Bool) (left : Int) (w : World) (h0 : 0 ≤ left) (h1 : left ≤ 1048576) (A B : Nat) (hB : B ≤ w.heap.size) (hF : FilesAt w A B a n c fs) (hP : PendsAt w A B a2 n2 c2 ps) :
    Calls Tryz.prog 4 #[.agg #[.slice a n c, .slice a2 n2 c2, .int .i64 cp, .int .i64 fu, .bool de], .int .i64 left] w fun e w' => ∃ r : Int, e = .returned (.int .i64 r) ∧ (-1 ≤ r ∧ r ≤ left ∧ (0 ≤ r → r = left - n - wFiles fs - n2 - wPends ps)) ∧ Below w.heap.size w w' := by
  go_enter Tryz.func4, Tryz.ntmps4
  go_wp2_with fail
  have hb0 : Below w.heap.size w (w.alloc (.cells #[.slice a n c, .slice a2 n2 c2, .int .i64 cp, .int .i64 fu, .bool de] 25)) := (Below.refl _ _).alloc (Nat.le_refl _) _
  refine (szFileS_any _ _ _ fs _ _ h0 h1 A B (by simp; omega) (hF.below (hb0.mono hB))).mono ?_
  rintro e w1 ⟨r, rfl, hr, hb1⟩
  have hb2 := hb0.trans (hb1.mono (by simp))
  have hz := hb1.size
  simp at hz
  obtain ⟨hc1, hf1⟩ := bcell hb1
  by_cases h2 : r < 0
  · go_wp2_with fail
    go_ret
    exact ⟨-1, rfl, ⟨by omega, by omega, by omega⟩, hb2⟩
  · have hrr := hr.2.2 (by omega)
    have hr1 := hr.2.1
    have HR : Hid (r = left - n - wFiles fs) := hrr
    clear hrr hr
    go_wp2_with fail
    refine (szPendS_any _ _ _ ps _ _ (by omega) (by omega) A B (by omega) (hP.below (hb2.mono hB))).mono ?_
    rintro e w2 ⟨q, rfl, hq, hb3⟩
    have hb4 := hb2.trans (hb3.mono hb2.size)
    by_cases h3 : q < 0
    · go_wp2_with fail
      go_ret
      exact ⟨-1, rfl, ⟨by omega, by omega, by omega⟩, hb4⟩
    · go_wp2_with fail
      go_ret
      exact ⟨q, rfl, ⟨by omega, by omega, fun _ => by have e1 := HR.out; have e2 := hq.2.2 (by omega); omega⟩, hb4⟩
end Go.Proofs.YtnpndbicmamggaaGreat
