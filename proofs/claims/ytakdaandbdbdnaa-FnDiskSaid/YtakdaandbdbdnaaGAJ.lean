import Derived.Test.YtakdaandbdbdnaaGAB
import Derived.Test.YtakdaandbdbdnaaGAE
import Derived.Test.YtakdaandbdbdnaaGAH
import Derived.Test.YtakdaandbdbdnaaGAI
import Derived.Maps.Own
import Derived.Maps.OwnSet
import Derived.DeepKeys4
import Derived.WalkArith
import Derived.Deep.MidRow
import Derived.Deep.WholeRow
import Derived.Deep.QuietTactic
import Derived.BigQuiet
namespace Go.Proofs.Ytakdaandbdbdnaa
open Go.RowKit Go.Maps
set_option linter.unusedVariables false
set_option maxRecDepth 100000

def pendsOk : List PP → List PF → Bool
  | [], _ => true
  | p :: r, fs => pendOk fs p && pendsOk r (stepP fs p)
def lastF : List PP → List PF → List PF
  | [], fs => fs
  | p :: r, fs => lastF r (stepP fs p)
theorem cacheI_eq (cp : Int) : ∀ (ps : List PP) (fs : List PF), cacheI cp ps fs = (pendsOk ps fs && fitsB cp (lastF ps fs))
  | [], fs => by simp [cacheI, pendsOk, lastF]
  | p :: r, fs => by simp only [cacheI, pendsOk, lastF]; rw [cacheI_eq cp r]; simp [Bool.and_assoc]

theorem look_at {w : World} {mb k : Nat} {D : DataW Unit} {fs : List PF} {nm : ByteArray} (h : MapAt w mb k D) (hr : Rep D fs) (hs : nm.size ≤ maxLen) : ∀ q, (Instr.lookup 111 (.map (some mb)) (.string nm) false).run Try.prog (w.drewN q) = .ok (.int .i64 (lenI fs nm)) (w.drewN q) := by
  intro q
  have h2 : (w.drewN q).ownsMap Try.prog 9 (plainElem Try.prog 2) mb k D := MapAt.keep (w' := w.drewN q) h rfl
  obtain ⟨c, hrun, hat, _⟩ := h2.lookup_int lawS Try.underlying111 Try.underlying2 (zeroI _) (keyS hs)
  have e := (hr.at_ nm).symm.trans hat
  injection e with e
  injection e with _ e
  rw [e]
  exact hrun

def CCRes (w w' : World) (ps : List PP) (fs : List PF) (cb mb k0 : Nat) (ok : Bool) : Prop :=
  ok = (decide (ps.length ≤ 1000) && pendsOk ps fs) ∧ Turn w w' cb mb ∧ (ok = true → w'.heap[cb]? = some (.cells #[.map (some mb), .int .i64 (totalI (lastF ps fs))] 113) ∧ ∃ D, MapAt w' mb (k0 + ps.length) D ∧ Rep D (lastF ps fs))

set_option maxRecDepth 100000 in
set_option maxHeartbeats 2000000 in
theorem countCache_any (b : Option Addr) (m d : Nat) (ps : List PP) (fs : List PF) (w : World) (A B S cb mb k0 : Nat) (D0 : DataW Unit) (hP : PendsAt w A B b m d ps) (hBS : B ≤ S) (hS : S ≤ w.heap.size) (h1 : S ≤ cb) (h2 : S ≤ mb)
    (hcb : w.heap[cb]? = some (.cells #[.map (some mb), .int .i64 (totalI fs)] 113)) (hM : MapAt w mb k0 D0) (hR : Rep D0 fs) (hI : Inv fs) (hk0 : k0 ≤ 1048576) (ht0 : totalI fs ≤ 1073741824) :
    Calls Try.prog 97 #[.pointer (some ⟨cb, 0, none⟩), .slice b m d] w fun e w' => ∃ ok : Bool, e = .returned (.bool ok) ∧ CCRes w w' ps fs cb mb k0 ok := by
  obtain ⟨hl, hnc, hc, pcell⟩ := hP
  unfold maxLen at hc
  by_cases hm : 1000 < m
  · have d1 : decide ((1000 : Int) < (m : Int)) = true := by simp; omega
    clear hcb hM hR hI
    go_enter Try.func97, Try.ntmps97
    go_wp2
    go_ret
    exact ⟨false, rfl, by rw [show decide (ps.length ≤ 1000) = false by simp; omega]; simp, Turn.refl _ _ _, fun h => by cases h⟩
  · have d1 : decide ((1000 : Int) < (m : Int)) = false := by simp; omega
    have hpl : decide (ps.length ≤ 1000) = true := by simp; omega
    have HPL : Hid (decide (ps.length ≤ 1000) = true) := hpl
    have HCB0 : Hid (w.heap[cb]? = some (.cells #[.map (some mb), .int .i64 (totalI fs)] 113)) := hcb
    have hcl : cb < w.heap.size := (Array.getElem?_eq_some_iff.1 hcb).1
    clear hcb hpl
    go_enter Try.func97, Try.ntmps97
    go_wp2
    clear d1
    go_loopw [6, 12] (fun pv i wr => ∃ (k : Nat) (fk : List PF) (D : DataW Unit), k ≤ m ∧ i = .int .i64 k ∧ Hid (wr.heap[cb]? = some (.cells #[.map (some mb), .int .i64 (totalI fk)] 113)) ∧ MapAt wr mb (k0 + k) D ∧ Rep D fk ∧ Inv fk ∧ Hid (pendsOk ps fs = pendsOk (ps.drop k) fk) ∧ Hid (lastF ps fs = lastF (ps.drop k) fk) ∧ Hid (totalI fk ≤ 1073741824 + k) ∧ Turn w wr cb mb) (fun _ i _ => m - (intOf i).toNat)
    case atStart => exact ⟨0, fs, D0, Nat.zero_le _, rfl, HCB0, hM, hR, hI, rfl, rfl, by show _ ≤ _; omega, Turn.refl _ _ _⟩
    case round =>
      clear hM hR hI ht0
      obtain ⟨k, fk, D, hk, rfl, hCB, hM, hR, hI, hpo, hla, htk, hT⟩ := hrel
      have hClr : cb < wr.heap.size := Nat.lt_of_lt_of_le hcl hT.size
      obtain ⟨⟨m0, m1⟩, fm0, fm1⟩ := two_cells hCB.out
      have hbw := hT.below hS h1 h2
      by_cases hlt : k < m
      · obtain ⟨pb, poff, rfl, hpb, hpc⟩ := pcell (by omega)
        have e1 := (hpc k hlt).below hpb (hbw.mono hBS)
        have hdr : ps.drop k = ps.getD k (ByteArray.empty, 0, []) :: ps.drop (k + 1) := by
          rw [List.drop_eq_getElem_cons (by omega)]; simp [List.getD, List.getElem?_eq_getElem (show k < ps.length by omega)]
        obtain ⟨p, hp⟩ : ∃ p, p = ps.getD k (ByteArray.empty, 0, []) := ⟨_, rfl⟩
        rw [← hp] at e1 hdr
        clear hp
        obtain ⟨nm, pq, pd⟩ := p
        have HD : Hid (ps.drop k = (nm, pq, pd) :: ps.drop (k + 1)) := hdr
        clear hdr
        obtain ⟨g1, g2, g3, g4, da, dn, dc, g5, g6⟩ := e1
        simp only at g1 g2 g3 g4 g6
        have hdn := g6.1
        have hbk : pb < wr.heap.size := by have := hT.size; omega
        have hlk := look_at (w := wr.alloc (.cells #[.string nm, .int .i64 pq, .slice da dn dc] 71)) (hM.keep (Below.heap_alloc _ _ _ hM.lt)) hR g2
        have hle := lenI_le_total fk nm
        clear hpc pcell g6
        by_cases t1 : nameB nm = true
        · by_cases t2 : dn = 128
          · subst t2
            have s2 : (((128 : Nat) : Int) != 128) = false := by simp
            by_cases t3 : pq < 0
            · have HB : Hid (false = (decide (ps.length ≤ 1000) && pendsOk ps fs)) := by
                show _ = _
                rw [hpo.out, HD.out]; simp [pendsOk, pendOk, show ¬ 0 ≤ pq by omega]
              have s3 : decide (pq < 0) = true := by simp; omega
              have hTT := fun q => hT.trans (Turn.of_below (cb := cb) (mb := mb) (below_dn (o := (.cells #[.string nm, .int .i64 pq, .slice da 128 dc] 71)) (q := q) (Below.refl wr.heap.size wr) (Nat.le_refl _)))
              have HTT : Hid (∀ q, Turn w ((wr.alloc (.cells #[.string nm, .int .i64 pq, .slice da 128 dc] 71)).drewN q) cb mb) := hTT
              generalize lenI fk nm = ln at *
              clear hTT
              go_wp2_with fail
              go_quiet ((go_at_call 80; exact Calls.quiet_of_same (isName_any _ _ g2)))
              go_wp2
              go_ret
              exact ⟨false, rfl, HB.out, HTT.out _, fun h => by cases h⟩
            · by_cases t4 : lenI fk nm < pq
              · have HB : Hid (false = (decide (ps.length ≤ 1000) && pendsOk ps fs)) := by
                  show _ = _
                  rw [hpo.out, HD.out]; simp [pendsOk, pendOk, show ¬ pq ≤ lenI fk nm by omega]
                have s3 : decide (pq < 0) = false := by simp; omega
                have s4 : decide (lenI fk nm < pq) = true := by simp; omega
                have hTT := fun q => hT.trans (Turn.of_below (cb := cb) (mb := mb) (below_dn (o := (.cells #[.string nm, .int .i64 pq, .slice da 128 dc] 71)) (q := q) (Below.refl wr.heap.size wr) (Nat.le_refl _)))
                have HTT : Hid (∀ q, Turn w ((wr.alloc (.cells #[.string nm, .int .i64 pq, .slice da 128 dc] 71)).drewN q) cb mb) := hTT
                generalize lenI fk nm = ln at *
                clear hTT
                go_wp2_with fail
                go_quiet ((go_at_call 80; exact Calls.quiet_of_same (isName_any _ _ g2)))
                go_wp2
                go_ret
                exact ⟨false, rfl, HB.out, HTT.out _, fun h => by cases h⟩
              · obtain ⟨pgN, rfl⟩ := Int.eq_ofNat_of_zero_le (show 0 ≤ pq by omega)
                have s3 : decide ((pgN : Int) < 0) = false := by simp
                have s4 : decide (lenI fk nm < (pgN : Int)) = false := by simp; omega
                have hpk : pendOk fk (nm, (pgN : Int), pd) = true := by simp [pendOk, t1, hdn]; omega
                have hst : stepP fk (nm, (pgN : Int), pd) = doP fk nm pgN pd := by simp [stepP]
                have hpo2 : Hid (pendsOk ps fs = pendsOk (ps.drop (k + 1)) (doP fk nm pgN pd)) := by
                  show _ = _
                  rw [hpo.out, HD.out]; simp only [pendsOk]; rw [hpk, hst]; simp
                have hla2 : Hid (lastF ps fs = lastF (ps.drop (k + 1)) (doP fk nm pgN pd)) := by
                  show _ = _
                  rw [hla.out, HD.out]; simp only [lastF]; rw [hst]
                have hI2 := doP_inv (nm := nm) (pg := pgN) (bs := pd) hI
                have htot := doP_total2 (bs := pd) hI (show (pgN : Int) ≤ lenI fk nm by omega)
                have hrp := Rep.pend (bs := pd) hR hI (show (pgN : Int) ≤ lenI fk nm by omega)
                have htk' := htk.out
                have hbX : Below wr.heap.size wr (wr.alloc (.cells #[.string nm, .int .i64 (pgN : Int), .slice da 128 dc] 71)) := (Below.refl _ _).alloc (Nat.le_refl _) _
                by_cases t5 : (pgN : Int) = lenI fk nm
                · have s5 : ((pgN : Int) == lenI fk nm) = true := by simp [t5]
                  have HRP : Hid (Rep (D.put (keyL nm) (.lit (.int .i64 (lenI fk nm + 1)))) (doP fk nm pgN pd)) := hrp.1 t5
                  rw [if_pos t5] at htot
                  have HTO : Hid (totalI (doP fk nm pgN pd) = totalI fk + 1) := htot
                  have HAT : Hid (D.atKey (keyL nm) (.lit (.int .i64 0)) = .lit (.int .i64 (lenI fk nm))) := hR.at_ nm
                  have HT5 : Hid ((pgN : Int) = lenI fk nm) := t5
                  have htb := totalI_bd fk
                  clear hrp htot t5 hpk hst hI hR
                  generalize doP fk nm pgN pd = f2 at *
                  generalize lenI fk nm = ln at *
                  generalize totalI fk = tk at *
                  go_wp2_with fail
                  go_quiet ((go_at_call 80; exact Calls.quiet_of_same (isName_any _ _ g2)))
                  go_wp2_with fail
                  go_quiet (fail)
                  go_wp2_with fail
                  refine (add_any nm 1 ln tk cb mb (k0 + k) D _ (by exact (hbX.block _ hClr).trans hCB.out) (by exact hM.keep (hbX.block _ hM.lt)) (by omega) HAT.out g2 (by omega) (by omega) (by omega) (by omega) (by omega) (by omega)).mono ?_
                  rintro e w3 ⟨rfl, hc3, hm3, ht3⟩
                  have hC3 : Hid (w3.heap[cb]? = some (.cells #[.map (some mb), .int .i64 (totalI f2)] 113)) := by show _ = _; rw [HTO.out]; exact hc3
                  have hT3 : Turn w w3 cb mb := (hT.trans (Turn.of_below (b := (wr.alloc (.cells #[.string nm, .int .i64 (pgN : Int), .slice da 128 dc] 71))) hbX)).trans ⟨ht3.os, ht3.tape, ht3.output, ht3.size, ht3.block⟩
                  have htk3 : Hid (totalI f2 ≤ 1073741824 + ((k + 1 : Nat) : Int)) := by show _ ≤ _; rw [HTO.out]; omega
                  clear hc3 ht3 hM hT hCB m0 m1 fm0 fm1 hlk
                  go_wp2
                  go_roundw
                  case rel => exact ⟨k + 1, f2, _, by omega, by go_num, hC3, by rw [← Nat.add_assoc]; exact hm3, HRP.out, hI2, hpo2, hla2, htk3, hT3⟩
                  case measure => simp [intOf]; omega
                · have s5 : ((pgN : Int) == lenI fk nm) = false := by simp [t5]
                  have HRP : Rep D (doP fk nm pgN pd) := hrp.2 t5
                  rw [if_neg t5] at htot
                  have htot2 : totalI (doP fk nm pgN pd) = totalI fk := by omega
                  have HTO : Hid (totalI (doP fk nm pgN pd) = totalI fk) := htot2
                  clear hrp htot htot2 hpk hst hI hR
                  generalize doP fk nm pgN pd = f2 at *
                  generalize lenI fk nm = ln at *
                  generalize totalI fk = tk at *
                  go_wp2_with fail
                  go_quiet ((go_at_call 80; exact Calls.quiet_of_same (isName_any _ _ g2)))
                  go_wp2_with fail
                  go_quiet (fail)
                  go_wp2
                  go_roundw
                  case rel => exact ⟨k + 1, f2, D, by omega, by go_num, by show _ = _; rw [HTO.out]; exact (hbX.block _ hClr).trans hCB.out, (hM.keep (hbX.block _ hM.lt)).mono (by omega), HRP, hI2, hpo2, hla2, by show _ ≤ _; rw [HTO.out]; omega, hT.trans (Turn.of_below (below_dn (Below.refl _ _) (Nat.le_refl _)))⟩
                  case measure => simp [intOf]; omega
          · have HB : Hid (false = (decide (ps.length ≤ 1000) && pendsOk ps fs)) := by
              show _ = _
              rw [hpo.out, HD.out]; simp [pendsOk, pendOk, hdn, t2]
            have s2 : ((dn : Int) != 128) = true := by simp; omega
            have hTT := fun q => hT.trans (Turn.of_below (cb := cb) (mb := mb) (below_dn (o := (.cells #[.string nm, .int .i64 pq, .slice da dn dc] 71)) (q := q) (Below.refl wr.heap.size wr) (Nat.le_refl _)))
            have HTT : Hid (∀ q, Turn w ((wr.alloc (.cells #[.string nm, .int .i64 pq, .slice da dn dc] 71)).drewN q) cb mb) := hTT
            generalize lenI fk nm = ln at *
            clear hTT
            go_wp2_with fail
            go_quiet ((go_at_call 80; exact Calls.quiet_of_same (isName_any _ _ g2)))
            go_wp2
            go_ret
            exact ⟨false, rfl, HB.out, HTT.out _, fun h => by cases h⟩
        · have t1' : nameB nm = false := by simpa using t1
          have HB : Hid (false = (decide (ps.length ≤ 1000) && pendsOk ps fs)) := by
            show _ = _
            rw [hpo.out, HD.out]; simp [pendsOk, pendOk, t1']
          have hTT := fun q => hT.trans (Turn.of_below (cb := cb) (mb := mb) (below_dn (o := (.cells #[.string nm, .int .i64 pq, .slice da dn dc] 71)) (q := q) (Below.refl wr.heap.size wr) (Nat.le_refl _)))
          have HTT : Hid (∀ q, Turn w ((wr.alloc (.cells #[.string nm, .int .i64 pq, .slice da dn dc] 71)).drewN q) cb mb) := hTT
          generalize lenI fk nm = ln at *
          clear hTT
          go_wp2_with fail
          go_quiet ((go_at_call 80; exact Calls.quiet_of_same (isName_any _ _ g2)))
          go_wp2
          go_ret
          exact ⟨false, rfl, HB.out, HTT.out _, fun h => by cases h⟩
      · have HE : Hid (true = (decide (ps.length ≤ 1000) && pendsOk ps fs)) := by
          show _ = _
          rw [HPL.out, hpo.out, List.drop_eq_nil_of_le (by omega)]; rfl
        have HL : Hid (lastF ps fs = fk) := by show _ = _; rw [hla.out, List.drop_eq_nil_of_le (by omega)]; rfl
        have hkm : k = ps.length := by omega
        have HCE : Hid (wr.heap[cb]? = some (.cells #[.map (some mb), .int .i64 (totalI (lastF ps fs))] 113)) := by show _ = _; rw [HL.out]; exact hCB.out
        generalize totalI fk = tk at *
        go_wp2
        go_ret
        exact ⟨true, rfl, HE.out, hT, fun _ => ⟨HCE.out, D, by rw [← hkm]; exact hM, by rw [HL.out]; exact hR⟩⟩
end Go.Proofs.Ytakdaandbdbdnaa
namespace Go.Proofs.Ytakdaandbdbdnaa
open Go.RowKit Go.Maps
set_option linter.unusedVariables false
set_option maxRecDepth 100000

theorem take_findIdx {α : Type} (p : α → Bool) : ∀ l : List α, l.take (l.findIdx p) = l.takeWhile (fun x => !p x) ∧ l.drop (l.findIdx p) = l.dropWhile (fun x => !p x)
  | [] => ⟨rfl, rfl⟩
  | x :: r => by
    rw [List.findIdx_cons]
    cases hp : p x with
    | true => simp [hp]
    | false =>
      obtain ⟨h1, h2⟩ := take_findIdx p r
      simp [hp, h1, h2]
theorem withName_ins {fs : List PF} {nm : ByteArray} (h : ¬ findN fs nm < fs.length) : withName fs nm = insF fs (nm, []) := by
  unfold withName insF insN
  rw [if_neg h]
  obtain ⟨h1, h2⟩ := take_findIdx (fun f : PF => gtB f.1 nm) fs
  rw [h1, h2]
theorem withName_sorted {fs : List PF} {nm : ByteArray} (hs : SortedN fs) : SortedN (withName fs nm) := by
  by_cases h : findN fs nm < fs.length
  · unfold withName; rw [if_pos h]; exact hs
  · rw [withName_ins h]
    refine insF_sorted hs (fun g hg e => h (findN_iff.2 ?_))
    obtain ⟨i, hi, rfl⟩ := List.getElem_of_mem hg
    exact ⟨i, hi, by simp only [List.getD, List.getElem?_eq_getElem hi, Option.getD_some]; exact e⟩
theorem doP_sorted {fs : List PF} {nm : ByteArray} {pg : Nat} {bs : List Int} (hs : SortedN fs) : SortedN (doP fs nm pg bs) := by
  have h1 := withName_sorted (nm := nm) hs
  have hw := findN_with fs nm
  unfold SortedN at h1 ⊢
  rw [List.pairwise_iff_getElem] at h1 ⊢
  have hlen := doP_len2 fs nm pg bs
  have hn : ∀ i (hi : i < (doP fs nm pg bs).length), ((doP fs nm pg bs)[i]).1 = ((withName fs nm)[i]'(by omega)).1 := fun i hi => by
    have := doP_name (fs := fs) (nm := nm) (pg := pg) (bs := bs) i (by omega)
    simpa [List.getD, List.getElem?_eq_getElem hi, List.getElem?_eq_getElem (show i < (withName fs nm).length by omega)] using this
  intro i j hi hj hij
  rw [hn i hi, hn j hj]
  exact h1 i j (by omega) (by omega) hij
theorem last_sorted : ∀ (ps : List PP) (fs : List PF), SortedN fs → SortedN (lastF ps fs)
  | [], _, h => h
  | p :: r, fs, h => last_sorted r _ (doP_sorted h)
end Go.Proofs.Ytakdaandbdbdnaa
namespace Go.Proofs.Ytakdaandbdbdnaa
open Go.RowKit
set_option linter.unusedVariables false
set_option maxRecDepth 100000

theorem last_fits {cp : Int} : ∀ (ps : List PP) (fs : List PF), fs.length ≤ 12 → totalI fs ≤ cp → cacheS cp ps fs = true → (lastF ps fs).length ≤ 12 ∧ totalI (lastF ps fs) ≤ cp
  | [], _, h1, h2, _ => ⟨h1, h2⟩
  | p :: r, fs, h1, h2, hc => by
    simp only [cacheS, fitsB, Bool.and_eq_true, decide_eq_true_eq] at hc
    exact last_fits r _ hc.2.1.1 hc.2.1.2 hc.2.2
theorem name_size {nm : ByteArray} (h : nameB nm = true) : nm.size ≤ maxLen := by
  simp only [nameB, Bool.and_eq_true, decide_eq_true_eq] at h
  unfold maxLen
  omega
theorem doP_names {fs : List PF} {nm : ByteArray} {pg : Nat} {bs : List Int} (h : ∀ f ∈ fs, f.1.size ≤ maxLen) (hn : nm.size ≤ maxLen) : ∀ f ∈ doP fs nm pg bs, f.1.size ≤ maxLen := by
  intro f hf
  unfold doP at hf
  rcases List.mem_or_eq_of_mem_set hf with h1 | h1
  · unfold withName at h1
    split at h1
    · exact h f h1
    · rcases List.mem_append.1 h1 with h2 | h2
      · exact h f (List.mem_of_mem_take h2)
      · rcases List.mem_cons.1 h2 with h3 | h3
        · rw [h3]; exact hn
        · exact h f (List.mem_of_mem_drop h3)
  · rw [h1]; exact hn
theorem last_names {cp : Int} : ∀ (ps : List PP) (fs : List PF), (∀ f ∈ fs, f.1.size ≤ maxLen) → cacheS cp ps fs = true → ∀ f ∈ lastF ps fs, f.1.size ≤ maxLen
  | [], _, h, _ => h
  | p :: r, fs, h, hc => by
    simp only [cacheS, pendOk, Bool.and_eq_true] at hc
    exact last_names r _ (doP_names h (name_size hc.1.1.1)) hc.2.2
end Go.Proofs.Ytakdaandbdbdnaa
namespace Go.Proofs.Ytakdaandbdbdnaa
open Go.RowKit Go.Maps
set_option linter.unusedVariables false
set_option maxRecDepth 100000

theorem laidOutS : laidOutB Try.prog = true := by kernel_rfl
theorem rowPl : (89 : TypeId) < Try.prog.types.size := of_decide_eq_true (by kernel_rfl)
theorem widePl : (match Try.prog.underlying 89 with | some (.array _ _) | some (.struct _) => true | _ => false) = true := by kernel_rfl
theorem lawPl : Keyed Try.prog 89 := Keyed.of_law (deep_law_laid laidOutS (m := 2) (by omega) rowPl (by kernel_rfl) widePl)
/-- The key of a place. -/
def kPl (nm : ByteArray) (pg : Int) : Lit := .string (keyBytes [.string nm.data.toList, .int .i64 pg])
theorem keyTypePl : Try.prog.keyType 89 = true := by kernel_rfl
theorem cellsPl : Try.prog.cellsOf 89 = 2 := by kernel_rfl
theorem formedPl (u v : Value) : (Value.agg #[u, v]).formed Try.prog 89 = true := by
  obtain ⟨fs, hu⟩ : ∃ fs, Try.prog.underlying 89 = some (.struct fs) := ⟨_, Try.underlying89⟩
  simp [Value.formed, hu, cellsPl]
theorem cellsOfS : Try.prog.cellsOf 9 = 1 := by kernel_rfl
theorem cellsOfI : Try.prog.cellsOf 2 = 1 := by kernel_rfl
theorem keyLits_pl (d : Nat) {nm : ByteArray} {pg : Int} (h : nm.size ≤ maxLen) (hp : (Lit.int .i64 pg).wf = true) : Try.prog.keyLits (d + 2) 89 [.string nm, .int .i64 pg] = some [.string nm.data.toList, .int .i64 pg] := by
  simp [Program.keyLits, Try.underlying89, Try.underlying9, Try.underlying2, cellsPl, cellsOfS, cellsOfI, h, hp]
theorem keyOf_pl {nm : ByteArray} {pg : Int} (h : nm.size ≤ maxLen) (hp : (Lit.int .i64 pg).wf = true) : keyOf Try.prog 89 (.agg #[.string nm, .int .i64 pg]) = some (kPl nm pg) := by
  unfold keyOf
  rw [Try.underlying89]
  have h0 : 0 < Try.prog.types.size := Nat.lt_of_le_of_lt (Nat.zero_le _) rowPl
  have e : Try.prog.types.size + 1 = (Try.prog.types.size - 1) + 2 := by omega
  simp only [keyTypePl, formedPl, Bool.and_self, if_true, Value.cells]
  rw [e, keyLits_pl _ h hp]
  rfl
theorem kPl_inj {nm nm' : ByteArray} {pg pg' : Int} (h : nm.size ≤ maxLen) (hp : (Lit.int .i64 pg).wf = true) (h' : nm'.size ≤ maxLen) (hp' : (Lit.int .i64 pg').wf = true) (e : kPl nm pg = kPl nm' pg') : nm = nm' ∧ pg = pg' := by
  have h1 := keyOf_pl h hp
  have h2 := keyOf_pl h' hp'
  rw [← e] at h2
  have := lawPl.inj h1 h2
  simpa using this
/-- A sheet as a value, and as a map's datum tells it. -/
def sheetV (bs : List Int) : Value := .agg (u8s bs).toArray
def b8 (x : Int) : UInt8 := UInt8.ofNat x.toNat
def shD (bs : List Int) : DataW Unit := .lit (.string (bs.map b8))
def isB8 : Value → Bool
  | .int .u8 x => decide (0 ≤ x ∧ x ≤ 255)
  | _ => false
def ofB8 : Value → Int
  | .int .u8 x => x
  | _ => 0
def sheetR (v : Value) : Option (DataW Unit × List MemPlace) :=
  match v with
  | .agg cs => if cs.size = 128 ∧ cs.toList.all isB8 = true then some (shD (cs.toList.map ofB8), []) else none
  | _ => none
theorem sheetR_mk {bs : List Int} (hl : bs.length = 128) (hb : ∀ x ∈ bs, 0 ≤ x ∧ x ≤ 255) : sheetR (sheetV bs) = some (shD bs, []) := by
  have h1 : ((u8s bs).toArray.size = 128 ∧ (u8s bs).toArray.toList.all isB8 = true) := by
    refine ⟨by simp [u8s, hl], ?_⟩
    simp only [u8s, List.all_eq_true, List.mem_map]
    rintro v ⟨x, hx, rfl⟩
    exact decide_eq_true (hb x hx)
  have h2 : (u8s bs).toArray.toList.map ofB8 = bs := by
    simp only [u8s, List.map_map]
    exact (List.map_congr_left (fun x _ => rfl)).trans (List.map_id bs)
  simp only [sheetR, sheetV]
  rw [if_pos h1, h2]
theorem sheetR_inv {v : Value} {z : DataW Unit × List MemPlace} (h : sheetR v = some z) : ∃ bs : List Int, bs.length = 128 ∧ (∀ x ∈ bs, 0 ≤ x ∧ x ≤ 255) ∧ v = sheetV bs ∧ z = (shD bs, []) := by
  unfold sheetR at h
  split at h
  · rename_i cs
    split at h
    · rename_i hc
      obtain ⟨h1, h2⟩ := hc
      rw [List.all_eq_true] at h2
      have hform : ∀ v ∈ cs.toList, v = .int .u8 (ofB8 v) ∧ 0 ≤ ofB8 v ∧ ofB8 v ≤ 255 := fun v hv => by
        have h3 := h2 v hv
        unfold isB8 at h3
        split at h3
        · exact ⟨rfl, of_decide_eq_true h3⟩
        · cases h3
      refine ⟨cs.toList.map ofB8, by simp [h1], fun x hx => ?_, ?_, ?_⟩
      · obtain ⟨v, hv, rfl⟩ := List.mem_map.1 hx
        exact (hform v hv).2
      · have e : u8s (cs.toList.map ofB8) = cs.toList := by
          simp only [u8s, List.map_map]
          exact (List.map_congr_left (fun v hv => (hform v hv).1.symm)).trans (List.map_id _)
        simp only [sheetV, e, Array.toArray_toList]
      · injection h with h; exact h.symm
    · cases h
  · cases h
theorem b8_inj {x y : Int} (hx : 0 ≤ x ∧ x ≤ 255) (hy : 0 ≤ y ∧ y ≤ 255) (h : b8 x = b8 y) : x = y := by
  have h1 := congrArg UInt8.toNat h
  simp only [b8, UInt8.toNat_ofNat'] at h1
  omega
theorem shD_inj {a b : List Int} (hl : a.length = b.length) (ha : ∀ x ∈ a, 0 ≤ x ∧ x ≤ 255) (hb : ∀ x ∈ b, 0 ≤ x ∧ x ≤ 255) (h : shD a = shD b) : a = b := by
  unfold shD at h
  injection h with h
  injection h with h
  apply List.ext_getElem hl
  intro i h1 h2
  have h3 : (a.map b8)[i]? = (b.map b8)[i]? := by rw [h]
  simp only [List.getElem?_map, List.getElem?_eq_getElem h1, List.getElem?_eq_getElem h2, Option.map_some, Option.some.injEq] at h3
  exact b8_inj (ha _ (List.getElem_mem h1)) (hb _ (List.getElem_mem h2)) h3
/-- Page pg of a file's bytes, and of a list of files. -/
def pageF (ds : List Int) (pg : Int) : Option (List Int) := if 0 ≤ pg ∧ pg * 128 + 128 ≤ ds.length then some ((ds.drop (pg.toNat * 128)).take 128) else none
def pageOf (fl : List PF) (nm : ByteArray) (pg : Int) : Option (List Int) :=
  match fl.find? (fun f => decide (f.1 = nm)) with
  | some f => pageF f.2 pg
  | none => none
theorem pageF_len {ds : List Int} {pg : Int} {bs : List Int} (h : pageF ds pg = some bs) : bs.length = 128 ∧ ∀ x ∈ bs, x ∈ ds := by
  unfold pageF at h
  split at h
  · rename_i hc
    injection h with h
    subst h
    refine ⟨by simp; omega, fun x hx => List.mem_of_mem_drop (List.mem_of_mem_take hx)⟩
  · cases h
theorem pageOf_snoc {l : List PF} {f : PF} {nm : ByteArray} {pg : Int} (h : ∀ g ∈ l, g.1 ≠ f.1) : pageOf (l ++ [f]) nm pg = if nm = f.1 then pageF f.2 pg else pageOf l nm pg := by
  unfold pageOf
  rw [List.find?_append]
  by_cases hn : nm = f.1
  · have h0 : l.find? (fun g => decide (g.1 = nm)) = none := by
      rw [List.find?_eq_none]
      intro g hg
      simp only [decide_eq_true_eq]
      rw [hn]
      exact h g hg
    rw [h0, if_pos hn]
    simp [hn]
  · rw [if_neg hn]
    have h1 : [f].find? (fun g => decide (g.1 = nm)) = none := by
      simp only [List.find?_singleton]
      rw [if_neg (by simp; exact fun e => hn e.symm)]
    rw [h1]
    simp
/-- A map of sheets tells the pages that S tells. -/
def RepS (D : DataW Unit) (S : ByteArray → Int → Option (List Int)) : Prop := ∀ nm pg, nm.size ≤ maxLen → (Lit.int .i64 pg).wf = true → ∀ z, D.atKey (kPl nm pg) z = (match S nm pg with | some bs => shD bs | none => z)
theorem RepS.congr {D : DataW Unit} {S S' : ByteArray → Int → Option (List Int)} (h : RepS D S) (he : ∀ nm pg, S' nm pg = S nm pg) : RepS D S' := fun nm pg h1 h2 z => by rw [he]; exact h nm pg h1 h2 z
theorem RepS.nil : RepS (.map []) (fun _ _ => none) := fun nm pg _ _ z => rfl
theorem RepS.put {D : DataW Unit} {S : ByteArray → Int → Option (List Int)} (h : RepS D S) (hD : IsMap D) {nm : ByteArray} {pg : Int} (hn : nm.size ≤ maxLen) (hp : (Lit.int .i64 pg).wf = true) (bs : List Int) : RepS (D.put (kPl nm pg) (shD bs)) (fun nm' pg' => if nm' = nm ∧ pg' = pg then some bs else S nm' pg') := by
  intro nm' pg' h1 h2 z
  by_cases hc : nm' = nm ∧ pg' = pg
  · obtain ⟨rfl, rfl⟩ := hc
    rw [atKey_put_same hD (lawPl.key (keyOf_pl hn hp))]
    simp
  · rw [atKey_put_other (fun e => hc (kPl_inj h1 h2 hn hp e))]
    rw [h nm' pg' h1 h2 z]
    simp only [if_neg hc]
def MapS (w : World) (mb k : Nat) (D : DataW Unit) : Prop := w.ownsMap Try.prog 89 sheetR mb k D
theorem zeroSheet (w : World) : (zeroValue 86).run Try.prog w = .ok (sheetV (List.replicate 128 0)) w := by kernel_rfl
end Go.Proofs.Ytakdaandbdbdnaa
namespace Go.Proofs.Ytakdaandbdbdnaa
open Go.RowKit Go.Maps
set_option linter.unusedVariables false
set_option maxRecDepth 100000

theorem pageF_take {ds : List Int} {j : Nat} (h : (j + 1) * 128 ≤ ds.length) (pg : Int) : pageF (ds.take ((j + 1) * 128)) pg = if pg = j then some ((ds.drop (j * 128)).take 128) else pageF (ds.take (j * 128)) pg := by
  have e1 : (ds.take ((j + 1) * 128)).length = (j + 1) * 128 := by simp; omega
  have e2 : (ds.take (j * 128)).length = j * 128 := by simp; omega
  unfold pageF
  rw [e1, e2]
  by_cases h1 : pg = j
  · subst h1
    rw [if_pos (by omega), if_pos rfl]
    congr 1
    rw [Int.toNat_natCast, List.drop_take, List.take_take]
    congr 1
    omega
  · rw [if_neg h1]
    by_cases h2 : 0 ≤ pg ∧ pg * 128 + 128 ≤ ((j + 1) * 128 : Nat)
    · obtain ⟨q, rfl⟩ := Int.eq_ofNat_of_zero_le h2.1
      have h3 : q + 1 ≤ j := by omega
      rw [if_pos h2, if_pos (by omega)]
      congr 1
      rw [Int.toNat_natCast, List.drop_take, List.drop_take, List.take_take, List.take_take]
      congr 1
      omega
    · rw [if_neg h2, if_neg (by omega)]
theorem pageF_all (ds : List Int) (h : ds.length % 128 = 0) : ds.take (ds.length / 128 * 128) = ds := List.take_of_length_le (by omega)
theorem pageF_none (pg : Int) (h : 0 ≤ pg → True) : pageF [] pg = none := by
  unfold pageF
  rw [if_neg (by simp; omega)]
/-- The pages of the first k files, and of j pages of the next. -/
def someF (fs : List PF) (k j : Nat) : List PF := fs.take k ++ [((fs.getD k (ByteArray.empty, [])).1, (fs.getD k (ByteArray.empty, [])).2.take (j * 128))]
theorem inv_new {fs : List PF} (hI : Inv fs) {k : Nat} (hk : k < fs.length) : ∀ g ∈ fs.take k, g.1 ≠ (fs.getD k (ByteArray.empty, [])).1 := by
  intro g hg
  obtain ⟨i, hi, rfl⟩ := List.mem_iff_getElem.1 hg
  have hi' : i < k := by simp at hi; omega
  have := hI.ne i k (by omega) (by omega) hk
  simpa [List.getD, List.getElem?_eq_getElem (show i < fs.length by omega), List.getElem_take] using this
theorem someF_page {fs : List PF} (hI : Inv fs) {k : Nat} (hk : k < fs.length) (j : Nat) (nm : ByteArray) (pg : Int) : pageOf (someF fs k j) nm pg = if nm = (fs.getD k (ByteArray.empty, [])).1 then pageF ((fs.getD k (ByteArray.empty, [])).2.take (j * 128)) pg else pageOf (fs.take k) nm pg :=
  pageOf_snoc (f := ((fs.getD k (ByteArray.empty, [])).1, (fs.getD k (ByteArray.empty, [])).2.take (j * 128))) (inv_new hI hk)
theorem rep_start {fs : List PF} (hI : Inv fs) {k : Nat} (hk : k < fs.length) {D : DataW Unit} (h : RepS D (pageOf (fs.take k))) : RepS D (pageOf (someF fs k 0)) :=
  h.congr fun nm pg => by
    rw [someF_page hI hk]
    by_cases hn : nm = (fs.getD k (ByteArray.empty, [])).1
    · rw [if_pos hn]
      simp only [Nat.zero_mul, List.take_zero]
      rw [pageF_none pg (fun _ => trivial)]
      subst hn
      unfold pageOf
      rw [List.find?_eq_none.2 (fun g hg => by simpa using inv_new hI hk g hg)]
    · rw [if_neg hn]
theorem rep_step {fs : List PF} (hI : Inv fs) {k j : Nat} (hk : k < fs.length) {D : DataW Unit} (h : RepS D (pageOf (someF fs k j))) (hD : IsMap D) (hj : (j + 1) * 128 ≤ (fs.getD k (ByteArray.empty, [])).2.length) (hn : (fs.getD k (ByteArray.empty, [])).1.size ≤ maxLen) (hp : (Lit.int .i64 (j : Int)).wf = true) :
    RepS (D.put (kPl (fs.getD k (ByteArray.empty, [])).1 j) (shD (((fs.getD k (ByteArray.empty, [])).2.drop (j * 128)).take 128))) (pageOf (someF fs k (j + 1))) :=
  (h.put hD hn hp _).congr fun nm pg => by
    rw [someF_page hI hk, someF_page hI hk]
    by_cases h1 : nm = (fs.getD k (ByteArray.empty, [])).1
    · rw [if_pos h1, if_pos h1]
      rw [pageF_take hj]
      by_cases h2 : pg = j
      · rw [if_pos h2, if_pos ⟨h1, h2⟩]
      · rw [if_neg h2, if_neg (fun h => h2 h.2)]
    · rw [if_neg h1, if_neg h1, if_neg (fun h => h1 h.1)]
theorem rep_next {fs : List PF} (hI : Inv fs) {k : Nat} (hk : k < fs.length) {D : DataW Unit} (h : RepS D (pageOf (someF fs k ((fs.getD k (ByteArray.empty, [])).2.length / 128)))) : RepS D (pageOf (fs.take (k + 1))) := by
  have e : someF fs k ((fs.getD k (ByteArray.empty, [])).2.length / 128) = fs.take (k + 1) := by
    unfold someF
    rw [pageF_all _ (hI.pg k hk).2, take_snocD fs k (ByteArray.empty, []) hk]
  rw [e] at h
  exact h
end Go.Proofs.Ytakdaandbdbdnaa
namespace Go.Proofs.Ytakdaandbdbdnaa
open Go.RowKit Go.Maps
set_option linter.unusedVariables false
set_option maxRecDepth 100000

theorem run_makeS (r : Int) (w : World) : (Instr.makeMap 80 (some (.int .i64 r))).run Try.prog w = .ok (.map (some w.heap.size)) (w.alloc (.map #[] 0)) := by
  simp [Instr.makeMap, run_underlying Try.underlying80, asInt, newObj]
  rfl
theorem run_arrayAtS (b o n c : Nat) (w : World) (h : 128 ≤ n) : (Instr.arrayAt 86 (.slice (some ⟨b, o, none⟩) n c)).run Try.prog w = .ok (.pointer (some ⟨b, o, none⟩)) w := by
  simp [Instr.arrayAt, run_underlying Try.underlying86]
  omega
theorem infoSheet : (Try.prog.info? 86).map (·.size) = some 128 := by kernel_rfl
theorem range_page {W : World} {db dof j pn : Nat} {ds : List Int} (h : ∀ t, t < pn → W.cell? ⟨db, dof + t, none⟩ = some (.int .u8 (ds.getD t 0))) (hl : ds.length = pn) (hj : (j + 1) * 128 ≤ pn) : W.rangeAt db (dof + j * 128) (u8s ((ds.drop (j * 128)).take 128)) := by
  intro t v ht
  have htl : t < 128 := by
    have := (List.getElem?_eq_some_iff.1 ht).1
    simp only [u8s, List.length_map, List.length_take] at this
    omega
  have h1 := h (j * 128 + t) (by omega)
  have h2 : j * 128 + t < ds.length := by omega
  rw [Nat.add_assoc, h1, ← ht]
  simp only [u8s, List.getElem?_map, List.getElem?_take_of_lt htl, List.getElem?_drop, List.getElem?_eq_getElem h2, List.getD, Option.map_some, Option.getD_some]
theorem box_two2D {w : World} {N : Nat} {v0 v1 : Value} {t : TypeId} (h : w.heap[N]? = some (.cells #[v0, v1] t)) : w.cell? ⟨N, 0, none⟩ = some v0 ∧ w.cell? ⟨N, 1, none⟩ = some v1 := by simp [World.cell?, h]
set_option maxHeartbeats 6400000 in
theorem durable_any (a : Option Addr) (n c : Nat) (fs : List PF) (b : Option Addr) (m d : Nat) (ps : List PP) (cp fu : Int) (de : Bool) (w : World) (A B : Nat) (hB : B ≤ w.heap.size) (hF : FilesAt w A B a n c fs) (hm : m ≤ 1048576) (hI : Inv fs) (hn : n ≤ 12) (hall : ∀ j, j < n → (fs.getD j (ByteArray.empty, [])).2.length ≤ 1048576) :
    Calls Try.prog 50 #[.agg #[.slice a n c, .slice b m d, .int .i64 cp, .int .i64 fu, .bool de]] w fun e w' => ∃ (mb k : Nat) (D : DataW Unit), e = .returned (.map (some mb)) ∧ w.heap.size ≤ mb ∧ MapS w' mb k D ∧ k ≤ 1048576 ∧ RepS D (pageOf fs) ∧ Below w.heap.size w w' := by
  have HF : Hid (∀ W, Below w.heap.size w W → FilesAt W A B a n c fs) := fun W hW => hF.below (hW.mono hB)
  have HA : Hid (∀ j, j < n → (fs.getD j (ByteArray.empty, [])).2.length ≤ 1048576) := hall
  have HFL : Hid (fs.length = n) := hF.1
  have HI : Hid (Inv fs) := hI
  have hnc := hF.2.1
  have hcm := hF.2.2.1
  unfold maxLen at hcm
  clear hF hall hI
  have hb0 : Below w.heap.size w (w.alloc (.cells #[.slice a n c, .slice b m d, .int .i64 cp, .int .i64 fu, .bool de] 26)) := (Below.refl _ _).alloc (Nat.le_refl _) _
  have k0 := heap_alloc_new w (.cells #[.slice a n c, .slice b m d, .int .i64 cp, .int .i64 fu, .bool de] 26)
  have hmk := run_makeS
  go_enter Try.func50, Try.ntmps50
  go_wp2
  go_loopw [3, 5, 16] (fun r _ i wr => ∃ (k : Nat) (rm : Int), k ≤ n ∧ i = .int .i64 k ∧ r = .int .i64 rm ∧ (0 ≤ rm ∧ rm ≤ 1048576 + k * 1048576) ∧ Below (w.heap.size + 1) (w.alloc (.cells #[.slice a n c, .slice b m d, .int .i64 cp, .int .i64 fu, .bool de] 26)) wr) (fun _ _ i _ => n - (intOf i).toNat)
  case atStart => exact ⟨0, m, Nat.zero_le _, rfl, rfl, by omega, Below.refl _ _⟩
  case round =>
    obtain ⟨k, rm, hk, rfl, rfl, hrm, hbel⟩ := hrel
    have hbw : Below w.heap.size w wr := hb0.trans (hbel.mono (by omega))
    have hsz := hbel.size
    simp at hsz
    by_cases hlt : k < n
    · obtain ⟨_, _, _, hcell⟩ := HF.out wr hbw
      obtain ⟨ab, aoff, rfl, hab, hcb⟩ := hcell (by omega)
      obtain ⟨p1, p2, pa, pn, pc, p3, p4⟩ := hcb k hlt
      have hpl : pn ≤ 1048576 := by have := HA.out k hlt; rw [p4.1] at this; exact this
      have hbk : ab < wr.heap.size := by omega
      clear hcell hcb
      obtain ⟨f1, hf1⟩ : ∃ x, x = (fs.getD k (ByteArray.empty, [])).1 := ⟨_, rfl⟩
      rw [← hf1] at p1
      clear hf1 p4 p2
      have hal := hbel.alloc (by omega) (.cells #[.string f1, .slice pa pn pc] 92)
      have hq : 0 ≤ (pn : Int) / 128 ∧ (pn : Int) / 128 ≤ 1048576 := by omega
      go_wp2
      go_roundw
      case rel => exact ⟨k + 1, rm + (pn : Int) / 128, by omega, by go_num, by go_num, by omega, hal⟩
      case measure => simp [intOf]; omega
    · obtain rfl : k = n := by omega
      have k1 := (hbel.block w.heap.size (by omega)).trans k0
      obtain ⟨w2, hw2⟩ : ∃ w2, w2 = wr := ⟨_, rfl⟩
      rw [← hw2] at k1 hbw hsz ⊢
      clear hbel hb0 k0 hw2 wr
      obtain ⟨o0, o1, o2, o3, o4⟩ := box_fiveC k1
      have hl2 : w.heap.size < w2.heap.size := by omega
      go_wp2
      clear o0 o1 o2 o3 o4 hmk
      go_loopw [8, 9, 32] (fun _ _ i wr => ∃ (j q : Nat) (D : DataW Unit), j ≤ k ∧ i = .int .i64 j ∧ q ≤ j * 8192 ∧ Hid (MapS wr w2.heap.size q D) ∧ Hid (RepS D (pageOf (fs.take j))) ∧ Hid (Fr (fun x => x = w2.heap.size) (w2.alloc (.map #[] 0)) wr)) (fun _ _ i _ => k - (intOf i).toNat)
      case atStart => exact ⟨0, 0, _, Nat.zero_le _, rfl, Nat.le_refl _, World.ownsMap_made w2 Try.prog _ _, RepS.nil, Fr.refl _ _⟩
      case round =>
        obtain ⟨i, q, D, hi, rfl, hq, HM, HRp, HFr⟩ := hrel
        have hsz2 := HFr.out.size
        simp at hsz2
        have hbw2 : Below w.heap.size w wr := (hbw.trans (((Below.refl w2.heap.size w2).alloc (Nat.le_refl _) _).mono hbw.size)).trans (HFr.out.below (by simp; omega) (fun g e => by omega))
        have hlm : w2.heap.size < wr.heap.size := by omega
        by_cases hlt : i < k
        · obtain ⟨_, _, _, hcell⟩ := HF.out wr hbw2
          obtain ⟨ab, aoff, rfl, hab, hcb⟩ := hcell (by omega)
          obtain ⟨p1, hnm, pa, pn, pc, p3, p4⟩ := hcb i hlt
          have hil : i < fs.length := by rw [HFL.out]; exact hlt
          have hpg := HI.out.pg i hil
          have hpl := HA.out i hlt
          rw [p4.1] at hpg hpl
          have hbk : ab < wr.heap.size := by omega
          have hpcm := p4.2.2.1
          have hpnc := p4.2.1
          unfold maxLen at hpcm
          have hby := p4.2.2.2.1
          obtain ⟨db, dof, rfl, hdb, hdc⟩ := p4.2.2.2.2.1 (by omega)
          have HDL : Hid ((fs.getD i (ByteArray.empty, [])).2.length = pn) := p4.1
          have HBY : Hid (∀ x ∈ (fs.getD i (ByteArray.empty, [])).2, 0 ≤ x ∧ x ≤ 255) := hby
          have HDC : Hid (∀ t, t < pn → wr.cell? ⟨db, dof + t, none⟩ = some (.int .u8 ((fs.getD i (ByteArray.empty, [])).2.getD t 0))) := hdc
          clear hcell hcb p4 hby hdc
          obtain ⟨f1, hf1⟩ : ∃ x, x = (fs.getD i (ByteArray.empty, [])).1 := ⟨_, rfl⟩
          rw [← hf1] at p1 hnm
          have HF1 : Hid (f1 = (fs.getD i (ByteArray.empty, [])).1) := hf1
          clear hf1
          have hal : Below wr.heap.size wr (wr.alloc (.cells #[.string f1, .slice (some ⟨db, dof, none⟩) pn pc] 92)) := (Below.refl _ _).alloc (Nat.le_refl _) _
          have hbx := heap_alloc_new wr (.cells #[.string f1, .slice (some ⟨db, dof, none⟩) pn pc] 92)
          have hM1 : Hid (MapS (wr.alloc (.cells #[.string f1, .slice (some ⟨db, dof, none⟩) pn pc] 92)) w2.heap.size q D) := HM.out.alloc _
          have hF1 : Hid (Fr (fun x => x = w2.heap.size) (w2.alloc (.map #[] 0)) (wr.alloc (.cells #[.string f1, .slice (some ⟨db, dof, none⟩) pn pc] 92))) := HFr.out.trans (Fr.of_below hal)
          have hR1 : Hid (RepS D (pageOf (someF fs i 0))) := rep_start HI.out hil HRp.out
          have HDC1 : Hid (∀ t, t < pn → (wr.alloc (.cells #[.string f1, .slice (some ⟨db, dof, none⟩) pn pc] 92)).cell? ⟨db, dof + t, none⟩ = some (.int .u8 ((fs.getD i (ByteArray.empty, [])).2.getD t 0))) := fun t ht => (hal.cell (p := ⟨db, dof + t, none⟩) (by show db < _; omega)).trans (HDC.out t ht)
          have hdv : (pn : Int) / 128 = ((pn / 128 : Nat) : Int) := by omega
          have hnp : pn / 128 ≤ 8192 := by omega
          obtain ⟨fb, hfb⟩ : ∃ fb, fb = wr.heap.size := ⟨_, rfl⟩
          have hfbW : fb < (wr.alloc (.cells #[.string f1, .slice (some ⟨db, dof, none⟩) pn pc] 92)).heap.size := by rw [hfb]; exact (Array.getElem?_eq_some_iff.1 hbx).1
          rw [← hfb] at hbx
          have hfbm : w2.heap.size < fb := by omega
          have HDV : Hid ((pn : Int) / 128 = ((pn / 128 : Nat) : Int)) := hdv
          have hdbm : db < w2.heap.size := by omega
          clear hdv HDC HM HFr HRp
          go_wp2
          rw [HDV.out]
          generalize wr.alloc (.cells #[.string f1, .slice (some ⟨db, dof, none⟩) pn pc] 92) = wf at hbx hM1 hF1 HDC1 hfbW ⊢
          obtain ⟨np, hnpe⟩ : ∃ np, np = pn / 128 := ⟨_, rfl⟩
          rw [← hnpe] at hnp HDV ⊢
          have HNP : Hid (np = pn / 128) := hnpe
          have hnpm : np * 128 ≤ pn := by omega
          clear hnpe
          rw [← hfb]
          clear hfb
          go_loopw [9, 40] (fun _ t wv => ∃ (j q2 : Nat) (D2 : DataW Unit), j ≤ np ∧ t = .int .i64 j ∧ q2 ≤ i * 8192 + j ∧ Hid (MapS wv w2.heap.size q2 D2) ∧ Hid (RepS D2 (pageOf (someF fs i j))) ∧ Hid (Fr (fun x => x = w2.heap.size) wf wv)) (fun _ t _ => np - (intOf t).toNat)
          case atStart => exact ⟨0, q, D, Nat.zero_le _, rfl, by omega, hM1, hR1, Fr.refl _ _⟩
          case round =>
            obtain ⟨j, q2, D2, hj, rfl, hq2, HM, HRp, HFr⟩ := hrel
            have hbxv := (HFr.out.block fb hfbW (by omega)).trans hbx
            have hsv := HFr.out.size
            have hfbv : fb < wr.heap.size := by omega
            obtain ⟨c0, c1⟩ := box_two2D hbxv
            by_cases hlj : j < np
            · obtain ⟨pgb, hpgb⟩ : ∃ x, x = ((fs.getD i (ByteArray.empty, [])).2.drop (j * 128)).take 128 := ⟨_, rfl⟩
              have hpgl : pgb.length = 128 := by rw [hpgb, List.length_take, List.length_drop, HDL.out]; omega
              have hpgr : ∀ x ∈ pgb, 0 ≤ x ∧ x ≤ 255 := fun x hx => HBY.out x (by rw [hpgb] at hx; exact List.mem_of_mem_drop (List.mem_of_mem_take hx))
              have hrg : wr.rangeAt db (dof + j * 128) (u8s pgb) := by
                rw [hpgb]
                exact range_page (fun t ht => (World.cell?_of_block (a := ⟨db, dof + t, none⟩) (HFr.out.block db (by omega) (by omega))).trans (HDC1.out t ht)) HDL.out (by omega)
              have hjw : (Lit.int .i64 (j : Int)).wf = true := WalkArith.wf_i64 (by omega)
              have hval : sheetR (.agg (u8s pgb).toArray) = some (shD pgb, []) := sheetR_mk hpgl hpgr
              have hInfo : (Try.prog.info? 86).map (·.size) = some (u8s pgb).length := by rw [infoSheet]; simp [u8s, hpgl]
              have HSTEP : Hid (RepS (D2.put (kPl f1 (j : Int)) (shD pgb)) (pageOf (someF fs i (j + 1)))) := by
                show RepS _ _
                rw [HF1.out, hpgb]
                exact rep_step HI.out hil HRp.out HM.out.isMap (by rw [HDL.out]; omega) (by rw [← HF1.out]; exact hnm) hjw
              have hS0 : wr.cell? ⟨fb, 0, none⟩ = some (.string f1) ∧ wr.cell? ⟨fb, 1, none⟩ = some (.slice (some ⟨db, dof, none⟩) pn pc) ∧ wr.rangeAt db (dof + j * 128) (u8s pgb) := ⟨c0, c1, hrg⟩
              have jw1 : IntKind.i64.wrap ((j : Int) * 128) = (j : Int) * 128 := by rw [IntKind.wrap_i64]; omega
              have jw2 : IntKind.i64.wrap ((j : Int) + 1) = (j : Int) + 1 := by rw [IntKind.wrap_i64]; omega
              have jw3 : IntKind.i64.wrap (((j : Int) + 1) * 128) = ((j : Int) + 1) * 128 := by rw [IntKind.wrap_i64]; omega
              have jn1 : ((j : Int) * 128).toNat = j * 128 := by omega
              have jn2 : (((j : Int) + 1) * 128).toNat = (j + 1) * 128 := by omega
              clear hpgb hrg
              go_wp2_with fail
              refine wp_region_noPanic ?_
              refine wp_region_held_drew (S := (fun w' => w'.cell? ⟨fb, 0, none⟩ = some (.string f1) ∧ w'.cell? ⟨fb, 1, none⟩ = some (.slice (some ⟨db, dof, none⟩) pn pc) ∧ w'.rangeAt db (dof + j * 128) (u8s pgb))) (by kernel_rfl) ?_ (fun hHeld => ?_)
              · exact hS0
              clear c0 c1
              refine wpAnyH_take (i := 0) (oi := { dst := some 43, op := Op.move (Operand.tmp 6), type := 80, pos := "l1_disk.go:238", after := #[], guard := none }) (v := ?_) rfl (by kernel_rfl) (by kernel_rfl) (by kernel_rfl) (fun _ _ _ h => h) (Or.inl ⟨by rfl, ?_⟩) (by assumption) ?_
              rotate_left 1
              · intro w hSw; (try dsimp only at hSw); go_simp; try (with_reducible rfl)
              try simp only [Act.put, List.setIfInBounds_toArray, List.set_cons_zero, List.set_cons_succ]
              refine wpAnyH_take (i := 1) (oi := { dst := some 44, op := Op.fieldAddr 92 (Operand.tmp 8) 0, type := 0, pos := "l1_disk.go:238", after := #[], guard := none }) (v := ?_) rfl (by kernel_rfl) (by kernel_rfl) (by kernel_rfl) (fun _ _ _ h => h) (Or.inl ⟨by rfl, ?_⟩) (by assumption) ?_
              rotate_left 1
              · intro w hSw; (try dsimp only at hSw); go_simp; try (with_reducible rfl)
              try simp only [Act.put, List.setIfInBounds_toArray, List.set_cons_zero, List.set_cons_succ]
              refine wpAnyH_take (i := 2) (oi := { dst := some 45, op := Op.load 9 (Operand.tmp 44), type := 9, pos := "l1_disk.go:238", after := #[{ on := 1, ground := Ground.data }], guard := none }) (v := ?_) rfl (by kernel_rfl) (by kernel_rfl) (by kernel_rfl) (fun _ _ _ h => h) (Or.inl ⟨by rfl, ?_⟩) (by assumption) ?_
              rotate_left 1
              · intro w hSw; (try dsimp only at hSw); go_simp; try (with_reducible rfl)
              try simp only [Act.put, List.setIfInBounds_toArray, List.set_cons_zero, List.set_cons_succ]
              refine wpAnyH_take (i := 3) (oi := { dst := some 46, op := Op.move (Operand.tmp 9), type := 2, pos := "l1_disk.go:238", after := #[], guard := none }) (v := ?_) rfl (by kernel_rfl) (by kernel_rfl) (by kernel_rfl) (fun _ _ _ h => h) (Or.inl ⟨by rfl, ?_⟩) (by assumption) ?_
              rotate_left 1
              · intro w hSw; (try dsimp only at hSw); go_simp; try (with_reducible rfl)
              try simp only [Act.put, List.setIfInBounds_toArray, List.set_cons_zero, List.set_cons_succ]
              refine wpAnyH_take (i := 4) (oi := { dst := some 47, op := Op.build 89 #[(0, Operand.tmp 45), (1, Operand.tmp 46)], type := 89, pos := "l1_disk.go:238", after := #[{ on := 2, ground := Ground.data }, { on := 3, ground := Ground.data }], guard := none }) (v := ?_) rfl (by kernel_rfl) (by kernel_rfl) (by kernel_rfl) (fun _ _ _ h => h) (Or.inl ⟨by rfl, ?_⟩) (by assumption) ?_
              rotate_left 1
              · intro w hSw; (try dsimp only at hSw); go_simp; try (with_reducible rfl)
              try simp only [Act.put, List.setIfInBounds_toArray, List.set_cons_zero, List.set_cons_succ]
              refine wpAnyH_take (i := 5) (oi := { dst := some 48, op := Op.fieldAddr 92 (Operand.tmp 8) 1, type := 0, pos := "l1_disk.go:238", after := #[], guard := none }) (v := ?_) rfl (by kernel_rfl) (by kernel_rfl) (by kernel_rfl) (fun _ _ _ h => h) (Or.inl ⟨by rfl, ?_⟩) (by assumption) ?_
              rotate_left 1
              · intro w hSw; (try dsimp only at hSw); go_simp; try (with_reducible rfl)
              try simp only [Act.put, List.setIfInBounds_toArray, List.set_cons_zero, List.set_cons_succ]
              refine wpAnyH_take (i := 6) (oi := { dst := some 49, op := Op.load 22 (Operand.tmp 48), type := 22, pos := "l1_disk.go:238", after := #[{ on := 5, ground := Ground.data }], guard := none }) (v := ?_) rfl (by kernel_rfl) (by kernel_rfl) (by kernel_rfl) (fun _ _ _ h => h) (Or.inl ⟨by rfl, ?_⟩) (by assumption) ?_
              rotate_left 1
              · intro w hSw; (try dsimp only at hSw); go_simp; try (with_reducible rfl)
              try simp only [Act.put, List.setIfInBounds_toArray, List.set_cons_zero, List.set_cons_succ]
              refine wpAnyH_take (i := 7) (oi := { dst := some 50, op := Op.move (Operand.tmp 9), type := 2, pos := "l1_disk.go:238", after := #[], guard := none }) (v := ?_) rfl (by kernel_rfl) (by kernel_rfl) (by kernel_rfl) (fun _ _ _ h => h) (Or.inl ⟨by rfl, ?_⟩) (by assumption) ?_
              rotate_left 1
              · intro w hSw; (try dsimp only at hSw); go_simp; try (with_reducible rfl)
              try simp only [Act.put, List.setIfInBounds_toArray, List.set_cons_zero, List.set_cons_succ]
              refine wpAnyH_take (i := 8) (oi := { dst := some 51, op := Op.binOp BinOp.mul 2 (Operand.tmp 50) (Operand.const (Value.int IntKind.i64 128)) 2, type := 2, pos := "l1_disk.go:238", after := #[{ on := 7, ground := Ground.data }], guard := none }) (v := .int .i64 ((j : Int) * 128)) rfl (by kernel_rfl) (by kernel_rfl) (by kernel_rfl) (fun _ _ _ h => h) (Or.inl ⟨by rfl, ?_⟩) (by assumption) ?_
              · intro w hSw; (try dsimp only at hSw); go_simp
              try simp only [Act.put, List.setIfInBounds_toArray, List.set_cons_zero, List.set_cons_succ]
              refine wpAnyH_take (i := 9) (oi := { dst := some 52, op := Op.move (Operand.tmp 9), type := 2, pos := "l1_disk.go:238", after := #[], guard := none }) (v := ?_) rfl (by kernel_rfl) (by kernel_rfl) (by kernel_rfl) (fun _ _ _ h => h) (Or.inl ⟨by rfl, ?_⟩) (by assumption) ?_
              rotate_left 1
              · intro w hSw; (try dsimp only at hSw); go_simp; try (with_reducible rfl)
              try simp only [Act.put, List.setIfInBounds_toArray, List.set_cons_zero, List.set_cons_succ]
              refine wpAnyH_take (i := 10) (oi := { dst := some 53, op := Op.binOp BinOp.add 2 (Operand.tmp 52) (Operand.const (Value.int IntKind.i64 1)) 2, type := 2, pos := "l1_disk.go:238", after := #[{ on := 9, ground := Ground.data }], guard := none }) (v := .int .i64 ((j : Int) + 1)) rfl (by kernel_rfl) (by kernel_rfl) (by kernel_rfl) (fun _ _ _ h => h) (Or.inl ⟨by rfl, ?_⟩) (by assumption) ?_
              · intro w hSw; (try dsimp only at hSw); go_simp
              try simp only [Act.put, List.setIfInBounds_toArray, List.set_cons_zero, List.set_cons_succ]
              refine wpAnyH_take (i := 11) (oi := { dst := some 54, op := Op.binOp BinOp.mul 2 (Operand.tmp 53) (Operand.const (Value.int IntKind.i64 128)) 2, type := 2, pos := "l1_disk.go:238", after := #[{ on := 10, ground := Ground.data }], guard := none }) (v := .int .i64 (((j : Int) + 1) * 128)) rfl (by kernel_rfl) (by kernel_rfl) (by kernel_rfl) (fun _ _ _ h => h) (Or.inl ⟨by rfl, ?_⟩) (by assumption) ?_
              · intro w hSw; (try dsimp only at hSw); go_simp
              try simp only [Act.put, List.setIfInBounds_toArray, List.set_cons_zero, List.set_cons_succ]
              refine wpAnyH_take (i := 12) (oi := { dst := some 55, op := Op.slice 22 (Operand.tmp 49) (some (Operand.tmp 51)) (some (Operand.tmp 54)) none, type := 22, pos := "l1_disk.go:238", after := #[{ on := 6, ground := Ground.data }, { on := 8, ground := Ground.data }, { on := 11, ground := Ground.data }], guard := none }) (v := .slice (some ⟨db, dof + j * 128, none⟩) 128 (pc - j * 128)) rfl (by kernel_rfl) (by kernel_rfl) (by kernel_rfl) (fun _ _ _ h => h) (Or.inl ⟨by rfl, ?_⟩) (by assumption) ?_
              · intro w hSw; (try dsimp only at hSw); go_simp; rw [if_neg (show ¬ pc = j * 128 by omega), show (j + 1) * 128 - j * 128 = 128 by omega]; rw [if_pos (show (0 : Int) ≤ ((j : Int) + 1) * 128 ∧ ((j : Int) + 1) * 128 ≤ (pc : Int) by omega), if_pos (show (0 : Int) ≤ (j : Int) * 128 ∧ (j : Int) ≤ (j : Int) + 1 by omega)]
              try simp only [Act.put, List.setIfInBounds_toArray, List.set_cons_zero, List.set_cons_succ]
              refine wpAnyH_take (i := 13) (oi := { dst := some 56, op := Op.sliceToArrayPointer 86 (Operand.tmp 55), type := 0, pos := "l1_disk.go:238", after := #[{ on := 12, ground := Ground.data }], guard := none }) (v := .pointer (some ⟨db, dof + j * 128, none⟩)) rfl (by kernel_rfl) (by kernel_rfl) (by kernel_rfl) (fun _ _ _ h => h) (Or.inl ⟨by rfl, ?_⟩) (by assumption) ?_
              · intro w hSw; (try dsimp only at hSw); have har := run_arrayAtS db (dof + j * 128) 128 (pc - j * 128) w (by omega); go_simp
              try simp only [Act.put, List.setIfInBounds_toArray, List.set_cons_zero, List.set_cons_succ]
              refine wpAnyH_take (i := 14) (oi := { dst := some 57, op := Op.load 86 (Operand.tmp 56), type := 86, pos := "l1_disk.go:238", after := #[{ on := 13, ground := Ground.data }], guard := none }) (v := .agg (u8s pgb).toArray) rfl (by kernel_rfl) (by kernel_rfl) (by kernel_rfl) (fun _ _ _ h => h) (yieldsIf_load_mid (by rfl) _ _ rfl db (dof + j * 128) (by simp [Act.eval]) (u8s pgb) _ (fun _ hS => hS.2.2) Try.underlying86 rfl hInfo) (by assumption) ?_
              try simp only [Act.put, List.setIfInBounds_toArray, List.set_cons_zero, List.set_cons_succ]
              refine wpAnyH_ready (rs := [15]) (by kernel_rfl) (by simp) ?_
              refine AllReadyH.cons (o := { dst := none, op := Op.mapUpdate 80 (Operand.tmp 43) (Operand.tmp 47) (Operand.tmp 57), type := 0, pos := "l1_disk.go:238", after := #[{ on := 0, ground := Ground.data }, { on := 4, ground := Ground.data }, { on := 14, ground := Ground.data }, { on := 0, ground := Ground.phase }, { on := 1, ground := Ground.phase }, { on := 2, ground := Ground.phase }, { on := 3, ground := Ground.phase }, { on := 4, ground := Ground.phase }, { on := 5, ground := Ground.phase }, { on := 6, ground := Ground.phase }, { on := 7, ground := Ground.phase }, { on := 8, ground := Ground.phase }, { on := 9, ground := Ground.phase }, { on := 10, ground := Ground.phase }, { on := 11, ground := Ground.phase }, { on := 12, ground := Ground.phase }, { on := 13, ground := Ground.phase }, { on := 14, ground := Ground.phase }], guard := none }) rfl (fun K hK => ?_) ?_
              rotate_left 1
              exact AllReadyH.nil
              · obtain ⟨wu, hrun, hMu, hgu⟩ := (World.ownsMap.drew HM.out).update lawPl Try.underlying80 (by unfold maxLen; omega) (keyOf_pl hnm hjw) (val := .agg (u8s pgb).toArray) hval
                have S2 : (fun w' => w'.cell? ⟨fb, 0, none⟩ = some (.string f1) ∧ w'.cell? ⟨fb, 1, none⟩ = some (.slice (some ⟨db, dof, none⟩) pn pc) ∧ w'.rangeAt db (dof + j * 128) (u8s pgb)) wu := ⟨(World.cell?_of_block (hgu.block fb (show fb < wr.heap.size by omega) (fun e => by injection e with e; omega))).trans hS0.1, (World.cell?_of_block (hgu.block fb (show fb < wr.heap.size by omega) (fun e => by injection e with e; omega))).trans hS0.2.1, fun t v ht => (World.cell?_of_block (hgu.block db (show db < wr.heap.size by omega) (fun e => by injection e with e; omega))).trans (hS0.2.2 t v ht)⟩
                go_simp
                refine hK.out _ _ S2 (fun hHeld => ?_)
                clear hK K
                try simp only [Act.put, List.setIfInBounds_toArray, List.set_cons_zero, List.set_cons_succ]
                refine wpAnyH_done (by kernel_rfl) ?_ _
                refine NoPanic.normal ?_
                have hFu : Hid (Fr (fun x => x = w2.heap.size) wf wu) := (HFr.out.trans (Fr.of_below (Below.refl _ _).drew)).trans (Fr.of_grown hgu (fun x e => by injection e with e; exact e.symm))
                have hMu2 : Hid (MapS wu w2.heap.size (q2 + 1) (D2.put (kPl f1 (j : Int)) (shD pgb))) := hMu
                have hRu : Hid (RepS (D2.put (kPl f1 (j : Int)) (shD pgb)) (pageOf (someF fs i (j + 1)))) := HSTEP.out
                clear hMu hgu hrun S2 hS0 HM HFr HRp HSTEP hval
                go_wp2
                go_roundw
                case rel => exact ⟨j + 1, q2 + 1, _, by omega, by go_num, by omega, hMu2, hRu, hFu⟩
                case measure => simp [intOf]; omega
            · obtain rfl : j = np := by omega
              have hR2 : Hid (RepS D2 (pageOf (fs.take (i + 1)))) := rep_next HI.out hil (by rw [HDL.out, ← HNP.out]; exact HRp.out)
              have hF2 : Hid (Fr (fun x => x = w2.heap.size) (w2.alloc (.map #[] 0)) wr) := hF1.out.trans HFr.out
              clear c0 c1 hbxv
              go_wp2
              go_roundw
              case rel => exact ⟨i + 1, q2, D2, by omega, by go_num, by omega, HM, hR2, hF2⟩
              case measure => simp [intOf]; omega
        · obtain rfl : i = k := by omega
          have hR3 : RepS D (pageOf fs) := by have := HRp.out; rwa [List.take_of_length_le (by rw [HFL.out]; exact Nat.le_refl _)] at this
          go_wp2
          go_ret
          exact ⟨w2.heap.size, q, D, rfl, by omega, HM.out, by omega, hR3, hbw2⟩
end Go.Proofs.Ytakdaandbdbdnaa
