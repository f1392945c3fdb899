import Derived.Test.YtmmdkjeoadlikaaRd
import Derived.Test.YtmmdkjeoadlikaaOwn
import Derived.Test.YtmmdkjeoadlikaaSeen
import Derived.Test.YtmmdkjeoadlikaaPC
import Derived.Test.YtmmdkjeoadlikaaJS1
import Derived.Deep.MidRow
namespace Go.Proofs.Ytmmdkjeoadlikaa
open Go.RowKit
set_option linter.unusedVariables false
set_option maxRecDepth 100000

/-- Page pg of a file of a list, or nothing. -/
def pageP (fs : List PF) (nm : ByteArray) (pg : Int) : List Int := if 0 ≤ pg ∧ pg < lenI fs nm then ((fs.getD (findN fs nm) (ByteArray.empty, [])).2.drop (pg.toNat * 128)).take 128 else []
theorem pageP_len (fs : List PF) (nm : ByteArray) (pg : Int) : (pageP fs nm pg).length ≤ 128 := by
  unfold pageP
  split
  · simp; omega
  · simp
theorem bytes_sub {w : World} {A B pb poff n c : Nat} {bs : List Int} (h : BytesAt w A B (some ⟨pb, poff, none⟩) n c bs) {k : Nat} (hk : k + 128 ≤ n) : BytesAt w A B (some ⟨pb, poff + k, none⟩) 128 (c - k) ((bs.drop k).take 128) := by
  obtain ⟨h1, h2, h3, h4, h5, h6⟩ := h
  refine ⟨by simp; omega, by omega, by omega, fun x hx => h4 x (List.mem_of_mem_drop (List.mem_of_mem_take hx)), fun _ => ?_, fun e => by cases e⟩
  obtain ⟨b, off, e, hb, hc⟩ := h5 (by omega)
  simp only [Option.some.injEq, Addr.mk.injEq] at e
  obtain ⟨rfl, rfl, _⟩ := e
  refine ⟨_, _, rfl, hb, fun i hi => ?_⟩
  rw [Nat.add_assoc, hc (k + i) (by omega)]
  have h7 : k + i < bs.length := by omega
  simp [List.getD, hi, List.getElem?_drop]
set_option maxHeartbeats 1600000 in
theorem l1Page_any (a : Option Addr) (n c : Nat) (fs : List PF) (nm : ByteArray) (pg : Int) (w : World) (A B : Nat) (hB : B ≤ w.heap.size) (hF : FilesAt w A B a n c fs) (hp : (Lit.int .i64 pg).wf = true) (hall : ∀ j, j < n → (fs.getD j (ByteArray.empty, [])).2.length ≤ 1073741824) :
    Calls Try.prog 29 #[.slice a n c, .string nm, .int .i64 pg] w fun e w' => ∃ va vn vc, e = .returned (.slice va vn vc) ∧ vn = (pageP fs nm pg).length ∧ w'.ownsRow w.heap.size 5 1 (.slice va vn vc) vn (u8s (pageP fs nm pg)) ∧ (∀ x ∈ pageP fs nm pg, 0 ≤ x ∧ x ≤ 255) ∧ Below w.heap.size w w' := by
  have HF : Hid (FilesAt w A B a n c fs) := hF
  have hal : Below w.heap.size w (w.alloc (.cells #[] 5)) := (Below.refl _ _).alloc (Nat.le_refl _) _
  have hown : (w.alloc (.cells #[] 5)).ownsRow w.heap.size 5 1 (.slice (some ⟨w.heap.size, 0, none⟩) 0 0) 0 [] := World.ownsRow_made w #[] 0 (Nat.le_refl _) (by unfold maxLen; omega) (by simp)
  by_cases h0 : pg < 0
  · have HP : Hid (pageP fs nm pg = []) := by show _ = _; unfold pageP; rw [if_neg (by omega)]
    go_enter Try.func29, Try.ntmps29
    go_wp2
    go_ret
    exact ⟨_, _, _, rfl, by rw [HP.out]; rfl, by rw [HP.out]; exact hown, by rw [HP.out]; simp, hal⟩
  by_cases h1 : lenI fs nm ≤ pg
  · have HP : Hid (pageP fs nm pg = []) := by show _ = _; unfold pageP; rw [if_neg (by omega)]
    go_enter Try.func29, Try.ntmps29
    go_wp2_with fail
    refine (l1Len_any _ _ _ fs nm _ A B HF.out).mono ?_
    rintro e w1 ⟨rfl, rfl⟩
    go_wp2
    go_ret
    exact ⟨_, _, _, rfl, by rw [HP.out]; rfl, by rw [HP.out]; exact hown, by rw [HP.out]; simp, hal⟩
  · obtain ⟨pN, rfl⟩ := Int.eq_ofNat_of_zero_le (show 0 ≤ pg by omega)
    have hfl := hF.1
    have hf : findN fs nm < fs.length := Decidable.byContradiction fun h => by unfold lenI at h1; rw [if_neg h] at h1; omega
    have hl : lenI fs nm = ((fs.getD (findN fs nm) (ByteArray.empty, [])).2.length : Int) / 128 := by unfold lenI; rw [if_pos hf]
    obtain ⟨hc1, hc2, hc3, hcell⟩ := hF
    obtain ⟨ab, aoff, rfl, hab, hcb⟩ := hcell (by omega)
    obtain ⟨p1, p2, pa, pn, pc, p3, p4⟩ := hcb (findN fs nm) (by omega)
    have hpl : pn ≤ 1073741824 := by have := hall (findN fs nm) (by omega); rw [p4.1] at this; exact this
    have HP : Hid (pageP fs nm (pN : Int) = ((fs.getD (findN fs nm) (ByteArray.empty, [])).2.drop (pN * 128)).take 128) := by show _ = _; unfold pageP; rw [if_pos (by omega)]; rfl
    have hq : pN * 128 + 128 ≤ pn := by have := p4.1; omega
    have hfi : findI fs nm = (findN fs nm : Int) := by unfold findI; rw [if_pos hf]
    unfold maxLen at hc3
    have HB : Hid (BytesAt w A B pa pn pc (fs.getD (findN fs nm) (ByteArray.empty, [])).2) := p4
    have hii : findN fs nm < n := by omega
    clear hcell hcb hall hl hc1 p4 p1 p2
    generalize (fs.getD (findN fs nm) (ByteArray.empty, [])).2 = dat at HP HB
    obtain ⟨pb, poff, rfl, hpb, _⟩ := HB.out.2.2.2.2.1 (by omega)
    have hpc := HB.out.2.1
    have hpm := HB.out.2.2.1
    unfold maxLen at hpm
    have HSub : Hid (BytesAt w A B (some ⟨pb, poff + pN * 128, none⟩) 128 (pc - pN * 128) ((dat.drop (pN * 128)).take 128)) := bytes_sub HB.out hq
    have hadd : (⟨pb, poff, none⟩ : Addr).add (pN * 128) = ⟨pb, poff + pN * 128, none⟩ := Addr.add_mid _ _ _
    clear hown hal HB
    go_enter Try.func29, Try.ntmps29
    go_wp2_with fail
    refine (l1Len_any _ _ _ fs nm _ A B HF.out).mono ?_
    rintro e w1 ⟨rfl, rfl⟩
    generalize lenI fs nm = L at h1 ⊢
    go_wp2_with fail
    refine (l1Find_any _ _ _ fs nm _ A B HF.out).mono ?_
    rintro e w2 ⟨rfl, rfl⟩
    rw [hfi]
    clear hfi hf hfl HF
    generalize findN fs nm = ii at *
    go_wp2_with fail
    rw [show (pN + 1) * 128 - pN * 128 = 128 by omega]
    refine (l1Bytes_any _ _ _ _ _ A B hB HSub.out (by omega)).mono ?_
    rintro e w3 ⟨va, vc, rfl, hown3, hb3⟩
    go_wp2_with fail
    go_ret
    exact ⟨va, _, vc, rfl, by rw [HP.out]; exact HSub.out.1.symm, by rw [HP.out]; exact hown3, by rw [HP.out]; exact HSub.out.2.2.2.1, hb3⟩
end Go.Proofs.Ytmmdkjeoadlikaa
namespace Go.Proofs.Ytmmdkjeoadlikaa
open Go.RowKit Go.Maps
set_option linter.unusedVariables false
set_option maxRecDepth 100000

/-- What ReadPage answers. -/
def readP (fs : List PF) (ps : List PP) (cp fu : Int) (nm : ByteArray) (pg : Int) : List Int := if implV fs ps cp fu = true then pageP (lastF ps fs) nm pg else []
theorem readP_len (fs : List PF) (ps : List PP) (cp fu : Int) (nm : ByteArray) (pg : Int) : (readP fs ps cp fu nm pg).length ≤ 128 := by
  unfold readP
  split
  · exact pageP_len _ _ _
  · simp
theorem last_small {cp : Int} (hcp : cp ≤ 1000) : ∀ (ps : List PP) (fs : List PF), totalI fs ≤ cp → cacheS cp ps fs = true → totalI (lastF ps fs) ≤ cp
  | [], fs, h, _ => h
  | p :: r, fs, h, hc => by
    simp only [cacheS, fitsB, Bool.and_eq_true, decide_eq_true_eq] at hc
    exact last_small hcp r _ hc.2.1.2 hc.2.2
set_option maxHeartbeats 1600000 in
theorem specRead_any (a : Option Addr) (n c : Nat) (fs : List PF) (b : Option Addr) (m d : Nat) (ps : List PP) (cp fu : Int) (de : Bool) (nm : ByteArray) (pg : Int) (w : World) (A B : Nat) (hB : B ≤ w.heap.size) (hF : FilesAt w A B a n c fs) (hP : PendsAt w A B b m d ps) (hp : (Lit.int .i64 pg).wf = true)
    (hall : ∀ j, j < n → (fs.getD j (ByteArray.empty, [])).2.length ≤ 1048576) :
    Calls Try.prog 8 #[.agg #[.slice a n c, .slice b m d, .int .i64 cp, .int .i64 fu, .bool de], .string nm, .int .i64 pg] w fun e w' => ∃ va vn vc, e = .returned (.slice va vn vc) ∧ vn = (readP fs ps cp fu nm pg).length ∧ w'.ownsRow w.heap.size 5 1 (.slice va vn vc) vn (u8s (readP fs ps cp fu nm pg)) ∧ (∀ x ∈ readP fs ps cp fu nm pg, 0 ≤ x ∧ x ≤ 255) ∧ Below w.heap.size w w' := by
  have hb0 : Below w.heap.size w (w.alloc (.cells #[.slice a n c, .slice b m d, .int .i64 cp, .int .i64 fu, .bool de] 32)) := (Below.refl _ _).alloc (Nat.le_refl _) _
  have hfl := hF.1
  go_enter Try.func8, Try.ntmps8
  go_wp2_with fail
  refine (specValid_any _ _ _ fs _ _ _ ps _ _ _ _ A B (by simp; omega) (hF.below (hb0.mono hB)) (hP.below (hb0.mono hB)) hall).mono ?_
  rintro e w1 ⟨rfl, hb1⟩
  have hg1 := hb0.trans (hb1.mono (by simp))
  have hz1 : w.heap.size + 1 ≤ w1.heap.size := by simpa using hb1.size
  have hbx1 : Hid (w1.heap[w.heap.size]? = some (.cells #[.slice a n c, .slice b m d, .int .i64 cp, .int .i64 fu, .bool de] 32)) := (hb1.block _ (by simp)).trans (heap_alloc_new w _)
  obtain ⟨x0, x1, x2, x3, x4⟩ := box5' hbx1.out
  cases hv : specV fs ps cp fu with
  | false =>
    have HR : Hid (readP fs ps cp fu nm pg = []) := by show _ = _; unfold readP; rw [← valid_eq, hv]; simp
    clear hv
    have hown : (w1.alloc (.cells #[] 5)).ownsRow w.heap.size 5 1 (.slice (some ⟨w1.heap.size, 0, none⟩) 0 0) 0 [] := World.ownsRow_made w1 #[] 0 (by omega) (by unfold maxLen; omega) (by simp)
    have hal : Below w.heap.size w (w1.alloc (.cells #[] 5)) := hg1.alloc (by omega) _
    go_wp2_with fail
    go_ret
    exact ⟨_, _, _, rfl, by rw [HR.out]; rfl, by rw [HR.out]; exact hown, by rw [HR.out]; simp, hal⟩
  | true =>
    obtain ⟨q1, q2, q3, q4, q5⟩ := specV_parts hv
    have HV : Hid (readP fs ps cp fu nm pg = pageP (lastF ps fs) nm pg) := by show _ = _; unfold readP; rw [if_pos (by rw [← valid_eq]; exact hv)]
    have HT : Hid (totalI (lastF ps fs) ≤ 1000) := Int.le_trans (last_small q2 ps fs q3 q4) q2
    clear hv
    go_wp2_with fail
    refine (l1Seen_any _ _ _ fs _ _ _ ps _ _ _ _ A B (by omega) (hF.below (hg1.mono hB)) (hP.below (hg1.mono hB)) (by omega) q2 q3 q4).mono ?_
    rintro e w2 ⟨v2, xs2, vs2, rfl, hO2, hb2⟩
    obtain ⟨a2, n2, c2, rfl, hn2, hF2⟩ := hO2.files
    clear hn2
    have hg2 := hg1.trans (hb2.mono (by omega))
    have hz2 := hb2.size
    clear q3 q4 q5
    go_wp2_with fail
    refine (l1Page_any _ _ _ (lastF ps fs) nm pg _ (w1.heap.size + 1) w2.heap.size (Nat.le_refl _) hF2 hp (fun j hj => Nat.le_trans (small_of_total HT.out j (by rw [hF2.1]; exact hj)) (by omega))).mono ?_
    rintro e w3 ⟨va, vn, vc, rfl, hvn, hown, hby, hb3⟩
    have HBY : Hid (∀ x ∈ pageP (lastF ps fs) nm pg, 0 ≤ x ∧ x ≤ 255) := hby
    have HN : Hid (vn = (pageP (lastF ps fs) nm pg).length) := hvn
    have HO : Hid (w3.ownsRow w.heap.size 5 1 (.slice va vn vc) vn (u8s (pageP (lastF ps fs) nm pg))) := own_lower hown (by omega)
    have hg3 := hg2.trans (hb3.mono (by omega))
    clear hvn hown hF2 hO2 hby
    go_wp2_with fail
    go_ret
    exact ⟨va, vn, vc, rfl, by rw [HV.out]; exact HN.out, by rw [HV.out]; exact HO.out, by rw [HV.out]; exact HBY.out, hg3⟩
end Go.Proofs.Ytmmdkjeoadlikaa
namespace Go.Proofs.Ytmmdkjeoadlikaa
open Go.RowKit Go.Maps
set_option linter.unusedVariables false
set_option maxRecDepth 100000

theorem pageP_of {fl : List PF} (h : Inv fl) (nm : ByteArray) (pg : Int) : pageP fl nm pg = (pageOf fl nm pg).getD [] := by
  obtain ⟨h1, h2⟩ := dataN_len h nm
  rw [pageOf_data]
  unfold pageP pageF
  by_cases hc : 0 ≤ pg ∧ pg * 128 + 128 ≤ ((dataN fl nm).length : Int)
  · rw [if_pos (by omega), if_pos hc]
    have hf : findN fl nm < fl.length := Decidable.byContradiction fun hn => by rw [dataN_none hn] at hc; simp at hc; omega
    show _ = ((dataN fl nm).drop (pg.toNat * 128)).take 128
    unfold dataN
    rw [if_pos hf]
  · rw [if_neg (by omega), if_neg hc]; rfl
theorem run_sliceAllS (g : Nat) (w : World) : (Instr.sliceAt 58 (.pointer (some ⟨g, 0, none⟩)) none none none).run Try.prog w = .ok (.slice (some ⟨g, 0, none⟩) 128 128) w := by
  rw [run_sliceAt_array_all w 58 _ arrSheet, elemSheet, show (sizeOf 5).run Try.prog w = .ok 1 w by kernel_rfl]
  simp [slicedAt, go_sem, Addr.add]
set_option maxHeartbeats 1600000 in
theorem implRead_any (a : Option Addr) (n c : Nat) (fs : List PF) (b : Option Addr) (m d : Nat) (ps : List PP) (cp fu : Int) (de : Bool) (nm : ByteArray) (hnm : nm.size ≤ maxLen) (pg : Int) (w : World) (A B : Nat) (hB : B ≤ w.heap.size) (hF : FilesAt w A B a n c fs) (hP : PendsAt w A B b m d ps) (hp : (Lit.int .i64 pg).wf = true)
    (hall : ∀ j, j < n → (fs.getD j (ByteArray.empty, [])).2.length ≤ 1048576) :
    Calls Try.prog 10 #[.agg #[.slice a n c, .slice b m d, .int .i64 cp, .int .i64 fu, .bool de], .string nm, .int .i64 pg] w fun e w' => ∃ va vn vc ty, e = .returned (.slice va vn vc) ∧ vn = (readP fs ps cp fu nm pg).length ∧ w'.ownsRow w.heap.size ty 1 (.slice va vn vc) vn (u8s (readP fs ps cp fu nm pg)) ∧ (∀ x ∈ readP fs ps cp fu nm pg, 0 ≤ x ∧ x ≤ 255) ∧ vn ≤ 128 ∧ Below w.heap.size w w' := by
  have hb0 : Below w.heap.size w (w.alloc (.cells #[.slice a n c, .slice b m d, .int .i64 cp, .int .i64 fu, .bool de] 32)) := (Below.refl _ _).alloc (Nat.le_refl _) _
  have hfl := hF.1
  have hpl := hP.1
  go_enter Try.func10, Try.ntmps10
  go_wp2_with fail
  refine (implValid_any _ _ _ fs _ _ _ ps _ _ _ _ A B (by simp; omega) (hF.below (hb0.mono hB)) (hP.below (hb0.mono hB)) hall).mono ?_
  rintro e w1 ⟨rfl, hb1⟩
  have hg1 := hb0.trans (hb1.mono (by simp))
  have hz1 : w.heap.size + 1 ≤ w1.heap.size := by simpa using hb1.size
  have hbx1 : Hid (w1.heap[w.heap.size]? = some (.cells #[.slice a n c, .slice b m d, .int .i64 cp, .int .i64 fu, .bool de] 32)) := (hb1.block _ (by simp)).trans (heap_alloc_new w _)
  obtain ⟨x0, x1, x2, x3, x4⟩ := box5' hbx1.out
  cases hv : implV fs ps cp fu with
  | false =>
    have HR : Hid (readP fs ps cp fu nm pg = []) := by show _ = _; unfold readP; rw [hv]; simp
    clear hv
    go_wp2_with fail
    go_ret
    exact ⟨none, 0, 0, 5, rfl, by rw [HR.out]; rfl, by rw [HR.out]; exact World.ownsRow_nil _ _ _ _, by rw [HR.out]; simp, by omega, hg1⟩
  | true =>
    obtain ⟨q1, q2, q3, q4, q5⟩ := specV_parts (by rw [valid_eq]; exact hv)
    have hpm : ps.length ≤ 1000 := by
      have h2 := hv
      simp only [implV, Bool.and_eq_true, decide_eq_true_eq] at h2
      exact h2.1.2
    have hI : Inv fs := inv_all q5
    have HV : Hid (readP fs ps cp fu nm pg = pageP (lastF ps fs) nm pg) := by show _ = _; unfold readP; rw [if_pos hv]
    clear hv
    go_wp2_with fail
    refine (see_any _ _ _ fs _ _ _ ps _ _ _ _ A B (by omega) (hF.below (hg1.mono hB)) (hP.below (hg1.mono hB)) (by omega) (by omega) q2 q3 q4 hI).mono ?_
    rintro e w2 ⟨mb, q, D, rfl, hmb, hM, hq, hR, hBF, hI2, hb2⟩
    have hg2 := hg1.trans (hb2.mono (by omega))
    have hz2 := hb2.size
    have HPG := page_byte hBF nm pg
    rw [pageP_of hI2] at HV
    rcases look_pl (nm := nm) (pg := pg) hM hR hnm hp HPG with ⟨bs, hS, hlk⟩ | ⟨hS, hlk⟩
    · obtain ⟨hbl, hbr⟩ := HPG bs hS
      rw [hS] at HV
      have HV2 : Hid (readP fs ps cp fu nm pg = bs) := HV.out
      have hul : (u8s bs).length = 128 := by simp [u8s, hbl]
      have hst := storeCells_new w2 bs hbl
      have hsl := run_sliceAllS w2.heap.size
      have hal : Below w.heap.size w (w2.alloc (.cells (u8s bs).toArray 58)) := hg2.alloc (by omega) _
      have HO : Hid ((w2.alloc (.cells (u8s bs).toArray 58)).ownsRow w.heap.size 58 1 (.slice (some ⟨w2.heap.size, 0, none⟩) 128 128) 128 (u8s bs)) := ⟨by simp [u8s, hbl], .inr ⟨w2.heap.size, 128, _, rfl, by omega, heap_alloc_new w2 _, Nat.le_refl _, by unfold maxLen; omega, by simp [u8s, hbl], by simp only [Nat.mul_one]; exact List.take_of_length_le (by omega)⟩⟩
      clear HV hS hM hR hBF hI2 HPG q3 q4 q5 hI
      go_wp2_with fail
      go_ret
      exact ⟨_, 128, 128, 58, rfl, by rw [HV2.out]; exact hbl.symm, by rw [HV2.out]; exact HO.out, by rw [HV2.out]; exact hbr, Nat.le_refl _, hal⟩
    · rw [hS] at HV
      have HV2 : Hid (readP fs ps cp fu nm pg = []) := HV.out
      have hul : (u8s zeros).length = 128 := by simp [u8s, zeros_len]
      have hst := storeCells_new w2 zeros zeros_len
      have hal : Below w.heap.size w (w2.alloc (.cells (u8s zeros).toArray 58)) := hg2.alloc (by omega) _
      clear HV hS hM hR hBF hI2 HPG q3 q4 q5 hI
      go_wp2_with fail
      go_ret
      exact ⟨none, 0, 0, 5, rfl, by rw [HV2.out]; rfl, by rw [HV2.out]; exact World.ownsRow_nil _ _ _ _, by rw [HV2.out]; simp, by omega, hal⟩
end Go.Proofs.Ytmmdkjeoadlikaa
