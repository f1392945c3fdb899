import Derived.Test.YteienboknicpjaaGAA
import Derived.Test.YteienboknicpjaaGAB
import Derived.Test.YteienboknicpjaaGAD
import Derived.Test.YteienboknicpjaaGAN
import Derived.Test.YteienboknicpjaaGAO
import Derived.Deep.RegionHeld3
import Derived.Deep.MidRow
import Derived.Test.YteienboknicpjaaChecked
namespace Go.Proofs.Yteienboknicpjaa
open Go.RowKit Go.Maps
set_option linter.unusedVariables false
set_option maxRecDepth 100000

theorem cacheS_pends {cp : Int} : ∀ (ps : List PP) (fs : List PF), cacheS cp ps fs = true → pendsOk ps fs = true
  | [], _, _ => rfl
  | p :: r, fs, h => by
    simp only [cacheS, Bool.and_eq_true] at h
    simp only [pendsOk, Bool.and_eq_true]
    exact ⟨h.1, cacheS_pends r _ h.2.2⟩

set_option maxRecDepth 100000 in
set_option maxHeartbeats 2000000 in
theorem l1Seen_any (a : Option Addr) (n c : Nat) (fs : List PF) (b : Option Addr) (m d : Nat) (ps : List PP) (cp fu : Int) (de : Bool) (w : World) (A B : Nat) (hB : B ≤ w.heap.size) (hF : FilesAt w A B a n c fs) (hP : PendsAt w A B b m d ps)
    (hn : n ≤ 12) (hcp : cp ≤ 1000) (htot : totalI fs ≤ cp) (hca : cacheS cp ps fs = true) :
    Calls Try.prog 19 #[.agg #[.slice a n c, .slice b m d, .int .i64 cp, .int .i64 fu, .bool de]] w fun e w' => ∃ v xs vs, e = .returned v ∧ OwnF w' (w.heap.size + 1) v (lastF ps fs) xs vs ∧ Below w.heap.size w w' := by
  have hb0 : Below w.heap.size w (w.alloc (.cells #[.slice a n c, .slice b m d, .int .i64 cp, .int .i64 fu, .bool de] 26)) := (Below.refl _ _).alloc (Nat.le_refl _) _
  have hsm := small_of_total (fs := fs) (by omega)
  have hfl := hF.1
  go_enter Try.func19, Try.ntmps19
  go_wp2_with fail
  refine (l1Files_any _ _ _ fs _ A B (by simp; omega) (hF.below (hb0.mono hB)) (by omega) (fun j hj => Nat.le_trans (hsm j (by omega)) (by omega))).mono ?_
  rintro e w1 ⟨v1, xs1, vs1, rfl, hO1, hb1⟩
  have hO1' : OwnF w1 (w.heap.size + 1) v1 fs xs1 vs1 := by simpa using hO1
  have hg1 := hb0.trans (hb1.mono (by simp))
  have hz1 : w.heap.size + 1 ≤ w1.heap.size := by simpa using hb1.size
  have hbx1 : Hid (w1.heap[w.heap.size]? = some (.cells #[.slice a n c, .slice b m d, .int .i64 cp, .int .i64 fu, .bool de] 26)) := (hb1.block _ (by simp)).trans (heap_alloc_new w _)
  obtain ⟨pl, pnc, pc0, pcell⟩ := hP
  unfold maxLen at pc0
  obtain ⟨a1, n1, c1, rfl, hn1, hF1⟩ := hO1'.files
  clear hn1 hF1
  have HCA : Hid (cacheS cp ps fs = true) := hca
  clear hO1 hb1 hca hsm
  obtain ⟨y0, y1, y2⟩ := box_cells hbx1.out
  go_wp2
  go_loopw [3, 4] (fun v i wr => ∃ (k : Nat) (fk : List PF) (xk vk : List Value) (a' : Option Addr) (n' c' : Nat), k ≤ m ∧ i = .int .i64 k ∧ v = .slice a' n' c' ∧ OwnF wr (w.heap.size + 1) (.slice a' n' c') fk xk vk ∧ Hid (fk.length ≤ 12) ∧ Hid (totalI fk ≤ cp) ∧ Hid (cacheS cp (ps.drop k) fk = true) ∧ Hid (lastF ps fs = lastF (ps.drop k) fk) ∧ Below w.heap.size w wr ∧ w.heap.size + 1 ≤ wr.heap.size ∧ Hid (wr.heap[w.heap.size]? = some (.cells #[.slice a n c, .slice b m d, .int .i64 cp, .int .i64 fu, .bool de] 26))) (fun _ i _ => m - (intOf i).toNat)
  case atStart => exact ⟨0, fs, xs1, vs1, a1, n1, c1, Nat.zero_le _, rfl, rfl, hO1', by show _ ≤ _; omega, htot, HCA, rfl, hg1, hz1, hbx1⟩
  case round =>
    clear hO1' hg1 hz1 hbx1 y0 y1 y2
    obtain ⟨k, fk, xk, vk, a', n', c', hk, rfl, rfl, hO, hl12, htk, hca, hla, hbel, hSz, hbox⟩ := hrel
    obtain ⟨y0, y1, y2⟩ := box_cells hbox.out
    by_cases hlt : k < m
    · obtain ⟨pb, poff, rfl, hpb, hpc⟩ := pcell (by omega)
      have e1 := (hpc k hlt).below hpb (hbel.mono hB)
      have e1w := hpc k hlt
      have hdr : ps.drop k = ps.getD k (ByteArray.empty, 0, []) :: ps.drop (k + 1) := by
        rw [List.drop_eq_getElem_cons (by omega)]; simp [List.getD, List.getElem?_eq_getElem (show k < ps.length by omega)]
      obtain ⟨p, hp⟩ : ∃ p, p = ps.getD k (ByteArray.empty, 0, []) := ⟨_, rfl⟩
      rw [← hp] at e1 hdr e1w
      clear hp
      obtain ⟨nm, pq, pd⟩ := p
      obtain ⟨g1, g2, g3, g4, da, dn, dc, g5, g6⟩ := e1
      simp only at g1 g2 g3 g4 g6
      have hca' := hca.out
      rw [hdr] at hca'
      simp only [cacheS, Bool.and_eq_true, pendOk, fitsB, decide_eq_true_eq, beq_iff_eq] at hca'
      obtain ⟨⟨⟨t1, t2⟩, t3, t4⟩, ⟨t5, t6⟩, t7⟩ := hca'
      obtain ⟨pgN, rfl⟩ := Int.eq_ofNat_of_zero_le t3
      have hst : stepP fk (nm, (pgN : Int), pd) = doP fk nm pgN pd := by simp [stepP]
      rw [hst] at t5 t6 t7
      have hla2 : Hid (lastF ps fs = lastF (ps.drop (k + 1)) (doP fk nm pgN pd)) := by show _ = _; rw [hla.out, hdr]; simp only [lastF]; rw [hst]
      have hle := lenI_le_total fk nm
      have htk' := htk.out
      have hl12' := hl12.out
      have hpg : pgN ≤ 1000 := by omega
      have hallk := small_of_total (fs := fk) (by omega)
      have hdn : dn = 128 := by rw [← g6.1]; exact t2
      subst hdn
      have T5 : Hid ((doP fk nm pgN pd).length ≤ 12) := t5
      have T6 : Hid (totalI (doP fk nm pgN pd) ≤ cp) := t6
      have T7 : Hid (cacheS cp (ps.drop (k + 1)) (doP fk nm pgN pd) = true) := t7
      have hbk : pb < wr.heap.size := by have := hbel.size; omega
      have HO : Hid (OwnF wr (w.heap.size + 1) (.slice a' n' c') fk xk vk) := hO
      have HG6 : Hid (BytesAt wr A B da 128 dc pd) := g6
      have HALL : Hid (∀ j, j < fk.length → (fk.getD j (ByteArray.empty, [])).2.length ≤ 1073741824) := fun j hj => Nat.le_trans (hallk j hj) (by omega)
      have hfk : fk.length ≤ 1048576 := by omega
      clear hpc pcell hO g6 hallk t5 t6 t7 hdr hst hle htk' hl12' t1 t2 t3 t4 hca htk hl12 e1w
      go_wp2
      go_region_held3 (fun w' => w'.cell? ⟨w.heap.size, 1, none⟩ = some (.slice (some ⟨pb, poff, none⟩) m d) ∧ w'.cell? ⟨pb, poff + k * 3, none⟩ = some (.string nm) ∧ w'.cell? ⟨pb, poff + k * 3 + 1, none⟩ = some (.int .i64 (pgN : Int)) ∧ w'.cell? ⟨pb, poff + k * 3 + 2, none⟩ = some (.slice da 128 dc)) (go_keep)
        (first | (go_at_call 47; refine (l1Do_any _ _ _ fk xk vk nm pgN _ _ _ pd wr.drew (w.heap.size + 1) A B hSz (HO.out.below ((Below.refl _ _).drew)) (by omega) (HG6.out.below ((Below.refl _ _).drew)) (by omega) g2 hfk (by omega) HALL.out).mono ?_; rintro e w3 ⟨v3, rfl, xs3, vs3, hO3, hb3⟩; have hbw : Below (w.heap.size + 1) wr w3 := ((Below.refl _ wr).drew).trans hb3; have z1 := (hbw.cell (p := ⟨w.heap.size, 1, none⟩) (Nat.lt_succ_self _)).trans y1; have z2 := (hbw.cell (p := ⟨pb, poff + k * 3, none⟩) (by show pb < _; omega)).trans g1; have z3 := (hbw.cell (p := ⟨pb, poff + k * 3 + 1, none⟩) (by show pb < _; omega)).trans g3; have z4 := (hbw.cell (p := ⟨pb, poff + k * 3 + 2, none⟩) (by show pb < _; omega)).trans g5))
      obtain ⟨a3, n3, c3, rfl, hn3, hF3⟩ := hO3.files
      clear hn3 hF3
      have hg3 : Below w.heap.size w w3 := hbel.trans (hbw.mono (by omega))
      have hz3 : w.heap.size + 1 ≤ w3.heap.size := Nat.le_trans hSz hbw.size
      have hbx3 : Hid (w3.heap[w.heap.size]? = some (.cells #[.slice a n c, .slice (some ⟨pb, poff, none⟩) m d, .int .i64 cp, .int .i64 fu, .bool de] 26)) := (hbw.block _ (Nat.lt_succ_self _)).trans hbox.out
      clear hb3 hbw z1 z2 z3 z4 y0 y1 y2 hbel hbox
      go_wp2
      go_roundw
      case rel => exact ⟨k + 1, doP fk nm pgN pd, xs3, vs3, a3, n3, c3, by omega, by go_num, rfl, hO3, T5, T6, T7, hla2, hg3, hz3, hbx3⟩
      case measure => simp [intOf]; omega
    · have HL : Hid (lastF ps fs = fk) := by show _ = _; rw [hla.out, List.drop_eq_nil_of_le (by omega)]; rfl
      go_wp2
      go_ret
      exact ⟨_, xk, vk, rfl, by rw [HL.out]; exact hO, hbel⟩
end Go.Proofs.Yteienboknicpjaa
namespace Go.Proofs.Yteienboknicpjaa
open Go.RowKit
set_option linter.unusedVariables false
set_option maxRecDepth 100000

/-- Page pg of a file of a list, or nothing. -/
def pageP (fs : List PF) (nm : ByteArray) (pg : Int) : List Int := if 0 ≤ pg ∧ pg < lenI fs nm then ((fs.getD (findN fs nm) (ByteArray.empty, [])).2.drop (pg.toNat * 128)).take 128 else []
theorem pageP_len (fs : List PF) (nm : ByteArray) (pg : Int) : (pageP fs nm pg).length ≤ 128 := by
  unfold pageP
  split
  · simp; omega
  · simp
theorem bytes_sub {w : World} {A B pb poff n c : Nat} {bs : List Int} (h : BytesAt w A B (some ⟨pb, poff, none⟩) n c bs) {k : Nat} (hk : k + 128 ≤ n) : BytesAt w A B (some ⟨pb, poff + k, none⟩) 128 (c - k) ((bs.drop k).take 128) := by
  obtain ⟨h1, h2, h3, h4, h5, h6⟩ := h
  refine ⟨by simp; omega, by omega, by omega, fun x hx => h4 x (List.mem_of_mem_drop (List.mem_of_mem_take hx)), fun _ => ?_, fun e => by cases e⟩
  obtain ⟨b, off, e, hb, hc⟩ := h5 (by omega)
  simp only [Option.some.injEq, Addr.mk.injEq] at e
  obtain ⟨rfl, rfl, _⟩ := e
  refine ⟨_, _, rfl, hb, fun i hi => ?_⟩
  rw [Nat.add_assoc, hc (k + i) (by omega)]
  have h7 : k + i < bs.length := by omega
  simp [List.getD, hi, List.getElem?_drop]
set_option maxHeartbeats 1600000 in
theorem l1Page_any (a : Option Addr) (n c : Nat) (fs : List PF) (nm : ByteArray) (pg : Int) (w : World) (A B : Nat) (hB : B ≤ w.heap.size) (hF : FilesAt w A B a n c fs) (hp : (Lit.int .i64 pg).wf = true) (hall : ∀ j, j < n → (fs.getD j (ByteArray.empty, [])).2.length ≤ 1073741824) :
    Calls Try.prog 41 #[.slice a n c, .string nm, .int .i64 pg] w fun e w' => ∃ va vn vc, e = .returned (.slice va vn vc) ∧ vn = (pageP fs nm pg).length ∧ w'.ownsRow w.heap.size 5 1 (.slice va vn vc) vn (u8s (pageP fs nm pg)) ∧ (∀ x ∈ pageP fs nm pg, 0 ≤ x ∧ x ≤ 255) ∧ Below w.heap.size w w' := by
  have HF : Hid (FilesAt w A B a n c fs) := hF
  have hal : Below w.heap.size w (w.alloc (.cells #[] 5)) := (Below.refl _ _).alloc (Nat.le_refl _) _
  have hown : (w.alloc (.cells #[] 5)).ownsRow w.heap.size 5 1 (.slice (some ⟨w.heap.size, 0, none⟩) 0 0) 0 [] := World.ownsRow_made w #[] 0 (Nat.le_refl _) (by unfold maxLen; omega) (by simp)
  by_cases h0 : pg < 0
  · have HP : Hid (pageP fs nm pg = []) := by show _ = _; unfold pageP; rw [if_neg (by omega)]
    go_enter Try.func41, Try.ntmps41
    go_wp2
    go_ret
    exact ⟨_, _, _, rfl, by rw [HP.out]; rfl, by rw [HP.out]; exact hown, by rw [HP.out]; simp, hal⟩
  by_cases h1 : lenI fs nm ≤ pg
  · have HP : Hid (pageP fs nm pg = []) := by show _ = _; unfold pageP; rw [if_neg (by omega)]
    go_enter Try.func41, Try.ntmps41
    go_wp2_with fail
    refine (l1Len_any _ _ _ fs nm _ A B HF.out).mono ?_
    rintro e w1 ⟨rfl, rfl⟩
    go_wp2
    go_ret
    exact ⟨_, _, _, rfl, by rw [HP.out]; rfl, by rw [HP.out]; exact hown, by rw [HP.out]; simp, hal⟩
  · obtain ⟨pN, rfl⟩ := Int.eq_ofNat_of_zero_le (show 0 ≤ pg by omega)
    have hfl := hF.1
    have hf : findN fs nm < fs.length := Decidable.byContradiction fun h => by unfold lenI at h1; rw [if_neg h] at h1; omega
    have hl : lenI fs nm = ((fs.getD (findN fs nm) (ByteArray.empty, [])).2.length : Int) / 128 := by unfold lenI; rw [if_pos hf]
    obtain ⟨hc1, hc2, hc3, hcell⟩ := hF
    obtain ⟨ab, aoff, rfl, hab, hcb⟩ := hcell (by omega)
    obtain ⟨p1, p2, pa, pn, pc, p3, p4⟩ := hcb (findN fs nm) (by omega)
    have hpl : pn ≤ 1073741824 := by have := hall (findN fs nm) (by omega); rw [p4.1] at this; exact this
    have HP : Hid (pageP fs nm (pN : Int) = ((fs.getD (findN fs nm) (ByteArray.empty, [])).2.drop (pN * 128)).take 128) := by show _ = _; unfold pageP; rw [if_pos (by omega)]; rfl
    have hq : pN * 128 + 128 ≤ pn := by have := p4.1; omega
    have hfi : findI fs nm = (findN fs nm : Int) := by unfold findI; rw [if_pos hf]
    unfold maxLen at hc3
    have HB : Hid (BytesAt w A B pa pn pc (fs.getD (findN fs nm) (ByteArray.empty, [])).2) := p4
    have hii : findN fs nm < n := by omega
    clear hcell hcb hall hl hc1 p4 p1 p2
    generalize (fs.getD (findN fs nm) (ByteArray.empty, [])).2 = dat at HP HB
    obtain ⟨pb, poff, rfl, hpb, _⟩ := HB.out.2.2.2.2.1 (by omega)
    have hpc := HB.out.2.1
    have hpm := HB.out.2.2.1
    unfold maxLen at hpm
    have HSub : Hid (BytesAt w A B (some ⟨pb, poff + pN * 128, none⟩) 128 (pc - pN * 128) ((dat.drop (pN * 128)).take 128)) := bytes_sub HB.out hq
    have hadd : (⟨pb, poff, none⟩ : Addr).add (pN * 128) = ⟨pb, poff + pN * 128, none⟩ := Addr.add_mid _ _ _
    clear hown hal HB
    go_enter Try.func41, Try.ntmps41
    go_wp2_with fail
    refine (l1Len_any _ _ _ fs nm _ A B HF.out).mono ?_
    rintro e w1 ⟨rfl, rfl⟩
    generalize lenI fs nm = L at h1 ⊢
    go_wp2_with fail
    refine (l1Find_any _ _ _ fs nm _ A B HF.out).mono ?_
    rintro e w2 ⟨rfl, rfl⟩
    rw [hfi]
    clear hfi hf hfl HF
    generalize findN fs nm = ii at *
    go_wp2_with fail
    rw [show (pN + 1) * 128 - pN * 128 = 128 by omega]
    refine (l1Bytes_any _ _ _ _ _ A B hB HSub.out (by omega)).mono ?_
    rintro e w3 ⟨va, vc, rfl, hown3, hb3⟩
    go_wp2_with fail
    go_ret
    exact ⟨va, _, vc, rfl, by rw [HP.out]; exact HSub.out.1.symm, by rw [HP.out]; exact hown3, by rw [HP.out]; exact HSub.out.2.2.2.1, hb3⟩
end Go.Proofs.Yteienboknicpjaa
namespace Go.Proofs.Yteienboknicpjaa
open Go.RowKit
set_option linter.unusedVariables false
set_option maxRecDepth 100000

end Go.Proofs.Yteienboknicpjaa
namespace Go.Proofs.Yteienboknicpjaa
open Go.RowKit Go.Maps
set_option linter.unusedVariables false
set_option maxRecDepth 100000

theorem box5' {wr : World} {N : Nat} {v0 v1 v2 v3 v4 : Value} {t : TypeId} (h : wr.heap[N]? = some (.cells #[v0, v1, v2, v3, v4] t)) : wr.cell? ⟨N, 0, none⟩ = some v0 ∧ wr.cell? ⟨N, 1, none⟩ = some v1 ∧ wr.cell? ⟨N, 2, none⟩ = some v2 ∧ wr.cell? ⟨N, 3, none⟩ = some v3 ∧ wr.cell? ⟨N, 4, none⟩ = some v4 := by
  refine ⟨?_, ?_, ?_, ?_, ?_⟩
  · rw [cell_of_row wr N 0 _ _ _ h]; rfl
  · rw [cell_of_row wr N 1 _ _ _ h]; rfl
  · rw [cell_of_row wr N 2 _ _ _ h]; rfl
  · rw [cell_of_row wr N 3 _ _ _ h]; rfl
  · rw [cell_of_row wr N 4 _ _ _ h]; rfl

/-- How many pages a file has as seen, or -1. -/
def pageC (fs : List PF) (ps : List PP) (cp fu : Int) (nm : ByteArray) : Int :=
  if implV fs ps cp fu = true then (if findN (lastF ps fs) nm < (lastF ps fs).length then lenI (lastF ps fs) nm else -1) else -1
theorem inv_last : ∀ (ps : List PP) (fs : List PF), Inv fs → Inv (lastF ps fs)
  | [], _, h => h
  | p :: r, fs, h => by
    simp only [lastF]
    exact inv_last r _ (doP_inv h)
theorem specV_parts {fs : List PF} {ps : List PP} {cp fu : Int} (h : specV fs ps cp fu = true) : fs.length ≤ 12 ∧ cp ≤ 1000 ∧ totalI fs ≤ cp ∧ cacheS cp ps fs = true ∧ filesOk fs = true := by
  simp only [specV, headB, Bool.and_eq_true, decide_eq_true_eq] at h
  obtain ⟨⟨⟨⟨⟨⟨a1, a2⟩, a3⟩, a4⟩, a5⟩, a6⟩, a7⟩ := h
  exact ⟨a1, a2.2, a6, a7, a5⟩

end Go.Proofs.Yteienboknicpjaa
namespace Go.Proofs.Yteienboknicpjaa
open Go.RowKit Go.Maps
set_option linter.unusedVariables false
set_option maxRecDepth 100000

/-- What ReadPage answers. -/
def readP (fs : List PF) (ps : List PP) (cp fu : Int) (nm : ByteArray) (pg : Int) : List Int := if implV fs ps cp fu = true then pageP (lastF ps fs) nm pg else []
theorem readP_len (fs : List PF) (ps : List PP) (cp fu : Int) (nm : ByteArray) (pg : Int) : (readP fs ps cp fu nm pg).length ≤ 128 := by
  unfold readP
  split
  · exact pageP_len _ _ _
  · simp
theorem last_small {cp : Int} (hcp : cp ≤ 1000) : ∀ (ps : List PP) (fs : List PF), totalI fs ≤ cp → cacheS cp ps fs = true → totalI (lastF ps fs) ≤ cp
  | [], fs, h, _ => h
  | p :: r, fs, h, hc => by
    simp only [cacheS, fitsB, Bool.and_eq_true, decide_eq_true_eq] at hc
    exact last_small hcp r _ hc.2.1.2 hc.2.2
set_option maxHeartbeats 1600000 in
theorem specRead_any (a : Option Addr) (n c : Nat) (fs : List PF) (b : Option Addr) (m d : Nat) (ps : List PP) (cp fu : Int) (de : Bool) (nm : ByteArray) (pg : Int) (w : World) (A B : Nat) (hB : B ≤ w.heap.size) (hF : FilesAt w A B a n c fs) (hP : PendsAt w A B b m d ps) (hp : (Lit.int .i64 pg).wf = true)
    (hall : ∀ j, j < n → (fs.getD j (ByteArray.empty, [])).2.length ≤ 1048576) :
    Calls Try.prog 11 #[.agg #[.slice a n c, .slice b m d, .int .i64 cp, .int .i64 fu, .bool de], .string nm, .int .i64 pg] w fun e w' => ∃ va vn vc, e = .returned (.slice va vn vc) ∧ vn = (readP fs ps cp fu nm pg).length ∧ w'.ownsRow w.heap.size 5 1 (.slice va vn vc) vn (u8s (readP fs ps cp fu nm pg)) ∧ (∀ x ∈ readP fs ps cp fu nm pg, 0 ≤ x ∧ x ≤ 255) ∧ Below w.heap.size w w' := by
  have hb0 : Below w.heap.size w (w.alloc (.cells #[.slice a n c, .slice b m d, .int .i64 cp, .int .i64 fu, .bool de] 26)) := (Below.refl _ _).alloc (Nat.le_refl _) _
  have hfl := hF.1
  go_enter Try.func11, Try.ntmps11
  go_wp2_with fail
  refine (specValid_any _ _ _ fs _ _ _ ps _ _ _ _ A B (by simp; omega) (hF.below (hb0.mono hB)) (hP.below (hb0.mono hB)) hall).mono ?_
  rintro e w1 ⟨rfl, hb1⟩
  have hg1 := hb0.trans (hb1.mono (by simp))
  have hz1 : w.heap.size + 1 ≤ w1.heap.size := by simpa using hb1.size
  have hbx1 : Hid (w1.heap[w.heap.size]? = some (.cells #[.slice a n c, .slice b m d, .int .i64 cp, .int .i64 fu, .bool de] 26)) := (hb1.block _ (by simp)).trans (heap_alloc_new w _)
  obtain ⟨x0, x1, x2, x3, x4⟩ := box5' hbx1.out
  cases hv : specV fs ps cp fu with
  | false =>
    have HR : Hid (readP fs ps cp fu nm pg = []) := by show _ = _; unfold readP; rw [← valid_eq, hv]; simp
    clear hv
    have hown : (w1.alloc (.cells #[] 5)).ownsRow w.heap.size 5 1 (.slice (some ⟨w1.heap.size, 0, none⟩) 0 0) 0 [] := World.ownsRow_made w1 #[] 0 (by omega) (by unfold maxLen; omega) (by simp)
    have hal : Below w.heap.size w (w1.alloc (.cells #[] 5)) := hg1.alloc (by omega) _
    go_wp2_with fail
    go_ret
    exact ⟨_, _, _, rfl, by rw [HR.out]; rfl, by rw [HR.out]; exact hown, by rw [HR.out]; simp, hal⟩
  | true =>
    obtain ⟨q1, q2, q3, q4, q5⟩ := specV_parts hv
    have HV : Hid (readP fs ps cp fu nm pg = pageP (lastF ps fs) nm pg) := by show _ = _; unfold readP; rw [if_pos (by rw [← valid_eq]; exact hv)]
    have HT : Hid (totalI (lastF ps fs) ≤ 1000) := Int.le_trans (last_small q2 ps fs q3 q4) q2
    clear hv
    go_wp2_with fail
    refine (l1Seen_any _ _ _ fs _ _ _ ps _ _ _ _ A B (by omega) (hF.below (hg1.mono hB)) (hP.below (hg1.mono hB)) (by omega) q2 q3 q4).mono ?_
    rintro e w2 ⟨v2, xs2, vs2, rfl, hO2, hb2⟩
    obtain ⟨a2, n2, c2, rfl, hn2, hF2⟩ := hO2.files
    clear hn2
    have hg2 := hg1.trans (hb2.mono (by omega))
    have hz2 := hb2.size
    clear q3 q4 q5
    go_wp2_with fail
    refine (l1Page_any _ _ _ (lastF ps fs) nm pg _ (w1.heap.size + 1) w2.heap.size (Nat.le_refl _) hF2 hp (fun j hj => Nat.le_trans (small_of_total HT.out j (by rw [hF2.1]; exact hj)) (by omega))).mono ?_
    rintro e w3 ⟨va, vn, vc, rfl, hvn, hown, hby, hb3⟩
    have HBY : Hid (∀ x ∈ pageP (lastF ps fs) nm pg, 0 ≤ x ∧ x ≤ 255) := hby
    have HN : Hid (vn = (pageP (lastF ps fs) nm pg).length) := hvn
    have HO : Hid (w3.ownsRow w.heap.size 5 1 (.slice va vn vc) vn (u8s (pageP (lastF ps fs) nm pg))) := own_lower hown (by omega)
    have hg3 := hg2.trans (hb3.mono (by omega))
    clear hvn hown hF2 hO2 hby
    go_wp2_with fail
    go_ret
    exact ⟨va, vn, vc, rfl, by rw [HV.out]; exact HN.out, by rw [HV.out]; exact HO.out, by rw [HV.out]; exact HBY.out, hg3⟩
end Go.Proofs.Yteienboknicpjaa
namespace Go.Proofs.Yteienboknicpjaa
open Go.RowKit Go.Maps
set_option linter.unusedVariables false
set_option maxRecDepth 100000

theorem pageP_of {fl : List PF} (h : Inv fl) (nm : ByteArray) (pg : Int) : pageP fl nm pg = (pageOf fl nm pg).getD [] := by
  obtain ⟨h1, h2⟩ := dataN_len h nm
  rw [pageOf_data]
  unfold pageP pageF
  by_cases hc : 0 ≤ pg ∧ pg * 128 + 128 ≤ ((dataN fl nm).length : Int)
  · rw [if_pos (by omega), if_pos hc]
    have hf : findN fl nm < fl.length := Decidable.byContradiction fun hn => by rw [dataN_none hn] at hc; simp at hc; omega
    show _ = ((dataN fl nm).drop (pg.toNat * 128)).take 128
    unfold dataN
    rw [if_pos hf]
  · rw [if_neg (by omega), if_neg hc]; rfl
theorem run_sliceAllS (g : Nat) (w : World) : (Instr.sliceAt 69 (.pointer (some ⟨g, 0, none⟩)) none none none).run Try.prog w = .ok (.slice (some ⟨g, 0, none⟩) 128 128) w := by
  rw [run_sliceAt_array_all w 69 _ arrSheet, elemSheet, show (sizeOf 5).run Try.prog w = .ok 1 w by kernel_rfl]
  simp [slicedAt, go_sem, Addr.add]
set_option maxHeartbeats 1600000 in
theorem implRead_any (a : Option Addr) (n c : Nat) (fs : List PF) (b : Option Addr) (m d : Nat) (ps : List PP) (cp fu : Int) (de : Bool) (nm : ByteArray) (hnm : nm.size ≤ maxLen) (pg : Int) (w : World) (A B : Nat) (hB : B ≤ w.heap.size) (hF : FilesAt w A B a n c fs) (hP : PendsAt w A B b m d ps) (hp : (Lit.int .i64 pg).wf = true)
    (hall : ∀ j, j < n → (fs.getD j (ByteArray.empty, [])).2.length ≤ 1048576) :
    Calls Try.prog 10 #[.agg #[.slice a n c, .slice b m d, .int .i64 cp, .int .i64 fu, .bool de], .string nm, .int .i64 pg] w fun e w' => ∃ va vn vc ty, e = .returned (.slice va vn vc) ∧ vn = (readP fs ps cp fu nm pg).length ∧ w'.ownsRow w.heap.size ty 1 (.slice va vn vc) vn (u8s (readP fs ps cp fu nm pg)) ∧ (∀ x ∈ readP fs ps cp fu nm pg, 0 ≤ x ∧ x ≤ 255) ∧ vn ≤ 128 ∧ Below w.heap.size w w' := by
  have hb0 : Below w.heap.size w (w.alloc (.cells #[.slice a n c, .slice b m d, .int .i64 cp, .int .i64 fu, .bool de] 26)) := (Below.refl _ _).alloc (Nat.le_refl _) _
  have hfl := hF.1
  have hpl := hP.1
  go_enter Try.func10, Try.ntmps10
  go_wp2_with fail
  refine (implValid_any _ _ _ fs _ _ _ ps _ _ _ _ A B (by simp; omega) (hF.below (hb0.mono hB)) (hP.below (hb0.mono hB)) hall).mono ?_
  rintro e w1 ⟨rfl, hb1⟩
  have hg1 := hb0.trans (hb1.mono (by simp))
  have hz1 : w.heap.size + 1 ≤ w1.heap.size := by simpa using hb1.size
  have hbx1 : Hid (w1.heap[w.heap.size]? = some (.cells #[.slice a n c, .slice b m d, .int .i64 cp, .int .i64 fu, .bool de] 26)) := (hb1.block _ (by simp)).trans (heap_alloc_new w _)
  obtain ⟨x0, x1, x2, x3, x4⟩ := box5' hbx1.out
  cases hv : implV fs ps cp fu with
  | false =>
    have HR : Hid (readP fs ps cp fu nm pg = []) := by show _ = _; unfold readP; rw [hv]; simp
    clear hv
    go_wp2_with fail
    go_ret
    exact ⟨none, 0, 0, 5, rfl, by rw [HR.out]; rfl, by rw [HR.out]; exact World.ownsRow_nil _ _ _ _, by rw [HR.out]; simp, by omega, hg1⟩
  | true =>
    obtain ⟨q1, q2, q3, q4, q5⟩ := specV_parts (by rw [valid_eq]; exact hv)
    have hpm : ps.length ≤ 1000 := by
      have h2 := hv
      simp only [implV, Bool.and_eq_true, decide_eq_true_eq] at h2
      exact h2.1.2
    have hI : Inv fs := inv_all q5
    have HV : Hid (readP fs ps cp fu nm pg = pageP (lastF ps fs) nm pg) := by show _ = _; unfold readP; rw [if_pos hv]
    clear hv
    go_wp2_with fail
    refine (see_any _ _ _ fs _ _ _ ps _ _ _ _ A B (by omega) (hF.below (hg1.mono hB)) (hP.below (hg1.mono hB)) (by omega) (by omega) q2 q3 q4 hI).mono ?_
    rintro e w2 ⟨mb, q, D, rfl, hmb, hM, hq, hR, hBF, hI2, hb2⟩
    have hg2 := hg1.trans (hb2.mono (by omega))
    have hz2 := hb2.size
    have HPG := page_byte hBF nm pg
    rw [pageP_of hI2] at HV
    rcases look_pl (nm := nm) (pg := pg) hM hR hnm hp HPG with ⟨bs, hS, hlk⟩ | ⟨hS, hlk⟩
    · obtain ⟨hbl, hbr⟩ := HPG bs hS
      rw [hS] at HV
      have HV2 : Hid (readP fs ps cp fu nm pg = bs) := HV.out
      have hul : (u8s bs).length = 128 := by simp [u8s, hbl]
      have hst := storeCells_new w2 bs hbl
      have hsl := run_sliceAllS w2.heap.size
      have hal : Below w.heap.size w (w2.alloc (.cells (u8s bs).toArray 69)) := hg2.alloc (by omega) _
      have HO : Hid ((w2.alloc (.cells (u8s bs).toArray 69)).ownsRow w.heap.size 69 1 (.slice (some ⟨w2.heap.size, 0, none⟩) 128 128) 128 (u8s bs)) := ⟨by simp [u8s, hbl], .inr ⟨w2.heap.size, 128, _, rfl, by omega, heap_alloc_new w2 _, Nat.le_refl _, by unfold maxLen; omega, by simp [u8s, hbl], by simp only [Nat.mul_one]; exact List.take_of_length_le (by omega)⟩⟩
      clear HV hS hM hR hBF hI2 HPG q3 q4 q5 hI
      go_wp2_with fail
      go_ret
      exact ⟨_, 128, 128, 69, rfl, by rw [HV2.out]; exact hbl.symm, by rw [HV2.out]; exact HO.out, by rw [HV2.out]; exact hbr, Nat.le_refl _, hal⟩
    · rw [hS] at HV
      have HV2 : Hid (readP fs ps cp fu nm pg = []) := HV.out
      have hul : (u8s zeros).length = 128 := by simp [u8s, zeros_len]
      have hst := storeCells_new w2 zeros zeros_len
      have hal : Below w.heap.size w (w2.alloc (.cells (u8s zeros).toArray 69)) := hg2.alloc (by omega) _
      clear HV hS hM hR hBF hI2 HPG q3 q4 q5 hI
      go_wp2_with fail
      go_ret
      exact ⟨none, 0, 0, 5, rfl, by rw [HV2.out]; rfl, by rw [HV2.out]; exact World.ownsRow_nil _ _ _ _, by rw [HV2.out]; simp, by omega, hal⟩
end Go.Proofs.Yteienboknicpjaa
namespace Go.Proofs.Yteienboknicpjaa
open Go.RowKit Go.Maps
set_option linter.unusedVariables false
set_option maxRecDepth 100000

/-- What is seen after a write that was taken: this page is the data, each other page of this file is what it was. -/
theorem page_write {fs : List PF} {ps : List PP} {cp fu : Int} {de : Bool} {nm : ByteArray} {pg : Int} {bs : List Int} (h : rwI fs ps cp fu de nm pg bs = 0) (t : Int) :
    pageP (lastF (ps ++ [(nm, pg, bs)]) fs) nm t = if t = pg then bs else pageP (lastF ps fs) nm t := by
  obtain ⟨v1, v2, v3, v4, v5, v6, v7⟩ := valid_write h
  obtain ⟨q1, q2, q3, q4, q5⟩ := implV_parts v3
  have hI := inv_lastW ps fs (inv_all q3)
  have hI2 := inv_lastW (ps ++ [(nm, pg, bs)]) fs (inv_all q3)
  have hpg : ((pg.toNat : Nat) : Int) = pg := by omega
  have hd := do_write (nm := nm) (pg := pg.toNat) (bs := bs) hI (by omega) v4 nm t
  rw [pageP_of hI2, pageP_of hI, lastF_snoc]
  show (pageOf (doP (lastF ps fs) nm pg.toNat bs) nm t).getD [] = _
  rw [hd]
  unfold writeS
  by_cases ht : t = pg
  · rw [if_pos ⟨rfl, by omega⟩, if_pos ht]
    have : (oldS (pageOf (lastF ps fs)) nm ((pg.toNat : Nat) : Int)).drop 128 = [] := by
      apply List.drop_eq_nil_of_le
      unfold oldS
      cases hS : pageOf (lastF ps fs) nm ((pg.toNat : Nat) : Int) with
      | some cs => rw [pageOf_data] at hS; exact Nat.le_of_eq (pageF_len hS).1
      | none => exact Nat.le_of_eq zeros_len
    rw [this, List.append_nil, List.take_of_length_le (by omega)]
    rfl
  · rw [if_neg (fun e => ht (by omega)), if_neg ht]
    unfold fillS
    rw [if_neg (by omega)]
/-- The four readings of the law. -/
theorem read_write {fs : List PF} {ps : List PP} {cp fu : Int} {de : Bool} {nm : ByteArray} {pg : Int} {bs : List Int} (h : rwI fs ps cp fu de nm pg bs = 0) :
    readP fs (ps ++ [(nm, pg, bs)]) cp (-1) nm pg = bs ∧ (∀ t, t ≠ pg → readP fs (ps ++ [(nm, pg, bs)]) cp (-1) nm t = readP fs ps cp fu nm t) ∧ readP (lastF (ps ++ [(nm, pg, bs)]) fs) [] cp (-1) nm pg = bs := by
  obtain ⟨v1, v2, v3, v4, v5, v6, v7⟩ := valid_write h
  have vs := valid_sync v1
  refine ⟨?_, fun t ht => ?_, ?_⟩
  · unfold readP
    rw [if_pos v1, page_write h, if_pos rfl]
  · unfold readP
    rw [if_pos v1, if_pos v3, page_write h, if_neg ht]
  · unfold readP
    rw [if_pos vs]
    show pageP (lastF (ps ++ [(nm, pg, bs)]) fs) nm pg = bs
    rw [page_write h, if_pos rfl]
end Go.Proofs.Yteienboknicpjaa
