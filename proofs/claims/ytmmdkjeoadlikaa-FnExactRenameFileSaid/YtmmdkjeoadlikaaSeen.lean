import Derived.Test.YtmmdkjeoadlikaaCSee
import Derived.Deep.RegionHeld3
namespace Go.Proofs.Ytmmdkjeoadlikaa
open Go.RowKit Go.Maps
set_option linter.unusedVariables false
set_option maxRecDepth 100000

theorem cacheS_pends {cp : Int} : ∀ (ps : List PP) (fs : List PF), cacheS cp ps fs = true → pendsOk ps fs = true
  | [], _, _ => rfl
  | p :: r, fs, h => by
    simp only [cacheS, Bool.and_eq_true] at h
    simp only [pendsOk, Bool.and_eq_true]
    exact ⟨h.1, cacheS_pends r _ h.2.2⟩

set_option maxRecDepth 100000 in
set_option maxHeartbeats 2000000 in
theorem l1Seen_any (a : Option Addr) (n c : Nat) (fs : List PF) (b : Option Addr) (m d : Nat) (ps : List PP) (cp fu : Int) (de : Bool) (w : World) (A B : Nat) (hB : B ≤ w.heap.size) (hF : FilesAt w A B a n c fs) (hP : PendsAt w A B b m d ps)
    (hn : n ≤ 12) (hcp : cp ≤ 1000) (htot : totalI fs ≤ cp) (hca : cacheS cp ps fs = true) :
    Calls Try.prog 30 #[.agg #[.slice a n c, .slice b m d, .int .i64 cp, .int .i64 fu, .bool de]] w fun e w' => ∃ v xs vs, e = .returned v ∧ OwnF w' (w.heap.size + 1) v (lastF ps fs) xs vs ∧ Below w.heap.size w w' := by
  have hb0 : Below w.heap.size w (w.alloc (.cells #[.slice a n c, .slice b m d, .int .i64 cp, .int .i64 fu, .bool de] 32)) := (Below.refl _ _).alloc (Nat.le_refl _) _
  have hsm := small_of_total (fs := fs) (by omega)
  have hfl := hF.1
  go_enter Try.func30, Try.ntmps30
  go_wp2_with fail
  refine (l1Files_any _ _ _ fs _ A B (by simp; omega) (hF.below (hb0.mono hB)) (by omega) (fun j hj => Nat.le_trans (hsm j (by omega)) (by omega))).mono ?_
  rintro e w1 ⟨v1, xs1, vs1, rfl, hO1, hb1⟩
  have hO1' : OwnF w1 (w.heap.size + 1) v1 fs xs1 vs1 := by simpa using hO1
  have hg1 := hb0.trans (hb1.mono (by simp))
  have hz1 : w.heap.size + 1 ≤ w1.heap.size := by simpa using hb1.size
  have hbx1 : Hid (w1.heap[w.heap.size]? = some (.cells #[.slice a n c, .slice b m d, .int .i64 cp, .int .i64 fu, .bool de] 32)) := (hb1.block _ (by simp)).trans (heap_alloc_new w _)
  obtain ⟨pl, pnc, pc0, pcell⟩ := hP
  unfold maxLen at pc0
  obtain ⟨a1, n1, c1, rfl, hn1, hF1⟩ := hO1'.files
  clear hn1 hF1
  have HCA : Hid (cacheS cp ps fs = true) := hca
  clear hO1 hb1 hca hsm
  obtain ⟨y0, y1, y2⟩ := box_cells hbx1.out
  go_wp2
  go_loopw [3, 4] (fun v i wr => ∃ (k : Nat) (fk : List PF) (xk vk : List Value) (a' : Option Addr) (n' c' : Nat), k ≤ m ∧ i = .int .i64 k ∧ v = .slice a' n' c' ∧ OwnF wr (w.heap.size + 1) (.slice a' n' c') fk xk vk ∧ Hid (fk.length ≤ 12) ∧ Hid (totalI fk ≤ cp) ∧ Hid (cacheS cp (ps.drop k) fk = true) ∧ Hid (lastF ps fs = lastF (ps.drop k) fk) ∧ Below w.heap.size w wr ∧ w.heap.size + 1 ≤ wr.heap.size ∧ Hid (wr.heap[w.heap.size]? = some (.cells #[.slice a n c, .slice b m d, .int .i64 cp, .int .i64 fu, .bool de] 32))) (fun _ i _ => m - (intOf i).toNat)
  case atStart => exact ⟨0, fs, xs1, vs1, a1, n1, c1, Nat.zero_le _, rfl, rfl, hO1', by show _ ≤ _; omega, htot, HCA, rfl, hg1, hz1, hbx1⟩
  case round =>
    clear hO1' hg1 hz1 hbx1 y0 y1 y2
    obtain ⟨k, fk, xk, vk, a', n', c', hk, rfl, rfl, hO, hl12, htk, hca, hla, hbel, hSz, hbox⟩ := hrel
    obtain ⟨y0, y1, y2⟩ := box_cells hbox.out
    by_cases hlt : k < m
    · obtain ⟨pb, poff, rfl, hpb, hpc⟩ := pcell (by omega)
      have e1 := (hpc k hlt).below hpb (hbel.mono hB)
      have e1w := hpc k hlt
      have hdr : ps.drop k = ps.getD k (ByteArray.empty, 0, []) :: ps.drop (k + 1) := by
        rw [List.drop_eq_getElem_cons (by omega)]; simp [List.getD, List.getElem?_eq_getElem (show k < ps.length by omega)]
      obtain ⟨p, hp⟩ : ∃ p, p = ps.getD k (ByteArray.empty, 0, []) := ⟨_, rfl⟩
      rw [← hp] at e1 hdr e1w
      clear hp
      obtain ⟨nm, pq, pd⟩ := p
      obtain ⟨g1, g2, g3, g4, da, dn, dc, g5, g6⟩ := e1
      simp only at g1 g2 g3 g4 g6
      have hca' := hca.out
      rw [hdr] at hca'
      simp only [cacheS, Bool.and_eq_true, pendOk, fitsB, decide_eq_true_eq, beq_iff_eq] at hca'
      obtain ⟨⟨⟨t1, t2⟩, t3, t4⟩, ⟨t5, t6⟩, t7⟩ := hca'
      obtain ⟨pgN, rfl⟩ := Int.eq_ofNat_of_zero_le t3
      have hst : stepP fk (nm, (pgN : Int), pd) = doP fk nm pgN pd := by simp [stepP]
      rw [hst] at t5 t6 t7
      have hla2 : Hid (lastF ps fs = lastF (ps.drop (k + 1)) (doP fk nm pgN pd)) := by show _ = _; rw [hla.out, hdr]; simp only [lastF]; rw [hst]
      have hle := lenI_le_total fk nm
      have htk' := htk.out
      have hl12' := hl12.out
      have hpg : pgN ≤ 1000 := by omega
      have hallk := small_of_total (fs := fk) (by omega)
      have hdn : dn = 128 := by rw [← g6.1]; exact t2
      subst hdn
      have T5 : Hid ((doP fk nm pgN pd).length ≤ 12) := t5
      have T6 : Hid (totalI (doP fk nm pgN pd) ≤ cp) := t6
      have T7 : Hid (cacheS cp (ps.drop (k + 1)) (doP fk nm pgN pd) = true) := t7
      have hbk : pb < wr.heap.size := by have := hbel.size; omega
      have HO : Hid (OwnF wr (w.heap.size + 1) (.slice a' n' c') fk xk vk) := hO
      have HG6 : Hid (BytesAt wr A B da 128 dc pd) := g6
      have HALL : Hid (∀ j, j < fk.length → (fk.getD j (ByteArray.empty, [])).2.length ≤ 1073741824) := fun j hj => Nat.le_trans (hallk j hj) (by omega)
      have hfk : fk.length ≤ 1048576 := by omega
      clear hpc pcell hO g6 hallk t5 t6 t7 hdr hst hle htk' hl12' t1 t2 t3 t4 hca htk hl12 e1w
      go_wp2
      go_region_held3 (fun w' => w'.cell? ⟨w.heap.size, 1, none⟩ = some (.slice (some ⟨pb, poff, none⟩) m d) ∧ w'.cell? ⟨pb, poff + k * 3, none⟩ = some (.string nm) ∧ w'.cell? ⟨pb, poff + k * 3 + 1, none⟩ = some (.int .i64 (pgN : Int)) ∧ w'.cell? ⟨pb, poff + k * 3 + 2, none⟩ = some (.slice da 128 dc)) (go_keep)
        (first | (go_at_call 66; refine (l1Do_any _ _ _ fk xk vk nm pgN _ _ _ pd wr.drew (w.heap.size + 1) A B hSz (HO.out.below ((Below.refl _ _).drew)) (by omega) (HG6.out.below ((Below.refl _ _).drew)) (by omega) g2 hfk (by omega) HALL.out).mono ?_; rintro e w3 ⟨v3, rfl, xs3, vs3, hO3, hb3⟩; have hbw : Below (w.heap.size + 1) wr w3 := ((Below.refl _ wr).drew).trans hb3; have z1 := (hbw.cell (p := ⟨w.heap.size, 1, none⟩) (Nat.lt_succ_self _)).trans y1; have z2 := (hbw.cell (p := ⟨pb, poff + k * 3, none⟩) (by show pb < _; omega)).trans g1; have z3 := (hbw.cell (p := ⟨pb, poff + k * 3 + 1, none⟩) (by show pb < _; omega)).trans g3; have z4 := (hbw.cell (p := ⟨pb, poff + k * 3 + 2, none⟩) (by show pb < _; omega)).trans g5))
      obtain ⟨a3, n3, c3, rfl, hn3, hF3⟩ := hO3.files
      clear hn3 hF3
      have hg3 : Below w.heap.size w w3 := hbel.trans (hbw.mono (by omega))
      have hz3 : w.heap.size + 1 ≤ w3.heap.size := Nat.le_trans hSz hbw.size
      have hbx3 : Hid (w3.heap[w.heap.size]? = some (.cells #[.slice a n c, .slice (some ⟨pb, poff, none⟩) m d, .int .i64 cp, .int .i64 fu, .bool de] 32)) := (hbw.block _ (Nat.lt_succ_self _)).trans hbox.out
      clear hb3 hbw z1 z2 z3 z4 y0 y1 y2 hbel hbox
      go_wp2
      go_roundw
      case rel => exact ⟨k + 1, doP fk nm pgN pd, xs3, vs3, a3, n3, c3, by omega, by go_num, rfl, hO3, T5, T6, T7, hla2, hg3, hz3, hbx3⟩
      case measure => simp [intOf]; omega
    · have HL : Hid (lastF ps fs = fk) := by show _ = _; rw [hla.out, List.drop_eq_nil_of_le (by omega)]; rfl
      go_wp2
      go_ret
      exact ⟨_, xk, vk, rfl, by rw [HL.out]; exact hO, hbel⟩
end Go.Proofs.Ytmmdkjeoadlikaa
