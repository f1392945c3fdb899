import Derived.Test.YtjbifddhbcfdcaaGreatDF
import Derived.Test.YtjbifddhbcfdcaaGreatDG
namespace Go.Proofs.YtjbifddhbcfdcaaGreat
open Go.RowKit Go.Maps
set_option linter.unusedVariables false
set_option maxRecDepth 100000

theorem files_byte {w : World} {A B : Nat} {a : Option Addr} {n c : Nat} {fs : List PF} (h : FilesAt w A B a n c fs) : ByteF fs := by
  obtain ⟨h1, h2, h3, h4⟩ := h
  intro nm x hx
  unfold dataN at hx
  by_cases hf : findN fs nm < fs.length
  · rw [if_pos hf] at hx
    obtain ⟨ab, aoff, _, _, hcb⟩ := h4 (by omega)
    obtain ⟨p1, p2, pa, pn, pc, p3, p4⟩ := hcb (findN fs nm) (by omega)
    exact p4.2.2.2.1 x hx
  · rw [if_neg hf] at hx; cases hx
set_option maxHeartbeats 3200000 in
theorem see_any (a : Option Addr) (n c : Nat) (fs : List PF) (b : Option Addr) (m d : Nat) (ps : List PP) (cp fu : Int) (de : Bool) (w : World) (A B : Nat) (hB : B ≤ w.heap.size) (hF : FilesAt w A B a n c fs) (hP : PendsAt w A B b m d ps)
    (hn : n ≤ 12) (hm : m ≤ 1000) (hcp : cp ≤ 1000) (htot : totalI fs ≤ cp) (hca : cacheS cp ps fs = true) (hI : Inv fs) :
    Calls Tryz.prog 17 #[.agg #[.slice a n c, .slice b m d, .int .i64 cp, .int .i64 fu, .bool de]] w fun e w' => ∃ (mb q : Nat) (D : DataW Unit), e = .returned (.map (some mb)) ∧ w.heap.size ≤ mb ∧ MapS w' mb q D ∧ q ≤ 2097152 ∧ RepS D (pageOf (lastF ps fs)) ∧ ByteF (lastF ps fs) ∧ Inv (lastF ps fs) ∧ Below w.heap.size w w' := by
  have hb0 : Below w.heap.size w (w.alloc (.cells #[.slice a n c, .slice b m d, .int .i64 cp, .int .i64 fu, .bool de] 35)) := (Below.refl _ _).alloc (Nat.le_refl _) _
  have k0 := heap_alloc_new w (.cells #[.slice a n c, .slice b m d, .int .i64 cp, .int .i64 fu, .bool de] 35)
  have hsm := small_of_total (fs := fs) (by omega)
  have hfl := hF.1
  have HBY : Hid (ByteF fs) := files_byte hF
  have HI : Hid (Inv fs) := hI
  have HCA : Hid (cacheS cp ps fs = true) := hca
  go_enter Tryz.func17, Tryz.ntmps17
  go_wp2_with fail
  refine (durable_any a n c fs b m d ps cp fu de _ A B (by simp; omega) (hF.below (hb0.mono hB)) (by omega) hI hn (fun j hj => Nat.le_trans (hsm j (by omega)) (by omega))).mono ?_
  rintro e w1 ⟨mb, q1, D1, rfl, hmb1, hM1, hq1, hR1, hb1⟩
  have hmb : w.heap.size < mb := by simp at hmb1; omega
  have F1 : Hid (Below w.heap.size w w1) := hb0.trans (hb1.mono (by simp))
  have hz1 : w.heap.size < w1.heap.size := by have := hb1.size; simp at this; omega
  have hbx1 : w1.heap[w.heap.size]? = some (.cells #[.slice a n c, .slice b m d, .int .i64 cp, .int .i64 fu, .bool de] 35) := (hb1.block _ (by simp)).trans k0
  have HBX : Hid (w1.heap[w.heap.size]? = some (.cells #[.slice a n c, .slice b m d, .int .i64 cp, .int .i64 fu, .bool de] 35)) := hbx1
  have HM1 : Hid (MapS w1 mb q1 D1) := hM1
  have HR1 : Hid (RepS D1 (pageOf fs)) := hR1
  have HPL : Hid (ps.length = m) := hP.1
  have HP : Hid (∀ W, Below w.heap.size w W → PendsAt W A B b m d ps) := fun W hW => hP.below (hW.mono hB)
  have pnc := hP.2.1
  have pc0 := hP.2.2.1
  unfold maxLen at pc0
  obtain ⟨y0, y1, y2⟩ := box_cells hbx1
  clear hF hca hI hb0 k0 hb1 hbx1 hM1 hR1 hsm hmb1 hP
  go_wp2
  clear y0 y1 y2
  go_loopw [5, 11] (fun _ i wr => ∃ (k q : Nat) (fk : List PF) (D : DataW Unit), k ≤ m ∧ i = .int .i64 k ∧ q ≤ 1048576 + k * 1001 ∧ Hid (MapS wr mb q D) ∧ Hid (RepS D (pageOf fk)) ∧ Hid (Inv fk) ∧ Hid (ByteF fk) ∧ Hid (totalI fk ≤ cp) ∧ Hid (cacheS cp (ps.drop k) fk = true) ∧ Hid (lastF ps fs = lastF (ps.drop k) fk) ∧ Hid (Below w.heap.size w wr)) (fun _ i _ => m - (intOf i).toNat)
  case atStart => exact ⟨0, q1, fs, D1, Nat.zero_le _, rfl, by omega, HM1, HR1, HI, HBY, htot, HCA, rfl, F1⟩
  case round =>
    clear F1 hz1 HBX HM1 HR1 HI HBY HCA
    obtain ⟨k, q, fk, D, hk, rfl, hq, HM, HR, HI, HBY, HT, HCA, HLA, HBE⟩ := hrel
    by_cases hlt : k < m
    · obtain ⟨_, _, _, pcell⟩ := HP.out wr HBE.out
      obtain ⟨pb, poff, rfl, hpb, hpc⟩ := pcell (by omega)
      have e1 := hpc k hlt
      have hpl := HPL.out
      have hdr : ps.drop k = ps.getD k (ByteArray.empty, 0, []) :: ps.drop (k + 1) := by
        rw [List.drop_eq_getElem_cons (by omega)]; simp [List.getD, List.getElem?_eq_getElem (show k < ps.length by omega)]
      obtain ⟨p, hp⟩ : ∃ p, p = ps.getD k (ByteArray.empty, 0, []) := ⟨_, rfl⟩
      rw [← hp] at e1 hdr
      clear hp
      obtain ⟨nm, pq, pd⟩ := p
      obtain ⟨g1, g2, g3, g4, da, dn, dc, g5, g6⟩ := e1
      simp only at g1 g2 g3 g4 g6
      have hca' := HCA.out
      rw [hdr] at hca'
      simp only [cacheS, Bool.and_eq_true, pendOk, fitsB, decide_eq_true_eq, beq_iff_eq] at hca'
      obtain ⟨⟨⟨t1, t2⟩, t3, t4⟩, ⟨t5, t6⟩, t7⟩ := hca'
      obtain ⟨pgN, rfl⟩ := Int.eq_ofNat_of_zero_le t3
      have hst : stepP fk (nm, (pgN : Int), pd) = doP fk nm pgN pd := by simp [stepP]
      rw [hst] at t5 t6 t7
      have L1 : Hid (lastF ps fs = lastF (ps.drop (k + 1)) (doP fk nm pgN pd)) := by show _ = _; rw [HLA.out, hdr]; simp only [lastF]; rw [hst]
      have hle := lenI_le_total fk nm
      have htk := HT.out
      have hpg : pgN ≤ 1000 := by omega
      have hdn : dn = 128 := by rw [← g6.1]; exact t2
      subst hdn
      have T6 : Hid (totalI (doP fk nm pgN pd) ≤ cp) := t6
      have T7 : Hid (cacheS cp (ps.drop (k + 1)) (doP fk nm pgN pd) = true) := t7
      have T4 : Hid ((pgN : Int) ≤ lenI fk nm) := t4
      have T2 : Hid (pd.length = 128) := t2
      have hbs := HBE.out.size
      have hbk : pb < wr.heap.size := by omega
      have HG6 : Hid (BytesAt wr A B da 128 dc pd) := g6
      have I1 : Hid (Inv (doP fk nm pgN pd)) := doP_inv HI.out
      have B1 : Hid (ByteF (doP fk nm pgN pd)) := HBY.out.do HI.out g6.2.2.2.1
      clear hpc pcell g6 t5 t6 t7 hdr hst hle htk t1 t2 t3 t4 hpl
      have hal : Below wr.heap.size wr (wr.alloc (.cells #[.string nm, .int .i64 (pgN : Int), .slice da 128 dc] 73)) := (Below.refl _ _).alloc (Nat.le_refl _) _
      go_wp2_with fail
      refine (write_any nm g2 pgN 128 (lenI fk nm).toNat mb q da dc pd D (pageOf fk) _ A B (by simp; omega) (HG6.out.below (hal.mono (by omega))) (.inr (by omega)) (Nat.le_refl _) (by omega) (by omega) (World.ownsMap.alloc HM.out _) HR.out (fun t => page_there HI.out nm t) (fun t bs hb => page_byte HBY.out nm t bs hb)).mono ?_
      rintro e w3 ⟨rfl, q3, D3, hq3, hM3, hR3, hF3⟩
      have R3 : Hid (RepS D3 (pageOf (doP fk nm pgN pd))) := hR3.congr fun nm' t => do_write HI.out T4.out T2.out nm' t
      have M3 : Hid (MapS w3 mb q3 D3) := hM3
      have E3 : Hid (Below w.heap.size w w3) := (HBE.out.trans (hal.mono (by omega))).trans (hF3.below (by simp; omega) (fun g e => by omega))
      clear hM3 hR3 hF3 hal
      go_wp2
      go_roundw
      case rel => exact ⟨k + 1, q3, doP fk nm pgN pd, D3, by omega, by go_num, by omega, M3, R3, I1, B1, T6, T7, L1, E3⟩
      case measure => simp [intOf]; omega
    · have HL : Hid (lastF ps fs = fk) := by show _ = _; rw [HLA.out, List.drop_eq_nil_of_le (by have := HPL.out; omega)]; rfl
      go_wp2
      go_ret
      exact ⟨mb, q, D, rfl, by omega, HM.out, by omega, by rw [HL.out]; exact HR.out, by rw [HL.out]; exact HBY.out, by rw [HL.out]; exact HI.out, HBE.out⟩
end Go.Proofs.YtjbifddhbcfdcaaGreat
