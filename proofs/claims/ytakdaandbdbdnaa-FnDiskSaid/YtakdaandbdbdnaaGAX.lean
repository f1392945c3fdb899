import Derived.Test.YtakdaandbdbdnaaGAA
import Derived.Test.YtakdaandbdbdnaaGAL
import Derived.Test.YtakdaandbdbdnaaGAM
import Derived.Test.YtakdaandbdbdnaaGAN
import Derived.Test.YtakdaandbdbdnaaSd2
namespace Go.Proofs.Ytakdaandbdbdnaa
open Go.RowKit
set_option linter.unusedVariables false
set_option maxRecDepth 100000

set_option maxHeartbeats 3200000 in
theorem l1AnyDisk_any (C A B : Nat) (w : World) (h : DCur w C A B) :
    Calls Try.prog 30 #[.pointer (some ⟨C, 0, none⟩)] w fun e w' => BndD w e w' w.heap.size C A B := by
  have hCl := h.lt
  have hal : Below w.heap.size w (w.alloc (.cells #[.slice none 0 0, .slice none 0 0, .int .i64 0, .int .i64 0, .bool false] 26)) := (Below.refl _ _).alloc (Nat.le_refl _) _
  have X0 := heap_alloc_new w (.cells #[.slice none 0 0, .slice none 0 0, .int .i64 0, .int .i64 0, .bool false] 26)
  have hD0 := h.below hal
  have s0 : (w.alloc (.cells #[.slice none 0 0, .slice none 0 0, .int .i64 0, .int .i64 0, .bool false] 26)).heap.size = w.heap.size + 1 := by simp
  clear h
  go_enter Try.func30, Try.ntmps30
  go_wp2_with fail
  generalize w.alloc (.cells #[.slice none 0 0, .slice none 0 0, .int .i64 0, .int .i64 0, .bool false] 26) = W0 at hal X0 hD0 s0 ⊢
  refine (l1DrawDisk_any C A B W0 hD0).mono ?_
  rintro e w1 hDr
  obtain ⟨a, c, b, d, fs, ps, cp, fu, rfl, hO1, hv1, hfu1, hp1, hD1, hF1⟩ := hDr.ex
  have s1 := hF1.size
  have X1 := box_fr X0 hF1 (by omega)
  have F1 : Fr (fun g => g = C) w w1 := (Fr.of_below hal).trans hF1
  have hBD := bd_of hv1 hfu1 hp1
  have hnf := (val_bounds hv1).1
  have hal2 := (Below.refl w1.heap.size w1).alloc (Nat.le_refl _) (.cells #[.slice a fs.length c, .slice b ps.length d, .int .i64 cp, .int .i64 fu, .bool false] 26)
  have X2 : (w1.alloc (.cells #[.slice a fs.length c, .slice b ps.length d, .int .i64 cp, .int .i64 fu, .bool false] 26)).heap[w.heap.size]? = some (.cells #[.slice none 0 0, .slice none 0 0, .int .i64 0, .int .i64 0, .bool false] 26) := box_below X1 hal2
  have M2 := heap_alloc_new w1 (.cells #[.slice a fs.length c, .slice b ps.length d, .int .i64 cp, .int .i64 fu, .bool false] 26)
  have hO2 := hO1.below hal2
  have hD2 := hD1.below hal2
  have F2 : Fr (fun g => g = C) w (w1.alloc (.cells #[.slice a fs.length c, .slice b ps.length d, .int .i64 cp, .int .i64 fu, .bool false] 26)) := F1.trans (Fr.of_below hal2)
  have s2 : (w1.alloc (.cells #[.slice a fs.length c, .slice b ps.length d, .int .i64 cp, .int .i64 fu, .bool false] 26)).heap.size = w1.heap.size + 1 := by simp
  have HBD : Hid (BD fs ps cp fu ∧ fs.length ≤ 12 ∧ ps.length ≤ 8) := ⟨hBD, hnf, hp1⟩
  clear hDr hO1 hv1 hp1 hD1 hF1 X1 X0 F1 hal hal2 hBD hnf hD0 hfu1
  go_wp2_with fail
  generalize w1.alloc (.cells #[.slice a fs.length c, .slice b ps.length d, .int .i64 cp, .int .i64 fu, .bool false] 26) = W2 at X2 M2 hO2 hD2 F2 s2 ⊢
  generalize w1.heap.size = M at M2 hO2 s1 s2 ⊢
  refine (l1Once_any C A B W2 hD2 10 (by omega) (by omega)).mono ?_
  rintro e w3 ⟨bo, rfl, hD3, hF3⟩
  have s3 := hF3.size
  have X3 := box_fr X2 hF3 (by omega)
  have M3 := box_fr M2 hF3 (by omega)
  have O3 := hO2.fr hF3 (fun g e => .inl (by omega))
  have F3 : Fr (fun g => g = C) w w3 := F2.trans hF3
  clear X2 M2 hO2 hD2 F2 hF3
  obtain ⟨z0, z1, z2, z3, z4⟩ := box_fiveC M3
  have lM : M < w3.heap.size := by omega
  have lN : w.heap.size < w3.heap.size := by omega
  cases bo
  · obtain ⟨y0, y1, y2, y3, y4⟩ := box_fiveC X3
    have yf := box_thawC X3
    have hf := put5C_fr w3 w.heap.size (.slice a fs.length c) (.slice b ps.length d) (.int .i64 cp) (.int .i64 fu) (.bool false)
    have X5 := put5C_box X3 (.slice a fs.length c) (.slice b ps.length d) (.int .i64 cp) (.int .i64 fu) (.bool false)
    have O5 := O3.fr hf (fun g e => .inl (by omega))
    have HB : Hid (BndD w (.returned (.agg #[.slice a fs.length c, .slice b ps.length d, .int .i64 cp, .int .i64 fu, .bool false])) (put5C w3 w.heap.size (.slice a fs.length c) (.slice b ps.length d) (.int .i64 cp) (.int .i64 fu) (.bool false)) w.heap.size C A B) := ⟨⟨a, fs.length, c, b, ps.length, d, fs, ps, cp, fu, false, rfl, O5.files.up (by omega) (Nat.le_refl _), O5.pends.up (by omega) (Nat.le_refl _), HBD.out.1, hD3.belowN (hf.below (B := w.heap.size) (by omega) (fun g e => by omega)) (by omega), (F3.weak (fun g e => .inl e)).trans (hf.weak (fun g e => .inr (by omega)))⟩⟩
    have HX5 : Hid _ := X5
    clear hf X5 O5 O3 F3 hD3
    go_wp2_with fail
    show bodyPost _ _ _ _ _ (put5C w3 w.heap.size (.slice a fs.length c) (.slice b ps.length d) (.int .i64 cp) (.int .i64 fu) (.bool false))
    clear z0 z1 z2 z3 z4 y0 y1 y2 y3 y4 yf
    obtain ⟨z0, z1, z2, z3, z4⟩ := box_fiveC HX5.out
    exact bodyPost_ret (v := .agg #[.slice a fs.length c, .slice b ps.length d, .int .i64 cp, .int .i64 fu, .bool false]) (by simp [results, Try.results30, go_sem, z0, z1, z2, z3, z4]) rfl HB.out
  · go_wp2_with fail
    refine (l1SpoilDisk_any C A B W0.heap.size a c b d fs ps cp fu w3 hD3 (by omega) (O3.up (by omega)) HBD.out.1 HBD.out.2.1 HBD.out.2.2).mono ?_
    rintro e w4 hBn
    obtain ⟨a4, n4, c4, b4, m4, d4, fs4, ps4, cp4, fu4, de4, rfl, hF4, hP4, hBD4, hD4, hR4⟩ := hBn.ex
    have s4 := hR4.size
    have X4 := box_fr X3 hR4 (by omega)
    have lN4 : w.heap.size < w4.heap.size := by omega
    clear z0 z1 z2 z3 z4 O3 hBn
    obtain ⟨y0, y1, y2, y3, y4⟩ := box_fiveC X4
    have yf := box_thawC X4
    have hf := put5C_fr w4 w.heap.size (.slice a4 n4 c4) (.slice b4 m4 d4) (.int .i64 cp4) (.int .i64 fu4) (.bool de4)
    have X5 := put5C_box X4 (.slice a4 n4 c4) (.slice b4 m4 d4) (.int .i64 cp4) (.int .i64 fu4) (.bool de4)
    have kk : Keeps W0.heap.size w4.heap.size w4 (put5C w4 w.heap.size (.slice a4 n4 c4) (.slice b4 m4 d4) (.int .i64 cp4) (.int .i64 fu4) (.bool de4)) := fun g h1 h2 => hf.block g h2 (by omega)
    have HB : Hid (BndD w (.returned (.agg #[.slice a4 n4 c4, .slice b4 m4 d4, .int .i64 cp4, .int .i64 fu4, .bool de4])) (put5C w4 w.heap.size (.slice a4 n4 c4) (.slice b4 m4 d4) (.int .i64 cp4) (.int .i64 fu4) (.bool de4)) w.heap.size C A B) := ⟨⟨a4, n4, c4, b4, m4, d4, fs4, ps4, cp4, fu4, de4, rfl, (hF4.keep kk).up (by omega) hf.size, (hP4.keep kk).up (by omega) hf.size, hBD4, hD4.belowN (hf.below (B := w.heap.size) (by omega) (fun g e => by omega)) (by omega), ((F3.weak (fun g e => .inl e)).trans (hR4.weak (fun g e => e.elim .inl (fun h => .inr (by omega))))).trans (hf.weak (fun g e => .inr (by omega)))⟩⟩
    have HX5 : Hid _ := X5
    clear hf X5 hF4 hP4 hBD4 hD4 hR4 kk F3 hD3
    go_wp2_with fail
    show bodyPost _ _ _ _ _ (put5C w4 w.heap.size (.slice a4 n4 c4) (.slice b4 m4 d4) (.int .i64 cp4) (.int .i64 fu4) (.bool de4))
    clear y0 y1 y2 y3 y4 yf
    obtain ⟨z0, z1, z2, z3, z4⟩ := box_fiveC HX5.out
    exact bodyPost_ret (v := .agg #[.slice a4 n4 c4, .slice b4 m4 d4, .int .i64 cp4, .int .i64 fu4, .bool de4]) (by simp [results, Try.results30, go_sem, z0, z1, z2, z3, z4]) rfl HB.out
end Go.Proofs.Ytakdaandbdbdnaa
namespace Go.Proofs.Ytakdaandbdbdnaa
open Go.RowKit Go.Maps
set_option linter.unusedVariables false
set_option maxRecDepth 100000

set_option maxRecDepth 100000 in
set_option maxHeartbeats 2000000 in
theorem l1SeenB_any (a : Option Addr) (n c : Nat) (fs : List PF) (b : Option Addr) (m d : Nat) (ps : List PP) (cp fu : Int) (de : Bool) (w : World) (A B : Nat) (hB : B ≤ w.heap.size) (hF : FilesAt w A B a n c fs) (hP : PendsAt w A B b m d ps)
    (hn : fs.length ≤ 100) (hm : ps.length ≤ 100) (hsf : ∀ j, j < fs.length → (fs.getD j (ByteArray.empty, [])).2.length ≤ 1048576) (hsp : ∀ p ∈ ps, 0 ≤ p.2.1 ∧ p.2.1 ≤ 1000 ∧ p.2.2.length ≤ 128) :
    Calls Try.prog 35 #[.agg #[.slice a n c, .slice b m d, .int .i64 cp, .int .i64 fu, .bool de]] w fun e w' => ∃ v xs vs, e = .returned v ∧ OwnF w' (w.heap.size + 1) v (lastF ps fs) xs vs ∧ totalI (lastF ps fs) ≤ 1073741824 ∧ Below w.heap.size w w' := by
  have hb0 : Below w.heap.size w (w.alloc (.cells #[.slice a n c, .slice b m d, .int .i64 cp, .int .i64 fu, .bool de] 26)) := (Below.refl _ _).alloc (Nat.le_refl _) _
  have hfl := hF.1
  go_enter Try.func35, Try.ntmps35
  go_wp2_with fail
  refine (l1Files_any _ _ _ fs _ A B (by simp; omega) (hF.below (hb0.mono hB)) (by omega) (fun j hj => hsf j (by omega))).mono ?_
  rintro e w1 ⟨v1, xs1, vs1, rfl, hO1, hb1⟩
  have hO1' : OwnF w1 (w.heap.size + 1) v1 fs xs1 vs1 := by simpa using hO1
  have hg1 := hb0.trans (hb1.mono (by simp))
  have hz1 : w.heap.size + 1 ≤ w1.heap.size := by simpa using hb1.size
  have hbx1 : Hid (w1.heap[w.heap.size]? = some (.cells #[.slice a n c, .slice b m d, .int .i64 cp, .int .i64 fu, .bool de] 26)) := (hb1.block _ (by simp)).trans (heap_alloc_new w _)
  obtain ⟨pl, pnc, pc0, pcell⟩ := hP
  unfold maxLen at pc0
  obtain ⟨a1, n1, c1, rfl, hn1, hF1⟩ := hO1'.files
  clear hn1 hF1
  have HSF : Hid (∀ j, j < fs.length → (fs.getD j (ByteArray.empty, [])).2.length ≤ 1048576) := hsf
  have HSP : Hid (∀ p ∈ ps, 0 ≤ p.2.1 ∧ p.2.1 ≤ 1000 ∧ p.2.2.length ≤ 128) := hsp
  clear hO1 hb1 hsf hsp
  obtain ⟨y0, y1, y2⟩ := box_cells hbx1.out
  go_wp2
  go_loopw [3, 4] (fun v i wr => ∃ (k : Nat) (fk : List PF) (xk vk : List Value) (a' : Option Addr) (n' c' : Nat), k ≤ m ∧ i = .int .i64 k ∧ v = .slice a' n' c' ∧ OwnF wr (w.heap.size + 1) (.slice a' n' c') fk xk vk ∧ Hid (fk.length ≤ 100 + k) ∧ Hid (∀ j, j < fk.length → (fk.getD j (ByteArray.empty, [])).2.length ≤ 1048576) ∧ Hid (lastF ps fs = lastF (ps.drop k) fk) ∧ Below w.heap.size w wr ∧ w.heap.size + 1 ≤ wr.heap.size ∧ Hid (wr.heap[w.heap.size]? = some (.cells #[.slice a n c, .slice b m d, .int .i64 cp, .int .i64 fu, .bool de] 26))) (fun _ i _ => m - (intOf i).toNat)
  case atStart => exact ⟨0, fs, xs1, vs1, a1, n1, c1, Nat.zero_le _, rfl, rfl, hO1', by show _ ≤ _; omega, HSF, rfl, hg1, hz1, hbx1⟩
  case round =>
    clear hO1' hg1 hz1 hbx1 y0 y1 y2
    obtain ⟨k, fk, xk, vk, a', n', c', hk, rfl, rfl, hO, hl12, hsk, hla, hbel, hSz, hbox⟩ := hrel
    obtain ⟨y0, y1, y2⟩ := box_cells hbox.out
    by_cases hlt : k < m
    · obtain ⟨pb, poff, rfl, hpb, hpc⟩ := pcell (by omega)
      have e1 := (hpc k hlt).below hpb (hbel.mono hB)
      have e1w := hpc k hlt
      have hdr : ps.drop k = ps.getD k (ByteArray.empty, 0, []) :: ps.drop (k + 1) := by
        rw [List.drop_eq_getElem_cons (by omega)]; simp [List.getD, List.getElem?_eq_getElem (show k < ps.length by omega)]
      obtain ⟨p, hp⟩ : ∃ p, p = ps.getD k (ByteArray.empty, 0, []) := ⟨_, rfl⟩
      rw [← hp] at e1 hdr e1w
      clear hp
      obtain ⟨nm, pq, pd⟩ := p
      obtain ⟨g1, g2, g3, g4, da, dn, dc, g5, g6⟩ := e1
      simp only at g1 g2 g3 g4 g6
      obtain ⟨t3, t4, t2⟩ := HSP.out (nm, pq, pd) (List.mem_of_mem_drop (i := k) (by rw [hdr]; exact List.mem_cons_self))
      simp only at t3 t4 t2
      obtain ⟨pgN, rfl⟩ := Int.eq_ofNat_of_zero_le t3
      have hst : stepP fk (nm, (pgN : Int), pd) = doP fk nm pgN pd := by simp [stepP]
      have hla2 : Hid (lastF ps fs = lastF (ps.drop (k + 1)) (doP fk nm pgN pd)) := by show _ = _; rw [hla.out, hdr]; simp only [lastF]; rw [hst]
      have hl12' := hl12.out
      have hpg : pgN ≤ 1000 := by omega
      have hdn : dn ≤ 128 := by rw [← g6.1]; exact t2
      have T5 : Hid ((doP fk nm pgN pd).length ≤ 100 + (k + 1)) := by show _ ≤ _; rw [doP_len]; split <;> omega
      have T6 : Hid (∀ j, j < (doP fk nm pgN pd).length → ((doP fk nm pgN pd).getD j (ByteArray.empty, [])).2.length ≤ 1048576) := doP_all hsk.out (by omega)
      have hbk : pb < wr.heap.size := by have := hbel.size; omega
      have HO : Hid (OwnF wr (w.heap.size + 1) (.slice a' n' c') fk xk vk) := hO
      have HG6 : Hid (BytesAt wr A B da dn dc pd) := g6
      have HALL : Hid (∀ j, j < fk.length → (fk.getD j (ByteArray.empty, [])).2.length ≤ 1073741824) := fun j hj => Nat.le_trans (hsk.out j hj) (by omega)
      have hfk : fk.length ≤ 1048576 := by omega
      clear hpc pcell hO g6 hdr hst hl12' t2 t3 t4 hl12 hsk e1w
      go_wp2
      go_region_held3 (fun w' => w'.cell? ⟨w.heap.size, 1, none⟩ = some (.slice (some ⟨pb, poff, none⟩) m d) ∧ w'.cell? ⟨pb, poff + k * 3, none⟩ = some (.string nm) ∧ w'.cell? ⟨pb, poff + k * 3 + 1, none⟩ = some (.int .i64 (pgN : Int)) ∧ w'.cell? ⟨pb, poff + k * 3 + 2, none⟩ = some (.slice da dn dc)) (go_keep)
        (first | (go_at_call 68; refine (l1Do_any _ _ _ fk xk vk nm pgN _ _ _ pd wr.drew (w.heap.size + 1) A B hSz (HO.out.below ((Below.refl _ _).drew)) (by omega) (HG6.out.below ((Below.refl _ _).drew)) (by omega) g2 hfk (by omega) HALL.out).mono ?_; rintro e w3 ⟨v3, rfl, xs3, vs3, hO3, hb3⟩; have hbw : Below (w.heap.size + 1) wr w3 := ((Below.refl _ wr).drew).trans hb3; have z1 := (hbw.cell (p := ⟨w.heap.size, 1, none⟩) (Nat.lt_succ_self _)).trans y1; have z2 := (hbw.cell (p := ⟨pb, poff + k * 3, none⟩) (by show pb < _; omega)).trans g1; have z3 := (hbw.cell (p := ⟨pb, poff + k * 3 + 1, none⟩) (by show pb < _; omega)).trans g3; have z4 := (hbw.cell (p := ⟨pb, poff + k * 3 + 2, none⟩) (by show pb < _; omega)).trans g5))
      obtain ⟨a3, n3, c3, rfl, hn3, hF3⟩ := hO3.files
      clear hn3 hF3
      have hg3 : Below w.heap.size w w3 := hbel.trans (hbw.mono (by omega))
      have hz3 : w.heap.size + 1 ≤ w3.heap.size := Nat.le_trans hSz hbw.size
      have hbx3 : Hid (w3.heap[w.heap.size]? = some (.cells #[.slice a n c, .slice (some ⟨pb, poff, none⟩) m d, .int .i64 cp, .int .i64 fu, .bool de] 26)) := (hbw.block _ (Nat.lt_succ_self _)).trans hbox.out
      clear hb3 hbw z1 z2 z3 z4 y0 y1 y2 hbel hbox
      go_wp2
      go_roundw
      case rel => exact ⟨k + 1, doP fk nm pgN pd, xs3, vs3, a3, n3, c3, by omega, by go_num, rfl, hO3, T5, T6, hla2, hg3, hz3, hbx3⟩
      case measure => simp [intOf]; omega
    · have HTT : Hid (totalI fk ≤ 1073741824) := by
        have h1 := totalI_small hsk.out
        have h2 := hl12.out
        show _ ≤ _
        have h3 : (fk.length : Int) * ((1048576 : Nat) : Int) ≤ 201 * 1048576 := by omega
        omega
      have HL : Hid (lastF ps fs = fk) := by show _ = _; rw [hla.out, List.drop_eq_nil_of_le (by omega)]; rfl
      go_wp2
      go_ret
      exact ⟨_, xk, vk, rfl, by rw [HL.out]; exact hO, by rw [HL.out]; exact HTT.out, hbel⟩
end Go.Proofs.Ytakdaandbdbdnaa
namespace Go.Proofs.Ytakdaandbdbdnaa
open Go.RowKit
set_option linter.unusedVariables false
set_option maxRecDepth 100000

/-- What DrawWritePage answers. -/
structure DrawnW (w : World) (e : Ending) (w' : World) : Prop where
  ex : ∃ (a : Option Addr) (n c : Nat) (b : Option Addr) (m d : Nat) (fs : List PF) (ps : List PP) (cp fu : Int) (de : Bool) (nm : ByteArray) (pg : Int) (pa : Option Addr) (pn pc : Nat) (bs : List Int), e = .returned (.tuple #[.agg #[.slice a n c, .slice b m d, .int .i64 cp, .int .i64 fu, .bool de], .string nm, .int .i64 pg, .slice pa pn pc]) ∧ FilesAt w' w.heap.size w'.heap.size a n c fs ∧ PendsAt w' w.heap.size w'.heap.size b m d ps ∧ BytesAt w' w.heap.size w'.heap.size pa pn pc bs ∧ (fs.length ≤ 100 ∧ ps.length ≤ 100 ∧ (∀ j, j < fs.length → (fs.getD j (ByteArray.empty, [])).2.length ≤ 1048576) ∧ (∀ p ∈ ps, 0 ≤ p.2.1 ∧ p.2.1 ≤ 1000 ∧ p.2.2.length ≤ 128)) ∧ nm.size ≤ 9 ∧ (-1 ≤ pg ∧ pg ≤ 3) ∧ pn ≤ 128 ∧ (-1073741824 ≤ cp ∧ cp ≤ 1073741824) ∧ (-1073741824 ≤ fu ∧ fu ≤ 1073741824) ∧ Below w.heap.size w w'
/-- The state at the end of a draw: the disk in the block M, the answer's block N. -/
structure WSt (w wr : World) (N M : Nat) (a : Option Addr) (n c : Nat) (b : Option Addr) (m d : Nat) (fs : List PF) (ps : List PP) (cp fu : Int) (de : Bool) (pa : Option Addr) (pn pc : Nat) (bs : List Int) : Prop where
  hd : wr.heap[M]? = some (.cells #[.slice a n c, .slice b m d, .int .i64 cp, .int .i64 fu, .bool de] 26)
  rs : wr.heap[N]? = some (.cells #[.slice none 0 0, .slice none 0 0, .int .i64 0, .int .i64 0, .bool false] 26)
  fil : FilesAt wr (N + 1) M a n c fs
  pen : PendsAt wr (N + 1) M b m d ps
  byt : BytesAt wr (M + 1) wr.heap.size pa pn pc bs
  bd : fs.length ≤ 100 ∧ ps.length ≤ 100 ∧ (∀ j, j < fs.length → (fs.getD j (ByteArray.empty, [])).2.length ≤ 1048576) ∧ (∀ p ∈ ps, 0 ≤ p.2.1 ∧ p.2.1 ≤ 1000 ∧ p.2.2.length ≤ 128)
  rc : (-1073741824 ≤ cp ∧ cp ≤ 1073741824) ∧ (-1073741824 ≤ fu ∧ fu ≤ 1073741824)
  bel : Below w.heap.size w wr
  lo : w.heap.size ≤ N ∧ N < M
theorem WSt.done {w wr : World} {N M : Nat} {a : Option Addr} {n c : Nat} {b : Option Addr} {m d : Nat} {fs : List PF} {ps : List PP} {cp fu : Int} {de : Bool} {pa : Option Addr} {pn pc : Nat} {bs : List Int} (h : WSt w wr N M a n c b m d fs ps cp fu de pa pn pc bs) {nm : ByteArray} {pg : Int} (hnm : nm.size ≤ 9) (hpg : -1 ≤ pg ∧ pg ≤ 3) (hpn : pn ≤ 128) :
    DrawnW w (.returned (.tuple #[.agg #[.slice a n c, .slice b m d, .int .i64 cp, .int .i64 fu, .bool de], .string nm, .int .i64 pg, .slice pa pn pc])) (put5C wr N (.slice a n c) (.slice b m d) (.int .i64 cp) (.int .i64 fu) (.bool de)) := by
  have hl := h.lo
  have hM : M < wr.heap.size := (Array.getElem?_eq_some_iff.1 h.hd).1
  have hf := put5C_fr wr N (.slice a n c) (.slice b m d) (.int .i64 cp) (.int .i64 fu) (.bool de)
  have k1 : Keeps (N + 1) M wr (put5C wr N (.slice a n c) (.slice b m d) (.int .i64 cp) (.int .i64 fu) (.bool de)) := fun g h1 h2 => hf.block g (by omega) (by omega)
  have k2 : Keeps (M + 1) wr.heap.size wr (put5C wr N (.slice a n c) (.slice b m d) (.int .i64 cp) (.int .i64 fu) (.bool de)) := fun g h1 h2 => hf.block g h2 (by omega)
  have s := hf.size
  exact ⟨⟨a, n, c, b, m, d, fs, ps, cp, fu, de, nm, pg, pa, pn, pc, bs, rfl, (h.fil.keep k1).up (by omega) (by omega), (h.pen.keep k1).up (by omega) (by omega), (h.byt.keep k2).up (by omega) s, h.bd, hnm, hpg, hpn, h.rc.1, h.rc.2, h.bel.trans (hf.below h.bel.size (fun g e => by omega))⟩⟩
theorem BytesAt.tail {w : World} {A B g o n c : Nat} {bs : List Int} (h : BytesAt w A B (some ⟨g, o, none⟩) (n + 1) (c + 1) bs) : BytesAt w A B (some ⟨g, o + 1, none⟩) n c (bs.drop 1) := by
  obtain ⟨h1, h2, h3, h4, h5, h6⟩ := h
  refine ⟨by simp; omega, by omega, by omega, fun x hx => h4 x (List.mem_of_mem_drop hx), fun hn => ?_, fun e => by cases e⟩
  obtain ⟨b, off, e, hb, hc⟩ := h5 (by omega)
  simp only [Option.some.injEq, Addr.mk.injEq] at e
  obtain ⟨rfl, rfl, _⟩ := e
  refine ⟨_, _, rfl, hb, fun i hi => ?_⟩
  rw [Nat.add_assoc, hc (1 + i) (by omega)]
  simp [List.getD, Nat.add_comm]
theorem WSt.bytes {w wr : World} {N M : Nat} {a : Option Addr} {n c : Nat} {b : Option Addr} {m d : Nat} {fs : List PF} {ps : List PP} {cp fu : Int} {de : Bool} {pa : Option Addr} {pn pc : Nat} {bs : List Int} (h : WSt w wr N M a n c b m d fs ps cp fu de pa pn pc bs) {pa' : Option Addr} {pn' pc' : Nat} {bs' : List Int} (hb : BytesAt wr (M + 1) wr.heap.size pa' pn' pc' bs') : WSt w wr N M a n c b m d fs ps cp fu de pa' pn' pc' bs' :=
  ⟨h.hd, h.rs, h.fil, h.pen, hb, h.bd, h.rc, h.bel, h.lo⟩
theorem WSt.cap {w wr wr' : World} {N M : Nat} {a : Option Addr} {n c : Nat} {b : Option Addr} {m d : Nat} {fs : List PF} {ps : List PP} {cp fu : Int} {de : Bool} {pa : Option Addr} {pn pc : Nat} {bs : List Int} (h : WSt w wr N M a n c b m d fs ps cp fu de pa pn pc bs) (hb : Below wr.heap.size wr wr') {t : Int} (ht : 0 ≤ t ∧ t ≤ 1073741824) : WSt w (wr'.setCell ⟨M, 2, none⟩ (.int .i64 t)) N M a n c b m d fs ps t fu de pa pn pc bs := by
  have hl := h.lo
  have hM : M < wr.heap.size := (Array.getElem?_eq_some_iff.1 h.hd).1
  have hs := hb.size
  have hf := fr_setCell wr' M 2 (.int .i64 t)
  have s := hf.size
  have X := box_below h.hd hb
  have R := box_below h.rs hb
  have k1 : Keeps (N + 1) M wr (wr'.setCell ⟨M, 2, none⟩ (.int .i64 t)) := fun g h1 h2 => (hf.block g (by omega) (by omega)).trans (hb.block g (by omega))
  have k2 : Keeps (M + 1) wr.heap.size wr (wr'.setCell ⟨M, 2, none⟩ (.int .i64 t)) := fun g h1 h2 => (hf.block g (by omega) (by omega)).trans (hb.block g (by omega))
  refine ⟨?_, box_fr R hf (by omega), h.fil.keep k1, h.pen.keep k1, (h.byt.keep k2).up (Nat.le_refl _) (by omega), h.bd, ⟨by omega, h.rc.2⟩, h.bel.trans ((hb.mono h.bel.size).trans (hf.below (by have := h.bel.size; omega) (fun g e => by omega))), hl⟩
  have := heap_setCell_at X 2 (.int .i64 t)
  simpa using this
set_option maxHeartbeats 3200000 in
theorem drawWrite_any (a : Option Addr) (n c : Nat) (bs : List Int) (w : World) (A B : Nat) (hB : B ≤ w.heap.size) (hby : BytesAt w A B a n c bs) :
    Calls Try.prog 6 #[.slice a n c] w fun e w' => DrawnW w e w' := by
  have hal : Below w.heap.size w (w.alloc (.cells #[.slice none 0 0, .slice none 0 0, .int .i64 0, .int .i64 0, .bool false] 26)) := (Below.refl _ _).alloc (Nat.le_refl _) _
  have X0 := heap_alloc_new w (.cells #[.slice none 0 0, .slice none 0 0, .int .i64 0, .int .i64 0, .bool false] 26)
  have s0 : (w.alloc (.cells #[.slice none 0 0, .slice none 0 0, .int .i64 0, .int .i64 0, .bool false] 26)).heap.size = w.heap.size + 1 := by simp
  have hby0 := hby.below (hal.mono hB)
  clear hby
  go_enter Try.func6, Try.ntmps6
  go_wp2_with fail
  generalize w.alloc (.cells #[.slice none 0 0, .slice none 0 0, .int .i64 0, .int .i64 0, .bool false] 26) = W0 at hal X0 s0 hby0 ⊢
  refine (l1New_any a n c bs W0 A B (by omega) hby0).mono ?_
  rintro e w1 ⟨C, rfl, hC, hD1, hb1⟩
  have hCl := hD1.lt
  have X1 := box_below X0 hb1
  have b1 : Below w.heap.size w w1 := hal.trans (hb1.mono (by omega))
  have s1 := hb1.size
  have s1' := b1.size
  clear X0 hb1 hby0 hal
  go_wp2_with fail
  refine (l1AnyDisk_any C A B w1 hD1).mono ?_
  rintro e w2 hBn
  obtain ⟨a1, n1, c1, b1', m1, d1, fs, ps, cp, fu, de, rfl, hF2, hP2, hBD, hD2, hR2⟩ := hBn.ex
  have s2 := hR2.size
  have X2 := box_fr X1 hR2 (by omega)
  have B2 : Below w.heap.size w w2 := b1.trans (hR2.below s1' (fun g e => by omega))
  have hal2 := (Below.refl w2.heap.size w2).alloc (Nat.le_refl _) (.cells #[.slice a1 n1 c1, .slice b1' m1 d1, .int .i64 cp, .int .i64 fu, .bool de] 26)
  have M3 := heap_alloc_new w2 (.cells #[.slice a1 n1 c1, .slice b1' m1 d1, .int .i64 cp, .int .i64 fu, .bool de] 26)
  have X3 := box_below X2 hal2
  have hD3 := hD2.below hal2
  have hF3 := hF2.below hal2
  have hP3 := hP2.below hal2
  have B3 := B2.trans (hal2.mono B2.size)
  have s3 : (w2.alloc (.cells #[.slice a1 n1 c1, .slice b1' m1 d1, .int .i64 cp, .int .i64 fu, .bool de] 26)).heap.size = w2.heap.size + 1 := by simp
  have HBD : Hid (BD fs ps cp fu) := hBD
  clear hBn hBD hF2 hP2 hD2 hR2 X1 X2 B2 hal2 b1 hD1
  go_wp2_with fail
  generalize w2.alloc (.cells #[.slice a1 n1 c1, .slice b1' m1 d1, .int .i64 cp, .int .i64 fu, .bool de] 26) = W3 at M3 X3 hD3 hF3 hP3 B3 s3 ⊢
  generalize w2.heap.size = M at M3 hF3 hP3 s2 s3 ⊢
  refine (l1DrawName_any C A B W3 hD3).mono ?_
  rintro e w4 ⟨nm, rfl, hnm, hD4, hR4⟩
  have F4 : Fr (fun g => g = C) W3 w4 := hR4
  go_wp2_with fail
  refine (l1Below_any C A B w4 hD4 4 (by omega) (by omega)).mono ?_
  rintro e w5 ⟨pg, rfl, hpg, hD5, hR5⟩
  have F5 := F4.trans hR5
  have s5 := F5.size
  clear F4 hR4 hR5 hD4
  go_wp2_with fail
  refine (l1DrawPage_any C A B w5 hD5).mono ?_
  rintro e w6 ⟨g, bs6, rfl, hO6, hbl, hb6, hD6, hR6⟩
  have F6 := F5.trans hR6
  have Y6 : BytesAt w6 w5.heap.size w6.heap.size (some ⟨g, 0, none⟩) 128 128 bs6 := by
    obtain ⟨a', n', c', e1, e2⟩ := bytesAt_of_own (bs := bs6) (by rw [hbl]; exact hO6) hb6
    cases e1
    exact e2
  have s6 := hR6.size
  clear F5 hR6 hD5 hO6
  go_wp2_with fail
  refine (l1Below_any C A B w6 hD6 12 (by omega) (by omega)).mono ?_
  rintro e w7 ⟨k, rfl, hk, hD7, hR7⟩
  have F7 := F6.trans hR7
  have Y7 : BytesAt w7 w5.heap.size w7.heap.size (some ⟨g, 0, none⟩) 128 128 bs6 := (Y6.keep (fun q h1 h2 => hR7.block q h2 (by omega))).up (Nat.le_refl _) hR7.size
  have s7 := F7.size
  have bd := HBD.out
  have kk : Keeps w1.heap.size M W3 w7 := fun q h1 h2 => F7.block q (by omega) (by omega)
  have ws : WSt w w7 w.heap.size M a1 n1 c1 b1' m1 d1 fs ps cp fu de (some ⟨g, 0, none⟩) 128 128 bs6 := ⟨box_fr M3 F7 (by omega), box_fr X3 F7 (by omega), (hF3.keep kk).up (by omega) (Nat.le_refl _), (hP3.keep kk).up (by omega) (Nat.le_refl _), Y7.up (by omega) (Nat.le_refl _), ⟨bd.nf, bd.np, bd.sf, bd.sp⟩, ⟨by have := bd.rc; omega, by have := bd.rf; omega⟩, B3.trans (F7.below B3.size (fun q e => by omega)), by omega⟩
  clear F6 F7 Y6 Y7 kk hR7 hD7 hD6 hD3 X3 M3 hF3 hP3 B3 bd HBD
  have lM : M < w7.heap.size := by omega
  have lN : w.heap.size < w7.heap.size := by omega
  have HW : Hid (WSt w w7 w.heap.size M a1 n1 c1 b1' m1 d1 fs ps cp fu de (some ⟨g, 0, none⟩) 128 128 bs6) := ws
  obtain ⟨z0, z1, z2, z3, z4⟩ := box_fiveC ws.hd
  obtain ⟨y0, y1, y2, y3, y4⟩ := box_fiveC ws.rs
  have yf := box_thawC ws.rs
  have HX5 : Hid ((put5C w7 w.heap.size (.slice a1 n1 c1) (.slice b1' m1 d1) (.int .i64 cp) (.int .i64 fu) (.bool de)).heap[w.heap.size]? = some (.cells #[.slice a1 n1 c1, .slice b1' m1 d1, .int .i64 cp, .int .i64 fu, .bool de] 26)) := put5C_box ws.rs (.slice a1 n1 c1) (.slice b1' m1 d1) (.int .i64 cp) (.int .i64 fu) (.bool de)
  clear ws
  have hpg' : (-1 : Int) ≤ (pg : Int) ∧ (pg : Int) ≤ 3 := ⟨by omega, by omega⟩
  by_cases k0 : k = 0
  · subst k0
    have HB : Hid (DrawnW w (.returned (.tuple #[.agg #[.slice a1 n1 c1, .slice b1' m1 d1, .int .i64 cp, .int .i64 fu, .bool de], .string ⟨#[108, 111, 110, 103, 110, 97, 109, 101, 115]⟩, .int .i64 (pg : Int), .slice (some ⟨g, 0, none⟩) 128 128])) (put5C w7 w.heap.size (.slice a1 n1 c1) (.slice b1' m1 d1) (.int .i64 cp) (.int .i64 fu) (.bool de))) := HW.out.done (by decide) hpg' (by omega)
    go_wp2_with fail
    show bodyPost _ _ _ _ _ (put5C w7 w.heap.size (.slice a1 n1 c1) (.slice b1' m1 d1) (.int .i64 cp) (.int .i64 fu) (.bool de))
    clear z0 z1 z2 z3 z4 y0 y1 y2 y3 y4 yf
    obtain ⟨z0, z1, z2, z3, z4⟩ := box_fiveC HX5.out
    exact bodyPost_ret (v := .tuple #[.agg #[.slice a1 n1 c1, .slice b1' m1 d1, .int .i64 cp, .int .i64 fu, .bool de], .string ⟨#[108, 111, 110, 103, 110, 97, 109, 101, 115]⟩, .int .i64 (pg : Int), .slice (some ⟨g, 0, none⟩) 128 128]) (by simp [results, Try.results6, go_sem, z0, z1, z2, z3, z4]) rfl HB.out
  by_cases k1 : k = 1
  · subst k1
    have HB : Hid (DrawnW w (.returned (.tuple #[.agg #[.slice a1 n1 c1, .slice b1' m1 d1, .int .i64 cp, .int .i64 fu, .bool de], .string nm, .int .i64 (pg : Int), .slice (some ⟨g, 1, none⟩) 127 127])) (put5C w7 w.heap.size (.slice a1 n1 c1) (.slice b1' m1 d1) (.int .i64 cp) (.int .i64 fu) (.bool de))) := (HW.out.bytes HW.out.byt.tail).done (by omega) hpg' (by omega)
    go_wp2_with fail
    show bodyPost _ _ _ _ _ (put5C w7 w.heap.size (.slice a1 n1 c1) (.slice b1' m1 d1) (.int .i64 cp) (.int .i64 fu) (.bool de))
    clear z0 z1 z2 z3 z4 y0 y1 y2 y3 y4 yf
    obtain ⟨z0, z1, z2, z3, z4⟩ := box_fiveC HX5.out
    exact bodyPost_ret (v := .tuple #[.agg #[.slice a1 n1 c1, .slice b1' m1 d1, .int .i64 cp, .int .i64 fu, .bool de], .string nm, .int .i64 (pg : Int), .slice (some ⟨g, 1, none⟩) 127 127]) (by simp [results, Try.results6, go_sem, z0, z1, z2, z3, z4]) rfl HB.out
  by_cases k2 : k = 2
  · subst k2
    have HB : Hid (DrawnW w (.returned (.tuple #[.agg #[.slice a1 n1 c1, .slice b1' m1 d1, .int .i64 cp, .int .i64 fu, .bool de], .string nm, .int .i64 (-1), .slice (some ⟨g, 0, none⟩) 128 128])) (put5C w7 w.heap.size (.slice a1 n1 c1) (.slice b1' m1 d1) (.int .i64 cp) (.int .i64 fu) (.bool de))) := HW.out.done (by omega) (by omega) (by omega)
    go_wp2_with fail
    show bodyPost _ _ _ _ _ (put5C w7 w.heap.size (.slice a1 n1 c1) (.slice b1' m1 d1) (.int .i64 cp) (.int .i64 fu) (.bool de))
    clear z0 z1 z2 z3 z4 y0 y1 y2 y3 y4 yf
    obtain ⟨z0, z1, z2, z3, z4⟩ := box_fiveC HX5.out
    exact bodyPost_ret (v := .tuple #[.agg #[.slice a1 n1 c1, .slice b1' m1 d1, .int .i64 cp, .int .i64 fu, .bool de], .string nm, .int .i64 (-1), .slice (some ⟨g, 0, none⟩) 128 128]) (by simp [results, Try.results6, go_sem, z0, z1, z2, z3, z4]) rfl HB.out
  by_cases k3 : k = 3
  · subst k3
    go_wp2_with fail
    refine (l1SeenB_any a1 n1 c1 fs b1' m1 d1 ps cp fu de w7 (w.heap.size + 1) M (by omega) HW.out.fil HW.out.pen HW.out.bd.1 HW.out.bd.2.1 HW.out.bd.2.2.1 HW.out.bd.2.2.2).mono ?_
    rintro e w8 ⟨v, xs, vs, rfl, hO8, ht8, hb8⟩
    obtain ⟨va, _, vc, rfl, rfl, hF8⟩ := hO8.files
    go_wp2_with fail
    refine (l1Total_any va (lastF ps fs).length vc (lastF ps fs) w8 _ _ hF8 ht8).mono ?_
    rintro e w9 ⟨rfl, e9⟩
    subst e9
    have H8 : Hid (WSt w (w9.setCell ⟨M, 2, none⟩ (.int .i64 (totalI (lastF ps fs)))) w.heap.size M a1 n1 c1 b1' m1 d1 fs ps (totalI (lastF ps fs)) fu de (some ⟨g, 0, none⟩) 128 128 bs6) := HW.out.cap hb8 ⟨(totalI_bd _).1, ht8⟩
    have HB : Hid (DrawnW w (.returned (.tuple #[.agg #[.slice a1 n1 c1, .slice b1' m1 d1, .int .i64 (totalI (lastF ps fs)), .int .i64 fu, .bool de], .string nm, .int .i64 (pg : Int), .slice (some ⟨g, 0, none⟩) 128 128])) (put5C (w9.setCell ⟨M, 2, none⟩ (.int .i64 (totalI (lastF ps fs)))) w.heap.size (.slice a1 n1 c1) (.slice b1' m1 d1) (.int .i64 (totalI (lastF ps fs))) (.int .i64 fu) (.bool de))) := H8.out.done (by omega) hpg' (by omega)
    have X8 := box_below HW.out.hd hb8
    have R8 := box_below HW.out.rs hb8
    have s8 := hb8.size
    have lM8 : M < w9.heap.size := by omega
    have lN8 : w.heap.size < w9.heap.size := by omega
    have nMN : ¬ M = w.heap.size := by omega
    have nNM : ¬ w.heap.size = M := by omega
    clear z0 z1 z2 z3 z4 y0 y1 y2 y3 y4 yf HX5
    obtain ⟨z0, z1, z2, z3, z4⟩ := box_fiveC X8
    have zf := box_thawC X8
    obtain ⟨y0, y1, y2, y3, y4⟩ := box_fiveC R8
    have yf := box_thawC R8
    clear X8 R8 hO8 hF8 hb8 lM lN
    go_wp2_with fail
    show bodyPost _ _ _ _ _ (put5C (w9.setCell ⟨M, 2, none⟩ (.int .i64 (totalI (lastF ps fs)))) w.heap.size (.slice a1 n1 c1) (.slice b1' m1 d1) (.int .i64 (totalI (lastF ps fs))) (.int .i64 fu) (.bool de))
    clear z0 z1 z2 z3 z4 y0 y1 y2 y3 y4 yf zf
    obtain ⟨z0, z1, z2, z3, z4⟩ := box_fiveC (put5C_box H8.out.rs (.slice a1 n1 c1) (.slice b1' m1 d1) (.int .i64 (totalI (lastF ps fs))) (.int .i64 fu) (.bool de))
    exact bodyPost_ret (v := .tuple #[.agg #[.slice a1 n1 c1, .slice b1' m1 d1, .int .i64 (totalI (lastF ps fs)), .int .i64 fu, .bool de], .string nm, .int .i64 (pg : Int), .slice (some ⟨g, 0, none⟩) 128 128]) (by simp [results, Try.results6, go_sem, z0, z1, z2, z3, z4]) rfl HB.out
  · have q0 : ((k : Int) == 0) = false := by simp; omega
    have q1 : ((k : Int) == 1) = false := by simp; omega
    have q2 : ((k : Int) == 2) = false := by simp; omega
    have q3 : ((k : Int) == 3) = false := by simp; omega
    have HB : Hid (DrawnW w (.returned (.tuple #[.agg #[.slice a1 n1 c1, .slice b1' m1 d1, .int .i64 cp, .int .i64 fu, .bool de], .string nm, .int .i64 (pg : Int), .slice (some ⟨g, 0, none⟩) 128 128])) (put5C w7 w.heap.size (.slice a1 n1 c1) (.slice b1' m1 d1) (.int .i64 cp) (.int .i64 fu) (.bool de))) := HW.out.done (by omega) hpg' (by omega)
    go_wp2_with fail
    show bodyPost _ _ _ _ _ (put5C w7 w.heap.size (.slice a1 n1 c1) (.slice b1' m1 d1) (.int .i64 cp) (.int .i64 fu) (.bool de))
    clear z0 z1 z2 z3 z4 y0 y1 y2 y3 y4 yf
    obtain ⟨z0, z1, z2, z3, z4⟩ := box_fiveC HX5.out
    exact bodyPost_ret (v := .tuple #[.agg #[.slice a1 n1 c1, .slice b1' m1 d1, .int .i64 cp, .int .i64 fu, .bool de], .string nm, .int .i64 (pg : Int), .slice (some ⟨g, 0, none⟩) 128 128]) (by simp [results, Try.results6, go_sem, z0, z1, z2, z3, z4]) rfl HB.out
end Go.Proofs.Ytakdaandbdbdnaa
namespace Go.Proofs.Ytakdaandbdbdnaa
open Go.RowKit
set_option linter.unusedVariables false
set_option maxRecDepth 100000

set_option maxHeartbeats 400000 in
/-- markByteS at bytes of one's own, whatever type their block bears. -/
theorem markByteT_any (ty : TypeId) (a : Option Addr) (n c k base : Nat) (xs : List Value) (w : World) (h : w.ownsRow base ty 1 (.slice a n c) n xs) (hk : k + n ≤ 1099511627776) :
    Calls Try.prog 93 #[.slice a n c, .int .i64 k] w fun e w' => e = .returned (.int .i64 ((k + n : Nat) : Int)) ∧ (w'.ownsRow base ty 1 (.slice a n c) n (u8s (marks k n)) ∧ w.grownBy w' (Value.slice a n c).ownBlock) := by
  go_enter Try.func93, Try.ntmps93
  go_wp2
  go_loopw [1, 5] (fun kv i wr => ∃ (j : Nat) (ys : List Value), j ≤ n ∧ i = .int .i64 j ∧ kv = .int .i64 ((k + j : Nat) : Int) ∧ wr.ownsRow base ty 1 (.slice a n c) n ys ∧ Hid (∀ i, i < j → ys[i]? = some (.int .u8 (((k + i : Nat) : Int) % 256))) ∧ w.grownBy wr (Value.slice a n c).ownBlock) (fun _ i _ => n - (intOf i).toNat)
  case atStart => exact ⟨0, xs, Nat.zero_le _, rfl, rfl, h, fun i hi => absurd hi (Nat.not_lt_zero _), grown_refl _ _⟩
  case round =>
    clear h
    obtain ⟨j, ys, hj, rfl, rfl, hown, hys, hgr⟩ := hrel
    by_cases hlt : j < n
    · obtain ⟨g, rfl⟩ : ∃ g, a = some ⟨g, 0, none⟩ := by
        rcases hown.2 with ⟨_, h0⟩ | ⟨g, cap, cur, h0, _⟩
        · omega
        · injection h0 with h1; exact ⟨g, h1⟩
      have hf := hown.frozenAt j
      have hxl := hown.1
      obtain ⟨u, hu⟩ : ∃ u, wr.cell? ⟨g, j, none⟩ = some u := ⟨ys[j]'(by omega), by rw [hown.cellAt j (by omega)]; exact List.getElem?_eq_getElem _⟩
      obtain ⟨R1, R2⟩ := hown.stored j (.int .u8 (((k : Int) + (j : Int)) % 256))
      have HY : Hid (∀ i, i < j + 1 → (ys.set j (.int .u8 (((k : Int) + (j : Int)) % 256)))[i]? = some (.int .u8 (((k + i : Nat) : Int) % 256))) := by
        intro i hi
        by_cases hij : i = j
        · subst hij; rw [List.getElem?_set_self (by omega)]; simp
        · rw [List.getElem?_set_ne (by omega)]; exact hys.out i (by omega)
      have hgr2 : w.grownBy (wr.setCell ⟨g, j, none⟩ (.int .u8 (((k : Int) + (j : Int)) % 256))) (Value.slice (some ⟨g, 0, none⟩) n c).ownBlock := grown_trans hgr R2
      clear hown R2 hgr
      go_wp2
      go_roundw
      case rel => exact ⟨j + 1, _, by omega, by go_num, by go_num, R1, HY, hgr2⟩
      case measure => simp [intOf]; omega
    · obtain rfl : j = n := by omega
      have HR : Hid (wr.ownsRow base ty 1 (.slice a j c) j (u8s (marks k j))) := by
        have hxl := hown.1
        have e : ys = u8s (marks k j) := by
          apply List.ext_getElem?
          intro i
          by_cases hi : i < j
          · rw [hys.out i hi]; simp [u8s, marks, hi]
          · rw [List.getElem?_eq_none (by omega), List.getElem?_eq_none (by simp [u8s, marks]; omega)]
        rw [← e]; exact hown
      go_wp2
      go_ret
      exact ⟨rfl, HR.out, hgr⟩
end Go.Proofs.Ytakdaandbdbdnaa
namespace Go.Proofs.Ytakdaandbdbdnaa
open Go.RowKit
set_option linter.unusedVariables false
set_option maxRecDepth 100000

theorem own_to {w w' : World} {base e size : Nat} {v : Value} {n : Nat} {xs : List Value} (h : w.ownsRow base e size v n xs) (hb : ∀ g, v.ownBlock = some g → w'.heap[g]? = w.heap[g]?) : w'.ownsRow base e size v n xs := by
  obtain ⟨h1, h2⟩ := h
  refine ⟨h1, ?_⟩
  rcases h2 with h3 | ⟨g, cap, cur, rfl, h4, h5, h6⟩
  · exact .inl h3
  · exact .inr ⟨g, cap, cur, rfl, h4, (hb g rfl).trans h5, h6⟩
/-- Bytes of one's own, in the blocks from lo to hi. -/
structure RowZ (w : World) (lo hi : Nat) (a : Option Addr) (n c : Nat) (bs : List Int) : Prop where
  row : ∃ ty, w.ownsRow lo ty 1 (.slice a n c) n (u8s bs)
  top : ∀ x, a = some x → x.block < hi
  bys : ∀ x ∈ bs, 0 ≤ x ∧ x ≤ 255
theorem RowZ.mk' {w : World} {lo ty n c : Nat} {a : Option Addr} {bs : List Int} (h : w.ownsRow lo ty 1 (.slice a n c) n (u8s bs)) (hb : ∀ x ∈ bs, 0 ≤ x ∧ x ≤ 255) : RowZ w lo w.heap.size a n c bs :=
  ⟨⟨ty, h⟩, fun x e => by subst e; exact (h.lt _ rfl).2, hb⟩
theorem RowZ.fr {S : Nat → Prop} {w w' : World} {lo hi n c : Nat} {a : Option Addr} {bs : List Int} (h : RowZ w lo hi a n c bs) (hf : Fr S w w') (hS : ∀ g, S g → g < lo ∨ hi ≤ g) : RowZ w' lo hi a n c bs := by
  obtain ⟨⟨ty, h1⟩, h2, h3⟩ := h
  refine ⟨⟨ty, own_to h1 (fun g hg => ?_)⟩, h2, h3⟩
  have h4 := h1.lt g hg
  cases a with
  | none => cases hg
  | some x =>
    have h5 : x.block = g := by simpa [Value.ownBlock] using hg
    have h6 := h2 x rfl
    exact hf.block g h4.2 (fun e => by have := hS g e; omega)
theorem RowZ.below {w w' : World} {lo hi n c : Nat} {a : Option Addr} {bs : List Int} (h : RowZ w lo hi a n c bs) (hb : Below w.heap.size w w') : RowZ w' lo hi a n c bs := h.fr (Fr.of_below (S := fun _ => False) hb) (fun g e => e.elim)
theorem RowZ.bytes {w : World} {lo hi n c : Nat} {a : Option Addr} {bs : List Int} (h : RowZ w lo hi a n c bs) : BytesAt w lo w.heap.size a n c bs := by
  obtain ⟨⟨ty, h1⟩, h2, h3⟩ := h
  have hl : bs.length = n := by have := h1.1; simpa [u8s] using this
  rcases h1.2 with ⟨e, rfl⟩ | ⟨g, cap, cur, e, _⟩
  · simp only [Value.slice.injEq] at e
    obtain ⟨rfl, _, rfl⟩ := e
    exact ⟨hl, Nat.le_refl _, by unfold maxLen; omega, h3, fun h => absurd h (Nat.lt_irrefl _), fun _ => rfl⟩
  · have e2 := e
    simp only [Value.slice.injEq] at e2
    obtain ⟨rfl, _, rfl⟩ := e2
    refine bytes_of_owns h1 hl (fun j hj => ?_) h3
    simp [u8s, List.getD, List.getElem?_eq_getElem (show j < bs.length by omega)]
theorem markByteS_z (a : Option Addr) (n c k lo hi : Nat) (bs : List Int) (w : World) (h : RowZ w lo hi a n c bs) (hk : k + n ≤ 1099511627776) :
    Calls Try.prog 93 #[.slice a n c, .int .i64 k] w fun e w' => e = .returned (.int .i64 ((k + n : Nat) : Int)) ∧ RowZ w' lo hi a n c (marks k n) ∧ Fr (fun g => lo ≤ g ∧ g < hi) w w' := by
  obtain ⟨⟨ty, h1⟩, h2, h3⟩ := h
  refine (markByteT_any ty a n c k lo _ w h1 hk).mono ?_
  rintro e w' ⟨rfl, hO, hg⟩
  refine ⟨rfl, ⟨⟨ty, hO⟩, h2, marks_byte k n⟩, hg.os, hg.tape, hg.output, hg.size, fun g hl hS => hg.block g hl (fun e => ?_)⟩
  have h4 := h1.lt g e.symm
  cases a with
  | none => cases e
  | some x =>
    have h5 : g = x.block := by simpa [Value.ownBlock] using e
    have h6 := h2 x rfl
    exact hS ⟨h4.1, by omega⟩
theorem eqByteS_z (a : Option Addr) (n c : Nat) (a2 : Option Addr) (c2 : Nat) (bs : List Int) (w : World) (lo hi lo2 hi2 : Nat) (h : RowZ w lo hi a n c bs) (k : RowZ w lo2 hi2 a2 n c2 bs) :
    Calls Try.prog 106 #[.slice a n c, .slice a2 n c2] w fun e w' => e = .returned (.bool true) ∧ Below w.heap.size w w' := by
  refine (eqByteS_same a n c a2 c2 bs w _ _ _ _ h.bytes k.bytes).mono ?_
  rintro e w' ⟨rfl, m, rfl⟩
  exact ⟨rfl, rfl, rfl, rfl, Nat.le_refl _, fun _ _ => rfl⟩
end Go.Proofs.Ytakdaandbdbdnaa
namespace Go.Proofs.Ytakdaandbdbdnaa
open Go.RowKit
set_option linter.unusedVariables false
set_option maxRecDepth 100000

def bls (ks : List Bool) : List Value := ks.map Value.bool
theorem info_bool : (Try.prog.info? 4).map (fun i => (i.zero, i.size, i.bytes)) = some (some (.bool false), 1, 1) := by kernel_rfl
/-- The choices behind a slice. -/
def BoolsAt (w : World) (A B : Nat) (a : Option Addr) (n c : Nat) (ks : List Bool) : Prop :=
  ks.length = n ∧ n ≤ c ∧ c ≤ maxLen ∧ (0 < n → ∃ b off, a = some ⟨b, off, none⟩ ∧ (A ≤ b ∧ b < B) ∧ ∀ i, i < n → w.cell? ⟨b, off + i, none⟩ = some (.bool (ks.getD i false)))
theorem BoolsAt.keep {w w' : World} {A B : Nat} {a : Option Addr} {n c : Nat} {ks : List Bool} (h : BoolsAt w A B a n c ks) (hk : Keeps A B w w') : BoolsAt w' A B a n c ks := by
  obtain ⟨h1, h2, h3, h5⟩ := h
  refine ⟨h1, h2, h3, fun hn => ?_⟩
  obtain ⟨b, off, rfl, hlt, hc⟩ := h5 hn
  exact ⟨b, off, rfl, hlt, fun i hi => (hk.cell hlt.1 hlt.2).trans (hc i hi)⟩
theorem BoolsAt.below {w w' : World} {A B : Nat} {a : Option Addr} {n c : Nat} {ks : List Bool} (h : BoolsAt w A B a n c ks) (hb : Below B w w') : BoolsAt w' A B a n c ks := h.keep (.of_below hb)
/-- Choices of one's own, in the blocks from lo to hi. -/
structure RowB (w : World) (lo hi : Nat) (a : Option Addr) (n c : Nat) (ks : List Bool) : Prop where
  row : w.ownsRow lo 4 1 (.slice a n c) n (bls ks)
  top : ∀ x, a = some x → x.block < hi
theorem RowB.mk' {w : World} {lo n c : Nat} {a : Option Addr} {ks : List Bool} (h : w.ownsRow lo 4 1 (.slice a n c) n (bls ks)) : RowB w lo w.heap.size a n c ks :=
  ⟨h, fun x e => by subst e; exact (h.lt _ rfl).2⟩
theorem RowB.fr {S : Nat → Prop} {w w' : World} {lo hi n c : Nat} {a : Option Addr} {ks : List Bool} (h : RowB w lo hi a n c ks) (hf : Fr S w w') (hS : ∀ g, S g → g < lo ∨ hi ≤ g) : RowB w' lo hi a n c ks := by
  obtain ⟨h1, h2⟩ := h
  refine ⟨own_to h1 (fun g hg => ?_), h2⟩
  have h4 := h1.lt g hg
  cases a with
  | none => cases hg
  | some x =>
    have h5 : x.block = g := by simpa [Value.ownBlock] using hg
    have h6 := h2 x rfl
    exact hf.block g h4.2 (fun e => by have := hS g e; omega)
theorem RowB.below {w w' : World} {lo hi n c : Nat} {a : Option Addr} {ks : List Bool} (h : RowB w lo hi a n c ks) (hb : Below w.heap.size w w') : RowB w' lo hi a n c ks := h.fr (Fr.of_below (S := fun _ => False) hb) (fun g e => e.elim)
theorem RowB.bools {w : World} {lo hi n c : Nat} {a : Option Addr} {ks : List Bool} (h : RowB w lo hi a n c ks) : BoolsAt w lo w.heap.size a n c ks := by
  obtain ⟨h1, h2⟩ := h
  have hl : ks.length = n := by have := h1.1; simpa [bls] using this
  rcases h1.2 with ⟨e, rfl⟩ | ⟨g, cap, cur, e, hb, hg, k1, k2, _⟩
  · simp only [Value.slice.injEq] at e
    obtain ⟨rfl, _, rfl⟩ := e
    exact ⟨hl, Nat.le_refl _, by unfold maxLen; omega, fun h => absurd h (Nat.lt_irrefl _)⟩
  · simp only [Value.slice.injEq] at e
    obtain ⟨rfl, _, rfl⟩ := e
    refine ⟨hl, k1, k2, fun hn => ⟨g, 0, rfl, h1.lt g rfl, fun i hi => ?_⟩⟩
    rw [Nat.zero_add, h1.cellAt i (by omega)]
    simp [bls, List.getD, List.getElem?_eq_getElem (show i < ks.length by omega)]
set_option maxHeartbeats 400000 in
theorem szBoolS_any (a : Option Addr) (n c : Nat) (left : Int) (w : World) (h0 : 0 ≤ left) (h1 : left ≤ 1048576) (hn : n ≤ maxLen) :
    Calls Try.prog 66 #[.slice a n c, .int .i64 left] w fun e w' => ∃ r : Int, e = .returned (.int .i64 r) ∧ (-1 ≤ r ∧ r ≤ left ∧ (0 ≤ r → r = left - n)) ∧ w' = w := by
  unfold maxLen at hn
  by_cases h : left - n < 0
  · go_enter Try.func66, Try.ntmps66
    go_wp2
    go_ret
    exact ⟨-1, rfl, ⟨by omega, by omega, by omega⟩, rfl⟩
  · go_enter Try.func66, Try.ntmps66
    go_wp2
    go_ret
    exact ⟨left - n, rfl, ⟨by omega, by omega, by omega⟩, rfl⟩
set_option maxHeartbeats 400000 in
theorem szCrash_any (a : Option Addr) (n c : Nat) (tr ta left : Int) (w : World) (h0 : 0 ≤ left) (h1 : left ≤ 1048576) (hn : n ≤ maxLen) :
    Calls Try.prog 23 #[.agg #[.slice a n c, .int .i64 tr, .int .i64 ta], .int .i64 left] w fun e w' => ∃ r : Int, e = .returned (.int .i64 r) ∧ (-1 ≤ r ∧ r ≤ left ∧ (0 ≤ r → r = left - n)) ∧ Below w.heap.size w w' := by
  go_enter Try.func23, Try.ntmps23
  go_wp2_with fail
  refine (szBoolS_any _ _ _ _ _ (by omega) (by omega) hn).mono ?_
  rintro e w1 ⟨r, rfl, hr, rfl⟩
  by_cases h2 : r < 0
  all_goals
    go_wp2
    go_ret
  · exact ⟨-1, rfl, ⟨by omega, by omega, by omega⟩, (Below.refl _ _).alloc (Nat.le_refl _) _⟩
  · exact ⟨r, rfl, ⟨by omega, by omega, by omega⟩, (Below.refl _ _).alloc (Nat.le_refl _) _⟩
set_option maxHeartbeats 400000 in
theorem toBoolS_own (a : Option Addr) (n c : Nat) (ks : List Bool) (w : World) (A B : Nat) (hB : B ≤ w.heap.size) (h : BoolsAt w A B a n c ks) (hn : n ≤ 1048576) :
    Calls Try.prog 69 #[.slice a n c] w fun e w' => ∃ g, e = .returned (.slice (some ⟨g, 0, none⟩) n n) ∧ w'.ownsRow w.heap.size 4 1 (.slice (some ⟨g, 0, none⟩) n n) n (bls ks) ∧ Below w.heap.size w w' := by
  obtain ⟨hl, hnc, hc, hcell⟩ := h
  obtain ⟨i0, hi, hz0, hz1, hz2⟩ := info_parts info_bool
  go_enter Try.func69, Try.ntmps69
  go_wp2_with (at_make; refine wpList_make_full _ rfl _ _ 32 rfl w.heap.size 4 i0 (.bool false) 1 Try.underlying32 hi hz0 hz1 .i64 .i64 n n n rfl rfl rfl rfl (by rw [hz2]; omega) (by unfold maxLen; omega) (Nat.le_refl _) ?_; intro w1 hown hgr)
  have hb1 : Below w.heap.size w w1 := (Below.refl _ _).grown hgr (Nat.le_refl _) (by simp)
  go_loopw [4] (fun i wr => ∃ k : Nat, k ≤ n ∧ i = .int .i64 k ∧ Below w.heap.size w wr ∧ ∃ xs, wr.ownsRow w.heap.size 4 1 (.slice (some ⟨w.heap.size, 0, none⟩) n n) n xs ∧ ∀ j, j < k → xs[j]? = some (.bool (ks.getD j false))) (fun i _ => n - (intOf i).toNat)
  case atStart => exact ⟨0, Nat.zero_le _, rfl, hb1, _, hown, fun j hj => absurd hj (Nat.not_lt_zero _)⟩
  case round =>
    clear hown hgr hb1
    obtain ⟨k, hk, rfl, hbel, xs, hown, hxs⟩ := hrel
    have HX : Hid (∀ j, j < k → xs[j]? = some (.bool (ks.getD j false))) := hxs
    clear hxs
    by_cases hlt : k < n
    · obtain ⟨b, off, rfl, hb, hcb⟩ := hcell (by omega)
      have e1 := (hbel.cell (p := ⟨b, off + k, none⟩) (by show b < _; omega)).trans (hcb k hlt)
      clear hcell hcb
      have hf := hown.frozenAt k
      have hxl := hown.1
      obtain ⟨u, hu⟩ : ∃ u, wr.cell? ⟨w.heap.size, k, none⟩ = some u := ⟨xs[k]'(by omega), by rw [hown.cellAt k (by omega)]; exact List.getElem?_eq_getElem _⟩
      have R := hown.stored k (.bool (ks.getD k false))
      have HR : Hid (∀ j, j < k + 1 → (xs.set k (.bool (ks.getD k false)))[j]? = some (.bool (ks.getD j false))) := by
        intro j hj
        by_cases hjk : j = k
        · subst hjk; rw [List.getElem?_set_self (by omega)]
        · rw [List.getElem?_set_ne (by omega)]; exact HX.out j (by omega)
      have hb2 := hbel.setCell (p := ⟨w.heap.size, k, none⟩) (Nat.le_refl _) (.bool (ks.getD k false))
      generalize ks.getD k false = x at e1 R HR hb2
      clear hown
      obtain ⟨R1, R2⟩ := R
      go_wp2
      go_roundw
      case rel => exact ⟨k + 1, by omega, by go_num, hb2, _, R1, HR.out⟩
      case measure => simp [intOf]; omega
    · have HO : Hid (wr.ownsRow w.heap.size 4 1 (.slice (some ⟨w.heap.size, 0, none⟩) n n) n (bls ks)) := by
        have hxl := hown.1
        have e : xs = bls ks := by
          apply List.ext_getElem?
          intro i
          by_cases hi : i < n
          · rw [HX.out i (by omega)]; simp [bls, List.getD, List.getElem?_eq_getElem (show i < ks.length by omega)]
          · rw [List.getElem?_eq_none (by omega), List.getElem?_eq_none (by simp [bls]; omega)]
        rw [← e]; exact hown
      go_wp2
      go_ret
      exact ⟨w.heap.size, rfl, HO.out, hbel⟩
set_option maxHeartbeats 400000 in
theorem eqBoolS_same (a : Option Addr) (n c : Nat) (a2 : Option Addr) (c2 : Nat) (ks : List Bool) (w : World) (A B A2 B2 : Nat) (h : BoolsAt w A B a n c ks) (k : BoolsAt w A2 B2 a2 n c2 ks) :
    Calls Try.prog 70 #[.slice a n c, .slice a2 n c2] w fun e w' => e = .returned (.bool true) ∧ ∃ m, w' = w.drewN m := by
  obtain ⟨hl, hnc, hc, hcell⟩ := h
  obtain ⟨_, _, _, kcell⟩ := k
  unfold maxLen at hc
  have hne : ((n : Int) != (n : Int)) = false := by simp
  go_enter Try.func70, Try.ntmps70
  go_wp2
  go_loopw [5] (fun i wr => ∃ k : Nat, k ≤ n ∧ i = .int .i64 k ∧ ∃ m, wr = w.drewN m) (fun i _ => n - (intOf i).toNat)
  case atStart => exact ⟨0, Nat.zero_le _, rfl, 0, rfl⟩
  case round =>
    obtain ⟨k, hk, rfl, m, rfl⟩ := hrel
    by_cases hlt : k < n
    · obtain ⟨b, off, rfl, hb, hcb⟩ := hcell (by omega)
      obtain ⟨b2, off2, rfl, hb2, hcb2⟩ := kcell (by omega)
      have e1 := hcb k hlt
      have e2 := hcb2 k hlt
      clear hcell kcell hcb hcb2
      generalize ks.getD k false = x at e1 e2
      have hx : (x != x) = false := by simp
      go_wp2
      go_quiet (fail)
      go_wp2
      go_roundw
      case rel => exact ⟨k + 1, by omega, by go_num, _, rfl⟩
      case measure => simp [intOf]; omega
    · go_wp2
      go_ret
      exact ⟨rfl, m, rfl⟩
set_option maxHeartbeats 400000 in
theorem eqCrash_same (tr ta : Int) (a : Option Addr) (n c : Nat) (a2 : Option Addr) (c2 : Nat) (ks : List Bool) (w : World) (A B A2 B2 : Nat) (hB : B ≤ w.heap.size) (hB2 : B2 ≤ w.heap.size) (h : BoolsAt w A B a n c ks) (k : BoolsAt w A2 B2 a2 n c2 ks) :
    Calls Try.prog 26 #[.agg #[.slice a n c, .int .i64 tr, .int .i64 ta], .agg #[.slice a2 n c2, .int .i64 tr, .int .i64 ta]] w fun e w' => e = .returned (.bool true) ∧ Below w.heap.size w w' := by
  have hb : ∀ m, Below w.heap.size w (((w.alloc (.cells #[.slice a n c, .int .i64 tr, .int .i64 ta] 34)).alloc (.cells #[.slice a2 n c2, .int .i64 tr, .int .i64 ta] 34)).drewN m) := fun m => (((Below.refl _ _).alloc (Nat.le_refl _) _).alloc (by simp) _).trans ⟨rfl, rfl, rfl, Nat.le_refl _, fun _ _ => rfl⟩
  have h1 : (tr != tr) = false := by simp
  have h2 : (ta != ta) = false := by simp
  go_enter Try.func26, Try.ntmps26
  go_wp2_with fail
  refine (eqBoolS_same _ _ _ _ _ ks _ A B A2 B2 (h.below ((hb 0).mono hB)) (k.below ((hb 0).mono hB2))).mono ?_
  rintro e w1 ⟨rfl, m, rfl⟩
  go_wp2_with fail
  go_ret
  exact ⟨rfl, hb _⟩
def markB (k n : Nat) : List Bool := (List.range n).map fun i => decide ((k + i) % 3 = 0)
set_option maxHeartbeats 400000 in
theorem markBoolS_any (a : Option Addr) (n c k base : Nat) (xs : List Value) (w : World) (h : w.ownsRow base 4 1 (.slice a n c) n xs) (hk : k + n ≤ 1099511627776) :
    Calls Try.prog 71 #[.slice a n c, .int .i64 k] w fun e w' => e = .returned (.int .i64 ((k + n : Nat) : Int)) ∧ w.grownBy w' (Value.slice a n c).ownBlock := by
  go_enter Try.func71, Try.ntmps71
  go_wp2
  go_loopw [1, 5] (fun kv i wr => ∃ (j : Nat) (ys : List Value), j ≤ n ∧ i = .int .i64 j ∧ kv = .int .i64 ((k + j : Nat) : Int) ∧ wr.ownsRow base 4 1 (.slice a n c) n ys ∧ w.grownBy wr (Value.slice a n c).ownBlock) (fun _ i _ => n - (intOf i).toNat)
  case atStart => exact ⟨0, xs, Nat.zero_le _, rfl, rfl, h, grown_refl _ _⟩
  case round =>
    clear h
    obtain ⟨j, ys, hj, rfl, rfl, hown, hgr⟩ := hrel
    by_cases hlt : j < n
    · obtain ⟨g, rfl⟩ : ∃ g, a = some ⟨g, 0, none⟩ := by
        rcases hown.2 with ⟨_, h0⟩ | ⟨g, cap, cur, h0, _⟩
        · omega
        · injection h0 with h1; exact ⟨g, h1⟩
      have hf := hown.frozenAt j
      have hxl := hown.1
      obtain ⟨u, hu⟩ : ∃ u, wr.cell? ⟨g, j, none⟩ = some u := ⟨ys[j]'(by omega), by rw [hown.cellAt j (by omega)]; exact List.getElem?_eq_getElem _⟩
      have HS : Hid (∀ v, (wr.setCell ⟨g, j, none⟩ (.bool v)).ownsRow base 4 1 (.slice (some ⟨g, 0, none⟩) n c) n (ys.set j (.bool v)) ∧ w.grownBy (wr.setCell ⟨g, j, none⟩ (.bool v)) (Value.slice (some ⟨g, 0, none⟩) n c).ownBlock) := fun v => by
        obtain ⟨R1, R2⟩ := hown.stored j (.bool v)
        exact ⟨R1, grown_trans hgr R2⟩
      clear hown hgr
      go_wp2
      go_roundw
      case rel => exact ⟨j + 1, _, by omega, by go_num, by go_num, (HS.out _).1, (HS.out _).2⟩
      case measure => simp [intOf]; omega
    · obtain rfl : j = n := by omega
      go_wp2
      go_ret
      exact ⟨rfl, hgr⟩
set_option maxHeartbeats 400000 in
theorem markCrash_z (tr ta : Int) (a : Option Addr) (n c k lo hi : Nat) (ks : List Bool) (w : World) (h : RowB w lo hi a n c ks) (hk : k + n ≤ 1099511627776) :
    Calls Try.prog 27 #[.agg #[.slice a n c, .int .i64 tr, .int .i64 ta], .int .i64 k] w fun e w' => e = .returned (.int .i64 ((k + n : Nat) : Int)) ∧ Fr (fun g => lo ≤ g ∧ g < hi) w w' := by
  have hal : Below w.heap.size w (w.alloc (.cells #[.slice a n c, .int .i64 tr, .int .i64 ta] 34)) := (Below.refl _ _).alloc (Nat.le_refl _) _
  have h1 := (h.below hal).row
  have h2 := h.top
  clear h
  go_enter Try.func27, Try.ntmps27
  go_wp2_with fail
  refine (markBoolS_any a n c k lo _ _ h1 hk).mono ?_
  rintro e w1 ⟨rfl, hg⟩
  have HF : Hid (Fr (fun g => lo ≤ g ∧ g < hi) w w1) := by
    refine (Fr.of_below hal).trans ⟨hg.os, hg.tape, hg.output, hg.size, fun g hl hS => hg.block g hl (fun e => ?_)⟩
    have h4 := h1.lt g e.symm
    cases a with
    | none => cases e
    | some x =>
      have h5 : g = x.block := by simpa [Value.ownBlock] using e
      have h6 := h2 x rfl
      exact hS ⟨h4.1, by omega⟩
  clear hg h1 h2 hal
  go_wp2
  go_ret
  exact ⟨rfl, HF.out⟩
set_option maxHeartbeats 400000 in
theorem toCrash_own (tr ta : Int) (a : Option Addr) (n c : Nat) (ks : List Bool) (w : World) (A B : Nat) (hB : B ≤ w.heap.size) (h : BoolsAt w A B a n c ks) (hn : n ≤ 1048576) :
    Calls Try.prog 25 #[.agg #[.slice a n c, .int .i64 tr, .int .i64 ta]] w fun e w' => ∃ g, e = .returned (.agg #[.slice (some ⟨g, 0, none⟩) n n, .int .i64 tr, .int .i64 ta]) ∧ RowB w' w.heap.size w'.heap.size (some ⟨g, 0, none⟩) n n ks ∧ Below w.heap.size w w' := by
  go_enter Try.func25, Try.ntmps25
  go_wp2_with fail
  have hb0 : Below w.heap.size w (((w.alloc (.cells #[.slice a n c, .int .i64 tr, .int .i64 ta] 52)).alloc (.cells #[.slice none 0 0, .int .i64 0, .int .i64 0] 34)).alloc (.cells #[.slice none 0 0, .int .i64 0, .int .i64 0] 34)) := (((Below.refl _ _).alloc (Nat.le_refl _) _).alloc (by simp) _).alloc (by simp; omega) _
  refine (toBoolS_own _ _ _ ks _ A B (by simp; omega) (h.below (hb0.mono hB)) hn).mono ?_
  rintro e w1 ⟨g, rfl, hO1, hb1⟩
  have hz := hb1.size
  simp at hz
  have hg := (hO1.lt g rfl).1
  simp at hg
  have hz1 : w.heap.size < w1.heap.size := by omega
  have hz2 : w.heap.size + 1 < w1.heap.size := by omega
  have hz3 : w.heap.size + 1 + 1 < w1.heap.size := by omega
  obtain ⟨hc1, hf1⟩ := bcell hb1
  have hb2 := hb0.trans (hb1.mono (by simp; omega))
  have hO2 := own_lowerD (b' := w.heap.size) hO1 (by simp; omega)
  have HO : Hid (w1.ownsRow w.heap.size 4 1 (.slice (some ⟨g, 0, none⟩) n n) n (bls ks)) := hO2
  clear hb1 hb0 hO1 hO2
  go_wp2
  exact bodyPost_ret (v := .agg #[.slice (some ⟨g, 0, none⟩) n n, .int .i64 tr, .int .i64 ta]) (by simp [results, Try.results25, go_sem, hc1]) rfl ⟨g, rfl, RowB.mk' (by
    refine owns_setD (owns_setD (owns_setD (owns_setD (owns_setD (owns_setD HO.out (p := ⟨w.heap.size + 1 + 1, 0, none⟩) (fun k e => ?_) _) (p := ⟨w.heap.size + 1 + 1, 1, none⟩) (fun k e => ?_) _) (p := ⟨w.heap.size + 1 + 1, 2, none⟩) (fun k e => ?_) _) (p := ⟨w.heap.size + 1, 0, none⟩) (fun k e => ?_) _) (p := ⟨w.heap.size + 1, 1, none⟩) (fun k e => ?_) _) (p := ⟨w.heap.size + 1, 2, none⟩) (fun k e => ?_) _ <;> (simp [Value.ownBlock] at e; simp; omega)),
    (((((hb2.setCell (by simp; omega) _).setCell (by simp; omega) _).setCell (by simp; omega) _).setCell (by simp) _).setCell (by simp) _).setCell (by simp) _⟩
end Go.Proofs.Ytakdaandbdbdnaa
