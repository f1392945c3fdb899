import Derived.Test.YtakdaandbdbdnaaGAA
import Derived.Test.YtakdaandbdbdnaaGAL
import Derived.Test.YtakdaandbdbdnaaGAM
import Derived.Test.YtakdaandbdbdnaaGAN
import Derived.Test.YtakdaandbdbdnaaSd2
namespace Go.Proofs.Ytakdaandbdbdnaa
open Go.RowKit
set_option linter.unusedVariables false
set_option linter.unusedSimpArgs false
set_option maxRecDepth 100000
set_option maxHeartbeats 3200000 in
theorem l1AnyDisk_any (C A B : Nat) (w : World) (h : DCur w C A B) :
  Calls Try.prog 30 #[.pointer (some ⟨C, 0, none⟩)] w fun e w' => BndD w e w' w.heap.size C A B := by
 have hCl := h.lt
 have hal : Below w.heap.size w (w.alloc (.cells #[.slice none 0 0, .slice none 0 0, .int .i64 0, .int .i64 0, .bool false] 26)) := (Below.refl _ _).alloc (Nat.le_refl _) _
 have X0 := heap_alloc_new w (.cells #[.slice none 0 0, .slice none 0 0, .int .i64 0, .int .i64 0, .bool false] 26)
 have hD0 := h.below hal
 have s0 : (w.alloc (.cells #[.slice none 0 0, .slice none 0 0, .int .i64 0, .int .i64 0, .bool false] 26)).heap.size = w.heap.size + 1 := by simp
 clear h
 go_enter Try.func30, Try.ntmps30
 go_wp2_with fail
 generalize w.alloc (.cells #[.slice none 0 0, .slice none 0 0, .int .i64 0, .int .i64 0, .bool false] 26) = W0 at hal X0 hD0 s0 ⊢
 refine (l1DrawDisk_any C A B W0 hD0).mono ?_
 rintro e w1 hDr
 obtain ⟨a, c, b, d, fs, ps, cp, fu, rfl, hO1, hv1, hfu1, hp1, hD1, hF1⟩ := hDr.ex
 have s1 := hF1.size
 have X1 := box_fr X0 hF1 (by omega)
 have F1 : Fr (fun g => g = C) w w1 := (Fr.of_below hal).trans hF1
 have hBD := bd_of hv1 hfu1 hp1
 have hnf := (val_bounds hv1).1
 have hal2 := (Below.refl w1.heap.size w1).alloc (Nat.le_refl _) (.cells #[.slice a fs.length c, .slice b ps.length d, .int .i64 cp, .int .i64 fu, .bool false] 26)
 have X2 : (w1.alloc (.cells #[.slice a fs.length c, .slice b ps.length d, .int .i64 cp, .int .i64 fu, .bool false] 26)).heap[w.heap.size]? = some (.cells #[.slice none 0 0, .slice none 0 0, .int .i64 0, .int .i64 0, .bool false] 26) := box_below X1 hal2
 have M2 := heap_alloc_new w1 (.cells #[.slice a fs.length c, .slice b ps.length d, .int .i64 cp, .int .i64 fu, .bool false] 26)
 have hO2 := hO1.below hal2
 have hD2 := hD1.below hal2
 have F2 : Fr (fun g => g = C) w (w1.alloc (.cells #[.slice a fs.length c, .slice b ps.length d, .int .i64 cp, .int .i64 fu, .bool false] 26)) := F1.trans (Fr.of_below hal2)
 have s2 : (w1.alloc (.cells #[.slice a fs.length c, .slice b ps.length d, .int .i64 cp, .int .i64 fu, .bool false] 26)).heap.size = w1.heap.size + 1 := by simp
 have HBD : Hid (BD fs ps cp fu ∧ fs.length ≤ 12 ∧ ps.length ≤ 8) := ⟨hBD, hnf, hp1⟩
 clear hDr hO1 hv1 hp1 hD1 hF1 X1 X0 F1 hal hal2 hBD hnf hD0 hfu1
 go_wp2_with fail
 generalize w1.alloc (.cells #[.slice a fs.length c, .slice b ps.length d, .int .i64 cp, .int .i64 fu, .bool false] 26) = W2 at X2 M2 hO2 hD2 F2 s2 ⊢
 generalize w1.heap.size = M at M2 hO2 s1 s2 ⊢
 refine (l1Once_any C A B W2 hD2 10 (by omega) (by omega)).mono ?_
 rintro e w3 ⟨bo, rfl, hD3, hF3⟩
 have s3 := hF3.size
 have X3 := box_fr X2 hF3 (by omega)
 have M3 := box_fr M2 hF3 (by omega)
 have O3 := hO2.fr hF3 (fun g e => .inl (by omega))
 have F3 : Fr (fun g => g = C) w w3 := F2.trans hF3
 clear X2 M2 hO2 hD2 F2 hF3
 obtain ⟨z0, z1, z2, z3, z4⟩ := box_fiveC M3
 have lM : M < w3.heap.size := by omega
 have lN : w.heap.size < w3.heap.size := by omega
 cases bo
 ·obtain ⟨y0, y1, y2, y3, y4⟩ := box_fiveC X3
  have yf := box_thawC X3
  have hf := put5C_fr w3 w.heap.size (.slice a fs.length c) (.slice b ps.length d) (.int .i64 cp) (.int .i64 fu) (.bool false)
  have X5 := put5C_box X3 (.slice a fs.length c) (.slice b ps.length d) (.int .i64 cp) (.int .i64 fu) (.bool false)
  have O5 := O3.fr hf (fun g e => .inl (by omega))
  have HB : Hid (BndD w (.returned (.agg #[.slice a fs.length c, .slice b ps.length d, .int .i64 cp, .int .i64 fu, .bool false])) (put5C w3 w.heap.size (.slice a fs.length c) (.slice b ps.length d) (.int .i64 cp) (.int .i64 fu) (.bool false)) w.heap.size C A B) := ⟨⟨a, fs.length, c, b, ps.length, d, fs, ps, cp, fu, false, rfl, O5.files.up (by omega) (Nat.le_refl _), O5.pends.up (by omega) (Nat.le_refl _), HBD.out.1, hD3.belowN (hf.below (B := w.heap.size) (by omega) (fun g e => by omega)) (by omega), (F3.weak (fun g e => .inl e)).trans (hf.weak (fun g e => .inr (by omega)))⟩⟩
  have HX5 : Hid _ := X5
  clear hf X5 O5 O3 F3 hD3
  go_wp2_with fail
  show bodyPost _ _ _ _ _ (put5C w3 w.heap.size (.slice a fs.length c) (.slice b ps.length d) (.int .i64 cp) (.int .i64 fu) (.bool false))
  clear z0 z1 z2 z3 z4 y0 y1 y2 y3 y4 yf
  obtain ⟨z0, z1, z2, z3, z4⟩ := box_fiveC HX5.out
  exact bodyPost_ret (v := .agg #[.slice a fs.length c, .slice b ps.length d, .int .i64 cp, .int .i64 fu, .bool false]) (by simp [results, Try.results30, go_sem, z0, z1, z2, z3, z4]) rfl HB.out
 ·go_wp2_with fail
  refine (l1SpoilDisk_any C A B W0.heap.size a c b d fs ps cp fu w3 hD3 (by omega) (O3.up (by omega)) HBD.out.1 HBD.out.2.1 HBD.out.2.2).mono ?_
  rintro e w4 hBn
  obtain ⟨a4, n4, c4, b4, m4, d4, fs4, ps4, cp4, fu4, de4, rfl, hF4, hP4, hBD4, hD4, hR4⟩ := hBn.ex
  have s4 := hR4.size
  have X4 := box_fr X3 hR4 (by omega)
  have lN4 : w.heap.size < w4.heap.size := by omega
  clear z0 z1 z2 z3 z4 O3 hBn
  obtain ⟨y0, y1, y2, y3, y4⟩ := box_fiveC X4
  have yf := box_thawC X4
  have hf := put5C_fr w4 w.heap.size (.slice a4 n4 c4) (.slice b4 m4 d4) (.int .i64 cp4) (.int .i64 fu4) (.bool de4)
  have X5 := put5C_box X4 (.slice a4 n4 c4) (.slice b4 m4 d4) (.int .i64 cp4) (.int .i64 fu4) (.bool de4)
  have kk : Keeps W0.heap.size w4.heap.size w4 (put5C w4 w.heap.size (.slice a4 n4 c4) (.slice b4 m4 d4) (.int .i64 cp4) (.int .i64 fu4) (.bool de4)) := fun g h1 h2 => hf.block g h2 (by omega)
  have HB : Hid (BndD w (.returned (.agg #[.slice a4 n4 c4, .slice b4 m4 d4, .int .i64 cp4, .int .i64 fu4, .bool de4])) (put5C w4 w.heap.size (.slice a4 n4 c4) (.slice b4 m4 d4) (.int .i64 cp4) (.int .i64 fu4) (.bool de4)) w.heap.size C A B) := ⟨⟨a4, n4, c4, b4, m4, d4, fs4, ps4, cp4, fu4, de4, rfl, (hF4.keep kk).up (by omega) hf.size, (hP4.keep kk).up (by omega) hf.size, hBD4, hD4.belowN (hf.below (B := w.heap.size) (by omega) (fun g e => by omega)) (by omega), ((F3.weak (fun g e => .inl e)).trans (hR4.weak (fun g e => e.elim .inl (fun h => .inr (by omega))))).trans (hf.weak (fun g e => .inr (by omega)))⟩⟩
  have HX5 : Hid _ := X5
  clear hf X5 hF4 hP4 hBD4 hD4 hR4 kk F3 hD3
  go_wp2_with fail
  show bodyPost _ _ _ _ _ (put5C w4 w.heap.size (.slice a4 n4 c4) (.slice b4 m4 d4) (.int .i64 cp4) (.int .i64 fu4) (.bool de4))
  clear y0 y1 y2 y3 y4 yf
  obtain ⟨z0, z1, z2, z3, z4⟩ := box_fiveC HX5.out
  exact bodyPost_ret (v := .agg #[.slice a4 n4 c4, .slice b4 m4 d4, .int .i64 cp4, .int .i64 fu4, .bool de4]) (by simp [results, Try.results30, go_sem, z0, z1, z2, z3, z4]) rfl HB.out
open Go.RowKit Go.Maps
set_option maxRecDepth 100000 in
set_option maxHeartbeats 2000000 in
theorem l1SeenB_any (a : Option Addr) (n c : Nat) (fs : List PF) (b : Option Addr) (m d : Nat) (ps : List PP) (cp fu : Int) (de : Bool) (w : World) (A B : Nat) (hB : B ≤ w.heap.size) (hF : FilesAt w A B a n c fs) (hP : PendsAt w A B b m d ps)
  (hn : fs.length ≤ 100) (hm : ps.length ≤ 100) (hsf : ∀ j, j < fs.length → (fs.getD j (ByteArray.empty, [])).2.length ≤ 1048576) (hsp : ∀ p ∈ ps, 0 ≤ p.2.1 ∧ p.2.1 ≤ 1000 ∧ p.2.2.length ≤ 128) :
  Calls Try.prog 35 #[.agg #[.slice a n c, .slice b m d, .int .i64 cp, .int .i64 fu, .bool de]] w fun e w' => ∃ v xs vs, e = .returned v ∧ OwnF w' (w.heap.size + 1) v (lastF ps fs) xs vs ∧ totalI (lastF ps fs) ≤ 1073741824 ∧ Below w.heap.size w w' := by
 have hb0 : Below w.heap.size w (w.alloc (.cells #[.slice a n c, .slice b m d, .int .i64 cp, .int .i64 fu, .bool de] 26)) := (Below.refl _ _).alloc (Nat.le_refl _) _
 have hfl := hF.1
 go_enter Try.func35, Try.ntmps35
 go_wp2_with fail
 refine (l1Files_any _ _ _ fs _ A B (by simp; omega) (hF.below (hb0.mono hB)) (by omega) (fun j hj => hsf j (by omega))).mono ?_
 rintro e w1 ⟨v1, xs1, vs1, rfl, hO1, hb1⟩
 have hO1' : OwnF w1 (w.heap.size + 1) v1 fs xs1 vs1 := by simpa using hO1
 have hg1 := hb0.trans (hb1.mono (by simp))
 have hz1 : w.heap.size + 1 ≤ w1.heap.size := by simpa using hb1.size
 have hbx1 : Hid (w1.heap[w.heap.size]? = some (.cells #[.slice a n c, .slice b m d, .int .i64 cp, .int .i64 fu, .bool de] 26)) := (hb1.block _ (by simp)).trans (heap_alloc_new w _)
 obtain ⟨pl, pnc, pc0, pcell⟩ := hP
 unfold maxLen at pc0
 obtain ⟨a1, n1, c1, rfl, hn1, hF1⟩ := hO1'.files
 clear hn1 hF1
 have HSF : Hid (∀ j, j < fs.length → (fs.getD j (ByteArray.empty, [])).2.length ≤ 1048576) := hsf
 have HSP : Hid (∀ p ∈ ps, 0 ≤ p.2.1 ∧ p.2.1 ≤ 1000 ∧ p.2.2.length ≤ 128) := hsp
 clear hO1 hb1 hsf hsp
 obtain ⟨y0, y1, y2⟩ := box_cells hbx1.out
 go_wp2
 go_loopw [3, 4] (fun v i wr => ∃ (k : Nat) (fk : List PF) (xk vk : List Value) (a' : Option Addr) (n' c' : Nat), k ≤ m ∧ i = .int .i64 k ∧ v = .slice a' n' c' ∧ OwnF wr (w.heap.size + 1) (.slice a' n' c') fk xk vk ∧ Hid (fk.length ≤ 100 + k) ∧ Hid (∀ j, j < fk.length → (fk.getD j (ByteArray.empty, [])).2.length ≤ 1048576) ∧ Hid (lastF ps fs = lastF (ps.drop k) fk) ∧ Below w.heap.size w wr ∧ w.heap.size + 1 ≤ wr.heap.size ∧ Hid (wr.heap[w.heap.size]? = some (.cells #[.slice a n c, .slice b m d, .int .i64 cp, .int .i64 fu, .bool de] 26))) (fun _ i _ => m - (intOf i).toNat)
 case atStart => exact ⟨0, fs, xs1, vs1, a1, n1, c1, Nat.zero_le _, rfl, rfl, hO1', by show _ ≤ _; omega, HSF, rfl, hg1, hz1, hbx1⟩
 case round =>
  clear hO1' hg1 hz1 hbx1 y0 y1 y2
  obtain ⟨k, fk, xk, vk, a', n', c', hk, rfl, rfl, hO, hl12, hsk, hla, hbel, hSz, hbox⟩ := hrel
  obtain ⟨y0, y1, y2⟩ := box_cells hbox.out
  by_cases hlt : k < m
  ·obtain ⟨pb, poff, rfl, hpb, hpc⟩ := pcell (by omega)
   have e1 := (hpc k hlt).below hpb (hbel.mono hB)
   have e1w := hpc k hlt
   have hdr : ps.drop k = ps.getD k (ByteArray.empty, 0, []) :: ps.drop (k + 1) := by
    rw [List.drop_eq_getElem_cons (by omega)]; simp [List.getD, List.getElem?_eq_getElem (show k < ps.length by omega)]
   obtain ⟨p, hp⟩ : ∃ p, p = ps.getD k (ByteArray.empty, 0, []) := ⟨_, rfl⟩
   rw [← hp] at e1 hdr e1w
   clear hp
   obtain ⟨nm, pq, pd⟩ := p
   obtain ⟨g1, g2, g3, g4, da, dn, dc, g5, g6⟩ := e1
   simp only at g1 g2 g3 g4 g6
   obtain ⟨t3, t4, t2⟩ := HSP.out (nm, pq, pd) (List.mem_of_mem_drop (i := k) (by rw [hdr]; exact List.mem_cons_self))
   simp only at t3 t4 t2
   obtain ⟨pgN, rfl⟩ := Int.eq_ofNat_of_zero_le t3
   have hst : stepP fk (nm, (pgN : Int), pd) = doP fk nm pgN pd := by simp [stepP]
   have hla2 : Hid (lastF ps fs = lastF (ps.drop (k + 1)) (doP fk nm pgN pd)) := by show _ = _; rw [hla.out, hdr]; simp only [lastF]; rw [hst]
   have hl12' := hl12.out
   have hpg : pgN ≤ 1000 := by omega
   have hdn : dn ≤ 128 := by rw [← g6.1]; exact t2
   have T5 : Hid ((doP fk nm pgN pd).length ≤ 100 + (k + 1)) := by show _ ≤ _; rw [doP_len]; split <;> omega
   have T6 : Hid (∀ j, j < (doP fk nm pgN pd).length → ((doP fk nm pgN pd).getD j (ByteArray.empty, [])).2.length ≤ 1048576) := doP_all hsk.out (by omega)
   have hbk : pb < wr.heap.size := by have := hbel.size; omega
   have HO : Hid (OwnF wr (w.heap.size + 1) (.slice a' n' c') fk xk vk) := hO
   have HG6 : Hid (BytesAt wr A B da dn dc pd) := g6
   have HALL : Hid (∀ j, j < fk.length → (fk.getD j (ByteArray.empty, [])).2.length ≤ 1073741824) := fun j hj => Nat.le_trans (hsk.out j hj) (by omega)
   have hfk : fk.length ≤ 1048576 := by omega
   clear hpc pcell hO g6 hdr hst hl12' t2 t3 t4 hl12 hsk e1w
   go_wp2
   go_region_held3 (fun w' => w'.cell? ⟨w.heap.size, 1, none⟩ = some (.slice (some ⟨pb, poff, none⟩) m d) ∧ w'.cell? ⟨pb, poff + k * 3, none⟩ = some (.string nm) ∧ w'.cell? ⟨pb, poff + k * 3 + 1, none⟩ = some (.int .i64 (pgN : Int)) ∧ w'.cell? ⟨pb, poff + k * 3 + 2, none⟩ = some (.slice da dn dc)) (go_keep)
    (first | (go_at_call 68; refine (l1Do_any _ _ _ fk xk vk nm pgN _ _ _ pd wr.drew (w.heap.size + 1) A B hSz (HO.out.below ((Below.refl _ _).drew)) (by omega) (HG6.out.below ((Below.refl _ _).drew)) (by omega) g2 hfk (by omega) HALL.out).mono ?_; rintro e w3 ⟨v3, rfl, xs3, vs3, hO3, hb3⟩; have hbw : Below (w.heap.size + 1) wr w3 := ((Below.refl _ wr).drew).trans hb3; have z1 := (hbw.cell (p := ⟨w.heap.size, 1, none⟩) (Nat.lt_succ_self _)).trans y1; have z2 := (hbw.cell (p := ⟨pb, poff + k * 3, none⟩) (by show pb < _; omega)).trans g1; have z3 := (hbw.cell (p := ⟨pb, poff + k * 3 + 1, none⟩) (by show pb < _; omega)).trans g3; have z4 := (hbw.cell (p := ⟨pb, poff + k * 3 + 2, none⟩) (by show pb < _; omega)).trans g5))
   obtain ⟨a3, n3, c3, rfl, hn3, hF3⟩ := hO3.files
   clear hn3 hF3
   have hg3 : Below w.heap.size w w3 := hbel.trans (hbw.mono (by omega))
   have hz3 : w.heap.size + 1 ≤ w3.heap.size := Nat.le_trans hSz hbw.size
   have hbx3 : Hid (w3.heap[w.heap.size]? = some (.cells #[.slice a n c, .slice (some ⟨pb, poff, none⟩) m d, .int .i64 cp, .int .i64 fu, .bool de] 26)) := (hbw.block _ (Nat.lt_succ_self _)).trans hbox.out
   clear hb3 hbw z1 z2 z3 z4 y0 y1 y2 hbel hbox
   go_wp2
   go_roundw
   case rel => exact ⟨k + 1, doP fk nm pgN pd, xs3, vs3, a3, n3, c3, by omega, by go_num, rfl, hO3, T5, T6, hla2, hg3, hz3, hbx3⟩
   case measure => simp [intOf]; omega
  ·have HTT : Hid (totalI fk ≤ 1073741824) := by
    have h1 := totalI_small hsk.out
    have h2 := hl12.out
    show _ ≤ _
    have h3 : (fk.length : Int) * ((1048576 : Nat) : Int) ≤ 201 * 1048576 := by omega
    omega
   have HL : Hid (lastF ps fs = fk) := by show _ = _; rw [hla.out, List.drop_eq_nil_of_le (by omega)]; rfl
   go_wp2
   go_ret
   exact ⟨_, xk, vk, rfl, by rw [HL.out]; exact hO, by rw [HL.out]; exact HTT.out, hbel⟩
structure DrawnW (w : World) (e : Ending) (w' : World) : Prop where
 ex : ∃ (a : Option Addr) (n c : Nat) (b : Option Addr) (m d : Nat) (fs : List PF) (ps : List PP) (cp fu : Int) (de : Bool) (nm : ByteArray) (pg : Int) (pa : Option Addr) (pn pc : Nat) (bs : List Int), e = .returned (.tuple #[.agg #[.slice a n c, .slice b m d, .int .i64 cp, .int .i64 fu, .bool de], .string nm, .int .i64 pg, .slice pa pn pc]) ∧ FilesAt w' w.heap.size w'.heap.size a n c fs ∧ PendsAt w' w.heap.size w'.heap.size b m d ps ∧ BytesAt w' w.heap.size w'.heap.size pa pn pc bs ∧ (fs.length ≤ 100 ∧ ps.length ≤ 100 ∧ (∀ j, j < fs.length → (fs.getD j (ByteArray.empty, [])).2.length ≤ 1048576) ∧ (∀ p ∈ ps, 0 ≤ p.2.1 ∧ p.2.1 ≤ 1000 ∧ p.2.2.length ≤ 128)) ∧ nm.size ≤ 9 ∧ (-1 ≤ pg ∧ pg ≤ 3) ∧ pn ≤ 128 ∧ (-1073741824 ≤ cp ∧ cp ≤ 1073741824) ∧ (-1073741824 ≤ fu ∧ fu ≤ 1073741824) ∧ Below w.heap.size w w'
structure WSt (w wr : World) (N M : Nat) (a : Option Addr) (n c : Nat) (b : Option Addr) (m d : Nat) (fs : List PF) (ps : List PP) (cp fu : Int) (de : Bool) (pa : Option Addr) (pn pc : Nat) (bs : List Int) : Prop where
 hd : wr.heap[M]? = some (.cells #[.slice a n c, .slice b m d, .int .i64 cp, .int .i64 fu, .bool de] 26)
 rs : wr.heap[N]? = some (.cells #[.slice none 0 0, .slice none 0 0, .int .i64 0, .int .i64 0, .bool false] 26)
 fil : FilesAt wr (N + 1) M a n c fs
 pen : PendsAt wr (N + 1) M b m d ps
 byt : BytesAt wr (M + 1) wr.heap.size pa pn pc bs
 bd : fs.length ≤ 100 ∧ ps.length ≤ 100 ∧ (∀ j, j < fs.length → (fs.getD j (ByteArray.empty, [])).2.length ≤ 1048576) ∧ (∀ p ∈ ps, 0 ≤ p.2.1 ∧ p.2.1 ≤ 1000 ∧ p.2.2.length ≤ 128)
 rc : (-1073741824 ≤ cp ∧ cp ≤ 1073741824) ∧ (-1073741824 ≤ fu ∧ fu ≤ 1073741824)
 bel : Below w.heap.size w wr
 lo : w.heap.size ≤ N ∧ N < M
theorem WSt.done {w wr : World} {N M : Nat} {a : Option Addr} {n c : Nat} {b : Option Addr} {m d : Nat} {fs : List PF} {ps : List PP} {cp fu : Int} {de : Bool} {pa : Option Addr} {pn pc : Nat} {bs : List Int} (h : WSt w wr N M a n c b m d fs ps cp fu de pa pn pc bs) {nm : ByteArray} {pg : Int} (hnm : nm.size ≤ 9) (hpg : -1 ≤ pg ∧ pg ≤ 3) (hpn : pn ≤ 128) :
  DrawnW w (.returned (.tuple #[.agg #[.slice a n c, .slice b m d, .int .i64 cp, .int .i64 fu, .bool de], .string nm, .int .i64 pg, .slice pa pn pc])) (put5C wr N (.slice a n c) (.slice b m d) (.int .i64 cp) (.int .i64 fu) (.bool de)) := by
 have hl := h.lo
 have hM : M < wr.heap.size := (Array.getElem?_eq_some_iff.1 h.hd).1
 have hf := put5C_fr wr N (.slice a n c) (.slice b m d) (.int .i64 cp) (.int .i64 fu) (.bool de)
 have k1 : Keeps (N + 1) M wr (put5C wr N (.slice a n c) (.slice b m d) (.int .i64 cp) (.int .i64 fu) (.bool de)) := fun g h1 h2 => hf.block g (by omega) (by omega)
 have k2 : Keeps (M + 1) wr.heap.size wr (put5C wr N (.slice a n c) (.slice b m d) (.int .i64 cp) (.int .i64 fu) (.bool de)) := fun g h1 h2 => hf.block g h2 (by omega)
 have s := hf.size
 exact ⟨⟨a, n, c, b, m, d, fs, ps, cp, fu, de, nm, pg, pa, pn, pc, bs, rfl, (h.fil.keep k1).up (by omega) (by omega), (h.pen.keep k1).up (by omega) (by omega), (h.byt.keep k2).up (by omega) s, h.bd, hnm, hpg, hpn, h.rc.1, h.rc.2, h.bel.trans (hf.below h.bel.size (fun g e => by omega))⟩⟩
theorem BytesAt.tail {w : World} {A B g o n c : Nat} {bs : List Int} (h : BytesAt w A B (some ⟨g, o, none⟩) (n + 1) (c + 1) bs) : BytesAt w A B (some ⟨g, o + 1, none⟩) n c (bs.drop 1) := by
 obtain ⟨h1, h2, h3, h4, h5, h6⟩ := h
 refine ⟨by simp; omega, by omega, by omega, fun x hx => h4 x (List.mem_of_mem_drop hx), fun hn => ?_, fun e => by cases e⟩
 obtain ⟨b, off, e, hb, hc⟩ := h5 (by omega)
 simp only [Option.some.injEq, Addr.mk.injEq] at e
 obtain ⟨rfl, rfl, _⟩ := e
 refine ⟨_, _, rfl, hb, fun i hi => ?_⟩
 rw [Nat.add_assoc, hc (1 + i) (by omega)]
 simp [List.getD, Nat.add_comm]
theorem WSt.bytes {w wr : World} {N M : Nat} {a : Option Addr} {n c : Nat} {b : Option Addr} {m d : Nat} {fs : List PF} {ps : List PP} {cp fu : Int} {de : Bool} {pa : Option Addr} {pn pc : Nat} {bs : List Int} (h : WSt w wr N M a n c b m d fs ps cp fu de pa pn pc bs) {pa' : Option Addr} {pn' pc' : Nat} {bs' : List Int} (hb : BytesAt wr (M + 1) wr.heap.size pa' pn' pc' bs') : WSt w wr N M a n c b m d fs ps cp fu de pa' pn' pc' bs' :=
 ⟨h.hd, h.rs, h.fil, h.pen, hb, h.bd, h.rc, h.bel, h.lo⟩
theorem WSt.cap {w wr wr' : World} {N M : Nat} {a : Option Addr} {n c : Nat} {b : Option Addr} {m d : Nat} {fs : List PF} {ps : List PP} {cp fu : Int} {de : Bool} {pa : Option Addr} {pn pc : Nat} {bs : List Int} (h : WSt w wr N M a n c b m d fs ps cp fu de pa pn pc bs) (hb : Below wr.heap.size wr wr') {t : Int} (ht : 0 ≤ t ∧ t ≤ 1073741824) : WSt w (wr'.setCell ⟨M, 2, none⟩ (.int .i64 t)) N M a n c b m d fs ps t fu de pa pn pc bs := by
 have hl := h.lo
 have hM : M < wr.heap.size := (Array.getElem?_eq_some_iff.1 h.hd).1
 have hs := hb.size
 have hf := fr_setCell wr' M 2 (.int .i64 t)
 have s := hf.size
 have X := box_below h.hd hb
 have R := box_below h.rs hb
 have k1 : Keeps (N + 1) M wr (wr'.setCell ⟨M, 2, none⟩ (.int .i64 t)) := fun g h1 h2 => (hf.block g (by omega) (by omega)).trans (hb.block g (by omega))
 have k2 : Keeps (M + 1) wr.heap.size wr (wr'.setCell ⟨M, 2, none⟩ (.int .i64 t)) := fun g h1 h2 => (hf.block g (by omega) (by omega)).trans (hb.block g (by omega))
 refine ⟨?_, box_fr R hf (by omega), h.fil.keep k1, h.pen.keep k1, (h.byt.keep k2).up (Nat.le_refl _) (by omega), h.bd, ⟨by omega, h.rc.2⟩, h.bel.trans ((hb.mono h.bel.size).trans (hf.below (by have := h.bel.size; omega) (fun g e => by omega))), hl⟩
 have := heap_setCell_at X 2 (.int .i64 t)
 simpa using this
set_option maxHeartbeats 3200000 in
theorem drawWrite_any (a : Option Addr) (n c : Nat) (bs : List Int) (w : World) (A B : Nat) (hB : B ≤ w.heap.size) (hby : BytesAt w A B a n c bs) :
  Calls Try.prog 6 #[.slice a n c] w fun e w' => DrawnW w e w' := by
 have hal : Below w.heap.size w (w.alloc (.cells #[.slice none 0 0, .slice none 0 0, .int .i64 0, .int .i64 0, .bool false] 26)) := (Below.refl _ _).alloc (Nat.le_refl _) _
 have X0 := heap_alloc_new w (.cells #[.slice none 0 0, .slice none 0 0, .int .i64 0, .int .i64 0, .bool false] 26)
 have s0 : (w.alloc (.cells #[.slice none 0 0, .slice none 0 0, .int .i64 0, .int .i64 0, .bool false] 26)).heap.size = w.heap.size + 1 := by simp
 have hby0 := hby.below (hal.mono hB)
 clear hby
 go_enter Try.func6, Try.ntmps6
 go_wp2_with fail
 generalize w.alloc (.cells #[.slice none 0 0, .slice none 0 0, .int .i64 0, .int .i64 0, .bool false] 26) = W0 at hal X0 s0 hby0 ⊢
 refine (l1New_any a n c bs W0 A B (by omega) hby0).mono ?_
 rintro e w1 ⟨C, rfl, hC, hD1, hb1⟩
 have hCl := hD1.lt
 have X1 := box_below X0 hb1
 have b1 : Below w.heap.size w w1 := hal.trans (hb1.mono (by omega))
 have s1 := hb1.size
 have s1' := b1.size
 clear X0 hb1 hby0 hal
 go_wp2_with fail
 refine (l1AnyDisk_any C A B w1 hD1).mono ?_
 rintro e w2 hBn
 obtain ⟨a1, n1, c1, b1', m1, d1, fs, ps, cp, fu, de, rfl, hF2, hP2, hBD, hD2, hR2⟩ := hBn.ex
 have s2 := hR2.size
 have X2 := box_fr X1 hR2 (by omega)
 have B2 : Below w.heap.size w w2 := b1.trans (hR2.below s1' (fun g e => by omega))
 have hal2 := (Below.refl w2.heap.size w2).alloc (Nat.le_refl _) (.cells #[.slice a1 n1 c1, .slice b1' m1 d1, .int .i64 cp, .int .i64 fu, .bool de] 26)
 have M3 := heap_alloc_new w2 (.cells #[.slice a1 n1 c1, .slice b1' m1 d1, .int .i64 cp, .int .i64 fu, .bool de] 26)
 have X3 := box_below X2 hal2
 have hD3 := hD2.below hal2
 have hF3 := hF2.below hal2
 have hP3 := hP2.below hal2
 have B3 := B2.trans (hal2.mono B2.size)
 have s3 : (w2.alloc (.cells #[.slice a1 n1 c1, .slice b1' m1 d1, .int .i64 cp, .int .i64 fu, .bool de] 26)).heap.size = w2.heap.size + 1 := by simp
 have HBD : Hid (BD fs ps cp fu) := hBD
 clear hBn hBD hF2 hP2 hD2 hR2 X1 X2 B2 hal2 b1 hD1
 go_wp2_with fail
 generalize w2.alloc (.cells #[.slice a1 n1 c1, .slice b1' m1 d1, .int .i64 cp, .int .i64 fu, .bool de] 26) = W3 at M3 X3 hD3 hF3 hP3 B3 s3 ⊢
 generalize w2.heap.size = M at M3 hF3 hP3 s2 s3 ⊢
 refine (l1DrawName_any C A B W3 hD3).mono ?_
 rintro e w4 ⟨nm, rfl, hnm, hD4, hR4⟩
 have F4 : Fr (fun g => g = C) W3 w4 := hR4
 go_wp2_with fail
 refine (l1Below_any C A B w4 hD4 4 (by omega) (by omega)).mono ?_
 rintro e w5 ⟨pg, rfl, hpg, hD5, hR5⟩
 have F5 := F4.trans hR5
 have s5 := F5.size
 clear F4 hR4 hR5 hD4
 go_wp2_with fail
 refine (l1DrawPage_any C A B w5 hD5).mono ?_
 rintro e w6 ⟨g, bs6, rfl, hO6, hbl, hb6, hD6, hR6⟩
 have F6 := F5.trans hR6
 have Y6 : BytesAt w6 w5.heap.size w6.heap.size (some ⟨g, 0, none⟩) 128 128 bs6 := by
  obtain ⟨a', n', c', e1, e2⟩ := bytesAt_of_own (bs := bs6) (by rw [hbl]; exact hO6) hb6
  cases e1
  exact e2
 have s6 := hR6.size
 clear F5 hR6 hD5 hO6
 go_wp2_with fail
 refine (l1Below_any C A B w6 hD6 12 (by omega) (by omega)).mono ?_
 rintro e w7 ⟨k, rfl, hk, hD7, hR7⟩
 have F7 := F6.trans hR7
 have Y7 : BytesAt w7 w5.heap.size w7.heap.size (some ⟨g, 0, none⟩) 128 128 bs6 := (Y6.keep (fun q h1 h2 => hR7.block q h2 (by omega))).up (Nat.le_refl _) hR7.size
 have s7 := F7.size
 have bd := HBD.out
 have kk : Keeps w1.heap.size M W3 w7 := fun q h1 h2 => F7.block q (by omega) (by omega)
 have ws : WSt w w7 w.heap.size M a1 n1 c1 b1' m1 d1 fs ps cp fu de (some ⟨g, 0, none⟩) 128 128 bs6 := ⟨box_fr M3 F7 (by omega), box_fr X3 F7 (by omega), (hF3.keep kk).up (by omega) (Nat.le_refl _), (hP3.keep kk).up (by omega) (Nat.le_refl _), Y7.up (by omega) (Nat.le_refl _), ⟨bd.nf, bd.np, bd.sf, bd.sp⟩, ⟨by have := bd.rc; omega, by have := bd.rf; omega⟩, B3.trans (F7.below B3.size (fun q e => by omega)), by omega⟩
 clear F6 F7 Y6 Y7 kk hR7 hD7 hD6 hD3 X3 M3 hF3 hP3 B3 bd HBD
 have lM : M < w7.heap.size := by omega
 have lN : w.heap.size < w7.heap.size := by omega
 have HW : Hid (WSt w w7 w.heap.size M a1 n1 c1 b1' m1 d1 fs ps cp fu de (some ⟨g, 0, none⟩) 128 128 bs6) := ws
 obtain ⟨z0, z1, z2, z3, z4⟩ := box_fiveC ws.hd
 obtain ⟨y0, y1, y2, y3, y4⟩ := box_fiveC ws.rs
 have yf := box_thawC ws.rs
 have HX5 : Hid ((put5C w7 w.heap.size (.slice a1 n1 c1) (.slice b1' m1 d1) (.int .i64 cp) (.int .i64 fu) (.bool de)).heap[w.heap.size]? = some (.cells #[.slice a1 n1 c1, .slice b1' m1 d1, .int .i64 cp, .int .i64 fu, .bool de] 26)) := put5C_box ws.rs (.slice a1 n1 c1) (.slice b1' m1 d1) (.int .i64 cp) (.int .i64 fu) (.bool de)
 clear ws
 have hpg' : (-1 : Int) ≤ (pg : Int) ∧ (pg : Int) ≤ 3 := ⟨by omega, by omega⟩
 by_cases k0 : k = 0
 ·subst k0
  have HB : Hid (DrawnW w (.returned (.tuple #[.agg #[.slice a1 n1 c1, .slice b1' m1 d1, .int .i64 cp, .int .i64 fu, .bool de], .string ⟨#[108, 111, 110, 103, 110, 97, 109, 101, 115]⟩, .int .i64 (pg : Int), .slice (some ⟨g, 0, none⟩) 128 128])) (put5C w7 w.heap.size (.slice a1 n1 c1) (.slice b1' m1 d1) (.int .i64 cp) (.int .i64 fu) (.bool de))) := HW.out.done (by decide) hpg' (by omega)
  go_wp2_with fail
  show bodyPost _ _ _ _ _ (put5C w7 w.heap.size (.slice a1 n1 c1) (.slice b1' m1 d1) (.int .i64 cp) (.int .i64 fu) (.bool de))
  clear z0 z1 z2 z3 z4 y0 y1 y2 y3 y4 yf
  obtain ⟨z0, z1, z2, z3, z4⟩ := box_fiveC HX5.out
  exact bodyPost_ret (v := .tuple #[.agg #[.slice a1 n1 c1, .slice b1' m1 d1, .int .i64 cp, .int .i64 fu, .bool de], .string ⟨#[108, 111, 110, 103, 110, 97, 109, 101, 115]⟩, .int .i64 (pg : Int), .slice (some ⟨g, 0, none⟩) 128 128]) (by simp [results, Try.results6, go_sem, z0, z1, z2, z3, z4]) rfl HB.out
 by_cases k1 : k = 1
 ·subst k1
  have HB : Hid (DrawnW w (.returned (.tuple #[.agg #[.slice a1 n1 c1, .slice b1' m1 d1, .int .i64 cp, .int .i64 fu, .bool de], .string nm, .int .i64 (pg : Int), .slice (some ⟨g, 1, none⟩) 127 127])) (put5C w7 w.heap.size (.slice a1 n1 c1) (.slice b1' m1 d1) (.int .i64 cp) (.int .i64 fu) (.bool de))) := (HW.out.bytes HW.out.byt.tail).done (by omega) hpg' (by omega)
  go_wp2_with fail
  show bodyPost _ _ _ _ _ (put5C w7 w.heap.size (.slice a1 n1 c1) (.slice b1' m1 d1) (.int .i64 cp) (.int .i64 fu) (.bool de))
  clear z0 z1 z2 z3 z4 y0 y1 y2 y3 y4 yf
  obtain ⟨z0, z1, z2, z3, z4⟩ := box_fiveC HX5.out
  exact bodyPost_ret (v := .tuple #[.agg #[.slice a1 n1 c1, .slice b1' m1 d1, .int .i64 cp, .int .i64 fu, .bool de], .string nm, .int .i64 (pg : Int), .slice (some ⟨g, 1, none⟩) 127 127]) (by simp [results, Try.results6, go_sem, z0, z1, z2, z3, z4]) rfl HB.out
 by_cases k2 : k = 2
 ·subst k2
  have HB : Hid (DrawnW w (.returned (.tuple #[.agg #[.slice a1 n1 c1, .slice b1' m1 d1, .int .i64 cp, .int .i64 fu, .bool de], .string nm, .int .i64 (-1), .slice (some ⟨g, 0, none⟩) 128 128])) (put5C w7 w.heap.size (.slice a1 n1 c1) (.slice b1' m1 d1) (.int .i64 cp) (.int .i64 fu) (.bool de))) := HW.out.done (by omega) (by omega) (by omega)
  go_wp2_with fail
  show bodyPost _ _ _ _ _ (put5C w7 w.heap.size (.slice a1 n1 c1) (.slice b1' m1 d1) (.int .i64 cp) (.int .i64 fu) (.bool de))
  clear z0 z1 z2 z3 z4 y0 y1 y2 y3 y4 yf
  obtain ⟨z0, z1, z2, z3, z4⟩ := box_fiveC HX5.out
  exact bodyPost_ret (v := .tuple #[.agg #[.slice a1 n1 c1, .slice b1' m1 d1, .int .i64 cp, .int .i64 fu, .bool de], .string nm, .int .i64 (-1), .slice (some ⟨g, 0, none⟩) 128 128]) (by simp [results, Try.results6, go_sem, z0, z1, z2, z3, z4]) rfl HB.out
 by_cases k3 : k = 3
 ·subst k3
  go_wp2_with fail
  refine (l1SeenB_any a1 n1 c1 fs b1' m1 d1 ps cp fu de w7 (w.heap.size + 1) M (by omega) HW.out.fil HW.out.pen HW.out.bd.1 HW.out.bd.2.1 HW.out.bd.2.2.1 HW.out.bd.2.2.2).mono ?_
  rintro e w8 ⟨v, xs, vs, rfl, hO8, ht8, hb8⟩
  obtain ⟨va, _, vc, rfl, rfl, hF8⟩ := hO8.files
  go_wp2_with fail
  refine (l1Total_any va (lastF ps fs).length vc (lastF ps fs) w8 _ _ hF8 ht8).mono ?_
  rintro e w9 ⟨rfl, e9⟩
  subst e9
  have H8 : Hid (WSt w (w9.setCell ⟨M, 2, none⟩ (.int .i64 (totalI (lastF ps fs)))) w.heap.size M a1 n1 c1 b1' m1 d1 fs ps (totalI (lastF ps fs)) fu de (some ⟨g, 0, none⟩) 128 128 bs6) := HW.out.cap hb8 ⟨(totalI_bd _).1, ht8⟩
  have HB : Hid (DrawnW w (.returned (.tuple #[.agg #[.slice a1 n1 c1, .slice b1' m1 d1, .int .i64 (totalI (lastF ps fs)), .int .i64 fu, .bool de], .string nm, .int .i64 (pg : Int), .slice (some ⟨g, 0, none⟩) 128 128])) (put5C (w9.setCell ⟨M, 2, none⟩ (.int .i64 (totalI (lastF ps fs)))) w.heap.size (.slice a1 n1 c1) (.slice b1' m1 d1) (.int .i64 (totalI (lastF ps fs))) (.int .i64 fu) (.bool de))) := H8.out.done (by omega) hpg' (by omega)
  have X8 := box_below HW.out.hd hb8
  have R8 := box_below HW.out.rs hb8
  have s8 := hb8.size
  have lM8 : M < w9.heap.size := by omega
  have lN8 : w.heap.size < w9.heap.size := by omega
  have nMN : ¬ M = w.heap.size := by omega
  have nNM : ¬ w.heap.size = M := by omega
  clear z0 z1 z2 z3 z4 y0 y1 y2 y3 y4 yf HX5
  obtain ⟨z0, z1, z2, z3, z4⟩ := box_fiveC X8
  have zf := box_thawC X8
  obtain ⟨y0, y1, y2, y3, y4⟩ := box_fiveC R8
  have yf := box_thawC R8
  clear X8 R8 hO8 hF8 hb8 lM lN
  go_wp2_with fail
  show bodyPost _ _ _ _ _ (put5C (w9.setCell ⟨M, 2, none⟩ (.int .i64 (totalI (lastF ps fs)))) w.heap.size (.slice a1 n1 c1) (.slice b1' m1 d1) (.int .i64 (totalI (lastF ps fs))) (.int .i64 fu) (.bool de))
  clear z0 z1 z2 z3 z4 y0 y1 y2 y3 y4 yf zf
  obtain ⟨z0, z1, z2, z3, z4⟩ := box_fiveC (put5C_box H8.out.rs (.slice a1 n1 c1) (.slice b1' m1 d1) (.int .i64 (totalI (lastF ps fs))) (.int .i64 fu) (.bool de))
  exact bodyPost_ret (v := .tuple #[.agg #[.slice a1 n1 c1, .slice b1' m1 d1, .int .i64 (totalI (lastF ps fs)), .int .i64 fu, .bool de], .string nm, .int .i64 (pg : Int), .slice (some ⟨g, 0, none⟩) 128 128]) (by simp [results, Try.results6, go_sem, z0, z1, z2, z3, z4]) rfl HB.out
 ·have q0 : ((k : Int) == 0) = false := by simp; omega
  have q1 : ((k : Int) == 1) = false := by simp; omega
  have q2 : ((k : Int) == 2) = false := by simp; omega
  have q3 : ((k : Int) == 3) = false := by simp; omega
  have HB : Hid (DrawnW w (.returned (.tuple #[.agg #[.slice a1 n1 c1, .slice b1' m1 d1, .int .i64 cp, .int .i64 fu, .bool de], .string nm, .int .i64 (pg : Int), .slice (some ⟨g, 0, none⟩) 128 128])) (put5C w7 w.heap.size (.slice a1 n1 c1) (.slice b1' m1 d1) (.int .i64 cp) (.int .i64 fu) (.bool de))) := HW.out.done (by omega) hpg' (by omega)
  go_wp2_with fail
  show bodyPost _ _ _ _ _ (put5C w7 w.heap.size (.slice a1 n1 c1) (.slice b1' m1 d1) (.int .i64 cp) (.int .i64 fu) (.bool de))
  clear z0 z1 z2 z3 z4 y0 y1 y2 y3 y4 yf
  obtain ⟨z0, z1, z2, z3, z4⟩ := box_fiveC HX5.out
  exact bodyPost_ret (v := .tuple #[.agg #[.slice a1 n1 c1, .slice b1' m1 d1, .int .i64 cp, .int .i64 fu, .bool de], .string nm, .int .i64 (pg : Int), .slice (some ⟨g, 0, none⟩) 128 128]) (by simp [results, Try.results6, go_sem, z0, z1, z2, z3, z4]) rfl HB.out

structure RowZ (w : World) (lo hi : Nat) (a : Option Addr) (n c : Nat) (bs : List Int) : Prop where
 row : ∃ ty, w.ownsRow lo ty 1 (.slice a n c) n (u8s bs)
 top : ∀ x, a = some x → x.block < hi
 bys : ∀ x ∈ bs, 0 ≤ x ∧ x ≤ 255
theorem RowZ.mk' {w : World} {lo ty n c : Nat} {a : Option Addr} {bs : List Int} (h : w.ownsRow lo ty 1 (.slice a n c) n (u8s bs)) (hb : ∀ x ∈ bs, 0 ≤ x ∧ x ≤ 255) : RowZ w lo w.heap.size a n c bs :=
 ⟨⟨ty, h⟩, fun x e => by subst e; exact (h.lt _ rfl).2, hb⟩
theorem RowZ.bytes {w : World} {lo hi n c : Nat} {a : Option Addr} {bs : List Int} (h : RowZ w lo hi a n c bs) : BytesAt w lo w.heap.size a n c bs := by
 obtain ⟨⟨ty, h1⟩, h2, h3⟩ := h
 have hl : bs.length = n := by have := h1.1; simpa [u8s] using this
 rcases h1.2 with ⟨e, rfl⟩ | ⟨g, cap, cur, e, _⟩
 ·simp only [Value.slice.injEq] at e
  obtain ⟨rfl, _, rfl⟩ := e
  exact ⟨hl, Nat.le_refl _, by unfold maxLen; omega, h3, fun h => absurd h (Nat.lt_irrefl _), fun _ => rfl⟩
 ·have e2 := e
  simp only [Value.slice.injEq] at e2
  obtain ⟨rfl, _, rfl⟩ := e2
  refine bytes_of_owns h1 hl (fun j hj => ?_) h3
  simp [u8s, List.getD, List.getElem?_eq_getElem (show j < bs.length by omega)]
def bls (ks : List Bool) : List Value := ks.map Value.bool
theorem info_bool : (Try.prog.info? 4).map (fun i => (i.zero, i.size, i.bytes)) = some (some (.bool false), 1, 1) := by kernel_rfl
def BoolsAt (w : World) (A B : Nat) (a : Option Addr) (n c : Nat) (ks : List Bool) : Prop :=
 ks.length = n ∧ n ≤ c ∧ c ≤ maxLen ∧ (0 < n → ∃ b off, a = some ⟨b, off, none⟩ ∧ (A ≤ b ∧ b < B) ∧ ∀ i, i < n → w.cell? ⟨b, off + i, none⟩ = some (.bool (ks.getD i false)))
theorem BoolsAt.keep {w w' : World} {A B : Nat} {a : Option Addr} {n c : Nat} {ks : List Bool} (h : BoolsAt w A B a n c ks) (hk : Keeps A B w w') : BoolsAt w' A B a n c ks := by
 obtain ⟨h1, h2, h3, h5⟩ := h
 refine ⟨h1, h2, h3, fun hn => ?_⟩
 obtain ⟨b, off, rfl, hlt, hc⟩ := h5 hn
 exact ⟨b, off, rfl, hlt, fun i hi => (hk.cell hlt.1 hlt.2).trans (hc i hi)⟩
theorem BoolsAt.below {w w' : World} {A B : Nat} {a : Option Addr} {n c : Nat} {ks : List Bool} (h : BoolsAt w A B a n c ks) (hb : Below B w w') : BoolsAt w' A B a n c ks := h.keep (.of_below hb)
structure RowB (w : World) (lo hi : Nat) (a : Option Addr) (n c : Nat) (ks : List Bool) : Prop where
 row : w.ownsRow lo 4 1 (.slice a n c) n (bls ks)
 top : ∀ x, a = some x → x.block < hi
theorem RowB.mk' {w : World} {lo n c : Nat} {a : Option Addr} {ks : List Bool} (h : w.ownsRow lo 4 1 (.slice a n c) n (bls ks)) : RowB w lo w.heap.size a n c ks :=
 ⟨h, fun x e => by subst e; exact (h.lt _ rfl).2⟩
theorem RowB.bools {w : World} {lo hi n c : Nat} {a : Option Addr} {ks : List Bool} (h : RowB w lo hi a n c ks) : BoolsAt w lo w.heap.size a n c ks := by
 obtain ⟨h1, h2⟩ := h
 have hl : ks.length = n := by have := h1.1; simpa [bls] using this
 rcases h1.2 with ⟨e, rfl⟩ | ⟨g, cap, cur, e, hb, hg, k1, k2, _⟩
 ·simp only [Value.slice.injEq] at e
  obtain ⟨rfl, _, rfl⟩ := e
  exact ⟨hl, Nat.le_refl _, by unfold maxLen; omega, fun h => absurd h (Nat.lt_irrefl _)⟩
 ·simp only [Value.slice.injEq] at e
  obtain ⟨rfl, _, rfl⟩ := e
  refine ⟨hl, k1, k2, fun hn => ⟨g, 0, rfl, h1.lt g rfl, fun i hi => ?_⟩⟩
  rw [Nat.zero_add, h1.cellAt i (by omega)]
  simp [bls, List.getD, List.getElem?_eq_getElem (show i < ks.length by omega)]
def markB (k n : Nat) : List Bool := (List.range n).map fun i => decide ((k + i) % 3 = 0)
end Go.Proofs.Ytakdaandbdbdnaa
