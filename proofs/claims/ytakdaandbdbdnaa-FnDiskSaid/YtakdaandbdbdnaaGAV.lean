import Derived.Test.YtakdaandbdbdnaaGAD
import Derived.Test.YtakdaandbdbdnaaGAN
import Derived.Test.YtakdaandbdbdnaaGAU
import Derived.Test.YtakdaandbdbdnaaWq
namespace Go.Proofs.Ytakdaandbdbdnaa
open Go.RowKit
set_option linter.unusedVariables false
set_option maxRecDepth 100000

/-- A disk that was drawn, as an answer. -/
structure DrawnD (w : World) (e : Ending) (w' : World) (C A B : Nat) : Prop where
  ex : ∃ (a : Option Addr) (c : Nat) (b : Option Addr) (d : Nat) (fs : List PF) (ps : List PP) (cp fu : Int), e = .returned (.agg #[.slice a fs.length c, .slice b ps.length d, .int .i64 cp, .int .i64 fu, .bool false]) ∧ OwnZ w' w.heap.size w'.heap.size (.slice a fs.length c) (.slice b ps.length d) fs ps ∧ implV fs ps cp (-1) = true ∧ (-1 ≤ fu ∧ fu ≤ 2) ∧ ps.length ≤ 8 ∧ DCur w' C A B ∧ Fr (fun g => g = C) w w'
theorem valid_new {cp : Int} (h0 : 0 ≤ cp) (h1 : cp ≤ 1000) : implV [] [] cp (-1) = true := by
  simp [implV, filesOk, cacheI, fitsB, totalI, h0, h1]
theorem ds_alive (r : Int) : dsD r (-1) false = false ∧ dsF r (-1) = -1 := by
  unfold dsD dsF spD spF
  refine ⟨by split <;> simp, by split <;> simp⟩
theorem write_valid {fs : List PF} {ps : List PP} {cp : Int} {nm : ByteArray} {pg : Int} {bs : List Int} (h : implV fs ps cp (-1) = true) : implV (dsX (rwI fs ps cp (-1) false nm pg bs) (-1) fs fs) (dsX (rwI fs ps cp (-1) false nm pg bs) (-1) ps (ps ++ [(nm, pg, bs)])) cp (-1) = true ∧ (dsX (rwI fs ps cp (-1) false nm pg bs) (-1) ps (ps ++ [(nm, pg, bs)])).length ≤ ps.length + 1 := by
  unfold dsX
  split
  · rename_i hc
    exact ⟨(valid_write hc.1).1, by simp⟩
  · exact ⟨h, by omega⟩
theorem sync_valid {fs : List PF} {ps : List PP} {cp : Int} (h : implV fs ps cp (-1) = true) : implV (dsX (rsI fs ps cp (-1) false) (-1) fs (lastF ps fs)) (dsX (rsI fs ps cp (-1) false) (-1) ps []) cp (-1) = true ∧ (dsX (rsI fs ps cp (-1) false) (-1) ps []).length ≤ ps.length := by
  unfold dsX
  split
  · exact ⟨valid_sync h, by simp⟩
  · exact ⟨h, Nat.le_refl _⟩
set_option maxHeartbeats 6400000 in
theorem l1DrawDisk_any (C A B : Nat) (w : World) (h : DCur w C A B) :
    Calls Try.prog 74 #[.pointer (some ⟨C, 0, none⟩)] w fun e w' => DrawnD w e w' C A B := by
  have hCl := h.lt
  have hal : Below w.heap.size w (w.alloc (.cells #[.slice none 0 0, .slice none 0 0, .int .i64 0, .int .i64 0, .bool false] 26)) := (Below.refl _ _).alloc (Nat.le_refl _) _
  have X0 := heap_alloc_new w (.cells #[.slice none 0 0, .slice none 0 0, .int .i64 0, .int .i64 0, .bool false] 26)
  have hD0 := h.below hal
  have s0 : (w.alloc (.cells #[.slice none 0 0, .slice none 0 0, .int .i64 0, .int .i64 0, .bool false] 26)).heap.size = w.heap.size + 1 := by simp
  clear h
  go_enter Try.func74, Try.ntmps74
  go_wp2_with fail
  generalize w.alloc (.cells #[.slice none 0 0, .slice none 0 0, .int .i64 0, .int .i64 0, .bool false] 26) = W0 at hal X0 hD0 s0 ⊢
  refine (l1Below_any C A B W0 hD0 10 (by omega) (by omega)).mono ?_
  rintro e w1 ⟨x, rfl, hx, hD1, hF1⟩
  have s1 := hF1.size
  have X1 := box_fr X0 hF1 (by omega)
  have F1 : Fr (fun g => g = C) w w1 := (Fr.of_below hal).trans hF1
  obtain ⟨M, hM⟩ : ∃ M, M = w1.heap.size := ⟨_, rfl⟩
  obtain ⟨cp, hcp⟩ : ∃ cp : Int, cp = 4 + (x : Int) := ⟨_, rfl⟩
  have hcp0 : 0 ≤ cp ∧ cp ≤ 1000 := by omega
  have hal1 := (Below.refl w1.heap.size w1).alloc (Nat.le_refl _) (.cells #[.slice none 0 0, .slice none 0 0, .int .i64 cp, .int .i64 (-1), .bool false] 26)
  have hst : DSt w (w1.alloc (.cells #[.slice none 0 0, .slice none 0 0, .int .i64 cp, .int .i64 (-1), .bool false] 26)) w.heap.size M C A B none 0 none 0 [] [] cp (-1) := by
    refine ⟨by rw [hM]; exact heap_alloc_new _ _, box_below X1 hal1, ?_, valid_new hcp0.1 hcp0.2, hD1.below hal1, F1.lateD (Fr.of_below (S := fun _ => False) hal1) (fun g e => e.elim), by omega⟩
    refine ⟨[], [], [], [], ⟨OwnF.nil ⟨rfl, .inl ⟨rfl, rfl⟩⟩, OwnP.nil ⟨rfl, .inl ⟨rfl, rfl⟩⟩, fun g hv hu => by rcases hu with hu | ⟨i, hi, hu⟩ <;> simp [Value.ownBlock] at *⟩, fun g hg => ?_⟩
    rcases hg with (hu | ⟨i, hi, hu⟩) | (hu | ⟨i, hi, hu⟩) <;> simp [Value.ownBlock] at *
  have HST : Hid (DSt w (w1.alloc (.cells #[.slice none 0 0, .slice none 0 0, .int .i64 cp, .int .i64 (-1), .bool false] 26)) w.heap.size M C A B none 0 none 0 [] [] cp (-1)) := hst
  clear hst hal X0 hD0 hD1 hF1 X1 F1 hal1
  go_wp2_with fail
  rw [← hcp, ← hM]
  clear hcp hM
  refine (l1Once_any C A B _ HST.out.cur 6 (by omega) (by omega)).mono ?_
  rintro e w2 ⟨bo, rfl, hD2, hF2⟩
  have H2 : Hid (DSt w w2 w.heap.size M C A B none 0 none 0 [] [] cp (-1)) := HST.out.drawn hF2 hD2
  clear HST hD2 hF2
  have HM : ∃ (wx : World) (fu0 : Int), (-1 ≤ fu0 ∧ fu0 ≤ 2) ∧ Hid (DSt w wx w.heap.size M C A B none 0 none 0 [] [] cp fu0) := ⟨w2, -1, by omega, H2⟩
  clear HM
  cases bo
  case' false =>
    obtain ⟨fu0, hfu0, hfe⟩ : ∃ fu0 : Int, (-1 ≤ fu0 ∧ fu0 ≤ 2) ∧ fu0 = -1 := ⟨-1, by omega, rfl⟩
    have H3 : Hid (DSt w w2 w.heap.size M C A B none 0 none 0 [] [] cp fu0) := by rw [hfe]; exact H2.out
    clear hfe H2
    go_wp2_with fail
  case' true =>
    go_wp2_with fail
    refine (l1Below_any C A B w2 H2.out.cur 3 (by omega) (by omega)).mono ?_
    rintro e w3 ⟨f, rfl, hf3, hD3, hF3⟩
    have H2b := H2.out.drawn hF3 hD3
    have H3 : Hid (DSt w (w3.setCell ⟨M, 3, none⟩ (.int .i64 (f : Int))) w.heap.size M C A B none 0 none 0 [] [] cp (f : Int)) := H2b.fuel f
    obtain ⟨z0, z1, z2, z3, z4⟩ := box_fiveC H2b.hd
    have zf := box_thawC H2b.hd
    have lM := H2b.lt
    clear H2 H2b hD3 hF3
    go_wp2_with fail
    clear z0 z1 z2 z3 z4 zf lM
    generalize w3.setCell ⟨M, 3, none⟩ (.int .i64 (f : Int)) = w2' at H3 ⊢
    obtain ⟨fu0, hfu0, hfe⟩ : ∃ fu0 : Int, (-1 ≤ fu0 ∧ fu0 ≤ 2) ∧ fu0 = (f : Int) := ⟨f, by omega, rfl⟩
    rw [← hfe] at H3
    clear hfe hf3 w2
    rename World => w2
  all_goals
    refine (l1Below_any C A B w2 H3.out.cur 8 (by omega) (by omega)).mono ?_
    rintro e w4 ⟨nn, rfl, hnn, hD4, hF4⟩
    have H4 : Hid (DSt w w4 w.heap.size M C A B none 0 none 0 [] [] cp fu0) := H3.out.drawn hF4 hD4
    clear H3 hD4 hF4
    go_wp2_with fail
    go_loopw [5, 6, 7, 8, 9] (fun i _ _ _ _ wr => ∃ (k : Nat) (a : Option Addr) (c : Nat) (b : Option Addr) (d : Nat) (fs : List PF) (ps : List PP), k ≤ nn ∧ i = .int .i64 k ∧ Hid (ps.length ≤ k) ∧ Hid (DSt w wr w.heap.size M C A B a c b d fs ps cp fu0)) (fun i _ _ _ _ _ => nn - (intOf i).toNat)
    case atStart => exact ⟨0, none, 0, none, 0, [], [], Nat.zero_le _, rfl, Nat.le_refl _, H4⟩
    case round =>
      clear H4
      obtain ⟨k, a, c, b, d, fs, ps, hk, rfl, HPK, HX⟩ := hrel
      by_cases hlt : k < nn
      · go_wp2_with fail
        refine (l1DrawName_any C A B wr HX.out.cur).mono ?_
        rintro e w5 ⟨nm, rfl, hnm, hD5, hF5⟩
        have H5 : Hid (DSt w w5 w.heap.size M C A B a c b d fs ps cp fu0) := HX.out.drawn hF5 hD5
        clear HX hD5 hF5
        obtain ⟨v1, v2, v3, v4, v5, v6, v7⟩ := val_bounds H5.out.val
        have HV : Hid (fs.length ≤ 12 ∧ cp ≤ 1000 ∧ totalI fs ≤ cp ∧ cacheS cp ps fs = true ∧ ps.length ≤ 1000 ∧ (∀ j, j < fs.length → (fs.getD j (ByteArray.empty, [])).2.length ≤ 1048576) ∧ (∀ j, j < ps.length → (ps.getD j (ByteArray.empty, 0, [])).2.2.length ≤ 1048576)) := ⟨v1, v2, v3, v4, v5, v6, v7⟩
        obtain ⟨z0, z1, z2, z3, z4⟩ := box_fiveC H5.out.hd
        have lM := H5.out.lt
        clear v1 v2 v3 v4 v5 v6 v7
        go_wp2_with fail
        clear z0 z1 z2 z3 z4
        refine (l1Seen_any a _ c fs b _ d ps cp fu0 false w5 (M + 1) w5.heap.size (Nat.le_refl _) H5.out.own.files H5.out.own.pends HV.out.1 HV.out.2.1 HV.out.2.2.1 HV.out.2.2.2.1).mono ?_
        rintro e w6 ⟨v6, xs6, vs6, rfl, hO6, hb6⟩
        obtain ⟨a6, n6, c6, rfl, hn6, hF6⟩ := hO6.files
        have H6 : Hid (DSt w w6 w.heap.size M C A B a c b d fs ps cp fu0) := H5.out.below hb6
        clear H5 hb6 hO6 hn6 lM
        go_wp2_with fail
        refine (l1Len_any _ _ _ (lastF ps fs) nm w6 _ _ hF6).mono ?_
        rintro e w7 ⟨rfl, rfl⟩
        obtain ⟨ln, hln⟩ : ∃ ln : Nat, lenI (lastF ps fs) nm = (ln : Int) := ⟨(lenI (lastF ps fs) nm).toNat, (Int.toNat_of_nonneg (lenI_le_total _ nm).1).symm⟩
        have hlb : ln ≤ 1000 := by
          have h1 := (lenI_le_total (lastF ps fs) nm).2
          have h2 := (last_fits ps fs HV.out.1 HV.out.2.2.1 HV.out.2.2.2.1).2
          have h3 := HV.out.2.1
          omega
        rw [hln]
        clear hln hF6
        go_wp2_with fail
        refine (l1Below_any C A B w7 H6.out.cur ((ln : Int) + 1) (by omega) (by omega)).mono ?_
        rintro e w8 ⟨pg, rfl, hpg, hD8, hF8⟩
        have H8 : Hid (DSt w w8 w.heap.size M C A B a c b d fs ps cp fu0) := H6.out.drawn hF8 hD8
        clear H6 hD8 hF8
        go_wp2_with fail
        refine (l1DrawPage_any C A B w8 H8.out.cur).mono ?_
        rintro e w9 ⟨g, bs, rfl, hrow, hbl, hbb, hD9, hF9⟩
        have H9 : Hid (DSt w w9 w.heap.size M C A B a c b d fs ps cp fu0) := H8.out.drawn hF9 hD9
        have l8 := H8.out.lt
        have hg8 := (hrow.lt g rfl).1
        have hby9 : BytesAt w9 (M + 1) w9.heap.size (some ⟨g, 0, none⟩) 128 128 bs := by
          obtain ⟨a9, n9, c9, e9, hb9⟩ := bytesAt_of_own (by rw [hbl]; exact hrow) hbb
          cases e9
          exact hb9.up (by omega) (Nat.le_refl _)
        have hby10 : Hid (BytesAt (w9.setCell ⟨M, 3, none⟩ (.int .i64 (-1))) (M + 1) (w9.setCell ⟨M, 3, none⟩ (.int .i64 (-1))).heap.size (some ⟨g, 0, none⟩) 128 128 bs) := (hby9.keep ((Keeps.refl _ _ _).set (p := ⟨M, 3, none⟩) (.inl (Nat.lt_succ_self _)) _)).up (Nat.le_refl _) (by simp)
        have H10 : Hid (DSt w (w9.setCell ⟨M, 3, none⟩ (.int .i64 (-1))) w.heap.size M C A B a c b d fs ps cp (-1)) := H9.out.fuel (-1)
        obtain ⟨z0, z1, z2, z3, z4⟩ := box_fiveC H9.out.hd
        have zf := box_thawC H9.out.hd
        have lM := H9.out.lt
        obtain ⟨y0, y1, y2, y3, y4⟩ := box_fiveC H10.out.hd
        clear H8 hrow hbb hD9 hF9 hby9 l8 hg8
        go_wp2_with fail
        clear z0 z1 z2 z3 z4 zf lM y0 y1 y2 y3 y4 H9
        generalize w9.setCell ⟨M, 3, none⟩ (.int .i64 (-1)) = w10 at hby10 H10 ⊢
        refine (specWrite_any a _ c fs b _ d ps cp (-1) false nm (pg : Int) _ _ _ bs w10 (M + 1) w10.heap.size (Nat.le_refl _) H10.out.own.files H10.out.own.pends hby10.out (by unfold maxLen; omega) (by omega) (by omega) (Nat.le_trans HV.out.1 (by omega)) (Nat.le_trans HV.out.2.2.2.2.1 (by omega)) (by omega) HV.out.2.2.2.2.2.1 HV.out.2.2.2.2.2.2).mono ?_
        rintro e w11 hR
        obtain ⟨a1, c1, b1, d1, rfl, z11, hb11⟩ := hR.z
        obtain ⟨hv1, hv2⟩ := write_valid (nm := nm) (pg := (pg : Int)) (bs := bs) H10.out.val
        obtain ⟨hv3, hv4⟩ := ds_alive (rwI fs ps cp (-1) false nm (pg : Int) bs)
        rw [hv3, hv4]
        generalize dsX (rwI fs ps cp (-1) false nm (pg : Int) bs) (-1) fs fs = fs1 at hv1 z11 ⊢
        generalize dsX (rwI fs ps cp (-1) false nm (pg : Int) bs) (-1) ps (ps ++ [(nm, (pg : Int), bs)]) = ps1 at hv1 hv2 z11 ⊢
        generalize dsE (rwI fs ps cp (-1) false nm (pg : Int) bs) (-1) = er1
        have H12 : Hid (DSt w (put5C w11 M (.slice a1 fs1.length c1) (.slice b1 ps1.length d1) (.int .i64 cp) (.int .i64 (-1)) (.bool false)) w.heap.size M C A B a1 c1 b1 d1 fs1 ps1 cp (-1)) := H10.out.put hb11 z11 hv1
        have HP1 : Hid (ps1.length ≤ k + 1) := Nat.le_trans hv2 (by have := HPK.out; omega)
        have h11 := H10.out.below hb11
        obtain ⟨z0, z1, z2, z3, z4⟩ := box_fiveC h11.hd
        have zf := box_thawC h11.hd
        have lM := h11.lt
        have hfl := run_fieldDisk (.int .i64 er1) (.slice a1 fs1.length c1) (.slice b1 ps1.length d1) (.int .i64 cp) (.int .i64 (-1)) (.bool false) w11
        clear hR hv1 hv2 hv3 hv4 z11 hb11 H10 h11 hby10 HV HPK
        go_wp2_with fail
        clear z0 z1 z2 z3 z4 zf lM hfl
        have H12' : Hid (DSt w (put5C w11 M (.slice a1 fs1.length c1) (.slice b1 ps1.length d1) (.int .i64 cp) (.int .i64 (-1)) (.bool false)) w.heap.size M C A B a1 c1 b1 d1 fs1 ps1 cp (-1)) := H12
        unfold put5C at H12
        generalize ((((w11.setCell ⟨M, 0, none⟩ (.slice a1 fs1.length c1)).setCell ⟨M, 1, none⟩ (.slice b1 ps1.length d1)).setCell ⟨M, 2, none⟩ (.int .i64 cp)).setCell ⟨M, 3, none⟩ (.int .i64 (-1))).setCell ⟨M, 4, none⟩ (.bool false) = w12 at H12 ⊢
        clear H12'
        refine (l1Once_any C A B w12 H12.out.cur 3 (by omega) (by omega)).mono ?_
        rintro e w13 ⟨bo, rfl, hD13, hF13⟩
        have H13 : Hid (DSt w w13 w.heap.size M C A B a1 c1 b1 d1 fs1 ps1 cp (-1)) := H12.out.drawn hF13 hD13
        clear H12 hD13 hF13
        cases bo
        · obtain ⟨z0, z1, z2, z3, z4⟩ := box_fiveC H13.out.hd
          have zf := box_thawC H13.out.hd
          have lM := H13.out.lt
          have H16 : Hid (DSt w (w13.setCell ⟨M, 3, none⟩ (.int .i64 fu0)) w.heap.size M C A B a1 c1 b1 d1 fs1 ps1 cp fu0) := H13.out.fuel fu0
          clear H13
          go_wp2_with fail
          go_roundw
          case rel => exact ⟨k + 1, a1, c1, b1, d1, fs1, ps1, by omega, by go_num, HP1, H16⟩
          case measure => simp [intOf]; omega
        · obtain ⟨v1, v2, v3, v4, v5, v6, v7⟩ := val_bounds H13.out.val
          have HV : Hid ((∀ j, j < fs1.length → (fs1.getD j (ByteArray.empty, [])).2.length ≤ 1048576) ∧ (∀ j, j < ps1.length → (ps1.getD j (ByteArray.empty, 0, [])).2.2.length ≤ 1048576) ∧ fs1.length ≤ 1048576 ∧ ps1.length ≤ 1048576) := ⟨v6, v7, by omega, by omega⟩
          obtain ⟨z0, z1, z2, z3, z4⟩ := box_fiveC H13.out.hd
          have lM := H13.out.lt
          clear v1 v2 v3 v4 v5 v6 v7
          go_wp2_with fail
          clear z0 z1 z2 z3 z4 lM
          refine (specSync_any a1 _ c1 fs1 b1 _ d1 ps1 cp (-1) false w13 (M + 1) w13.heap.size (Nat.le_refl _) H13.out.own.files H13.out.own.pends (by omega) HV.out.2.2.1 HV.out.2.2.2 HV.out.1 HV.out.2.1).mono ?_
          rintro e w14 hR
          obtain ⟨a2, c2, b2, d2, rfl, z14, hb14⟩ := hR.z
          obtain ⟨hv1, hv2⟩ := sync_valid H13.out.val
          obtain ⟨hv3, hv4⟩ := ds_alive (rsI fs1 ps1 cp (-1) false)
          rw [hv3, hv4]
          generalize dsX (rsI fs1 ps1 cp (-1) false) (-1) fs1 (lastF ps1 fs1) = fs2 at hv1 z14 ⊢
          generalize dsX (rsI fs1 ps1 cp (-1) false) (-1) ps1 [] = ps2 at hv1 hv2 z14 ⊢
          generalize dsE (rsI fs1 ps1 cp (-1) false) (-1) = er2
          have H15 : DSt w (put5C w14 M (.slice a2 fs2.length c2) (.slice b2 ps2.length d2) (.int .i64 cp) (.int .i64 (-1)) (.bool false)) w.heap.size M C A B a2 c2 b2 d2 fs2 ps2 cp (-1) := H13.out.put hb14 z14 hv1
          have H16 : Hid (DSt w ((put5C w14 M (.slice a2 fs2.length c2) (.slice b2 ps2.length d2) (.int .i64 cp) (.int .i64 (-1)) (.bool false)).setCell ⟨M, 3, none⟩ (.int .i64 fu0)) w.heap.size M C A B a2 c2 b2 d2 fs2 ps2 cp fu0) := H15.fuel fu0
          have HP2 : Hid (ps2.length ≤ k + 1) := Nat.le_trans hv2 HP1.out
          have h14 := H13.out.below hb14
          obtain ⟨z0, z1, z2, z3, z4⟩ := box_fiveC h14.hd
          have zf := box_thawC h14.hd
          have lM := h14.lt
          have hfl := run_fieldDisk (.int .i64 er2) (.slice a2 fs2.length c2) (.slice b2 ps2.length d2) (.int .i64 cp) (.int .i64 (-1)) (.bool false) w14
          clear hR hv1 hv2 hv3 hv4 z14 hb14 H13 h14 HV H15
          go_wp2_with fail
          go_roundw
          case rel => exact ⟨k + 1, a2, c2, b2, d2, fs2, ps2, by omega, by go_num, HP2, H16⟩
          case measure => simp [intOf]; omega
      · obtain ⟨z0, z1, z2, z3, z4⟩ := box_fiveC HX.out.hd
        obtain ⟨y0, y1, y2, y3, y4⟩ := box_fiveC HX.out.rs
        have yf := box_thawC HX.out.rs
        have lM := HX.out.lt
        have lN := HX.out.lo
        have lN2 : w.heap.size < wr.heap.size := by omega
        have X5 := put5C_box HX.out.rs (.slice a fs.length c) (.slice b ps.length d) (.int .i64 cp) (.int .i64 fu0) (.bool false)
        have hf := put5C_fr wr w.heap.size (.slice a fs.length c) (.slice b ps.length d) (.int .i64 cp) (.int .i64 fu0) (.bool false)
        have HE : Hid (OwnZ (put5C wr w.heap.size (.slice a fs.length c) (.slice b ps.length d) (.int .i64 cp) (.int .i64 fu0) (.bool false)) w.heap.size (put5C wr w.heap.size (.slice a fs.length c) (.slice b ps.length d) (.int .i64 cp) (.int .i64 fu0) (.bool false)).heap.size (.slice a fs.length c) (.slice b ps.length d) fs ps ∧ implV fs ps cp (-1) = true ∧ (-1 ≤ fu0 ∧ fu0 ≤ 2) ∧ ps.length ≤ 8 ∧ DCur (put5C wr w.heap.size (.slice a fs.length c) (.slice b ps.length d) (.int .i64 cp) (.int .i64 fu0) (.bool false)) C A B ∧ Fr (fun g => g = C) w (put5C wr w.heap.size (.slice a fs.length c) (.slice b ps.length d) (.int .i64 cp) (.int .i64 fu0) (.bool false))) :=
          ⟨((HX.out.own.fr hf (fun g e => by omega)).up hf.size).lo (by omega), HX.out.val, hfu0, by have := HPK.out; omega, HX.out.cur.belowN (hf.below (B := w.heap.size) (by omega) (fun g e => by omega)) (by omega), HX.out.fr.lateD hf (fun g e => by omega)⟩
        clear HX hf
        go_wp2_with fail
        show bodyPost _ _ _ _ _ (put5C wr w.heap.size (.slice a fs.length c) (.slice b ps.length d) (.int .i64 cp) (.int .i64 fu0) (.bool false))
        clear z0 z1 z2 z3 z4 y0 y1 y2 y3 y4 yf
        obtain ⟨z0, z1, z2, z3, z4⟩ := box_fiveC X5
        exact bodyPost_ret (v := .agg #[.slice a fs.length c, .slice b ps.length d, .int .i64 cp, .int .i64 fu0, .bool false]) (by simp [results, Try.results74, go_sem, z0, z1, z2, z3, z4]) rfl ⟨⟨a, c, b, d, fs, ps, cp, fu0, rfl, HE.out⟩⟩
end Go.Proofs.Ytakdaandbdbdnaa
namespace Go.Proofs.Ytakdaandbdbdnaa
open Go.RowKit
set_option linter.unusedVariables false
set_option maxRecDepth 100000

/-- The bounds of a disk that was drawn, good or bad. -/
structure BD (fs : List PF) (ps : List PP) (cp fu : Int) : Prop where
  nf : fs.length ≤ 100
  np : ps.length ≤ 100
  sf : ∀ j, j < fs.length → (fs.getD j (ByteArray.empty, [])).2.length ≤ 1048576
  sp : ∀ p ∈ ps, 0 ≤ p.2.1 ∧ p.2.1 ≤ 1000 ∧ p.2.2.length ≤ 128
  rc : -100000 ≤ cp ∧ cp ≤ 100000
  rf : -100000 ≤ fu ∧ fu ≤ 1000000
/-- A disk that was drawn, as an answer; its lists lie above lo. -/
structure BndD (w : World) (e : Ending) (w' : World) (lo C A B : Nat) : Prop where
  ex : ∃ (a : Option Addr) (n c : Nat) (b : Option Addr) (m d : Nat) (fs : List PF) (ps : List PP) (cp fu : Int) (de : Bool), e = .returned (.agg #[.slice a n c, .slice b m d, .int .i64 cp, .int .i64 fu, .bool de]) ∧ FilesAt w' lo w'.heap.size a n c fs ∧ PendsAt w' lo w'.heap.size b m d ps ∧ BD fs ps cp fu ∧ DCur w' C A B ∧ Fr (fun g => g = C ∨ lo ≤ g) w w'
theorem pend_pages : ∀ (ps : List PP) (fs : List PF) (cp : Int), cp ≤ 1000 → cacheS cp ps fs = true → totalI fs ≤ cp → ∀ p ∈ ps, 0 ≤ p.2.1 ∧ p.2.1 ≤ 1000 ∧ p.2.2.length ≤ 128
  | [], _, _, _, _, _ => fun p hp => by cases hp
  | q :: r, fs, cp, hcp, hc, ht => by
    simp only [cacheS, pendOk, fitsB, Bool.and_eq_true, decide_eq_true_eq, beq_iff_eq] at hc
    intro p hp
    rcases List.mem_cons.1 hp with e | e
    · rw [e]
      have := (lenI_le_total fs q.1).2
      exact ⟨hc.1.2.1, by have := hc.1.2.2; omega, by have := hc.1.1.2; omega⟩
    · exact pend_pages r _ cp hcp hc.2.2 hc.2.1.2 p e
theorem bd_of {fs : List PF} {ps : List PP} {cp fu : Int} (h : implV fs ps cp (-1) = true) (hf : -1 ≤ fu ∧ fu ≤ 2) (hp : ps.length ≤ 8) : BD fs ps cp fu := by
  obtain ⟨v1, v2, v3, v4, v5, v6, v7⟩ := val_bounds h
  obtain ⟨t1, _⟩ := implV_parts h
  exact ⟨by omega, by omega, v6, pend_pages ps fs cp v2 v4 v3, by omega, by omega⟩
/-- The state inside: the disk's block N, the answer's block N + 1. -/
structure SSt (w wr : World) (N lo C A B : Nat) (vf vp vc vu vd : Value) : Prop where
  hd : wr.heap[N]? = some (.cells #[vf, vp, vc, vu, vd] 26)
  rs : wr.heap[N + 1]? = some (.cells #[.slice none 0 0, .slice none 0 0, .int .i64 0, .int .i64 0, .bool false] 26)
  cur : DCur wr C A B
  fr : Fr (fun g => g = C ∨ lo ≤ g) w wr
  lo : C < lo ∧ lo ≤ N
theorem SSt.drawn {w wr wr' : World} {N lo C A B : Nat} {vf vp vc vu vd : Value} (h : SSt w wr N lo C A B vf vp vc vu vd) (hf : Fr (fun g => g = C) wr wr') (hD : DCur wr' C A B) : SSt w wr' N lo C A B vf vp vc vu vd := by
  have hl := h.lo
  exact ⟨box_fr h.hd hf (by omega), box_fr h.rs hf (by omega), hD, h.fr.trans (hf.weak (fun g e => .inl e)), hl⟩
theorem SSt.set {w wr : World} {N lo C A B : Nat} {vf vp vc vu vd : Value} (h : SSt w wr N lo C A B vf vp vc vu vd) (j : Nat) (u : Value) (hlw : lo ≤ w.heap.size) : Fr (fun g => g = C ∨ lo ≤ g) w (wr.setCell ⟨N, j, none⟩ u) ∧ DCur (wr.setCell ⟨N, j, none⟩ u) C A B ∧ (wr.setCell ⟨N, j, none⟩ u).heap[N + 1]? = some (.cells #[.slice none 0 0, .slice none 0 0, .int .i64 0, .int .i64 0, .bool false] 26) := by
  have hl := h.lo
  have hf := fr_setCell wr N j u
  have hN : N < wr.heap.size := (Array.getElem?_eq_some_iff.1 h.hd).1
  exact ⟨h.fr.trans (hf.weak (fun g e => .inr (by omega))), h.cur.belowN (hf.below (B := N) (by omega) (fun g e => by omega)) (by omega), box_fr h.rs hf (by omega)⟩

end Go.Proofs.Ytakdaandbdbdnaa
namespace Go.Proofs.Ytakdaandbdbdnaa
open Go.RowKit
set_option linter.unusedVariables false
set_option maxRecDepth 100000

theorem blk_snoc {v v' vb : Value} {vs : List Value} {g : Nat} (h : Blk v' (vs ++ [vb]) g) : v'.ownBlock = some g ∨ (∃ j, j < vs.length ∧ (vs.getD j (.slice none 0 0)).ownBlock = some g) ∨ vb.ownBlock = some g := by
  rcases h with h | ⟨j, hj, h⟩
  · exact .inl h
  · by_cases hl : j < vs.length
    · refine .inr (.inl ⟨j, hl, ?_⟩)
      simpa [List.getD, List.getElem?_append_left hl] using h
    · refine .inr (.inr ?_)
      simp at hj
      have : j = vs.length := by omega
      subst this
      simpa [List.getD] using h
theorem OwnP.push2 {w1 w2 w3 : World} {base : Nat} {v v' vb : Value} {fs : List PP} {xs vs : List Value} {f : PP} (h : OwnP w1 base v fs xs vs)
    (hvb : w1.ownsRow base 5 1 vb f.2.2.length (u8s f.2.2)) (hap : ∀ i, i < fs.length → ∀ g, (vs.getD i (.slice none 0 0)).ownBlock = some g → vb.ownBlock ≠ some g) (hs : f.1.size ≤ maxLen) (hpg : -9223372036854775808 ≤ f.2.1 ∧ f.2.1 ≤ 9223372036854775807) (hby : ∀ x ∈ f.2.2, 0 ≤ x ∧ x ≤ 255) (hb2 : Below w1.heap.size w1 w2)
    (hrow : w3.ownsRow base 71 3 v' (fs.length + 1) (xs ++ [.string f.1, .int .i64 f.2.1, vb])) (hgr : w2.grownBy w3 v.ownBlock) : OwnP w3 base v' (fs ++ [f]) (xs ++ [.string f.1, .int .i64 f.2.1, vb]) (vs ++ [vb]) := by
  have h1 := h.below hb2
  have hvb2 := owns_below hvb hb2
  have hx := h.row.1
  have hbb : w3.ownsRow base 5 1 vb f.2.2.length (u8s f.2.2) := by
    have := hvb2.kept hgr (own_ne2 (by decide) h1.row hvb2)
    refine ⟨this.1, ?_⟩
    rcases this.2 with hn | ⟨g, cap, cur, e1, e2, e3⟩
    · exact .inl hn
    · exact .inr ⟨g, cap, cur, e1, e2, e3⟩
  have hvl := h.len
  refine ⟨by simpa using hrow, by simp [hvl], ?_, ?_, ?_, ?_, ?_, ?_⟩
  · intro j hj
    simp at hj
    by_cases hjk : j < fs.length
    · rw [getD_snoc_lt _ _ _ _ hjk, List.getElem?_append_left (by omega)]; exact h.name j hjk
    · obtain rfl : j = fs.length := by omega
      rw [getD_snoc_eq, List.getElem?_append_right (by omega)]
      exact ⟨by simp [hx], hs⟩
  · intro j hj
    simp at hj
    by_cases hjk : j < fs.length
    · rw [getD_snoc_lt _ _ _ _ hjk, List.getElem?_append_left (by omega)]; exact h.page j hjk
    · obtain rfl : j = fs.length := by omega
      rw [getD_snoc_eq, List.getElem?_append_right (by omega)]
      exact ⟨by simp [hx], hpg⟩
  · intro j hj
    simp at hj
    by_cases hjk : j < fs.length
    · rw [getD_snoc_lt _ _ _ _ (by omega), List.getElem?_append_left (by omega)]; exact h.val j hjk
    · obtain rfl : j = fs.length := by omega
      rw [show fs.length = vs.length from hvl.symm, getD_snoc_eq, List.getElem?_append_right (by omega)]
      simp [hx, hvl]
  · intro j hj
    simp at hj
    by_cases hjk : j < fs.length
    · rw [getD_snoc_lt _ _ _ _ (by omega), getD_snoc_lt _ _ _ _ hjk]
      exact (h1.data j hjk).kept hgr (own_ne2 (by decide) h1.row (h1.data j hjk))
    · obtain rfl : j = fs.length := by omega
      rw [getD_snoc_eq, show fs.length = vs.length from hvl.symm, getD_snoc_eq]
      exact hbb
  · intro j hj
    simp at hj
    by_cases hjk : j < fs.length
    · rw [getD_snoc_lt _ _ _ _ hjk]; exact h.byte j hjk
    · obtain rfl : j = fs.length := by omega
      rw [getD_snoc_eq]; exact hby
  · intro i j hij hj g hg
    simp at hj
    rw [getD_snoc_lt _ _ _ _ (by omega)] at hg
    by_cases hjk : j < fs.length
    · rw [getD_snoc_lt _ _ _ _ (by omega)]; exact h.apart i j hij hjk g hg
    · obtain rfl : j = fs.length := by omega
      rw [show fs.length = vs.length from hvl.symm, getD_snoc_eq]
      exact hap i (by omega) g hg

theorem push_file {w1 w2 w3 w4 : World} {lo N : Nat} {b : Option Addr} {m d : Nat} {v v' vb : Value} {fs : List PF} {ps : List PP} {xs vs ys us : List Value} {nm : ByteArray} {bs : List Int} (hO : OwnD w1 lo v (.slice b m d) fs ps xs vs ys us) (hg : ∀ g, Blk v vs g ∨ Blk (.slice b m d) us g → g < N) (hN : N + 2 ≤ w1.heap.size) (hlo : lo ≤ N) (b12 : Below w1.heap.size w1 w2) (hvb : w2.ownsRow w1.heap.size 5 1 vb bs.length (u8s bs)) (hs : nm.size ≤ maxLen) (hby : ∀ x ∈ bs, 0 ≤ x ∧ x ≤ 255) (b23 : Below w2.heap.size w2 w3)
    (hrow : w4.ownsRow lo 92 2 v' (fs.length + 1) (xs ++ [.string nm, vb])) (hgr : w3.grownBy w4 v.ownBlock) (hli : v'.ownBlock = v.ownBlock ∨ ∀ g, v'.ownBlock = some g → w3.heap.size ≤ g) :
    Fr (fun g => lo ≤ g ∧ g < N) w3 w4 ∧ ∀ wX, Fr (fun g => g = N ∨ g = N + 1) w4 wX → ∃ a' c', v' = .slice a' (fs.length + 1) c' ∧ FilesAt wX lo wX.heap.size a' (fs.length + 1) c' (fs ++ [(nm, bs)]) ∧ PendsAt wX lo wX.heap.size b m d ps := by
  have hF4 := hO.files.push (f := (nm, bs)) (by omega) b12 hvb hs hby b23 hrow hgr
  have hG : Fr (fun g => v.ownBlock = some g) w3 w4 := Fr.of_grown hgr (fun g e => e)
  have s12 := b12.size
  have s23 := b23.size
  refine ⟨hG.weak (fun g e => ⟨(hO.files.row.lt g e).1, hg g (.inl (.inl e))⟩), fun wX hX => ?_⟩
  have hFX := hF4.fr hX (fun g hB e => by
    rcases blk_snoc (v := v) hB with h | ⟨j, hj, h⟩ | h
    · rcases hli with h2 | h2
      · have := hg g (.inl (.inl (h2 ▸ h))); omega
      · have := h2 g h; omega
    · have := hg g (.inl (.inr ⟨j, hj, h⟩)); omega
    · have := (hvb.lt g h).1; omega)
  have hP4 := ((hO.cache.below b12).below b23).fr hG (fun g hB e => hO.apart g (.inl e) hB)
  have hPX := hP4.fr hX (fun g hB e => by have := hg g (.inr hB); omega)
  obtain ⟨a', n', c', e1, e2, e3⟩ := hFX.files
  obtain ⟨b', m', d', e4, e5, e6⟩ := hPX.pends
  cases e4
  simp at e2
  subst e2
  exact ⟨a', c', e1, e3, e6⟩
theorem push_pend {w1 w2 w3 w4 : World} {lo N : Nat} {a : Option Addr} {n c : Nat} {v v' vb : Value} {fs : List PF} {ps : List PP} {xs vs ys us : List Value} {nm : ByteArray} {pg : Int} {bs : List Int} (hO : OwnD w1 lo (.slice a n c) v fs ps xs vs ys us) (hg : ∀ g, Blk (.slice a n c) vs g ∨ Blk v us g → g < N) (hN : N + 2 ≤ w1.heap.size) (hlo : lo ≤ N) (b12 : Below w1.heap.size w1 w2) (hvb : w2.ownsRow w1.heap.size 5 1 vb bs.length (u8s bs)) (hs : nm.size ≤ maxLen) (hpg : -9223372036854775808 ≤ pg ∧ pg ≤ 9223372036854775807) (hby : ∀ x ∈ bs, 0 ≤ x ∧ x ≤ 255) (b23 : Below w2.heap.size w2 w3)
    (hrow : w4.ownsRow lo 71 3 v' (ps.length + 1) (ys ++ [.string nm, .int .i64 pg, vb])) (hgr : w3.grownBy w4 v.ownBlock) (hli : v'.ownBlock = v.ownBlock ∨ ∀ g, v'.ownBlock = some g → w3.heap.size ≤ g) :
    Fr (fun g => lo ≤ g ∧ g < N) w3 w4 ∧ ∀ wX, Fr (fun g => g = N ∨ g = N + 1) w4 wX → ∃ b' d', v' = .slice b' (ps.length + 1) d' ∧ FilesAt wX lo wX.heap.size a n c fs ∧ PendsAt wX lo wX.heap.size b' (ps.length + 1) d' (ps ++ [(nm, pg, bs)]) := by
  have hF4 := hO.cache.push (f := (nm, pg, bs)) (by omega) b12 hvb hs hpg hby b23 hrow hgr
  have hG : Fr (fun g => v.ownBlock = some g) w3 w4 := Fr.of_grown hgr (fun g e => e)
  have s12 := b12.size
  have s23 := b23.size
  refine ⟨hG.weak (fun g e => ⟨(hO.cache.row.lt g e).1, hg g (.inr (.inl e))⟩), fun wX hX => ?_⟩
  have hFX := hF4.fr hX (fun g hB e => by
    rcases blk_snoc (v := v) hB with h | ⟨j, hj, h⟩ | h
    · rcases hli with h2 | h2
      · have := hg g (.inr (.inl (h2 ▸ h))); omega
      · have := h2 g h; omega
    · have := hg g (.inr (.inr ⟨j, hj, h⟩)); omega
    · have := (hvb.lt g h).1; omega)
  have hP4 := ((hO.files.below b12).below b23).fr hG (fun g hB e => hO.apart g hB (.inl e))
  have hPX := hP4.fr hX (fun g hB e => by have := hg g (.inl hB); omega)
  obtain ⟨b', m', d', e1, e2, e3⟩ := hFX.pends
  obtain ⟨a', n', c', e4, e5, e6⟩ := hPX.files
  cases e4
  simp at e2
  subst e2
  exact ⟨b', d', e1, e6, e3⟩
theorem push_pend2 {w2 w3 w4 : World} {lo N : Nat} {a : Option Addr} {n c : Nat} {v v' vb : Value} {fs : List PF} {ps : List PP} {xs vs ys us : List Value} {nm : ByteArray} {pg : Int} {bs : List Int} (hO : OwnD w2 lo (.slice a n c) v fs ps xs vs ys us) (hg : ∀ g, Blk (.slice a n c) vs g ∨ Blk v us g → g < N) (hN : N + 2 ≤ w2.heap.size) (hlo : lo ≤ N) (hvb : w2.ownsRow (N + 2) 5 1 vb bs.length (u8s bs)) (hs : nm.size ≤ maxLen) (hpg : -9223372036854775808 ≤ pg ∧ pg ≤ 9223372036854775807) (hby : ∀ x ∈ bs, 0 ≤ x ∧ x ≤ 255) (b23 : Below w2.heap.size w2 w3)
    (hrow : w4.ownsRow lo 71 3 v' (ps.length + 1) (ys ++ [.string nm, .int .i64 pg, vb])) (hgr : w3.grownBy w4 v.ownBlock) (hli : v'.ownBlock = v.ownBlock ∨ ∀ g, v'.ownBlock = some g → w3.heap.size ≤ g) :
    Fr (fun g => lo ≤ g ∧ g < N) w3 w4 ∧ ∀ wX, Fr (fun g => g = N ∨ g = N + 1) w4 wX → ∃ b' d', v' = .slice b' (ps.length + 1) d' ∧ FilesAt wX lo wX.heap.size a n c fs ∧ PendsAt wX lo wX.heap.size b' (ps.length + 1) d' (ps ++ [(nm, pg, bs)]) := by
  have hF4 := hO.cache.push2 (f := (nm, pg, bs)) (own_lowerC hvb (by omega)) (fun i hi g h1 h2 => by have e1 := (hvb.lt g h2).1; have e2 := hg g (.inr (.inr ⟨i, by rw [hO.cache.len]; exact hi, h1⟩)); omega) hs hpg hby b23 hrow hgr
  have hG : Fr (fun g => v.ownBlock = some g) w3 w4 := Fr.of_grown hgr (fun g e => e)
  have s23 := b23.size
  refine ⟨hG.weak (fun g e => ⟨(hO.cache.row.lt g e).1, hg g (.inr (.inl e))⟩), fun wX hX => ?_⟩
  have hFX := hF4.fr hX (fun g hB e => by
    rcases blk_snoc (v := v) hB with h | ⟨j, hj, h⟩ | h
    · rcases hli with h2 | h2
      · have := hg g (.inr (.inl (h2 ▸ h))); omega
      · have := h2 g h; omega
    · have := hg g (.inr (.inr ⟨j, hj, h⟩)); omega
    · have := (hvb.lt g h).1; omega)
  have hP4 := (hO.files.below b23).fr hG (fun g hB e => hO.apart g hB (.inl e))
  have hPX := hP4.fr hX (fun g hB e => by have := hg g (.inl hB); omega)
  obtain ⟨b', m', d', e1, e2, e3⟩ := hFX.pends
  obtain ⟨a', n', c', e4, e5, e6⟩ := hPX.files
  cases e4
  simp at e2
  subst e2
  exact ⟨b', d', e1, e6, e3⟩
end Go.Proofs.Ytakdaandbdbdnaa
