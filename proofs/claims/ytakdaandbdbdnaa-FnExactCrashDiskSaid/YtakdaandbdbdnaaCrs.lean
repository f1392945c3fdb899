import Derived.Test.YtakdaandbdbdnaaFls
import Derived.Test.YtakdaandbdbdnaaSpV
import Derived.Test.YtakdaandbdbdnaaCri
namespace Go.Proofs.Ytakdaandbdbdnaa
open Go.RowKit Go.Maps
set_option linter.unusedVariables false
set_option maxRecDepth 100000

theorem BytesAt.cut {w : World} {A B : Nat} {a : Option Addr} {n c t : Nat} {bs : List Int} (h : BytesAt w A B a n c bs) (ht : t ≤ n) : BytesAt w A B a t c (bs.take t) := by
  obtain ⟨h1, h2, h3, h4, h5, h6⟩ := h
  refine ⟨by simp; omega, by omega, h3, fun x hx => h4 x (List.mem_of_mem_take hx), fun hn => ?_, h6⟩
  obtain ⟨b, off, rfl, hlt, hc⟩ := h5 (by omega)
  refine ⟨b, off, rfl, hlt, fun i hi => (hc i (by omega)).trans ?_⟩
  simp [List.getD, List.getElem?_take_of_lt hi]
theorem BytesAt.cutN {w : World} {A B : Nat} {a : Option Addr} {c t T : Nat} {bs : List Int} (h : BytesAt w A B a 128 c bs) (ht : t ≤ 128) (hT : t = T) : BytesAt w A B a T c (bs.take t) := by
  subst hT
  exact h.cut ht
set_option maxHeartbeats 6400000 in
theorem specCrash_any (a : Option Addr) (n c : Nat) (fs : List PF) (b : Option Addr) (m d : Nat) (ps : List PP) (cp fu : Int) (de : Bool) (ka : Option Addr) (kn kc : Nat) (ks : List Bool) (tr ta : Int) (w : World) (A B : Nat) (hB : B ≤ w.heap.size) (hF : FilesAt w A B a n c fs) (hP : PendsAt w A B b m d ps) (hK : BoolsAt w A B ka kn kc ks)
    (hall : ∀ j, j < n → (fs.getD j (ByteArray.empty, [])).2.length ≤ 1048576) :
    Calls Try.prog 24 #[.agg #[.slice a n c, .slice b m d, .int .i64 cp, .int .i64 fu, .bool de], .agg #[.slice ka kn kc, .int .i64 tr, .int .i64 ta]] w fun e w' => DskAt w e w' (crG fs ps cp fu tr ta ks) (crC fs ps cp fu) (crU fs ps cp fu) := by
  have HF : Hid (∀ W, Below w.heap.size w W → FilesAt W A B a n c fs) := fun W hW => hF.below (hW.mono hB)
  have HP : Hid (∀ W, Below w.heap.size w W → PendsAt W A B b m d ps) := fun W hW => hP.below (hW.mono hB)
  have HKS : Hid (∀ W, Below w.heap.size w W → BoolsAt W A B ka kn kc ks) := fun W hW => hK.below (hW.mono hB)
  have HA : Hid (∀ j, j < n → (fs.getD j (ByteArray.empty, [])).2.length ≤ 1048576) := hall
  have HFL : Hid (fs.length = n) := hF.1
  have HPL : Hid (ps.length = m) := hP.1
  have HNM : Hid (∀ f ∈ fs, f.1.size ≤ maxLen) := fun f hf => by
    obtain ⟨i, hi, rfl⟩ := List.getElem_of_mem hf
    obtain ⟨ab, aoff, _, _, hcb⟩ := hF.2.2.2 (by have := hF.1; omega)
    have := (hcb i (by have := hF.1; omega)).2.1
    simpa [List.getD, List.getElem?_eq_getElem hi] using this
  have HBY : Hid (ByteF fs) := by
    intro nm x hx
    unfold dataN at hx
    by_cases hf : findN fs nm < fs.length
    · rw [if_pos hf] at hx
      obtain ⟨ab, aoff, _, _, hcb⟩ := hF.2.2.2 (by have := hF.1; omega)
      obtain ⟨p1, p2, pa, pn, pc, p3, p4⟩ := hcb (findN fs nm) (by have := hF.1; omega)
      exact p4.2.2.2.1 x hx
    · rw [if_neg hf] at hx; cases hx
  have pnc := hP.2.1
  have pc0 := hP.2.2.1
  have knc := hK.2.1
  have kc0 := hK.2.2.1
  unfold maxLen at pc0 kc0
  obtain ⟨gs, hgs⟩ : ∃ gs, gs = crG fs ps cp fu tr ta ks := ⟨_, rfl⟩
  obtain ⟨cC, hcC⟩ : ∃ x, x = crC fs ps cp fu := ⟨_, rfl⟩
  obtain ⟨cU, hcU⟩ : ∃ x, x = crU fs ps cp fu := ⟨_, rfl⟩
  rw [← hgs, ← hcC, ← hcU]
  have HG : Hid (gs = crG fs ps cp fu tr ta ks) := hgs
  have HC : Hid (cC = crC fs ps cp fu) := hcC
  have HU : Hid (cU = crU fs ps cp fu) := hcU
  clear hF hP hK hall hgs hcC hcU
  go_enter Try.func24, Try.ntmps24
  go_wp2_with fail
  obtain ⟨W0, hW0⟩ : ∃ W0, W0 = ((w.alloc (.cells #[.slice a n c, .slice b m d, .int .i64 cp, .int .i64 fu, .bool de] 26)).alloc (.cells #[.slice ka kn kc, .int .i64 tr, .int .i64 ta] 34)).alloc (.cells #[.slice none 0 0, .slice none 0 0, .int .i64 0, .int .i64 0, .bool false] 26) := ⟨_, rfl⟩
  obtain ⟨hs0, hb0, k0, k1, k2⟩ := three_allocs hW0
  rw [← hW0]
  clear hW0
  refine (specValid_any a n c fs b m d ps cp fu de W0 A B (by omega) (HF.out _ hb0) (HP.out _ hb0) HA.out).mono ?_
  rintro e w1 ⟨rfl, hb1⟩
  have hs1 := hb1.size
  have X0 := box_below k0 hb1
  have X1 := box_below k1 hb1
  have X2 := box_below k2 hb1
  have bel1 : Below w.heap.size w w1 := hb0.trans (hb1.mono (by omega))
  have l0 : w.heap.size < w1.heap.size := by omega
  have l1 : w.heap.size + 1 < w1.heap.size := by omega
  have l2 : w.heap.size + 1 + 1 < w1.heap.size := by omega
  rw [valid_eq]
  obtain ⟨vv, hvv⟩ : ∃ v, v = implV fs ps cp fu := ⟨_, rfl⟩
  rw [← hvv]
  have HV : Hid (vv = implV fs ps cp fu) := hvv
  clear hvv k0 k1 k2 hb0 hb1 hs0
  cases vv
  · obtain ⟨z0, z1, z2, z3, z4⟩ := box_fiveC X2
    have hz := box_thawC X2
    have X3 := put5C_box X2 (.slice none 0 0) (.slice none 0 0) (.int .i64 0) (.int .i64 0) (.bool false)
    go_wp2_with fail
    show bodyPost _ _ _ _ _ (put5C w1 (w.heap.size + 1 + 1) (.slice none 0 0) (.slice none 0 0) (.int .i64 0) (.int .i64 0) (.bool false))
    clear z0 z1 z2 z3 z4 hz
    obtain ⟨z0, z1, z2, z3, z4⟩ := box_fiveC X3
    refine bodyPost_ret (v := .agg #[.slice none 0 0, .slice none 0 0, .int .i64 0, .int .i64 0, .bool false]) (by simp [results, Try.results24, go_sem, z0, z1, z2, z3, z4]) rfl ?_
    have e1 : gs = [] := by rw [HG.out]; unfold crG; rw [← HV.out]; simp
    have e2 : cC = 0 := by rw [HC.out]; unfold crC; rw [← HV.out]; simp
    have e3 : cU = 0 := by rw [HU.out]; unfold crU; rw [← HV.out]; simp
    subst e1 e2 e3
    exact DskAt.mk5 (base := w1.heap.size) (by omega) (by omega) (OwnF.nil (own_noneF w1 _)) bel1
  · obtain ⟨q1, q2, q3, q4, q5⟩ := specV_parts (by rw [valid_eq]; exact HV.out.symm)
    have hpm : m ≤ 1000 := by
      have h2 := HV.out.symm
      simp only [implV, Bool.and_eq_true, decide_eq_true_eq] at h2
      have := HPL.out
      omega
    have hn12 : n ≤ 12 := by have := HFL.out; omega
    have e1 : gs = crF tr ta ks 0 ps fs := by rw [HG.out]; unfold crG; rw [← HV.out]; simp
    have e2 : cC = cp := by rw [HC.out]; unfold crC; rw [← HV.out]; simp
    have e3 : cU = -1 := by rw [HU.out]; unfold crU; rw [← HV.out]; simp
    subst e2 e3
    have HG1 : Hid (gs = crF tr ta ks 0 ps fs) := e1
    have HCR : Hid (CrI fs fs cC) := ⟨inv_all q5, HBY.out, sortedN_of_ok (of_decide_eq_true q5), HNM.out, Und.refl _, inv_all q5, q3, q1⟩
    have HCA : Hid (cacheS cC ps fs = true) := q4
    have HI : Hid (Inv fs) := inv_all q5
    clear e1 HG HC HU q1 q3 q4 q5 HNM HBY HV
    obtain ⟨z0, z1, z2, z3, z4⟩ := box_fiveC X0
    obtain ⟨c0, c1, c2⟩ := box_threeC X1
    obtain ⟨TA, hTA⟩ : ∃ TA, TA = ta := ⟨_, rfl⟩
    have HG2 : Hid (gs = crF tr TA ks 0 ps fs) := by show _ = _; rw [hTA]; exact HG1.out
    have h3 : (ta < 0 ∧ atN TA = 0) ∨ (∃ tn : Nat, ta = (tn : Int) ∧ tn ≤ 128 ∧ atN TA = tn) ∨ (128 < ta ∧ atN TA = 128) := by
      rw [hTA]
      unfold atN
      by_cases h1 : ta < 0
      · exact .inl ⟨h1, by omega⟩
      · by_cases h2 : 128 < ta
        · exact .inr (.inr ⟨h2, by omega⟩)
        · exact .inr (.inl ⟨ta.toNat, by omega, by omega, by omega⟩)
    clear hTA HG1
    rcases h3 with ⟨h3, h4⟩ | ⟨tn, rfl, h3, h4⟩ | ⟨h3, h4⟩
    all_goals
      have HT : Hid _ := h4
      clear h4
      go_wp2_with fail
      refine (l1Files_any _ _ _ fs w1 A B (by omega) (HF.out _ bel1) (by omega) HA.out).mono ?_
      rintro e w2 ⟨v2, xs2, vs2, rfl, hO2, hb2⟩
      obtain ⟨a2, n2, c2', rfl, hn2, _⟩ := hO2.files
      have hs2 := hb2.size
      have Y0 := box_below X0 hb2
      have Y1 := box_below X1 hb2
      have Y2 := box_below X2 hb2
      have bel2 : Below w.heap.size w w2 := bel1.trans (hb2.mono (by omega))
      have hs13 : w.heap.size + 3 ≤ w1.heap.size := by omega
      have HO2 : Hid (OwnF w2 w1.heap.size (.slice a2 n2 c2') fs xs2 vs2) := hO2
      generalize w1.heap.size = NB at HO2 hs13 hs2
      clear X0 X1 X2 z0 z1 z2 z3 z4 c0 c1 c2 l0 l1 l2 bel1 hb2 hO2 hn2 hs1
      have HY0 : Hid _ := Y0
      obtain ⟨xv, Y1'⟩ : ∃ xv, w2.heap[w.heap.size + 1]? = some (.cells #[.slice ka kn kc, .int .i64 tr, xv] 34) := ⟨_, Y1⟩
      have HY1 : Hid _ := Y1'
      have HY2 : Hid _ := Y2
      have HB2 : Hid (Below w.heap.size w w2) := bel2
      clear Y0 Y1 Y1' Y2 bel2
      go_wp2
      go_loopw [6, 7, 8] (fun v i _ wr => ∃ (k : Nat) (fk gk : List PF) (xk vk : List Value) (a' : Option Addr) (n' c' : Nat), k ≤ m ∧ i = .int .i64 k ∧ v = .slice a' n' c' ∧ Hid (OwnF wr NB (.slice a' n' c') fk xk vk) ∧ Hid (CrI fk gk cC) ∧ Hid (cacheS cC (ps.drop k) gk = true) ∧ Hid (gs = crF tr TA ks k (ps.drop k) fk) ∧ Hid (Below w.heap.size w wr) ∧ Hid (NB ≤ wr.heap.size ∧ wr.heap[w.heap.size]? = some (.cells #[.slice a n c, .slice b m d, .int .i64 cC, .int .i64 fu, .bool de] 26) ∧ wr.heap[w.heap.size + 1]? = some (.cells #[.slice ka kn kc, .int .i64 tr, xv] 34) ∧ wr.heap[w.heap.size + 1 + 1]? = some (.cells #[.slice none 0 0, .slice none 0 0, .int .i64 0, .int .i64 0, .bool false] 26))) (fun _ i _ _ => m - (intOf i).toNat)
      case atStart => exact ⟨0, fs, fs, xs2, vs2, a2, n2, c2', Nat.zero_le _, rfl, rfl, HO2, HCR, HCA, HG2, HB2, by omega, HY0.out, HY1.out, HY2.out⟩
      case round =>
        clear HO2 HCR HCA HG2 HB2 HY0 HY1 HY2 HI
        obtain ⟨k, fk, gk, xk, vk, a', n', c', hk, rfl, rfl, HO, HCR, HCA, HLA, HBE, HX⟩ := hrel
        obtain ⟨y0, y1, y2, y3, y4⟩ := box_fiveC HX.out.2.1
        by_cases hlt : k < m
        · obtain ⟨_, _, _, pcell⟩ := HP.out wr HBE.out
          obtain ⟨pb, poff, rfl, hpb, hpc⟩ := pcell (by omega)
          have e1 := hpc k hlt
          have hpl := HPL.out
          have hdr : ps.drop k = ps.getD k (ByteArray.empty, 0, []) :: ps.drop (k + 1) := by
            rw [List.drop_eq_getElem_cons (by omega)]; simp [List.getD, List.getElem?_eq_getElem (show k < ps.length by omega)]
          obtain ⟨p, hp⟩ : ∃ p, p = ps.getD k (ByteArray.empty, 0, []) := ⟨_, rfl⟩
          rw [← hp] at e1 hdr
          clear hp
          obtain ⟨nm, pq, pd⟩ := p
          obtain ⟨g1, g2, g3, g4, da, dn, dc, g5, g6⟩ := e1
          simp only at g1 g2 g3 g4 g6
          have hca' := HCA.out
          rw [hdr] at hca'
          simp only [cacheS, Bool.and_eq_true, pendOk, fitsB, decide_eq_true_eq, beq_iff_eq] at hca'
          obtain ⟨⟨⟨t1, t2⟩, t3, t4⟩, ⟨t5, t6⟩, t7⟩ := hca'
          obtain ⟨pgN, rfl⟩ := Int.eq_ofNat_of_zero_le t3
          have hst : stepP gk (nm, (pgN : Int), pd) = doP gk nm pgN pd := by simp [stepP]
          rw [hst] at t5 t6 t7
          have hle := lenI_le_total gk nm
          have htk := HCR.out.gtot
          have hpg : pgN ≤ 1000 := by omega
          have hdn : dn = 128 := by rw [← g6.1]; exact t2
          subst hdn
          have T7 : Hid (cacheS cC (ps.drop (k + 1)) (doP gk nm pgN pd) = true) := t7
          have T2 : Hid (pd.length = 128) := t2
          have HDR : Hid (ps.drop k = (nm, (pgN : Int), pd) :: ps.drop (k + 1)) := hdr
          have HBO : Hid (∀ bs : List Int, (∀ x ∈ bs, 0 ≤ x ∧ x ≤ 255) → CrI (doP fk nm pgN bs) (doP gk nm pgN pd) cC) := fun bs hb => HCR.out.both g2 hb t6 t5
          have HON : Hid (CrI fk (doP gk nm pgN pd) cC) := HCR.out.only t6 t5
          have hbs := HBE.out.size
          have hbk : pb < wr.heap.size := by omega
          have HG6 : Hid (BytesAt wr A B da 128 dc pd) := g6
          have hal : Below wr.heap.size wr (wr.alloc (.cells #[.string nm, .int .i64 (pgN : Int), .slice da 128 dc] 71)) := (Below.refl _ _).alloc (Nat.le_refl _) _
          have hs3 := HX.out.1
          have l0 : w.heap.size < wr.heap.size := by omega
          have l1 : w.heap.size + 1 < wr.heap.size := by omega
          obtain ⟨c0, c1, c2⟩ := box_threeC HX.out.2.2.1
          have HAL : Hid (Below wr.heap.size wr (wr.alloc (.cells #[.string nm, .int .i64 (pgN : Int), .slice da 128 dc] 71))) := hal
          clear hpc pcell g6 t5 t6 t7 hdr hst hle htk t1 t2 t3 t4 hpl hal
          have HFK : Hid (fk.length ≤ 1048576 ∧ ∀ j, j < fk.length → (fk.getD j (ByteArray.empty, [])).2.length ≤ 1073741824) := ⟨Nat.le_trans HCR.out.len (by omega), fun j hj => Nat.le_trans (HCR.out.small q2 j hj) (by omega)⟩
          by_cases htr : (k : Int) = tr
          · have HTR : Hid ((k : Int) = tr) := htr
            have htb : ((k : Int) == tr) = true := by simpa using htr
            clear htr
            have HOA : Hid (OwnF (wr.alloc (.cells #[.string nm, .int .i64 (pgN : Int), .slice da 128 dc] 71)).drew NB (.slice a' n' c') fk xk vk) := HO.out.below HAL.out.drew
            have HGA : Hid (BytesAt (wr.alloc (.cells #[.string nm, .int .i64 (pgN : Int), .slice da 128 dc] 71)).drew A B da 128 dc pd) := HG6.out.below (HAL.out.drew.mono (by omega))
            have hdc : 128 ≤ dc := HG6.out.2.1
            have hdc2 := HG6.out.2.2.1
            unfold maxLen at hdc2
            have hNA : NB ≤ (wr.alloc (.cells #[.string nm, .int .i64 (pgN : Int), .slice da 128 dc] 71)).drew.heap.size := by show NB ≤ (wr.alloc _).heap.size; simp; omega
            go_wp2_with fail
            go_region_with (first | (go_at_call 68; refine (l1Do_any _ _ _ fk xk vk nm pgN _ _ _ (pd.take (atN TA)) _ NB A B hNA HOA.out (by omega) (BytesAt.cutN HGA.out (atN_le TA) HT.out) (by omega) g2 HFK.out.1 (by omega) HFK.out.2).mono ?_; rintro e w3 ⟨v3, rfl, xs3, vs3, hO3, hb3⟩))
            all_goals
              obtain ⟨a3, n3, c3, rfl, hn3, hF3⟩ := hO3.files
              clear hn3 hF3
              have hb3' : Below NB wr w3 := (HAL.out.drew.mono (by omega)).trans hb3
              have hs33 := hb3'.size
              have O3 : Hid (OwnF w3 NB (.slice a3 n3 c3) (doP fk nm pgN (pd.take (atN TA))) xs3 vs3) := hO3
              have E3 : Hid (Below w.heap.size w w3) := HBE.out.trans (hb3'.mono (by omega))
              have X3 : Hid (NB ≤ w3.heap.size ∧ w3.heap[w.heap.size]? = some (.cells #[.slice a n c, .slice (some ⟨pb, poff, none⟩) m d, .int .i64 cC, .int .i64 fu, .bool de] 26) ∧ w3.heap[w.heap.size + 1]? = some (.cells #[.slice ka kn kc, .int .i64 tr, xv] 34) ∧ w3.heap[w.heap.size + 1 + 1]? = some (.cells #[.slice none 0 0, .slice none 0 0, .int .i64 0, .int .i64 0, .bool false] 26)) := by
                have hx := HX.out
                exact ⟨by omega, (hb3'.block _ (by omega)).trans hx.2.1, (hb3'.block _ (by omega)).trans hx.2.2.1, (hb3'.block _ (by omega)).trans hx.2.2.2⟩
              have C3 : Hid (CrI (doP fk nm pgN (pd.take (atN TA))) (doP gk nm pgN pd) cC) := HBO.out _ (fun x hx => HG6.out.2.2.2.1 x (List.mem_of_mem_take hx))
              have L3 : Hid (gs = crF tr TA ks (k + 1) (ps.drop (k + 1)) (doP fk nm pgN (pd.take (atN TA)))) := by show _ = _; rw [HLA.out, HDR.out, crF_tear HTR.out]
              clear hb3 hb3' hO3 HBE HX HAL c0 c1 c2 htb HO HG6 y0 y1 y2 y3 y4 HOA HGA hNA hdc hdc2
              go_wp2
              go_roundw
              case rel => exact ⟨k + 1, _, _, xs3, vs3, a3, n3, c3, by omega, by go_num, rfl, O3, C3, T7, L3, E3, X3⟩
              case measure => simp [intOf]; omega
          · have HTR : Hid (¬ (k : Int) = tr) := htr
            have htb : ((k : Int) == tr) = false := by simpa using htr
            clear htr
            by_cases hkn : k < kn
            · obtain ⟨_, _, _, kcell⟩ := HKS.out wr HBE.out
              obtain ⟨kb, koff, rfl, hkb, hkc⟩ := kcell (by omega)
              have e2 := hkc k hkn
              have hkb2 : kb < wr.heap.size := by omega
              obtain ⟨kv, hkv⟩ : ∃ v, v = ks.getD k false := ⟨_, rfl⟩
              rw [← hkv] at e2
              have HKV : Hid (kv = ks.getD k false) := hkv
              clear hkv hkc kcell
              cases kv
              · have C3 : Hid (CrI fk (doP gk nm pgN pd) cC) := HON.out
                have L3 : Hid (gs = crF tr TA ks (k + 1) (ps.drop (k + 1)) fk) := by show _ = _; rw [HLA.out, HDR.out, crF_skip HTR.out HKV.out.symm]
                have O3 : Hid (OwnF (wr.alloc (.cells #[.string nm, .int .i64 (pgN : Int), .slice da 128 dc] 71)) NB (.slice a' n' c') fk xk vk) := HO.out.below HAL.out
                have E3 : Hid (Below w.heap.size w (wr.alloc (.cells #[.string nm, .int .i64 (pgN : Int), .slice da 128 dc] 71))) := HBE.out.trans (HAL.out.mono (by omega))
                have X3 : Hid (NB ≤ (wr.alloc (.cells #[.string nm, .int .i64 (pgN : Int), .slice da 128 dc] 71)).heap.size ∧ (wr.alloc (.cells #[.string nm, .int .i64 (pgN : Int), .slice da 128 dc] 71)).heap[w.heap.size]? = some (.cells #[.slice a n c, .slice (some ⟨pb, poff, none⟩) m d, .int .i64 cC, .int .i64 fu, .bool de] 26) ∧ (wr.alloc (.cells #[.string nm, .int .i64 (pgN : Int), .slice da 128 dc] 71)).heap[w.heap.size + 1]? = some (.cells #[.slice (some ⟨kb, koff, none⟩) kn kc, .int .i64 tr, xv] 34) ∧ (wr.alloc (.cells #[.string nm, .int .i64 (pgN : Int), .slice da 128 dc] 71)).heap[w.heap.size + 1 + 1]? = some (.cells #[.slice none 0 0, .slice none 0 0, .int .i64 0, .int .i64 0, .bool false] 26)) := by
                  have hx := HX.out
                  exact ⟨by simp; omega, box_below hx.2.1 HAL.out, box_below hx.2.2.1 HAL.out, box_below hx.2.2.2 HAL.out⟩
                go_wp2_with fail
                go_roundw
                case rel => exact ⟨k + 1, fk, _, xk, vk, a', n', c', by omega, by go_num, rfl, O3, C3, T7, L3, E3, X3⟩
                case measure => simp [intOf]; omega
              · have HOA : Hid (OwnF (wr.alloc (.cells #[.string nm, .int .i64 (pgN : Int), .slice da 128 dc] 71)) NB (.slice a' n' c') fk xk vk) := HO.out.below HAL.out
                have HGA : Hid (BytesAt (wr.alloc (.cells #[.string nm, .int .i64 (pgN : Int), .slice da 128 dc] 71)) A B da 128 dc pd) := HG6.out.below (HAL.out.mono (by omega))
                have hNA : NB ≤ (wr.alloc (.cells #[.string nm, .int .i64 (pgN : Int), .slice da 128 dc] 71)).heap.size := by simp; omega
                go_wp2_with fail
                refine (l1Do_any _ _ _ fk xk vk nm pgN _ _ _ pd _ NB A B hNA HOA.out (by omega) HGA.out (by omega) g2 HFK.out.1 (by omega) HFK.out.2).mono ?_
                rintro e w3 ⟨v3, rfl, xs3, vs3, hO3, hb3⟩
                obtain ⟨a3, n3, c3, rfl, hn3, hF3⟩ := hO3.files
                clear hn3 hF3
                have hb3' : Below NB wr w3 := (HAL.out.mono (by omega)).trans hb3
                have hs33 := hb3'.size
                have O3 : Hid (OwnF w3 NB (.slice a3 n3 c3) (doP fk nm pgN (pd)) xs3 vs3) := hO3
                have E3 : Hid (Below w.heap.size w w3) := HBE.out.trans (hb3'.mono (by omega))
                have X3 : Hid (NB ≤ w3.heap.size ∧ w3.heap[w.heap.size]? = some (.cells #[.slice a n c, .slice (some ⟨pb, poff, none⟩) m d, .int .i64 cC, .int .i64 fu, .bool de] 26) ∧ w3.heap[w.heap.size + 1]? = some (.cells #[.slice (some ⟨kb, koff, none⟩) kn kc, .int .i64 tr, xv] 34) ∧ w3.heap[w.heap.size + 1 + 1]? = some (.cells #[.slice none 0 0, .slice none 0 0, .int .i64 0, .int .i64 0, .bool false] 26)) := by
                  have hx := HX.out
                  exact ⟨by omega, (hb3'.block _ (by omega)).trans hx.2.1, (hb3'.block _ (by omega)).trans hx.2.2.1, (hb3'.block _ (by omega)).trans hx.2.2.2⟩
                have C3 : Hid (CrI (doP fk nm pgN (pd)) (doP gk nm pgN pd) cC) := HBO.out _ (fun x hx => HG6.out.2.2.2.1 x (hx))
                have L3 : Hid (gs = crF tr TA ks (k + 1) (ps.drop (k + 1)) (doP fk nm pgN (pd))) := by show _ = _; rw [HLA.out, HDR.out, crF_keep HTR.out HKV.out.symm]
                clear hb3 hb3' hO3 HBE HX HAL c0 c1 c2 htb HO HG6 y0 y1 y2 y3 y4 HOA HGA hNA e2
                go_wp2
                go_roundw
                case rel => exact ⟨k + 1, _, _, xs3, vs3, a3, n3, c3, by omega, by go_num, rfl, O3, C3, T7, L3, E3, X3⟩
                case measure => simp [intOf]; omega
            · have HKV : Hid (ks.getD k false = false) := by
                have h1 := (HKS.out wr HBE.out).1
                show _ = _
                simp [List.getD, List.getElem?_eq_none (show ks.length ≤ k by omega)]
              have C3 : Hid (CrI fk (doP gk nm pgN pd) cC) := HON.out
              have L3 : Hid (gs = crF tr TA ks (k + 1) (ps.drop (k + 1)) fk) := by show _ = _; rw [HLA.out, HDR.out, crF_skip HTR.out HKV.out]
              have O3 : Hid (OwnF (wr.alloc (.cells #[.string nm, .int .i64 (pgN : Int), .slice da 128 dc] 71)) NB (.slice a' n' c') fk xk vk) := HO.out.below HAL.out
              have E3 : Hid (Below w.heap.size w (wr.alloc (.cells #[.string nm, .int .i64 (pgN : Int), .slice da 128 dc] 71))) := HBE.out.trans (HAL.out.mono (by omega))
              have X3 : Hid (NB ≤ (wr.alloc (.cells #[.string nm, .int .i64 (pgN : Int), .slice da 128 dc] 71)).heap.size ∧ (wr.alloc (.cells #[.string nm, .int .i64 (pgN : Int), .slice da 128 dc] 71)).heap[w.heap.size]? = some (.cells #[.slice a n c, .slice (some ⟨pb, poff, none⟩) m d, .int .i64 cC, .int .i64 fu, .bool de] 26) ∧ (wr.alloc (.cells #[.string nm, .int .i64 (pgN : Int), .slice da 128 dc] 71)).heap[w.heap.size + 1]? = some (.cells #[.slice ka kn kc, .int .i64 tr, xv] 34) ∧ (wr.alloc (.cells #[.string nm, .int .i64 (pgN : Int), .slice da 128 dc] 71)).heap[w.heap.size + 1 + 1]? = some (.cells #[.slice none 0 0, .slice none 0 0, .int .i64 0, .int .i64 0, .bool false] 26)) := by
                have hx := HX.out
                exact ⟨by simp; omega, box_below hx.2.1 HAL.out, box_below hx.2.2.1 HAL.out, box_below hx.2.2.2 HAL.out⟩
              go_wp2_with fail
              go_roundw
              case rel => exact ⟨k + 1, fk, _, xk, vk, a', n', c', by omega, by go_num, rfl, O3, C3, T7, L3, E3, X3⟩
              case measure => simp [intOf]; omega
        · have HGK : Hid (gs = fk) := by show _ = _; rw [HLA.out, List.drop_eq_nil_of_le (by have := HPL.out; omega)]; rfl
          have hbs := HBE.out.size
          have hs3 := HX.out.1
          have l0 : w.heap.size < wr.heap.size := by omega
          have l2 : w.heap.size + 1 + 1 < wr.heap.size := by omega
          obtain ⟨u0, u1, u2, u3, u4⟩ := box_fiveC HX.out.2.2.2
          have hu := box_thawC HX.out.2.2.2
          obtain ⟨av, nv, cv, ev, hnv, _⟩ := HO.out.files
          obtain ⟨rfl, rfl, rfl⟩ : a' = av ∧ n' = nv ∧ c' = cv := by simpa using ev
          subst hnv
          have X5 := put5C_box HX.out.2.2.2 (.slice a' fk.length c') (.slice none 0 0) (.int .i64 cC) (.int .i64 (-1)) (.bool false)
          go_wp2
          show bodyPost _ _ _ _ _ (put5C wr (w.heap.size + 1 + 1) (.slice a' fk.length c') (.slice none 0 0) (.int .i64 cC) (.int .i64 (-1)) (.bool false))
          obtain ⟨z0, z1, z2, z3, z4⟩ := box_fiveC X5
          refine bodyPost_ret (v := .agg #[.slice a' fk.length c', .slice none 0 0, .int .i64 cC, .int .i64 (-1), .bool false]) (by simp [results, Try.results24, go_sem, z0, z1, z2, z3, z4]) rfl ?_
          rw [HGK.out]
          exact DskAt.mk5 (base := NB) (by omega) (by omega) HO.out HBE.out
end Go.Proofs.Ytakdaandbdbdnaa
