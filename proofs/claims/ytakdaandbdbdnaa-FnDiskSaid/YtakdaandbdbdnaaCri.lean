import Derived.Test.YtakdaandbdbdnaaGAJ
import Derived.Test.YtakdaandbdbdnaaGAK
import Derived.Test.YtakdaandbdbdnaaGAL
import Derived.Test.YtakdaandbdbdnaaGAT
import Derived.Test.YtakdaandbdbdnaaGAX
import Derived.Laws.Small
namespace Go.Proofs.Ytakdaandbdbdnaa
open Go.RowKit Go.Maps
set_option linter.unusedVariables false
set_option maxRecDepth 100000

/-- A disk with an empty cache, as an answer. -/
structure DskAt (w : World) (e : Ending) (w' : World) (gs : List PF) (cp fu : Int) : Prop where
  ex : ∃ (a : Option Addr) (c : Nat), e = .returned (.agg #[.slice a gs.length c, .slice none 0 0, .int .i64 cp, .int .i64 fu, .bool false]) ∧ OwnZ w' w.heap.size w'.heap.size (.slice a gs.length c) (.slice none 0 0) gs [] ∧ Below w.heap.size w w'
theorem own_noneP (w : World) (base : Nat) : w.ownsRow base 71 3 (.slice none 0 0) 0 [] := ⟨rfl, .inl ⟨rfl, rfl⟩⟩
theorem own_noneF (w : World) (base : Nat) : w.ownsRow base 92 2 (.slice none 0 0) 0 [] := ⟨rfl, .inl ⟨rfl, rfl⟩⟩
theorem ownZ_of {w : World} {base : Nat} {v : Value} {gs : List PF} {xs vs : List Value} (h : OwnF w base v gs xs vs) : OwnZ w base w.heap.size v (.slice none 0 0) gs [] := by
  have hD : OwnD w base v (.slice none 0 0) gs [] xs vs [] [] := ⟨h, OwnP.nil (own_noneP w base), fun g hv hu => by rcases hu with hu | ⟨i, hi, hu⟩ <;> simp [Value.ownBlock] at *⟩
  exact ⟨_, _, _, _, hD, fun g hg => (hD.blk hg).2⟩
theorem three_allocs {w : World} {x0 x1 x2 : Obj} {W0 : World} (h : W0 = ((w.alloc x0).alloc x1).alloc x2) : W0.heap.size = w.heap.size + 3 ∧ Below w.heap.size w W0 ∧ W0.heap[w.heap.size]? = some x0 ∧ W0.heap[w.heap.size + 1]? = some x1 ∧ W0.heap[w.heap.size + 2]? = some x2 := by
  subst h
  have z : ∀ (X : World) (x : Obj), (X.alloc x).heap.size = X.heap.size + 1 := fun X x => by simp
  refine ⟨by simp, (((Below.refl _ _).alloc (Nat.le_refl _) _).alloc (by simp only [z]; omega) _).alloc (by simp only [z]; omega) _, ?_, ?_, ?_⟩
  · rw [heap_alloc_old _ _ (by simp only [z]; omega), heap_alloc_old _ _ (by simp only [z]; omega)]; exact heap_alloc_new _ _
  · rw [heap_alloc_old _ _ (by simp only [z]; omega)]; have := heap_alloc_new (w.alloc x0) x1; rwa [z] at this
  · have := heap_alloc_new ((w.alloc x0).alloc x1) x2; rwa [z, z] at this
theorem DskAt.mk5 {w X : World} {R base : Nat} {a : Option Addr} {c : Nat} {cp fu : Int} {gs : List PF} {xs vs : List Value} (hR : w.heap.size ≤ R) (hRb : R < base) (hO : OwnF X base (.slice a gs.length c) gs xs vs) (hb : Below w.heap.size w X) :
    DskAt w (.returned (.agg #[.slice a gs.length c, .slice none 0 0, .int .i64 cp, .int .i64 fu, .bool false])) (put5C X R (.slice a gs.length c) (.slice none 0 0) (.int .i64 cp) (.int .i64 fu) (.bool false)) gs cp fu := by
  have hf := put5C_fr X R (.slice a gs.length c) (.slice none 0 0) (.int .i64 cp) (.int .i64 fu) (.bool false)
  refine ⟨⟨a, c, rfl, ownZ_of (OwnF.lower (hO.fr hf (fun g hg e => ?_)) (by omega)), hb.trans (hf.below hb.size (fun g e => by omega))⟩⟩
  have := (hO.blk hg).1
  omega
/-- What CrashDisk answers. -/
def crG (fs : List PF) (ps : List PP) (cp fu tr ta : Int) (ks : List Bool) : List PF := if implV fs ps cp fu = true then crF tr ta ks 0 ps fs else []
def crC (fs : List PF) (ps : List PP) (cp fu : Int) : Int := if implV fs ps cp fu = true then cp else 0
def crU (fs : List PF) (ps : List PP) (cp fu : Int) : Int := if implV fs ps cp fu = true then -1 else 0
set_option maxHeartbeats 3200000 in
theorem implCrash_any (a : Option Addr) (n c : Nat) (fs : List PF) (b : Option Addr) (m d : Nat) (ps : List PP) (cp fu : Int) (de : Bool) (ka : Option Addr) (kn kc : Nat) (ks : List Bool) (tr ta : Int) (w : World) (A B : Nat) (hB : B ≤ w.heap.size) (hF : FilesAt w A B a n c fs) (hP : PendsAt w A B b m d ps) (hK : BoolsAt w A B ka kn kc ks)
    (hall : ∀ j, j < n → (fs.getD j (ByteArray.empty, [])).2.length ≤ 1048576) :
    Calls Try.prog 9 #[.agg #[.slice a n c, .slice b m d, .int .i64 cp, .int .i64 fu, .bool de], .agg #[.slice ka kn kc, .int .i64 tr, .int .i64 ta]] w fun e w' => DskAt w e w' (crG fs ps cp fu tr ta ks) (crC fs ps cp fu) (crU fs ps cp fu) := by
  have HF : Hid (∀ W, Below w.heap.size w W → FilesAt W A B a n c fs) := fun W hW => hF.below (hW.mono hB)
  have HP : Hid (∀ W, Below w.heap.size w W → PendsAt W A B b m d ps) := fun W hW => hP.below (hW.mono hB)
  have HKS : Hid (∀ W, Below w.heap.size w W → BoolsAt W A B ka kn kc ks) := fun W hW => hK.below (hW.mono hB)
  have HA : Hid (∀ j, j < n → (fs.getD j (ByteArray.empty, [])).2.length ≤ 1048576) := hall
  have HFL : Hid (fs.length = n) := hF.1
  have HPL : Hid (ps.length = m) := hP.1
  have HNM : Hid (∀ f ∈ fs, f.1.size ≤ maxLen) := fun f hf => by
    obtain ⟨i, hi, rfl⟩ := List.getElem_of_mem hf
    obtain ⟨ab, aoff, _, _, hcb⟩ := hF.2.2.2 (by have := hF.1; omega)
    have := (hcb i (by have := hF.1; omega)).2.1
    simpa [List.getD, List.getElem?_eq_getElem hi] using this
  have HBY : Hid (ByteF fs) := by
    intro nm x hx
    unfold dataN at hx
    by_cases hf : findN fs nm < fs.length
    · rw [if_pos hf] at hx
      obtain ⟨ab, aoff, _, _, hcb⟩ := hF.2.2.2 (by have := hF.1; omega)
      obtain ⟨p1, p2, pa, pn, pc, p3, p4⟩ := hcb (findN fs nm) (by have := hF.1; omega)
      exact p4.2.2.2.1 x hx
    · rw [if_neg hf] at hx; cases hx
  have pnc := hP.2.1
  have pc0 := hP.2.2.1
  have knc := hK.2.1
  have kc0 := hK.2.2.1
  unfold maxLen at pc0 kc0
  obtain ⟨gs, hgs⟩ : ∃ gs, gs = crG fs ps cp fu tr ta ks := ⟨_, rfl⟩
  obtain ⟨cC, hcC⟩ : ∃ x, x = crC fs ps cp fu := ⟨_, rfl⟩
  obtain ⟨cU, hcU⟩ : ∃ x, x = crU fs ps cp fu := ⟨_, rfl⟩
  rw [← hgs, ← hcC, ← hcU]
  have HG : Hid (gs = crG fs ps cp fu tr ta ks) := hgs
  have HC : Hid (cC = crC fs ps cp fu) := hcC
  have HU : Hid (cU = crU fs ps cp fu) := hcU
  clear hF hP hK hall hgs hcC hcU
  go_enter Try.func9, Try.ntmps9
  go_wp2_with fail
  obtain ⟨W0, hW0⟩ : ∃ W0, W0 = ((w.alloc (.cells #[.slice a n c, .slice b m d, .int .i64 cp, .int .i64 fu, .bool de] 26)).alloc (.cells #[.slice ka kn kc, .int .i64 tr, .int .i64 ta] 34)).alloc (.cells #[.slice none 0 0, .slice none 0 0, .int .i64 0, .int .i64 0, .bool false] 26) := ⟨_, rfl⟩
  obtain ⟨hs0, hb0, k0, k1, k2⟩ := three_allocs hW0
  rw [← hW0]
  clear hW0
  refine (implValid_any a n c fs b m d ps cp fu de W0 A B (by omega) (HF.out _ hb0) (HP.out _ hb0) HA.out).mono ?_
  rintro e w1 ⟨rfl, hb1⟩
  have hs1 := hb1.size
  have X0 := box_below k0 hb1
  have X1 := box_below k1 hb1
  have X2 := box_below k2 hb1
  have bel1 : Below w.heap.size w w1 := hb0.trans (hb1.mono (by omega))
  have l0 : w.heap.size < w1.heap.size := by omega
  have l1 : w.heap.size + 1 < w1.heap.size := by omega
  have l2 : w.heap.size + 1 + 1 < w1.heap.size := by omega
  obtain ⟨vv, hvv⟩ : ∃ v, v = implV fs ps cp fu := ⟨_, rfl⟩
  rw [← hvv]
  have HV : Hid (vv = implV fs ps cp fu) := hvv
  clear hvv k0 k1 k2 hb0 hb1 hs0
  cases vv
  · obtain ⟨z0, z1, z2, z3, z4⟩ := box_fiveC X2
    have hz := box_thawC X2
    have X3 := put5C_box X2 (.slice none 0 0) (.slice none 0 0) (.int .i64 0) (.int .i64 0) (.bool false)
    go_wp2_with fail
    show bodyPost _ _ _ _ _ (put5C w1 (w.heap.size + 1 + 1) (.slice none 0 0) (.slice none 0 0) (.int .i64 0) (.int .i64 0) (.bool false))
    clear z0 z1 z2 z3 z4 hz
    obtain ⟨z0, z1, z2, z3, z4⟩ := box_fiveC X3
    refine bodyPost_ret (v := .agg #[.slice none 0 0, .slice none 0 0, .int .i64 0, .int .i64 0, .bool false]) (by simp [results, Try.results9, go_sem, z0, z1, z2, z3, z4]) rfl ?_
    have e1 : gs = [] := by rw [HG.out]; unfold crG; rw [← HV.out]; simp
    have e2 : cC = 0 := by rw [HC.out]; unfold crC; rw [← HV.out]; simp
    have e3 : cU = 0 := by rw [HU.out]; unfold crU; rw [← HV.out]; simp
    subst e1 e2 e3
    exact DskAt.mk5 (base := w1.heap.size) (by omega) (by omega) (OwnF.nil (own_noneF w1 _)) bel1
  · obtain ⟨q1, q2, q3, q4, q5⟩ := specV_parts (by rw [valid_eq]; exact HV.out.symm)
    have hpm : m ≤ 1000 := by
      have h2 := HV.out.symm
      simp only [implV, Bool.and_eq_true, decide_eq_true_eq] at h2
      have := HPL.out
      omega
    have hn12 : n ≤ 12 := by have := HFL.out; omega
    have e1 : gs = crF tr ta ks 0 ps fs := by rw [HG.out]; unfold crG; rw [← HV.out]; simp
    have e2 : cC = cp := by rw [HC.out]; unfold crC; rw [← HV.out]; simp
    have e3 : cU = -1 := by rw [HU.out]; unfold crU; rw [← HV.out]; simp
    subst e2 e3
    have HG1 : Hid (gs = crF tr ta ks 0 ps fs) := e1
    have HCR : Hid (CrI fs fs cC) := ⟨inv_all q5, HBY.out, sortedN_of_ok (of_decide_eq_true q5), HNM.out, Und.refl _, inv_all q5, q3, q1⟩
    have HCA : Hid (cacheS cC ps fs = true) := q4
    have HI : Hid (Inv fs) := inv_all q5
    clear e1 HG HC HU q1 q3 q4 q5 HNM HBY HV
    obtain ⟨z0, z1, z2, z3, z4⟩ := box_fiveC X0
    go_wp2_with fail
    refine (durable_any a n c fs b m d ps cC fu de w1 A B (by omega) (HF.out _ bel1) (by omega) HI.out hn12 HA.out).mono ?_
    rintro e w2 ⟨mb, qq, D, rfl, hmb, hM, hq, hR, hb2⟩
    have hs2 := hb2.size
    have Y0 := box_below X0 hb2
    have Y1 := box_below X1 hb2
    have Y2 := box_below X2 hb2
    have bel2 : Below w.heap.size w w2 := bel1.trans (hb2.mono (by omega))
    have hs13 : w.heap.size + 3 ≤ w1.heap.size := by omega
    have hmb3 : w.heap.size + 3 ≤ mb := by omega
    clear X0 X1 X2 z0 z1 z2 z3 z4 l0 l1 l2 bel1 hb2
    have l0 : w.heap.size < w2.heap.size := by omega
    obtain ⟨z0, z1, z2, z3, z4⟩ := box_fiveC Y0
    have HM0 : Hid (MapS w2 mb qq D) := hM
    have HR0 : Hid (RepS D (pageOf fs)) := hR
    have HY0 : Hid _ := Y0
    have HY1 : Hid _ := Y1
    have HY2 : Hid _ := Y2
    have HB2 : Hid (Below w.heap.size w w2) := bel2
    clear hM hR Y0 Y1 Y2 bel2
    go_wp2
    clear z0 z1 z2 z3 z4 l0
    go_loopw [6, 7, 17] (fun _ _ i wr => ∃ (k q : Nat) (fk gk : List PF) (D : DataW Unit), k ≤ m ∧ i = .int .i64 k ∧ q ≤ 1048576 + k * 1001 ∧ Hid (MapS wr mb q D) ∧ Hid (RepS D (pageOf fk)) ∧ Hid (CrI fk gk cC) ∧ Hid (cacheS cC (ps.drop k) gk = true) ∧ Hid (gs = crF tr ta ks k (ps.drop k) fk) ∧ Hid (Below w.heap.size w wr) ∧ Hid (w.heap.size + 3 ≤ wr.heap.size ∧ wr.heap[w.heap.size]? = some (.cells #[.slice a n c, .slice b m d, .int .i64 cC, .int .i64 fu, .bool de] 26) ∧ wr.heap[w.heap.size + 1]? = some (.cells #[.slice ka kn kc, .int .i64 tr, .int .i64 ta] 34) ∧ wr.heap[w.heap.size + 1 + 1]? = some (.cells #[.slice none 0 0, .slice none 0 0, .int .i64 0, .int .i64 0, .bool false] 26))) (fun _ _ i _ => m - (intOf i).toNat)
    case atStart => exact ⟨0, qq, fs, fs, D, Nat.zero_le _, rfl, by omega, HM0, HR0, HCR, HCA, HG1, HB2, by omega, HY0.out, HY1.out, HY2.out⟩
    case round =>
      clear HM0 HR0 HCR HCA HG1 HB2 HY0 HY1 HY2 hq D qq HI
      obtain ⟨k, q, fk, gk, D, hk, rfl, hq, HM, HR, HCR, HCA, HLA, HBE, HX⟩ := hrel
      by_cases hlt : k < m
      · obtain ⟨_, _, _, pcell⟩ := HP.out wr HBE.out
        obtain ⟨pb, poff, rfl, hpb, hpc⟩ := pcell (by omega)
        have e1 := hpc k hlt
        have hpl := HPL.out
        have hdr : ps.drop k = ps.getD k (ByteArray.empty, 0, []) :: ps.drop (k + 1) := by
          rw [List.drop_eq_getElem_cons (by omega)]; simp [List.getD, List.getElem?_eq_getElem (show k < ps.length by omega)]
        obtain ⟨p, hp⟩ : ∃ p, p = ps.getD k (ByteArray.empty, 0, []) := ⟨_, rfl⟩
        rw [← hp] at e1 hdr
        clear hp
        obtain ⟨nm, pq, pd⟩ := p
        obtain ⟨g1, g2, g3, g4, da, dn, dc, g5, g6⟩ := e1
        simp only at g1 g2 g3 g4 g6
        have hca' := HCA.out
        rw [hdr] at hca'
        simp only [cacheS, Bool.and_eq_true, pendOk, fitsB, decide_eq_true_eq, beq_iff_eq] at hca'
        obtain ⟨⟨⟨t1, t2⟩, t3, t4⟩, ⟨t5, t6⟩, t7⟩ := hca'
        obtain ⟨pgN, rfl⟩ := Int.eq_ofNat_of_zero_le t3
        have hst : stepP gk (nm, (pgN : Int), pd) = doP gk nm pgN pd := by simp [stepP]
        rw [hst] at t5 t6 t7
        have hle := lenI_le_total gk nm
        have htk := HCR.out.gtot
        have hpg : pgN ≤ 1000 := by omega
        have hdn : dn = 128 := by rw [← g6.1]; exact t2
        subst hdn
        have T7 : Hid (cacheS cC (ps.drop (k + 1)) (doP gk nm pgN pd) = true) := t7
        have T2 : Hid (pd.length = 128) := t2
        have HDR : Hid (ps.drop k = (nm, (pgN : Int), pd) :: ps.drop (k + 1)) := hdr
        have HBO : Hid (∀ bs : List Int, (∀ x ∈ bs, 0 ≤ x ∧ x ≤ 255) → CrI (doP fk nm pgN bs) (doP gk nm pgN pd) cC) := fun bs hb => HCR.out.both g2 hb t6 t5
        have HON : Hid (CrI fk (doP gk nm pgN pd) cC) := HCR.out.only t6 t5
        have hbs := HBE.out.size
        have hbk : pb < wr.heap.size := by omega
        have HG6 : Hid (BytesAt wr A B da 128 dc pd) := g6
        have hal : Below wr.heap.size wr (wr.alloc (.cells #[.string nm, .int .i64 (pgN : Int), .slice da 128 dc] 71)) := (Below.refl _ _).alloc (Nat.le_refl _) _
        have hs3 := HX.out.1
        have l1 : w.heap.size + 1 < wr.heap.size := by omega
        obtain ⟨c0, c1, c2⟩ := box_threeC HX.out.2.2.1
        have HAL : Hid (Below wr.heap.size wr (wr.alloc (.cells #[.string nm, .int .i64 (pgN : Int), .slice da 128 dc] 71))) := hal
        clear hpc pcell g6 t5 t6 t7 hdr hst hle htk t1 t2 t3 t4 hpl hal
        by_cases htr : (k : Int) = tr
        · have HTR : Hid ((k : Int) = tr) := htr
          have htb : ((k : Int) == tr) = true := by simpa using htr
          clear htr
          have hat : min (max ta 0) 128 = (atN ta : Int) := by unfold atN; omega
          go_wp2_with fail
          refine (write_any nm g2 pgN (atN ta) (lenI fk nm).toNat mb q da dc pd D (pageOf fk) _ A B (by simp; omega) (HG6.out.below (HAL.out.mono (by omega))) (.inr (by omega)) (atN_le ta) (by omega) (by omega) (World.ownsMap.alloc HM.out _) HR.out (fun t => page_there HCR.out.inv nm t) (fun t bs hb => page_byte HCR.out.byt nm t bs hb)).mono ?_
          rintro e w3 ⟨rfl, q3, D3, hq3, hM3, hR3, hF3⟩
          have R3 : Hid (RepS D3 (pageOf (doP fk nm pgN (pd.take (atN ta))))) := hR3.congr fun nm' t => do_writeC HCR.out.inv T2.out (atN_le ta) nm' t
          have M3 : Hid (MapS w3 mb q3 D3) := hM3
          have E3 : Hid (Below w.heap.size w w3) := (HBE.out.trans (HAL.out.mono (by omega))).trans (hF3.below (by simp; omega) (fun g e => by omega))
          have X3 : Hid (w.heap.size + 3 ≤ w3.heap.size ∧ w3.heap[w.heap.size]? = some (.cells #[.slice a n c, .slice (some ⟨pb, poff, none⟩) m d, .int .i64 cC, .int .i64 fu, .bool de] 26) ∧ w3.heap[w.heap.size + 1]? = some (.cells #[.slice ka kn kc, .int .i64 tr, .int .i64 ta] 34) ∧ w3.heap[w.heap.size + 1 + 1]? = some (.cells #[.slice none 0 0, .slice none 0 0, .int .i64 0, .int .i64 0, .bool false] 26)) := by
            have hz := hF3.size
            simp at hz
            have hx := HX.out
            exact ⟨by omega, (hF3.block _ (by simp; omega) (by omega)).trans (box_below hx.2.1 HAL.out), (hF3.block _ (by simp; omega) (by omega)).trans (box_below hx.2.2.1 HAL.out), (hF3.block _ (by simp; omega) (by omega)).trans (box_below hx.2.2.2 HAL.out)⟩
          have C3 : Hid (CrI (doP fk nm pgN (pd.take (atN ta))) (doP gk nm pgN pd) cC) := HBO.out _ (fun x hx => HG6.out.2.2.2.1 x (List.mem_of_mem_take hx))
          have L3 : Hid (gs = crF tr ta ks (k + 1) (ps.drop (k + 1)) (doP fk nm pgN (pd.take (atN ta)))) := by show _ = _; rw [HLA.out, HDR.out, crF_tear HTR.out]
          clear hM3 hR3 hF3 HBE HX HAL c0 c1 c2 htb hat
          go_wp2
          go_roundw
          case rel => exact ⟨k + 1, q3, _, _, D3, by omega, by go_num, by omega, M3, R3, C3, T7, L3, E3, X3⟩
          case measure => simp [intOf]; omega
        · have HTR : Hid (¬ (k : Int) = tr) := htr
          have htb : ((k : Int) == tr) = false := by simpa using htr
          clear htr
          by_cases hkn : k < kn
          · obtain ⟨_, _, _, kcell⟩ := HKS.out wr HBE.out
            obtain ⟨kb, koff, rfl, hkb, hkc⟩ := kcell (by omega)
            have e2 := hkc k hkn
            have hkb2 : kb < wr.heap.size := by omega
            obtain ⟨kv, hkv⟩ : ∃ v, v = ks.getD k false := ⟨_, rfl⟩
            rw [← hkv] at e2
            have HKV : Hid (kv = ks.getD k false) := hkv
            clear hkv hkc kcell
            cases kv
            · have C3 : Hid (CrI fk (doP gk nm pgN pd) cC) := HON.out
              have L3 : Hid (gs = crF tr ta ks (k + 1) (ps.drop (k + 1)) fk) := by show _ = _; rw [HLA.out, HDR.out, crF_skip HTR.out HKV.out.symm]
              have M3 : Hid (MapS (wr.alloc (.cells #[.string nm, .int .i64 (pgN : Int), .slice da 128 dc] 71)) mb q D) := World.ownsMap.alloc HM.out _
              have E3 : Hid (Below w.heap.size w (wr.alloc (.cells #[.string nm, .int .i64 (pgN : Int), .slice da 128 dc] 71))) := HBE.out.trans (HAL.out.mono (by omega))
              have X3 : Hid (w.heap.size + 3 ≤ (wr.alloc (.cells #[.string nm, .int .i64 (pgN : Int), .slice da 128 dc] 71)).heap.size ∧ (wr.alloc (.cells #[.string nm, .int .i64 (pgN : Int), .slice da 128 dc] 71)).heap[w.heap.size]? = some (.cells #[.slice a n c, .slice (some ⟨pb, poff, none⟩) m d, .int .i64 cC, .int .i64 fu, .bool de] 26) ∧ (wr.alloc (.cells #[.string nm, .int .i64 (pgN : Int), .slice da 128 dc] 71)).heap[w.heap.size + 1]? = some (.cells #[.slice (some ⟨kb, koff, none⟩) kn kc, .int .i64 tr, .int .i64 ta] 34) ∧ (wr.alloc (.cells #[.string nm, .int .i64 (pgN : Int), .slice da 128 dc] 71)).heap[w.heap.size + 1 + 1]? = some (.cells #[.slice none 0 0, .slice none 0 0, .int .i64 0, .int .i64 0, .bool false] 26)) := by
                have hx := HX.out
                exact ⟨by simp; omega, box_below hx.2.1 HAL.out, box_below hx.2.2.1 HAL.out, box_below hx.2.2.2 HAL.out⟩
              go_wp2_with fail
              go_roundw
              case rel => exact ⟨k + 1, q, fk, _, D, by omega, by go_num, by omega, M3, HR, C3, T7, L3, E3, X3⟩
              case measure => simp [intOf]; omega
            · go_wp2_with fail
              refine (write_any nm g2 pgN 128 (lenI fk nm).toNat mb q da dc pd D (pageOf fk) _ A B (by simp; omega) (HG6.out.below (HAL.out.mono (by omega))) (.inr (by omega)) (Nat.le_refl _) (by omega) (by omega) (World.ownsMap.alloc HM.out _) HR.out (fun t => page_there HCR.out.inv nm t) (fun t bs hb => page_byte HCR.out.byt nm t bs hb)).mono ?_
              rintro e w3 ⟨rfl, q3, D3, hq3, hM3, hR3, hF3⟩
              have R3 : Hid (RepS D3 (pageOf (doP fk nm pgN pd))) := hR3.congr fun nm' t => by
                have h1 := do_writeC (nm := nm) (pg := pgN) HCR.out.inv T2.out (Nat.le_refl 128) nm' t
                rw [List.take_of_length_le (Nat.le_of_eq T2.out)] at h1
                exact h1
              have M3 : Hid (MapS w3 mb q3 D3) := hM3
              have E3 : Hid (Below w.heap.size w w3) := (HBE.out.trans (HAL.out.mono (by omega))).trans (hF3.below (by simp; omega) (fun g e => by omega))
              have X3 : Hid (w.heap.size + 3 ≤ w3.heap.size ∧ w3.heap[w.heap.size]? = some (.cells #[.slice a n c, .slice (some ⟨pb, poff, none⟩) m d, .int .i64 cC, .int .i64 fu, .bool de] 26) ∧ w3.heap[w.heap.size + 1]? = some (.cells #[.slice (some ⟨kb, koff, none⟩) kn kc, .int .i64 tr, .int .i64 ta] 34) ∧ w3.heap[w.heap.size + 1 + 1]? = some (.cells #[.slice none 0 0, .slice none 0 0, .int .i64 0, .int .i64 0, .bool false] 26)) := by
                have hz := hF3.size
                simp at hz
                have hx := HX.out
                exact ⟨by omega, (hF3.block _ (by simp; omega) (by omega)).trans (box_below hx.2.1 HAL.out), (hF3.block _ (by simp; omega) (by omega)).trans (box_below hx.2.2.1 HAL.out), (hF3.block _ (by simp; omega) (by omega)).trans (box_below hx.2.2.2 HAL.out)⟩
              have C3 : Hid (CrI (doP fk nm pgN pd) (doP gk nm pgN pd) cC) := HBO.out _ HG6.out.2.2.2.1
              have L3 : Hid (gs = crF tr ta ks (k + 1) (ps.drop (k + 1)) (doP fk nm pgN pd)) := by show _ = _; rw [HLA.out, HDR.out, crF_keep HTR.out HKV.out.symm]
              clear hM3 hR3 hF3 HBE HX HAL c0 c1 c2 htb e2
              go_wp2
              go_roundw
              case rel => exact ⟨k + 1, q3, _, _, D3, by omega, by go_num, by omega, M3, R3, C3, T7, L3, E3, X3⟩
              case measure => simp [intOf]; omega
          · have HKV : Hid (ks.getD k false = false) := by
              have h1 := (HKS.out wr HBE.out).1
              show _ = _
              simp [List.getD, List.getElem?_eq_none (show ks.length ≤ k by omega)]
            have C3 : Hid (CrI fk (doP gk nm pgN pd) cC) := HON.out
            have L3 : Hid (gs = crF tr ta ks (k + 1) (ps.drop (k + 1)) fk) := by show _ = _; rw [HLA.out, HDR.out, crF_skip HTR.out HKV.out]
            have M3 : Hid (MapS (wr.alloc (.cells #[.string nm, .int .i64 (pgN : Int), .slice da 128 dc] 71)) mb q D) := World.ownsMap.alloc HM.out _
            have E3 : Hid (Below w.heap.size w (wr.alloc (.cells #[.string nm, .int .i64 (pgN : Int), .slice da 128 dc] 71))) := HBE.out.trans (HAL.out.mono (by omega))
            have X3 : Hid (w.heap.size + 3 ≤ (wr.alloc (.cells #[.string nm, .int .i64 (pgN : Int), .slice da 128 dc] 71)).heap.size ∧ (wr.alloc (.cells #[.string nm, .int .i64 (pgN : Int), .slice da 128 dc] 71)).heap[w.heap.size]? = some (.cells #[.slice a n c, .slice (some ⟨pb, poff, none⟩) m d, .int .i64 cC, .int .i64 fu, .bool de] 26) ∧ (wr.alloc (.cells #[.string nm, .int .i64 (pgN : Int), .slice da 128 dc] 71)).heap[w.heap.size + 1]? = some (.cells #[.slice ka kn kc, .int .i64 tr, .int .i64 ta] 34) ∧ (wr.alloc (.cells #[.string nm, .int .i64 (pgN : Int), .slice da 128 dc] 71)).heap[w.heap.size + 1 + 1]? = some (.cells #[.slice none 0 0, .slice none 0 0, .int .i64 0, .int .i64 0, .bool false] 26)) := by
              have hx := HX.out
              exact ⟨by simp; omega, box_below hx.2.1 HAL.out, box_below hx.2.2.1 HAL.out, box_below hx.2.2.2 HAL.out⟩
            go_wp2_with fail
            go_roundw
            case rel => exact ⟨k + 1, q, fk, _, D, by omega, by go_num, by omega, M3, HR, C3, T7, L3, E3, X3⟩
            case measure => simp [intOf]; omega
      · have HGK : Hid (gs = fk) := by show _ = _; rw [HLA.out, List.drop_eq_nil_of_le (by have := HPL.out; omega)]; rfl
        have hbs := HBE.out.size
        have hs3 := HX.out.1
        obtain ⟨y0, y1, y2, y3, y4⟩ := box_fiveC HX.out.2.1
        obtain ⟨u0, u1, u2, u3, u4⟩ := box_fiveC HX.out.2.2.2
        have hu := box_thawC HX.out.2.2.2
        have MD : MapS wr.drew mb q D := HM.out.to rfl
        have HSZ : Hid (Maps.size D ≤ 1073741824) := Nat.le_trans (World.ownsMap.size_le HM.out) (by omega)
        have HSM : Hid (∀ f ∈ fk, f.2.length ≤ 1048576) := fun f hf => Nat.le_trans (HCR.out.smallM q2 f hf) (by omega)
        have l0 : w.heap.size < wr.heap.size := by omega
        have l2 : w.heap.size + 1 + 1 < wr.heap.size := by omega
        go_wp2
        go_region_with
          (first | (go_at_call 52; refine (files_any mb q D fk wr.drew MD HR.out HCR.out.srt HCR.out.inv HCR.out.byt HCR.out.len HCR.out.nms HSM.out HSZ.out).mono ?_; rintro e w4 ⟨v4, xs4, vs4, rfl, O4, hb4⟩; obtain ⟨av, nv, cv, rfl, hnv, _⟩ := O4.files; have hb4' : Below wr.heap.size wr w4 := ((Below.refl _ wr).drew).trans hb4; have y2' := (hb4'.cell (p := ⟨w.heap.size, 2, none⟩) l0).trans y2; have X4 := box_below HX.out.2.2.2 hb4'; obtain ⟨u0', u1', u2', u3', u4'⟩ := box_fiveC X4; have hu' := box_thawC X4))
        all_goals
          clear y0 y1 y2 y3 y4 u0 u1 u2 u3 u4 hu y2' u0' u1' u2' u3' u4' hu' MD hb4
          have X5 := put5C_box X4 (.slice av fk.length cv) (.slice none 0 0) (.int .i64 cC) (.int .i64 (-1)) (.bool false)
          have bel4 : Below w.heap.size w w4 := HBE.out.trans (hb4'.mono hbs)
          go_wp2
          show bodyPost _ _ _ _ _ (put5C w4 (w.heap.size + 1 + 1) (.slice av fk.length cv) (.slice none 0 0) (.int .i64 cC) (.int .i64 (-1)) (.bool false))
          obtain ⟨z0, z1, z2, z3, z4⟩ := box_fiveC X5
          refine bodyPost_ret (v := .agg #[.slice av fk.length cv, .slice none 0 0, .int .i64 cC, .int .i64 (-1), .bool false]) (by simp [results, Try.results9, go_sem, z0, z1, z2, z3, z4]) rfl ?_
          rw [HGK.out]
          subst hnv
          exact DskAt.mk5 (base := wr.heap.size) (by omega) (by omega) O4 bel4
end Go.Proofs.Ytakdaandbdbdnaa
