import Derived.Test.YtdieplpegkiolaaRsp
namespace Go.Proofs.Ytdieplpegkiolaa
open Go.RowKit
set_option linter.unusedVariables false
set_option linter.unusedSimpArgs false
set_option maxRecDepth 100000

set_option maxHeartbeats 1600000 in
theorem specParse_big (g o n c : Nat) (bs : List Int) (w : World) (hl : bs.length = n) (hcm : n ≤ maxLen) (hn : 200000 < n) :
    Calls Try.prog 4 #[.slice (some ⟨g, o, none⟩) n c] w fun e w' => SRAns w (parS bs) e w' := by
  unfold maxLen at hcm
  have hb0 : Below w.heap.size w (w.alloc (.cells #[.int .i64 0, .int .i64 0, .int .i64 0, .int .i64 0, .int .i64 0, .slice none 0 0] 27)) := (Below.refl _ _).alloc (Nat.le_refl _) _
  have k0 := heap_alloc_new w (.cells #[.int .i64 0, .int .i64 0, .int .i64 0, .int .i64 0, .int .i64 0, .slice none 0 0] 27)
  have HPE : Hid (parS bs = zSR 1) := if_pos (by omega)
  have hgt : decide ((200000 : Int) < (n : Int)) = true := by simp; omega
  clear hl
  go_enter Try.func4, Try.ntmps4
  go_wp2_with fail
  generalize w.alloc (.cells #[.int .i64 0, .int .i64 0, .int .i64 0, .int .i64 0, .int .i64 0, .slice none 0 0] 27) = wE at hb0 k0 ⊢
  have belE := hb0
  have KE := k0
  clear hb0 k0
  refine (l7Err_any 1 wE).mono ?_
  rintro e wF ⟨rfl, hbF⟩
  have KF := box_below KE hbF
  have belF := belE.trans (hbF.mono belE.size)
  clear belE KE hbF
  obtain ⟨x0, x1, x2, x3, x4, x5⟩ := box_sixS KF
  have hz := box_thawC KF
  have XF := put6S_box KF (.int .i64 1) (.int .i64 0) (.int .i64 0) (.int .i64 0) (.int .i64 0) (.slice none 0 0)
  have hfF := put6S_fr wF w.heap.size (.int .i64 1) (.int .i64 0) (.int .i64 0) (.int .i64 0) (.int .i64 0) (.slice none 0 0)
  have HBF : Hid (Below w.heap.size w (put6S wF w.heap.size (.int .i64 1) (.int .i64 0) (.int .i64 0) (.int .i64 0) (.int .i64 0) (.slice none 0 0))) := belF.trans (hfF.below belF.size (fun q e => by omega))
  have lF : w.heap.size < wF.heap.size := (Array.getElem?_eq_some_iff.1 KF).1
  clear hfF belF KF
  go_wp2_with fail
  show bodyPost _ _ _ _ _ (put6S wF w.heap.size (.int .i64 1) (.int .i64 0) (.int .i64 0) (.int .i64 0) (.int .i64 0) (.slice none 0 0))
  clear x0 x1 x2 x3 x4 x5 hz
  obtain ⟨x0, x1, x2, x3, x4, x5⟩ := box_sixS XF
  rw [HPE.out]
  exact bodyPost_ret (v := .agg #[.int .i64 1, .int .i64 0, .int .i64 0, .int .i64 0, .int .i64 0, .slice none 0 0]) (by simp [results, Try.results4, go_sem, x0, x1, x2, x3, x4, x5]) rfl (SRAns.zero 1 HBF.out)
/-- What stands in memory while frames are read. -/
structure DSt (w wr : World) (N : Nat) (id tx ba rt : Int) (va : Option Addr) (k vc : Nat) (ps : List PN) (xs vs : List Value) : Prop where
  bel : Below w.heap.size w wr
  ans : wr.heap[w.heap.size]? = some (.cells #[.int .i64 0, .int .i64 0, .int .i64 0, .int .i64 0, .int .i64 0, .slice none 0 0] 27)
  box : wr.heap[N]? = some (.cells #[.int .i64 id, .int .i64 tx, .int .i64 ba, .int .i64 rt, .slice va k vc] 25)
  own : OwnN wr (N + 1) (.slice va k vc) ps xs vs
  len : ps.length = k
theorem DSt.below {w wr wr' : World} {N : Nat} {id tx ba rt : Int} {va : Option Addr} {k vc : Nat} {ps : List PN} {xs vs : List Value} (h : DSt w wr N id tx ba rt va k vc ps xs vs) (hb : Below wr.heap.size wr wr') : DSt w wr' N id tx ba rt va k vc ps xs vs :=
  ⟨h.bel.trans (hb.mono h.bel.size), box_below h.ans hb, box_below h.box hb, h.own.below hb, h.len⟩
theorem loopD_step3 {bs : List Int} {ba tx : Int} {C k a : Nat} {l : Int} {ps : List PN} {F : Int × Nat × List PN} (h : loopD bs ba tx (C - k) a l ps = F) (hk : k < C) (h1 : bs.length ≤ a) : F.1 = 3 := by
  rw [← h, show C - k = (C - (k + 1)) + 1 by omega, loopD, if_pos h1]
theorem loopD_step4 {bs : List Int} {ba tx : Int} {C k a : Nat} {l : Int} {ps : List PN} {F : Int × Nat × List PN} (h : loopD bs ba tx (C - k) a l ps = F) (hk : k < C) (h1 : ¬ bs.length ≤ a) (h2 : bs.getD a 0 ≠ 80) : F.1 = 4 := by
  rw [← h, show C - k = (C - (k + 1)) + 1 by omega, loopD, if_neg h1, if_pos h2]
theorem loopD_step3' {bs : List Int} {ba tx : Int} {C k a : Nat} {l : Int} {ps : List PN} {F : Int × Nat × List PN} (h : loopD bs ba tx (C - k) a l ps = F) (hk : k < C) (h1 : ¬ bs.length ≤ a) (h2 : bs.getD a 0 = 80) (h3 : bs.length < a + 137) : F.1 = 3 := by
  rw [← h, show C - k = (C - (k + 1)) + 1 by omega, loopD, if_neg h1, if_neg (fun e => e h2), if_pos h3]
theorem loopD_step4' {bs : List Int} {ba tx : Int} {C k a : Nat} {l : Int} {ps : List PN} {F : Int × Nat × List PN} (h : loopD bs ba tx (C - k) a l ps = F) (hk : k < C) (h1 : ¬ bs.length ≤ a) (h2 : bs.getD a 0 = 80) (h3 : ¬ bs.length < a + 137) (h4 : frmD ((bs.drop (a + 1)).take 136) ba tx l = false) : F.1 = 4 := by
  rw [← h, show C - k = (C - (k + 1)) + 1 by omega, loopD, if_neg h1, if_neg (fun e => e h2), if_neg h3, if_pos h4]
theorem loopD_next {bs : List Int} {ba tx : Int} {C k a : Nat} {l : Int} {ps : List PN} {F : Int × Nat × List PN} (h : loopD bs ba tx (C - k) a l ps = F) (hk : k < C) (h1 : ¬ bs.length ≤ a) (h2 : bs.getD a 0 = 80) (h3 : ¬ bs.length < a + 137) (h4 : frmD ((bs.drop (a + 1)).take 136) ba tx l = true) : loopD bs ba tx (C - (k + 1)) (a + 137) (leN (((bs.drop (a + 1)).take 136).take 4)) (ps ++ [(leN (((bs.drop (a + 1)).take 136).take 4), (((bs.drop (a + 1)).take 136).drop 4).take 128)]) = F := by
  rw [← h, show C - k = (C - (k + 1)) + 1 by omega]
  conv => rhs; rw [loopD, if_neg h1, if_neg (fun e => e h2), if_neg h3, if_neg (by rw [h4]; decide)]
theorem tailD_3 {bs : List Int} {a : Nat} (h1 : ¬ bs.length ≤ a) (h2 : bs.getD a 0 = 69) (h3 : bs.length < a + 5) : tailD bs a = 3 := by rw [tailD, if_neg h1, if_neg (fun e => e h2), if_pos h3]
theorem tailD_4 {bs : List Int} {a : Nat} (h1 : ¬ bs.length ≤ a) (h2 : bs.getD a 0 ≠ 69) : tailD bs a = 4 := by rw [tailD, if_neg h1, if_pos h2]
theorem tailD_r {bs : List Int} {a : Nat} (h1 : ¬ bs.length ≤ a) (h2 : bs.getD a 0 = 69) (h3 : ¬ bs.length < a + 5) : tailD bs a = if leN ((bs.drop (a + 1)).take 4) ≠ crcOf (bs.take a) then 5 else if a + 5 < bs.length then 6 else 0 := by rw [tailD, if_neg h1, if_neg (fun e => e h2), if_neg h3]
set_option maxHeartbeats 16000000 in
theorem specParse_long (g o n c A B : Nat) (bs : List Int) (w : World) (hB : B ≤ w.heap.size) (hb : BytesAt w A B (some ⟨g, o, none⟩) n c bs) (hn : 22 ≤ n) (hn2 : n ≤ 200000) :
    Calls Try.prog 4 #[.slice (some ⟨g, o, none⟩) n c] w fun e w' => SRAns w (parS bs) e w' := by
  have HL : Hid (bs.length = n) := hb.1
  have hnc := hb.2.1
  have hcm := hb.2.2.1
  have hby := hb.2.2.2.1
  unfold maxLen at hcm
  have hb0 : Below w.heap.size w (w.alloc (.cells #[.int .i64 0, .int .i64 0, .int .i64 0, .int .i64 0, .int .i64 0, .slice none 0 0] 27)) := (Below.refl _ _).alloc (Nat.le_refl _) _
  have k0 := heap_alloc_new w (.cells #[.int .i64 0, .int .i64 0, .int .i64 0, .int .i64 0, .int .i64 0, .slice none 0 0] 27)
  have HB : Hid (∀ W, Below w.heap.size w W → BytesAt W A B (some ⟨g, o, none⟩) n c bs) := fun W hW => hb.below (hW.mono hB)
  have HP3 : Hid (¬ ((0 < n ∧ bs.getD 0 0 ≠ 66) ∨ (1 < n ∧ bs.getD 1 0 ≠ 75)) → parS bs = restD bs) := fun h => by unfold parS; rw [HL.out, if_neg (by omega), if_neg h, if_neg (by omega)]
  have HP2 : Hid ((0 < n ∧ bs.getD 0 0 ≠ 66) ∨ (1 < n ∧ bs.getD 1 0 ≠ 75) → parS bs = zSR 2) := fun h => by unfold parS; rw [HL.out, if_neg (by omega), if_pos h]
  have hgt : decide ((200000 : Int) < (n : Int)) = false := by simp; omega
  have h22 : decide ((n : Int) < 22) = false := by simp; omega
  obtain ⟨i1, hi1, hy0, hy1, hy2⟩ := info_parts info_np
  have HKB : Hid (Below w.heap.size w (w.alloc (.cells #[.int .i64 0, .int .i64 0, .int .i64 0, .int .i64 0, .int .i64 0, .slice none 0 0] 27)) ∧ (w.alloc (.cells #[.int .i64 0, .int .i64 0, .int .i64 0, .int .i64 0, .int .i64 0, .slice none 0 0] 27)).heap[w.heap.size]? = some (.cells #[.int .i64 0, .int .i64 0, .int .i64 0, .int .i64 0, .int .i64 0, .slice none 0 0] 27)) := ⟨hb0, k0⟩
  clear hb hb0 k0
  go_enter Try.func4, Try.ntmps4
  go_wp2_with fail
  generalize w.alloc (.cells #[.int .i64 0, .int .i64 0, .int .i64 0, .int .i64 0, .int .i64 0, .slice none 0 0] 27) = W0 at HKB ⊢
  go_loopw [3] (fun i wr => ∃ k : Nat, k ≤ 2 ∧ i = .int .i64 k ∧ Hid ((0 < k → bs.getD 0 0 = 66) ∧ (1 < k → bs.getD 1 0 = 75)) ∧ Hid (Below w.heap.size w wr ∧ wr.heap[w.heap.size]? = some (.cells #[.int .i64 0, .int .i64 0, .int .i64 0, .int .i64 0, .int .i64 0, .slice none 0 0] 27))) (fun i _ => 2 - (intOf i).toNat)
  case atStart => exact ⟨0, by omega, rfl, ⟨fun h => absurd h (by omega), fun h => absurd h (by omega)⟩, HKB⟩
  case round =>
    clear HKB
    obtain ⟨k, hk2, rfl, HG, HK⟩ := hrel
    have hlt : k < n := by omega
    by_cases hl2 : k < 2
    · have hcell := cellB (HB.out wr HK.out.1) k hlt
      have hx := getD_byteB hby k
      have hd1 : decide ((k : Int) < 2) = true := by simp; omega
      obtain ⟨x, hxe⟩ : ∃ x, x = bs.getD k 0 := ⟨_, rfl⟩
      rw [← hxe] at hcell hx
      have HXE : Hid (x = bs.getD k 0) := hxe
      clear hxe
      have hK0 : ((((ByteArray.mk #[66, 75])[0]'(by decide)).toNat : Nat) : Int) = 66 := rfl
      have hK1 : ((((ByteArray.mk #[66, 75])[1]'(by decide)).toNat : Nat) : Int) = 75 := rfl
      have hks : k = 0 ∨ k = 1 := by omega
      rcases hks with rfl | rfl
      · simp only [Nat.add_zero] at hcell
        by_cases t : x = 66
        · have dt : (x != 66) = false := by simp [t]
          have R1 : Hid ((0 < 1 → bs.getD 0 0 = 66) ∧ (1 < 1 → bs.getD 1 0 = 75)) := ⟨fun _ => by rw [← HXE.out]; exact t, fun h => absurd h (by omega)⟩
          go_wp2_with fail
          go_quiet (fail)
          have R2 : Hid (∀ q, Below w.heap.size w (wr.drewN q) ∧ (wr.drewN q).heap[w.heap.size]? = some (.cells #[.int .i64 0, .int .i64 0, .int .i64 0, .int .i64 0, .int .i64 0, .slice none 0 0] 27)) := fun q => ⟨HK.out.1.trans ⟨rfl, rfl, rfl, Nat.le_refl _, fun _ _ => rfl⟩, HK.out.2⟩
          clear HK
          go_wp2_with fail
          go_roundw
          case rel => exact ⟨1, by omega, rfl, R1, R2.out _⟩
          case measure => simp [intOf]
        · have dt : (x != 66) = true := by simp [t]
          have HPE : Hid (parS bs = zSR 2) := HP2.out (.inl ⟨hlt, by rw [← HXE.out]; exact t⟩)
          go_wp2_with fail
          go_quiet (fail)
          have R2 : Hid (∀ q, Below w.heap.size w (wr.drewN q) ∧ (wr.drewN q).heap[w.heap.size]? = some (.cells #[.int .i64 0, .int .i64 0, .int .i64 0, .int .i64 0, .int .i64 0, .slice none 0 0] 27)) := fun q => ⟨HK.out.1.trans ⟨rfl, rfl, rfl, Nat.le_refl _, fun _ _ => rfl⟩, HK.out.2⟩
          clear HK
          go_wp2_with fail
          have RE := R2.out nq
          generalize wr.drewN nq = wE at RE ⊢
          clear R2
          obtain ⟨belE, KE⟩ := RE
          refine (l7Err_any 2 wE).mono ?_
          rintro e wF ⟨rfl, hbF⟩
          have KF := box_below KE hbF
          have belF := belE.trans (hbF.mono belE.size)
          clear belE KE hbF
          obtain ⟨x0, x1, x2, x3, x4, x5⟩ := box_sixS KF
          have hz := box_thawC KF
          have XF := put6S_box KF (.int .i64 2) (.int .i64 0) (.int .i64 0) (.int .i64 0) (.int .i64 0) (.slice none 0 0)
          have hfF := put6S_fr wF w.heap.size (.int .i64 2) (.int .i64 0) (.int .i64 0) (.int .i64 0) (.int .i64 0) (.slice none 0 0)
          have HBF : Hid (Below w.heap.size w (put6S wF w.heap.size (.int .i64 2) (.int .i64 0) (.int .i64 0) (.int .i64 0) (.int .i64 0) (.slice none 0 0))) := belF.trans (hfF.below belF.size (fun q e => by omega))
          have lF : w.heap.size < wF.heap.size := (Array.getElem?_eq_some_iff.1 KF).1
          clear hfF belF KF
          go_wp2_with fail
          show bodyPost _ _ _ _ _ (put6S wF w.heap.size (.int .i64 2) (.int .i64 0) (.int .i64 0) (.int .i64 0) (.int .i64 0) (.slice none 0 0))
          clear x0 x1 x2 x3 x4 x5 hz
          obtain ⟨x0, x1, x2, x3, x4, x5⟩ := box_sixS XF
          rw [HPE.out]
          exact bodyPost_ret (v := .agg #[.int .i64 2, .int .i64 0, .int .i64 0, .int .i64 0, .int .i64 0, .slice none 0 0]) (by simp [results, Try.results4, go_sem, x0, x1, x2, x3, x4, x5]) rfl (SRAns.zero 2 HBF.out)
      · by_cases t : x = 75
        · have dt : (x != 75) = false := by simp [t]
          have R1 : Hid ((0 < 2 → bs.getD 0 0 = 66) ∧ (1 < 2 → bs.getD 1 0 = 75)) := ⟨fun _ => HG.out.1 (by omega), fun h => by rw [← HXE.out]; exact t⟩
          go_wp2_with fail
          go_quiet (fail)
          have R2 : Hid (∀ q, Below w.heap.size w (wr.drewN q) ∧ (wr.drewN q).heap[w.heap.size]? = some (.cells #[.int .i64 0, .int .i64 0, .int .i64 0, .int .i64 0, .int .i64 0, .slice none 0 0] 27)) := fun q => ⟨HK.out.1.trans ⟨rfl, rfl, rfl, Nat.le_refl _, fun _ _ => rfl⟩, HK.out.2⟩
          clear HK
          go_wp2_with fail
          go_roundw
          case rel => exact ⟨2, by omega, rfl, R1, R2.out _⟩
          case measure => simp [intOf]
        · have dt : (x != 75) = true := by simp [t]
          have HPE : Hid (parS bs = zSR 2) := HP2.out (.inr ⟨hlt, by rw [← HXE.out]; exact t⟩)
          go_wp2_with fail
          go_quiet (fail)
          have R2 : Hid (∀ q, Below w.heap.size w (wr.drewN q) ∧ (wr.drewN q).heap[w.heap.size]? = some (.cells #[.int .i64 0, .int .i64 0, .int .i64 0, .int .i64 0, .int .i64 0, .slice none 0 0] 27)) := fun q => ⟨HK.out.1.trans ⟨rfl, rfl, rfl, Nat.le_refl _, fun _ _ => rfl⟩, HK.out.2⟩
          clear HK
          go_wp2_with fail
          have RE := R2.out nq
          generalize wr.drewN nq = wE at RE ⊢
          clear R2
          obtain ⟨belE, KE⟩ := RE
          refine (l7Err_any 2 wE).mono ?_
          rintro e wF ⟨rfl, hbF⟩
          have KF := box_below KE hbF
          have belF := belE.trans (hbF.mono belE.size)
          clear belE KE hbF
          obtain ⟨x0, x1, x2, x3, x4, x5⟩ := box_sixS KF
          have hz := box_thawC KF
          have XF := put6S_box KF (.int .i64 2) (.int .i64 0) (.int .i64 0) (.int .i64 0) (.int .i64 0) (.slice none 0 0)
          have hfF := put6S_fr wF w.heap.size (.int .i64 2) (.int .i64 0) (.int .i64 0) (.int .i64 0) (.int .i64 0) (.slice none 0 0)
          have HBF : Hid (Below w.heap.size w (put6S wF w.heap.size (.int .i64 2) (.int .i64 0) (.int .i64 0) (.int .i64 0) (.int .i64 0) (.slice none 0 0))) := belF.trans (hfF.below belF.size (fun q e => by omega))
          have lF : w.heap.size < wF.heap.size := (Array.getElem?_eq_some_iff.1 KF).1
          clear hfF belF KF
          go_wp2_with fail
          show bodyPost _ _ _ _ _ (put6S wF w.heap.size (.int .i64 2) (.int .i64 0) (.int .i64 0) (.int .i64 0) (.int .i64 0) (.slice none 0 0))
          clear x0 x1 x2 x3 x4 x5 hz
          obtain ⟨x0, x1, x2, x3, x4, x5⟩ := box_sixS XF
          rw [HPE.out]
          exact bodyPost_ret (v := .agg #[.int .i64 2, .int .i64 0, .int .i64 0, .int .i64 0, .int .i64 0, .slice none 0 0]) (by simp [results, Try.results4, go_sem, x0, x1, x2, x3, x4, x5]) rfl (SRAns.zero 2 HBF.out)
    · obtain rfl : k = 2 := by omega
      have HPR : Hid (parS bs = restD bs) := HP3.out (fun h => by rcases h with h | h; exact h.2 (HG.out.1 (by omega)); exact h.2 (HG.out.2 (by omega)))
      obtain ⟨bel0, K0⟩ := HK.out
      clear HK HP2 HP3 HG
      have hd1 : decide ((2 : Int) < (n : Int)) = true := by simp; omega
      have c2 : ¬ c = 2 := by omega
      have HC2 : Hid (BytesAt wr A B (some ⟨g, o + 2, none⟩) 20 (c - 2) ((bs.drop 2).take 20)) := bytesAt_sub (HB.out wr bel0) 2 20 (by omega) (by omega)
      have hhd := l7Head_any g (o + 2) (c - 2) ((bs.drop 2).take 20) wr A B (Nat.le_trans hB bel0.size) HC2.out
      have hby2 : ∀ x ∈ (bs.drop 2).take 20, 0 ≤ x ∧ x ≤ 255 := fun x hx => hby x (List.mem_of_mem_drop (List.mem_of_mem_take hx))
      have r2 := le4_range hby2 4
      have r3 := le4_range hby2 8
      have r5 := le4_range hby2 16
      have HRD : Hid (restD bs = if hdOkD (leN (((bs.drop 2).take 20).take 4)) (numD bs 4) (numD bs 8) (numD bs 12) (numD bs 16) = false then zSR 2
          else if (loopD bs (numD bs 8) (numD bs 4) (numD bs 16).toNat 22 0 []).1 ≠ 0 then zSR (loopD bs (numD bs 8) (numD bs 4) (numD bs 16).toNat 22 0 []).1
          else if tailD bs (loopD bs (numD bs 8) (numD bs 4) (numD bs 16).toNat 22 0 []).2.1 ≠ 0 then zSR (tailD bs (loopD bs (numD bs 8) (numD bs 4) (numD bs 16).toNat 22 0 []).2.1)
          else ⟨0, leN (((bs.drop 2).take 20).take 4), numD bs 4, numD bs 8, numD bs 12, (loopD bs (numD bs 8) (numD bs 4) (numD bs 16).toNat 22 0 []).2.2⟩) := rfl
      obtain ⟨id, hid⟩ : ∃ x, x = leN (((bs.drop 2).take 20).take 4) := ⟨_, rfl⟩
      obtain ⟨tx, htx⟩ : ∃ x, x = numD bs 4 := ⟨_, rfl⟩
      obtain ⟨ba, hba⟩ : ∃ x, x = numD bs 8 := ⟨_, rfl⟩
      obtain ⟨rt, hrt⟩ : ∃ x, x = numD bs 12 := ⟨_, rfl⟩
      obtain ⟨ct, hct⟩ : ∃ x, x = numD bs 16 := ⟨_, rfl⟩
      rw [← hid, ← htx, ← hba, ← hrt, ← hct] at HRD
      rw [← hid, show leN ((((bs.drop 2).take 20).drop 4).take 4) = tx from htx.symm, show leN ((((bs.drop 2).take 20).drop 8).take 4) = ba from hba.symm, show leN ((((bs.drop 2).take 20).drop 12).take 4) = rt from hrt.symm, show leN ((((bs.drop 2).take 20).drop 16).take 4) = ct from hct.symm] at hhd
      rw [show leN ((((bs.drop 2).take 20).drop 4).take 4) = tx from htx.symm] at r2
      rw [show leN ((((bs.drop 2).take 20).drop 8).take 4) = ba from hba.symm] at r3
      rw [show leN ((((bs.drop 2).take 20).drop 16).take 4) = ct from hct.symm] at r5
      clear hid htx hba hrt hct hby2 HC2
      obtain ⟨C, rfl⟩ : ∃ C : Nat, ct = (C : Int) := ⟨ct.toNat, by omega⟩
      simp only [Int.toNat_natCast] at HRD
      go_wp2_with fail
      refine hhd.mono ?_
      rintro e w1 ⟨rfl, hb1⟩
      have bel1 : Below w.heap.size w w1 := bel0.trans (hb1.mono bel0.size)
      have K1 := box_below K0 hb1
      have hb2 : Below w1.heap.size w1 (w1.alloc (.cells #[.int .i64 id, .int .i64 tx, .int .i64 ba, .int .i64 rt, .slice none 0 0] 25)) := (Below.refl _ _).alloc (Nat.le_refl _) _
      have S2 := heap_alloc_new w1 (.cells #[.int .i64 id, .int .i64 tx, .int .i64 ba, .int .i64 rt, .slice none 0 0] 25)
      have Z1 : w.heap.size < w1.heap.size := (Array.getElem?_eq_some_iff.1 K1).1
      obtain ⟨N, hN⟩ : ∃ N, N = w1.heap.size := ⟨_, rfl⟩
      rw [← hN] at S2 Z1
      have HI : Hid (DSt w (w1.alloc (.cells #[.int .i64 id, .int .i64 tx, .int .i64 ba, .int .i64 rt, .slice none 0 0] 25)) N id tx ba rt none 0 0 [] [] []) := ⟨bel1.trans (hb2.mono bel1.size), box_below K1 hb2, S2, ownN_none _ _, rfl⟩
      clear bel0 K0 hhd hb1 bel1 K1 hb2 S2
      go_upto_region 11 with fail
      rw [← hN]
      clear hN
      generalize w1.alloc (.cells #[.int .i64 id, .int .i64 tx, .int .i64 ba, .int .i64 rt, .slice none 0 0] 25) = W2 at HI ⊢
      cases hok : hdOkD id tx ba rt (C : Int)
      · have HPE : Hid (parS bs = zSR 2) := by show _ = _; rw [HPR.out, HRD.out, if_pos hok]
        have belE := HI.out.bel
        have KE := HI.out.ans
        clear HI HRD HPR
        obtain ⟨wE, hwE⟩ : ∃ x, x = W2 := ⟨_, rfl⟩
        subst hwE
        go_wp2_with fail
        refine (l7Err_any 2 wE).mono ?_
        rintro e wF ⟨rfl, hbF⟩
        have KF := box_below KE hbF
        have belF := belE.trans (hbF.mono belE.size)
        clear belE KE hbF
        obtain ⟨x0, x1, x2, x3, x4, x5⟩ := box_sixS KF
        have hz := box_thawC KF
        have XF := put6S_box KF (.int .i64 2) (.int .i64 0) (.int .i64 0) (.int .i64 0) (.int .i64 0) (.slice none 0 0)
        have hfF := put6S_fr wF w.heap.size (.int .i64 2) (.int .i64 0) (.int .i64 0) (.int .i64 0) (.int .i64 0) (.slice none 0 0)
        have HBF : Hid (Below w.heap.size w (put6S wF w.heap.size (.int .i64 2) (.int .i64 0) (.int .i64 0) (.int .i64 0) (.int .i64 0) (.slice none 0 0))) := belF.trans (hfF.below belF.size (fun q e => by omega))
        have lF : w.heap.size < wF.heap.size := (Array.getElem?_eq_some_iff.1 KF).1
        clear hfF belF KF
        go_wp2_with fail
        show bodyPost _ _ _ _ _ (put6S wF w.heap.size (.int .i64 2) (.int .i64 0) (.int .i64 0) (.int .i64 0) (.int .i64 0) (.slice none 0 0))
        clear x0 x1 x2 x3 x4 x5 hz
        obtain ⟨x0, x1, x2, x3, x4, x5⟩ := box_sixS XF
        rw [HPE.out]
        exact bodyPost_ret (v := .agg #[.int .i64 2, .int .i64 0, .int .i64 0, .int .i64 0, .int .i64 0, .slice none 0 0]) (by simp [results, Try.results4, go_sem, x0, x1, x2, x3, x4, x5]) rfl (SRAns.zero 2 HBF.out)
      · have hC : C ≤ 1000 := by
          unfold hdOkD at hok
          simp only [Bool.and_eq_true, decide_eq_true_eq] at hok
          omega
        obtain ⟨FIN, hFIN⟩ : ∃ F, F = loopD bs ba tx C 22 0 [] := ⟨_, rfl⟩
        have HRE : Hid (parS bs = if FIN.1 ≠ 0 then zSR FIN.1 else if tailD bs FIN.2.1 ≠ 0 then zSR (tailD bs FIN.2.1) else ⟨0, id, tx, ba, rt, FIN.2.2⟩) := by
          show _ = _
          rw [HPR.out, HRD.out, if_neg (by rw [hok]; decide), hFIN]
        have HF0 : Hid (loopD bs ba tx (C - 0) 22 0 [] = FIN) := hFIN.symm
        clear hFIN HRD HPR hok
        go_wp2_with fail
        go_loopw [7, 8, 9, 10] (fun a7 l i x wr => ∃ (k : Nat) (lst : Int) (ps : List PN), k ≤ C ∧ i = .int .i64 k ∧ l = .int .i64 lst ∧ a7 = .int .i64 ((22 + 137 * k : Nat) : Int) ∧ Hid (loopD bs ba tx (C - k) (22 + 137 * k) lst ps = FIN ∧ ∃ (va : Option Addr) (vc : Nat) (xs vs : List Value), DSt w wr N id tx ba rt va k vc ps xs vs)) (fun _ _ i _ _ => C - (intOf i).toNat)
        case atStart => exact ⟨0, 0, [], Nat.zero_le _, rfl, rfl, rfl, HF0.out, none, 0, [], [], HI.out⟩
        case round =>
          clear HI HF0
          obtain ⟨k, lst, ps, hk, rfl, rfl, rfl, HX⟩ := hrel
          obtain ⟨x1, va, vc, xs, vs, HD⟩ := HX.out
          clear HX
          have X1 : Hid (loopD bs ba tx (C - k) (22 + 137 * k) lst ps = FIN) := x1
          have D0 : Hid (DSt w wr N id tx ba rt va k vc ps xs vs) := HD
          clear x1 HD
          obtain ⟨a, ha⟩ : ∃ a, a = 22 + 137 * k := ⟨_, rfl⟩
          have HA : Hid (a = 22 + 137 * k) := ha
          have hab : a ≤ 137022 := by omega
          rw [← ha] at X1 ⊢
          clear ha
          by_cases hltC : k < C
          · by_cases t1 : n ≤ a
            · have d1 : decide ((n : Int) ≤ (a : Int)) = true := by simpa using t1
              have HPE : Hid (parS bs = zSR 3) := by show _ = _; rw [HRE.out, loopD_step3 X1.out hltC (by rw [HL.out]; exact t1), if_pos (by decide)]
              have belE := D0.out.bel
              have KE := D0.out.ans
              clear D0 X1 HRE
              obtain ⟨wE, hwE⟩ : ∃ x, x = wr := ⟨_, rfl⟩
              subst hwE
              go_wp2_with fail
              refine (l7Err_any 3 wE).mono ?_
              rintro e wF ⟨rfl, hbF⟩
              have KF := box_below KE hbF
              have belF := belE.trans (hbF.mono belE.size)
              clear belE KE hbF
              obtain ⟨x0, x1, x2, x3, x4, x5⟩ := box_sixS KF
              have hz := box_thawC KF
              have XF := put6S_box KF (.int .i64 3) (.int .i64 0) (.int .i64 0) (.int .i64 0) (.int .i64 0) (.slice none 0 0)
              have hfF := put6S_fr wF w.heap.size (.int .i64 3) (.int .i64 0) (.int .i64 0) (.int .i64 0) (.int .i64 0) (.slice none 0 0)
              have HBF : Hid (Below w.heap.size w (put6S wF w.heap.size (.int .i64 3) (.int .i64 0) (.int .i64 0) (.int .i64 0) (.int .i64 0) (.slice none 0 0))) := belF.trans (hfF.below belF.size (fun q e => by omega))
              have lF : w.heap.size < wF.heap.size := (Array.getElem?_eq_some_iff.1 KF).1
              clear hfF belF KF
              go_wp2_with fail
              show bodyPost _ _ _ _ _ (put6S wF w.heap.size (.int .i64 3) (.int .i64 0) (.int .i64 0) (.int .i64 0) (.int .i64 0) (.slice none 0 0))
              clear x0 x1 x2 x3 x4 x5 hz
              obtain ⟨x0, x1, x2, x3, x4, x5⟩ := box_sixS XF
              rw [HPE.out]
              exact bodyPost_ret (v := .agg #[.int .i64 3, .int .i64 0, .int .i64 0, .int .i64 0, .int .i64 0, .slice none 0 0]) (by simp [results, Try.results4, go_sem, x0, x1, x2, x3, x4, x5]) rfl (SRAns.zero 3 HBF.out)
            · have d1 : decide ((n : Int) ≤ (a : Int)) = false := by simpa using t1
              have hcell := cellB (HB.out wr D0.out.bel) a (by omega)
              obtain ⟨x, hxe⟩ : ∃ x, x = bs.getD a 0 := ⟨_, rfl⟩
              rw [← hxe] at hcell
              have HXE : Hid (x = bs.getD a 0) := hxe
              clear hxe
              by_cases t2 : x = 80
              · have d2 : (x != 80) = false := by simp [t2]
                have T2 : Hid (bs.getD a 0 = 80) := by show _ = _; rw [← HXE.out]; exact t2
                by_cases t3 : n < a + 137
                · have d3 : decide ((n : Int) < (a : Int) + 137) = true := by simp; omega
                  have HPE : Hid (parS bs = zSR 3) := by show _ = _; rw [HRE.out, loopD_step3' X1.out hltC (by rw [HL.out]; exact t1) T2.out (by rw [HL.out]; exact t3), if_pos (by decide)]
                  have belE := D0.out.bel
                  have KE := D0.out.ans
                  clear D0 X1 HRE
                  obtain ⟨wE, hwE⟩ : ∃ x, x = wr := ⟨_, rfl⟩
                  subst hwE
                  go_wp2_with fail
                  refine (l7Err_any 3 wE).mono ?_
                  rintro e wF ⟨rfl, hbF⟩
                  have KF := box_below KE hbF
                  have belF := belE.trans (hbF.mono belE.size)
                  clear belE KE hbF
                  obtain ⟨x0, x1, x2, x3, x4, x5⟩ := box_sixS KF
                  have hz := box_thawC KF
                  have XF := put6S_box KF (.int .i64 3) (.int .i64 0) (.int .i64 0) (.int .i64 0) (.int .i64 0) (.slice none 0 0)
                  have hfF := put6S_fr wF w.heap.size (.int .i64 3) (.int .i64 0) (.int .i64 0) (.int .i64 0) (.int .i64 0) (.slice none 0 0)
                  have HBF : Hid (Below w.heap.size w (put6S wF w.heap.size (.int .i64 3) (.int .i64 0) (.int .i64 0) (.int .i64 0) (.int .i64 0) (.slice none 0 0))) := belF.trans (hfF.below belF.size (fun q e => by omega))
                  have lF : w.heap.size < wF.heap.size := (Array.getElem?_eq_some_iff.1 KF).1
                  clear hfF belF KF
                  go_wp2_with fail
                  show bodyPost _ _ _ _ _ (put6S wF w.heap.size (.int .i64 3) (.int .i64 0) (.int .i64 0) (.int .i64 0) (.int .i64 0) (.slice none 0 0))
                  clear x0 x1 x2 x3 x4 x5 hz
                  obtain ⟨x0, x1, x2, x3, x4, x5⟩ := box_sixS XF
                  rw [HPE.out]
                  exact bodyPost_ret (v := .agg #[.int .i64 3, .int .i64 0, .int .i64 0, .int .i64 0, .int .i64 0, .slice none 0 0]) (by simp [results, Try.results4, go_sem, x0, x1, x2, x3, x4, x5]) rfl (SRAns.zero 3 HBF.out)
                · have d3 : decide ((n : Int) < (a : Int) + 137) = false := by simp; omega
                  have hca : ¬ c = a + 1 := by omega
                  obtain ⟨z0, z1, z2, z3, z4⟩ := box_fiveC D0.out.box
                  have lN : N < wr.heap.size := (Array.getElem?_eq_some_iff.1 D0.out.box).1
                  have HX : Hid (∀ W, Below w.heap.size w W → BytesAt W A B (some ⟨g, o + (a + 1), none⟩) 136 (c - (a + 1)) ((bs.drop (a + 1)).take 136)) := fun W hW => bytesAt_sub (HB.out W hW) (a + 1) 136 (by omega) (by omega)
                  have hfr := l7Frame_any g (o + (a + 1)) (c - (a + 1)) ((bs.drop (a + 1)).take 136) id tx ba rt lst r3 va k vc wr A B (Nat.le_trans hB D0.out.bel.size) (HX.out wr D0.out.bel)
                  obtain ⟨fr, hfre⟩ : ∃ f, f = frmD ((bs.drop (a + 1)).take 136) ba tx lst := ⟨_, rfl⟩
                  rw [← hfre] at hfr
                  have HFR : Hid (fr = frmD ((bs.drop (a + 1)).take 136) ba tx lst) := hfre
                  clear hfre
                  go_wp2_with fail
                  rw [show a + 137 - (a + 1) = 136 by omega]
                  refine hfr.mono ?_
                  rintro e w3 ⟨rfl, hb3⟩
                  have D3 : Hid (DSt w w3 N id tx ba rt va k vc ps xs vs) := D0.out.below hb3
                  clear D0 hfr hb3 z0 z1 z2 z3 z4
                  cases fr
                  · have HPE : Hid (parS bs = zSR 4) := by show _ = _; rw [HRE.out, loopD_step4' X1.out hltC (by rw [HL.out]; exact t1) T2.out (by rw [HL.out]; exact t3) HFR.out.symm, if_pos (by decide)]
                    have belE := D3.out.bel
                    have KE := D3.out.ans
                    clear D3 X1 HRE
                    obtain ⟨wE, hwE⟩ : ∃ x, x = w3 := ⟨_, rfl⟩
                    subst hwE
                    go_wp2_with fail
                    refine (l7Err_any 4 wE).mono ?_
                    rintro e wF ⟨rfl, hbF⟩
                    have KF := box_below KE hbF
                    have belF := belE.trans (hbF.mono belE.size)
                    clear belE KE hbF
                    obtain ⟨x0, x1, x2, x3, x4, x5⟩ := box_sixS KF
                    have hz := box_thawC KF
                    have XF := put6S_box KF (.int .i64 4) (.int .i64 0) (.int .i64 0) (.int .i64 0) (.int .i64 0) (.slice none 0 0)
                    have hfF := put6S_fr wF w.heap.size (.int .i64 4) (.int .i64 0) (.int .i64 0) (.int .i64 0) (.int .i64 0) (.slice none 0 0)
                    have HBF : Hid (Below w.heap.size w (put6S wF w.heap.size (.int .i64 4) (.int .i64 0) (.int .i64 0) (.int .i64 0) (.int .i64 0) (.slice none 0 0))) := belF.trans (hfF.below belF.size (fun q e => by omega))
                    have lF : w.heap.size < wF.heap.size := (Array.getElem?_eq_some_iff.1 KF).1
                    clear hfF belF KF
                    go_wp2_with fail
                    show bodyPost _ _ _ _ _ (put6S wF w.heap.size (.int .i64 4) (.int .i64 0) (.int .i64 0) (.int .i64 0) (.int .i64 0) (.slice none 0 0))
                    clear x0 x1 x2 x3 x4 x5 hz
                    obtain ⟨x0, x1, x2, x3, x4, x5⟩ := box_sixS XF
                    rw [HPE.out]
                    exact bodyPost_ret (v := .agg #[.int .i64 4, .int .i64 0, .int .i64 0, .int .i64 0, .int .i64 0, .slice none 0 0]) (by simp [results, Try.results4, go_sem, x0, x1, x2, x3, x4, x5]) rfl (SRAns.zero 4 HBF.out)
                  · have HNX : Hid (loopD bs ba tx (C - (k + 1)) (a + 137) (leN (((bs.drop (a + 1)).take 136).take 4)) (ps ++ [(leN (((bs.drop (a + 1)).take 136).take 4), (((bs.drop (a + 1)).take 136).drop 4).take 128)]) = FIN) := loopD_next X1.out hltC (by rw [HL.out]; exact t1) T2.out (by rw [HL.out]; exact t3) HFR.out.symm
                    have HQ : Hid (∀ W, Below w.heap.size w W → Calls Try.prog 15 #[.slice (some ⟨g, o + (a + 1), none⟩) 4 (c - (a + 1)), .bool false] W fun e w' => e = .returned (.int .i64 (leN (((bs.drop (a + 1)).take 136).take 4))) ∧ w' = W) := fun W hW => get_low0 (HX.out W hW) (by omega)
                    have HY : Hid (∀ W, Below w.heap.size w W → BytesAt W A B (some ⟨g, o + (a + 1) + 4, none⟩) 128 (c - (a + 1) - 4) ((((bs.drop (a + 1)).take 136).drop 4).take 128)) := fun W hW => bytesAt_sub (HX.out W hW) 4 128 (by omega) (by omega)
                    obtain ⟨num, hnum⟩ : ∃ x, x = leN (((bs.drop (a + 1)).take 136).take 4) := ⟨_, rfl⟩
                    obtain ⟨data, hdata⟩ : ∃ x, x = (((bs.drop (a + 1)).take 136).drop 4).take 128 := ⟨_, rfl⟩
                    rw [← hnum, ← hdata] at HNX
                    rw [← hnum] at HQ
                    rw [← hdata] at HY
                    clear hnum hdata X1 T2 HXE t2 d2 d3 hcell
                    go_wp2_with fail
                    refine (HQ.out w3 D3.out.bel).mono ?_
                    rintro e w4 ⟨rfl, e4⟩
                    rw [e4]
                    clear e4
                    have hc5 : ¬ c - (a + 1) = 4 := by omega
                    obtain ⟨z0, z1, z2, z3, z4⟩ := box_fiveC D3.out.box
                    clear z0 z1 z2 z3
                    have lN3 : N < w3.heap.size := (Array.getElem?_eq_some_iff.1 D3.out.box).1
                    have D4 : Hid (DSt w w3.drew N id tx ba rt va k vc ps xs vs) := D3.out.below (Below.refl _ _).drew
                    clear D3
                    go_wp2_with fail
                    refine wp_region_noPanic ?_
                    refine wp_region_held_drew (S := (fun _ : World => True)) (by kernel_rfl) (trivial) (fun hHeld => ?_)
                    refine wpAnyH_take (i := 0) (oi := { dst := some 84, op := Op.fieldAddr 25 (Operand.tmp 4) 4, type := 0, pos := "l7_restore.go:55", after := #[], guard := none }) (v := .pointer (some ⟨N, 4, none⟩)) rfl (by kernel_rfl) (by kernel_rfl) (by kernel_rfl) (fun _ _ _ h => h) (Or.inl ⟨by rfl, ?_⟩) (by assumption) ?_
                    · intro wq hSw; (try dsimp only at hSw); go_simp
                    try simp only [Act.put, List.setIfInBounds_toArray, List.set_cons_zero, List.set_cons_succ]
                    refine wpAnyH_take (i := 2) (oi := { dst := some 86, op := Op.move (Operand.tmp 8), type := 2, pos := "l7_restore.go:55", after := #[], guard := none }) (v := .int .i64 num) rfl (by kernel_rfl) (by kernel_rfl) (by kernel_rfl) (fun _ _ _ h => h) (Or.inl ⟨by rfl, ?_⟩) (by assumption) ?_
                    · intro wq hSw; (try dsimp only at hSw); go_simp
                    try simp only [Act.put, List.setIfInBounds_toArray, List.set_cons_zero, List.set_cons_succ]
                    refine wpAnyH_take (i := 3) (oi := { dst := some 87, op := Op.move (Operand.tmp 10), type := 22, pos := "l7_restore.go:55", after := #[], guard := none }) (v := .slice (some ⟨g, o + (a + 1), none⟩) 136 (c - (a + 1))) rfl (by kernel_rfl) (by kernel_rfl) (by kernel_rfl) (fun _ _ _ h => h) (Or.inl ⟨by rfl, ?_⟩) (by assumption) ?_
                    · intro wq hSw; (try dsimp only at hSw); go_simp
                    try simp only [Act.put, List.setIfInBounds_toArray, List.set_cons_zero, List.set_cons_succ]
                    refine wpAnyH_take (i := 4) (oi := { dst := some 88, op := Op.slice 22 (Operand.tmp 87) (some (Operand.const (Value.int IntKind.i64 4))) (some (Operand.const (Value.int IntKind.i64 132))) none, type := 22, pos := "l7_restore.go:55", after := #[{ on := 3, ground := Ground.data }], guard := none }) (v := .slice (some ⟨g, o + (a + 1) + 4, none⟩) 128 (c - (a + 1) - 4)) rfl (by kernel_rfl) (by kernel_rfl) (by kernel_rfl) (fun _ _ _ h => h) (Or.inl ⟨by rfl, ?_⟩) (by assumption) ?_
                    · intro wq hSw; (try dsimp only at hSw); go_simp; (try omega)
                    try simp only [Act.put, List.setIfInBounds_toArray, List.set_cons_zero, List.set_cons_succ]
                    refine wpAnyH_ready (rs := [1, 5]) (by kernel_rfl) (by simp) ?_
                    refine AllReadyH.cons (o := { dst := some 85, op := Op.load 23 (Operand.tmp 84), type := 23, pos := "l7_restore.go:55", after := #[{ on := 0, ground := Ground.data }], guard := none }) rfl (fun K hK => ?_) ?_
                    rotate_left 1
                    refine AllReadyH.cons (o := { dst := some 89, op := Op.call { callee := Callee.value (Operand.func 16), args := #[Operand.tmp 88], argTypes := #[22] }, type := 22, pos := "l7_restore.go:55", after := #[{ on := 4, ground := Ground.data }], guard := none }) rfl (fun K hK => ?_) ?_
                    rotate_left 1
                    exact AllReadyH.nil
                    · go_simp
                      refine hK.out _ _ (trivial) (fun hHeld => ?_)
                      clear hK K
                      try simp only [Act.put, List.setIfInBounds_toArray, List.set_cons_zero, List.set_cons_succ]
                      refine wpAnyH_ready (rs := [5]) (by kernel_rfl) (by simp) ?_
                      refine AllReadyH.cons (o := { dst := some 89, op := Op.call { callee := Callee.value (Operand.func 16), args := #[Operand.tmp 88], argTypes := #[22] }, type := 22, pos := "l7_restore.go:55", after := #[{ on := 4, ground := Ground.data }], guard := none }) rfl (fun K hK => ?_) AllReadyH.nil
                      go_simp
                      refine (l1Bytes_any (some ⟨g, o + (a + 1) + 4, none⟩) 128 (c - (a + 1) - 4) data w3.drew A B (Nat.le_trans hB D4.out.bel.size) (HY.out _ D4.out.bel) (by omega)).mono ?_
                      rintro e w5 ⟨pa, pc, rfl, hO5, hb5⟩
                      have D5 : Hid (DSt w w5 N id tx ba rt va k vc ps xs vs) := D4.out.below hb5
                      have Z5 := (box_fiveC D5.out.box).2.2.2.2
                      have lN5 : N < w5.heap.size := (Array.getElem?_eq_some_iff.1 D5.out.box).1
                      go_wp2_with fail
                      refine hK.out _ _ (trivial) (fun hHeld => ?_)
                      clear hK K
                      try simp only [Act.put, List.setIfInBounds_toArray, List.set_cons_zero, List.set_cons_succ]
                      refine wpAnyH_take (i := 6) (oi := { dst := some 90, op := Op.build 41 #[(0, Operand.tmp 86), (1, Operand.tmp 89)], type := 41, pos := "l7_restore.go:55", after := #[{ on := 2, ground := Ground.data }, { on := 5, ground := Ground.data }], guard := none }) (v := .agg #[.int .i64 num, .slice pa 128 pc]) rfl (by kernel_rfl) (by kernel_rfl) (by kernel_rfl) (fun _ _ _ h => h) (Or.inl ⟨by rfl, ?_⟩) (by assumption) ?_
                      · intro wq hSw; (try dsimp only at hSw); go_simp
                      try simp only [Act.put, List.setIfInBounds_toArray, List.set_cons_zero, List.set_cons_succ]
                      refine wpAnyH_ready (rs := [7]) (by kernel_rfl) (by simp) ?_
                      refine AllReadyH.cons (o := { dst := some 91, op := Op.buildSlice 23 1 #[(0, Operand.tmp 90)], type := 23, pos := "l7_restore.go:55", after := #[{ on := 6, ground := Ground.data }], guard := none }) rfl (fun K hK => ?_) AllReadyH.nil
                      go_simp
                      have hb6 : Below w5.heap.size w5 (w5.alloc (.cells #[.int .i64 num, .slice pa 128 pc] 41)) := (Below.refl _ _).alloc (Nat.le_refl _) _
                      have Z6 := (box_fiveC (D5.out.below hb6).box).2.2.2.2
                      refine hK.out _ _ (trivial) (fun hHeld => ?_)
                      clear hK K
                      try simp only [Act.put, List.setIfInBounds_toArray, List.set_cons_zero, List.set_cons_succ]
                      refine wpAnyH_ready (rs := [8]) (by kernel_rfl) (by simp) ?_
                      refine AllReadyH.cons (o := { dst := some 92, op := Op.call { callee := Callee.builtin Builtin.append, args := #[Operand.tmp 85, Operand.tmp 91], argTypes := #[23, 23] }, type := 23, pos := "l7_restore.go:55", after := #[{ on := 1, ground := Ground.data }, { on := 7, ground := Ground.data }, { on := 5, ground := Ground.chain }], guard := none }) rfl (fun K hK => ?_) AllReadyH.nil
                      have hrow6 : (w5.alloc (.cells #[.int .i64 num, .slice pa 128 pc] 41)).ownsRow (N + 1) 41 2 (.slice va k vc) k xs := by have := (D5.out.below hb6).own.row; rwa [D5.out.len] at this
                      refine step_append_ownD rfl _ _ 23 rfl (N + 1) 41 i1 _ 2 32 Try.underlying23 hi1 hy0 hy1 hy2 rfl (by decide) (.slice va k vc) k xs (by simp [Act.eval]) hrow6 ⟨w5.heap.size, 0, none⟩ 1 1 [.int .i64 num, .slice pa 128 pc] (by simp [Act.eval]) rfl (cell_two_new _ _ _ _) (by simp [Value.oneCell']) (by unfold maxLen; omega) (by omega) (by simp; omega) ?_
                      intro u7 w7 hown7 hgr7 hlies7
                      obtain ⟨g7, cap7, rfl⟩ := rowSuccN hown7
                      have hRL : ∀ q, (Value.slice va k vc).ownBlock = some q → N + 1 ≤ q ∧ q < w5.heap.size := fun q hq => D5.out.own.row.lt q hq
                      have B7 : w7.heap[N]? = some (.cells #[.int .i64 id, .int .i64 tx, .int .i64 ba, .int .i64 rt, .slice va k vc] 25) := (hgr7.block N (by simp; omega) (fun e => by have := hRL N e.symm; omega)).trans (box_below D5.out.box hb6)
                      have Z7 := (box_fiveC B7).2.2.2.2
                      have bf7 := box_thawC B7 4
                      have lN7 : N < w7.heap.size := (Array.getElem?_eq_some_iff.1 B7).1
                      refine hK.out _ _ (trivial) (fun hHeld => ?_)
                      clear hK K
                      try simp only [Act.put, List.setIfInBounds_toArray, List.set_cons_zero, List.set_cons_succ]
                      refine wpAnyH_take (i := 9) (oi := { dst := some 93, op := Op.fieldAddr 25 (Operand.tmp 4) 4, type := 0, pos := "l7_restore.go:55", after := #[{ on := 0, ground := Ground.phase }, { on := 1, ground := Ground.phase }, { on := 2, ground := Ground.phase }, { on := 3, ground := Ground.phase }, { on := 4, ground := Ground.phase }, { on := 5, ground := Ground.phase }, { on := 6, ground := Ground.phase }, { on := 7, ground := Ground.phase }, { on := 8, ground := Ground.phase }], guard := none }) (v := .pointer (some ⟨N, 4, none⟩)) rfl (by kernel_rfl) (by kernel_rfl) (by kernel_rfl) (fun _ _ _ h => h) (Or.inl ⟨by rfl, ?_⟩) (by assumption) ?_
                      · intro wq hSw; (try dsimp only at hSw); go_simp
                      try simp only [Act.put, List.setIfInBounds_toArray, List.set_cons_zero, List.set_cons_succ]
                      refine wpAnyH_ready (rs := [10]) (by kernel_rfl) (by simp) ?_
                      refine AllReadyH.cons (o := { dst := none, op := Op.store 23 (Operand.tmp 93) (Operand.tmp 92), type := 0, pos := "l7_restore.go:55", after := #[{ on := 9, ground := Ground.data }, { on := 8, ground := Ground.data }, { on := 8, ground := Ground.chain }, { on := 0, ground := Ground.phase }, { on := 1, ground := Ground.phase }, { on := 2, ground := Ground.phase }, { on := 3, ground := Ground.phase }, { on := 4, ground := Ground.phase }, { on := 5, ground := Ground.phase }, { on := 6, ground := Ground.phase }, { on := 7, ground := Ground.phase }, { on := 8, ground := Ground.phase }], guard := none }) rfl (fun K hK => ?_) AllReadyH.nil
                      go_simp
                      refine hK.out _ _ (trivial) (fun hHeld => ?_)
                      clear hK K
                      try simp only [Act.put, List.setIfInBounds_toArray, List.set_cons_zero, List.set_cons_succ]
                      refine wpAnyH_done (by kernel_rfl) ?_ _
                      refine NoPanic.normal ?_
                      have R9 : Hid (loopD bs ba tx (C - (k + 1)) (22 + 137 * (k + 1)) num (ps ++ [(num, data)]) = FIN ∧ ∃ (va : Option Addr) (vc : Nat) (xs vs : List Value), DSt w (w7.setCell ⟨N, 4, none⟩ (.slice (some ⟨g7, 0, none⟩) (k + 1) cap7)) N id tx ba rt va (k + 1) vc (ps ++ [(num, data)]) xs vs) := by
                        have fs := fr_setCell w7 N 4 (.slice (some ⟨g7, 0, none⟩) (k + 1) cap7)
                        have hdl : data.length = 128 := (HY.out _ D4.out.bel).1
                        have O7 : OwnN w7 (N + 1) (.slice (some ⟨g7, 0, none⟩) (k + 1) cap7) (ps ++ [(num, data)]) (xs ++ [.int .i64 num, .slice pa 128 pc]) (vs ++ [.slice pa 128 pc]) :=
                          OwnN.push2 (f := (num, data)) (M := w3.drew.heap.size) D5.out.own (show N + 1 ≤ w3.heap.size by omega) (fun j hj q hq => ((D4.out.own.data j hj).lt q hq).2) (by rw [hdl]; exact hO5) (HY.out _ D4.out.bel).2.2.2.1 hb6 (by rw [D5.out.len]; exact hown7) hgr7
                        have FR : Fr (fun x => N + 1 ≤ x) w5 w7 := (Fr.of_below hb6).trans (Fr.of_grown hgr7 (fun q e => (hRL q e).1))
                        refine ⟨by rw [show 22 + 137 * (k + 1) = a + 137 by have := HA.out; omega]; exact HNX.out, _, _, _, _, ?_, ?_, ?_, O7.fr fs (fun q hq e => by have := O7.blk hq; omega), by rw [List.length_append, D5.out.len]; rfl⟩
                        · exact (D5.out.bel.trans (FR.below D5.out.bel.size (fun q e => by omega))).trans (fs.below (Nat.le_trans D5.out.bel.size FR.size) (fun q e => by omega))
                        · exact box_fr (box_fr D5.out.ans FR (by omega)) fs (by omega)
                        · simp [World.setCell, Array.getElem?_modify, B7]
                      have HA2 : Hid ((a : Int) + 137 = ((22 + 137 * (k + 1) : Nat) : Int)) := by show _ = _; have := HA.out; omega
                      clear hown7 hgr7 hlies7 hRL B7 Z7 bf7 hrow6 hb6 Z6 D4 D5 hO5 hb5 HNX HRE HFR hHeld Z5 z4
                      go_wp2_with fail
                      go_roundw
                      case rel => exact ⟨k + 1, num, ps ++ [(num, data)], by omega, by go_num, rfl, by rw [HA2.out], R9⟩
                      case measure => simp [intOf]; omega
                    · go_simp
                      refine (l1Bytes_any (some ⟨g, o + (a + 1) + 4, none⟩) 128 (c - (a + 1) - 4) data w3.drew A B (Nat.le_trans hB D4.out.bel.size) (HY.out _ D4.out.bel) (by omega)).mono ?_
                      rintro e w5 ⟨pa, pc, rfl, hO5, hb5⟩
                      have D5 : Hid (DSt w w5 N id tx ba rt va k vc ps xs vs) := D4.out.below hb5
                      have Z5 := (box_fiveC D5.out.box).2.2.2.2
                      have lN5 : N < w5.heap.size := (Array.getElem?_eq_some_iff.1 D5.out.box).1
                      go_wp2_with fail
                      refine hK.out _ _ (trivial) (fun hHeld => ?_)
                      clear hK K
                      try simp only [Act.put, List.setIfInBounds_toArray, List.set_cons_zero, List.set_cons_succ]
                      refine wpAnyH_take (i := 6) (oi := { dst := some 90, op := Op.build 41 #[(0, Operand.tmp 86), (1, Operand.tmp 89)], type := 41, pos := "l7_restore.go:55", after := #[{ on := 2, ground := Ground.data }, { on := 5, ground := Ground.data }], guard := none }) (v := .agg #[.int .i64 num, .slice pa 128 pc]) rfl (by kernel_rfl) (by kernel_rfl) (by kernel_rfl) (fun _ _ _ h => h) (Or.inl ⟨by rfl, ?_⟩) (by assumption) ?_
                      · intro wq hSw; (try dsimp only at hSw); go_simp
                      try simp only [Act.put, List.setIfInBounds_toArray, List.set_cons_zero, List.set_cons_succ]
                      refine wpAnyH_ready (rs := [1, 7]) (by kernel_rfl) (by simp) ?_
                      refine AllReadyH.cons (o := { dst := some 85, op := Op.load 23 (Operand.tmp 84), type := 23, pos := "l7_restore.go:55", after := #[{ on := 0, ground := Ground.data }], guard := none }) rfl (fun K hK => ?_) ?_
                      rotate_left 1
                      refine AllReadyH.cons (o := { dst := some 91, op := Op.buildSlice 23 1 #[(0, Operand.tmp 90)], type := 23, pos := "l7_restore.go:55", after := #[{ on := 6, ground := Ground.data }], guard := none }) rfl (fun K hK => ?_) ?_
                      rotate_left 1
                      exact AllReadyH.nil
                      · go_simp
                        refine hK.out _ _ (trivial) (fun hHeld => ?_)
                        clear hK K
                        try simp only [Act.put, List.setIfInBounds_toArray, List.set_cons_zero, List.set_cons_succ]
                        refine wpAnyH_ready (rs := [7]) (by kernel_rfl) (by simp) ?_
                        refine AllReadyH.cons (o := { dst := some 91, op := Op.buildSlice 23 1 #[(0, Operand.tmp 90)], type := 23, pos := "l7_restore.go:55", after := #[{ on := 6, ground := Ground.data }], guard := none }) rfl (fun K hK => ?_) AllReadyH.nil
                        go_simp
                        have hb6 : Below w5.heap.size w5 (w5.alloc (.cells #[.int .i64 num, .slice pa 128 pc] 41)) := (Below.refl _ _).alloc (Nat.le_refl _) _
                        have Z6 := (box_fiveC (D5.out.below hb6).box).2.2.2.2
                        refine hK.out _ _ (trivial) (fun hHeld => ?_)
                        clear hK K
                        try simp only [Act.put, List.setIfInBounds_toArray, List.set_cons_zero, List.set_cons_succ]
                        refine wpAnyH_ready (rs := [8]) (by kernel_rfl) (by simp) ?_
                        refine AllReadyH.cons (o := { dst := some 92, op := Op.call { callee := Callee.builtin Builtin.append, args := #[Operand.tmp 85, Operand.tmp 91], argTypes := #[23, 23] }, type := 23, pos := "l7_restore.go:55", after := #[{ on := 1, ground := Ground.data }, { on := 7, ground := Ground.data }, { on := 5, ground := Ground.chain }], guard := none }) rfl (fun K hK => ?_) AllReadyH.nil
                        have hrow6 : (w5.alloc (.cells #[.int .i64 num, .slice pa 128 pc] 41)).ownsRow (N + 1) 41 2 (.slice va k vc) k xs := by have := (D5.out.below hb6).own.row; rwa [D5.out.len] at this
                        refine step_append_ownD rfl _ _ 23 rfl (N + 1) 41 i1 _ 2 32 Try.underlying23 hi1 hy0 hy1 hy2 rfl (by decide) (.slice va k vc) k xs (by simp [Act.eval]) hrow6 ⟨w5.heap.size, 0, none⟩ 1 1 [.int .i64 num, .slice pa 128 pc] (by simp [Act.eval]) rfl (cell_two_new _ _ _ _) (by simp [Value.oneCell']) (by unfold maxLen; omega) (by omega) (by simp; omega) ?_
                        intro u7 w7 hown7 hgr7 hlies7
                        obtain ⟨g7, cap7, rfl⟩ := rowSuccN hown7
                        have hRL : ∀ q, (Value.slice va k vc).ownBlock = some q → N + 1 ≤ q ∧ q < w5.heap.size := fun q hq => D5.out.own.row.lt q hq
                        have B7 : w7.heap[N]? = some (.cells #[.int .i64 id, .int .i64 tx, .int .i64 ba, .int .i64 rt, .slice va k vc] 25) := (hgr7.block N (by simp; omega) (fun e => by have := hRL N e.symm; omega)).trans (box_below D5.out.box hb6)
                        have Z7 := (box_fiveC B7).2.2.2.2
                        have bf7 := box_thawC B7 4
                        have lN7 : N < w7.heap.size := (Array.getElem?_eq_some_iff.1 B7).1
                        refine hK.out _ _ (trivial) (fun hHeld => ?_)
                        clear hK K
                        try simp only [Act.put, List.setIfInBounds_toArray, List.set_cons_zero, List.set_cons_succ]
                        refine wpAnyH_take (i := 9) (oi := { dst := some 93, op := Op.fieldAddr 25 (Operand.tmp 4) 4, type := 0, pos := "l7_restore.go:55", after := #[{ on := 0, ground := Ground.phase }, { on := 1, ground := Ground.phase }, { on := 2, ground := Ground.phase }, { on := 3, ground := Ground.phase }, { on := 4, ground := Ground.phase }, { on := 5, ground := Ground.phase }, { on := 6, ground := Ground.phase }, { on := 7, ground := Ground.phase }, { on := 8, ground := Ground.phase }], guard := none }) (v := .pointer (some ⟨N, 4, none⟩)) rfl (by kernel_rfl) (by kernel_rfl) (by kernel_rfl) (fun _ _ _ h => h) (Or.inl ⟨by rfl, ?_⟩) (by assumption) ?_
                        · intro wq hSw; (try dsimp only at hSw); go_simp
                        try simp only [Act.put, List.setIfInBounds_toArray, List.set_cons_zero, List.set_cons_succ]
                        refine wpAnyH_ready (rs := [10]) (by kernel_rfl) (by simp) ?_
                        refine AllReadyH.cons (o := { dst := none, op := Op.store 23 (Operand.tmp 93) (Operand.tmp 92), type := 0, pos := "l7_restore.go:55", after := #[{ on := 9, ground := Ground.data }, { on := 8, ground := Ground.data }, { on := 8, ground := Ground.chain }, { on := 0, ground := Ground.phase }, { on := 1, ground := Ground.phase }, { on := 2, ground := Ground.phase }, { on := 3, ground := Ground.phase }, { on := 4, ground := Ground.phase }, { on := 5, ground := Ground.phase }, { on := 6, ground := Ground.phase }, { on := 7, ground := Ground.phase }, { on := 8, ground := Ground.phase }], guard := none }) rfl (fun K hK => ?_) AllReadyH.nil
                        go_simp
                        refine hK.out _ _ (trivial) (fun hHeld => ?_)
                        clear hK K
                        try simp only [Act.put, List.setIfInBounds_toArray, List.set_cons_zero, List.set_cons_succ]
                        refine wpAnyH_done (by kernel_rfl) ?_ _
                        refine NoPanic.normal ?_
                        have R9 : Hid (loopD bs ba tx (C - (k + 1)) (22 + 137 * (k + 1)) num (ps ++ [(num, data)]) = FIN ∧ ∃ (va : Option Addr) (vc : Nat) (xs vs : List Value), DSt w (w7.setCell ⟨N, 4, none⟩ (.slice (some ⟨g7, 0, none⟩) (k + 1) cap7)) N id tx ba rt va (k + 1) vc (ps ++ [(num, data)]) xs vs) := by
                          have fs := fr_setCell w7 N 4 (.slice (some ⟨g7, 0, none⟩) (k + 1) cap7)
                          have hdl : data.length = 128 := (HY.out _ D4.out.bel).1
                          have O7 : OwnN w7 (N + 1) (.slice (some ⟨g7, 0, none⟩) (k + 1) cap7) (ps ++ [(num, data)]) (xs ++ [.int .i64 num, .slice pa 128 pc]) (vs ++ [.slice pa 128 pc]) :=
                            OwnN.push2 (f := (num, data)) (M := w3.drew.heap.size) D5.out.own (show N + 1 ≤ w3.heap.size by omega) (fun j hj q hq => ((D4.out.own.data j hj).lt q hq).2) (by rw [hdl]; exact hO5) (HY.out _ D4.out.bel).2.2.2.1 hb6 (by rw [D5.out.len]; exact hown7) hgr7
                          have FR : Fr (fun x => N + 1 ≤ x) w5 w7 := (Fr.of_below hb6).trans (Fr.of_grown hgr7 (fun q e => (hRL q e).1))
                          refine ⟨by rw [show 22 + 137 * (k + 1) = a + 137 by have := HA.out; omega]; exact HNX.out, _, _, _, _, ?_, ?_, ?_, O7.fr fs (fun q hq e => by have := O7.blk hq; omega), by rw [List.length_append, D5.out.len]; rfl⟩
                          · exact (D5.out.bel.trans (FR.below D5.out.bel.size (fun q e => by omega))).trans (fs.below (Nat.le_trans D5.out.bel.size FR.size) (fun q e => by omega))
                          · exact box_fr (box_fr D5.out.ans FR (by omega)) fs (by omega)
                          · simp [World.setCell, Array.getElem?_modify, B7]
                        have HA2 : Hid ((a : Int) + 137 = ((22 + 137 * (k + 1) : Nat) : Int)) := by show _ = _; have := HA.out; omega
                        clear hown7 hgr7 hlies7 hRL B7 Z7 bf7 hrow6 hb6 Z6 D4 D5 hO5 hb5 HNX HRE HFR hHeld Z5 z4
                        go_wp2_with fail
                        go_roundw
                        case rel => exact ⟨k + 1, num, ps ++ [(num, data)], by omega, by go_num, rfl, by rw [HA2.out], R9⟩
                        case measure => simp [intOf]; omega
                      · go_simp
                        have hb6 : Below w5.heap.size w5 (w5.alloc (.cells #[.int .i64 num, .slice pa 128 pc] 41)) := (Below.refl _ _).alloc (Nat.le_refl _) _
                        have Z6 := (box_fiveC (D5.out.below hb6).box).2.2.2.2
                        refine hK.out _ _ (trivial) (fun hHeld => ?_)
                        clear hK K
                        try simp only [Act.put, List.setIfInBounds_toArray, List.set_cons_zero, List.set_cons_succ]
                        refine wpAnyH_ready (rs := [1]) (by kernel_rfl) (by simp) ?_
                        refine AllReadyH.cons (o := { dst := some 85, op := Op.load 23 (Operand.tmp 84), type := 23, pos := "l7_restore.go:55", after := #[{ on := 0, ground := Ground.data }], guard := none }) rfl (fun K hK => ?_) AllReadyH.nil
                        go_simp
                        refine hK.out _ _ (trivial) (fun hHeld => ?_)
                        clear hK K
                        try simp only [Act.put, List.setIfInBounds_toArray, List.set_cons_zero, List.set_cons_succ]
                        refine wpAnyH_ready (rs := [8]) (by kernel_rfl) (by simp) ?_
                        refine AllReadyH.cons (o := { dst := some 92, op := Op.call { callee := Callee.builtin Builtin.append, args := #[Operand.tmp 85, Operand.tmp 91], argTypes := #[23, 23] }, type := 23, pos := "l7_restore.go:55", after := #[{ on := 1, ground := Ground.data }, { on := 7, ground := Ground.data }, { on := 5, ground := Ground.chain }], guard := none }) rfl (fun K hK => ?_) AllReadyH.nil
                        have hrow6 : (w5.alloc (.cells #[.int .i64 num, .slice pa 128 pc] 41)).ownsRow (N + 1) 41 2 (.slice va k vc) k xs := by have := (D5.out.below hb6).own.row; rwa [D5.out.len] at this
                        refine step_append_ownD rfl _ _ 23 rfl (N + 1) 41 i1 _ 2 32 Try.underlying23 hi1 hy0 hy1 hy2 rfl (by decide) (.slice va k vc) k xs (by simp [Act.eval]) hrow6 ⟨w5.heap.size, 0, none⟩ 1 1 [.int .i64 num, .slice pa 128 pc] (by simp [Act.eval]) rfl (cell_two_new _ _ _ _) (by simp [Value.oneCell']) (by unfold maxLen; omega) (by omega) (by simp; omega) ?_
                        intro u7 w7 hown7 hgr7 hlies7
                        obtain ⟨g7, cap7, rfl⟩ := rowSuccN hown7
                        have hRL : ∀ q, (Value.slice va k vc).ownBlock = some q → N + 1 ≤ q ∧ q < w5.heap.size := fun q hq => D5.out.own.row.lt q hq
                        have B7 : w7.heap[N]? = some (.cells #[.int .i64 id, .int .i64 tx, .int .i64 ba, .int .i64 rt, .slice va k vc] 25) := (hgr7.block N (by simp; omega) (fun e => by have := hRL N e.symm; omega)).trans (box_below D5.out.box hb6)
                        have Z7 := (box_fiveC B7).2.2.2.2
                        have bf7 := box_thawC B7 4
                        have lN7 : N < w7.heap.size := (Array.getElem?_eq_some_iff.1 B7).1
                        refine hK.out _ _ (trivial) (fun hHeld => ?_)
                        clear hK K
                        try simp only [Act.put, List.setIfInBounds_toArray, List.set_cons_zero, List.set_cons_succ]
                        refine wpAnyH_take (i := 9) (oi := { dst := some 93, op := Op.fieldAddr 25 (Operand.tmp 4) 4, type := 0, pos := "l7_restore.go:55", after := #[{ on := 0, ground := Ground.phase }, { on := 1, ground := Ground.phase }, { on := 2, ground := Ground.phase }, { on := 3, ground := Ground.phase }, { on := 4, ground := Ground.phase }, { on := 5, ground := Ground.phase }, { on := 6, ground := Ground.phase }, { on := 7, ground := Ground.phase }, { on := 8, ground := Ground.phase }], guard := none }) (v := .pointer (some ⟨N, 4, none⟩)) rfl (by kernel_rfl) (by kernel_rfl) (by kernel_rfl) (fun _ _ _ h => h) (Or.inl ⟨by rfl, ?_⟩) (by assumption) ?_
                        · intro wq hSw; (try dsimp only at hSw); go_simp
                        try simp only [Act.put, List.setIfInBounds_toArray, List.set_cons_zero, List.set_cons_succ]
                        refine wpAnyH_ready (rs := [10]) (by kernel_rfl) (by simp) ?_
                        refine AllReadyH.cons (o := { dst := none, op := Op.store 23 (Operand.tmp 93) (Operand.tmp 92), type := 0, pos := "l7_restore.go:55", after := #[{ on := 9, ground := Ground.data }, { on := 8, ground := Ground.data }, { on := 8, ground := Ground.chain }, { on := 0, ground := Ground.phase }, { on := 1, ground := Ground.phase }, { on := 2, ground := Ground.phase }, { on := 3, ground := Ground.phase }, { on := 4, ground := Ground.phase }, { on := 5, ground := Ground.phase }, { on := 6, ground := Ground.phase }, { on := 7, ground := Ground.phase }, { on := 8, ground := Ground.phase }], guard := none }) rfl (fun K hK => ?_) AllReadyH.nil
                        go_simp
                        refine hK.out _ _ (trivial) (fun hHeld => ?_)
                        clear hK K
                        try simp only [Act.put, List.setIfInBounds_toArray, List.set_cons_zero, List.set_cons_succ]
                        refine wpAnyH_done (by kernel_rfl) ?_ _
                        refine NoPanic.normal ?_
                        have R9 : Hid (loopD bs ba tx (C - (k + 1)) (22 + 137 * (k + 1)) num (ps ++ [(num, data)]) = FIN ∧ ∃ (va : Option Addr) (vc : Nat) (xs vs : List Value), DSt w (w7.setCell ⟨N, 4, none⟩ (.slice (some ⟨g7, 0, none⟩) (k + 1) cap7)) N id tx ba rt va (k + 1) vc (ps ++ [(num, data)]) xs vs) := by
                          have fs := fr_setCell w7 N 4 (.slice (some ⟨g7, 0, none⟩) (k + 1) cap7)
                          have hdl : data.length = 128 := (HY.out _ D4.out.bel).1
                          have O7 : OwnN w7 (N + 1) (.slice (some ⟨g7, 0, none⟩) (k + 1) cap7) (ps ++ [(num, data)]) (xs ++ [.int .i64 num, .slice pa 128 pc]) (vs ++ [.slice pa 128 pc]) :=
                            OwnN.push2 (f := (num, data)) (M := w3.drew.heap.size) D5.out.own (show N + 1 ≤ w3.heap.size by omega) (fun j hj q hq => ((D4.out.own.data j hj).lt q hq).2) (by rw [hdl]; exact hO5) (HY.out _ D4.out.bel).2.2.2.1 hb6 (by rw [D5.out.len]; exact hown7) hgr7
                          have FR : Fr (fun x => N + 1 ≤ x) w5 w7 := (Fr.of_below hb6).trans (Fr.of_grown hgr7 (fun q e => (hRL q e).1))
                          refine ⟨by rw [show 22 + 137 * (k + 1) = a + 137 by have := HA.out; omega]; exact HNX.out, _, _, _, _, ?_, ?_, ?_, O7.fr fs (fun q hq e => by have := O7.blk hq; omega), by rw [List.length_append, D5.out.len]; rfl⟩
                          · exact (D5.out.bel.trans (FR.below D5.out.bel.size (fun q e => by omega))).trans (fs.below (Nat.le_trans D5.out.bel.size FR.size) (fun q e => by omega))
                          · exact box_fr (box_fr D5.out.ans FR (by omega)) fs (by omega)
                          · simp [World.setCell, Array.getElem?_modify, B7]
                        have HA2 : Hid ((a : Int) + 137 = ((22 + 137 * (k + 1) : Nat) : Int)) := by show _ = _; have := HA.out; omega
                        clear hown7 hgr7 hlies7 hRL B7 Z7 bf7 hrow6 hb6 Z6 D4 D5 hO5 hb5 HNX HRE HFR hHeld Z5 z4
                        go_wp2_with fail
                        go_roundw
                        case rel => exact ⟨k + 1, num, ps ++ [(num, data)], by omega, by go_num, rfl, by rw [HA2.out], R9⟩
                        case measure => simp [intOf]; omega
              · have d2 : (x != 80) = true := by simp [t2]
                have HPE : Hid (parS bs = zSR 4) := by show _ = _; rw [HRE.out, loopD_step4 X1.out hltC (by rw [HL.out]; exact t1) (by rw [← HXE.out]; exact t2), if_pos (by decide)]
                have belE := D0.out.bel
                have KE := D0.out.ans
                clear D0 X1 HRE
                obtain ⟨wE, hwE⟩ : ∃ x, x = wr := ⟨_, rfl⟩
                subst hwE
                go_wp2_with fail
                refine (l7Err_any 4 wE).mono ?_
                rintro e wF ⟨rfl, hbF⟩
                have KF := box_below KE hbF
                have belF := belE.trans (hbF.mono belE.size)
                clear belE KE hbF
                obtain ⟨x0, x1, x2, x3, x4, x5⟩ := box_sixS KF
                have hz := box_thawC KF
                have XF := put6S_box KF (.int .i64 4) (.int .i64 0) (.int .i64 0) (.int .i64 0) (.int .i64 0) (.slice none 0 0)
                have hfF := put6S_fr wF w.heap.size (.int .i64 4) (.int .i64 0) (.int .i64 0) (.int .i64 0) (.int .i64 0) (.slice none 0 0)
                have HBF : Hid (Below w.heap.size w (put6S wF w.heap.size (.int .i64 4) (.int .i64 0) (.int .i64 0) (.int .i64 0) (.int .i64 0) (.slice none 0 0))) := belF.trans (hfF.below belF.size (fun q e => by omega))
                have lF : w.heap.size < wF.heap.size := (Array.getElem?_eq_some_iff.1 KF).1
                clear hfF belF KF
                go_wp2_with fail
                show bodyPost _ _ _ _ _ (put6S wF w.heap.size (.int .i64 4) (.int .i64 0) (.int .i64 0) (.int .i64 0) (.int .i64 0) (.slice none 0 0))
                clear x0 x1 x2 x3 x4 x5 hz
                obtain ⟨x0, x1, x2, x3, x4, x5⟩ := box_sixS XF
                rw [HPE.out]
                exact bodyPost_ret (v := .agg #[.int .i64 4, .int .i64 0, .int .i64 0, .int .i64 0, .int .i64 0, .slice none 0 0]) (by simp [results, Try.results4, go_sem, x0, x1, x2, x3, x4, x5]) rfl (SRAns.zero 4 HBF.out)
          · obtain rfl : k = C := by omega
            have HFE : Hid (FIN = (0, a, ps)) := by show _ = _; rw [← X1.out, Nat.sub_self]; rfl
            have HRF : Hid (parS bs = if tailD bs a ≠ 0 then zSR (tailD bs a) else ⟨0, id, tx, ba, rt, ps⟩) := by show _ = _; rw [HRE.out, HFE.out]; rfl
            clear HRE HFE X1
            by_cases t1 : n ≤ a
            · have d1 : decide ((n : Int) ≤ (a : Int)) = true := by simpa using t1
              have HPE : Hid (parS bs = zSR 3) := by show _ = _; rw [HRF.out, show tailD bs a = 3 from if_pos (by rw [HL.out]; exact t1), if_pos (by decide)]
              have belE := D0.out.bel
              have KE := D0.out.ans
              clear D0 HRF
              obtain ⟨wE, hwE⟩ : ∃ x, x = wr := ⟨_, rfl⟩
              subst hwE
              go_wp2_with fail
              refine (l7Err_any 3 wE).mono ?_
              rintro e wF ⟨rfl, hbF⟩
              have KF := box_below KE hbF
              have belF := belE.trans (hbF.mono belE.size)
              clear belE KE hbF
              obtain ⟨x0, x1, x2, x3, x4, x5⟩ := box_sixS KF
              have hz := box_thawC KF
              have XF := put6S_box KF (.int .i64 3) (.int .i64 0) (.int .i64 0) (.int .i64 0) (.int .i64 0) (.slice none 0 0)
              have hfF := put6S_fr wF w.heap.size (.int .i64 3) (.int .i64 0) (.int .i64 0) (.int .i64 0) (.int .i64 0) (.slice none 0 0)
              have HBF : Hid (Below w.heap.size w (put6S wF w.heap.size (.int .i64 3) (.int .i64 0) (.int .i64 0) (.int .i64 0) (.int .i64 0) (.slice none 0 0))) := belF.trans (hfF.below belF.size (fun q e => by omega))
              have lF : w.heap.size < wF.heap.size := (Array.getElem?_eq_some_iff.1 KF).1
              clear hfF belF KF
              go_wp2_with fail
              show bodyPost _ _ _ _ _ (put6S wF w.heap.size (.int .i64 3) (.int .i64 0) (.int .i64 0) (.int .i64 0) (.int .i64 0) (.slice none 0 0))
              clear x0 x1 x2 x3 x4 x5 hz
              obtain ⟨x0, x1, x2, x3, x4, x5⟩ := box_sixS XF
              rw [HPE.out]
              exact bodyPost_ret (v := .agg #[.int .i64 3, .int .i64 0, .int .i64 0, .int .i64 0, .int .i64 0, .slice none 0 0]) (by simp [results, Try.results4, go_sem, x0, x1, x2, x3, x4, x5]) rfl (SRAns.zero 3 HBF.out)
            · have d1 : decide ((n : Int) ≤ (a : Int)) = false := by simpa using t1
              have hcell := cellB (HB.out wr D0.out.bel) a (by omega)
              obtain ⟨x, hxe⟩ : ∃ x, x = bs.getD a 0 := ⟨_, rfl⟩
              rw [← hxe] at hcell
              have HXE : Hid (x = bs.getD a 0) := hxe
              clear hxe
              by_cases t2 : x = 69
              · have d2 : (x != 69) = false := by simp [t2]
                have T2 : Hid (bs.getD a 0 = 69) := by show _ = _; rw [← HXE.out]; exact t2
                by_cases t3 : n < a + 5
                · have d3 : decide ((n : Int) < (a : Int) + 5) = true := by simp; omega
                  have HPE : Hid (parS bs = zSR 3) := by show _ = _; rw [HRF.out, tailD_3 (by rw [HL.out]; exact t1) T2.out (by rw [HL.out]; exact t3), if_pos (by decide)]
                  have belE := D0.out.bel
                  have KE := D0.out.ans
                  clear D0 HRF
                  obtain ⟨wE, hwE⟩ : ∃ x, x = wr := ⟨_, rfl⟩
                  subst hwE
                  go_wp2_with fail
                  refine (l7Err_any 3 wE).mono ?_
                  rintro e wF ⟨rfl, hbF⟩
                  have KF := box_below KE hbF
                  have belF := belE.trans (hbF.mono belE.size)
                  clear belE KE hbF
                  obtain ⟨x0, x1, x2, x3, x4, x5⟩ := box_sixS KF
                  have hz := box_thawC KF
                  have XF := put6S_box KF (.int .i64 3) (.int .i64 0) (.int .i64 0) (.int .i64 0) (.int .i64 0) (.slice none 0 0)
                  have hfF := put6S_fr wF w.heap.size (.int .i64 3) (.int .i64 0) (.int .i64 0) (.int .i64 0) (.int .i64 0) (.slice none 0 0)
                  have HBF : Hid (Below w.heap.size w (put6S wF w.heap.size (.int .i64 3) (.int .i64 0) (.int .i64 0) (.int .i64 0) (.int .i64 0) (.slice none 0 0))) := belF.trans (hfF.below belF.size (fun q e => by omega))
                  have lF : w.heap.size < wF.heap.size := (Array.getElem?_eq_some_iff.1 KF).1
                  clear hfF belF KF
                  go_wp2_with fail
                  show bodyPost _ _ _ _ _ (put6S wF w.heap.size (.int .i64 3) (.int .i64 0) (.int .i64 0) (.int .i64 0) (.int .i64 0) (.slice none 0 0))
                  clear x0 x1 x2 x3 x4 x5 hz
                  obtain ⟨x0, x1, x2, x3, x4, x5⟩ := box_sixS XF
                  rw [HPE.out]
                  exact bodyPost_ret (v := .agg #[.int .i64 3, .int .i64 0, .int .i64 0, .int .i64 0, .int .i64 0, .slice none 0 0]) (by simp [results, Try.results4, go_sem, x0, x1, x2, x3, x4, x5]) rfl (SRAns.zero 3 HBF.out)
                · have d3 : decide ((n : Int) < (a : Int) + 5) = false := by simp; omega
                  have HTD : Hid (tailD bs a = if leN ((bs.drop (a + 1)).take 4) ≠ crcOf (bs.take a) then 5 else if a + 5 < n then 6 else 0) := by show _ = _; rw [tailD_r (by rw [HL.out]; exact t1) T2.out (by rw [HL.out]; exact t3), HL.out]
                  have D9 : Hid (DSt w wr.drew N id tx ba rt va k vc ps xs vs) := D0.out.below (Below.refl _ _).drew
                  have HQ4 : Hid (∀ W, Below w.heap.size w W → Calls Try.prog 15 #[.slice (some ⟨g, o + (a + 1), none⟩) 4 (c - (a + 1)), .bool false] W fun e w' => e = .returned (.int .i64 (leN ((bs.drop (a + 1)).take 4))) ∧ w' = W) := fun W hW => get_low4 (HB.out W hW) (a + 1) (by omega) (by omega)
                  have HQ5 : Hid (∀ W, Below w.heap.size w W → Calls Try.prog 17 #[.int .u32 0, .slice (some ⟨g, o, none⟩) a c] W fun e w' => e = .returned (.int .u32 (crcOf (bs.take a))) ∧ w' = W) := fun W hW => by
                    have := bytesAt_sub (HB.out W hW) 0 a (by omega) (by omega)
                    simp only [Nat.add_zero, Nat.sub_zero, List.drop_zero] at this
                    exact specCrc0 _ _ _ _ W A B this
                  have rsm := le4_range hby (a + 1)
                  have rcr := crcOf_range (bs.take a)
                  obtain ⟨sm, hsm⟩ : ∃ x, x = leN ((bs.drop (a + 1)).take 4) := ⟨_, rfl⟩
                  obtain ⟨cr, hcr⟩ : ∃ x, x = crcOf (bs.take a) := ⟨_, rfl⟩
                  rw [← hsm] at HQ4 HTD rsm
                  rw [← hcr] at HQ5 HTD rcr
                  clear hsm hcr
                  have hca : ¬ c = a + 1 := by omega
                  go_wp2_with fail
                  by_cases t4 : sm = cr
                  · have d4 : (sm != cr) = false := by simp [t4]
                    refine wp_region_noPanic ?_
                    refine wp_region_held_drew (S := (fun w' : World => w' = wr.drew)) (by kernel_rfl) (rfl) (fun hHeld => ?_)
                    refine wpAnyH_take (i := 0) (oi := { dst := some 113, op := Op.move (Operand.tmp 0), type := 22, pos := "l7_restore.go:67", after := #[], guard := none }) (v := .slice (some ⟨g, o, none⟩) n c) rfl (by kernel_rfl) (by kernel_rfl) (by kernel_rfl) (fun _ _ _ h => h) (Or.inl ⟨by rfl, ?_⟩) (by assumption) ?_
                    · intro wq hSw; (try dsimp only at hSw); go_simp
                    try simp only [Act.put, List.setIfInBounds_toArray, List.set_cons_zero, List.set_cons_succ]
                    refine wpAnyH_take (i := 1) (oi := { dst := some 114, op := Op.move (Operand.tmp 7), type := 3, pos := "l7_restore.go:67", after := #[], guard := none }) (v := .int .i64 a) rfl (by kernel_rfl) (by kernel_rfl) (by kernel_rfl) (fun _ _ _ h => h) (Or.inl ⟨by rfl, ?_⟩) (by assumption) ?_
                    · intro wq hSw; (try dsimp only at hSw); go_simp
                    try simp only [Act.put, List.setIfInBounds_toArray, List.set_cons_zero, List.set_cons_succ]
                    refine wpAnyH_take (i := 2) (oi := { dst := some 115, op := Op.binOp BinOp.add 3 (Operand.tmp 114) (Operand.const (Value.int IntKind.i64 1)) 3, type := 3, pos := "l7_restore.go:67", after := #[{ on := 1, ground := Ground.data }], guard := none }) (v := .int .i64 ((a : Int) + 1)) rfl (by kernel_rfl) (by kernel_rfl) (by kernel_rfl) (fun _ _ _ h => h) (Or.inl ⟨by rfl, ?_⟩) (by assumption) ?_
                    · intro wq hSw; (try dsimp only at hSw); go_simp; (try (rw [IntKind.wrap_i64]; omega))
                    try simp only [Act.put, List.setIfInBounds_toArray, List.set_cons_zero, List.set_cons_succ]
                    refine wpAnyH_take (i := 3) (oi := { dst := some 116, op := Op.move (Operand.tmp 7), type := 3, pos := "l7_restore.go:67", after := #[], guard := none }) (v := .int .i64 a) rfl (by kernel_rfl) (by kernel_rfl) (by kernel_rfl) (fun _ _ _ h => h) (Or.inl ⟨by rfl, ?_⟩) (by assumption) ?_
                    · intro wq hSw; (try dsimp only at hSw); go_simp
                    try simp only [Act.put, List.setIfInBounds_toArray, List.set_cons_zero, List.set_cons_succ]
                    refine wpAnyH_take (i := 4) (oi := { dst := some 117, op := Op.binOp BinOp.add 3 (Operand.tmp 116) (Operand.const (Value.int IntKind.i64 5)) 3, type := 3, pos := "l7_restore.go:67", after := #[{ on := 3, ground := Ground.data }], guard := none }) (v := .int .i64 ((a : Int) + 5)) rfl (by kernel_rfl) (by kernel_rfl) (by kernel_rfl) (fun _ _ _ h => h) (Or.inl ⟨by rfl, ?_⟩) (by assumption) ?_
                    · intro wq hSw; (try dsimp only at hSw); go_simp; (try (rw [IntKind.wrap_i64]; omega))
                    try simp only [Act.put, List.setIfInBounds_toArray, List.set_cons_zero, List.set_cons_succ]
                    refine wpAnyH_take (i := 5) (oi := { dst := some 118, op := Op.slice 22 (Operand.tmp 113) (some (Operand.tmp 115)) (some (Operand.tmp 117)) none, type := 22, pos := "l7_restore.go:67", after := #[{ on := 0, ground := Ground.data }, { on := 2, ground := Ground.data }, { on := 4, ground := Ground.data }], guard := none }) (v := .slice (some ⟨g, o + (a + 1), none⟩) 4 (c - (a + 1))) rfl (by kernel_rfl) (by kernel_rfl) (by kernel_rfl) (fun _ _ _ h => h) (Or.inl ⟨by rfl, ?_⟩) (by assumption) ?_
                    · intro wq hSw; (try dsimp only at hSw); go_simp; rw [if_pos (by omega), if_pos (by omega), show ((a : Int) + 5).toNat - (a + 1) = 4 by omega]
                    try simp only [Act.put, List.setIfInBounds_toArray, List.set_cons_zero, List.set_cons_succ]
                    refine wpAnyH_take (i := 7) (oi := { dst := some 120, op := Op.move (Operand.tmp 0), type := 22, pos := "l7_restore.go:67", after := #[], guard := none }) (v := .slice (some ⟨g, o, none⟩) n c) rfl (by kernel_rfl) (by kernel_rfl) (by kernel_rfl) (fun _ _ _ h => h) (Or.inl ⟨by rfl, ?_⟩) (by assumption) ?_
                    · intro wq hSw; (try dsimp only at hSw); go_simp
                    try simp only [Act.put, List.setIfInBounds_toArray, List.set_cons_zero, List.set_cons_succ]
                    refine wpAnyH_take (i := 8) (oi := { dst := some 121, op := Op.move (Operand.tmp 7), type := 3, pos := "l7_restore.go:67", after := #[], guard := none }) (v := .int .i64 a) rfl (by kernel_rfl) (by kernel_rfl) (by kernel_rfl) (fun _ _ _ h => h) (Or.inl ⟨by rfl, ?_⟩) (by assumption) ?_
                    · intro wq hSw; (try dsimp only at hSw); go_simp
                    try simp only [Act.put, List.setIfInBounds_toArray, List.set_cons_zero, List.set_cons_succ]
                    refine wpAnyH_take (i := 9) (oi := { dst := some 122, op := Op.slice 22 (Operand.tmp 120) none (some (Operand.tmp 121)) none, type := 22, pos := "l7_restore.go:67", after := #[{ on := 7, ground := Ground.data }, { on := 8, ground := Ground.data }], guard := none }) (v := .slice (some ⟨g, o, none⟩) a c) rfl (by kernel_rfl) (by kernel_rfl) (by kernel_rfl) (fun _ _ _ h => h) (Or.inl ⟨by rfl, ?_⟩) (by assumption) ?_
                    · intro wq hSw; (try dsimp only at hSw); go_simp; (try omega)
                    try simp only [Act.put, List.setIfInBounds_toArray, List.set_cons_zero, List.set_cons_succ]
                    refine wpAnyH_ready (rs := [6]) (by kernel_rfl) (by simp) ?_
                    refine AllReadyH.cons (o := { dst := some 119, op := Op.call { callee := Callee.value (Operand.func 15), args := #[Operand.tmp 118, Operand.const (Value.bool false)], argTypes := #[22, 4] }, type := 2, pos := "l7_restore.go:67", after := #[{ on := 5, ground := Ground.data }], guard := none }) rfl (fun K hK => ?_) AllReadyH.nil
                    go_simp
                    refine (HQ4.out wr.drew D9.out.bel).mono ?_
                    rintro e wy1 ⟨rfl, ey⟩
                    rw [ey]
                    clear ey
                    go_wp2_with fail
                    refine hK.out _ _ (rfl) (fun hHeld => ?_)
                    clear hK K
                    try simp only [Act.put, List.setIfInBounds_toArray, List.set_cons_zero, List.set_cons_succ]
                    refine wpAnyH_ready (rs := [10]) (by kernel_rfl) (by simp) ?_
                    refine AllReadyH.cons (o := { dst := some 123, op := Op.call { callee := Callee.value (Operand.func 17), args := #[Operand.const (Value.int IntKind.u32 0), Operand.tmp 122], argTypes := #[42, 22] }, type := 42, pos := "l7_restore.go:67", after := #[{ on := 9, ground := Ground.data }, { on := 6, ground := Ground.chain }], guard := none }) rfl (fun K hK => ?_) AllReadyH.nil
                    go_simp
                    refine (HQ5.out wr.drew D9.out.bel).mono ?_
                    rintro e wy2 ⟨rfl, ey⟩
                    rw [ey]
                    clear ey
                    go_wp2_with fail
                    refine hK.out _ _ (rfl) (fun hHeld => ?_)
                    clear hK K
                    try simp only [Act.put, List.setIfInBounds_toArray, List.set_cons_zero, List.set_cons_succ]
                    refine wpAnyH_take (i := 11) (oi := { dst := some 124, op := Op.convert 42 2 (Operand.tmp 123), type := 2, pos := "l7_restore.go:67", after := #[{ on := 10, ground := Ground.data }], guard := none }) (v := .int .i64 cr) rfl (by kernel_rfl) (by kernel_rfl) (by kernel_rfl) (fun _ _ _ h => h) (Or.inl ⟨by rfl, ?_⟩) (by assumption) ?_
                    · intro wq hSw; (try dsimp only at hSw); go_simp; (try (rw [IntKind.wrap_i64]; omega))
                    try simp only [Act.put, List.setIfInBounds_toArray, List.set_cons_zero, List.set_cons_succ]
                    refine wpAnyH_take (i := 12) (oi := { dst := some 125, op := Op.binOp BinOp.neq 2 (Operand.tmp 119) (Operand.tmp 124) 2, type := 4, pos := "l7_restore.go:67", after := #[{ on := 6, ground := Ground.data }, { on := 11, ground := Ground.data }], guard := none }) (v := .bool false) rfl (by kernel_rfl) (by kernel_rfl) (by kernel_rfl) (fun _ _ _ h => h) (Or.inl ⟨by rfl, ?_⟩) (by assumption) ?_
                    · intro wq hSw; (try dsimp only at hSw); go_simp
                    try simp only [Act.put, List.setIfInBounds_toArray, List.set_cons_zero, List.set_cons_succ]
                    refine wpAnyH_done (by kernel_rfl) ?_ _
                    refine NoPanic.normal ?_
                    clear hHeld
                    obtain ⟨z0, z1, z2, z3, z4⟩ := box_fiveC D9.out.box
                    have lN9 : N < wr.drew.heap.size := (Array.getElem?_eq_some_iff.1 D9.out.box).1
                    by_cases t5 : a + 5 < n
                    · have d5 : decide ((a : Int) + 5 < (n : Int)) = true := by simp; omega
                      have HPE : Hid (parS bs = zSR 6) := by show _ = _; rw [HRF.out, show tailD bs a = 6 by rw [HTD.out, if_neg (fun e => e t4), if_pos t5], if_pos (by decide)]
                      have belE := D9.out.bel
                      have KE := D9.out.ans
                      clear D0 D9 HRF HTD HQ4 HQ5 z0 z1 z2 z3 z4 lN9 hcell
                      generalize wr.drew = wE at belE KE ⊢
                      go_wp2_with fail
                      refine (l7Err_any 6 wE).mono ?_
                      rintro e wF ⟨rfl, hbF⟩
                      have KF := box_below KE hbF
                      have belF := belE.trans (hbF.mono belE.size)
                      clear belE KE hbF
                      obtain ⟨x0, x1, x2, x3, x4, x5⟩ := box_sixS KF
                      have hz := box_thawC KF
                      have XF := put6S_box KF (.int .i64 6) (.int .i64 0) (.int .i64 0) (.int .i64 0) (.int .i64 0) (.slice none 0 0)
                      have hfF := put6S_fr wF w.heap.size (.int .i64 6) (.int .i64 0) (.int .i64 0) (.int .i64 0) (.int .i64 0) (.slice none 0 0)
                      have HBF : Hid (Below w.heap.size w (put6S wF w.heap.size (.int .i64 6) (.int .i64 0) (.int .i64 0) (.int .i64 0) (.int .i64 0) (.slice none 0 0))) := belF.trans (hfF.below belF.size (fun q e => by omega))
                      have lF : w.heap.size < wF.heap.size := (Array.getElem?_eq_some_iff.1 KF).1
                      clear hfF belF KF
                      go_wp2_with fail
                      show bodyPost _ _ _ _ _ (put6S wF w.heap.size (.int .i64 6) (.int .i64 0) (.int .i64 0) (.int .i64 0) (.int .i64 0) (.slice none 0 0))
                      clear x0 x1 x2 x3 x4 x5 hz
                      obtain ⟨x0, x1, x2, x3, x4, x5⟩ := box_sixS XF
                      rw [HPE.out]
                      exact bodyPost_ret (v := .agg #[.int .i64 6, .int .i64 0, .int .i64 0, .int .i64 0, .int .i64 0, .slice none 0 0]) (by simp [results, Try.results4, go_sem, x0, x1, x2, x3, x4, x5]) rfl (SRAns.zero 6 HBF.out)
                    · have d5 : decide ((a : Int) + 5 < (n : Int)) = false := by simp; omega
                      have HPE : Hid (parS bs = ⟨0, id, tx, ba, rt, ps⟩) := by show _ = _; rw [HRF.out, show tailD bs a = 0 by rw [HTD.out, if_neg (fun e => e t4), if_neg t5], if_neg (by decide)]
                      have KF := D9.out.ans
                      have belF := D9.out.bel
                      have OF := D9.out.own
                      have LF : Hid (ps.length = k) := D9.out.len
                      clear D0 D9 HRF HTD HQ4 HQ5 hcell
                      generalize wr.drew = wF at KF belF OF z0 z1 z2 z3 z4 lN9 ⊢
                      obtain ⟨x0, x1, x2, x3, x4, x5⟩ := box_sixS KF
                      have hz := box_thawC KF
                      have XF := put6S_box KF (.int .i64 0) (.int .i64 id) (.int .i64 tx) (.int .i64 ba) (.int .i64 rt) (.slice va k vc)
                      have hfF := put6S_fr wF w.heap.size (.int .i64 0) (.int .i64 id) (.int .i64 tx) (.int .i64 ba) (.int .i64 rt) (.slice va k vc)
                      have HAN : Hid (SRAns w ⟨0, id, tx, ba, rt, ps⟩ (.returned (.agg #[.int .i64 0, .int .i64 id, .int .i64 tx, .int .i64 ba, .int .i64 rt, .slice va k vc])) (put6S wF w.heap.size (.int .i64 0) (.int .i64 id) (.int .i64 tx) (.int .i64 ba) (.int .i64 rt) (.slice va k vc))) := by
                        refine ⟨va, vc, xs, vs, ?_, ?_, belF.trans (hfF.below belF.size (fun q e => by omega))⟩
                        · show _ = Ending.returned (.agg #[.int .i64 0, .int .i64 id, .int .i64 tx, .int .i64 ba, .int .i64 rt, .slice va ps.length vc])
                          rw [LF.out]
                        · show OwnN _ _ (.slice va ps.length vc) ps xs vs
                          rw [LF.out]
                          exact (OF.fr hfF (fun q hq e => by have := OF.blk hq; omega)).lower (by omega)
                      have lF : w.heap.size < wF.heap.size := (Array.getElem?_eq_some_iff.1 KF).1
                      clear hfF belF KF OF
                      go_wp2_with fail
                      show bodyPost _ _ _ _ _ (put6S wF w.heap.size (.int .i64 0) (.int .i64 id) (.int .i64 tx) (.int .i64 ba) (.int .i64 rt) (.slice va k vc))
                      clear x0 x1 x2 x3 x4 x5 hz
                      obtain ⟨x0, x1, x2, x3, x4, x5⟩ := box_sixS XF
                      rw [HPE.out]
                      exact bodyPost_ret (v := .agg #[.int .i64 0, .int .i64 id, .int .i64 tx, .int .i64 ba, .int .i64 rt, .slice va k vc]) (by simp [results, Try.results4, go_sem, x0, x1, x2, x3, x4, x5]) rfl HAN.out
                  · have d4 : (sm != cr) = true := by simp [t4]
                    refine wp_region_noPanic ?_
                    refine wp_region_held_drew (S := (fun w' : World => w' = wr.drew)) (by kernel_rfl) (rfl) (fun hHeld => ?_)
                    refine wpAnyH_take (i := 0) (oi := { dst := some 113, op := Op.move (Operand.tmp 0), type := 22, pos := "l7_restore.go:67", after := #[], guard := none }) (v := .slice (some ⟨g, o, none⟩) n c) rfl (by kernel_rfl) (by kernel_rfl) (by kernel_rfl) (fun _ _ _ h => h) (Or.inl ⟨by rfl, ?_⟩) (by assumption) ?_
                    · intro wq hSw; (try dsimp only at hSw); go_simp
                    try simp only [Act.put, List.setIfInBounds_toArray, List.set_cons_zero, List.set_cons_succ]
                    refine wpAnyH_take (i := 1) (oi := { dst := some 114, op := Op.move (Operand.tmp 7), type := 3, pos := "l7_restore.go:67", after := #[], guard := none }) (v := .int .i64 a) rfl (by kernel_rfl) (by kernel_rfl) (by kernel_rfl) (fun _ _ _ h => h) (Or.inl ⟨by rfl, ?_⟩) (by assumption) ?_
                    · intro wq hSw; (try dsimp only at hSw); go_simp
                    try simp only [Act.put, List.setIfInBounds_toArray, List.set_cons_zero, List.set_cons_succ]
                    refine wpAnyH_take (i := 2) (oi := { dst := some 115, op := Op.binOp BinOp.add 3 (Operand.tmp 114) (Operand.const (Value.int IntKind.i64 1)) 3, type := 3, pos := "l7_restore.go:67", after := #[{ on := 1, ground := Ground.data }], guard := none }) (v := .int .i64 ((a : Int) + 1)) rfl (by kernel_rfl) (by kernel_rfl) (by kernel_rfl) (fun _ _ _ h => h) (Or.inl ⟨by rfl, ?_⟩) (by assumption) ?_
                    · intro wq hSw; (try dsimp only at hSw); go_simp; (try (rw [IntKind.wrap_i64]; omega))
                    try simp only [Act.put, List.setIfInBounds_toArray, List.set_cons_zero, List.set_cons_succ]
                    refine wpAnyH_take (i := 3) (oi := { dst := some 116, op := Op.move (Operand.tmp 7), type := 3, pos := "l7_restore.go:67", after := #[], guard := none }) (v := .int .i64 a) rfl (by kernel_rfl) (by kernel_rfl) (by kernel_rfl) (fun _ _ _ h => h) (Or.inl ⟨by rfl, ?_⟩) (by assumption) ?_
                    · intro wq hSw; (try dsimp only at hSw); go_simp
                    try simp only [Act.put, List.setIfInBounds_toArray, List.set_cons_zero, List.set_cons_succ]
                    refine wpAnyH_take (i := 4) (oi := { dst := some 117, op := Op.binOp BinOp.add 3 (Operand.tmp 116) (Operand.const (Value.int IntKind.i64 5)) 3, type := 3, pos := "l7_restore.go:67", after := #[{ on := 3, ground := Ground.data }], guard := none }) (v := .int .i64 ((a : Int) + 5)) rfl (by kernel_rfl) (by kernel_rfl) (by kernel_rfl) (fun _ _ _ h => h) (Or.inl ⟨by rfl, ?_⟩) (by assumption) ?_
                    · intro wq hSw; (try dsimp only at hSw); go_simp; (try (rw [IntKind.wrap_i64]; omega))
                    try simp only [Act.put, List.setIfInBounds_toArray, List.set_cons_zero, List.set_cons_succ]
                    refine wpAnyH_take (i := 5) (oi := { dst := some 118, op := Op.slice 22 (Operand.tmp 113) (some (Operand.tmp 115)) (some (Operand.tmp 117)) none, type := 22, pos := "l7_restore.go:67", after := #[{ on := 0, ground := Ground.data }, { on := 2, ground := Ground.data }, { on := 4, ground := Ground.data }], guard := none }) (v := .slice (some ⟨g, o + (a + 1), none⟩) 4 (c - (a + 1))) rfl (by kernel_rfl) (by kernel_rfl) (by kernel_rfl) (fun _ _ _ h => h) (Or.inl ⟨by rfl, ?_⟩) (by assumption) ?_
                    · intro wq hSw; (try dsimp only at hSw); go_simp; rw [if_pos (by omega), if_pos (by omega), show ((a : Int) + 5).toNat - (a + 1) = 4 by omega]
                    try simp only [Act.put, List.setIfInBounds_toArray, List.set_cons_zero, List.set_cons_succ]
                    refine wpAnyH_take (i := 7) (oi := { dst := some 120, op := Op.move (Operand.tmp 0), type := 22, pos := "l7_restore.go:67", after := #[], guard := none }) (v := .slice (some ⟨g, o, none⟩) n c) rfl (by kernel_rfl) (by kernel_rfl) (by kernel_rfl) (fun _ _ _ h => h) (Or.inl ⟨by rfl, ?_⟩) (by assumption) ?_
                    · intro wq hSw; (try dsimp only at hSw); go_simp
                    try simp only [Act.put, List.setIfInBounds_toArray, List.set_cons_zero, List.set_cons_succ]
                    refine wpAnyH_take (i := 8) (oi := { dst := some 121, op := Op.move (Operand.tmp 7), type := 3, pos := "l7_restore.go:67", after := #[], guard := none }) (v := .int .i64 a) rfl (by kernel_rfl) (by kernel_rfl) (by kernel_rfl) (fun _ _ _ h => h) (Or.inl ⟨by rfl, ?_⟩) (by assumption) ?_
                    · intro wq hSw; (try dsimp only at hSw); go_simp
                    try simp only [Act.put, List.setIfInBounds_toArray, List.set_cons_zero, List.set_cons_succ]
                    refine wpAnyH_take (i := 9) (oi := { dst := some 122, op := Op.slice 22 (Operand.tmp 120) none (some (Operand.tmp 121)) none, type := 22, pos := "l7_restore.go:67", after := #[{ on := 7, ground := Ground.data }, { on := 8, ground := Ground.data }], guard := none }) (v := .slice (some ⟨g, o, none⟩) a c) rfl (by kernel_rfl) (by kernel_rfl) (by kernel_rfl) (fun _ _ _ h => h) (Or.inl ⟨by rfl, ?_⟩) (by assumption) ?_
                    · intro wq hSw; (try dsimp only at hSw); go_simp; (try omega)
                    try simp only [Act.put, List.setIfInBounds_toArray, List.set_cons_zero, List.set_cons_succ]
                    refine wpAnyH_ready (rs := [6]) (by kernel_rfl) (by simp) ?_
                    refine AllReadyH.cons (o := { dst := some 119, op := Op.call { callee := Callee.value (Operand.func 15), args := #[Operand.tmp 118, Operand.const (Value.bool false)], argTypes := #[22, 4] }, type := 2, pos := "l7_restore.go:67", after := #[{ on := 5, ground := Ground.data }], guard := none }) rfl (fun K hK => ?_) AllReadyH.nil
                    go_simp
                    refine (HQ4.out wr.drew D9.out.bel).mono ?_
                    rintro e wy1 ⟨rfl, ey⟩
                    rw [ey]
                    clear ey
                    go_wp2_with fail
                    refine hK.out _ _ (rfl) (fun hHeld => ?_)
                    clear hK K
                    try simp only [Act.put, List.setIfInBounds_toArray, List.set_cons_zero, List.set_cons_succ]
                    refine wpAnyH_ready (rs := [10]) (by kernel_rfl) (by simp) ?_
                    refine AllReadyH.cons (o := { dst := some 123, op := Op.call { callee := Callee.value (Operand.func 17), args := #[Operand.const (Value.int IntKind.u32 0), Operand.tmp 122], argTypes := #[42, 22] }, type := 42, pos := "l7_restore.go:67", after := #[{ on := 9, ground := Ground.data }, { on := 6, ground := Ground.chain }], guard := none }) rfl (fun K hK => ?_) AllReadyH.nil
                    go_simp
                    refine (HQ5.out wr.drew D9.out.bel).mono ?_
                    rintro e wy2 ⟨rfl, ey⟩
                    rw [ey]
                    clear ey
                    go_wp2_with fail
                    refine hK.out _ _ (rfl) (fun hHeld => ?_)
                    clear hK K
                    try simp only [Act.put, List.setIfInBounds_toArray, List.set_cons_zero, List.set_cons_succ]
                    refine wpAnyH_take (i := 11) (oi := { dst := some 124, op := Op.convert 42 2 (Operand.tmp 123), type := 2, pos := "l7_restore.go:67", after := #[{ on := 10, ground := Ground.data }], guard := none }) (v := .int .i64 cr) rfl (by kernel_rfl) (by kernel_rfl) (by kernel_rfl) (fun _ _ _ h => h) (Or.inl ⟨by rfl, ?_⟩) (by assumption) ?_
                    · intro wq hSw; (try dsimp only at hSw); go_simp; (try (rw [IntKind.wrap_i64]; omega))
                    try simp only [Act.put, List.setIfInBounds_toArray, List.set_cons_zero, List.set_cons_succ]
                    refine wpAnyH_take (i := 12) (oi := { dst := some 125, op := Op.binOp BinOp.neq 2 (Operand.tmp 119) (Operand.tmp 124) 2, type := 4, pos := "l7_restore.go:67", after := #[{ on := 6, ground := Ground.data }, { on := 11, ground := Ground.data }], guard := none }) (v := .bool true) rfl (by kernel_rfl) (by kernel_rfl) (by kernel_rfl) (fun _ _ _ h => h) (Or.inl ⟨by rfl, ?_⟩) (by assumption) ?_
                    · intro wq hSw; (try dsimp only at hSw); go_simp
                    try simp only [Act.put, List.setIfInBounds_toArray, List.set_cons_zero, List.set_cons_succ]
                    refine wpAnyH_done (by kernel_rfl) ?_ _
                    refine NoPanic.normal ?_
                    clear hHeld
                    have HPE : Hid (parS bs = zSR 5) := by show _ = _; rw [HRF.out, show tailD bs a = 5 by rw [HTD.out, if_pos t4], if_pos (by decide)]
                    have belE := D9.out.bel
                    have KE := D9.out.ans
                    clear D0 D9 HRF HTD HQ4 HQ5 hcell
                    generalize wr.drew = wE at belE KE ⊢
                    go_wp2_with fail
                    refine (l7Err_any 5 wE).mono ?_
                    rintro e wF ⟨rfl, hbF⟩
                    have KF := box_below KE hbF
                    have belF := belE.trans (hbF.mono belE.size)
                    clear belE KE hbF
                    obtain ⟨x0, x1, x2, x3, x4, x5⟩ := box_sixS KF
                    have hz := box_thawC KF
                    have XF := put6S_box KF (.int .i64 5) (.int .i64 0) (.int .i64 0) (.int .i64 0) (.int .i64 0) (.slice none 0 0)
                    have hfF := put6S_fr wF w.heap.size (.int .i64 5) (.int .i64 0) (.int .i64 0) (.int .i64 0) (.int .i64 0) (.slice none 0 0)
                    have HBF : Hid (Below w.heap.size w (put6S wF w.heap.size (.int .i64 5) (.int .i64 0) (.int .i64 0) (.int .i64 0) (.int .i64 0) (.slice none 0 0))) := belF.trans (hfF.below belF.size (fun q e => by omega))
                    have lF : w.heap.size < wF.heap.size := (Array.getElem?_eq_some_iff.1 KF).1
                    clear hfF belF KF
                    go_wp2_with fail
                    show bodyPost _ _ _ _ _ (put6S wF w.heap.size (.int .i64 5) (.int .i64 0) (.int .i64 0) (.int .i64 0) (.int .i64 0) (.slice none 0 0))
                    clear x0 x1 x2 x3 x4 x5 hz
                    obtain ⟨x0, x1, x2, x3, x4, x5⟩ := box_sixS XF
                    rw [HPE.out]
                    exact bodyPost_ret (v := .agg #[.int .i64 5, .int .i64 0, .int .i64 0, .int .i64 0, .int .i64 0, .slice none 0 0]) (by simp [results, Try.results4, go_sem, x0, x1, x2, x3, x4, x5]) rfl (SRAns.zero 5 HBF.out)
              · have d2 : (x != 69) = true := by simp [t2]
                have HPE : Hid (parS bs = zSR 4) := by show _ = _; rw [HRF.out, tailD_4 (by rw [HL.out]; exact t1) (by rw [← HXE.out]; exact t2), if_pos (by decide)]
                have belE := D0.out.bel
                have KE := D0.out.ans
                clear D0 HRF
                obtain ⟨wE, hwE⟩ : ∃ x, x = wr := ⟨_, rfl⟩
                subst hwE
                go_wp2_with fail
                refine (l7Err_any 4 wE).mono ?_
                rintro e wF ⟨rfl, hbF⟩
                have KF := box_below KE hbF
                have belF := belE.trans (hbF.mono belE.size)
                clear belE KE hbF
                obtain ⟨x0, x1, x2, x3, x4, x5⟩ := box_sixS KF
                have hz := box_thawC KF
                have XF := put6S_box KF (.int .i64 4) (.int .i64 0) (.int .i64 0) (.int .i64 0) (.int .i64 0) (.slice none 0 0)
                have hfF := put6S_fr wF w.heap.size (.int .i64 4) (.int .i64 0) (.int .i64 0) (.int .i64 0) (.int .i64 0) (.slice none 0 0)
                have HBF : Hid (Below w.heap.size w (put6S wF w.heap.size (.int .i64 4) (.int .i64 0) (.int .i64 0) (.int .i64 0) (.int .i64 0) (.slice none 0 0))) := belF.trans (hfF.below belF.size (fun q e => by omega))
                have lF : w.heap.size < wF.heap.size := (Array.getElem?_eq_some_iff.1 KF).1
                clear hfF belF KF
                go_wp2_with fail
                show bodyPost _ _ _ _ _ (put6S wF w.heap.size (.int .i64 4) (.int .i64 0) (.int .i64 0) (.int .i64 0) (.int .i64 0) (.slice none 0 0))
                clear x0 x1 x2 x3 x4 x5 hz
                obtain ⟨x0, x1, x2, x3, x4, x5⟩ := box_sixS XF
                rw [HPE.out]
                exact bodyPost_ret (v := .agg #[.int .i64 4, .int .i64 0, .int .i64 0, .int .i64 0, .int .i64 0, .slice none 0 0]) (by simp [results, Try.results4, go_sem, x0, x1, x2, x3, x4, x5]) rfl (SRAns.zero 4 HBF.out)
end Go.Proofs.Ytdieplpegkiolaa
