import Derived.Test.YtdieplpegkiolaaGAS
import Derived.Test.YtdieplpegkiolaaRsf
namespace Go.Proofs.Ytdieplpegkiolaa
open Go.RowKit
set_option linter.unusedVariables false
set_option linter.unusedSimpArgs false
set_option maxRecDepth 100000

/-- The frames, as the document reads them. -/
def loopD (bs : List Int) (base tx : Int) : Nat → Nat → Int → List PN → Int × Nat × List PN
  | 0, a, _, ps => (0, a, ps)
  | k + 1, a, l, ps =>
    if bs.length ≤ a then (3, a, ps)
    else if bs.getD a 0 ≠ 80 then (4, a, ps)
    else if bs.length < a + 137 then (3, a, ps)
    else if frmD ((bs.drop (a + 1)).take 136) base tx l = false then (4, a, ps)
    else loopD bs base tx k (a + 137) (leN (((bs.drop (a + 1)).take 136).take 4)) (ps ++ [(leN (((bs.drop (a + 1)).take 136).take 4), (((bs.drop (a + 1)).take 136).drop 4).take 128)])
def tailD (bs : List Int) (a : Nat) : Int :=
  if bs.length ≤ a then 3
  else if bs.getD a 0 ≠ 69 then 4
  else if bs.length < a + 5 then 3
  else if leN ((bs.drop (a + 1)).take 4) ≠ crcOf (bs.take a) then 5
  else if a + 5 < bs.length then 6
  else 0
def numD (bs : List Int) (k : Nat) : Int := leN ((((bs.drop 2).take 20).drop k).take 4)
def restD (bs : List Int) : SR :=
  if hdOkD (leN (((bs.drop 2).take 20).take 4)) (numD bs 4) (numD bs 8) (numD bs 12) (numD bs 16) = false then zSR 2
  else if (loopD bs (numD bs 8) (numD bs 4) (numD bs 16).toNat 22 0 []).1 ≠ 0 then zSR (loopD bs (numD bs 8) (numD bs 4) (numD bs 16).toNat 22 0 []).1
  else if tailD bs (loopD bs (numD bs 8) (numD bs 4) (numD bs 16).toNat 22 0 []).2.1 ≠ 0 then zSR (tailD bs (loopD bs (numD bs 8) (numD bs 4) (numD bs 16).toNat 22 0 []).2.1)
  else ⟨0, leN (((bs.drop 2).take 20).take 4), numD bs 4, numD bs 8, numD bs 12, (loopD bs (numD bs 8) (numD bs 4) (numD bs 16).toNat 22 0 []).2.2⟩
def parS (bs : List Int) : SR :=
  if 200000 < bs.length then zSR 1
  else if (0 < bs.length ∧ bs.getD 0 0 ≠ 66) ∨ (1 < bs.length ∧ bs.getD 1 0 ≠ 75) then zSR 2
  else if bs.length < 22 then zSR 3
  else restD bs
theorem loopD_err (bs : List Int) (base tx : Int) : ∀ (k a : Nat) (l : Int) (ps : List PN), (loopD bs base tx k a l ps).1 = 0 ∨ (loopD bs base tx k a l ps).1 = 3 ∨ (loopD bs base tx k a l ps).1 = 4
  | 0, a, l, ps => .inl rfl
  | k + 1, a, l, ps => by
    unfold loopD
    split
    · exact .inr (.inl rfl)
    · split
      · exact .inr (.inr rfl)
      · split
        · exact .inr (.inl rfl)
        · split
          · exact .inr (.inr rfl)
          · exact loopD_err bs base tx k _ _ _
theorem cellB {W : World} {A B g o n c : Nat} {bs : List Int} (h : BytesAt W A B (some ⟨g, o, none⟩) n c bs) (k : Nat) (hk : k < n) : W.cell? ⟨g, o + k, none⟩ = some (.int .u8 (bs.getD k 0)) := by
  obtain ⟨b, off, e, _, hc⟩ := h.2.2.2.2.1 (by omega)
  cases e
  exact hc k hk
set_option maxHeartbeats 4000000 in
theorem specParse_short (g o n c A B : Nat) (bs : List Int) (w : World) (hB : B ≤ w.heap.size) (hb : BytesAt w A B (some ⟨g, o, none⟩) n c bs) (hn : n < 22) :
    Calls Try.prog 4 #[.slice (some ⟨g, o, none⟩) n c] w fun e w' => SRAns w (parS bs) e w' := by
  have HL : Hid (bs.length = n) := hb.1
  have hnc := hb.2.1
  have hcm := hb.2.2.1
  have hby := hb.2.2.2.1
  unfold maxLen at hcm
  have hb0 : Below w.heap.size w (w.alloc (.cells #[.int .i64 0, .int .i64 0, .int .i64 0, .int .i64 0, .int .i64 0, .slice none 0 0] 27)) := (Below.refl _ _).alloc (Nat.le_refl _) _
  have k0 := heap_alloc_new w (.cells #[.int .i64 0, .int .i64 0, .int .i64 0, .int .i64 0, .int .i64 0, .slice none 0 0] 27)
  have HB : Hid (∀ W, Below w.heap.size w W → BytesAt W A B (some ⟨g, o, none⟩) n c bs) := fun W hW => hb.below (hW.mono hB)
  have HP3 : Hid (¬ ((0 < n ∧ bs.getD 0 0 ≠ 66) ∨ (1 < n ∧ bs.getD 1 0 ≠ 75)) → parS bs = zSR 3) := fun h => by unfold parS; rw [HL.out, if_neg (by omega), if_neg h, if_pos hn]
  have HP2 : Hid ((0 < n ∧ bs.getD 0 0 ≠ 66) ∨ (1 < n ∧ bs.getD 1 0 ≠ 75) → parS bs = zSR 2) := fun h => by unfold parS; rw [HL.out, if_neg (by omega), if_pos h]
  have hgt : decide ((200000 : Int) < (n : Int)) = false := by simp; omega
  have h22 : decide ((n : Int) < 22) = true := by simp; omega
  have HKB : Hid (Below w.heap.size w (w.alloc (.cells #[.int .i64 0, .int .i64 0, .int .i64 0, .int .i64 0, .int .i64 0, .slice none 0 0] 27)) ∧ (w.alloc (.cells #[.int .i64 0, .int .i64 0, .int .i64 0, .int .i64 0, .int .i64 0, .slice none 0 0] 27)).heap[w.heap.size]? = some (.cells #[.int .i64 0, .int .i64 0, .int .i64 0, .int .i64 0, .int .i64 0, .slice none 0 0] 27)) := ⟨hb0, k0⟩
  clear hb hb0 k0
  go_enter Try.func4, Try.ntmps4
  go_wp2_with fail
  generalize w.alloc (.cells #[.int .i64 0, .int .i64 0, .int .i64 0, .int .i64 0, .int .i64 0, .slice none 0 0] 27) = W0 at HKB ⊢
  go_loopw [3] (fun i wr => ∃ k : Nat, k ≤ 2 ∧ k ≤ n ∧ i = .int .i64 k ∧ Hid ((0 < k → bs.getD 0 0 = 66) ∧ (1 < k → bs.getD 1 0 = 75)) ∧ Hid (Below w.heap.size w wr ∧ wr.heap[w.heap.size]? = some (.cells #[.int .i64 0, .int .i64 0, .int .i64 0, .int .i64 0, .int .i64 0, .slice none 0 0] 27))) (fun i _ => 2 - (intOf i).toNat)
  case atStart => exact ⟨0, by omega, by omega, rfl, ⟨fun h => absurd h (by omega), fun h => absurd h (by omega)⟩, HKB⟩
  case round =>
    clear HKB
    obtain ⟨k, hk2, hkn, rfl, HG, HK⟩ := hrel
    by_cases hlt : k < n
    · by_cases hl2 : k < 2
      · have hcell := cellB (HB.out wr HK.out.1) k hlt
        have hx := getD_byteB hby k
        have hd1 : decide ((k : Int) < 2) = true := by simp; omega
        obtain ⟨x, hxe⟩ : ∃ x, x = bs.getD k 0 := ⟨_, rfl⟩
        rw [← hxe] at hcell hx
        have HXE : Hid (x = bs.getD k 0) := hxe
        clear hxe
        have hK0 : ((((ByteArray.mk #[66, 75])[0]'(by decide)).toNat : Nat) : Int) = 66 := rfl
        have hK1 : ((((ByteArray.mk #[66, 75])[1]'(by decide)).toNat : Nat) : Int) = 75 := rfl
        have hks : k = 0 ∨ k = 1 := by omega
        rcases hks with rfl | rfl
        · simp only [Nat.add_zero] at hcell
          by_cases t : x = 66
          · have dt : (x != 66) = false := by simp [t]
            have R1 : Hid ((0 < 1 → bs.getD 0 0 = 66) ∧ (1 < 1 → bs.getD 1 0 = 75)) := ⟨fun _ => by rw [← HXE.out]; exact t, fun h => absurd h (by omega)⟩
            go_wp2_with fail
            go_quiet (fail)
            have R2 : Hid (∀ q, Below w.heap.size w (wr.drewN q) ∧ (wr.drewN q).heap[w.heap.size]? = some (.cells #[.int .i64 0, .int .i64 0, .int .i64 0, .int .i64 0, .int .i64 0, .slice none 0 0] 27)) := fun q => ⟨HK.out.1.trans ⟨rfl, rfl, rfl, Nat.le_refl _, fun _ _ => rfl⟩, HK.out.2⟩
            clear HK
            go_wp2_with fail
            go_roundw
            case rel => exact ⟨1, by omega, by omega, rfl, R1, R2.out _⟩
            case measure => simp [intOf]
          · have dt : (x != 66) = true := by simp [t]
            have HPE : Hid (parS bs = zSR 2) := HP2.out (.inl ⟨hlt, by rw [← HXE.out]; exact t⟩)
            go_wp2_with fail
            go_quiet (fail)
            have R2 : Hid (∀ q, Below w.heap.size w (wr.drewN q) ∧ (wr.drewN q).heap[w.heap.size]? = some (.cells #[.int .i64 0, .int .i64 0, .int .i64 0, .int .i64 0, .int .i64 0, .slice none 0 0] 27)) := fun q => ⟨HK.out.1.trans ⟨rfl, rfl, rfl, Nat.le_refl _, fun _ _ => rfl⟩, HK.out.2⟩
            clear HK
            go_wp2_with fail
            have RE := R2.out nq
            generalize wr.drewN nq = wE at RE ⊢
            clear R2
            obtain ⟨belE, KE⟩ := RE
            refine (l7Err_any 2 wE).mono ?_
            rintro e wF ⟨rfl, hbF⟩
            have KF := box_below KE hbF
            have belF := belE.trans (hbF.mono belE.size)
            clear belE KE hbF
            obtain ⟨x0, x1, x2, x3, x4, x5⟩ := box_sixS KF
            have hz := box_thawC KF
            have XF := put6S_box KF (.int .i64 2) (.int .i64 0) (.int .i64 0) (.int .i64 0) (.int .i64 0) (.slice none 0 0)
            have hfF := put6S_fr wF w.heap.size (.int .i64 2) (.int .i64 0) (.int .i64 0) (.int .i64 0) (.int .i64 0) (.slice none 0 0)
            have HBF : Hid (Below w.heap.size w (put6S wF w.heap.size (.int .i64 2) (.int .i64 0) (.int .i64 0) (.int .i64 0) (.int .i64 0) (.slice none 0 0))) := belF.trans (hfF.below belF.size (fun q e => by omega))
            have lF : w.heap.size < wF.heap.size := (Array.getElem?_eq_some_iff.1 KF).1
            clear hfF belF KF
            go_wp2_with fail
            show bodyPost _ _ _ _ _ (put6S wF w.heap.size (.int .i64 2) (.int .i64 0) (.int .i64 0) (.int .i64 0) (.int .i64 0) (.slice none 0 0))
            clear x0 x1 x2 x3 x4 x5 hz
            obtain ⟨x0, x1, x2, x3, x4, x5⟩ := box_sixS XF
            rw [HPE.out]
            exact bodyPost_ret (v := .agg #[.int .i64 2, .int .i64 0, .int .i64 0, .int .i64 0, .int .i64 0, .slice none 0 0]) (by simp [results, Try.results4, go_sem, x0, x1, x2, x3, x4, x5]) rfl (SRAns.zero 2 HBF.out)
        · by_cases t : x = 75
          · have dt : (x != 75) = false := by simp [t]
            have R1 : Hid ((0 < 2 → bs.getD 0 0 = 66) ∧ (1 < 2 → bs.getD 1 0 = 75)) := ⟨fun _ => HG.out.1 (by omega), fun h => by rw [← HXE.out]; exact t⟩
            go_wp2_with fail
            go_quiet (fail)
            have R2 : Hid (∀ q, Below w.heap.size w (wr.drewN q) ∧ (wr.drewN q).heap[w.heap.size]? = some (.cells #[.int .i64 0, .int .i64 0, .int .i64 0, .int .i64 0, .int .i64 0, .slice none 0 0] 27)) := fun q => ⟨HK.out.1.trans ⟨rfl, rfl, rfl, Nat.le_refl _, fun _ _ => rfl⟩, HK.out.2⟩
            clear HK
            go_wp2_with fail
            go_roundw
            case rel => exact ⟨2, by omega, by omega, rfl, R1, R2.out _⟩
            case measure => simp [intOf]
          · have dt : (x != 75) = true := by simp [t]
            have HPE : Hid (parS bs = zSR 2) := HP2.out (.inr ⟨hlt, by rw [← HXE.out]; exact t⟩)
            go_wp2_with fail
            go_quiet (fail)
            have R2 : Hid (∀ q, Below w.heap.size w (wr.drewN q) ∧ (wr.drewN q).heap[w.heap.size]? = some (.cells #[.int .i64 0, .int .i64 0, .int .i64 0, .int .i64 0, .int .i64 0, .slice none 0 0] 27)) := fun q => ⟨HK.out.1.trans ⟨rfl, rfl, rfl, Nat.le_refl _, fun _ _ => rfl⟩, HK.out.2⟩
            clear HK
            go_wp2_with fail
            have RE := R2.out nq
            generalize wr.drewN nq = wE at RE ⊢
            clear R2
            obtain ⟨belE, KE⟩ := RE
            refine (l7Err_any 2 wE).mono ?_
            rintro e wF ⟨rfl, hbF⟩
            have KF := box_below KE hbF
            have belF := belE.trans (hbF.mono belE.size)
            clear belE KE hbF
            obtain ⟨x0, x1, x2, x3, x4, x5⟩ := box_sixS KF
            have hz := box_thawC KF
            have XF := put6S_box KF (.int .i64 2) (.int .i64 0) (.int .i64 0) (.int .i64 0) (.int .i64 0) (.slice none 0 0)
            have hfF := put6S_fr wF w.heap.size (.int .i64 2) (.int .i64 0) (.int .i64 0) (.int .i64 0) (.int .i64 0) (.slice none 0 0)
            have HBF : Hid (Below w.heap.size w (put6S wF w.heap.size (.int .i64 2) (.int .i64 0) (.int .i64 0) (.int .i64 0) (.int .i64 0) (.slice none 0 0))) := belF.trans (hfF.below belF.size (fun q e => by omega))
            have lF : w.heap.size < wF.heap.size := (Array.getElem?_eq_some_iff.1 KF).1
            clear hfF belF KF
            go_wp2_with fail
            show bodyPost _ _ _ _ _ (put6S wF w.heap.size (.int .i64 2) (.int .i64 0) (.int .i64 0) (.int .i64 0) (.int .i64 0) (.slice none 0 0))
            clear x0 x1 x2 x3 x4 x5 hz
            obtain ⟨x0, x1, x2, x3, x4, x5⟩ := box_sixS XF
            rw [HPE.out]
            exact bodyPost_ret (v := .agg #[.int .i64 2, .int .i64 0, .int .i64 0, .int .i64 0, .int .i64 0, .slice none 0 0]) (by simp [results, Try.results4, go_sem, x0, x1, x2, x3, x4, x5]) rfl (SRAns.zero 2 HBF.out)
      · obtain rfl : k = 2 := by omega
        have HPE : Hid (parS bs = zSR 3) := HP3.out (fun h => by rcases h with h | h; exact h.2 (HG.out.1 (by omega)); exact h.2 (HG.out.2 (by omega)))
        obtain ⟨belE, KE⟩ := HK.out
        clear HK
        have hd1 : decide ((2 : Int) < (n : Int)) = true := by simp; omega
        obtain ⟨wE, hwE⟩ : ∃ x, x = wr := ⟨_, rfl⟩
        subst hwE
        go_wp2_with fail
        refine (l7Err_any 3 wE).mono ?_
        rintro e wF ⟨rfl, hbF⟩
        have KF := box_below KE hbF
        have belF := belE.trans (hbF.mono belE.size)
        clear belE KE hbF
        obtain ⟨x0, x1, x2, x3, x4, x5⟩ := box_sixS KF
        have hz := box_thawC KF
        have XF := put6S_box KF (.int .i64 3) (.int .i64 0) (.int .i64 0) (.int .i64 0) (.int .i64 0) (.slice none 0 0)
        have hfF := put6S_fr wF w.heap.size (.int .i64 3) (.int .i64 0) (.int .i64 0) (.int .i64 0) (.int .i64 0) (.slice none 0 0)
        have HBF : Hid (Below w.heap.size w (put6S wF w.heap.size (.int .i64 3) (.int .i64 0) (.int .i64 0) (.int .i64 0) (.int .i64 0) (.slice none 0 0))) := belF.trans (hfF.below belF.size (fun q e => by omega))
        have lF : w.heap.size < wF.heap.size := (Array.getElem?_eq_some_iff.1 KF).1
        clear hfF belF KF
        go_wp2_with fail
        show bodyPost _ _ _ _ _ (put6S wF w.heap.size (.int .i64 3) (.int .i64 0) (.int .i64 0) (.int .i64 0) (.int .i64 0) (.slice none 0 0))
        clear x0 x1 x2 x3 x4 x5 hz
        obtain ⟨x0, x1, x2, x3, x4, x5⟩ := box_sixS XF
        rw [HPE.out]
        exact bodyPost_ret (v := .agg #[.int .i64 3, .int .i64 0, .int .i64 0, .int .i64 0, .int .i64 0, .slice none 0 0]) (by simp [results, Try.results4, go_sem, x0, x1, x2, x3, x4, x5]) rfl (SRAns.zero 3 HBF.out)
    · obtain rfl : k = n := by omega
      have HPE : Hid (parS bs = zSR 3) := HP3.out (fun h => by rcases h with h | h; exact h.2 (HG.out.1 h.1); exact h.2 (HG.out.2 h.1))
      obtain ⟨belE, KE⟩ := HK.out
      clear HK
      obtain ⟨wE, hwE⟩ : ∃ x, x = wr := ⟨_, rfl⟩
      subst hwE
      go_wp2_with fail
      refine (l7Err_any 3 wE).mono ?_
      rintro e wF ⟨rfl, hbF⟩
      have KF := box_below KE hbF
      have belF := belE.trans (hbF.mono belE.size)
      clear belE KE hbF
      obtain ⟨x0, x1, x2, x3, x4, x5⟩ := box_sixS KF
      have hz := box_thawC KF
      have XF := put6S_box KF (.int .i64 3) (.int .i64 0) (.int .i64 0) (.int .i64 0) (.int .i64 0) (.slice none 0 0)
      have hfF := put6S_fr wF w.heap.size (.int .i64 3) (.int .i64 0) (.int .i64 0) (.int .i64 0) (.int .i64 0) (.slice none 0 0)
      have HBF : Hid (Below w.heap.size w (put6S wF w.heap.size (.int .i64 3) (.int .i64 0) (.int .i64 0) (.int .i64 0) (.int .i64 0) (.slice none 0 0))) := belF.trans (hfF.below belF.size (fun q e => by omega))
      have lF : w.heap.size < wF.heap.size := (Array.getElem?_eq_some_iff.1 KF).1
      clear hfF belF KF
      go_wp2_with fail
      show bodyPost _ _ _ _ _ (put6S wF w.heap.size (.int .i64 3) (.int .i64 0) (.int .i64 0) (.int .i64 0) (.int .i64 0) (.slice none 0 0))
      clear x0 x1 x2 x3 x4 x5 hz
      obtain ⟨x0, x1, x2, x3, x4, x5⟩ := box_sixS XF
      rw [HPE.out]
      exact bodyPost_ret (v := .agg #[.int .i64 3, .int .i64 0, .int .i64 0, .int .i64 0, .int .i64 0, .slice none 0 0]) (by simp [results, Try.results4, go_sem, x0, x1, x2, x3, x4, x5]) rfl (SRAns.zero 3 HBF.out)
end Go.Proofs.Ytdieplpegkiolaa
