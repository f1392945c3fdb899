import Derived.Test.YtmmdkjeoadlikaaRw
import Derived.Test.YtmmdkjeoadlikaaJR1
import Derived.Test.YtmmdkjeoadlikaaJR3
namespace Go.Proofs.Ytmmdkjeoadlikaa
open Go.RowKit
set_option linter.unusedVariables false
set_option maxRecDepth 100000
theorem rfI_bad {fs : List PF} {ps : List PP} {cp fu : Int} {de : Bool} {nm : ByteArray} (h : ¬ (de = false ∧ ps.length = 0 ∧ implV fs ps cp fu = true ∧ findN fs nm < fs.length)) : rfI fs ps cp fu de nm = 1 := by unfold rfI; rw [if_neg h]
set_option maxHeartbeats 3200000 in
theorem specRemove_any (a : Option Addr) (n c : Nat) (fs : List PF) (b : Option Addr) (m d : Nat) (ps : List PP) (cp fu : Int) (de : Bool) (nm : ByteArray) (w : World) (A B : Nat) (hB : B ≤ w.heap.size) (hF : FilesAt w A B a n c fs) (hP : PendsAt w A B b m d ps) (hs : nm.size ≤ maxLen) (hfu : -9223372036854775808 ≤ fu ∧ fu ≤ 9223372036854775807)
    (hn : n ≤ 1048576) (hm : m ≤ 1048576) (hall : ∀ j, j < n → (fs.getD j (ByteArray.empty, [])).2.length ≤ 1048576) (hall2 : ∀ j, j < m → (ps.getD j (ByteArray.empty, 0, [])).2.2.length ≤ 1048576) :
    Calls Try.prog 24 #[.agg #[.slice a n c, .slice b m d, .int .i64 cp, .int .i64 fu, .bool de], .string nm] w fun e w' => ResAt w e w' (dsE (rfI fs ps cp fu de nm) fu) (dsX (rfI fs ps cp fu de nm) fu fs (remF fs nm)) (dsX (rfI fs ps cp fu de nm) fu ps ps) cp (dsF (rfI fs ps cp fu de nm) fu) (dsD (rfI fs ps cp fu de nm) fu de) := by
  have HF : Hid (∀ W, Below w.heap.size w W → FilesAt W A B a n c fs) := fun W hW => hF.below (hW.mono hB)
  have HP : Hid (∀ W, Below w.heap.size w W → PendsAt W A B b m d ps) := fun W hW => hP.below (hW.mono hB)
  have HA : Hid (∀ j, j < n → (fs.getD j (ByteArray.empty, [])).2.length ≤ 1048576) := hall
  have HA2 : Hid (∀ j, j < m → (ps.getD j (ByteArray.empty, 0, [])).2.2.length ≤ 1048576) := hall2
  have HML : Hid (ps.length = m) := hP.1
  have HNL : Hid (fs.length = n) := hF.1
  clear hF hP hall hall2
  go_enter Try.func24, Try.ntmps24
  go_wp2_with fail
  obtain ⟨W0, hW0⟩ : ∃ W0, W0 = (w.alloc (.cells #[.slice a n c, .slice b m d, .int .i64 cp, .int .i64 fu, .bool de] 32)).alloc (.cells #[.int .i64 0, .slice none 0 0, .slice none 0 0, .int .i64 0, .int .i64 0, .bool false] 40) := ⟨_, rfl⟩
  have hs0 : W0.heap.size = w.heap.size + 2 := by rw [hW0]; simp
  have hb0 : Below w.heap.size w W0 := by rw [hW0]; exact ((Below.refl _ _).alloc (Nat.le_refl _) _).alloc (by simp) _
  have k0 : W0.heap[w.heap.size]? = some (.cells #[.slice a n c, .slice b m d, .int .i64 cp, .int .i64 fu, .bool de] 32) := by rw [hW0, heap_alloc_old _ _ (by simp)]; exact heap_alloc_new _ _
  have k1 : W0.heap[w.heap.size + 1]? = some (.cells #[.int .i64 0, .slice none 0 0, .slice none 0 0, .int .i64 0, .int .i64 0, .bool false] 40) := by rw [hW0]; have := heap_alloc_new (w.alloc (.cells #[.slice a n c, .slice b m d, .int .i64 cp, .int .i64 fu, .bool de] 32)) (.cells #[.int .i64 0, .slice none 0 0, .slice none 0 0, .int .i64 0, .int .i64 0, .bool false] 40); simpa using this
  rw [← hW0]
  clear hW0
  refine (l1Live_any a n c fs b m d ps cp fu de W0 A B (by omega) (HF.out _ hb0) (HP.out _ hb0) HA.out).mono ?_
  rintro e w1 ⟨rfl, hb1⟩
  have hs1 := hb1.size
  have bel1 : Below w.heap.size w w1 := hb0.trans (hb1.mono (by omega))
  have jD1 := (hb1.block w.heap.size (by omega)).trans k0
  have jR1 := (hb1.block (w.heap.size + 1) (by omega)).trans k1
  clear k0 k1 hb0 hb1
  obtain ⟨x0, x1, x2, x3, x4⟩ := boxW5 jD1
  have hlD : w.heap.size < w1.heap.size := by omega
  cases hv : (specV fs ps cp fu && !de) with
  | false =>
    have HW : Hid (rfI fs ps cp fu de nm = 1) := rfI_bad (fun h => by rw [valid_eq, h.2.2.1, h.1] at hv; cases hv)
    clear hv
    go_wp2_with fail
    refine (l1Bad_any a n c fs b m d ps cp fu de w1 A B (by omega) (HF.out _ bel1) (HP.out _ bel1) hn hm HA.out HA2.out).mono ?_
    rintro e w9 hres
    obtain ⟨a9, c9, b9, d9, xs9, vs9, ys9, us9, rfl, hO9, hb9⟩ := hres.out
    clear hres
    have jR := (hb9.block (w.heap.size + 1) (by omega)).trans jR1
    have hs9 := hb9.size
    obtain ⟨r0, r1, r2, r3, r4, r5⟩ := box_sixR jR
    have ff := box_thawC jR
    have HB := put6R_box jR (.int .i64 1) (.slice a9 fs.length c9) (.slice b9 ps.length d9) (.int .i64 cp) (.int .i64 fu) (.bool de)
    have HR : Hid (ResAt w (.returned (.agg #[.int .i64 1, .slice a9 fs.length c9, .slice b9 ps.length d9, .int .i64 cp, .int .i64 fu, .bool de])) (put6R w9 (w.heap.size + 1) (.int .i64 1) (.slice a9 fs.length c9) (.slice b9 ps.length d9) (.int .i64 cp) (.int .i64 fu) (.bool de)) 1 fs ps cp fu de) := ResAt.mk6 (by omega) (base := w1.heap.size) hO9 (by omega) (by omega) (bel1.trans (hb9.mono bel1.size))
    clear hO9 hb9 jR jR1 jD1
    go_wp2
    show bodyPost _ _ _ _ _ (put6R w9 (w.heap.size + 1) (.int .i64 1) (.slice a9 fs.length c9) (.slice b9 ps.length d9) (.int .i64 cp) (.int .i64 fu) (.bool de))
    clear r0 r1 r2 r3 r4 r5
    obtain ⟨r0, r1, r2, r3, r4, r5⟩ := box_sixR HB
    exact bodyPost_ret (v := .agg #[.int .i64 1, .slice a9 fs.length c9, .slice b9 ps.length d9, .int .i64 cp, .int .i64 fu, .bool de]) (by simp [results, Try.results24, go_sem, r0, r1, r2, r3, r4, r5]) rfl (by rw [HW.out]; simpa [dsE, dsX, dsF, dsD] using HR.out)
  | true =>
    have hv1 : specV fs ps cp fu = true := by cases h : specV fs ps cp fu <;> simp [h] at hv <;> rfl
    obtain rfl : de = false := by cases de <;> simp [hv1] at hv <;> rfl
    have HV : Hid (implV fs ps cp fu = true) := by show _ = _; rw [← valid_eq]; exact hv1
    clear hv hv1
    by_cases hm0 : 0 < m
    · have hmz : decide ((0 : Int) < (m : Int)) = true := by simp; omega
      have HW : Hid (rfI fs ps cp fu false nm = 1) := rfI_bad (fun h => by have := HML.out; omega)
      go_wp2_with fail
      refine (l1Bad_any a n c fs b m d ps cp fu false w1 A B (by omega) (HF.out _ bel1) (HP.out _ bel1) hn hm HA.out HA2.out).mono ?_
      rintro e w9 hres
      obtain ⟨a9, c9, b9, d9, xs9, vs9, ys9, us9, rfl, hO9, hb9⟩ := hres.out
      clear hres
      have jR := (hb9.block (w.heap.size + 1) (by omega)).trans jR1
      have hs9 := hb9.size
      obtain ⟨r0, r1, r2, r3, r4, r5⟩ := box_sixR jR
      have ff := box_thawC jR
      have HB := put6R_box jR (.int .i64 1) (.slice a9 fs.length c9) (.slice b9 ps.length d9) (.int .i64 cp) (.int .i64 fu) (.bool false)
      have HR : Hid (ResAt w (.returned (.agg #[.int .i64 1, .slice a9 fs.length c9, .slice b9 ps.length d9, .int .i64 cp, .int .i64 fu, .bool false])) (put6R w9 (w.heap.size + 1) (.int .i64 1) (.slice a9 fs.length c9) (.slice b9 ps.length d9) (.int .i64 cp) (.int .i64 fu) (.bool false)) 1 fs ps cp fu false) := ResAt.mk6 (by omega) (base := w1.heap.size) hO9 (by omega) (by omega) (bel1.trans (hb9.mono bel1.size))
      clear hO9 hb9 jR jR1 jD1
      go_wp2
      show bodyPost _ _ _ _ _ (put6R w9 (w.heap.size + 1) (.int .i64 1) (.slice a9 fs.length c9) (.slice b9 ps.length d9) (.int .i64 cp) (.int .i64 fu) (.bool false))
      clear r0 r1 r2 r3 r4 r5
      obtain ⟨r0, r1, r2, r3, r4, r5⟩ := box_sixR HB
      exact bodyPost_ret (v := .agg #[.int .i64 1, .slice a9 fs.length c9, .slice b9 ps.length d9, .int .i64 cp, .int .i64 fu, .bool false]) (by simp [results, Try.results24, go_sem, r0, r1, r2, r3, r4, r5]) rfl (by rw [HW.out]; simpa [dsE, dsX, dsF, dsD] using HR.out)
    have hmz : decide ((0 : Int) < (m : Int)) = false := by simp; omega
    have hfind := l1Find_any a n c fs nm w1 A B (HF.out _ bel1)
    rcases findI_cases fs nm with ⟨e1, e2⟩ | ⟨e1, e2⟩
    · rw [e1] at hfind
      have HW : Hid (rfI fs ps cp fu false nm = 1) := rfI_bad (fun h => by omega)
      clear e1 e2
      go_wp2_with fail
      refine hfind.mono ?_
      rintro e w1' ⟨rfl, rfl⟩
      clear hfind
      go_wp2_with fail
      refine (l1Bad_any a n c fs b m d ps cp fu false w1' A B (by omega) (HF.out _ bel1) (HP.out _ bel1) hn hm HA.out HA2.out).mono ?_
      rintro e w9 hres
      obtain ⟨a9, c9, b9, d9, xs9, vs9, ys9, us9, rfl, hO9, hb9⟩ := hres.out
      clear hres
      have jR := (hb9.block (w.heap.size + 1) (by omega)).trans jR1
      have hs9 := hb9.size
      obtain ⟨r0, r1, r2, r3, r4, r5⟩ := box_sixR jR
      have ff := box_thawC jR
      have HB := put6R_box jR (.int .i64 1) (.slice a9 fs.length c9) (.slice b9 ps.length d9) (.int .i64 cp) (.int .i64 fu) (.bool false)
      have HR : Hid (ResAt w (.returned (.agg #[.int .i64 1, .slice a9 fs.length c9, .slice b9 ps.length d9, .int .i64 cp, .int .i64 fu, .bool false])) (put6R w9 (w.heap.size + 1) (.int .i64 1) (.slice a9 fs.length c9) (.slice b9 ps.length d9) (.int .i64 cp) (.int .i64 fu) (.bool false)) 1 fs ps cp fu false) := ResAt.mk6 (by omega) (base := w1'.heap.size) hO9 (by omega) (by omega) (bel1.trans (hb9.mono bel1.size))
      clear hO9 hb9 jR jR1 jD1
      go_wp2
      show bodyPost _ _ _ _ _ (put6R w9 (w.heap.size + 1) (.int .i64 1) (.slice a9 fs.length c9) (.slice b9 ps.length d9) (.int .i64 cp) (.int .i64 fu) (.bool false))
      clear r0 r1 r2 r3 r4 r5
      obtain ⟨r0, r1, r2, r3, r4, r5⟩ := box_sixR HB
      exact bodyPost_ret (v := .agg #[.int .i64 1, .slice a9 fs.length c9, .slice b9 ps.length d9, .int .i64 cp, .int .i64 fu, .bool false]) (by simp [results, Try.results24, go_sem, r0, r1, r2, r3, r4, r5]) rfl (by rw [HW.out]; simpa [dsE, dsX, dsF, dsD] using HR.out)
    · rw [e1] at hfind
      have HW : Hid (rfI fs ps cp fu false nm = 0) := by show _ = _; unfold rfI; rw [if_pos ⟨rfl, by have := HML.out; omega, HV.out, e2⟩]
      have hneg : ¬ ((findN fs nm : Nat) : Int) < 0 := by omega
      clear e1 e2
      generalize findN fs nm = fi at hfind hneg
      go_wp2_with fail
      refine hfind.mono ?_
      rintro e w1' ⟨rfl, rfl⟩
      clear hfind
      go_wp2_with fail
      refine (l1Spend_any a n c fs b m d ps cp fu false w1' A B (by omega) (HF.out _ bel1) (HP.out _ bel1) hn hm HA.out HA2.out hfu).mono ?_
      rintro e w9 hres
      obtain ⟨a9, c9, b9, d9, xs9, vs9, ys9, us9, rfl, hO9, hb9⟩ := hres.out
      clear hres
      have hs9 := hb9.size
      have bel9 := bel1.trans (hb9.mono bel1.size)
      have jR9 := (hb9.block (w.heap.size + 1) (by omega)).trans jR1
      clear x0 x1 x2 x3 x4 jD1 jR1 hneg
      by_cases h0 : fu = 0
      · subst h0
        rw [show spE 0 = 3 from rfl, show spF 0 = 0 from rfl, show spD 0 false = true from rfl]
        have hal : Below w9.heap.size w9 (w9.alloc (.cells #[.int .i64 3, .slice a9 fs.length c9, .slice b9 ps.length d9, .int .i64 cp, .int .i64 0, .bool true] 40)) := (Below.refl _ _).alloc (Nat.le_refl _) _
        have kN := heap_alloc_new w9 (.cells #[.int .i64 3, .slice a9 fs.length c9, .slice b9 ps.length d9, .int .i64 cp, .int .i64 0, .bool true] 40)
        have jR := (hal.block (w.heap.size + 1) (by omega)).trans jR9
        have hsX : (w9.alloc (.cells #[.int .i64 3, .slice a9 fs.length c9, .slice b9 ps.length d9, .int .i64 cp, .int .i64 0, .bool true] 40)).heap.size = w9.heap.size + 1 := by simp
        obtain ⟨y0, y1, y2, y3, y4, y5⟩ := box_sixR kN
        obtain ⟨r0, r1, r2, r3, r4, r5⟩ := box_sixR jR
        have ff := box_thawC jR
        have HB := put6R_box jR (.int .i64 3) (.slice a9 fs.length c9) (.slice b9 ps.length d9) (.int .i64 cp) (.int .i64 0) (.bool true)
        have HR : Hid (ResAt w (.returned (.agg #[.int .i64 3, .slice a9 fs.length c9, .slice b9 ps.length d9, .int .i64 cp, .int .i64 0, .bool true])) (put6R (w9.alloc (.cells #[.int .i64 3, .slice a9 fs.length c9, .slice b9 ps.length d9, .int .i64 cp, .int .i64 0, .bool true] 40)) (w.heap.size + 1) (.int .i64 3) (.slice a9 fs.length c9) (.slice b9 ps.length d9) (.int .i64 cp) (.int .i64 0) (.bool true)) 3 fs ps cp 0 true) := ResAt.mk6 (by omega) (base := w1'.heap.size) (hO9.below hal) (by omega) (by omega) (bel9.trans (hal.mono bel9.size))
        clear hO9 hb9 jR jR9 hal kN
        go_wp2
        show bodyPost _ _ _ _ _ (put6R (w9.alloc (.cells #[.int .i64 3, .slice a9 fs.length c9, .slice b9 ps.length d9, .int .i64 cp, .int .i64 0, .bool true] 40)) (w.heap.size + 1) (.int .i64 3) (.slice a9 fs.length c9) (.slice b9 ps.length d9) (.int .i64 cp) (.int .i64 0) (.bool true))
        clear r0 r1 r2 r3 r4 r5
        obtain ⟨r0, r1, r2, r3, r4, r5⟩ := box_sixR HB
        exact bodyPost_ret (v := .agg #[.int .i64 3, .slice a9 fs.length c9, .slice b9 ps.length d9, .int .i64 cp, .int .i64 0, .bool true]) (by simp [results, Try.results24, go_sem, r0, r1, r2, r3, r4, r5]) rfl (by rw [HW.out]; simpa [dsE, dsX, dsF, dsD, spE, spF, spD] using HR.out)
      · rw [show spE fu = 0 by simp [spE, h0]]
        have HX : Hid (dsE 0 fu = 0 ∧ dsX 0 fu fs (remF fs nm) = remF fs nm ∧ dsX 0 fu ps ps = ps ∧ dsF 0 fu = spF fu ∧ dsD 0 fu false = spD fu false) := by show _ ∧ _; simp [dsE, dsX, dsF, dsD, spE, h0]
        generalize spF fu = F at *
        generalize spD fu false = D at *
        have hal : Below w9.heap.size w9 (w9.alloc (.cells #[.int .i64 0, .slice a9 fs.length c9, .slice b9 ps.length d9, .int .i64 cp, .int .i64 F, .bool D] 40)) := (Below.refl _ _).alloc (Nat.le_refl _) _
        have XO := heap_alloc_new w9 (.cells #[.int .i64 0, .slice a9 fs.length c9, .slice b9 ps.length d9, .int .i64 cp, .int .i64 F, .bool D] 40)
        have jR := (hal.block (w.heap.size + 1) (by omega)).trans jR9
        have hsX : (w9.alloc (.cells #[.int .i64 0, .slice a9 fs.length c9, .slice b9 ps.length d9, .int .i64 cp, .int .i64 F, .bool D] 40)).heap.size = w9.heap.size + 1 := by simp
        have own := hO9.below hal
        have hlt : ∀ g, Blk (.slice a9 fs.length c9) vs9 g ∨ Blk (.slice b9 ps.length d9) us9 g → g < w9.heap.size := fun g hg => (hO9.blk hg).2
        have belX := bel9.trans (hal.mono bel9.size)
        obtain ⟨y0, y1, y2, y3, y4, y5⟩ := box_sixR XO
        clear hO9 hb9 jR9 hal
        go_wp2_with fail
        generalize (w9.alloc (.cells #[.int .i64 0, .slice a9 fs.length c9, .slice b9 ps.length d9, .int .i64 cp, .int .i64 F, .bool D] 40)) = W at *
        clear y0 y1 y2 y3 y4 y5
        refine (l1Without_own a9 fs.length c9 fs xs9 vs9 nm w1'.heap.size W own.files (by omega) (by have := HNL.out; omega)).mono ?_
        rintro e w8 ⟨ua, uc, xs8, vs8, rfl, own8, hsub, hb8⟩
        have hs8 := hb8.size
        have XO8 := (hb8.block _ (by omega)).trans XO
        have jR8 := (hb8.block _ (by omega)).trans jR
        have hset := fr_setCell w8 w9.heap.size 1 (.slice ua (remF fs nm).length uc)
        have hD : OwnD w8 w1'.heap.size (.slice ua (remF fs nm).length uc) (.slice b9 ps.length d9) (remF fs nm) ps xs8 vs8 ys9 us9 := ⟨own8, own.cache.below hb8, fun g hg hg2 => (hsub g hg).elim (fun x => own.apart g x hg2) (fun x => by have := hlt g (.inr hg2); omega)⟩
        have hp5 := hD.frS hset (fun g e hg => by subst e; exact hg.elim (fun x => (hsub _ x).elim (fun y => by have := hlt _ (.inl y); omega) (fun y => by omega)) (fun x => by have := hlt _ (.inr x); omega))
        have XO5 : (w8.setCell ⟨w9.heap.size, 1, none⟩ (.slice ua (remF fs nm).length uc)).heap[w9.heap.size]? = some (.cells #[.int .i64 0, .slice ua (remF fs nm).length uc, .slice b9 ps.length d9, .int .i64 cp, .int .i64 F, .bool D] 40) := heap_setCell_at XO8 1 (.slice ua (remF fs nm).length uc)
        have jR5 : (w8.setCell ⟨w9.heap.size, 1, none⟩ (.slice ua (remF fs nm).length uc)).heap[(w.heap.size + 1)]? = some (.cells #[.int .i64 0, .slice none 0 0, .slice none 0 0, .int .i64 0, .int .i64 0, .bool false] 40) := (hset.block _ (by omega) (fun e => by omega)).trans jR8
        have hbY : Below w.heap.size w (w8.setCell ⟨w9.heap.size, 1, none⟩ (.slice ua (remF fs nm).length uc)) := (belX.trans (hb8.mono belX.size)).trans (hset.below (by omega) (fun g e => by omega))
        have hsY : (w8.setCell ⟨w9.heap.size, 1, none⟩ (.slice ua (remF fs nm).length uc)).heap.size = w8.heap.size := by simp [World.setCell]
        have HR : Hid (ResAt w (.returned (.agg #[.int .i64 0, .slice ua (remF fs nm).length uc, .slice b9 ps.length d9, .int .i64 cp, .int .i64 F, .bool D])) (put6R (w8.setCell ⟨w9.heap.size, 1, none⟩ (.slice ua (remF fs nm).length uc)) (w.heap.size + 1) (.int .i64 0) (.slice ua (remF fs nm).length uc) (.slice b9 ps.length d9) (.int .i64 cp) (.int .i64 F) (.bool D)) 0 (remF fs nm) ps cp F D) := ResAt.mk6 (by omega) (base := w1'.heap.size) hp5 (by omega) (by omega) hbY
        have HB := put6R_box jR5 (.int .i64 0) (.slice ua (remF fs nm).length uc) (.slice b9 ps.length d9) (.int .i64 cp) (.int .i64 F) (.bool D)
        obtain ⟨y0, y1, y2, y3, y4, y5⟩ := box_sixR XO8
        have fo := box_thawC XO8
        obtain ⟨r0, r1, r2, r3, r4, r5⟩ := box_sixR jR8
        have ff := box_thawC jR8
        have hN8 : w9.heap.size < w8.heap.size := by omega
        have hR8 : w.heap.size + 1 < w8.heap.size := by omega
        have hNR : w.heap.size + 1 < w9.heap.size := by omega
        clear hp5 hD hset hbY jR5 XO5 jR8 XO8 own own8 hlt hsub XO jR hb8 belX
        go_wp2
        show bodyPost _ _ _ _ _ (put6R (w8.setCell ⟨w9.heap.size, 1, none⟩ (.slice ua (remF fs nm).length uc)) (w.heap.size + 1) (.int .i64 0) (.slice ua (remF fs nm).length uc) (.slice b9 ps.length d9) (.int .i64 cp) (.int .i64 F) (.bool D))
        clear r0 r1 r2 r3 r4 r5
        obtain ⟨r0, r1, r2, r3, r4, r5⟩ := box_sixR HB
        exact bodyPost_ret (v := .agg #[.int .i64 0, .slice ua (remF fs nm).length uc, .slice b9 ps.length d9, .int .i64 cp, .int .i64 F, .bool D]) (by simp [results, Try.results24, go_sem, r0, r1, r2, r3, r4, r5]) rfl (by rw [HW.out, HX.out.1, HX.out.2.1, HX.out.2.2.1, HX.out.2.2.2.1, HX.out.2.2.2.2]; exact HR.out)
end Go.Proofs.Ytmmdkjeoadlikaa
