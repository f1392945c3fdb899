import Derived.Test.YtakdaandbdbdnaaGAL
import Derived.Test.YtakdaandbdbdnaaGAM
import Derived.Test.YtakdaandbdbdnaaGAP
import Derived.Test.YtakdaandbdbdnaaGAT
namespace Go.Proofs.Ytakdaandbdbdnaa
open Go.RowKit
set_option linter.unusedVariables false
set_option maxRecDepth 100000

set_option maxHeartbeats 3200000 in
theorem deviceStepS_any (a : Option Addr) (n c : Nat) (fs gs : List PF) (b : Option Addr) (m d : Nat) (ps qs : List PP) (cp fu : Int) (de : Bool) (rf : Int) (w : World) (A B : Nat) (hB : B ≤ w.heap.size)
    (hF : FilesAt w A B a n c fs) (hP : PendsAt w A B b m d ps) (hn : n ≤ 1048576) (hm : m ≤ 1048576) (hall : ∀ j, j < n → (fs.getD j (ByteArray.empty, [])).2.length ≤ 1048576) (hall2 : ∀ j, j < m → (ps.getD j (ByteArray.empty, 0, [])).2.2.length ≤ 1048576) (hfu : -9223372036854775808 ≤ fu ∧ fu ≤ 9223372036854775807)
    (hC : rf = 0 → ChangeOk 54 #[] w fs gs ps qs cp de) :
    Calls Try.prog 36 #[.agg #[.slice a n c, .slice b m d, .int .i64 cp, .int .i64 fu, .bool de], .int .i64 rf, .func (.func 54) #[] #[]] w fun e w' => ResAt w e w' (dsE rf fu) (dsX rf fu fs gs) (dsX rf fu ps qs) cp (dsF rf fu) (dsD rf fu de) := by
  have HF : Hid (∀ W, Below w.heap.size w W → FilesAt W A B a n c fs) := fun W hW => hF.below (hW.mono hB)
  have HP : Hid (∀ W, Below w.heap.size w W → PendsAt W A B b m d ps) := fun W hW => hP.below (hW.mono hB)
  have HA : Hid (∀ j, j < n → (fs.getD j (ByteArray.empty, [])).2.length ≤ 1048576) := hall
  have HA2 : Hid (∀ j, j < m → (ps.getD j (ByteArray.empty, 0, [])).2.2.length ≤ 1048576) := hall2
  have HC : Hid (rf = 0 → ChangeOk 54 #[] w fs gs ps qs cp de) := hC
  clear hF hP hall hall2 hC
  go_enter Try.func36, Try.ntmps36
  go_wp2_with fail
  have hs0 : ((w.alloc (.cells #[.slice a n c, .slice b m d, .int .i64 cp, .int .i64 fu, .bool de] 26)).alloc (.cells #[.int .i64 0, .slice none 0 0, .slice none 0 0, .int .i64 0, .int .i64 0, .bool false] 30)).heap.size = w.heap.size + 2 := by simp
  have hb0 : Below w.heap.size w ((w.alloc (.cells #[.slice a n c, .slice b m d, .int .i64 cp, .int .i64 fu, .bool de] 26)).alloc (.cells #[.int .i64 0, .slice none 0 0, .slice none 0 0, .int .i64 0, .int .i64 0, .bool false] 30)) := ((Below.refl _ _).alloc (Nat.le_refl _) _).alloc (by simp) _
  have k0 : ((w.alloc (.cells #[.slice a n c, .slice b m d, .int .i64 cp, .int .i64 fu, .bool de] 26)).alloc (.cells #[.int .i64 0, .slice none 0 0, .slice none 0 0, .int .i64 0, .int .i64 0, .bool false] 30)).heap[w.heap.size]? = some (.cells #[.slice a n c, .slice b m d, .int .i64 cp, .int .i64 fu, .bool de] 26) := by rw [heap_alloc_old _ _ (by simp)]; exact heap_alloc_new _ _
  have k1 : ((w.alloc (.cells #[.slice a n c, .slice b m d, .int .i64 cp, .int .i64 fu, .bool de] 26)).alloc (.cells #[.int .i64 0, .slice none 0 0, .slice none 0 0, .int .i64 0, .int .i64 0, .bool false] 30)).heap[w.heap.size + 1]? = some (.cells #[.int .i64 0, .slice none 0 0, .slice none 0 0, .int .i64 0, .int .i64 0, .bool false] 30) := by have := heap_alloc_new (w.alloc (.cells #[.slice a n c, .slice b m d, .int .i64 cp, .int .i64 fu, .bool de] 26)) (.cells #[.int .i64 0, .slice none 0 0, .slice none 0 0, .int .i64 0, .int .i64 0, .bool false] 30); simpa using this
  generalize ((w.alloc (.cells #[.slice a n c, .slice b m d, .int .i64 cp, .int .i64 fu, .bool de] 26)).alloc (.cells #[.int .i64 0, .slice none 0 0, .slice none 0 0, .int .i64 0, .int .i64 0, .bool false] 30)) = W0 at hs0 hb0 k0 k1 ⊢
  refine (copyDisk_any a n c fs b m d ps cp fu de W0 A B (by omega) (HF.out W0 hb0) (HP.out W0 hb0) hn hm HA.out HA2.out).mono ?_
  rintro e w1 ⟨v, u, xs, vs, ys, us, rfl, hO1, hb1⟩
  obtain ⟨⟨a1, c1, rfl⟩, b1, d1, rfl⟩ := hO1.shape
  have hs1 := hb1.size
  have j0 := (hb1.block w.heap.size (by omega)).trans k0
  have j1 := (hb1.block (w.heap.size + 1) (by omega)).trans k1
  have bel1 : Below w.heap.size w w1 := hb0.trans (hb1.mono (by omega))
  rw [hs0] at hO1 hs1
  clear hb0 k0 k1 hb1 hs0 HF HP HA HA2
  obtain ⟨r0, r1, r2, r3, r4, r5⟩ := box_sixR j1
  have ff := box_thawC j1
  have hl0 : w.heap.size < w1.heap.size := by omega
  have hl1 : w.heap.size + 1 < w1.heap.size := by omega
  by_cases hrf : rf = 0
  · have HCL : Hid (ChangeOk 54 #[] w fs gs ps qs cp de) := HC.out hrf
    subst hrf
    clear HC
    by_cases h0 : fu = 0
    · subst h0
      have HB := put6R_box j1 (.int .i64 3) (.slice a1 fs.length c1) (.slice b1 ps.length d1) (.int .i64 cp) (.int .i64 0) (.bool true)
      have hsz : (put6R w1 (w.heap.size + 1) (.int .i64 3) (.slice a1 fs.length c1) (.slice b1 ps.length d1) (.int .i64 cp) (.int .i64 0) (.bool true)).heap.size = w1.heap.size := by simp [put6R, World.setCell]
      have HB2 : ((put6R w1 (w.heap.size + 1) (.int .i64 3) (.slice a1 fs.length c1) (.slice b1 ps.length d1) (.int .i64 cp) (.int .i64 0) (.bool true)).alloc (.cells #[.slice a1 fs.length c1, .slice b1 ps.length d1, .int .i64 cp, .int .i64 0, .bool true] 26)).heap[w.heap.size + 1]? = some (.cells #[.int .i64 3, .slice a1 fs.length c1, .slice b1 ps.length d1, .int .i64 cp, .int .i64 0, .bool true] 30) := (heap_alloc_old _ _ (by rw [hsz]; omega)).trans HB
      have HR0 : ResAt w (.returned (.agg #[.int .i64 3, .slice a1 fs.length c1, .slice b1 ps.length d1, .int .i64 cp, .int .i64 0, .bool true])) (put6R w1 (w.heap.size + 1) (.int .i64 3) (.slice a1 fs.length c1) (.slice b1 ps.length d1) (.int .i64 cp) (.int .i64 0) (.bool true)) 3 fs ps cp 0 true := ResAt.mk6 (by omega) hO1 (by omega) (by omega) bel1
      have HR : Hid (ResAt w (.returned (.agg #[.int .i64 3, .slice a1 fs.length c1, .slice b1 ps.length d1, .int .i64 cp, .int .i64 0, .bool true])) ((put6R w1 (w.heap.size + 1) (.int .i64 3) (.slice a1 fs.length c1) (.slice b1 ps.length d1) (.int .i64 cp) (.int .i64 0) (.bool true)).alloc (.cells #[.slice a1 fs.length c1, .slice b1 ps.length d1, .int .i64 cp, .int .i64 0, .bool true] 26)) 3 fs ps cp 0 true) := HR0.after ((Below.refl _ _).alloc (Nat.le_refl _) _)
      clear HR0 HB hsz hO1 bel1 j0 j1
      go_wp2
      show bodyPost _ _ _ _ _ ((put6R w1 (w.heap.size + 1) (.int .i64 3) (.slice a1 fs.length c1) (.slice b1 ps.length d1) (.int .i64 cp) (.int .i64 0) (.bool true)).alloc (.cells #[.slice a1 fs.length c1, .slice b1 ps.length d1, .int .i64 cp, .int .i64 0, .bool true] 26))
      clear r0 r1 r2 r3 r4 r5 ff
      obtain ⟨r0, r1, r2, r3, r4, r5⟩ := box_sixR HB2
      exact bodyPost_ret (v := .agg #[.int .i64 3, .slice a1 fs.length c1, .slice b1 ps.length d1, .int .i64 cp, .int .i64 0, .bool true]) (by simp [results, Try.results36, go_sem, r0, r1, r2, r3, r4, r5]) rfl (by rw [show dsE 0 0 = 3 from rfl, show dsX 0 0 fs gs = fs from rfl, show dsX 0 0 ps qs = ps from rfl, show dsF 0 0 = 0 from rfl, show dsD 0 0 de = true from rfl]; exact HR.out)
    · have h0x : (fu == 0) = false := by simp [h0]
      by_cases h1 : 0 < fu
      · have hal : Below w1.heap.size w1 (w1.alloc (.cells #[.slice a1 fs.length c1, .slice b1 ps.length d1, .int .i64 cp, .int .i64 (fu - 1), .bool de] 26)) := (Below.refl _ _).alloc (Nat.le_refl _) _
        have o2 := heap_alloc_new w1 (.cells #[.slice a1 fs.length c1, .slice b1 ps.length d1, .int .i64 cp, .int .i64 (fu - 1), .bool de] 26)
        have i1 := (hal.block (w.heap.size + 1) (by omega)).trans j1
        have hO2 := hO1.below hal
        have bel2 := bel1.trans (hal.mono bel1.size)
        have hs2 : w1.heap.size < (w1.alloc (.cells #[.slice a1 fs.length c1, .slice b1 ps.length d1, .int .i64 cp, .int .i64 (fu - 1), .bool de] 26)).heap.size := (Array.getElem?_eq_some_iff.1 o2).1
        have HO1 : Hid (∀ g, Blk (.slice a1 fs.length c1) vs g ∨ Blk (.slice b1 ps.length d1) us g → w.heap.size + 2 ≤ g ∧ g < w1.heap.size) := fun g hg => hO1.blk hg
        have HBL : Hid (Below w.heap.size w (w1.alloc (.cells #[.slice a1 fs.length c1, .slice b1 ps.length d1, .int .i64 cp, .int .i64 (fu - 1), .bool de] 26))) := bel2
        have HO2 : Hid (OwnD (w1.alloc (.cells #[.slice a1 fs.length c1, .slice b1 ps.length d1, .int .i64 cp, .int .i64 (fu - 1), .bool de] 26)) (w.heap.size + 2) (.slice a1 fs.length c1) (.slice b1 ps.length d1) fs ps xs vs ys us) := hO2
        clear hO1 hO2 bel1 bel2 hal
        go_wp2_with fail
        generalize w1.alloc (.cells #[.slice a1 fs.length c1, .slice b1 ps.length d1, .int .i64 cp, .int .i64 (fu - 1), .bool de] 26) = W1 at o2 i1 hs2 HBL HO2 ⊢
        refine (HCL.out W1 w1.heap.size (fu - 1) a1 c1 b1 d1 xs vs ys us HBL.out (by omega) o2 HO2.out (fun g hg => (HO1.out g hg).2)).mono ?_
        rintro e w2 ⟨rfl, gs, qs, a2, c2, b2, d2, xs2, vs2, ys2, us2, ⟨rfl, rfl⟩, o3, hO3, hF3⟩
        have i3 := (hF3.block (w.heap.size + 1) (by omega) (fun e => by rcases e with e | e; (omega); (have := HO1.out _ e; omega))).trans i1
        have bel3 : Below w.heap.size w w2 := HBL.out.trans (hF3.below (by omega) (fun g e => by rcases e with e | e; (omega); (have := HO1.out _ e; omega)))
        have hs3 := hF3.size
        clear r0 r1 r2 r3 r4 r5 ff
        obtain ⟨r0, r1, r2, r3, r4, r5⟩ := box_sixR i3
        have ff := box_thawC i3
        obtain ⟨t0, t1, t2, t3, t4⟩ := box_fiveC o3
        have HB := put6R_box i3 (.int .i64 0) (.slice a2 gs.length c2) (.slice b2 qs.length d2) (.int .i64 cp) (.int .i64 (fu - 1)) (.bool de)
        have HR : Hid (ResAt w (.returned (.agg #[.int .i64 0, .slice a2 gs.length c2, .slice b2 qs.length d2, .int .i64 cp, .int .i64 (fu - 1), .bool de])) (put6R w2 (w.heap.size + 1) (.int .i64 0) (.slice a2 gs.length c2) (.slice b2 qs.length d2) (.int .i64 cp) (.int .i64 (fu - 1)) (.bool de)) 0 gs qs cp (fu - 1) de) := ResAt.mk6 (by omega) hO3 (by omega) (by omega) bel3
        clear hO3 bel3 hF3 i1 o2 o3 i3 HBL HO2 HO1
        go_wp2
        show bodyPost _ _ _ _ _ (put6R w2 (w.heap.size + 1) (.int .i64 0) (.slice a2 gs.length c2) (.slice b2 qs.length d2) (.int .i64 cp) (.int .i64 (fu - 1)) (.bool de))
        clear r0 r1 r2 r3 r4 r5 ff
        obtain ⟨r0, r1, r2, r3, r4, r5⟩ := box_sixR HB
        exact bodyPost_ret (v := .agg #[.int .i64 0, .slice a2 gs.length c2, .slice b2 qs.length d2, .int .i64 cp, .int .i64 (fu - 1), .bool de]) (by simp [results, Try.results36, go_sem, r0, r1, r2, r3, r4, r5]) rfl (by rw [show dsE 0 fu = 0 from if_neg h0, show dsX 0 fu fs gs = gs from if_pos ⟨rfl, h0⟩, show dsX 0 fu ps qs = qs from if_pos ⟨rfl, h0⟩, show dsF 0 fu = fu - 1 by (rw [dsF, if_pos rfl, spF, if_pos (by omega)]), show dsD 0 fu de = de from if_neg h0]; exact HR.out)
      · have h1x : decide (0 < fu) = false := decide_eq_false h1
        have hal : Below w1.heap.size w1 (w1.alloc (.cells #[.slice a1 fs.length c1, .slice b1 ps.length d1, .int .i64 cp, .int .i64 fu, .bool de] 26)) := (Below.refl _ _).alloc (Nat.le_refl _) _
        have o2 := heap_alloc_new w1 (.cells #[.slice a1 fs.length c1, .slice b1 ps.length d1, .int .i64 cp, .int .i64 fu, .bool de] 26)
        have i1 := (hal.block (w.heap.size + 1) (by omega)).trans j1
        have hO2 := hO1.below hal
        have bel2 := bel1.trans (hal.mono bel1.size)
        have hs2 : w1.heap.size < (w1.alloc (.cells #[.slice a1 fs.length c1, .slice b1 ps.length d1, .int .i64 cp, .int .i64 fu, .bool de] 26)).heap.size := (Array.getElem?_eq_some_iff.1 o2).1
        have HO1 : Hid (∀ g, Blk (.slice a1 fs.length c1) vs g ∨ Blk (.slice b1 ps.length d1) us g → w.heap.size + 2 ≤ g ∧ g < w1.heap.size) := fun g hg => hO1.blk hg
        have HBL : Hid (Below w.heap.size w (w1.alloc (.cells #[.slice a1 fs.length c1, .slice b1 ps.length d1, .int .i64 cp, .int .i64 fu, .bool de] 26))) := bel2
        have HO2 : Hid (OwnD (w1.alloc (.cells #[.slice a1 fs.length c1, .slice b1 ps.length d1, .int .i64 cp, .int .i64 fu, .bool de] 26)) (w.heap.size + 2) (.slice a1 fs.length c1) (.slice b1 ps.length d1) fs ps xs vs ys us) := hO2
        clear hO1 hO2 bel1 bel2 hal
        go_wp2_with fail
        generalize w1.alloc (.cells #[.slice a1 fs.length c1, .slice b1 ps.length d1, .int .i64 cp, .int .i64 fu, .bool de] 26) = W1 at o2 i1 hs2 HBL HO2 ⊢
        refine (HCL.out W1 w1.heap.size fu a1 c1 b1 d1 xs vs ys us HBL.out (by omega) o2 HO2.out (fun g hg => (HO1.out g hg).2)).mono ?_
        rintro e w2 ⟨rfl, gs, qs, a2, c2, b2, d2, xs2, vs2, ys2, us2, ⟨rfl, rfl⟩, o3, hO3, hF3⟩
        have i3 := (hF3.block (w.heap.size + 1) (by omega) (fun e => by rcases e with e | e; (omega); (have := HO1.out _ e; omega))).trans i1
        have bel3 : Below w.heap.size w w2 := HBL.out.trans (hF3.below (by omega) (fun g e => by rcases e with e | e; (omega); (have := HO1.out _ e; omega)))
        have hs3 := hF3.size
        clear r0 r1 r2 r3 r4 r5 ff
        obtain ⟨r0, r1, r2, r3, r4, r5⟩ := box_sixR i3
        have ff := box_thawC i3
        obtain ⟨t0, t1, t2, t3, t4⟩ := box_fiveC o3
        have HB := put6R_box i3 (.int .i64 0) (.slice a2 gs.length c2) (.slice b2 qs.length d2) (.int .i64 cp) (.int .i64 fu) (.bool de)
        have HR : Hid (ResAt w (.returned (.agg #[.int .i64 0, .slice a2 gs.length c2, .slice b2 qs.length d2, .int .i64 cp, .int .i64 fu, .bool de])) (put6R w2 (w.heap.size + 1) (.int .i64 0) (.slice a2 gs.length c2) (.slice b2 qs.length d2) (.int .i64 cp) (.int .i64 fu) (.bool de)) 0 gs qs cp fu de) := ResAt.mk6 (by omega) hO3 (by omega) (by omega) bel3
        clear hO3 bel3 hF3 i1 o2 o3 i3 HBL HO2 HO1
        go_wp2
        show bodyPost _ _ _ _ _ (put6R w2 (w.heap.size + 1) (.int .i64 0) (.slice a2 gs.length c2) (.slice b2 qs.length d2) (.int .i64 cp) (.int .i64 fu) (.bool de))
        clear r0 r1 r2 r3 r4 r5 ff
        obtain ⟨r0, r1, r2, r3, r4, r5⟩ := box_sixR HB
        exact bodyPost_ret (v := .agg #[.int .i64 0, .slice a2 gs.length c2, .slice b2 qs.length d2, .int .i64 cp, .int .i64 fu, .bool de]) (by simp [results, Try.results36, go_sem, r0, r1, r2, r3, r4, r5]) rfl (by rw [show dsE 0 fu = 0 from if_neg h0, show dsX 0 fu fs gs = gs from if_pos ⟨rfl, h0⟩, show dsX 0 fu ps qs = qs from if_pos ⟨rfl, h0⟩, show dsF 0 fu = fu by (rw [dsF, if_pos rfl, spF, if_neg (by omega)]), show dsD 0 fu de = de from if_neg h0]; exact HR.out)
  · have hrx : (rf != 0) = true := by simp [hrf]
    have HB := put6R_box j1 (.int .i64 rf) (.slice a1 fs.length c1) (.slice b1 ps.length d1) (.int .i64 cp) (.int .i64 fu) (.bool de)
    have hsz : (put6R w1 (w.heap.size + 1) (.int .i64 rf) (.slice a1 fs.length c1) (.slice b1 ps.length d1) (.int .i64 cp) (.int .i64 fu) (.bool de)).heap.size = w1.heap.size := by simp [put6R, World.setCell]
    have HB2 : ((put6R w1 (w.heap.size + 1) (.int .i64 rf) (.slice a1 fs.length c1) (.slice b1 ps.length d1) (.int .i64 cp) (.int .i64 fu) (.bool de)).alloc (.cells #[.slice a1 fs.length c1, .slice b1 ps.length d1, .int .i64 cp, .int .i64 fu, .bool de] 26)).heap[w.heap.size + 1]? = some (.cells #[.int .i64 rf, .slice a1 fs.length c1, .slice b1 ps.length d1, .int .i64 cp, .int .i64 fu, .bool de] 30) := (heap_alloc_old _ _ (by rw [hsz]; omega)).trans HB
    have HR0 : ResAt w (.returned (.agg #[.int .i64 rf, .slice a1 fs.length c1, .slice b1 ps.length d1, .int .i64 cp, .int .i64 fu, .bool de])) (put6R w1 (w.heap.size + 1) (.int .i64 rf) (.slice a1 fs.length c1) (.slice b1 ps.length d1) (.int .i64 cp) (.int .i64 fu) (.bool de)) rf fs ps cp fu de := ResAt.mk6 (by omega) hO1 (by omega) (by omega) bel1
    have HR : Hid (ResAt w (.returned (.agg #[.int .i64 rf, .slice a1 fs.length c1, .slice b1 ps.length d1, .int .i64 cp, .int .i64 fu, .bool de])) ((put6R w1 (w.heap.size + 1) (.int .i64 rf) (.slice a1 fs.length c1) (.slice b1 ps.length d1) (.int .i64 cp) (.int .i64 fu) (.bool de)).alloc (.cells #[.slice a1 fs.length c1, .slice b1 ps.length d1, .int .i64 cp, .int .i64 fu, .bool de] 26)) rf fs ps cp fu de) := HR0.after ((Below.refl _ _).alloc (Nat.le_refl _) _)
    clear HR0 HB hsz hO1 bel1 j0 j1
    go_wp2
    show bodyPost _ _ _ _ _ ((put6R w1 (w.heap.size + 1) (.int .i64 rf) (.slice a1 fs.length c1) (.slice b1 ps.length d1) (.int .i64 cp) (.int .i64 fu) (.bool de)).alloc (.cells #[.slice a1 fs.length c1, .slice b1 ps.length d1, .int .i64 cp, .int .i64 fu, .bool de] 26))
    clear r0 r1 r2 r3 r4 r5 ff
    obtain ⟨r0, r1, r2, r3, r4, r5⟩ := box_sixR HB2
    exact bodyPost_ret (v := .agg #[.int .i64 rf, .slice a1 fs.length c1, .slice b1 ps.length d1, .int .i64 cp, .int .i64 fu, .bool de]) (by simp [results, Try.results36, go_sem, r0, r1, r2, r3, r4, r5]) rfl (by rw [show dsE rf fu = rf from if_neg hrf, show dsX rf fu fs gs = fs from if_neg (fun h => hrf h.1), show dsX rf fu ps qs = ps from if_neg (fun h => hrf h.1), show dsF rf fu = fu from if_neg hrf, show dsD rf fu de = de from if_neg hrf]; exact HR.out)
end Go.Proofs.Ytakdaandbdbdnaa
namespace Go.Proofs.Ytakdaandbdbdnaa
open Go.RowKit Go.Maps
set_option linter.unusedVariables false
set_option maxRecDepth 100000

/-- What the program says to a step on a whole disk: 0 or 1. -/
def rsI (fs : List PF) (ps : List PP) (cp fu : Int) (de : Bool) : Int := if de = false ∧ implV fs ps cp fu = true then 0 else 1
set_option maxHeartbeats 800000 in
theorem refuseStep_any (a : Option Addr) (n c : Nat) (fs : List PF) (b : Option Addr) (m d : Nat) (ps : List PP) (cp fu : Int) (de : Bool) (w : World) (A B : Nat) (hB : B ≤ w.heap.size) (hF : FilesAt w A B a n c fs) (hP : PendsAt w A B b m d ps)
    (hall : ∀ j, j < n → (fs.getD j (ByteArray.empty, [])).2.length ≤ 1048576) :
    Calls Try.prog 53 #[.agg #[.slice a n c, .slice b m d, .int .i64 cp, .int .i64 fu, .bool de]] w fun e w' => e = .returned (.int .i64 (rsI fs ps cp fu de)) ∧ Below w.heap.size w w' := by
  have hb0 : Below w.heap.size w (w.alloc (.cells #[.slice a n c, .slice b m d, .int .i64 cp, .int .i64 fu, .bool de] 26)) := (Below.refl _ _).alloc (Nat.le_refl _) _
  have hcall := implValid_any a n c fs b m d ps cp fu de _ A B (by simp; omega) (hF.below (hb0.mono hB)) (hP.below (hb0.mono hB)) hall
  clear hF hP hall
  cases de with
  | true =>
    have HR : Hid (rsI fs ps cp fu true = 1) := by show _ = _; unfold rsI; rw [if_neg (by simp)]
    clear hcall
    go_enter Try.func53, Try.ntmps53
    go_wp2_with fail
    go_ret
    exact ⟨ret_int HR.out.symm, hb0⟩
  | false =>
    cases hv : implV fs ps cp fu with
    | true =>
      have HR : Hid (rsI fs ps cp fu false = 0) := by show _ = _; unfold rsI; rw [if_pos ⟨rfl, hv⟩]
      rw [hv] at hcall
      clear hv
      go_enter Try.func53, Try.ntmps53
      go_wp2_with fail
      refine hcall.mono ?_
      rintro e w1 ⟨rfl, hb1⟩
      go_wp2_with fail
      go_ret
      exact ⟨ret_int HR.out.symm, hb0.trans (hb1.mono (by simp))⟩
    | false =>
      have HR : Hid (rsI fs ps cp fu false = 1) := by show _ = _; unfold rsI; rw [if_neg (by simp [hv])]
      rw [hv] at hcall
      clear hv
      go_enter Try.func53, Try.ntmps53
      go_wp2_with fail
      refine hcall.mono ?_
      rintro e w1 ⟨rfl, hb1⟩
      go_wp2_with fail
      go_ret
      exact ⟨ret_int HR.out.symm, hb0.trans (hb1.mono (by simp))⟩
end Go.Proofs.Ytakdaandbdbdnaa
namespace Go.Proofs.Ytakdaandbdbdnaa
open Go.RowKit
set_option linter.unusedVariables false
set_option maxRecDepth 100000
theorem two_allocs {w : World} {x0 x1 : Obj} {W0 : World} (h : W0 = (w.alloc x0).alloc x1) : W0.heap.size = w.heap.size + 2 ∧ Below w.heap.size w W0 ∧ W0.heap[w.heap.size]? = some x0 ∧ W0.heap[w.heap.size + 1]? = some x1 := by
  subst h
  have z : ∀ (X : World) (x : Obj), (X.alloc x).heap.size = X.heap.size + 1 := fun X x => by simp
  refine ⟨by simp, ((Below.refl _ _).alloc (Nat.le_refl _) _).alloc (by simp only [z]; omega) _, ?_, ?_⟩
  · rw [heap_alloc_old _ _ (by simp only [z]; omega)]; exact heap_alloc_new _ _
  · have := heap_alloc_new (w.alloc x0) x1; rwa [z] at this
theorem sync_ok {fs : List PF} {ps : List PP} {cp fu : Int} {de : Bool} (h : rsI fs ps cp fu de = 0) (w : World) : ChangeOk 54 #[] w fs (lastF ps fs) ps [] cp de := by
  unfold rsI at h
  split at h
  · rename_i hc
    obtain ⟨q1, q2, q3, q4, q5⟩ := specV_parts (by rw [valid_eq]; exact hc.2)
    have hpm : ps.length ≤ 1000 := by
      have h2 := hc.2
      simp only [implV, Bool.and_eq_true, decide_eq_true_eq] at h2
      exact h2.1.2
    exact syncChange fs ps cp de w q1 hpm q2 q3 q4 q5
  · cases h
set_option maxHeartbeats 1600000 in
theorem implSync_any (a : Option Addr) (n c : Nat) (fs : List PF) (b : Option Addr) (m d : Nat) (ps : List PP) (cp fu : Int) (de : Bool) (w : World) (A B : Nat) (hB : B ≤ w.heap.size) (hF : FilesAt w A B a n c fs) (hP : PendsAt w A B b m d ps) (hfu : -9223372036854775808 ≤ fu ∧ fu ≤ 9223372036854775807)
    (hn : n ≤ 1048576) (hm : m ≤ 1048576) (hall : ∀ j, j < n → (fs.getD j (ByteArray.empty, [])).2.length ≤ 1048576) (hall2 : ∀ j, j < m → (ps.getD j (ByteArray.empty, 0, [])).2.2.length ≤ 1048576) :
    Calls Try.prog 10 #[.agg #[.slice a n c, .slice b m d, .int .i64 cp, .int .i64 fu, .bool de]] w fun e w' => ResAt w e w' (dsE (rsI fs ps cp fu de) fu) (dsX (rsI fs ps cp fu de) fu fs (lastF ps fs)) (dsX (rsI fs ps cp fu de) fu ps []) cp (dsF (rsI fs ps cp fu de) fu) (dsD (rsI fs ps cp fu de) fu de) := by
  have HF : Hid (∀ W, Below w.heap.size w W → FilesAt W A B a n c fs) := fun W hW => hF.below (hW.mono hB)
  have HP : Hid (∀ W, Below w.heap.size w W → PendsAt W A B b m d ps) := fun W hW => hP.below (hW.mono hB)
  have HA : Hid (∀ j, j < n → (fs.getD j (ByteArray.empty, [])).2.length ≤ 1048576) := hall
  have HA2 : Hid (∀ j, j < m → (ps.getD j (ByteArray.empty, 0, [])).2.2.length ≤ 1048576) := hall2
  have HFL : Hid (fs.length = n) := hF.1
  clear hF hP hall hall2
  go_enter Try.func10, Try.ntmps10
  go_wp2_with fail
  obtain ⟨W0, hW0⟩ : ∃ W0, W0 = ((w.alloc (.cells #[.slice a n c, .slice b m d, .int .i64 cp, .int .i64 fu, .bool de] 26)).alloc (.cells #[.int .i64 0, .slice none 0 0, .slice none 0 0, .int .i64 0, .int .i64 0, .bool false] 30)) := ⟨_, rfl⟩
  obtain ⟨hs0, hb0, k0, k2⟩ := two_allocs hW0
  rw [← hW0]
  clear hW0
  have HK2 : Hid (W0.heap[w.heap.size + 1]? = some (.cells #[.int .i64 0, .slice none 0 0, .slice none 0 0, .int .i64 0, .int .i64 0, .bool false] 30)) := k2
  have S0 : (W0.cell? ⟨w.heap.size, 0, none⟩ = some (.slice a n c) ∧ W0.cell? ⟨w.heap.size, 1, none⟩ = some (.slice b m d) ∧ W0.cell? ⟨w.heap.size, 2, none⟩ = some (.int .i64 cp) ∧ W0.cell? ⟨w.heap.size, 3, none⟩ = some (.int .i64 fu) ∧ W0.cell? ⟨w.heap.size, 4, none⟩ = some (.bool de)) := by simp [World.cell?, k0]
  have HSF : Hid (∀ (X Y : World) {F : Nat → Prop}, ((X.cell? ⟨w.heap.size, 0, none⟩ = some (.slice a n c) ∧ X.cell? ⟨w.heap.size, 1, none⟩ = some (.slice b m d) ∧ X.cell? ⟨w.heap.size, 2, none⟩ = some (.int .i64 cp) ∧ X.cell? ⟨w.heap.size, 3, none⟩ = some (.int .i64 fu) ∧ X.cell? ⟨w.heap.size, 4, none⟩ = some (.bool de))) → Fr F X Y → (∀ g, F g → w.heap.size + 1 ≤ g) → (Y.cell? ⟨w.heap.size, 0, none⟩ = some (.slice a n c) ∧ Y.cell? ⟨w.heap.size, 1, none⟩ = some (.slice b m d) ∧ Y.cell? ⟨w.heap.size, 2, none⟩ = some (.int .i64 cp) ∧ Y.cell? ⟨w.heap.size, 3, none⟩ = some (.int .i64 fu) ∧ Y.cell? ⟨w.heap.size, 4, none⟩ = some (.bool de))) := fun X Y F hX hF hB => by
    have q : ∀ (N o : Nat) (v : Value), N < w.heap.size + 1 → X.cell? ⟨N, o, none⟩ = some v → Y.cell? ⟨N, o, none⟩ = some v := fun N o v hN hv => (World.cell?_of_block (hF.block N (World.block_lt_of_cell? X ⟨N, o, none⟩ hv) (fun e => by have := hB N e; omega))).trans hv
    obtain ⟨e0, e1, e2, e3, e4⟩ := hX
    exact ⟨q _ _ _ (by omega) e0, q _ _ _ (by omega) e1, q _ _ _ (by omega) e2, q _ _ _ (by omega) e3, q _ _ _ (by omega) e4⟩
  have HSS : Hid (∀ X, Below W0.heap.size W0 X → (X.cell? ⟨w.heap.size, 0, none⟩ = some (.slice a n c) ∧ X.cell? ⟨w.heap.size, 1, none⟩ = some (.slice b m d) ∧ X.cell? ⟨w.heap.size, 2, none⟩ = some (.int .i64 cp) ∧ X.cell? ⟨w.heap.size, 3, none⟩ = some (.int .i64 fu) ∧ X.cell? ⟨w.heap.size, 4, none⟩ = some (.bool de))) := fun X hX => HSF.out W0 X S0 (Fr.of_below hX (S := fun _ => False)) (fun g e => e.elim)
  clear k0 k2
  refine wp_region_noPanic ?_
  refine wp_region_held_drew (S := (fun w' => (w'.cell? ⟨w.heap.size, 0, none⟩ = some (.slice a n c) ∧ w'.cell? ⟨w.heap.size, 1, none⟩ = some (.slice b m d) ∧ w'.cell? ⟨w.heap.size, 2, none⟩ = some (.int .i64 cp) ∧ w'.cell? ⟨w.heap.size, 3, none⟩ = some (.int .i64 fu) ∧ w'.cell? ⟨w.heap.size, 4, none⟩ = some (.bool de)))) (by kernel_rfl) ?_ (fun hHeld => ?_)
  · exact S0
  refine wpAnyH_take (i := 0) (oi := { dst := some 3, op := Op.load 26 (Operand.tmp 1), type := 26, pos := "l1_disk.go:111", after := #[], guard := none }) (v := ?_) rfl (by kernel_rfl) (by kernel_rfl) (by kernel_rfl) (fun _ _ _ h => h) (Or.inl ⟨by rfl, ?_⟩) (by assumption) ?_
  rotate_left 1
  · intro w hSw; (try dsimp only at hSw); go_simp; try (with_reducible rfl)
  try simp only [Act.put, List.setIfInBounds_toArray, List.set_cons_zero, List.set_cons_succ]
  refine wpAnyH_take (i := 1) (oi := { dst := some 4, op := Op.load 26 (Operand.tmp 1), type := 26, pos := "l1_disk.go:111", after := #[], guard := none }) (v := ?_) rfl (by kernel_rfl) (by kernel_rfl) (by kernel_rfl) (fun _ _ _ h => h) (Or.inl ⟨by rfl, ?_⟩) (by assumption) ?_
  rotate_left 1
  · intro w hSw; (try dsimp only at hSw); go_simp; try (with_reducible rfl)
  try simp only [Act.put, List.setIfInBounds_toArray, List.set_cons_zero, List.set_cons_succ]
  refine wpAnyH_ready (rs := [2]) (by kernel_rfl) (by simp) ?_
  refine AllReadyH.cons (o := { dst := some 5, op := Op.call { callee := Callee.value (Operand.func 53), args := #[Operand.tmp 4], argTypes := #[26] }, type := 2, pos := "l1_disk.go:111", after := #[{ on := 1, ground := Ground.data }], guard := none }) rfl (fun K hK => ?_) ?_
  rotate_left 1
  exact AllReadyH.nil
  · go_simp
    refine (refuseStep_any a n c fs b m d ps cp fu de W0.drew A B (by show B ≤ W0.heap.size; omega) (HF.out _ hb0.drew) (HP.out _ hb0.drew) HA.out).mono ?_
    rintro e w1 ⟨rfl, hb1x⟩
    have hb1 : Below W0.heap.size W0 w1 := ((Below.refl _ W0).drew).trans hb1x
    have hs1 := hb1.size
    have bel1 : Below w.heap.size w w1 := hb0.trans (hb1.mono (by omega))
    have S1 := HSS.out w1 hb1
    have kR := (hb1.block _ (by omega)).trans HK2.out
    obtain ⟨rf, hrf⟩ : ∃ rf, rf = rsI fs ps cp fu de := ⟨_, rfl⟩
    rw [← hrf]
    have HRF : Hid (rf = rsI fs ps cp fu de) := hrf
    clear hrf hb1x
    go_wp2_with fail
    refine hK.out _ _ S1 (fun hHeld => ?_)
    clear hK K
    try simp only [Act.put, List.setIfInBounds_toArray, List.set_cons_zero, List.set_cons_succ]
    refine wpAnyH_ready (rs := [3]) (by kernel_rfl) (by simp) ?_
    refine AllReadyH.cons (o := { dst := some 6, op := Op.call { callee := Callee.value (Operand.func 36), args := #[Operand.tmp 3, Operand.tmp 5, Operand.func 54], argTypes := #[26, 2, 72] }, type := 30, pos := "l1_disk.go:111", after := #[{ on := 0, ground := Ground.data }, { on := 2, ground := Ground.data }, { on := 2, ground := Ground.chain }], guard := none }) rfl (fun K hK => ?_) ?_
    rotate_left 1
    exact AllReadyH.nil
    · go_simp
      refine (deviceStepS_any a n c fs (lastF ps fs) b m d ps [] cp fu de rf w1 A B (by omega) (HF.out _ bel1) (HP.out _ bel1) hn hm HA.out HA2.out hfu (fun h => sync_ok (HRF.out.symm.trans h) w1)).mono ?_
      rintro e w2 hres
      obtain ⟨a2, c2, b2, d2, xs, vs, ys, us, rfl, hO2, hb2⟩ := hres.out
      have hs2 := hb2.size
      have S2 := HSS.out w2 (hb1.trans (hb2.mono hs1))
      have kR2 := (hb2.block _ (by omega)).trans kR
      have HR : Hid (ResAt w (.returned (.agg #[.int .i64 (dsE rf fu), .slice a2 (dsX rf fu fs (lastF ps fs)).length c2, .slice b2 (dsX rf fu ps []).length d2, .int .i64 cp, .int .i64 (dsF rf fu), .bool (dsD rf fu de)])) (put6R w2 (w.heap.size + 1) (.int .i64 (dsE rf fu)) (.slice a2 (dsX rf fu fs (lastF ps fs)).length c2) (.slice b2 (dsX rf fu ps []).length d2) (.int .i64 cp) (.int .i64 (dsF rf fu)) (.bool (dsD rf fu de))) (dsE rf fu) (dsX rf fu fs (lastF ps fs)) (dsX rf fu ps []) cp (dsF rf fu) (dsD rf fu de)) := ResAt.mk6 (by omega) (base := w1.heap.size) hO2 (by omega) (by omega) (bel1.trans (hb2.mono bel1.size))
      clear hres hO2
      go_wp2_with fail
      refine hK.out _ _ S2 (fun hHeld => ?_)
      clear hK K
      try simp only [Act.put, List.setIfInBounds_toArray, List.set_cons_zero, List.set_cons_succ]
      refine wpAnyH_ready (rs := [4]) (by kernel_rfl) (by simp) ?_
      refine AllReadyH.cons (o := { dst := none, op := Op.store 30 (Operand.tmp 2) (Operand.tmp 6), type := 0, pos := "l1_disk.go:111", after := #[{ on := 3, ground := Ground.data }, { on := 3, ground := Ground.chain }, { on := 0, ground := Ground.phase }, { on := 1, ground := Ground.phase }, { on := 2, ground := Ground.phase }, { on := 3, ground := Ground.phase }], guard := none }) rfl (fun K hK => ?_) ?_
      rotate_left 1
      exact AllReadyH.nil
      · obtain ⟨r0, r1, r2, r3, r4, r5⟩ := box_sixR kR2
        have ff := box_thawC kR2
        have HB := put6R_box kR2 (.int .i64 (dsE rf fu)) (.slice a2 (dsX rf fu fs (lastF ps fs)).length c2) (.slice b2 (dsX rf fu ps []).length d2) (.int .i64 cp) (.int .i64 (dsF rf fu)) (.bool (dsD rf fu de))
        have S3 : ((put6R w2 (w.heap.size + 1) (.int .i64 (dsE rf fu)) (.slice a2 (dsX rf fu fs (lastF ps fs)).length c2) (.slice b2 (dsX rf fu ps []).length d2) (.int .i64 cp) (.int .i64 (dsF rf fu)) (.bool (dsD rf fu de))).cell? ⟨w.heap.size, 0, none⟩ = some (.slice a n c) ∧ (put6R w2 (w.heap.size + 1) (.int .i64 (dsE rf fu)) (.slice a2 (dsX rf fu fs (lastF ps fs)).length c2) (.slice b2 (dsX rf fu ps []).length d2) (.int .i64 cp) (.int .i64 (dsF rf fu)) (.bool (dsD rf fu de))).cell? ⟨w.heap.size, 1, none⟩ = some (.slice b m d) ∧ (put6R w2 (w.heap.size + 1) (.int .i64 (dsE rf fu)) (.slice a2 (dsX rf fu fs (lastF ps fs)).length c2) (.slice b2 (dsX rf fu ps []).length d2) (.int .i64 cp) (.int .i64 (dsF rf fu)) (.bool (dsD rf fu de))).cell? ⟨w.heap.size, 2, none⟩ = some (.int .i64 cp) ∧ (put6R w2 (w.heap.size + 1) (.int .i64 (dsE rf fu)) (.slice a2 (dsX rf fu fs (lastF ps fs)).length c2) (.slice b2 (dsX rf fu ps []).length d2) (.int .i64 cp) (.int .i64 (dsF rf fu)) (.bool (dsD rf fu de))).cell? ⟨w.heap.size, 3, none⟩ = some (.int .i64 fu) ∧ (put6R w2 (w.heap.size + 1) (.int .i64 (dsE rf fu)) (.slice a2 (dsX rf fu fs (lastF ps fs)).length c2) (.slice b2 (dsX rf fu ps []).length d2) (.int .i64 cp) (.int .i64 (dsF rf fu)) (.bool (dsD rf fu de))).cell? ⟨w.heap.size, 4, none⟩ = some (.bool de)) := HSF.out _ _ S2 (put6R_fr _ _ _ _ _ _ _ _) (fun g e => by omega)
        go_simp
        clear r0 r1 r2 r3 r4 r5
        refine hK.out _ _ S3 (fun hHeld => ?_)
        clear hK K
        try simp only [Act.put, List.setIfInBounds_toArray, List.set_cons_zero, List.set_cons_succ]
        refine wpAnyH_done (by kernel_rfl) ?_ _
        refine NoPanic.normal ?_
        go_wp2
        show bodyPost _ _ _ _ _ (put6R w2 (w.heap.size + 1) (.int .i64 (dsE rf fu)) (.slice a2 (dsX rf fu fs (lastF ps fs)).length c2) (.slice b2 (dsX rf fu ps []).length d2) (.int .i64 cp) (.int .i64 (dsF rf fu)) (.bool (dsD rf fu de)))
        obtain ⟨r0, r1, r2, r3, r4, r5⟩ := box_sixR HB
        exact bodyPost_ret (v := .agg #[.int .i64 (dsE rf fu), .slice a2 (dsX rf fu fs (lastF ps fs)).length c2, .slice b2 (dsX rf fu ps []).length d2, .int .i64 cp, .int .i64 (dsF rf fu), .bool (dsD rf fu de)]) (by simp [results, Try.results10, go_sem, r0, r1, r2, r3, r4, r5]) rfl (by rw [← HRF.out]; exact HR.out)
end Go.Proofs.Ytakdaandbdbdnaa
namespace Go.Proofs.Ytakdaandbdbdnaa
open Go.RowKit
set_option linter.unusedVariables false
set_option maxRecDepth 100000
theorem rsI_bad {fs : List PF} {ps : List PP} {cp fu : Int} {de : Bool} (h : ¬ (de = false ∧ implV fs ps cp fu = true)) : rsI fs ps cp fu de = 1 := by unfold rsI; rw [if_neg h]
set_option maxHeartbeats 3200000 in
theorem specSync_any (a : Option Addr) (n c : Nat) (fs : List PF) (b : Option Addr) (m d : Nat) (ps : List PP) (cp fu : Int) (de : Bool) (w : World) (A B : Nat) (hB : B ≤ w.heap.size) (hF : FilesAt w A B a n c fs) (hP : PendsAt w A B b m d ps) (hfu : -9223372036854775808 ≤ fu ∧ fu ≤ 9223372036854775807)
    (hn : n ≤ 1048576) (hm : m ≤ 1048576) (hall : ∀ j, j < n → (fs.getD j (ByteArray.empty, [])).2.length ≤ 1048576) (hall2 : ∀ j, j < m → (ps.getD j (ByteArray.empty, 0, [])).2.2.length ≤ 1048576) :
    Calls Try.prog 16 #[.agg #[.slice a n c, .slice b m d, .int .i64 cp, .int .i64 fu, .bool de]] w fun e w' => ResAt w e w' (dsE (rsI fs ps cp fu de) fu) (dsX (rsI fs ps cp fu de) fu fs (lastF ps fs)) (dsX (rsI fs ps cp fu de) fu ps []) cp (dsF (rsI fs ps cp fu de) fu) (dsD (rsI fs ps cp fu de) fu de) := by
  have HF : Hid (∀ W, Below w.heap.size w W → FilesAt W A B a n c fs) := fun W hW => hF.below (hW.mono hB)
  have HP : Hid (∀ W, Below w.heap.size w W → PendsAt W A B b m d ps) := fun W hW => hP.below (hW.mono hB)
  have HA : Hid (∀ j, j < n → (fs.getD j (ByteArray.empty, [])).2.length ≤ 1048576) := hall
  have HA2 : Hid (∀ j, j < m → (ps.getD j (ByteArray.empty, 0, [])).2.2.length ≤ 1048576) := hall2
  have HML : Hid (ps.length = m) := hP.1
  have HNL : Hid (fs.length = n) := hF.1
  clear hF hP hall hall2
  go_enter Try.func16, Try.ntmps16
  go_wp2_with fail
  obtain ⟨W0, hW0⟩ : ∃ W0, W0 = (w.alloc (.cells #[.slice a n c, .slice b m d, .int .i64 cp, .int .i64 fu, .bool de] 26)).alloc (.cells #[.int .i64 0, .slice none 0 0, .slice none 0 0, .int .i64 0, .int .i64 0, .bool false] 30) := ⟨_, rfl⟩
  have hs0 : W0.heap.size = w.heap.size + 2 := by rw [hW0]; simp
  have hb0 : Below w.heap.size w W0 := by rw [hW0]; exact ((Below.refl _ _).alloc (Nat.le_refl _) _).alloc (by simp) _
  have k0 : W0.heap[w.heap.size]? = some (.cells #[.slice a n c, .slice b m d, .int .i64 cp, .int .i64 fu, .bool de] 26) := by rw [hW0, heap_alloc_old _ _ (by simp)]; exact heap_alloc_new _ _
  have k1 : W0.heap[w.heap.size + 1]? = some (.cells #[.int .i64 0, .slice none 0 0, .slice none 0 0, .int .i64 0, .int .i64 0, .bool false] 30) := by rw [hW0]; have := heap_alloc_new (w.alloc (.cells #[.slice a n c, .slice b m d, .int .i64 cp, .int .i64 fu, .bool de] 26)) (.cells #[.int .i64 0, .slice none 0 0, .slice none 0 0, .int .i64 0, .int .i64 0, .bool false] 30); simpa using this
  rw [← hW0]
  clear hW0
  refine (l1Live_any a n c fs b m d ps cp fu de W0 A B (by omega) (HF.out _ hb0) (HP.out _ hb0) HA.out).mono ?_
  rintro e w1 ⟨rfl, hb1⟩
  have hs1 := hb1.size
  have bel1 : Below w.heap.size w w1 := hb0.trans (hb1.mono (by omega))
  have jD1 := (hb1.block w.heap.size (by omega)).trans k0
  have jR1 := (hb1.block (w.heap.size + 1) (by omega)).trans k1
  clear k0 k1 hb0 hb1
  obtain ⟨x0, x1, x2, x3, x4⟩ := boxW5 jD1
  have hlD : w.heap.size < w1.heap.size := by omega
  cases hv : (specV fs ps cp fu && !de) with
  | false =>
    have HW : Hid (rsI fs ps cp fu de = 1) := rsI_bad (fun h => by rw [valid_eq, h.2, h.1] at hv; cases hv)
    clear hv
    go_wp2_with fail
    refine (l1Bad_any a n c fs b m d ps cp fu de w1 A B (by omega) (HF.out _ bel1) (HP.out _ bel1) hn hm HA.out HA2.out).mono ?_
    rintro e w9 hres
    obtain ⟨a9, c9, b9, d9, xs9, vs9, ys9, us9, rfl, hO9, hb9⟩ := hres.out
    clear hres
    have jR := (hb9.block (w.heap.size + 1) (by omega)).trans jR1
    have hs9 := hb9.size
    obtain ⟨r0, r1, r2, r3, r4, r5⟩ := box_sixR jR
    have ff := box_thawC jR
    have HB := put6R_box jR (.int .i64 1) (.slice a9 fs.length c9) (.slice b9 ps.length d9) (.int .i64 cp) (.int .i64 fu) (.bool de)
    have HR : Hid (ResAt w (.returned (.agg #[.int .i64 1, .slice a9 fs.length c9, .slice b9 ps.length d9, .int .i64 cp, .int .i64 fu, .bool de])) (put6R w9 (w.heap.size + 1) (.int .i64 1) (.slice a9 fs.length c9) (.slice b9 ps.length d9) (.int .i64 cp) (.int .i64 fu) (.bool de)) 1 fs ps cp fu de) := ResAt.mk6 (by omega) (base := w1.heap.size) hO9 (by omega) (by omega) (bel1.trans (hb9.mono bel1.size))
    clear hO9 hb9 jR jR1 jD1
    go_wp2
    show bodyPost _ _ _ _ _ (put6R w9 (w.heap.size + 1) (.int .i64 1) (.slice a9 fs.length c9) (.slice b9 ps.length d9) (.int .i64 cp) (.int .i64 fu) (.bool de))
    clear r0 r1 r2 r3 r4 r5
    obtain ⟨r0, r1, r2, r3, r4, r5⟩ := box_sixR HB
    exact bodyPost_ret (v := .agg #[.int .i64 1, .slice a9 fs.length c9, .slice b9 ps.length d9, .int .i64 cp, .int .i64 fu, .bool de]) (by simp [results, Try.results16, go_sem, r0, r1, r2, r3, r4, r5]) rfl (by rw [HW.out]; simpa [dsE, dsX, dsF, dsD] using HR.out)
  | true =>
    have hv1 : specV fs ps cp fu = true := by cases h : specV fs ps cp fu <;> simp [h] at hv <;> rfl
    obtain rfl : de = false := by cases de <;> simp [hv1] at hv <;> rfl
    have HV : Hid (implV fs ps cp fu = true) := by show _ = _; rw [← valid_eq]; exact hv1
    clear hv hv1
    obtain ⟨q1, q2, q3, q4, q5⟩ := specV_parts (by rw [valid_eq]; exact HV.out)
    have HQ3 : Hid (totalI fs ≤ cp) := q3
    have HQ4 : Hid (cacheS cp ps fs = true) := q4
    have hn12 : n ≤ 12 := by rw [← HNL.out]; exact q1
    clear q1 q3 q4 q5
    have HW : Hid (rsI fs ps cp fu false = 0) := by show _ = _; unfold rsI; rw [if_pos ⟨rfl, HV.out⟩]
    go_wp2_with fail
    refine (l1Spend_any a n c fs b m d ps cp fu false w1 A B (by omega) (HF.out _ bel1) (HP.out _ bel1) hn hm HA.out HA2.out hfu).mono ?_
    rintro e w9 hres
    obtain ⟨a9, c9, b9, d9, xs9, vs9, ys9, us9, rfl, hO9, hb9⟩ := hres.out
    clear hres
    have hs9 := hb9.size
    have bel9 := bel1.trans (hb9.mono bel1.size)
    have jR9 := (hb9.block (w.heap.size + 1) (by omega)).trans jR1
    have jD9 := (hb9.block w.heap.size (by omega)).trans jD1
    clear x0 x1 x2 x3 x4 jD1 jR1
    by_cases h0 : fu = 0
    · subst h0
      rw [show spE 0 = 3 from rfl, show spF 0 = 0 from rfl, show spD 0 false = true from rfl]
      have hal : Below w9.heap.size w9 (w9.alloc (.cells #[.int .i64 3, .slice a9 fs.length c9, .slice b9 ps.length d9, .int .i64 cp, .int .i64 0, .bool true] 30)) := (Below.refl _ _).alloc (Nat.le_refl _) _
      have kN := heap_alloc_new w9 (.cells #[.int .i64 3, .slice a9 fs.length c9, .slice b9 ps.length d9, .int .i64 cp, .int .i64 0, .bool true] 30)
      have jR := (hal.block (w.heap.size + 1) (by omega)).trans jR9
      have hsX : (w9.alloc (.cells #[.int .i64 3, .slice a9 fs.length c9, .slice b9 ps.length d9, .int .i64 cp, .int .i64 0, .bool true] 30)).heap.size = w9.heap.size + 1 := by simp
      obtain ⟨y0, y1, y2, y3, y4, y5⟩ := box_sixR kN
      obtain ⟨r0, r1, r2, r3, r4, r5⟩ := box_sixR jR
      have ff := box_thawC jR
      have HB := put6R_box jR (.int .i64 3) (.slice a9 fs.length c9) (.slice b9 ps.length d9) (.int .i64 cp) (.int .i64 0) (.bool true)
      have HR : Hid (ResAt w (.returned (.agg #[.int .i64 3, .slice a9 fs.length c9, .slice b9 ps.length d9, .int .i64 cp, .int .i64 0, .bool true])) (put6R (w9.alloc (.cells #[.int .i64 3, .slice a9 fs.length c9, .slice b9 ps.length d9, .int .i64 cp, .int .i64 0, .bool true] 30)) (w.heap.size + 1) (.int .i64 3) (.slice a9 fs.length c9) (.slice b9 ps.length d9) (.int .i64 cp) (.int .i64 0) (.bool true)) 3 fs ps cp 0 true) := ResAt.mk6 (by omega) (base := w1.heap.size) (hO9.below hal) (by omega) (by omega) (bel9.trans (hal.mono bel9.size))
      clear hO9 hb9 jR jR9 hal kN
      go_wp2
      show bodyPost _ _ _ _ _ (put6R (w9.alloc (.cells #[.int .i64 3, .slice a9 fs.length c9, .slice b9 ps.length d9, .int .i64 cp, .int .i64 0, .bool true] 30)) (w.heap.size + 1) (.int .i64 3) (.slice a9 fs.length c9) (.slice b9 ps.length d9) (.int .i64 cp) (.int .i64 0) (.bool true))
      clear r0 r1 r2 r3 r4 r5
      obtain ⟨r0, r1, r2, r3, r4, r5⟩ := box_sixR HB
      exact bodyPost_ret (v := .agg #[.int .i64 3, .slice a9 fs.length c9, .slice b9 ps.length d9, .int .i64 cp, .int .i64 0, .bool true]) (by simp [results, Try.results16, go_sem, r0, r1, r2, r3, r4, r5]) rfl (by rw [HW.out]; simpa [dsE, dsX, dsF, dsD, spE, spF, spD] using HR.out)
    · rw [show spE fu = 0 by simp [spE, h0]]
      have HX : Hid (dsE 0 fu = 0 ∧ dsX 0 fu fs (lastF ps fs) = lastF ps fs ∧ dsX 0 fu ps [] = [] ∧ dsF 0 fu = spF fu ∧ dsD 0 fu false = spD fu false) := by show _ ∧ _; simp [dsE, dsX, dsF, dsD, spE, h0]
      generalize spF fu = F at *
      generalize spD fu false = D at *
      have hal : Below w9.heap.size w9 (w9.alloc (.cells #[.int .i64 0, .slice a9 fs.length c9, .slice b9 ps.length d9, .int .i64 cp, .int .i64 F, .bool D] 30)) := (Below.refl _ _).alloc (Nat.le_refl _) _
      have XO := heap_alloc_new w9 (.cells #[.int .i64 0, .slice a9 fs.length c9, .slice b9 ps.length d9, .int .i64 cp, .int .i64 F, .bool D] 30)
      have jR := (hal.block (w.heap.size + 1) (by omega)).trans jR9
      have hsX : (w9.alloc (.cells #[.int .i64 0, .slice a9 fs.length c9, .slice b9 ps.length d9, .int .i64 cp, .int .i64 F, .bool D] 30)).heap.size = w9.heap.size + 1 := by simp
      have own := hO9.below hal
      have hlt : ∀ g, Blk (.slice a9 fs.length c9) vs9 g ∨ Blk (.slice b9 ps.length d9) us9 g → g < w9.heap.size := fun g hg => (hO9.blk hg).2
      have belX := bel9.trans (hal.mono bel9.size)
      have jDX := (hal.block w.heap.size (by omega)).trans jD9
      obtain ⟨z0, z1, z2, z3, z4⟩ := boxW5 jDX
      obtain ⟨y0, y1, y2, y3, y4, y5⟩ := box_sixR XO
      clear hO9 hb9 jR9 hal jD9
      go_wp2_with fail
      generalize (w9.alloc (.cells #[.int .i64 0, .slice a9 fs.length c9, .slice b9 ps.length d9, .int .i64 cp, .int .i64 F, .bool D] 30)) = W at *
      clear y0 y1 y2 y3 y4 y5 z0 z1 z2 z3 z4
      refine (l1Seen_any a n c fs b m d ps cp fu false W A B (by omega) (HF.out _ belX) (HP.out _ belX) hn12 q2 HQ3.out HQ4.out).mono ?_
      rintro e w8 ⟨v8, xs8, vs8, rfl, own8, hb8⟩
      obtain ⟨ua, un, uc, rfl, hun, _⟩ := own8.files
      subst hun
      have hs8 := hb8.size
      have XO8 := (hb8.block _ (by omega)).trans XO
      have jR8 := (hb8.block _ (by omega)).trans jR
      obtain ⟨y0, y1, y2, y3, y4, y5⟩ := box_sixR XO8
      have fo := box_thawC XO8
      obtain ⟨r0, r1, r2, r3, r4, r5⟩ := box_sixR jR8
      have ff := box_thawC jR8
      have hN8 : w9.heap.size < w8.heap.size := by omega
      have hR8 : w.heap.size + 1 < w8.heap.size := by omega
      have hNR : w.heap.size + 1 < w9.heap.size := by omega
      have XO8b := heap_setCell_at XO8 1 (.slice ua (lastF ps fs).length uc)
      have fo8 := box_thawC XO8b
      have hsetY : Fr (fun g => g = w9.heap.size) w8 ((w8.setCell ⟨w9.heap.size, 1, none⟩ (.slice ua (lastF ps fs).length uc)).setCell ⟨w9.heap.size, 2, none⟩ (.slice (some ⟨w8.heap.size, 0, none⟩) 0 0)) := (fr_setCell w8 w9.heap.size 1 _).trans (fr_setCell _ w9.heap.size 2 _)
      have jRY : ((w8.setCell ⟨w9.heap.size, 1, none⟩ (.slice ua (lastF ps fs).length uc)).setCell ⟨w9.heap.size, 2, none⟩ (.slice (some ⟨w8.heap.size, 0, none⟩) 0 0)).heap[(w.heap.size + 1)]? = some (.cells #[.int .i64 0, .slice none 0 0, .slice none 0 0, .int .i64 0, .int .i64 0, .bool false] 30) := (hsetY.block _ (by omega) (fun e => by omega)).trans jR8
      have HB := put6R_box jRY (.int .i64 0) (.slice ua (lastF ps fs).length uc) (.slice (some ⟨w8.heap.size, 0, none⟩) 0 0) (.int .i64 cp) (.int .i64 F) (.bool D)
      have hputF := put6R_fr ((w8.setCell ⟨w9.heap.size, 1, none⟩ (.slice ua (lastF ps fs).length uc)).setCell ⟨w9.heap.size, 2, none⟩ (.slice (some ⟨w8.heap.size, 0, none⟩) 0 0)) (w.heap.size + 1) (.int .i64 0) (.slice ua (lastF ps fs).length uc) (.slice (some ⟨w8.heap.size, 0, none⟩) 0 0) (.int .i64 cp) (.int .i64 F) (.bool D)
      have hset : Fr (fun g => g = w9.heap.size ∨ g = (w.heap.size + 1)) w8 (put6R ((w8.setCell ⟨w9.heap.size, 1, none⟩ (.slice ua (lastF ps fs).length uc)).setCell ⟨w9.heap.size, 2, none⟩ (.slice (some ⟨w8.heap.size, 0, none⟩) 0 0)) (w.heap.size + 1) (.int .i64 0) (.slice ua (lastF ps fs).length uc) (.slice (some ⟨w8.heap.size, 0, none⟩) 0 0) (.int .i64 cp) (.int .i64 F) (.bool D)) := (hsetY.weak (fun g e => .inl e)).trans (hputF.weak (fun g e => .inr e))
      have hsP : (put6R ((w8.setCell ⟨w9.heap.size, 1, none⟩ (.slice ua (lastF ps fs).length uc)).setCell ⟨w9.heap.size, 2, none⟩ (.slice (some ⟨w8.heap.size, 0, none⟩) 0 0)) (w.heap.size + 1) (.int .i64 0) (.slice ua (lastF ps fs).length uc) (.slice (some ⟨w8.heap.size, 0, none⟩) 0 0) (.int .i64 cp) (.int .i64 F) (.bool D)).heap.size = w8.heap.size := by simp [put6R, World.setCell]
      generalize hP : put6R ((w8.setCell ⟨w9.heap.size, 1, none⟩ (.slice ua (lastF ps fs).length uc)).setCell ⟨w9.heap.size, 2, none⟩ (.slice (some ⟨w8.heap.size, 0, none⟩) 0 0)) (w.heap.size + 1) (.int .i64 0) (.slice ua (lastF ps fs).length uc) (.slice (some ⟨w8.heap.size, 0, none⟩) 0 0) (.int .i64 cp) (.int .i64 F) (.bool D) = P at *
      have hal : Below P.heap.size P (P.alloc (.cells #[] 71)) := (Below.refl _ _).alloc (Nat.le_refl _) _
      have hrowc : (P.alloc (.cells #[] 71)).ownsRow w.heap.size 71 3 (.slice (some ⟨P.heap.size, 0, none⟩) 0 0) 0 [] := World.ownsRow_made P #[] 0 (by omega) (by unfold maxLen; omega) (by simp)
      rw [hsP] at hrowc
      have hfl : OwnF (P.alloc (.cells #[] 71)) w.heap.size (.slice ua (lastF ps fs).length uc) (lastF ps fs) xs8 vs8 := ((own8.fr hset (fun g hg e => by have := (own8.blk hg).1; omega)).below hal).lower (by omega)
      have hD : OwnD (P.alloc (.cells #[] 71)) w.heap.size (.slice ua (lastF ps fs).length uc) (.slice (some ⟨w8.heap.size, 0, none⟩) 0 0) (lastF ps fs) [] xs8 vs8 [] [] := ⟨hfl, OwnP.nil hrowc, fun g hg hb => by
        have h1 := (own8.blk hg).2
        rcases hb with e | ⟨j, hj, _⟩
        · have : w8.heap.size = g := by simpa [Value.ownBlock] using e
          omega
        · simp at hj⟩
      have hbZ : Below w.heap.size w (P.alloc (.cells #[] 71)) := ((belX.trans (hb8.mono belX.size)).trans (hset.below (by omega) (fun g e => by omega))).trans (hal.mono (by omega))
      have HR : Hid (ResAt w (.returned (.agg #[.int .i64 0, .slice ua (lastF ps fs).length uc, .slice (some ⟨w8.heap.size, 0, none⟩) 0 0, .int .i64 cp, .int .i64 F, .bool D])) (P.alloc (.cells #[] 71)) 0 (lastF ps fs) [] cp F D) := ⟨ua, uc, some ⟨w8.heap.size, 0, none⟩, 0, xs8, vs8, [], [], rfl, hD, hbZ⟩
      have HBZ := (hal.block (w.heap.size + 1) (by omega)).trans HB
      clear hD hfl hrowc hbZ hset hsetY jRY hputF hal own own8 hlt HB
      subst hP
      go_wp2
      show bodyPost _ _ _ _ _ ((put6R ((w8.setCell ⟨w9.heap.size, 1, none⟩ (.slice ua (lastF ps fs).length uc)).setCell ⟨w9.heap.size, 2, none⟩ (.slice (some ⟨w8.heap.size, 0, none⟩) 0 0)) (w.heap.size + 1) (.int .i64 0) (.slice ua (lastF ps fs).length uc) (.slice (some ⟨w8.heap.size, 0, none⟩) 0 0) (.int .i64 cp) (.int .i64 F) (.bool D)).alloc (.cells #[] 71))
      clear r0 r1 r2 r3 r4 r5
      obtain ⟨r0, r1, r2, r3, r4, r5⟩ := box_sixR HBZ
      exact bodyPost_ret (v := .agg #[.int .i64 0, .slice ua (lastF ps fs).length uc, .slice (some ⟨w8.heap.size, 0, none⟩) 0 0, .int .i64 cp, .int .i64 F, .bool D]) (by simp [results, Try.results16, go_sem, r0, r1, r2, r3, r4, r5]) rfl (by rw [HW.out, HX.out.1, HX.out.2.1, HX.out.2.2.1, HX.out.2.2.2.1, HX.out.2.2.2.2]; exact HR.out)
end Go.Proofs.Ytakdaandbdbdnaa
