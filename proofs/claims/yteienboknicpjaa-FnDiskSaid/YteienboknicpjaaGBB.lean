import Derived.Test.YteienboknicpjaaGAN
import Derived.Test.YteienboknicpjaaGAP
import Derived.Test.YteienboknicpjaaWd
import Derived.Test.YteienboknicpjaaGBA
namespace Go.Proofs.Yteienboknicpjaa
open Go.RowKit
set_option linter.unusedVariables false
set_option maxRecDepth 100000

set_option maxHeartbeats 3200000 in
theorem deviceStepS_any (a : Option Addr) (n c : Nat) (fs gs : List PF) (b : Option Addr) (m d : Nat) (ps qs : List PP) (cp fu : Int) (de : Bool) (rf : Int) (w : World) (A B : Nat) (hB : B ≤ w.heap.size)
    (hF : FilesAt w A B a n c fs) (hP : PendsAt w A B b m d ps) (hn : n ≤ 1048576) (hm : m ≤ 1048576) (hall : ∀ j, j < n → (fs.getD j (ByteArray.empty, [])).2.length ≤ 1048576) (hall2 : ∀ j, j < m → (ps.getD j (ByteArray.empty, 0, [])).2.2.length ≤ 1048576) (hfu : -9223372036854775808 ≤ fu ∧ fu ≤ 9223372036854775807)
    (hC : rf = 0 → ChangeOk 38 #[] w fs gs ps qs cp de) :
    Calls Try.prog 20 #[.agg #[.slice a n c, .slice b m d, .int .i64 cp, .int .i64 fu, .bool de], .int .i64 rf, .func (.func 38) #[] #[]] w fun e w' => ResAt w e w' (dsE rf fu) (dsX rf fu fs gs) (dsX rf fu ps qs) cp (dsF rf fu) (dsD rf fu de) := by
  have HF : Hid (∀ W, Below w.heap.size w W → FilesAt W A B a n c fs) := fun W hW => hF.below (hW.mono hB)
  have HP : Hid (∀ W, Below w.heap.size w W → PendsAt W A B b m d ps) := fun W hW => hP.below (hW.mono hB)
  have HA : Hid (∀ j, j < n → (fs.getD j (ByteArray.empty, [])).2.length ≤ 1048576) := hall
  have HA2 : Hid (∀ j, j < m → (ps.getD j (ByteArray.empty, 0, [])).2.2.length ≤ 1048576) := hall2
  have HC : Hid (rf = 0 → ChangeOk 38 #[] w fs gs ps qs cp de) := hC
  clear hF hP hall hall2 hC
  go_enter Try.func20, Try.ntmps20
  go_wp2_with fail
  have hs0 : ((w.alloc (.cells #[.slice a n c, .slice b m d, .int .i64 cp, .int .i64 fu, .bool de] 26)).alloc (.cells #[.int .i64 0, .slice none 0 0, .slice none 0 0, .int .i64 0, .int .i64 0, .bool false] 30)).heap.size = w.heap.size + 2 := by simp
  have hb0 : Below w.heap.size w ((w.alloc (.cells #[.slice a n c, .slice b m d, .int .i64 cp, .int .i64 fu, .bool de] 26)).alloc (.cells #[.int .i64 0, .slice none 0 0, .slice none 0 0, .int .i64 0, .int .i64 0, .bool false] 30)) := ((Below.refl _ _).alloc (Nat.le_refl _) _).alloc (by simp) _
  have k0 : ((w.alloc (.cells #[.slice a n c, .slice b m d, .int .i64 cp, .int .i64 fu, .bool de] 26)).alloc (.cells #[.int .i64 0, .slice none 0 0, .slice none 0 0, .int .i64 0, .int .i64 0, .bool false] 30)).heap[w.heap.size]? = some (.cells #[.slice a n c, .slice b m d, .int .i64 cp, .int .i64 fu, .bool de] 26) := by rw [heap_alloc_old _ _ (by simp)]; exact heap_alloc_new _ _
  have k1 : ((w.alloc (.cells #[.slice a n c, .slice b m d, .int .i64 cp, .int .i64 fu, .bool de] 26)).alloc (.cells #[.int .i64 0, .slice none 0 0, .slice none 0 0, .int .i64 0, .int .i64 0, .bool false] 30)).heap[w.heap.size + 1]? = some (.cells #[.int .i64 0, .slice none 0 0, .slice none 0 0, .int .i64 0, .int .i64 0, .bool false] 30) := by have := heap_alloc_new (w.alloc (.cells #[.slice a n c, .slice b m d, .int .i64 cp, .int .i64 fu, .bool de] 26)) (.cells #[.int .i64 0, .slice none 0 0, .slice none 0 0, .int .i64 0, .int .i64 0, .bool false] 30); simpa using this
  generalize ((w.alloc (.cells #[.slice a n c, .slice b m d, .int .i64 cp, .int .i64 fu, .bool de] 26)).alloc (.cells #[.int .i64 0, .slice none 0 0, .slice none 0 0, .int .i64 0, .int .i64 0, .bool false] 30)) = W0 at hs0 hb0 k0 k1 ⊢
  refine (copyDisk_any a n c fs b m d ps cp fu de W0 A B (by omega) (HF.out W0 hb0) (HP.out W0 hb0) hn hm HA.out HA2.out).mono ?_
  rintro e w1 ⟨v, u, xs, vs, ys, us, rfl, hO1, hb1⟩
  obtain ⟨⟨a1, c1, rfl⟩, b1, d1, rfl⟩ := hO1.shape
  have hs1 := hb1.size
  have j0 := (hb1.block w.heap.size (by omega)).trans k0
  have j1 := (hb1.block (w.heap.size + 1) (by omega)).trans k1
  have bel1 : Below w.heap.size w w1 := hb0.trans (hb1.mono (by omega))
  rw [hs0] at hO1 hs1
  clear hb0 k0 k1 hb1 hs0 HF HP HA HA2
  obtain ⟨r0, r1, r2, r3, r4, r5⟩ := box_sixR j1
  have ff := box_thawC j1
  have hl0 : w.heap.size < w1.heap.size := by omega
  have hl1 : w.heap.size + 1 < w1.heap.size := by omega
  by_cases hrf : rf = 0
  · have HCL : Hid (ChangeOk 38 #[] w fs gs ps qs cp de) := HC.out hrf
    subst hrf
    clear HC
    by_cases h0 : fu = 0
    · subst h0
      have HB := put6R_box j1 (.int .i64 3) (.slice a1 fs.length c1) (.slice b1 ps.length d1) (.int .i64 cp) (.int .i64 0) (.bool true)
      have hsz : (put6R w1 (w.heap.size + 1) (.int .i64 3) (.slice a1 fs.length c1) (.slice b1 ps.length d1) (.int .i64 cp) (.int .i64 0) (.bool true)).heap.size = w1.heap.size := by simp [put6R, World.setCell]
      have HB2 : ((put6R w1 (w.heap.size + 1) (.int .i64 3) (.slice a1 fs.length c1) (.slice b1 ps.length d1) (.int .i64 cp) (.int .i64 0) (.bool true)).alloc (.cells #[.slice a1 fs.length c1, .slice b1 ps.length d1, .int .i64 cp, .int .i64 0, .bool true] 26)).heap[w.heap.size + 1]? = some (.cells #[.int .i64 3, .slice a1 fs.length c1, .slice b1 ps.length d1, .int .i64 cp, .int .i64 0, .bool true] 30) := (heap_alloc_old _ _ (by rw [hsz]; omega)).trans HB
      have HR0 : ResAt w (.returned (.agg #[.int .i64 3, .slice a1 fs.length c1, .slice b1 ps.length d1, .int .i64 cp, .int .i64 0, .bool true])) (put6R w1 (w.heap.size + 1) (.int .i64 3) (.slice a1 fs.length c1) (.slice b1 ps.length d1) (.int .i64 cp) (.int .i64 0) (.bool true)) 3 fs ps cp 0 true := ResAt.mk6 (by omega) hO1 (by omega) (by omega) bel1
      have HR : Hid (ResAt w (.returned (.agg #[.int .i64 3, .slice a1 fs.length c1, .slice b1 ps.length d1, .int .i64 cp, .int .i64 0, .bool true])) ((put6R w1 (w.heap.size + 1) (.int .i64 3) (.slice a1 fs.length c1) (.slice b1 ps.length d1) (.int .i64 cp) (.int .i64 0) (.bool true)).alloc (.cells #[.slice a1 fs.length c1, .slice b1 ps.length d1, .int .i64 cp, .int .i64 0, .bool true] 26)) 3 fs ps cp 0 true) := HR0.after ((Below.refl _ _).alloc (Nat.le_refl _) _)
      clear HR0 HB hsz hO1 bel1 j0 j1
      go_wp2
      show bodyPost _ _ _ _ _ ((put6R w1 (w.heap.size + 1) (.int .i64 3) (.slice a1 fs.length c1) (.slice b1 ps.length d1) (.int .i64 cp) (.int .i64 0) (.bool true)).alloc (.cells #[.slice a1 fs.length c1, .slice b1 ps.length d1, .int .i64 cp, .int .i64 0, .bool true] 26))
      clear r0 r1 r2 r3 r4 r5 ff
      obtain ⟨r0, r1, r2, r3, r4, r5⟩ := box_sixR HB2
      exact bodyPost_ret (v := .agg #[.int .i64 3, .slice a1 fs.length c1, .slice b1 ps.length d1, .int .i64 cp, .int .i64 0, .bool true]) (by simp [results, Try.results20, go_sem, r0, r1, r2, r3, r4, r5]) rfl (by rw [show dsE 0 0 = 3 from rfl, show dsX 0 0 fs gs = fs from rfl, show dsX 0 0 ps qs = ps from rfl, show dsF 0 0 = 0 from rfl, show dsD 0 0 de = true from rfl]; exact HR.out)
    · have h0x : (fu == 0) = false := by simp [h0]
      by_cases h1 : 0 < fu
      · have hal : Below w1.heap.size w1 (w1.alloc (.cells #[.slice a1 fs.length c1, .slice b1 ps.length d1, .int .i64 cp, .int .i64 (fu - 1), .bool de] 26)) := (Below.refl _ _).alloc (Nat.le_refl _) _
        have o2 := heap_alloc_new w1 (.cells #[.slice a1 fs.length c1, .slice b1 ps.length d1, .int .i64 cp, .int .i64 (fu - 1), .bool de] 26)
        have i1 := (hal.block (w.heap.size + 1) (by omega)).trans j1
        have hO2 := hO1.below hal
        have bel2 := bel1.trans (hal.mono bel1.size)
        have hs2 : w1.heap.size < (w1.alloc (.cells #[.slice a1 fs.length c1, .slice b1 ps.length d1, .int .i64 cp, .int .i64 (fu - 1), .bool de] 26)).heap.size := (Array.getElem?_eq_some_iff.1 o2).1
        have HO1 : Hid (∀ g, Blk (.slice a1 fs.length c1) vs g ∨ Blk (.slice b1 ps.length d1) us g → w.heap.size + 2 ≤ g ∧ g < w1.heap.size) := fun g hg => hO1.blk hg
        have HBL : Hid (Below w.heap.size w (w1.alloc (.cells #[.slice a1 fs.length c1, .slice b1 ps.length d1, .int .i64 cp, .int .i64 (fu - 1), .bool de] 26))) := bel2
        have HO2 : Hid (OwnD (w1.alloc (.cells #[.slice a1 fs.length c1, .slice b1 ps.length d1, .int .i64 cp, .int .i64 (fu - 1), .bool de] 26)) (w.heap.size + 2) (.slice a1 fs.length c1) (.slice b1 ps.length d1) fs ps xs vs ys us) := hO2
        clear hO1 hO2 bel1 bel2 hal
        go_wp2_with fail
        generalize w1.alloc (.cells #[.slice a1 fs.length c1, .slice b1 ps.length d1, .int .i64 cp, .int .i64 (fu - 1), .bool de] 26) = W1 at o2 i1 hs2 HBL HO2 ⊢
        refine (HCL.out W1 w1.heap.size (fu - 1) a1 c1 b1 d1 xs vs ys us HBL.out (by omega) o2 HO2.out (fun g hg => (HO1.out g hg).2)).mono ?_
        rintro e w2 ⟨rfl, gs, qs, a2, c2, b2, d2, xs2, vs2, ys2, us2, ⟨rfl, rfl⟩, o3, hO3, hF3⟩
        have i3 := (hF3.block (w.heap.size + 1) (by omega) (fun e => by rcases e with e | e; (omega); (have := HO1.out _ e; omega))).trans i1
        have bel3 : Below w.heap.size w w2 := HBL.out.trans (hF3.below (by omega) (fun g e => by rcases e with e | e; (omega); (have := HO1.out _ e; omega)))
        have hs3 := hF3.size
        clear r0 r1 r2 r3 r4 r5 ff
        obtain ⟨r0, r1, r2, r3, r4, r5⟩ := box_sixR i3
        have ff := box_thawC i3
        obtain ⟨t0, t1, t2, t3, t4⟩ := box_fiveC o3
        have HB := put6R_box i3 (.int .i64 0) (.slice a2 gs.length c2) (.slice b2 qs.length d2) (.int .i64 cp) (.int .i64 (fu - 1)) (.bool de)
        have HR : Hid (ResAt w (.returned (.agg #[.int .i64 0, .slice a2 gs.length c2, .slice b2 qs.length d2, .int .i64 cp, .int .i64 (fu - 1), .bool de])) (put6R w2 (w.heap.size + 1) (.int .i64 0) (.slice a2 gs.length c2) (.slice b2 qs.length d2) (.int .i64 cp) (.int .i64 (fu - 1)) (.bool de)) 0 gs qs cp (fu - 1) de) := ResAt.mk6 (by omega) hO3 (by omega) (by omega) bel3
        clear hO3 bel3 hF3 i1 o2 o3 i3 HBL HO2 HO1
        go_wp2
        show bodyPost _ _ _ _ _ (put6R w2 (w.heap.size + 1) (.int .i64 0) (.slice a2 gs.length c2) (.slice b2 qs.length d2) (.int .i64 cp) (.int .i64 (fu - 1)) (.bool de))
        clear r0 r1 r2 r3 r4 r5 ff
        obtain ⟨r0, r1, r2, r3, r4, r5⟩ := box_sixR HB
        exact bodyPost_ret (v := .agg #[.int .i64 0, .slice a2 gs.length c2, .slice b2 qs.length d2, .int .i64 cp, .int .i64 (fu - 1), .bool de]) (by simp [results, Try.results20, go_sem, r0, r1, r2, r3, r4, r5]) rfl (by rw [show dsE 0 fu = 0 from if_neg h0, show dsX 0 fu fs gs = gs from if_pos ⟨rfl, h0⟩, show dsX 0 fu ps qs = qs from if_pos ⟨rfl, h0⟩, show dsF 0 fu = fu - 1 by (rw [dsF, if_pos rfl, spF, if_pos (by omega)]), show dsD 0 fu de = de from if_neg h0]; exact HR.out)
      · have h1x : decide (0 < fu) = false := decide_eq_false h1
        have hal : Below w1.heap.size w1 (w1.alloc (.cells #[.slice a1 fs.length c1, .slice b1 ps.length d1, .int .i64 cp, .int .i64 fu, .bool de] 26)) := (Below.refl _ _).alloc (Nat.le_refl _) _
        have o2 := heap_alloc_new w1 (.cells #[.slice a1 fs.length c1, .slice b1 ps.length d1, .int .i64 cp, .int .i64 fu, .bool de] 26)
        have i1 := (hal.block (w.heap.size + 1) (by omega)).trans j1
        have hO2 := hO1.below hal
        have bel2 := bel1.trans (hal.mono bel1.size)
        have hs2 : w1.heap.size < (w1.alloc (.cells #[.slice a1 fs.length c1, .slice b1 ps.length d1, .int .i64 cp, .int .i64 fu, .bool de] 26)).heap.size := (Array.getElem?_eq_some_iff.1 o2).1
        have HO1 : Hid (∀ g, Blk (.slice a1 fs.length c1) vs g ∨ Blk (.slice b1 ps.length d1) us g → w.heap.size + 2 ≤ g ∧ g < w1.heap.size) := fun g hg => hO1.blk hg
        have HBL : Hid (Below w.heap.size w (w1.alloc (.cells #[.slice a1 fs.length c1, .slice b1 ps.length d1, .int .i64 cp, .int .i64 fu, .bool de] 26))) := bel2
        have HO2 : Hid (OwnD (w1.alloc (.cells #[.slice a1 fs.length c1, .slice b1 ps.length d1, .int .i64 cp, .int .i64 fu, .bool de] 26)) (w.heap.size + 2) (.slice a1 fs.length c1) (.slice b1 ps.length d1) fs ps xs vs ys us) := hO2
        clear hO1 hO2 bel1 bel2 hal
        go_wp2_with fail
        generalize w1.alloc (.cells #[.slice a1 fs.length c1, .slice b1 ps.length d1, .int .i64 cp, .int .i64 fu, .bool de] 26) = W1 at o2 i1 hs2 HBL HO2 ⊢
        refine (HCL.out W1 w1.heap.size fu a1 c1 b1 d1 xs vs ys us HBL.out (by omega) o2 HO2.out (fun g hg => (HO1.out g hg).2)).mono ?_
        rintro e w2 ⟨rfl, gs, qs, a2, c2, b2, d2, xs2, vs2, ys2, us2, ⟨rfl, rfl⟩, o3, hO3, hF3⟩
        have i3 := (hF3.block (w.heap.size + 1) (by omega) (fun e => by rcases e with e | e; (omega); (have := HO1.out _ e; omega))).trans i1
        have bel3 : Below w.heap.size w w2 := HBL.out.trans (hF3.below (by omega) (fun g e => by rcases e with e | e; (omega); (have := HO1.out _ e; omega)))
        have hs3 := hF3.size
        clear r0 r1 r2 r3 r4 r5 ff
        obtain ⟨r0, r1, r2, r3, r4, r5⟩ := box_sixR i3
        have ff := box_thawC i3
        obtain ⟨t0, t1, t2, t3, t4⟩ := box_fiveC o3
        have HB := put6R_box i3 (.int .i64 0) (.slice a2 gs.length c2) (.slice b2 qs.length d2) (.int .i64 cp) (.int .i64 fu) (.bool de)
        have HR : Hid (ResAt w (.returned (.agg #[.int .i64 0, .slice a2 gs.length c2, .slice b2 qs.length d2, .int .i64 cp, .int .i64 fu, .bool de])) (put6R w2 (w.heap.size + 1) (.int .i64 0) (.slice a2 gs.length c2) (.slice b2 qs.length d2) (.int .i64 cp) (.int .i64 fu) (.bool de)) 0 gs qs cp fu de) := ResAt.mk6 (by omega) hO3 (by omega) (by omega) bel3
        clear hO3 bel3 hF3 i1 o2 o3 i3 HBL HO2 HO1
        go_wp2
        show bodyPost _ _ _ _ _ (put6R w2 (w.heap.size + 1) (.int .i64 0) (.slice a2 gs.length c2) (.slice b2 qs.length d2) (.int .i64 cp) (.int .i64 fu) (.bool de))
        clear r0 r1 r2 r3 r4 r5 ff
        obtain ⟨r0, r1, r2, r3, r4, r5⟩ := box_sixR HB
        exact bodyPost_ret (v := .agg #[.int .i64 0, .slice a2 gs.length c2, .slice b2 qs.length d2, .int .i64 cp, .int .i64 fu, .bool de]) (by simp [results, Try.results20, go_sem, r0, r1, r2, r3, r4, r5]) rfl (by rw [show dsE 0 fu = 0 from if_neg h0, show dsX 0 fu fs gs = gs from if_pos ⟨rfl, h0⟩, show dsX 0 fu ps qs = qs from if_pos ⟨rfl, h0⟩, show dsF 0 fu = fu by (rw [dsF, if_pos rfl, spF, if_neg (by omega)]), show dsD 0 fu de = de from if_neg h0]; exact HR.out)
  · have hrx : (rf != 0) = true := by simp [hrf]
    have HB := put6R_box j1 (.int .i64 rf) (.slice a1 fs.length c1) (.slice b1 ps.length d1) (.int .i64 cp) (.int .i64 fu) (.bool de)
    have hsz : (put6R w1 (w.heap.size + 1) (.int .i64 rf) (.slice a1 fs.length c1) (.slice b1 ps.length d1) (.int .i64 cp) (.int .i64 fu) (.bool de)).heap.size = w1.heap.size := by simp [put6R, World.setCell]
    have HB2 : ((put6R w1 (w.heap.size + 1) (.int .i64 rf) (.slice a1 fs.length c1) (.slice b1 ps.length d1) (.int .i64 cp) (.int .i64 fu) (.bool de)).alloc (.cells #[.slice a1 fs.length c1, .slice b1 ps.length d1, .int .i64 cp, .int .i64 fu, .bool de] 26)).heap[w.heap.size + 1]? = some (.cells #[.int .i64 rf, .slice a1 fs.length c1, .slice b1 ps.length d1, .int .i64 cp, .int .i64 fu, .bool de] 30) := (heap_alloc_old _ _ (by rw [hsz]; omega)).trans HB
    have HR0 : ResAt w (.returned (.agg #[.int .i64 rf, .slice a1 fs.length c1, .slice b1 ps.length d1, .int .i64 cp, .int .i64 fu, .bool de])) (put6R w1 (w.heap.size + 1) (.int .i64 rf) (.slice a1 fs.length c1) (.slice b1 ps.length d1) (.int .i64 cp) (.int .i64 fu) (.bool de)) rf fs ps cp fu de := ResAt.mk6 (by omega) hO1 (by omega) (by omega) bel1
    have HR : Hid (ResAt w (.returned (.agg #[.int .i64 rf, .slice a1 fs.length c1, .slice b1 ps.length d1, .int .i64 cp, .int .i64 fu, .bool de])) ((put6R w1 (w.heap.size + 1) (.int .i64 rf) (.slice a1 fs.length c1) (.slice b1 ps.length d1) (.int .i64 cp) (.int .i64 fu) (.bool de)).alloc (.cells #[.slice a1 fs.length c1, .slice b1 ps.length d1, .int .i64 cp, .int .i64 fu, .bool de] 26)) rf fs ps cp fu de) := HR0.after ((Below.refl _ _).alloc (Nat.le_refl _) _)
    clear HR0 HB hsz hO1 bel1 j0 j1
    go_wp2
    show bodyPost _ _ _ _ _ ((put6R w1 (w.heap.size + 1) (.int .i64 rf) (.slice a1 fs.length c1) (.slice b1 ps.length d1) (.int .i64 cp) (.int .i64 fu) (.bool de)).alloc (.cells #[.slice a1 fs.length c1, .slice b1 ps.length d1, .int .i64 cp, .int .i64 fu, .bool de] 26))
    clear r0 r1 r2 r3 r4 r5 ff
    obtain ⟨r0, r1, r2, r3, r4, r5⟩ := box_sixR HB2
    exact bodyPost_ret (v := .agg #[.int .i64 rf, .slice a1 fs.length c1, .slice b1 ps.length d1, .int .i64 cp, .int .i64 fu, .bool de]) (by simp [results, Try.results20, go_sem, r0, r1, r2, r3, r4, r5]) rfl (by rw [show dsE rf fu = rf from if_neg hrf, show dsX rf fu fs gs = fs from if_neg (fun h => hrf h.1), show dsX rf fu ps qs = ps from if_neg (fun h => hrf h.1), show dsF rf fu = fu from if_neg hrf, show dsD rf fu de = de from if_neg hrf]; exact HR.out)
end Go.Proofs.Yteienboknicpjaa
namespace Go.Proofs.Yteienboknicpjaa
open Go.RowKit Go.Maps
set_option linter.unusedVariables false
set_option maxRecDepth 100000

/-- What the program says to a step on a whole disk: 0 or 1. -/
def rsI (fs : List PF) (ps : List PP) (cp fu : Int) (de : Bool) : Int := if de = false ∧ implV fs ps cp fu = true then 0 else 1
set_option maxHeartbeats 800000 in
theorem refuseStep_any (a : Option Addr) (n c : Nat) (fs : List PF) (b : Option Addr) (m d : Nat) (ps : List PP) (cp fu : Int) (de : Bool) (w : World) (A B : Nat) (hB : B ≤ w.heap.size) (hF : FilesAt w A B a n c fs) (hP : PendsAt w A B b m d ps)
    (hall : ∀ j, j < n → (fs.getD j (ByteArray.empty, [])).2.length ≤ 1048576) :
    Calls Try.prog 37 #[.agg #[.slice a n c, .slice b m d, .int .i64 cp, .int .i64 fu, .bool de]] w fun e w' => e = .returned (.int .i64 (rsI fs ps cp fu de)) ∧ Below w.heap.size w w' := by
  have hb0 : Below w.heap.size w (w.alloc (.cells #[.slice a n c, .slice b m d, .int .i64 cp, .int .i64 fu, .bool de] 26)) := (Below.refl _ _).alloc (Nat.le_refl _) _
  have hcall := implValid_any a n c fs b m d ps cp fu de _ A B (by simp; omega) (hF.below (hb0.mono hB)) (hP.below (hb0.mono hB)) hall
  clear hF hP hall
  cases de with
  | true =>
    have HR : Hid (rsI fs ps cp fu true = 1) := by show _ = _; unfold rsI; rw [if_neg (by simp)]
    clear hcall
    go_enter Try.func37, Try.ntmps37
    go_wp2_with fail
    go_ret
    exact ⟨ret_int HR.out.symm, hb0⟩
  | false =>
    cases hv : implV fs ps cp fu with
    | true =>
      have HR : Hid (rsI fs ps cp fu false = 0) := by show _ = _; unfold rsI; rw [if_pos ⟨rfl, hv⟩]
      rw [hv] at hcall
      clear hv
      go_enter Try.func37, Try.ntmps37
      go_wp2_with fail
      refine hcall.mono ?_
      rintro e w1 ⟨rfl, hb1⟩
      go_wp2_with fail
      go_ret
      exact ⟨ret_int HR.out.symm, hb0.trans (hb1.mono (by simp))⟩
    | false =>
      have HR : Hid (rsI fs ps cp fu false = 1) := by show _ = _; unfold rsI; rw [if_neg (by simp [hv])]
      rw [hv] at hcall
      clear hv
      go_enter Try.func37, Try.ntmps37
      go_wp2_with fail
      refine hcall.mono ?_
      rintro e w1 ⟨rfl, hb1⟩
      go_wp2_with fail
      go_ret
      exact ⟨ret_int HR.out.symm, hb0.trans (hb1.mono (by simp))⟩
end Go.Proofs.Yteienboknicpjaa
namespace Go.Proofs.Yteienboknicpjaa
open Go.RowKit
set_option linter.unusedVariables false
set_option maxRecDepth 100000
theorem two_allocs {w : World} {x0 x1 : Obj} {W0 : World} (h : W0 = (w.alloc x0).alloc x1) : W0.heap.size = w.heap.size + 2 ∧ Below w.heap.size w W0 ∧ W0.heap[w.heap.size]? = some x0 ∧ W0.heap[w.heap.size + 1]? = some x1 := by
  subst h
  have z : ∀ (X : World) (x : Obj), (X.alloc x).heap.size = X.heap.size + 1 := fun X x => by simp
  refine ⟨by simp, ((Below.refl _ _).alloc (Nat.le_refl _) _).alloc (by simp only [z]; omega) _, ?_, ?_⟩
  · rw [heap_alloc_old _ _ (by simp only [z]; omega)]; exact heap_alloc_new _ _
  · have := heap_alloc_new (w.alloc x0) x1; rwa [z] at this
theorem sync_ok {fs : List PF} {ps : List PP} {cp fu : Int} {de : Bool} (h : rsI fs ps cp fu de = 0) (w : World) : ChangeOk 38 #[] w fs (lastF ps fs) ps [] cp de := by
  unfold rsI at h
  split at h
  · rename_i hc
    obtain ⟨q1, q2, q3, q4, q5⟩ := specV_parts (by rw [valid_eq]; exact hc.2)
    have hpm : ps.length ≤ 1000 := by
      have h2 := hc.2
      simp only [implV, Bool.and_eq_true, decide_eq_true_eq] at h2
      exact h2.1.2
    exact syncChange fs ps cp de w q1 hpm q2 q3 q4 q5
  · cases h
set_option maxHeartbeats 1600000 in
theorem implSync_any (a : Option Addr) (n c : Nat) (fs : List PF) (b : Option Addr) (m d : Nat) (ps : List PP) (cp fu : Int) (de : Bool) (w : World) (A B : Nat) (hB : B ≤ w.heap.size) (hF : FilesAt w A B a n c fs) (hP : PendsAt w A B b m d ps) (hfu : -9223372036854775808 ≤ fu ∧ fu ≤ 9223372036854775807)
    (hn : n ≤ 1048576) (hm : m ≤ 1048576) (hall : ∀ j, j < n → (fs.getD j (ByteArray.empty, [])).2.length ≤ 1048576) (hall2 : ∀ j, j < m → (ps.getD j (ByteArray.empty, 0, [])).2.2.length ≤ 1048576) :
    Calls Try.prog 8 #[.agg #[.slice a n c, .slice b m d, .int .i64 cp, .int .i64 fu, .bool de]] w fun e w' => ResAt w e w' (dsE (rsI fs ps cp fu de) fu) (dsX (rsI fs ps cp fu de) fu fs (lastF ps fs)) (dsX (rsI fs ps cp fu de) fu ps []) cp (dsF (rsI fs ps cp fu de) fu) (dsD (rsI fs ps cp fu de) fu de) := by
  have HF : Hid (∀ W, Below w.heap.size w W → FilesAt W A B a n c fs) := fun W hW => hF.below (hW.mono hB)
  have HP : Hid (∀ W, Below w.heap.size w W → PendsAt W A B b m d ps) := fun W hW => hP.below (hW.mono hB)
  have HA : Hid (∀ j, j < n → (fs.getD j (ByteArray.empty, [])).2.length ≤ 1048576) := hall
  have HA2 : Hid (∀ j, j < m → (ps.getD j (ByteArray.empty, 0, [])).2.2.length ≤ 1048576) := hall2
  have HFL : Hid (fs.length = n) := hF.1
  clear hF hP hall hall2
  go_enter Try.func8, Try.ntmps8
  go_wp2_with fail
  obtain ⟨W0, hW0⟩ : ∃ W0, W0 = ((w.alloc (.cells #[.slice a n c, .slice b m d, .int .i64 cp, .int .i64 fu, .bool de] 26)).alloc (.cells #[.int .i64 0, .slice none 0 0, .slice none 0 0, .int .i64 0, .int .i64 0, .bool false] 30)) := ⟨_, rfl⟩
  obtain ⟨hs0, hb0, k0, k2⟩ := two_allocs hW0
  rw [← hW0]
  clear hW0
  have HK2 : Hid (W0.heap[w.heap.size + 1]? = some (.cells #[.int .i64 0, .slice none 0 0, .slice none 0 0, .int .i64 0, .int .i64 0, .bool false] 30)) := k2
  have S0 : (W0.cell? ⟨w.heap.size, 0, none⟩ = some (.slice a n c) ∧ W0.cell? ⟨w.heap.size, 1, none⟩ = some (.slice b m d) ∧ W0.cell? ⟨w.heap.size, 2, none⟩ = some (.int .i64 cp) ∧ W0.cell? ⟨w.heap.size, 3, none⟩ = some (.int .i64 fu) ∧ W0.cell? ⟨w.heap.size, 4, none⟩ = some (.bool de)) := by simp [World.cell?, k0]
  have HSF : Hid (∀ (X Y : World) {F : Nat → Prop}, ((X.cell? ⟨w.heap.size, 0, none⟩ = some (.slice a n c) ∧ X.cell? ⟨w.heap.size, 1, none⟩ = some (.slice b m d) ∧ X.cell? ⟨w.heap.size, 2, none⟩ = some (.int .i64 cp) ∧ X.cell? ⟨w.heap.size, 3, none⟩ = some (.int .i64 fu) ∧ X.cell? ⟨w.heap.size, 4, none⟩ = some (.bool de))) → Fr F X Y → (∀ g, F g → w.heap.size + 1 ≤ g) → (Y.cell? ⟨w.heap.size, 0, none⟩ = some (.slice a n c) ∧ Y.cell? ⟨w.heap.size, 1, none⟩ = some (.slice b m d) ∧ Y.cell? ⟨w.heap.size, 2, none⟩ = some (.int .i64 cp) ∧ Y.cell? ⟨w.heap.size, 3, none⟩ = some (.int .i64 fu) ∧ Y.cell? ⟨w.heap.size, 4, none⟩ = some (.bool de))) := fun X Y F hX hF hB => by
    have q : ∀ (N o : Nat) (v : Value), N < w.heap.size + 1 → X.cell? ⟨N, o, none⟩ = some v → Y.cell? ⟨N, o, none⟩ = some v := fun N o v hN hv => (World.cell?_of_block (hF.block N (World.block_lt_of_cell? X ⟨N, o, none⟩ hv) (fun e => by have := hB N e; omega))).trans hv
    obtain ⟨e0, e1, e2, e3, e4⟩ := hX
    exact ⟨q _ _ _ (by omega) e0, q _ _ _ (by omega) e1, q _ _ _ (by omega) e2, q _ _ _ (by omega) e3, q _ _ _ (by omega) e4⟩
  have HSS : Hid (∀ X, Below W0.heap.size W0 X → (X.cell? ⟨w.heap.size, 0, none⟩ = some (.slice a n c) ∧ X.cell? ⟨w.heap.size, 1, none⟩ = some (.slice b m d) ∧ X.cell? ⟨w.heap.size, 2, none⟩ = some (.int .i64 cp) ∧ X.cell? ⟨w.heap.size, 3, none⟩ = some (.int .i64 fu) ∧ X.cell? ⟨w.heap.size, 4, none⟩ = some (.bool de))) := fun X hX => HSF.out W0 X S0 (Fr.of_below hX (S := fun _ => False)) (fun g e => e.elim)
  clear k0 k2
  refine wp_region_noPanic ?_
  refine wp_region_held_drew (S := (fun w' => (w'.cell? ⟨w.heap.size, 0, none⟩ = some (.slice a n c) ∧ w'.cell? ⟨w.heap.size, 1, none⟩ = some (.slice b m d) ∧ w'.cell? ⟨w.heap.size, 2, none⟩ = some (.int .i64 cp) ∧ w'.cell? ⟨w.heap.size, 3, none⟩ = some (.int .i64 fu) ∧ w'.cell? ⟨w.heap.size, 4, none⟩ = some (.bool de)))) (by kernel_rfl) ?_ (fun hHeld => ?_)
  · exact S0
  refine wpAnyH_take (i := 0) (oi := { dst := some 3, op := Op.load 26 (Operand.tmp 1), type := 26, pos := "l1_disk.go:111", after := #[], guard := none }) (v := ?_) rfl (by kernel_rfl) (by kernel_rfl) (by kernel_rfl) (fun _ _ _ h => h) (Or.inl ⟨by rfl, ?_⟩) (by assumption) ?_
  rotate_left 1
  · intro w hSw; (try dsimp only at hSw); go_simp; try (with_reducible rfl)
  try simp only [Act.put, List.setIfInBounds_toArray, List.set_cons_zero, List.set_cons_succ]
  refine wpAnyH_take (i := 1) (oi := { dst := some 4, op := Op.load 26 (Operand.tmp 1), type := 26, pos := "l1_disk.go:111", after := #[], guard := none }) (v := ?_) rfl (by kernel_rfl) (by kernel_rfl) (by kernel_rfl) (fun _ _ _ h => h) (Or.inl ⟨by rfl, ?_⟩) (by assumption) ?_
  rotate_left 1
  · intro w hSw; (try dsimp only at hSw); go_simp; try (with_reducible rfl)
  try simp only [Act.put, List.setIfInBounds_toArray, List.set_cons_zero, List.set_cons_succ]
  refine wpAnyH_ready (rs := [2]) (by kernel_rfl) (by simp) ?_
  refine AllReadyH.cons (o := { dst := some 5, op := Op.call { callee := Callee.value (Operand.func 37), args := #[Operand.tmp 4], argTypes := #[26] }, type := 2, pos := "l1_disk.go:111", after := #[{ on := 1, ground := Ground.data }], guard := none }) rfl (fun K hK => ?_) ?_
  rotate_left 1
  exact AllReadyH.nil
  · go_simp
    refine (refuseStep_any a n c fs b m d ps cp fu de W0.drew A B (by show B ≤ W0.heap.size; omega) (HF.out _ hb0.drew) (HP.out _ hb0.drew) HA.out).mono ?_
    rintro e w1 ⟨rfl, hb1x⟩
    have hb1 : Below W0.heap.size W0 w1 := ((Below.refl _ W0).drew).trans hb1x
    have hs1 := hb1.size
    have bel1 : Below w.heap.size w w1 := hb0.trans (hb1.mono (by omega))
    have S1 := HSS.out w1 hb1
    have kR := (hb1.block _ (by omega)).trans HK2.out
    obtain ⟨rf, hrf⟩ : ∃ rf, rf = rsI fs ps cp fu de := ⟨_, rfl⟩
    rw [← hrf]
    have HRF : Hid (rf = rsI fs ps cp fu de) := hrf
    clear hrf hb1x
    go_wp2_with fail
    refine hK.out _ _ S1 (fun hHeld => ?_)
    clear hK K
    try simp only [Act.put, List.setIfInBounds_toArray, List.set_cons_zero, List.set_cons_succ]
    refine wpAnyH_ready (rs := [3]) (by kernel_rfl) (by simp) ?_
    refine AllReadyH.cons (o := { dst := some 6, op := Op.call { callee := Callee.value (Operand.func 20), args := #[Operand.tmp 3, Operand.tmp 5, Operand.func 38], argTypes := #[26, 2, 55] }, type := 30, pos := "l1_disk.go:111", after := #[{ on := 0, ground := Ground.data }, { on := 2, ground := Ground.data }, { on := 2, ground := Ground.chain }], guard := none }) rfl (fun K hK => ?_) ?_
    rotate_left 1
    exact AllReadyH.nil
    · go_simp
      refine (deviceStepS_any a n c fs (lastF ps fs) b m d ps [] cp fu de rf w1 A B (by omega) (HF.out _ bel1) (HP.out _ bel1) hn hm HA.out HA2.out hfu (fun h => sync_ok (HRF.out.symm.trans h) w1)).mono ?_
      rintro e w2 hres
      obtain ⟨a2, c2, b2, d2, xs, vs, ys, us, rfl, hO2, hb2⟩ := hres.out
      have hs2 := hb2.size
      have S2 := HSS.out w2 (hb1.trans (hb2.mono hs1))
      have kR2 := (hb2.block _ (by omega)).trans kR
      have HR : Hid (ResAt w (.returned (.agg #[.int .i64 (dsE rf fu), .slice a2 (dsX rf fu fs (lastF ps fs)).length c2, .slice b2 (dsX rf fu ps []).length d2, .int .i64 cp, .int .i64 (dsF rf fu), .bool (dsD rf fu de)])) (put6R w2 (w.heap.size + 1) (.int .i64 (dsE rf fu)) (.slice a2 (dsX rf fu fs (lastF ps fs)).length c2) (.slice b2 (dsX rf fu ps []).length d2) (.int .i64 cp) (.int .i64 (dsF rf fu)) (.bool (dsD rf fu de))) (dsE rf fu) (dsX rf fu fs (lastF ps fs)) (dsX rf fu ps []) cp (dsF rf fu) (dsD rf fu de)) := ResAt.mk6 (by omega) (base := w1.heap.size) hO2 (by omega) (by omega) (bel1.trans (hb2.mono bel1.size))
      clear hres hO2
      go_wp2_with fail
      refine hK.out _ _ S2 (fun hHeld => ?_)
      clear hK K
      try simp only [Act.put, List.setIfInBounds_toArray, List.set_cons_zero, List.set_cons_succ]
      refine wpAnyH_ready (rs := [4]) (by kernel_rfl) (by simp) ?_
      refine AllReadyH.cons (o := { dst := none, op := Op.store 30 (Operand.tmp 2) (Operand.tmp 6), type := 0, pos := "l1_disk.go:111", after := #[{ on := 3, ground := Ground.data }, { on := 3, ground := Ground.chain }, { on := 0, ground := Ground.phase }, { on := 1, ground := Ground.phase }, { on := 2, ground := Ground.phase }, { on := 3, ground := Ground.phase }], guard := none }) rfl (fun K hK => ?_) ?_
      rotate_left 1
      exact AllReadyH.nil
      · obtain ⟨r0, r1, r2, r3, r4, r5⟩ := box_sixR kR2
        have ff := box_thawC kR2
        have HB := put6R_box kR2 (.int .i64 (dsE rf fu)) (.slice a2 (dsX rf fu fs (lastF ps fs)).length c2) (.slice b2 (dsX rf fu ps []).length d2) (.int .i64 cp) (.int .i64 (dsF rf fu)) (.bool (dsD rf fu de))
        have S3 : ((put6R w2 (w.heap.size + 1) (.int .i64 (dsE rf fu)) (.slice a2 (dsX rf fu fs (lastF ps fs)).length c2) (.slice b2 (dsX rf fu ps []).length d2) (.int .i64 cp) (.int .i64 (dsF rf fu)) (.bool (dsD rf fu de))).cell? ⟨w.heap.size, 0, none⟩ = some (.slice a n c) ∧ (put6R w2 (w.heap.size + 1) (.int .i64 (dsE rf fu)) (.slice a2 (dsX rf fu fs (lastF ps fs)).length c2) (.slice b2 (dsX rf fu ps []).length d2) (.int .i64 cp) (.int .i64 (dsF rf fu)) (.bool (dsD rf fu de))).cell? ⟨w.heap.size, 1, none⟩ = some (.slice b m d) ∧ (put6R w2 (w.heap.size + 1) (.int .i64 (dsE rf fu)) (.slice a2 (dsX rf fu fs (lastF ps fs)).length c2) (.slice b2 (dsX rf fu ps []).length d2) (.int .i64 cp) (.int .i64 (dsF rf fu)) (.bool (dsD rf fu de))).cell? ⟨w.heap.size, 2, none⟩ = some (.int .i64 cp) ∧ (put6R w2 (w.heap.size + 1) (.int .i64 (dsE rf fu)) (.slice a2 (dsX rf fu fs (lastF ps fs)).length c2) (.slice b2 (dsX rf fu ps []).length d2) (.int .i64 cp) (.int .i64 (dsF rf fu)) (.bool (dsD rf fu de))).cell? ⟨w.heap.size, 3, none⟩ = some (.int .i64 fu) ∧ (put6R w2 (w.heap.size + 1) (.int .i64 (dsE rf fu)) (.slice a2 (dsX rf fu fs (lastF ps fs)).length c2) (.slice b2 (dsX rf fu ps []).length d2) (.int .i64 cp) (.int .i64 (dsF rf fu)) (.bool (dsD rf fu de))).cell? ⟨w.heap.size, 4, none⟩ = some (.bool de)) := HSF.out _ _ S2 (put6R_fr _ _ _ _ _ _ _ _) (fun g e => by omega)
        go_simp
        clear r0 r1 r2 r3 r4 r5
        refine hK.out _ _ S3 (fun hHeld => ?_)
        clear hK K
        try simp only [Act.put, List.setIfInBounds_toArray, List.set_cons_zero, List.set_cons_succ]
        refine wpAnyH_done (by kernel_rfl) ?_ _
        refine NoPanic.normal ?_
        go_wp2
        show bodyPost _ _ _ _ _ (put6R w2 (w.heap.size + 1) (.int .i64 (dsE rf fu)) (.slice a2 (dsX rf fu fs (lastF ps fs)).length c2) (.slice b2 (dsX rf fu ps []).length d2) (.int .i64 cp) (.int .i64 (dsF rf fu)) (.bool (dsD rf fu de)))
        obtain ⟨r0, r1, r2, r3, r4, r5⟩ := box_sixR HB
        exact bodyPost_ret (v := .agg #[.int .i64 (dsE rf fu), .slice a2 (dsX rf fu fs (lastF ps fs)).length c2, .slice b2 (dsX rf fu ps []).length d2, .int .i64 cp, .int .i64 (dsF rf fu), .bool (dsD rf fu de)]) (by simp [results, Try.results8, go_sem, r0, r1, r2, r3, r4, r5]) rfl (by rw [← HRF.out]; exact HR.out)
end Go.Proofs.Yteienboknicpjaa
