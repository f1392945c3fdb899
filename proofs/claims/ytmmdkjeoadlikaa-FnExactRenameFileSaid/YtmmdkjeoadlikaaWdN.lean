import Derived.Test.YtmmdkjeoadlikaaWd
namespace Go.Proofs.Ytmmdkjeoadlikaa
open Go.RowKit
set_option linter.unusedVariables false
set_option maxRecDepth 100000

set_option maxHeartbeats 3200000 in
theorem deviceStepN_any (a : Option Addr) (n c : Nat) (fs gs : List PF) (b : Option Addr) (m d : Nat) (ps qs : List PP) (cp fu : Int) (de : Bool) (rf : Int) (N1 N2 : Nat) (w : World) (A B : Nat) (hB : B ≤ w.heap.size)
    (hF : FilesAt w A B a n c fs) (hP : PendsAt w A B b m d ps) (hn : n ≤ 1048576) (hm : m ≤ 1048576) (hall : ∀ j, j < n → (fs.getD j (ByteArray.empty, [])).2.length ≤ 1048576) (hall2 : ∀ j, j < m → (ps.getD j (ByteArray.empty, 0, [])).2.2.length ≤ 1048576) (hfu : -9223372036854775808 ≤ fu ∧ fu ≤ 9223372036854775807)
    (hC : rf = 0 → ChangeOk 58 #[.pointer (some ⟨N1, 0, none⟩), .pointer (some ⟨N2, 0, none⟩)] w fs gs ps qs cp de) :
    Calls Try.prog 49 #[.agg #[.slice a n c, .slice b m d, .int .i64 cp, .int .i64 fu, .bool de], .int .i64 rf, .func (.func 58) #[] #[.pointer (some ⟨N1, 0, none⟩), .pointer (some ⟨N2, 0, none⟩)]] w fun e w' => ResAt w e w' (dsE rf fu) (dsX rf fu fs gs) (dsX rf fu ps qs) cp (dsF rf fu) (dsD rf fu de) := by
  have HF : Hid (∀ W, Below w.heap.size w W → FilesAt W A B a n c fs) := fun W hW => hF.below (hW.mono hB)
  have HP : Hid (∀ W, Below w.heap.size w W → PendsAt W A B b m d ps) := fun W hW => hP.below (hW.mono hB)
  have HA : Hid (∀ j, j < n → (fs.getD j (ByteArray.empty, [])).2.length ≤ 1048576) := hall
  have HA2 : Hid (∀ j, j < m → (ps.getD j (ByteArray.empty, 0, [])).2.2.length ≤ 1048576) := hall2
  have HC : Hid (rf = 0 → ChangeOk 58 #[.pointer (some ⟨N1, 0, none⟩), .pointer (some ⟨N2, 0, none⟩)] w fs gs ps qs cp de) := hC
  clear hF hP hall hall2 hC
  go_enter Try.func49, Try.ntmps49
  go_wp2_with fail
  have hs0 : ((w.alloc (.cells #[.slice a n c, .slice b m d, .int .i64 cp, .int .i64 fu, .bool de] 32)).alloc (.cells #[.int .i64 0, .slice none 0 0, .slice none 0 0, .int .i64 0, .int .i64 0, .bool false] 40)).heap.size = w.heap.size + 2 := by simp
  have hb0 : Below w.heap.size w ((w.alloc (.cells #[.slice a n c, .slice b m d, .int .i64 cp, .int .i64 fu, .bool de] 32)).alloc (.cells #[.int .i64 0, .slice none 0 0, .slice none 0 0, .int .i64 0, .int .i64 0, .bool false] 40)) := ((Below.refl _ _).alloc (Nat.le_refl _) _).alloc (by simp) _
  have k0 : ((w.alloc (.cells #[.slice a n c, .slice b m d, .int .i64 cp, .int .i64 fu, .bool de] 32)).alloc (.cells #[.int .i64 0, .slice none 0 0, .slice none 0 0, .int .i64 0, .int .i64 0, .bool false] 40)).heap[w.heap.size]? = some (.cells #[.slice a n c, .slice b m d, .int .i64 cp, .int .i64 fu, .bool de] 32) := by rw [heap_alloc_old _ _ (by simp)]; exact heap_alloc_new _ _
  have k1 : ((w.alloc (.cells #[.slice a n c, .slice b m d, .int .i64 cp, .int .i64 fu, .bool de] 32)).alloc (.cells #[.int .i64 0, .slice none 0 0, .slice none 0 0, .int .i64 0, .int .i64 0, .bool false] 40)).heap[w.heap.size + 1]? = some (.cells #[.int .i64 0, .slice none 0 0, .slice none 0 0, .int .i64 0, .int .i64 0, .bool false] 40) := by have := heap_alloc_new (w.alloc (.cells #[.slice a n c, .slice b m d, .int .i64 cp, .int .i64 fu, .bool de] 32)) (.cells #[.int .i64 0, .slice none 0 0, .slice none 0 0, .int .i64 0, .int .i64 0, .bool false] 40); simpa using this
  generalize ((w.alloc (.cells #[.slice a n c, .slice b m d, .int .i64 cp, .int .i64 fu, .bool de] 32)).alloc (.cells #[.int .i64 0, .slice none 0 0, .slice none 0 0, .int .i64 0, .int .i64 0, .bool false] 40)) = W0 at hs0 hb0 k0 k1 ⊢
  refine (copyDisk_any a n c fs b m d ps cp fu de W0 A B (by omega) (HF.out W0 hb0) (HP.out W0 hb0) hn hm HA.out HA2.out).mono ?_
  rintro e w1 ⟨v, u, xs, vs, ys, us, rfl, hO1, hb1⟩
  obtain ⟨⟨a1, c1, rfl⟩, b1, d1, rfl⟩ := hO1.shape
  have hs1 := hb1.size
  have j0 := (hb1.block w.heap.size (by omega)).trans k0
  have j1 := (hb1.block (w.heap.size + 1) (by omega)).trans k1
  have bel1 : Below w.heap.size w w1 := hb0.trans (hb1.mono (by omega))
  rw [hs0] at hO1 hs1
  clear hb0 k0 k1 hb1 hs0 HF HP HA HA2
  obtain ⟨r0, r1, r2, r3, r4, r5⟩ := box_sixR j1
  have ff := box_thawC j1
  have hl0 : w.heap.size < w1.heap.size := by omega
  have hl1 : w.heap.size + 1 < w1.heap.size := by omega
  by_cases hrf : rf = 0
  · have HCL : Hid (ChangeOk 58 #[.pointer (some ⟨N1, 0, none⟩), .pointer (some ⟨N2, 0, none⟩)] w fs gs ps qs cp de) := HC.out hrf
    subst hrf
    clear HC
    by_cases h0 : fu = 0
    · subst h0
      have HB := put6R_box j1 (.int .i64 3) (.slice a1 fs.length c1) (.slice b1 ps.length d1) (.int .i64 cp) (.int .i64 0) (.bool true)
      have hsz : (put6R w1 (w.heap.size + 1) (.int .i64 3) (.slice a1 fs.length c1) (.slice b1 ps.length d1) (.int .i64 cp) (.int .i64 0) (.bool true)).heap.size = w1.heap.size := by simp [put6R, World.setCell]
      have HB2 : ((put6R w1 (w.heap.size + 1) (.int .i64 3) (.slice a1 fs.length c1) (.slice b1 ps.length d1) (.int .i64 cp) (.int .i64 0) (.bool true)).alloc (.cells #[.slice a1 fs.length c1, .slice b1 ps.length d1, .int .i64 cp, .int .i64 0, .bool true] 32)).heap[w.heap.size + 1]? = some (.cells #[.int .i64 3, .slice a1 fs.length c1, .slice b1 ps.length d1, .int .i64 cp, .int .i64 0, .bool true] 40) := (heap_alloc_old _ _ (by rw [hsz]; omega)).trans HB
      have HR0 : ResAt w (.returned (.agg #[.int .i64 3, .slice a1 fs.length c1, .slice b1 ps.length d1, .int .i64 cp, .int .i64 0, .bool true])) (put6R w1 (w.heap.size + 1) (.int .i64 3) (.slice a1 fs.length c1) (.slice b1 ps.length d1) (.int .i64 cp) (.int .i64 0) (.bool true)) 3 fs ps cp 0 true := ResAt.mk6 (by omega) hO1 (by omega) (by omega) bel1
      have HR : Hid (ResAt w (.returned (.agg #[.int .i64 3, .slice a1 fs.length c1, .slice b1 ps.length d1, .int .i64 cp, .int .i64 0, .bool true])) ((put6R w1 (w.heap.size + 1) (.int .i64 3) (.slice a1 fs.length c1) (.slice b1 ps.length d1) (.int .i64 cp) (.int .i64 0) (.bool true)).alloc (.cells #[.slice a1 fs.length c1, .slice b1 ps.length d1, .int .i64 cp, .int .i64 0, .bool true] 32)) 3 fs ps cp 0 true) := HR0.after ((Below.refl _ _).alloc (Nat.le_refl _) _)
      clear HR0 HB hsz hO1 bel1 j0 j1
      go_wp2
      show bodyPost _ _ _ _ _ ((put6R w1 (w.heap.size + 1) (.int .i64 3) (.slice a1 fs.length c1) (.slice b1 ps.length d1) (.int .i64 cp) (.int .i64 0) (.bool true)).alloc (.cells #[.slice a1 fs.length c1, .slice b1 ps.length d1, .int .i64 cp, .int .i64 0, .bool true] 32))
      clear r0 r1 r2 r3 r4 r5 ff
      obtain ⟨r0, r1, r2, r3, r4, r5⟩ := box_sixR HB2
      exact bodyPost_ret (v := .agg #[.int .i64 3, .slice a1 fs.length c1, .slice b1 ps.length d1, .int .i64 cp, .int .i64 0, .bool true]) (by simp [results, Try.results49, go_sem, r0, r1, r2, r3, r4, r5]) rfl (by rw [show dsE 0 0 = 3 from rfl, show dsX 0 0 fs gs = fs from rfl, show dsX 0 0 ps qs = ps from rfl, show dsF 0 0 = 0 from rfl, show dsD 0 0 de = true from rfl]; exact HR.out)
    · have h0x : (fu == 0) = false := by simp [h0]
      by_cases h1 : 0 < fu
      · have hal : Below w1.heap.size w1 (w1.alloc (.cells #[.slice a1 fs.length c1, .slice b1 ps.length d1, .int .i64 cp, .int .i64 (fu - 1), .bool de] 32)) := (Below.refl _ _).alloc (Nat.le_refl _) _
        have o2 := heap_alloc_new w1 (.cells #[.slice a1 fs.length c1, .slice b1 ps.length d1, .int .i64 cp, .int .i64 (fu - 1), .bool de] 32)
        have i1 := (hal.block (w.heap.size + 1) (by omega)).trans j1
        have hO2 := hO1.below hal
        have bel2 := bel1.trans (hal.mono bel1.size)
        have hs2 : w1.heap.size < (w1.alloc (.cells #[.slice a1 fs.length c1, .slice b1 ps.length d1, .int .i64 cp, .int .i64 (fu - 1), .bool de] 32)).heap.size := (Array.getElem?_eq_some_iff.1 o2).1
        have HO1 : Hid (∀ g, Blk (.slice a1 fs.length c1) vs g ∨ Blk (.slice b1 ps.length d1) us g → w.heap.size + 2 ≤ g ∧ g < w1.heap.size) := fun g hg => hO1.blk hg
        have HBL : Hid (Below w.heap.size w (w1.alloc (.cells #[.slice a1 fs.length c1, .slice b1 ps.length d1, .int .i64 cp, .int .i64 (fu - 1), .bool de] 32))) := bel2
        have HO2 : Hid (OwnD (w1.alloc (.cells #[.slice a1 fs.length c1, .slice b1 ps.length d1, .int .i64 cp, .int .i64 (fu - 1), .bool de] 32)) (w.heap.size + 2) (.slice a1 fs.length c1) (.slice b1 ps.length d1) fs ps xs vs ys us) := hO2
        clear hO1 hO2 bel1 bel2 hal
        go_wp2_with fail
        generalize w1.alloc (.cells #[.slice a1 fs.length c1, .slice b1 ps.length d1, .int .i64 cp, .int .i64 (fu - 1), .bool de] 32) = W1 at o2 i1 hs2 HBL HO2 ⊢
        refine (HCL.out W1 w1.heap.size (fu - 1) a1 c1 b1 d1 xs vs ys us HBL.out (by omega) o2 HO2.out (fun g hg => (HO1.out g hg).2)).mono ?_
        rintro e w2 ⟨rfl, gs, qs, a2, c2, b2, d2, xs2, vs2, ys2, us2, ⟨rfl, rfl⟩, o3, hO3, hF3⟩
        have i3 := (hF3.block (w.heap.size + 1) (by omega) (fun e => by rcases e with e | e; (omega); (have := HO1.out _ e; omega))).trans i1
        have bel3 : Below w.heap.size w w2 := HBL.out.trans (hF3.below (by omega) (fun g e => by rcases e with e | e; (omega); (have := HO1.out _ e; omega)))
        have hs3 := hF3.size
        clear r0 r1 r2 r3 r4 r5 ff
        obtain ⟨r0, r1, r2, r3, r4, r5⟩ := box_sixR i3
        have ff := box_thawC i3
        obtain ⟨t0, t1, t2, t3, t4⟩ := box_fiveC o3
        have HB := put6R_box i3 (.int .i64 0) (.slice a2 gs.length c2) (.slice b2 qs.length d2) (.int .i64 cp) (.int .i64 (fu - 1)) (.bool de)
        have HR : Hid (ResAt w (.returned (.agg #[.int .i64 0, .slice a2 gs.length c2, .slice b2 qs.length d2, .int .i64 cp, .int .i64 (fu - 1), .bool de])) (put6R w2 (w.heap.size + 1) (.int .i64 0) (.slice a2 gs.length c2) (.slice b2 qs.length d2) (.int .i64 cp) (.int .i64 (fu - 1)) (.bool de)) 0 gs qs cp (fu - 1) de) := ResAt.mk6 (by omega) hO3 (by omega) (by omega) bel3
        clear hO3 bel3 hF3 i1 o2 o3 i3 HBL HO2 HO1
        go_wp2
        show bodyPost _ _ _ _ _ (put6R w2 (w.heap.size + 1) (.int .i64 0) (.slice a2 gs.length c2) (.slice b2 qs.length d2) (.int .i64 cp) (.int .i64 (fu - 1)) (.bool de))
        clear r0 r1 r2 r3 r4 r5 ff
        obtain ⟨r0, r1, r2, r3, r4, r5⟩ := box_sixR HB
        exact bodyPost_ret (v := .agg #[.int .i64 0, .slice a2 gs.length c2, .slice b2 qs.length d2, .int .i64 cp, .int .i64 (fu - 1), .bool de]) (by simp [results, Try.results49, go_sem, r0, r1, r2, r3, r4, r5]) rfl (by rw [show dsE 0 fu = 0 from if_neg h0, show dsX 0 fu fs gs = gs from if_pos ⟨rfl, h0⟩, show dsX 0 fu ps qs = qs from if_pos ⟨rfl, h0⟩, show dsF 0 fu = fu - 1 by (rw [dsF, if_pos rfl, spF, if_pos (by omega)]), show dsD 0 fu de = de from if_neg h0]; exact HR.out)
      · have h1x : decide (0 < fu) = false := decide_eq_false h1
        have hal : Below w1.heap.size w1 (w1.alloc (.cells #[.slice a1 fs.length c1, .slice b1 ps.length d1, .int .i64 cp, .int .i64 fu, .bool de] 32)) := (Below.refl _ _).alloc (Nat.le_refl _) _
        have o2 := heap_alloc_new w1 (.cells #[.slice a1 fs.length c1, .slice b1 ps.length d1, .int .i64 cp, .int .i64 fu, .bool de] 32)
        have i1 := (hal.block (w.heap.size + 1) (by omega)).trans j1
        have hO2 := hO1.below hal
        have bel2 := bel1.trans (hal.mono bel1.size)
        have hs2 : w1.heap.size < (w1.alloc (.cells #[.slice a1 fs.length c1, .slice b1 ps.length d1, .int .i64 cp, .int .i64 fu, .bool de] 32)).heap.size := (Array.getElem?_eq_some_iff.1 o2).1
        have HO1 : Hid (∀ g, Blk (.slice a1 fs.length c1) vs g ∨ Blk (.slice b1 ps.length d1) us g → w.heap.size + 2 ≤ g ∧ g < w1.heap.size) := fun g hg => hO1.blk hg
        have HBL : Hid (Below w.heap.size w (w1.alloc (.cells #[.slice a1 fs.length c1, .slice b1 ps.length d1, .int .i64 cp, .int .i64 fu, .bool de] 32))) := bel2
        have HO2 : Hid (OwnD (w1.alloc (.cells #[.slice a1 fs.length c1, .slice b1 ps.length d1, .int .i64 cp, .int .i64 fu, .bool de] 32)) (w.heap.size + 2) (.slice a1 fs.length c1) (.slice b1 ps.length d1) fs ps xs vs ys us) := hO2
        clear hO1 hO2 bel1 bel2 hal
        go_wp2_with fail
        generalize w1.alloc (.cells #[.slice a1 fs.length c1, .slice b1 ps.length d1, .int .i64 cp, .int .i64 fu, .bool de] 32) = W1 at o2 i1 hs2 HBL HO2 ⊢
        refine (HCL.out W1 w1.heap.size fu a1 c1 b1 d1 xs vs ys us HBL.out (by omega) o2 HO2.out (fun g hg => (HO1.out g hg).2)).mono ?_
        rintro e w2 ⟨rfl, gs, qs, a2, c2, b2, d2, xs2, vs2, ys2, us2, ⟨rfl, rfl⟩, o3, hO3, hF3⟩
        have i3 := (hF3.block (w.heap.size + 1) (by omega) (fun e => by rcases e with e | e; (omega); (have := HO1.out _ e; omega))).trans i1
        have bel3 : Below w.heap.size w w2 := HBL.out.trans (hF3.below (by omega) (fun g e => by rcases e with e | e; (omega); (have := HO1.out _ e; omega)))
        have hs3 := hF3.size
        clear r0 r1 r2 r3 r4 r5 ff
        obtain ⟨r0, r1, r2, r3, r4, r5⟩ := box_sixR i3
        have ff := box_thawC i3
        obtain ⟨t0, t1, t2, t3, t4⟩ := box_fiveC o3
        have HB := put6R_box i3 (.int .i64 0) (.slice a2 gs.length c2) (.slice b2 qs.length d2) (.int .i64 cp) (.int .i64 fu) (.bool de)
        have HR : Hid (ResAt w (.returned (.agg #[.int .i64 0, .slice a2 gs.length c2, .slice b2 qs.length d2, .int .i64 cp, .int .i64 fu, .bool de])) (put6R w2 (w.heap.size + 1) (.int .i64 0) (.slice a2 gs.length c2) (.slice b2 qs.length d2) (.int .i64 cp) (.int .i64 fu) (.bool de)) 0 gs qs cp fu de) := ResAt.mk6 (by omega) hO3 (by omega) (by omega) bel3
        clear hO3 bel3 hF3 i1 o2 o3 i3 HBL HO2 HO1
        go_wp2
        show bodyPost _ _ _ _ _ (put6R w2 (w.heap.size + 1) (.int .i64 0) (.slice a2 gs.length c2) (.slice b2 qs.length d2) (.int .i64 cp) (.int .i64 fu) (.bool de))
        clear r0 r1 r2 r3 r4 r5 ff
        obtain ⟨r0, r1, r2, r3, r4, r5⟩ := box_sixR HB
        exact bodyPost_ret (v := .agg #[.int .i64 0, .slice a2 gs.length c2, .slice b2 qs.length d2, .int .i64 cp, .int .i64 fu, .bool de]) (by simp [results, Try.results49, go_sem, r0, r1, r2, r3, r4, r5]) rfl (by rw [show dsE 0 fu = 0 from if_neg h0, show dsX 0 fu fs gs = gs from if_pos ⟨rfl, h0⟩, show dsX 0 fu ps qs = qs from if_pos ⟨rfl, h0⟩, show dsF 0 fu = fu by (rw [dsF, if_pos rfl, spF, if_neg (by omega)]), show dsD 0 fu de = de from if_neg h0]; exact HR.out)
  · have hrx : (rf != 0) = true := by simp [hrf]
    have HB := put6R_box j1 (.int .i64 rf) (.slice a1 fs.length c1) (.slice b1 ps.length d1) (.int .i64 cp) (.int .i64 fu) (.bool de)
    have hsz : (put6R w1 (w.heap.size + 1) (.int .i64 rf) (.slice a1 fs.length c1) (.slice b1 ps.length d1) (.int .i64 cp) (.int .i64 fu) (.bool de)).heap.size = w1.heap.size := by simp [put6R, World.setCell]
    have HB2 : ((put6R w1 (w.heap.size + 1) (.int .i64 rf) (.slice a1 fs.length c1) (.slice b1 ps.length d1) (.int .i64 cp) (.int .i64 fu) (.bool de)).alloc (.cells #[.slice a1 fs.length c1, .slice b1 ps.length d1, .int .i64 cp, .int .i64 fu, .bool de] 32)).heap[w.heap.size + 1]? = some (.cells #[.int .i64 rf, .slice a1 fs.length c1, .slice b1 ps.length d1, .int .i64 cp, .int .i64 fu, .bool de] 40) := (heap_alloc_old _ _ (by rw [hsz]; omega)).trans HB
    have HR0 : ResAt w (.returned (.agg #[.int .i64 rf, .slice a1 fs.length c1, .slice b1 ps.length d1, .int .i64 cp, .int .i64 fu, .bool de])) (put6R w1 (w.heap.size + 1) (.int .i64 rf) (.slice a1 fs.length c1) (.slice b1 ps.length d1) (.int .i64 cp) (.int .i64 fu) (.bool de)) rf fs ps cp fu de := ResAt.mk6 (by omega) hO1 (by omega) (by omega) bel1
    have HR : Hid (ResAt w (.returned (.agg #[.int .i64 rf, .slice a1 fs.length c1, .slice b1 ps.length d1, .int .i64 cp, .int .i64 fu, .bool de])) ((put6R w1 (w.heap.size + 1) (.int .i64 rf) (.slice a1 fs.length c1) (.slice b1 ps.length d1) (.int .i64 cp) (.int .i64 fu) (.bool de)).alloc (.cells #[.slice a1 fs.length c1, .slice b1 ps.length d1, .int .i64 cp, .int .i64 fu, .bool de] 32)) rf fs ps cp fu de) := HR0.after ((Below.refl _ _).alloc (Nat.le_refl _) _)
    clear HR0 HB hsz hO1 bel1 j0 j1
    go_wp2
    show bodyPost _ _ _ _ _ ((put6R w1 (w.heap.size + 1) (.int .i64 rf) (.slice a1 fs.length c1) (.slice b1 ps.length d1) (.int .i64 cp) (.int .i64 fu) (.bool de)).alloc (.cells #[.slice a1 fs.length c1, .slice b1 ps.length d1, .int .i64 cp, .int .i64 fu, .bool de] 32))
    clear r0 r1 r2 r3 r4 r5 ff
    obtain ⟨r0, r1, r2, r3, r4, r5⟩ := box_sixR HB2
    exact bodyPost_ret (v := .agg #[.int .i64 rf, .slice a1 fs.length c1, .slice b1 ps.length d1, .int .i64 cp, .int .i64 fu, .bool de]) (by simp [results, Try.results49, go_sem, r0, r1, r2, r3, r4, r5]) rfl (by rw [show dsE rf fu = rf from if_neg hrf, show dsX rf fu fs gs = fs from if_neg (fun h => hrf h.1), show dsX rf fu ps qs = ps from if_neg (fun h => hrf h.1), show dsF rf fu = fu from if_neg hrf, show dsD rf fu de = de from if_neg hrf]; exact HR.out)
end Go.Proofs.Ytmmdkjeoadlikaa
