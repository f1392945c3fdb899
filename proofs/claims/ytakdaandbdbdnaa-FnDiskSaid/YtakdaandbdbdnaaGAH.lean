import Derived.Test.YtakdaandbdbdnaaGAB
import Derived.Test.YtakdaandbdbdnaaGAE
import Derived.Test.YtakdaandbdbdnaaGAF
import Derived.Test.YtakdaandbdbdnaaSpV
import Derived.Lib.SliceRun
import Derived.Sort.Walk0
import Derived.Maps.OwnSet
namespace Go.Proofs.Ytakdaandbdbdnaa
open Go.RowKit
set_option linter.unusedVariables false
set_option linter.unusedSimpArgs false
set_option maxRecDepth 100000
structure ResAt (w : World) (e : Ending) (w' : World) (er : Int) (fs : List PF) (ps : List PP) (cp fu : Int) (de : Bool) : Prop where
 out : ∃ (a : Option Addr) (c : Nat) (b : Option Addr) (d : Nat) (xs vs ys us : List Value), e = .returned (.agg #[.int .i64 er, .slice a fs.length c, .slice b ps.length d, .int .i64 cp, .int .i64 fu, .bool de]) ∧ OwnD w' w.heap.size (.slice a fs.length c) (.slice b ps.length d) fs ps xs vs ys us ∧ Below w.heap.size w w'
theorem OwnD.frS {S : Nat → Prop} {w w' : World} {base : Nat} {v u : Value} {fs : List PF} {ps : List PP} {xs vs ys us : List Value} (h : OwnD w base v u fs ps xs vs ys us) (hf : Fr S w w') (hS : ∀ g, S g → ¬ (Blk v vs g ∨ Blk u us g)) : OwnD w' base v u fs ps xs vs ys us :=
 ⟨h.files.fr hf (fun g hg e => hS g e (.inl hg)), h.cache.fr hf (fun g hg e => hS g e (.inr hg)), h.apart⟩
theorem OwnD.blk {w : World} {base : Nat} {v u : Value} {fs : List PF} {ps : List PP} {xs vs ys us : List Value} (h : OwnD w base v u fs ps xs vs ys us) {g : Nat} (hg : Blk v vs g ∨ Blk u us g) : base ≤ g ∧ g < w.heap.size := hg.elim h.files.blk h.cache.blk
theorem OwnD.lower {w : World} {base base' : Nat} {v u : Value} {fs : List PF} {ps : List PP} {xs vs ys us : List Value} (h : OwnD w base v u fs ps xs vs ys us) (hb : base' ≤ base) : OwnD w base' v u fs ps xs vs ys us := ⟨OwnF.lower h.files hb, OwnP.lower h.cache hb, h.apart⟩
theorem OwnD.shape {w : World} {base : Nat} {v u : Value} {fs : List PF} {ps : List PP} {xs vs ys us : List Value} (h : OwnD w base v u fs ps xs vs ys us) : (∃ a c, v = .slice a fs.length c) ∧ ∃ b d, u = .slice b ps.length d := ⟨own_shape h.files.row, own_shape h.cache.row⟩
def put6R (w : World) (N : Nat) (u0 u1 u2 u3 u4 u5 : Value) : World := (((((w.setCell ⟨N, 0, none⟩ u0).setCell ⟨N, 1, none⟩ u1).setCell ⟨N, 2, none⟩ u2).setCell ⟨N, 3, none⟩ u3).setCell ⟨N, 4, none⟩ u4).setCell ⟨N, 5, none⟩ u5
theorem put6R_box {w : World} {N t : Nat} {v0 v1 v2 v3 v4 v5 : Value} (h : w.heap[N]? = some (.cells #[v0, v1, v2, v3, v4, v5] t)) (u0 u1 u2 u3 u4 u5 : Value) : (put6R w N u0 u1 u2 u3 u4 u5).heap[N]? = some (.cells #[u0, u1, u2, u3, u4, u5] t) := by
 simp [put6R, World.setCell, Array.getElem?_modify, h]
theorem put6R_fr (w : World) (N : Nat) (u0 u1 u2 u3 u4 u5 : Value) : Fr (fun x => x = N) w (put6R w N u0 u1 u2 u3 u4 u5) :=
 (((((fr_setCell _ _ _ _).trans (fr_setCell _ _ _ _)).trans (fr_setCell _ _ _ _)).trans (fr_setCell _ _ _ _)).trans (fr_setCell _ _ _ _)).trans (fr_setCell _ _ _ _)
def spE (fu : Int) : Int := if fu = 0 then 3 else 0
def spF (fu : Int) : Int := if 0 < fu then fu - 1 else fu
def spD (fu : Int) (de : Bool) : Bool := if fu = 0 then true else de
theorem ResAt.mk6 {w X : World} {R base : Nat} {er cp fu : Int} {de : Bool} {a b : Option Addr} {c d : Nat} {fs : List PF} {ps : List PP} {xs vs ys us : List Value} (hRw : w.heap.size ≤ R) (hO : OwnD X base (.slice a fs.length c) (.slice b ps.length d) fs ps xs vs ys us) (hRb : R < base) (hX : R < X.heap.size) (hbel : Below w.heap.size w X) :
  ResAt w (.returned (.agg #[.int .i64 er, .slice a fs.length c, .slice b ps.length d, .int .i64 cp, .int .i64 fu, .bool de])) (put6R X R (.int .i64 er) (.slice a fs.length c) (.slice b ps.length d) (.int .i64 cp) (.int .i64 fu) (.bool de)) er fs ps cp fu de := by
 have hz := put6R_fr X R (.int .i64 er) (.slice a fs.length c) (.slice b ps.length d) (.int .i64 cp) (.int .i64 fu) (.bool de)
 exact ⟨⟨a, c, b, d, xs, vs, ys, us, rfl, OwnD.lower (hO.frS hz (fun g e hg => by have := (hO.blk hg).1; omega)) (by omega), hbel.trans (hz.below (by omega) (fun g e => by omega))⟩⟩
theorem ResAt.after {w X X' : World} {e : Ending} {er cp fu : Int} {de : Bool} {fs : List PF} {ps : List PP} (h : ResAt w e X er fs ps cp fu de) (hb : Below X.heap.size X X') : ResAt w e X' er fs ps cp fu de := by
 obtain ⟨a, c, b, d, xs, vs, ys, us, e1, hO, hbel⟩ := h.out
 exact ⟨⟨a, c, b, d, xs, vs, ys, us, e1, hO.below hb, hbel.trans (hb.mono hbel.size)⟩⟩
set_option maxHeartbeats 800000 in
theorem l1Bad_any (a : Option Addr) (n c : Nat) (fs : List PF) (b : Option Addr) (m d : Nat) (ps : List PP) (cp fu : Int) (de : Bool) (w : World) (A B : Nat) (hB : B ≤ w.heap.size)
  (hF : FilesAt w A B a n c fs) (hP : PendsAt w A B b m d ps) (hn : n ≤ 1048576) (hm : m ≤ 1048576) (hall : ∀ j, j < n → (fs.getD j (ByteArray.empty, [])).2.length ≤ 1048576) (hall2 : ∀ j, j < m → (ps.getD j (ByteArray.empty, 0, [])).2.2.length ≤ 1048576) :
  Calls Try.prog 42 #[.agg #[.slice a n c, .slice b m d, .int .i64 cp, .int .i64 fu, .bool de]] w fun e w' => ResAt w e w' 1 fs ps cp fu de := by
 have HF : Hid (∀ W, Below w.heap.size w W → FilesAt W A B a n c fs) := fun W hW => hF.below (hW.mono hB)
 have HP : Hid (∀ W, Below w.heap.size w W → PendsAt W A B b m d ps) := fun W hW => hP.below (hW.mono hB)
 have HA : Hid (∀ j, j < n → (fs.getD j (ByteArray.empty, [])).2.length ≤ 1048576) := hall
 have HA2 : Hid (∀ j, j < m → (ps.getD j (ByteArray.empty, 0, [])).2.2.length ≤ 1048576) := hall2
 clear hF hP hall hall2
 go_enter Try.func42, Try.ntmps42
 go_wp2_with fail
 have hs0 : ((w.alloc (.cells #[.slice a n c, .slice b m d, .int .i64 cp, .int .i64 fu, .bool de] 26)).alloc (.cells #[.int .i64 0, .slice none 0 0, .slice none 0 0, .int .i64 0, .int .i64 0, .bool false] 30)).heap.size = w.heap.size + 2 := by simp
 have hb0 : Below w.heap.size w ((w.alloc (.cells #[.slice a n c, .slice b m d, .int .i64 cp, .int .i64 fu, .bool de] 26)).alloc (.cells #[.int .i64 0, .slice none 0 0, .slice none 0 0, .int .i64 0, .int .i64 0, .bool false] 30)) := ((Below.refl _ _).alloc (Nat.le_refl _) _).alloc (by simp) _
 have k0 : ((w.alloc (.cells #[.slice a n c, .slice b m d, .int .i64 cp, .int .i64 fu, .bool de] 26)).alloc (.cells #[.int .i64 0, .slice none 0 0, .slice none 0 0, .int .i64 0, .int .i64 0, .bool false] 30)).heap[w.heap.size]? = some (.cells #[.slice a n c, .slice b m d, .int .i64 cp, .int .i64 fu, .bool de] 26) := by rw [heap_alloc_old _ _ (by simp)]; exact heap_alloc_new _ _
 have k1 : ((w.alloc (.cells #[.slice a n c, .slice b m d, .int .i64 cp, .int .i64 fu, .bool de] 26)).alloc (.cells #[.int .i64 0, .slice none 0 0, .slice none 0 0, .int .i64 0, .int .i64 0, .bool false] 30)).heap[w.heap.size + 1]? = some (.cells #[.int .i64 0, .slice none 0 0, .slice none 0 0, .int .i64 0, .int .i64 0, .bool false] 30) := by have := heap_alloc_new (w.alloc (.cells #[.slice a n c, .slice b m d, .int .i64 cp, .int .i64 fu, .bool de] 26)) (.cells #[.int .i64 0, .slice none 0 0, .slice none 0 0, .int .i64 0, .int .i64 0, .bool false] 30); simpa using this
 generalize ((w.alloc (.cells #[.slice a n c, .slice b m d, .int .i64 cp, .int .i64 fu, .bool de] 26)).alloc (.cells #[.int .i64 0, .slice none 0 0, .slice none 0 0, .int .i64 0, .int .i64 0, .bool false] 30)) = W0 at hs0 hb0 k0 k1 ⊢
 refine (l1Copy_any a n c fs b m d ps cp fu de W0 A B (by omega) (HF.out W0 hb0) (HP.out W0 hb0) hn hm HA.out HA2.out).mono ?_
 rintro e w1 ⟨v, u, xs, vs, ys, us, rfl, hO1, hb1⟩
 obtain ⟨⟨a1, c1, rfl⟩, b1, d1, rfl⟩ := hO1.shape
 have hs1 := hb1.size
 have j0 := (hb1.block w.heap.size (by omega)).trans k0
 have j1 := (hb1.block (w.heap.size + 1) (by omega)).trans k1
 have bel1 : Below w.heap.size w w1 := hb0.trans (hb1.mono (by omega))
 rw [hs0] at hO1 hs1
 clear hb0 k0 k1 hb1 hs0 HF HP HA HA2
 have jR := j1
 obtain ⟨r0, r1, r2, r3, r4, r5⟩ := box_sixR jR
 have ff := box_thawC jR
 have HB := put6R_box jR (.int .i64 1) (.slice a1 fs.length c1) (.slice b1 ps.length d1) (.int .i64 cp) (.int .i64 fu) (.bool de)
 have HR : Hid (ResAt w (.returned (.agg #[.int .i64 1, .slice a1 fs.length c1, .slice b1 ps.length d1, .int .i64 cp, .int .i64 fu, .bool de])) (put6R w1 (w.heap.size + 1) (.int .i64 1) (.slice a1 fs.length c1) (.slice b1 ps.length d1) (.int .i64 cp) (.int .i64 fu) (.bool de)) 1 fs ps cp fu de) := ResAt.mk6 (by omega) hO1 (by omega) (by omega) bel1
 clear hO1 bel1 j0 j1
 go_wp2
 show bodyPost _ _ _ _ _ (put6R w1 (w.heap.size + 1) (.int .i64 1) (.slice a1 fs.length c1) (.slice b1 ps.length d1) (.int .i64 cp) (.int .i64 fu) (.bool de))
 clear r0 r1 r2 r3 r4 r5
 obtain ⟨r0, r1, r2, r3, r4, r5⟩ := box_sixR HB
 exact bodyPost_ret (v := .agg #[.int .i64 1, .slice a1 fs.length c1, .slice b1 ps.length d1, .int .i64 cp, .int .i64 fu, .bool de]) (by simp [results, Try.results42, go_sem, r0, r1, r2, r3, r4, r5]) rfl HR.out
set_option maxHeartbeats 800000 in
theorem l1Spend_any (a : Option Addr) (n c : Nat) (fs : List PF) (b : Option Addr) (m d : Nat) (ps : List PP) (cp fu : Int) (de : Bool) (w : World) (A B : Nat) (hB : B ≤ w.heap.size)
  (hF : FilesAt w A B a n c fs) (hP : PendsAt w A B b m d ps) (hn : n ≤ 1048576) (hm : m ≤ 1048576) (hall : ∀ j, j < n → (fs.getD j (ByteArray.empty, [])).2.length ≤ 1048576) (hall2 : ∀ j, j < m → (ps.getD j (ByteArray.empty, 0, [])).2.2.length ≤ 1048576) (hfu : -9223372036854775808 ≤ fu ∧ fu ≤ 9223372036854775807) :
  Calls Try.prog 47 #[.agg #[.slice a n c, .slice b m d, .int .i64 cp, .int .i64 fu, .bool de]] w fun e w' => ResAt w e w' (spE fu) fs ps cp (spF fu) (spD fu de) := by
 have HF : Hid (∀ W, Below w.heap.size w W → FilesAt W A B a n c fs) := fun W hW => hF.below (hW.mono hB)
 have HP : Hid (∀ W, Below w.heap.size w W → PendsAt W A B b m d ps) := fun W hW => hP.below (hW.mono hB)
 have HA : Hid (∀ j, j < n → (fs.getD j (ByteArray.empty, [])).2.length ≤ 1048576) := hall
 have HA2 : Hid (∀ j, j < m → (ps.getD j (ByteArray.empty, 0, [])).2.2.length ≤ 1048576) := hall2
 clear hF hP hall hall2
 go_enter Try.func47, Try.ntmps47
 go_wp2_with fail
 have hs0 : ((w.alloc (.cells #[.slice a n c, .slice b m d, .int .i64 cp, .int .i64 fu, .bool de] 26)).alloc (.cells #[.int .i64 0, .slice none 0 0, .slice none 0 0, .int .i64 0, .int .i64 0, .bool false] 30)).heap.size = w.heap.size + 2 := by simp
 have hb0 : Below w.heap.size w ((w.alloc (.cells #[.slice a n c, .slice b m d, .int .i64 cp, .int .i64 fu, .bool de] 26)).alloc (.cells #[.int .i64 0, .slice none 0 0, .slice none 0 0, .int .i64 0, .int .i64 0, .bool false] 30)) := ((Below.refl _ _).alloc (Nat.le_refl _) _).alloc (by simp) _
 have k0 : ((w.alloc (.cells #[.slice a n c, .slice b m d, .int .i64 cp, .int .i64 fu, .bool de] 26)).alloc (.cells #[.int .i64 0, .slice none 0 0, .slice none 0 0, .int .i64 0, .int .i64 0, .bool false] 30)).heap[w.heap.size]? = some (.cells #[.slice a n c, .slice b m d, .int .i64 cp, .int .i64 fu, .bool de] 26) := by rw [heap_alloc_old _ _ (by simp)]; exact heap_alloc_new _ _
 have k1 : ((w.alloc (.cells #[.slice a n c, .slice b m d, .int .i64 cp, .int .i64 fu, .bool de] 26)).alloc (.cells #[.int .i64 0, .slice none 0 0, .slice none 0 0, .int .i64 0, .int .i64 0, .bool false] 30)).heap[w.heap.size + 1]? = some (.cells #[.int .i64 0, .slice none 0 0, .slice none 0 0, .int .i64 0, .int .i64 0, .bool false] 30) := by have := heap_alloc_new (w.alloc (.cells #[.slice a n c, .slice b m d, .int .i64 cp, .int .i64 fu, .bool de] 26)) (.cells #[.int .i64 0, .slice none 0 0, .slice none 0 0, .int .i64 0, .int .i64 0, .bool false] 30); simpa using this
 generalize ((w.alloc (.cells #[.slice a n c, .slice b m d, .int .i64 cp, .int .i64 fu, .bool de] 26)).alloc (.cells #[.int .i64 0, .slice none 0 0, .slice none 0 0, .int .i64 0, .int .i64 0, .bool false] 30)) = W0 at hs0 hb0 k0 k1 ⊢
 refine (l1Copy_any a n c fs b m d ps cp fu de W0 A B (by omega) (HF.out W0 hb0) (HP.out W0 hb0) hn hm HA.out HA2.out).mono ?_
 rintro e w1 ⟨v, u, xs, vs, ys, us, rfl, hO1, hb1⟩
 obtain ⟨⟨a1, c1, rfl⟩, b1, d1, rfl⟩ := hO1.shape
 have hs1 := hb1.size
 have j0 := (hb1.block w.heap.size (by omega)).trans k0
 have j1 := (hb1.block (w.heap.size + 1) (by omega)).trans k1
 have bel1 : Below w.heap.size w w1 := hb0.trans (hb1.mono (by omega))
 rw [hs0] at hO1 hs1
 clear hb0 k0 k1 hb1 hs0 HF HP HA HA2
 obtain ⟨p0, p1, p2, p3, p4⟩ := box_fiveC j0
 obtain ⟨r0, r1, r2, r3, r4, r5⟩ := box_sixR j1
 have ff := box_thawC j1
 have hl0 : w.heap.size < w1.heap.size := by omega
 have hl1 : w.heap.size + 1 < w1.heap.size := by omega
 by_cases h0 : fu = 0
 ·subst h0
  have HB := put6R_box j1 (.int .i64 3) (.slice a1 fs.length c1) (.slice b1 ps.length d1) (.int .i64 cp) (.int .i64 0) (.bool true)
  have hsz : (put6R w1 (w.heap.size + 1) (.int .i64 3) (.slice a1 fs.length c1) (.slice b1 ps.length d1) (.int .i64 cp) (.int .i64 0) (.bool true)).heap.size = w1.heap.size := by simp [put6R, World.setCell]
  have HB2 : ((put6R w1 (w.heap.size + 1) (.int .i64 3) (.slice a1 fs.length c1) (.slice b1 ps.length d1) (.int .i64 cp) (.int .i64 0) (.bool true)).alloc (.cells #[.slice a1 fs.length c1, .slice b1 ps.length d1, .int .i64 cp, .int .i64 0, .bool true] 26)).heap[w.heap.size + 1]? = some (.cells #[.int .i64 3, .slice a1 fs.length c1, .slice b1 ps.length d1, .int .i64 cp, .int .i64 0, .bool true] 30) := (heap_alloc_old _ _ (by rw [hsz]; omega)).trans HB
  have HR0 : ResAt w (.returned (.agg #[.int .i64 3, .slice a1 fs.length c1, .slice b1 ps.length d1, .int .i64 cp, .int .i64 0, .bool true])) (put6R w1 (w.heap.size + 1) (.int .i64 3) (.slice a1 fs.length c1) (.slice b1 ps.length d1) (.int .i64 cp) (.int .i64 0) (.bool true)) 3 fs ps cp 0 true := ResAt.mk6 (by omega) hO1 (by omega) (by omega) bel1
  have HR : Hid (ResAt w (.returned (.agg #[.int .i64 3, .slice a1 fs.length c1, .slice b1 ps.length d1, .int .i64 cp, .int .i64 0, .bool true])) ((put6R w1 (w.heap.size + 1) (.int .i64 3) (.slice a1 fs.length c1) (.slice b1 ps.length d1) (.int .i64 cp) (.int .i64 0) (.bool true)).alloc (.cells #[.slice a1 fs.length c1, .slice b1 ps.length d1, .int .i64 cp, .int .i64 0, .bool true] 26)) 3 fs ps cp 0 true) := HR0.after ((Below.refl _ _).alloc (Nat.le_refl _) _)
  clear HR0 HB hsz hO1 bel1 j0 j1
  go_wp2
  show bodyPost _ _ _ _ _ ((put6R w1 (w.heap.size + 1) (.int .i64 3) (.slice a1 fs.length c1) (.slice b1 ps.length d1) (.int .i64 cp) (.int .i64 0) (.bool true)).alloc (.cells #[.slice a1 fs.length c1, .slice b1 ps.length d1, .int .i64 cp, .int .i64 0, .bool true] 26))
  clear r0 r1 r2 r3 r4 r5 ff
  obtain ⟨r0, r1, r2, r3, r4, r5⟩ := box_sixR HB2
  exact bodyPost_ret (v := .agg #[.int .i64 3, .slice a1 fs.length c1, .slice b1 ps.length d1, .int .i64 cp, .int .i64 0, .bool true]) (by simp [results, Try.results47, go_sem, r0, r1, r2, r3, r4, r5]) rfl HR.out
 ·have h0' : (fu == 0) = false := by simp [h0]
  by_cases h1 : 0 < fu
  ·have HB := put6R_box j1 (.int .i64 0) (.slice a1 fs.length c1) (.slice b1 ps.length d1) (.int .i64 cp) (.int .i64 (fu - 1)) (.bool de)
   have hsz : (put6R w1 (w.heap.size + 1) (.int .i64 0) (.slice a1 fs.length c1) (.slice b1 ps.length d1) (.int .i64 cp) (.int .i64 (fu - 1)) (.bool de)).heap.size = w1.heap.size := by simp [put6R, World.setCell]
   have HB2 : ((put6R w1 (w.heap.size + 1) (.int .i64 0) (.slice a1 fs.length c1) (.slice b1 ps.length d1) (.int .i64 cp) (.int .i64 (fu - 1)) (.bool de)).alloc (.cells #[.slice a1 fs.length c1, .slice b1 ps.length d1, .int .i64 cp, .int .i64 (fu - 1), .bool de] 26)).heap[w.heap.size + 1]? = some (.cells #[.int .i64 0, .slice a1 fs.length c1, .slice b1 ps.length d1, .int .i64 cp, .int .i64 (fu - 1), .bool de] 30) := (heap_alloc_old _ _ (by rw [hsz]; omega)).trans HB
   have HR0 : ResAt w (.returned (.agg #[.int .i64 0, .slice a1 fs.length c1, .slice b1 ps.length d1, .int .i64 cp, .int .i64 (fu - 1), .bool de])) (put6R w1 (w.heap.size + 1) (.int .i64 0) (.slice a1 fs.length c1) (.slice b1 ps.length d1) (.int .i64 cp) (.int .i64 (fu - 1)) (.bool de)) 0 fs ps cp (fu - 1) de := ResAt.mk6 (by omega) hO1 (by omega) (by omega) bel1
   have HR : Hid (ResAt w (.returned (.agg #[.int .i64 0, .slice a1 fs.length c1, .slice b1 ps.length d1, .int .i64 cp, .int .i64 (fu - 1), .bool de])) ((put6R w1 (w.heap.size + 1) (.int .i64 0) (.slice a1 fs.length c1) (.slice b1 ps.length d1) (.int .i64 cp) (.int .i64 (fu - 1)) (.bool de)).alloc (.cells #[.slice a1 fs.length c1, .slice b1 ps.length d1, .int .i64 cp, .int .i64 (fu - 1), .bool de] 26)) 0 fs ps cp (fu - 1) de) := HR0.after ((Below.refl _ _).alloc (Nat.le_refl _) _)
   clear HR0 HB hsz hO1 bel1 j0 j1
   go_wp2
   show bodyPost _ _ _ _ _ ((put6R w1 (w.heap.size + 1) (.int .i64 0) (.slice a1 fs.length c1) (.slice b1 ps.length d1) (.int .i64 cp) (.int .i64 (fu - 1)) (.bool de)).alloc (.cells #[.slice a1 fs.length c1, .slice b1 ps.length d1, .int .i64 cp, .int .i64 (fu - 1), .bool de] 26))
   clear r0 r1 r2 r3 r4 r5 ff
   obtain ⟨r0, r1, r2, r3, r4, r5⟩ := box_sixR HB2
   exact bodyPost_ret (v := .agg #[.int .i64 0, .slice a1 fs.length c1, .slice b1 ps.length d1, .int .i64 cp, .int .i64 (fu - 1), .bool de]) (by simp [results, Try.results47, go_sem, r0, r1, r2, r3, r4, r5]) rfl (by rw [show spE fu = 0 from if_neg h0, show spF fu = fu - 1 from if_pos (by omega), show spD fu de = de from if_neg h0]; exact HR.out)
  ·have h1' : decide (0 < fu) = false := decide_eq_false h1
   have HB := put6R_box j1 (.int .i64 0) (.slice a1 fs.length c1) (.slice b1 ps.length d1) (.int .i64 cp) (.int .i64 fu) (.bool de)
   have hsz : (put6R w1 (w.heap.size + 1) (.int .i64 0) (.slice a1 fs.length c1) (.slice b1 ps.length d1) (.int .i64 cp) (.int .i64 fu) (.bool de)).heap.size = w1.heap.size := by simp [put6R, World.setCell]
   have HB2 : ((put6R w1 (w.heap.size + 1) (.int .i64 0) (.slice a1 fs.length c1) (.slice b1 ps.length d1) (.int .i64 cp) (.int .i64 fu) (.bool de)).alloc (.cells #[.slice a1 fs.length c1, .slice b1 ps.length d1, .int .i64 cp, .int .i64 fu, .bool de] 26)).heap[w.heap.size + 1]? = some (.cells #[.int .i64 0, .slice a1 fs.length c1, .slice b1 ps.length d1, .int .i64 cp, .int .i64 fu, .bool de] 30) := (heap_alloc_old _ _ (by rw [hsz]; omega)).trans HB
   have HR0 : ResAt w (.returned (.agg #[.int .i64 0, .slice a1 fs.length c1, .slice b1 ps.length d1, .int .i64 cp, .int .i64 fu, .bool de])) (put6R w1 (w.heap.size + 1) (.int .i64 0) (.slice a1 fs.length c1) (.slice b1 ps.length d1) (.int .i64 cp) (.int .i64 fu) (.bool de)) 0 fs ps cp fu de := ResAt.mk6 (by omega) hO1 (by omega) (by omega) bel1
   have HR : Hid (ResAt w (.returned (.agg #[.int .i64 0, .slice a1 fs.length c1, .slice b1 ps.length d1, .int .i64 cp, .int .i64 fu, .bool de])) ((put6R w1 (w.heap.size + 1) (.int .i64 0) (.slice a1 fs.length c1) (.slice b1 ps.length d1) (.int .i64 cp) (.int .i64 fu) (.bool de)).alloc (.cells #[.slice a1 fs.length c1, .slice b1 ps.length d1, .int .i64 cp, .int .i64 fu, .bool de] 26)) 0 fs ps cp fu de) := HR0.after ((Below.refl _ _).alloc (Nat.le_refl _) _)
   clear HR0 HB hsz hO1 bel1 j0 j1
   go_wp2
   show bodyPost _ _ _ _ _ ((put6R w1 (w.heap.size + 1) (.int .i64 0) (.slice a1 fs.length c1) (.slice b1 ps.length d1) (.int .i64 cp) (.int .i64 fu) (.bool de)).alloc (.cells #[.slice a1 fs.length c1, .slice b1 ps.length d1, .int .i64 cp, .int .i64 fu, .bool de] 26))
   clear r0 r1 r2 r3 r4 r5 ff
   obtain ⟨r0, r1, r2, r3, r4, r5⟩ := box_sixR HB2
   exact bodyPost_ret (v := .agg #[.int .i64 0, .slice a1 fs.length c1, .slice b1 ps.length d1, .int .i64 cp, .int .i64 fu, .bool de]) (by simp [results, Try.results47, go_sem, r0, r1, r2, r3, r4, r5]) rfl (by rw [show spE fu = 0 from if_neg h0, show spF fu = fu from if_neg (by omega), show spD fu de = de from if_neg h0]; exact HR.out)
def keptI (nms : Nat → ByteArray) (nm : ByteArray) (j : Nat) : List Nat := (List.range j).filter fun i => !decide (nms i = nm)
def cellsK (xs : List Value) (k : Nat) : List Value := [xs.getD (k * 2) (.bool false), xs.getD (k * 2 + 1) (.bool false)]
def pickR (xs : List Value) (ks : List Nat) : List Value := ks.flatMap (cellsK xs)
def stD (nms : Nat → ByteArray) (nm : ByteArray) (n j : Nat) : List Nat := keptI nms nm j ++ List.range' (keptI nms nm j).length (n - (keptI nms nm j).length)
def remF (fs : List PF) (nm : ByteArray) : List PF := fs.filter (fun f => !decide (f.1 = nm))
open Go.RowKit Go.Maps
theorem name_lt {a b : ByteArray} (h : geB a b = false) : a.toList < b.toList := by
 simp only [geB, Bool.not_eq_false'] at h
 rw [bytesLess_eq] at h
 exact of_decide_eq_true h
theorem name_ne {a b : ByteArray} (h : a.toList < b.toList) : a ≠ b := by
 intro e; subst e; exact List.lt_irrefl _ h
theorem names_up {fs : List PF} (h : ∀ i, i < fs.length → fileOk fs i = true) : ∀ i j, i < j → j < fs.length → (fs.getD i (ByteArray.empty, [])).1.toList < (fs.getD j (ByteArray.empty, [])).1.toList := by
 have step : ∀ j, 0 < j → j < fs.length → (fs.getD (j - 1) (ByteArray.empty, [])).1.toList < (fs.getD j (ByteArray.empty, [])).1.toList := by
  intro j h0 hj
  have := h j hj
  simp only [fileOk, Bool.and_eq_true] at this
  have h2 := this.2
  simp only [h0, decide_true, Bool.true_and, Bool.not_eq_true'] at h2
  exact name_lt h2
 intro i j hij hj
 induction j with
 | zero => omega
 | succ j ih =>
  have h1 := step (j + 1) (by omega) hj
  simp only [Nat.add_sub_cancel] at h1
  by_cases e : i = j
  ·subst e; exact h1
  ·exact List.lt_trans (ih (by omega) (by omega)) h1
structure Inv (fs : List PF) : Prop where
 ne : ∀ i j, i ≠ j → i < fs.length → j < fs.length → (fs.getD i (ByteArray.empty, [])).1 ≠ (fs.getD j (ByteArray.empty, [])).1
 pg : ∀ i, i < fs.length → 128 ≤ (fs.getD i (ByteArray.empty, [])).2.length ∧ (fs.getD i (ByteArray.empty, [])).2.length % 128 = 0
theorem fileOk_len {fs : List PF} {i : Nat} (h : fileOk fs i = true) : 128 ≤ (fs.getD i (ByteArray.empty, [])).2.length ∧ (fs.getD i (ByteArray.empty, [])).2.length % 128 = 0 := by
 simp only [fileOk, Bool.and_eq_true, Bool.not_eq_true', beq_eq_false_iff_ne, ne_eq, beq_iff_eq] at h
 obtain ⟨⟨⟨_, h2⟩, h3⟩, _⟩ := h
 omega
theorem getD_take {fs : List PF} {k i : Nat} (h : i < k) : (fs.take k).getD i (ByteArray.empty, []) = fs.getD i (ByteArray.empty, []) := by
 simp [List.getD, List.getElem?_take, h]
theorem inv_of_ok {fs : List PF} {k : Nat} (hk : k ≤ fs.length) (h : ∀ i, i < k → fileOk fs i = true) : Inv (fs.take k) := by
 have hl : (fs.take k).length = k := by simp; omega
 have h' : ∀ i, i < (fs.take k).length → fileOk (fs.take k) i = true := by
  intro i hi
  rw [hl] at hi
  have := h i hi
  unfold fileOk at this ⊢
  rw [getD_take hi, getD_take (show i - 1 < k by omega)]
  exact this
 constructor
 ·intro i j hij hi hj
  by_cases hlt : i < j
  ·exact name_ne (names_up h' i j hlt hj)
  ·exact (name_ne (names_up h' j i (by omega) hi)).symm
 ·intro i hi
  exact fileOk_len (h' i hi)
theorem findN_of {fs : List PF} (h : Inv fs) {i : Nat} (hi : i < fs.length) : findN fs (fs.getD i (ByteArray.empty, [])).1 = i :=
 findN_at hi (fun j hj => h.ne j i (by omega) (by omega) hi) rfl
theorem findN_iff {fs : List PF} {nm : ByteArray} : findN fs nm < fs.length ↔ ∃ i, i < fs.length ∧ (fs.getD i (ByteArray.empty, [])).1 = nm := by
 constructor
 ·intro h; exact ⟨_, h, findN_name h⟩
 ·rintro ⟨i, hi, e⟩
  unfold findN
  rw [List.findIdx_lt_length]
  refine ⟨fs[i], List.getElem_mem hi, ?_⟩
  simpa [List.getD, List.getElem?_eq_getElem hi] using e
theorem lenI_of {fs : List PF} (h : Inv fs) {i : Nat} (hi : i < fs.length) : lenI fs (fs.getD i (ByteArray.empty, [])).1 = ((fs.getD i (ByteArray.empty, [])).2.length : Int) / 128 := by
 unfold lenI
 rw [findN_of h hi, if_pos hi]
theorem lenI_none {fs : List PF} {nm : ByteArray} (h : ¬ findN fs nm < fs.length) : lenI fs nm = 0 := by unfold lenI; rw [if_neg h]
theorem totalI_set {fs : List PF} {i : Nat} (hi : i < fs.length) (f : PF) : totalI (fs.set i f) = totalI fs - ((fs.getD i (ByteArray.empty, [])).2.length : Int) / 128 + (f.2.length : Int) / 128 := by
 induction fs generalizing i with
 | nil => simp at hi
 | cons x r ih =>
  cases i with
  | zero => simp [totalI]; omega
  | succ i =>
   simp only [List.set_cons_succ, totalI, List.getD_cons_succ]
   rw [ih (by simpa using hi)]
   omega
theorem totalI_ins (l : List PF) (p : Nat) (x : PF) : totalI (l.take p ++ x :: l.drop p) = totalI l + (x.2.length : Int) / 128 := by
 rw [totalI_append]
 simp only [totalI]
 have h := totalI_append (l.take p) (l.drop p)
 rw [List.take_append_drop] at h
 omega
theorem withName_total (fs : List PF) (nm : ByteArray) : totalI (withName fs nm) = totalI fs := by
 unfold withName
 split
 ·rfl
 ·rw [totalI_ins]; simp
theorem doP_total (fs : List PF) (nm : ByteArray) (pg : Nat) (bs : List Int) : totalI (doP fs nm pg bs) = totalI fs - ((((withName fs nm).getD (findN (withName fs nm) nm) (ByteArray.empty, [])).2.length : Nat) : Int) / 128 + ((max ((withName fs nm).getD (findN (withName fs nm) nm) (ByteArray.empty, [])).2.length ((pg + 1) * 128) : Nat) : Int) / 128 := by
 unfold doP
 rw [totalI_set (findN_with fs nm), withName_total, doData_len]
theorem withName_data (fs : List PF) (nm : ByteArray) : ((withName fs nm).getD (findN (withName fs nm) nm) (ByteArray.empty, [])).2.length = if findN fs nm < fs.length then (fs.getD (findN fs nm) (ByteArray.empty, [])).2.length else 0 := by
 by_cases h : findN fs nm < fs.length
 ·rw [if_pos h]
  have : withName fs nm = fs := by unfold withName; rw [if_pos h]
  rw [this]
 ·rw [if_neg h]
  have hp : insN fs nm ≤ fs.length := List.findIdx_le_length
  have e : withName fs nm = fs.take (insN fs nm) ++ (nm, []) :: fs.drop (insN fs nm) := by unfold withName; rw [if_neg h]
  have hno : ∀ i, i < fs.length → (fs.getD i (ByteArray.empty, [])).1 ≠ nm := fun i hi e2 => h (findN_iff.2 ⟨i, hi, e2⟩)
  have hf : findN (withName fs nm) nm = insN fs nm := by
   rw [e]
   refine findN_at (by simp; omega) (fun j hj => ?_) ?_
   ·rw [getD_ins _ _ _ _ _ hp, if_pos hj]; exact hno j (by omega)
   ·rw [getD_ins _ _ _ _ _ hp, if_neg (by omega), if_pos rfl]
  rw [hf, e, getD_ins _ _ _ _ _ hp, if_neg (by omega), if_pos rfl]
  rfl
theorem doP_total2 {fs : List PF} {nm : ByteArray} {pg : Nat} {bs : List Int} (h : Inv fs) (hp : (pg : Int) ≤ lenI fs nm) : totalI (doP fs nm pg bs) = totalI fs + (if (pg : Int) = lenI fs nm then 1 else 0) := by
 rw [doP_total, withName_data]
 by_cases hf : findN fs nm < fs.length
 ·have hl : lenI fs nm = ((fs.getD (findN fs nm) (ByteArray.empty, [])).2.length : Int) / 128 := by unfold lenI; rw [if_pos hf]
  have hpg := h.pg _ hf
  rw [if_pos hf]
  rw [hl] at hp ⊢
  generalize (fs.getD (findN fs nm) (ByteArray.empty, [])).2.length = q at *
  split <;> omega
 ·rw [lenI_none hf] at hp ⊢
  rw [if_neg hf]
  have : pg = 0 := by omega
  subst this
  simp
theorem total_mono (fs : List PF) (nm : ByteArray) (pg : Nat) (bs : List Int) : totalI fs ≤ totalI (doP fs nm pg bs) := by
 rw [doP_total]
 generalize ((withName fs nm).getD (findN (withName fs nm) nm) (ByteArray.empty, [])).2.length = q
 omega
theorem len_mono (fs : List PF) (nm : ByteArray) (pg : Nat) (bs : List Int) : fs.length ≤ (doP fs nm pg bs).length := by
 rw [doP_len]; split <;> omega
def SortedN (l : List PF) : Prop := l.Pairwise (fun f g => f.1.toList < g.1.toList)
theorem sortedN_of_ok {fs : List PF} (h : ∀ i, i < fs.length → fileOk fs i = true) : SortedN fs := by
 refine List.pairwise_iff_getElem.2 fun i j hi hj hij => ?_
 have := names_up h i j hij hj
 simpa [List.getD, List.getElem?_eq_getElem hi, List.getElem?_eq_getElem hj] using this
theorem lt_or_eqL {a b : List UInt8} (h : ¬ b < a) : a < b ∨ a = b := by
 by_cases h2 : a < b
 ·exact .inl h2
 ·exact .inr (List.le_antisymm (List.not_lt.1 h) (List.not_lt.1 h2))
theorem gtB_iff (a b : ByteArray) : gtB a b = true ↔ b.toList < a.toList := by
 unfold gtB
 rw [bytesLess_eq]
 simp only [Bool.and_eq_true, Bool.not_eq_true', decide_eq_false_iff_not, beq_eq_false_iff_ne, ne_eq]
 constructor
 ·rintro ⟨h1, h2⟩
  rcases lt_or_eqL h1 with h | h
  ·exact h
  ·exact absurd h.symm h2
 ·intro h
  exact ⟨fun h' => List.lt_irrefl _ (List.lt_trans h h'), fun e => by rw [e] at h; exact List.lt_irrefl _ h⟩
theorem toList_inj {a b : ByteArray} (h : a.toList = b.toList) : a = b := by
 have := same_yes (a := a) (b := a) rfl
 exact Decidable.byContradiction fun hn => by have := same_no hn; rw [h] at this; simp at this
theorem lt_of_not_gt {a b : ByteArray} (h : gtB a b = false) (hn : a ≠ b) : a.toList < b.toList := by
 have h1 : ¬ b.toList < a.toList := fun h' => by rw [(gtB_iff a b).2 h'] at h; cases h
 rcases lt_or_eqL h1 with h2 | h2
 ·exact h2
 ·exact absurd (toList_inj h2) hn
def insF (l : List PF) (f : PF) : List PF := l.takeWhile (fun g => !gtB g.1 f.1) ++ f :: l.dropWhile (fun g => !gtB g.1 f.1)
theorem insF_perm (l : List PF) (f : PF) : (insF l f).Perm (f :: l) := by
 unfold insF
 refine List.perm_middle.trans ?_
 rw [List.takeWhile_append_dropWhile]
theorem insF_sorted {l : List PF} {f : PF} (h : SortedN l) (hn : ∀ g ∈ l, g.1 ≠ f.1) : SortedN (insF l f) := by
 induction l with
 | nil => simp [insF, SortedN]
 | cons x r ih =>
  obtain ⟨h1, h2⟩ := List.pairwise_cons.1 h
  have hr := ih h2 (fun g hg => hn g (List.mem_cons_of_mem _ hg))
  cases hx : gtB x.1 f.1 with
  | false =>
   have e : insF (x :: r) f = x :: insF r f := by simp [insF, hx]
   rw [e]
   refine List.pairwise_cons.2 ⟨fun g hg => ?_, hr⟩
   rcases List.mem_cons.1 ((insF_perm r f).mem_iff.1 hg) with rfl | hg'
   ·exact lt_of_not_gt hx (hn x List.mem_cons_self)
   ·exact h1 g hg'
  | true =>
   have e : insF (x :: r) f = f :: x :: r := by simp [insF, hx]
   rw [e]
   have hfx := (gtB_iff _ _).1 hx
   refine List.pairwise_cons.2 ⟨fun g hg => ?_, h⟩
   rcases List.mem_cons.1 hg with rfl | hg'
   ·exact hfx
   ·exact List.lt_trans hfx (h1 g hg')
def renOne (fr to : ByteArray) (f : PF) : PF := if f.1 = fr then (to, f.2) else f
def renF (fs : List PF) (fr to : ByteArray) : List PF := insF (remF (remF fs fr) to) (to, (fs.getD (findN fs fr) (ByteArray.empty, [])).2)
def renB (fs : List PF) (fr to : ByteArray) : List PF := (remF fs to).map (renOne fr to)
end Go.Proofs.Ytakdaandbdbdnaa
