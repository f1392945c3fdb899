import Derived.Test.YtakdaandbdbdnaaGAB
import Derived.Test.YtakdaandbdbdnaaGAE
import Derived.Test.YtakdaandbdbdnaaGAF
import Derived.Test.YtakdaandbdbdnaaSpV
import Derived.Lib.SliceRun
import Derived.Sort.Walk0
import Derived.Maps.OwnSet
namespace Go.Proofs.Ytakdaandbdbdnaa
open Go.RowKit
set_option linter.unusedVariables false
set_option maxRecDepth 100000

/-- A disk that a step tells, in memory of its own. -/
structure ResAt (w : World) (e : Ending) (w' : World) (er : Int) (fs : List PF) (ps : List PP) (cp fu : Int) (de : Bool) : Prop where
  out : ∃ (a : Option Addr) (c : Nat) (b : Option Addr) (d : Nat) (xs vs ys us : List Value), e = .returned (.agg #[.int .i64 er, .slice a fs.length c, .slice b ps.length d, .int .i64 cp, .int .i64 fu, .bool de]) ∧ OwnD w' w.heap.size (.slice a fs.length c) (.slice b ps.length d) fs ps xs vs ys us ∧ Below w.heap.size w w'
theorem OwnD.frS {S : Nat → Prop} {w w' : World} {base : Nat} {v u : Value} {fs : List PF} {ps : List PP} {xs vs ys us : List Value} (h : OwnD w base v u fs ps xs vs ys us) (hf : Fr S w w') (hS : ∀ g, S g → ¬ (Blk v vs g ∨ Blk u us g)) : OwnD w' base v u fs ps xs vs ys us :=
  ⟨h.files.fr hf (fun g hg e => hS g e (.inl hg)), h.cache.fr hf (fun g hg e => hS g e (.inr hg)), h.apart⟩
theorem OwnD.blk {w : World} {base : Nat} {v u : Value} {fs : List PF} {ps : List PP} {xs vs ys us : List Value} (h : OwnD w base v u fs ps xs vs ys us) {g : Nat} (hg : Blk v vs g ∨ Blk u us g) : base ≤ g ∧ g < w.heap.size := hg.elim h.files.blk h.cache.blk
theorem OwnD.lower {w : World} {base base' : Nat} {v u : Value} {fs : List PF} {ps : List PP} {xs vs ys us : List Value} (h : OwnD w base v u fs ps xs vs ys us) (hb : base' ≤ base) : OwnD w base' v u fs ps xs vs ys us := ⟨OwnF.lower h.files hb, OwnP.lower h.cache hb, h.apart⟩
theorem OwnD.shape {w : World} {base : Nat} {v u : Value} {fs : List PF} {ps : List PP} {xs vs ys us : List Value} (h : OwnD w base v u fs ps xs vs ys us) : (∃ a c, v = .slice a fs.length c) ∧ ∃ b d, u = .slice b ps.length d := ⟨own_shape h.files.row, own_shape h.cache.row⟩
def put6R (w : World) (N : Nat) (u0 u1 u2 u3 u4 u5 : Value) : World := (((((w.setCell ⟨N, 0, none⟩ u0).setCell ⟨N, 1, none⟩ u1).setCell ⟨N, 2, none⟩ u2).setCell ⟨N, 3, none⟩ u3).setCell ⟨N, 4, none⟩ u4).setCell ⟨N, 5, none⟩ u5
theorem put6R_box {w : World} {N t : Nat} {v0 v1 v2 v3 v4 v5 : Value} (h : w.heap[N]? = some (.cells #[v0, v1, v2, v3, v4, v5] t)) (u0 u1 u2 u3 u4 u5 : Value) : (put6R w N u0 u1 u2 u3 u4 u5).heap[N]? = some (.cells #[u0, u1, u2, u3, u4, u5] t) := by
  simp [put6R, World.setCell, Array.getElem?_modify, h]
theorem put6R_fr (w : World) (N : Nat) (u0 u1 u2 u3 u4 u5 : Value) : Fr (fun x => x = N) w (put6R w N u0 u1 u2 u3 u4 u5) :=
  (((((fr_setCell _ _ _ _).trans (fr_setCell _ _ _ _)).trans (fr_setCell _ _ _ _)).trans (fr_setCell _ _ _ _)).trans (fr_setCell _ _ _ _)).trans (fr_setCell _ _ _ _)
/-- What a step spends: its word, the fuel, whether the disk is dead. -/
def spE (fu : Int) : Int := if fu = 0 then 3 else 0
def spF (fu : Int) : Int := if 0 < fu then fu - 1 else fu
def spD (fu : Int) (de : Bool) : Bool := if fu = 0 then true else de
theorem ResAt.mk6 {w X : World} {R base : Nat} {er cp fu : Int} {de : Bool} {a b : Option Addr} {c d : Nat} {fs : List PF} {ps : List PP} {xs vs ys us : List Value} (hRw : w.heap.size ≤ R) (hO : OwnD X base (.slice a fs.length c) (.slice b ps.length d) fs ps xs vs ys us) (hRb : R < base) (hX : R < X.heap.size) (hbel : Below w.heap.size w X) :
    ResAt w (.returned (.agg #[.int .i64 er, .slice a fs.length c, .slice b ps.length d, .int .i64 cp, .int .i64 fu, .bool de])) (put6R X R (.int .i64 er) (.slice a fs.length c) (.slice b ps.length d) (.int .i64 cp) (.int .i64 fu) (.bool de)) er fs ps cp fu de := by
  have hz := put6R_fr X R (.int .i64 er) (.slice a fs.length c) (.slice b ps.length d) (.int .i64 cp) (.int .i64 fu) (.bool de)
  exact ⟨⟨a, c, b, d, xs, vs, ys, us, rfl, OwnD.lower (hO.frS hz (fun g e hg => by have := (hO.blk hg).1; omega)) (by omega), hbel.trans (hz.below (by omega) (fun g e => by omega))⟩⟩
theorem ResAt.after {w X X' : World} {e : Ending} {er cp fu : Int} {de : Bool} {fs : List PF} {ps : List PP} (h : ResAt w e X er fs ps cp fu de) (hb : Below X.heap.size X X') : ResAt w e X' er fs ps cp fu de := by
  obtain ⟨a, c, b, d, xs, vs, ys, us, e1, hO, hbel⟩ := h.out
  exact ⟨⟨a, c, b, d, xs, vs, ys, us, e1, hO.below hb, hbel.trans (hb.mono hbel.size)⟩⟩
set_option maxHeartbeats 800000 in
theorem l1Bad_any (a : Option Addr) (n c : Nat) (fs : List PF) (b : Option Addr) (m d : Nat) (ps : List PP) (cp fu : Int) (de : Bool) (w : World) (A B : Nat) (hB : B ≤ w.heap.size)
    (hF : FilesAt w A B a n c fs) (hP : PendsAt w A B b m d ps) (hn : n ≤ 1048576) (hm : m ≤ 1048576) (hall : ∀ j, j < n → (fs.getD j (ByteArray.empty, [])).2.length ≤ 1048576) (hall2 : ∀ j, j < m → (ps.getD j (ByteArray.empty, 0, [])).2.2.length ≤ 1048576) :
    Calls Try.prog 42 #[.agg #[.slice a n c, .slice b m d, .int .i64 cp, .int .i64 fu, .bool de]] w fun e w' => ResAt w e w' 1 fs ps cp fu de := by
  have HF : Hid (∀ W, Below w.heap.size w W → FilesAt W A B a n c fs) := fun W hW => hF.below (hW.mono hB)
  have HP : Hid (∀ W, Below w.heap.size w W → PendsAt W A B b m d ps) := fun W hW => hP.below (hW.mono hB)
  have HA : Hid (∀ j, j < n → (fs.getD j (ByteArray.empty, [])).2.length ≤ 1048576) := hall
  have HA2 : Hid (∀ j, j < m → (ps.getD j (ByteArray.empty, 0, [])).2.2.length ≤ 1048576) := hall2
  clear hF hP hall hall2
  go_enter Try.func42, Try.ntmps42
  go_wp2_with fail
  have hs0 : ((w.alloc (.cells #[.slice a n c, .slice b m d, .int .i64 cp, .int .i64 fu, .bool de] 26)).alloc (.cells #[.int .i64 0, .slice none 0 0, .slice none 0 0, .int .i64 0, .int .i64 0, .bool false] 30)).heap.size = w.heap.size + 2 := by simp
  have hb0 : Below w.heap.size w ((w.alloc (.cells #[.slice a n c, .slice b m d, .int .i64 cp, .int .i64 fu, .bool de] 26)).alloc (.cells #[.int .i64 0, .slice none 0 0, .slice none 0 0, .int .i64 0, .int .i64 0, .bool false] 30)) := ((Below.refl _ _).alloc (Nat.le_refl _) _).alloc (by simp) _
  have k0 : ((w.alloc (.cells #[.slice a n c, .slice b m d, .int .i64 cp, .int .i64 fu, .bool de] 26)).alloc (.cells #[.int .i64 0, .slice none 0 0, .slice none 0 0, .int .i64 0, .int .i64 0, .bool false] 30)).heap[w.heap.size]? = some (.cells #[.slice a n c, .slice b m d, .int .i64 cp, .int .i64 fu, .bool de] 26) := by rw [heap_alloc_old _ _ (by simp)]; exact heap_alloc_new _ _
  have k1 : ((w.alloc (.cells #[.slice a n c, .slice b m d, .int .i64 cp, .int .i64 fu, .bool de] 26)).alloc (.cells #[.int .i64 0, .slice none 0 0, .slice none 0 0, .int .i64 0, .int .i64 0, .bool false] 30)).heap[w.heap.size + 1]? = some (.cells #[.int .i64 0, .slice none 0 0, .slice none 0 0, .int .i64 0, .int .i64 0, .bool false] 30) := by have := heap_alloc_new (w.alloc (.cells #[.slice a n c, .slice b m d, .int .i64 cp, .int .i64 fu, .bool de] 26)) (.cells #[.int .i64 0, .slice none 0 0, .slice none 0 0, .int .i64 0, .int .i64 0, .bool false] 30); simpa using this
  generalize ((w.alloc (.cells #[.slice a n c, .slice b m d, .int .i64 cp, .int .i64 fu, .bool de] 26)).alloc (.cells #[.int .i64 0, .slice none 0 0, .slice none 0 0, .int .i64 0, .int .i64 0, .bool false] 30)) = W0 at hs0 hb0 k0 k1 ⊢
  refine (l1Copy_any a n c fs b m d ps cp fu de W0 A B (by omega) (HF.out W0 hb0) (HP.out W0 hb0) hn hm HA.out HA2.out).mono ?_
  rintro e w1 ⟨v, u, xs, vs, ys, us, rfl, hO1, hb1⟩
  obtain ⟨⟨a1, c1, rfl⟩, b1, d1, rfl⟩ := hO1.shape
  have hs1 := hb1.size
  have j0 := (hb1.block w.heap.size (by omega)).trans k0
  have j1 := (hb1.block (w.heap.size + 1) (by omega)).trans k1
  have bel1 : Below w.heap.size w w1 := hb0.trans (hb1.mono (by omega))
  rw [hs0] at hO1 hs1
  clear hb0 k0 k1 hb1 hs0 HF HP HA HA2
  have jR := j1
  obtain ⟨r0, r1, r2, r3, r4, r5⟩ := box_sixR jR
  have ff := box_thawC jR
  have HB := put6R_box jR (.int .i64 1) (.slice a1 fs.length c1) (.slice b1 ps.length d1) (.int .i64 cp) (.int .i64 fu) (.bool de)
  have HR : Hid (ResAt w (.returned (.agg #[.int .i64 1, .slice a1 fs.length c1, .slice b1 ps.length d1, .int .i64 cp, .int .i64 fu, .bool de])) (put6R w1 (w.heap.size + 1) (.int .i64 1) (.slice a1 fs.length c1) (.slice b1 ps.length d1) (.int .i64 cp) (.int .i64 fu) (.bool de)) 1 fs ps cp fu de) := ResAt.mk6 (by omega) hO1 (by omega) (by omega) bel1
  clear hO1 bel1 j0 j1
  go_wp2
  show bodyPost _ _ _ _ _ (put6R w1 (w.heap.size + 1) (.int .i64 1) (.slice a1 fs.length c1) (.slice b1 ps.length d1) (.int .i64 cp) (.int .i64 fu) (.bool de))
  clear r0 r1 r2 r3 r4 r5
  obtain ⟨r0, r1, r2, r3, r4, r5⟩ := box_sixR HB
  exact bodyPost_ret (v := .agg #[.int .i64 1, .slice a1 fs.length c1, .slice b1 ps.length d1, .int .i64 cp, .int .i64 fu, .bool de]) (by simp [results, Try.results42, go_sem, r0, r1, r2, r3, r4, r5]) rfl HR.out
set_option maxHeartbeats 800000 in
theorem l1Spend_any (a : Option Addr) (n c : Nat) (fs : List PF) (b : Option Addr) (m d : Nat) (ps : List PP) (cp fu : Int) (de : Bool) (w : World) (A B : Nat) (hB : B ≤ w.heap.size)
    (hF : FilesAt w A B a n c fs) (hP : PendsAt w A B b m d ps) (hn : n ≤ 1048576) (hm : m ≤ 1048576) (hall : ∀ j, j < n → (fs.getD j (ByteArray.empty, [])).2.length ≤ 1048576) (hall2 : ∀ j, j < m → (ps.getD j (ByteArray.empty, 0, [])).2.2.length ≤ 1048576) (hfu : -9223372036854775808 ≤ fu ∧ fu ≤ 9223372036854775807) :
    Calls Try.prog 47 #[.agg #[.slice a n c, .slice b m d, .int .i64 cp, .int .i64 fu, .bool de]] w fun e w' => ResAt w e w' (spE fu) fs ps cp (spF fu) (spD fu de) := by
  have HF : Hid (∀ W, Below w.heap.size w W → FilesAt W A B a n c fs) := fun W hW => hF.below (hW.mono hB)
  have HP : Hid (∀ W, Below w.heap.size w W → PendsAt W A B b m d ps) := fun W hW => hP.below (hW.mono hB)
  have HA : Hid (∀ j, j < n → (fs.getD j (ByteArray.empty, [])).2.length ≤ 1048576) := hall
  have HA2 : Hid (∀ j, j < m → (ps.getD j (ByteArray.empty, 0, [])).2.2.length ≤ 1048576) := hall2
  clear hF hP hall hall2
  go_enter Try.func47, Try.ntmps47
  go_wp2_with fail
  have hs0 : ((w.alloc (.cells #[.slice a n c, .slice b m d, .int .i64 cp, .int .i64 fu, .bool de] 26)).alloc (.cells #[.int .i64 0, .slice none 0 0, .slice none 0 0, .int .i64 0, .int .i64 0, .bool false] 30)).heap.size = w.heap.size + 2 := by simp
  have hb0 : Below w.heap.size w ((w.alloc (.cells #[.slice a n c, .slice b m d, .int .i64 cp, .int .i64 fu, .bool de] 26)).alloc (.cells #[.int .i64 0, .slice none 0 0, .slice none 0 0, .int .i64 0, .int .i64 0, .bool false] 30)) := ((Below.refl _ _).alloc (Nat.le_refl _) _).alloc (by simp) _
  have k0 : ((w.alloc (.cells #[.slice a n c, .slice b m d, .int .i64 cp, .int .i64 fu, .bool de] 26)).alloc (.cells #[.int .i64 0, .slice none 0 0, .slice none 0 0, .int .i64 0, .int .i64 0, .bool false] 30)).heap[w.heap.size]? = some (.cells #[.slice a n c, .slice b m d, .int .i64 cp, .int .i64 fu, .bool de] 26) := by rw [heap_alloc_old _ _ (by simp)]; exact heap_alloc_new _ _
  have k1 : ((w.alloc (.cells #[.slice a n c, .slice b m d, .int .i64 cp, .int .i64 fu, .bool de] 26)).alloc (.cells #[.int .i64 0, .slice none 0 0, .slice none 0 0, .int .i64 0, .int .i64 0, .bool false] 30)).heap[w.heap.size + 1]? = some (.cells #[.int .i64 0, .slice none 0 0, .slice none 0 0, .int .i64 0, .int .i64 0, .bool false] 30) := by have := heap_alloc_new (w.alloc (.cells #[.slice a n c, .slice b m d, .int .i64 cp, .int .i64 fu, .bool de] 26)) (.cells #[.int .i64 0, .slice none 0 0, .slice none 0 0, .int .i64 0, .int .i64 0, .bool false] 30); simpa using this
  generalize ((w.alloc (.cells #[.slice a n c, .slice b m d, .int .i64 cp, .int .i64 fu, .bool de] 26)).alloc (.cells #[.int .i64 0, .slice none 0 0, .slice none 0 0, .int .i64 0, .int .i64 0, .bool false] 30)) = W0 at hs0 hb0 k0 k1 ⊢
  refine (l1Copy_any a n c fs b m d ps cp fu de W0 A B (by omega) (HF.out W0 hb0) (HP.out W0 hb0) hn hm HA.out HA2.out).mono ?_
  rintro e w1 ⟨v, u, xs, vs, ys, us, rfl, hO1, hb1⟩
  obtain ⟨⟨a1, c1, rfl⟩, b1, d1, rfl⟩ := hO1.shape
  have hs1 := hb1.size
  have j0 := (hb1.block w.heap.size (by omega)).trans k0
  have j1 := (hb1.block (w.heap.size + 1) (by omega)).trans k1
  have bel1 : Below w.heap.size w w1 := hb0.trans (hb1.mono (by omega))
  rw [hs0] at hO1 hs1
  clear hb0 k0 k1 hb1 hs0 HF HP HA HA2
  obtain ⟨p0, p1, p2, p3, p4⟩ := box_fiveC j0
  obtain ⟨r0, r1, r2, r3, r4, r5⟩ := box_sixR j1
  have ff := box_thawC j1
  have hl0 : w.heap.size < w1.heap.size := by omega
  have hl1 : w.heap.size + 1 < w1.heap.size := by omega
  by_cases h0 : fu = 0
  · subst h0
    have HB := put6R_box j1 (.int .i64 3) (.slice a1 fs.length c1) (.slice b1 ps.length d1) (.int .i64 cp) (.int .i64 0) (.bool true)
    have hsz : (put6R w1 (w.heap.size + 1) (.int .i64 3) (.slice a1 fs.length c1) (.slice b1 ps.length d1) (.int .i64 cp) (.int .i64 0) (.bool true)).heap.size = w1.heap.size := by simp [put6R, World.setCell]
    have HB2 : ((put6R w1 (w.heap.size + 1) (.int .i64 3) (.slice a1 fs.length c1) (.slice b1 ps.length d1) (.int .i64 cp) (.int .i64 0) (.bool true)).alloc (.cells #[.slice a1 fs.length c1, .slice b1 ps.length d1, .int .i64 cp, .int .i64 0, .bool true] 26)).heap[w.heap.size + 1]? = some (.cells #[.int .i64 3, .slice a1 fs.length c1, .slice b1 ps.length d1, .int .i64 cp, .int .i64 0, .bool true] 30) := (heap_alloc_old _ _ (by rw [hsz]; omega)).trans HB
    have HR0 : ResAt w (.returned (.agg #[.int .i64 3, .slice a1 fs.length c1, .slice b1 ps.length d1, .int .i64 cp, .int .i64 0, .bool true])) (put6R w1 (w.heap.size + 1) (.int .i64 3) (.slice a1 fs.length c1) (.slice b1 ps.length d1) (.int .i64 cp) (.int .i64 0) (.bool true)) 3 fs ps cp 0 true := ResAt.mk6 (by omega) hO1 (by omega) (by omega) bel1
    have HR : Hid (ResAt w (.returned (.agg #[.int .i64 3, .slice a1 fs.length c1, .slice b1 ps.length d1, .int .i64 cp, .int .i64 0, .bool true])) ((put6R w1 (w.heap.size + 1) (.int .i64 3) (.slice a1 fs.length c1) (.slice b1 ps.length d1) (.int .i64 cp) (.int .i64 0) (.bool true)).alloc (.cells #[.slice a1 fs.length c1, .slice b1 ps.length d1, .int .i64 cp, .int .i64 0, .bool true] 26)) 3 fs ps cp 0 true) := HR0.after ((Below.refl _ _).alloc (Nat.le_refl _) _)
    clear HR0 HB hsz hO1 bel1 j0 j1
    go_wp2
    show bodyPost _ _ _ _ _ ((put6R w1 (w.heap.size + 1) (.int .i64 3) (.slice a1 fs.length c1) (.slice b1 ps.length d1) (.int .i64 cp) (.int .i64 0) (.bool true)).alloc (.cells #[.slice a1 fs.length c1, .slice b1 ps.length d1, .int .i64 cp, .int .i64 0, .bool true] 26))
    clear r0 r1 r2 r3 r4 r5 ff
    obtain ⟨r0, r1, r2, r3, r4, r5⟩ := box_sixR HB2
    exact bodyPost_ret (v := .agg #[.int .i64 3, .slice a1 fs.length c1, .slice b1 ps.length d1, .int .i64 cp, .int .i64 0, .bool true]) (by simp [results, Try.results47, go_sem, r0, r1, r2, r3, r4, r5]) rfl HR.out
  · have h0' : (fu == 0) = false := by simp [h0]
    by_cases h1 : 0 < fu
    · have HB := put6R_box j1 (.int .i64 0) (.slice a1 fs.length c1) (.slice b1 ps.length d1) (.int .i64 cp) (.int .i64 (fu - 1)) (.bool de)
      have hsz : (put6R w1 (w.heap.size + 1) (.int .i64 0) (.slice a1 fs.length c1) (.slice b1 ps.length d1) (.int .i64 cp) (.int .i64 (fu - 1)) (.bool de)).heap.size = w1.heap.size := by simp [put6R, World.setCell]
      have HB2 : ((put6R w1 (w.heap.size + 1) (.int .i64 0) (.slice a1 fs.length c1) (.slice b1 ps.length d1) (.int .i64 cp) (.int .i64 (fu - 1)) (.bool de)).alloc (.cells #[.slice a1 fs.length c1, .slice b1 ps.length d1, .int .i64 cp, .int .i64 (fu - 1), .bool de] 26)).heap[w.heap.size + 1]? = some (.cells #[.int .i64 0, .slice a1 fs.length c1, .slice b1 ps.length d1, .int .i64 cp, .int .i64 (fu - 1), .bool de] 30) := (heap_alloc_old _ _ (by rw [hsz]; omega)).trans HB
      have HR0 : ResAt w (.returned (.agg #[.int .i64 0, .slice a1 fs.length c1, .slice b1 ps.length d1, .int .i64 cp, .int .i64 (fu - 1), .bool de])) (put6R w1 (w.heap.size + 1) (.int .i64 0) (.slice a1 fs.length c1) (.slice b1 ps.length d1) (.int .i64 cp) (.int .i64 (fu - 1)) (.bool de)) 0 fs ps cp (fu - 1) de := ResAt.mk6 (by omega) hO1 (by omega) (by omega) bel1
      have HR : Hid (ResAt w (.returned (.agg #[.int .i64 0, .slice a1 fs.length c1, .slice b1 ps.length d1, .int .i64 cp, .int .i64 (fu - 1), .bool de])) ((put6R w1 (w.heap.size + 1) (.int .i64 0) (.slice a1 fs.length c1) (.slice b1 ps.length d1) (.int .i64 cp) (.int .i64 (fu - 1)) (.bool de)).alloc (.cells #[.slice a1 fs.length c1, .slice b1 ps.length d1, .int .i64 cp, .int .i64 (fu - 1), .bool de] 26)) 0 fs ps cp (fu - 1) de) := HR0.after ((Below.refl _ _).alloc (Nat.le_refl _) _)
      clear HR0 HB hsz hO1 bel1 j0 j1
      go_wp2
      show bodyPost _ _ _ _ _ ((put6R w1 (w.heap.size + 1) (.int .i64 0) (.slice a1 fs.length c1) (.slice b1 ps.length d1) (.int .i64 cp) (.int .i64 (fu - 1)) (.bool de)).alloc (.cells #[.slice a1 fs.length c1, .slice b1 ps.length d1, .int .i64 cp, .int .i64 (fu - 1), .bool de] 26))
      clear r0 r1 r2 r3 r4 r5 ff
      obtain ⟨r0, r1, r2, r3, r4, r5⟩ := box_sixR HB2
      exact bodyPost_ret (v := .agg #[.int .i64 0, .slice a1 fs.length c1, .slice b1 ps.length d1, .int .i64 cp, .int .i64 (fu - 1), .bool de]) (by simp [results, Try.results47, go_sem, r0, r1, r2, r3, r4, r5]) rfl (by rw [show spE fu = 0 from if_neg h0, show spF fu = fu - 1 from if_pos (by omega), show spD fu de = de from if_neg h0]; exact HR.out)
    · have h1' : decide (0 < fu) = false := decide_eq_false h1
      have HB := put6R_box j1 (.int .i64 0) (.slice a1 fs.length c1) (.slice b1 ps.length d1) (.int .i64 cp) (.int .i64 fu) (.bool de)
      have hsz : (put6R w1 (w.heap.size + 1) (.int .i64 0) (.slice a1 fs.length c1) (.slice b1 ps.length d1) (.int .i64 cp) (.int .i64 fu) (.bool de)).heap.size = w1.heap.size := by simp [put6R, World.setCell]
      have HB2 : ((put6R w1 (w.heap.size + 1) (.int .i64 0) (.slice a1 fs.length c1) (.slice b1 ps.length d1) (.int .i64 cp) (.int .i64 fu) (.bool de)).alloc (.cells #[.slice a1 fs.length c1, .slice b1 ps.length d1, .int .i64 cp, .int .i64 fu, .bool de] 26)).heap[w.heap.size + 1]? = some (.cells #[.int .i64 0, .slice a1 fs.length c1, .slice b1 ps.length d1, .int .i64 cp, .int .i64 fu, .bool de] 30) := (heap_alloc_old _ _ (by rw [hsz]; omega)).trans HB
      have HR0 : ResAt w (.returned (.agg #[.int .i64 0, .slice a1 fs.length c1, .slice b1 ps.length d1, .int .i64 cp, .int .i64 fu, .bool de])) (put6R w1 (w.heap.size + 1) (.int .i64 0) (.slice a1 fs.length c1) (.slice b1 ps.length d1) (.int .i64 cp) (.int .i64 fu) (.bool de)) 0 fs ps cp fu de := ResAt.mk6 (by omega) hO1 (by omega) (by omega) bel1
      have HR : Hid (ResAt w (.returned (.agg #[.int .i64 0, .slice a1 fs.length c1, .slice b1 ps.length d1, .int .i64 cp, .int .i64 fu, .bool de])) ((put6R w1 (w.heap.size + 1) (.int .i64 0) (.slice a1 fs.length c1) (.slice b1 ps.length d1) (.int .i64 cp) (.int .i64 fu) (.bool de)).alloc (.cells #[.slice a1 fs.length c1, .slice b1 ps.length d1, .int .i64 cp, .int .i64 fu, .bool de] 26)) 0 fs ps cp fu de) := HR0.after ((Below.refl _ _).alloc (Nat.le_refl _) _)
      clear HR0 HB hsz hO1 bel1 j0 j1
      go_wp2
      show bodyPost _ _ _ _ _ ((put6R w1 (w.heap.size + 1) (.int .i64 0) (.slice a1 fs.length c1) (.slice b1 ps.length d1) (.int .i64 cp) (.int .i64 fu) (.bool de)).alloc (.cells #[.slice a1 fs.length c1, .slice b1 ps.length d1, .int .i64 cp, .int .i64 fu, .bool de] 26))
      clear r0 r1 r2 r3 r4 r5 ff
      obtain ⟨r0, r1, r2, r3, r4, r5⟩ := box_sixR HB2
      exact bodyPost_ret (v := .agg #[.int .i64 0, .slice a1 fs.length c1, .slice b1 ps.length d1, .int .i64 cp, .int .i64 fu, .bool de]) (by simp [results, Try.results47, go_sem, r0, r1, r2, r3, r4, r5]) rfl (by rw [show spE fu = 0 from if_neg h0, show spF fu = fu from if_neg (by omega), show spD fu de = de from if_neg h0]; exact HR.out)
end Go.Proofs.Ytakdaandbdbdnaa
namespace Go.Proofs.Ytakdaandbdbdnaa
open Go.RowKit
set_option linter.unusedVariables false
set_option maxRecDepth 100000

/-- The places below j whose names are not nm. -/
def keptI (nms : Nat → ByteArray) (nm : ByteArray) (j : Nat) : List Nat := (List.range j).filter fun i => !decide (nms i = nm)
theorem keptI_lt {nms : Nat → ByteArray} {nm : ByteArray} {j k : Nat} (h : k ∈ keptI nms nm j) : k < j := by
  have := (List.mem_filter.1 h).1
  simpa using this
theorem keptI_nodup (nms : Nat → ByteArray) (nm : ByteArray) (j : Nat) : (keptI nms nm j).Nodup := List.Pairwise.filter _ List.nodup_range
theorem keptI_yes {nms : Nat → ByteArray} {nm : ByteArray} {j : Nat} (h : nms j = nm) : keptI nms nm (j + 1) = keptI nms nm j := by
  unfold keptI
  rw [List.range_succ, List.filter_append]
  simp [h]
theorem keptI_no {nms : Nat → ByteArray} {nm : ByteArray} {j : Nat} (h : nms j ≠ nm) : keptI nms nm (j + 1) = keptI nms nm j ++ [j] := by
  unfold keptI
  rw [List.range_succ, List.filter_append]
  simp [h]
theorem keptI_len (nms : Nat → ByteArray) (nm : ByteArray) (j : Nat) : (keptI nms nm j).length ≤ j := by
  have := List.length_filter_le (fun i => !decide (nms i = nm)) (List.range j)
  simpa [keptI] using this
theorem keptI_all {nms : Nat → ByteArray} {nm : ByteArray} {j : Nat} (h : ∀ i, i < j → nms i ≠ nm) : keptI nms nm j = List.range j := by
  unfold keptI
  rw [List.filter_eq_self]
  intro i hi
  simp [h i (by simpa using hi)]
/-- The two cells of place k. -/
def cellsK (xs : List Value) (k : Nat) : List Value := [xs.getD (k * 2) (.bool false), xs.getD (k * 2 + 1) (.bool false)]
/-- The cells of some places of a row. -/
def pickR (xs : List Value) (ks : List Nat) : List Value := ks.flatMap (cellsK xs)
theorem pickR_append (xs : List Value) (a b : List Nat) : pickR xs (a ++ b) = pickR xs a ++ pickR xs b := by simp [pickR]
theorem pickR_len (xs : List Value) (ks : List Nat) : (pickR xs ks).length = ks.length * 2 := by
  induction ks with
  | nil => rfl
  | cons k r ih => simp only [pickR, List.flatMap_cons, List.length_append, List.length_cons] at *; rw [ih]; simp [cellsK]; omega
theorem pickR_cons (xs : List Value) (k : Nat) (r : List Nat) : pickR xs (k :: r) = xs.getD (k * 2) (.bool false) :: xs.getD (k * 2 + 1) (.bool false) :: pickR xs r := by simp [pickR, cellsK]
theorem pickR_get (xs : List Value) (ks : List Nat) (j : Nat) (h : j < ks.length) : (pickR xs ks)[j * 2]? = some (xs.getD (ks.getD j 0 * 2) (.bool false)) ∧ (pickR xs ks)[j * 2 + 1]? = some (xs.getD (ks.getD j 0 * 2 + 1) (.bool false)) := by
  induction ks generalizing j with
  | nil => simp at h
  | cons k r ih =>
    rw [pickR_cons]
    cases j with
    | zero => simp
    | succ j =>
      have := ih j (by simpa using h)
      rw [show (j + 1) * 2 = j * 2 + 1 + 1 by omega, show j * 2 + 1 + 1 + 1 = (j * 2 + 1) + 1 + 1 by omega]
      simpa using this
theorem getD_some {xs : List Value} {i : Nat} {v : Value} (h : xs[i]? = some v) (d : Value) : xs.getD i d = v := by simp [List.getD, h]
theorem pickR_range (xs : List Value) (n : Nat) (h : xs.length = n * 2) : pickR xs (List.range n) = xs := by
  apply List.ext_getElem?
  intro i
  by_cases hi : i < n * 2
  · have hg := pickR_get xs (List.range n) (i / 2) (by simp; omega)
    rw [show (List.range n).getD (i / 2) 0 = i / 2 by simp [List.getD, show i / 2 < n by omega]] at hg
    rcases Nat.mod_two_eq_zero_or_one i with h2 | h2
    · rw [show i / 2 * 2 = i by omega] at hg
      rw [hg.1, List.getElem?_eq_getElem (by omega)]
      simp [List.getD, List.getElem?_eq_getElem (show i < xs.length by omega)]
    · rw [show i / 2 * 2 + 1 = i by omega] at hg
      rw [hg.2, List.getElem?_eq_getElem (by omega)]
      simp [List.getD, List.getElem?_eq_getElem (show i < xs.length by omega)]
  · rw [List.getElem?_eq_none (by rw [pickR_len]; simp; omega), List.getElem?_eq_none (by omega)]
theorem set_twoK {A B : List Value} {a b u v : Value} {k : Nat} (h : A.length = k) : ((A ++ a :: b :: B).set k u).set (k + 1) v = A ++ u :: v :: B := by
  subst h
  simp
theorem pickR_set (xs : List Value) (A R : List Nat) (i j : Nat) (k : Nat) (h : A.length = k) : ((pickR xs (A ++ i :: R)).set (k * 2) (xs.getD (j * 2) (.bool false))).set (k * 2 + 1) (xs.getD (j * 2 + 1) (.bool false)) = pickR xs (A ++ j :: R) := by
  rw [pickR_append, pickR_cons, set_twoK (by rw [pickR_len, h]), pickR_append, pickR_cons]
/-- Some of one's own files, in an order of one's own, in another row. -/
theorem OwnF.pick {w w' : World} {base : Nat} {v v' : Value} {fs : List PF} {xs vs : List Value} (h : OwnF w base v fs xs vs) (ks : List Nat) (hn : ks.Nodup) (hk : ∀ k ∈ ks, k < fs.length)
    (hd : ∀ j, j < fs.length → w'.ownsRow base 5 1 (vs.getD j (.slice none 0 0)) (fs.getD j (ByteArray.empty, [])).2.length (u8s (fs.getD j (ByteArray.empty, [])).2)) (hr : w'.ownsRow base 92 2 v' ks.length (pickR xs ks)) :
    OwnF w' base v' (ks.map fun k => fs.getD k (ByteArray.empty, [])) (pickR xs ks) (ks.map fun k => vs.getD k (.slice none 0 0)) := by
  have hlt : ∀ j, j < ks.length → ks.getD j 0 < fs.length := fun j hj => by
    refine hk _ ?_
    simp [List.getD, List.getElem?_eq_getElem hj]
  have hf : ∀ j, j < ks.length → (ks.map fun k => fs.getD k (ByteArray.empty, [])).getD j (ByteArray.empty, []) = fs.getD (ks.getD j 0) (ByteArray.empty, []) := fun j hj => by simp [List.getD, List.getElem?_eq_getElem hj]
  have hv : ∀ j, j < ks.length → (ks.map fun k => vs.getD k (.slice none 0 0)).getD j (.slice none 0 0) = vs.getD (ks.getD j 0) (.slice none 0 0) := fun j hj => by simp [List.getD, List.getElem?_eq_getElem hj]
  refine ⟨by simpa using hr, by simp, fun j hj => ?_, fun j hj => ?_, fun j hj => ?_, fun j hj => ?_, fun i j hij hj => ?_⟩
  · have hj' : j < ks.length := by simpa using hj
    have h1 := h.name _ (hlt j hj')
    rw [hf j hj', (pickR_get xs ks j hj').1, getD_some h1.1]
    exact ⟨rfl, h1.2⟩
  · have hj' : j < ks.length := by simpa using hj
    have h1 := h.val _ (hlt j hj')
    rw [hv j hj', (pickR_get xs ks j hj').2, getD_some h1]
  · have hj' : j < ks.length := by simpa using hj
    rw [hf j hj', hv j hj']
    exact hd _ (hlt j hj')
  · have hj' : j < ks.length := by simpa using hj
    rw [hf j hj']
    exact h.byte _ (hlt j hj')
  · have hj' : j < ks.length := by simpa using hj
    have hi' : i < ks.length := by omega
    rw [hv i hi', hv j hj']
    intro g hg
    have hne : ks.getD i 0 ≠ ks.getD j 0 := by
      intro e
      simp only [List.getD, List.getElem?_eq_getElem hi', List.getElem?_eq_getElem hj', Option.getD_some] at e
      exact (List.pairwise_iff_getElem.1 hn i j hi' hj' hij) e
    exact h.apart2 hne (hlt i hi') (hlt j hj') hg
theorem keptI_map (fs : List PF) (nm : ByteArray) : (keptI (fun i => (fs.getD i (ByteArray.empty, [])).1) nm fs.length).map (fun k => fs.getD k (ByteArray.empty, [])) = fs.filter (fun f => !decide (f.1 = nm)) := by
  unfold keptI
  rw [show (fun i => !decide ((fs.getD i (ByteArray.empty, [])).1 = nm)) = (fun f : PF => !decide (f.1 = nm)) ∘ (fun i => fs.getD i (ByteArray.empty, [])) from rfl]
  rw [← List.filter_map]
  congr 1
  apply List.ext_getElem?
  intro i
  by_cases hi : i < fs.length
  · simp [hi, List.getD]
  · simp [hi]
end Go.Proofs.Ytakdaandbdbdnaa
namespace Go.Proofs.Ytakdaandbdbdnaa
open Go.RowKit
set_option linter.unusedVariables false
set_option maxRecDepth 100000

theorem box_oneS {w : World} {N : Nat} {v : Value} {t : TypeId} (h : w.heap[N]? = some (.cells #[v] t)) : w.cell? ⟨N, 0, none⟩ = some v := by simp [World.cell?, h]
theorem zeroCells_two (n : Nat) (u v : Value) : (Builtin.zeroCells #[u, v] n).toList.length = n * 2 ∧ ∀ x ∈ (Builtin.zeroCells #[u, v] n).toList, x = u ∨ x = v := by
  refine ⟨by simp [Builtin.zeroCells], fun x hx => ?_⟩
  simp only [Builtin.zeroCells, Array.toList_map, List.mem_map] at hx
  obtain ⟨i, _, rfl⟩ := hx
  rcases Nat.mod_two_eq_zero_or_one i with h | h
  · left; simp [h]
  · right; simp [h]
/-- 'clear(s)' on n > 0 files. -/
theorem run_clear_files (w : World) (ty : TypeId) (b o n c : Nat) (hn : 0 < n) (hc : ∀ j, j < n * 2 → (w.cell? ⟨b, o + j, none⟩).isSome = true) (hf : ∀ j, j < n * 2 → w.frozen? ⟨b, o + j, none⟩ = false) :
    (Builtin.clear_ #[23] ty #[.slice (some ⟨b, o, none⟩) n c]).run Try.prog w = .ok (.tuple #[]) (w.setCells b o (Builtin.zeroCells #[.string ⟨#[]⟩, .slice none 0 0] n).toList) := by
  obtain ⟨hl, hm⟩ := zeroCells_two n (.string ⟨#[]⟩) (.slice none 0 0)
  have hst := run_storeCells_cells (P := Try.prog) b o (Builtin.zeroCells #[.string ⟨#[]⟩, .slice none 0 0] n).toList 0 w (by rw [hl]; simpa using hc) (by rw [hl]; simpa using hf) (by intro v hv; rcases hm v hv with rfl | rfl <;> rfl)
  simp only [Nat.add_zero] at hst
  obtain ⟨m, rfl⟩ : ∃ m, n = m + 1 := ⟨n - 1, by omega⟩
  simp [Builtin.clear_, run_underlying Try.underlying23, Value.cells, hst]
theorem own_setCells {base g n c e size : Nat} : ∀ (vs : List Value) (o : Nat) (w : World) (xs : List Value), w.ownsRow base e size (.slice (some ⟨g, 0, none⟩) n c) n xs → ∃ ys, (w.setCells g o vs).ownsRow base e size (.slice (some ⟨g, 0, none⟩) n c) n ys ∧ ys.take o = xs.take o ∧ Fr (fun x => x = g) w (w.setCells g o vs)
  | [], o, w, xs, h => ⟨xs, h, rfl, Fr.refl _ _⟩
  | v :: r, o, w, xs, h => by
    obtain ⟨h1, h2⟩ := h.stored o v
    obtain ⟨ys, h3, h4, h5⟩ := own_setCells r (o + 1) (w.setCell ⟨g, o, none⟩ v) _ h1
    refine ⟨ys, h3, ?_, (Fr.of_grown h2 (fun x e => by cases e; rfl)).trans h5⟩
    have := congrArg (List.take o) h4
    rw [List.take_take, List.take_take, show min o (o + 1) = o by omega] at this
    rw [this, List.take_set_of_le (Nat.le_refl _)]
theorem own_cut {w : World} {base g n c e size i : Nat} {xs : List Value} (h : w.ownsRow base e size (.slice (some ⟨g, 0, none⟩) n c) n xs) (hi : i ≤ n) : w.ownsRow base e size (.slice (some ⟨g, 0, none⟩) i c) i (xs.take (i * size)) := by
  have hm : i * size ≤ n * size := Nat.mul_le_mul_right _ hi
  refine ⟨by rw [List.length_take, h.1]; omega, .inr ?_⟩
  rcases h.2 with ⟨h', _⟩ | ⟨g', cap, cur, e1, h1, h2, h3, h4, h5, h6⟩
  · simp at h'
  · injection e1 with e1 e2 e3
    injection e1 with e1
    injection e1 with e1
    subst e1 e3
    refine ⟨g, c, cur, rfl, h1, h2, by omega, h4, h5, ?_⟩
    rw [← h6, List.take_take, Nat.min_eq_left hm]
/-- The row while files are struck: what is kept so far, then what stood there. -/
def stD (nms : Nat → ByteArray) (nm : ByteArray) (n j : Nat) : List Nat := keptI nms nm j ++ List.range' (keptI nms nm j).length (n - (keptI nms nm j).length)
theorem stD_len (nms : Nat → ByteArray) (nm : ByteArray) (n j : Nat) (h : j ≤ n) : (stD nms nm n j).length = n := by
  have := keptI_len nms nm j
  simp [stD]; omega
theorem stD_get (nms : Nat → ByteArray) (nm : ByteArray) (n j t : Nat) (h : j ≤ t) (ht : t < n) : (stD nms nm n j).getD t 0 = t := by
  have := keptI_len nms nm j
  simp only [stD, List.getD]
  rw [List.getElem?_append_right (by omega), List.getElem?_range' (by omega)]
  simp; omega
theorem stD_keep (xs : List Value) (nms : Nat → ByteArray) (nm : ByteArray) (n j : Nat) (hj : j < n) (h : nms j ≠ nm) : ((pickR xs (stD nms nm n j)).set ((keptI nms nm j).length * 2) (xs.getD (j * 2) (.bool false))).set ((keptI nms nm j).length * 2 + 1) (xs.getD (j * 2 + 1) (.bool false)) = pickR xs (stD nms nm n (j + 1)) := by
  have hl := keptI_len nms nm j
  have e1 : stD nms nm n j = keptI nms nm j ++ (keptI nms nm j).length :: List.range' ((keptI nms nm j).length + 1) (n - (keptI nms nm j).length - 1) := by
    unfold stD
    obtain ⟨q, hq⟩ : ∃ q, n - (keptI nms nm j).length = q + 1 := ⟨n - (keptI nms nm j).length - 1, by omega⟩
    rw [hq, List.range'_succ]; simp
  have e2 : stD nms nm n (j + 1) = keptI nms nm j ++ j :: List.range' ((keptI nms nm j).length + 1) (n - (keptI nms nm j).length - 1) := by
    unfold stD
    rw [keptI_no h]
    simp only [List.length_append, List.length_singleton, List.append_assoc, List.singleton_append]
    rw [Nat.sub_sub]
  rw [e1, e2]
  exact pickR_set xs _ _ _ j _ rfl
theorem stD_skip {nms : Nat → ByteArray} {nm : ByteArray} {n j : Nat} (h : nms j = nm) : stD nms nm n (j + 1) = stD nms nm n j := by unfold stD; rw [keptI_yes h]
theorem stD_start {nms : Nat → ByteArray} {nm : ByteArray} {n k : Nat} (hk : k < n) (h : ∀ j, j < k → nms j ≠ nm) (hy : nms k = nm) : stD nms nm n (k + 1) = List.range n ∧ (keptI nms nm (k + 1)).length = k := by
  have e := keptI_all h
  have hl : (keptI nms nm (k + 1)).length = k := by rw [keptI_yes hy, e]; simp
  refine ⟨?_, hl⟩
  unfold stD
  rw [hl, keptI_yes hy, e, List.range_eq_range', List.range_eq_range']
  rw [show List.range' 0 n = List.range' 0 (k + (n - k)) by congr 1; omega, ← List.range'_append]
  simp
end Go.Proofs.Ytakdaandbdbdnaa
namespace Go.Proofs.Ytakdaandbdbdnaa
open Go.RowKit
set_option linter.unusedVariables false
set_option maxRecDepth 100000

/-- The files but one's. -/
def remF (fs : List PF) (nm : ByteArray) : List PF := fs.filter (fun f => !decide (f.1 = nm))
theorem blk_pick {v v' : Value} {vs : List Value} {ks : List Nat} {n : Nat} (hl : vs.length = n) (hk : ∀ k ∈ ks, k < n) (hv : ∀ g, v'.ownBlock = some g → v.ownBlock = some g) : ∀ g, Blk v' (ks.map fun k => vs.getD k (.slice none 0 0)) g → Blk v vs g := by
  intro g hg
  rcases hg with hg | ⟨j, hj, hg⟩
  · exact .inl (hv g hg)
  · have hj' : j < ks.length := by simpa using hj
    refine .inr ⟨ks.getD j 0, ?_, ?_⟩
    · rw [hl]; refine hk _ ?_; simp [List.getD, List.getElem?_eq_getElem hj']
    · rw [← hg]; simp [List.getD, List.getElem?_eq_getElem hj']
end Go.Proofs.Ytakdaandbdbdnaa
namespace Go.Proofs.Ytakdaandbdbdnaa
open Go.RowKit Go.Maps
set_option linter.unusedVariables false
set_option maxRecDepth 100000
set_option linter.unusedSimpArgs false

theorem name_lt {a b : ByteArray} (h : geB a b = false) : a.toList < b.toList := by
  simp only [geB, Bool.not_eq_false'] at h
  rw [bytesLess_eq] at h
  exact of_decide_eq_true h
theorem name_ne {a b : ByteArray} (h : a.toList < b.toList) : a ≠ b := by
  intro e; subst e; exact List.lt_irrefl _ h
/-- Names that ascend strictly: each below every later one. -/
theorem names_up {fs : List PF} (h : ∀ i, i < fs.length → fileOk fs i = true) : ∀ i j, i < j → j < fs.length → (fs.getD i (ByteArray.empty, [])).1.toList < (fs.getD j (ByteArray.empty, [])).1.toList := by
  have step : ∀ j, 0 < j → j < fs.length → (fs.getD (j - 1) (ByteArray.empty, [])).1.toList < (fs.getD j (ByteArray.empty, [])).1.toList := by
    intro j h0 hj
    have := h j hj
    simp only [fileOk, Bool.and_eq_true] at this
    have h2 := this.2
    simp only [h0, decide_true, Bool.true_and, Bool.not_eq_true'] at h2
    exact name_lt h2
  intro i j hij hj
  induction j with
  | zero => omega
  | succ j ih =>
    have h1 := step (j + 1) (by omega) hj
    simp only [Nat.add_sub_cancel] at h1
    by_cases e : i = j
    · subst e; exact h1
    · exact List.lt_trans (ih (by omega) (by omega)) h1

/-- A list of files as a census can tell it: no name twice, every file whole pages and at least one. -/
structure Inv (fs : List PF) : Prop where
  ne : ∀ i j, i ≠ j → i < fs.length → j < fs.length → (fs.getD i (ByteArray.empty, [])).1 ≠ (fs.getD j (ByteArray.empty, [])).1
  pg : ∀ i, i < fs.length → 128 ≤ (fs.getD i (ByteArray.empty, [])).2.length ∧ (fs.getD i (ByteArray.empty, [])).2.length % 128 = 0
theorem fileOk_len {fs : List PF} {i : Nat} (h : fileOk fs i = true) : 128 ≤ (fs.getD i (ByteArray.empty, [])).2.length ∧ (fs.getD i (ByteArray.empty, [])).2.length % 128 = 0 := by
  simp only [fileOk, Bool.and_eq_true, Bool.not_eq_true', beq_eq_false_iff_ne, ne_eq, beq_iff_eq] at h
  obtain ⟨⟨⟨_, h2⟩, h3⟩, _⟩ := h
  omega
theorem getD_take {fs : List PF} {k i : Nat} (h : i < k) : (fs.take k).getD i (ByteArray.empty, []) = fs.getD i (ByteArray.empty, []) := by
  simp [List.getD, List.getElem?_take, h]
theorem inv_of_ok {fs : List PF} {k : Nat} (hk : k ≤ fs.length) (h : ∀ i, i < k → fileOk fs i = true) : Inv (fs.take k) := by
  have hl : (fs.take k).length = k := by simp; omega
  have h' : ∀ i, i < (fs.take k).length → fileOk (fs.take k) i = true := by
    intro i hi
    rw [hl] at hi
    have := h i hi
    unfold fileOk at this ⊢
    rw [getD_take hi, getD_take (show i - 1 < k by omega)]
    exact this
  constructor
  · intro i j hij hi hj
    by_cases hlt : i < j
    · exact name_ne (names_up h' i j hlt hj)
    · exact (name_ne (names_up h' j i (by omega) hi)).symm
  · intro i hi
    exact fileOk_len (h' i hi)

/-- How one looks a name up in such a list. -/
theorem findN_of {fs : List PF} (h : Inv fs) {i : Nat} (hi : i < fs.length) : findN fs (fs.getD i (ByteArray.empty, [])).1 = i :=
  findN_at hi (fun j hj => h.ne j i (by omega) (by omega) hi) rfl
theorem findN_iff {fs : List PF} {nm : ByteArray} : findN fs nm < fs.length ↔ ∃ i, i < fs.length ∧ (fs.getD i (ByteArray.empty, [])).1 = nm := by
  constructor
  · intro h; exact ⟨_, h, findN_name h⟩
  · rintro ⟨i, hi, e⟩
    unfold findN
    rw [List.findIdx_lt_length]
    refine ⟨fs[i], List.getElem_mem hi, ?_⟩
    simpa [List.getD, List.getElem?_eq_getElem hi] using e
theorem lenI_of {fs : List PF} (h : Inv fs) {i : Nat} (hi : i < fs.length) : lenI fs (fs.getD i (ByteArray.empty, [])).1 = ((fs.getD i (ByteArray.empty, [])).2.length : Int) / 128 := by
  unfold lenI
  rw [findN_of h hi, if_pos hi]
theorem lenI_none {fs : List PF} {nm : ByteArray} (h : ¬ findN fs nm < fs.length) : lenI fs nm = 0 := by unfold lenI; rw [if_neg h]
theorem lenI_pos {fs : List PF} {nm : ByteArray} (h : Inv fs) (hf : findN fs nm < fs.length) : 1 ≤ lenI fs nm := by
  unfold lenI
  rw [if_pos hf]
  have := h.pg _ hf
  omega

/-- A new file with one page, or whatever, in its place. -/
theorem totalI_set {fs : List PF} {i : Nat} (hi : i < fs.length) (f : PF) : totalI (fs.set i f) = totalI fs - ((fs.getD i (ByteArray.empty, [])).2.length : Int) / 128 + (f.2.length : Int) / 128 := by
  induction fs generalizing i with
  | nil => simp at hi
  | cons x r ih =>
    cases i with
    | zero => simp [totalI]; omega
    | succ i =>
      simp only [List.set_cons_succ, totalI, List.getD_cons_succ]
      rw [ih (by simpa using hi)]
      omega
theorem totalI_ins (l : List PF) (p : Nat) (x : PF) : totalI (l.take p ++ x :: l.drop p) = totalI l + (x.2.length : Int) / 128 := by
  rw [totalI_append]
  simp only [totalI]
  have h := totalI_append (l.take p) (l.drop p)
  rw [List.take_append_drop] at h
  omega
theorem withName_total (fs : List PF) (nm : ByteArray) : totalI (withName fs nm) = totalI fs := by
  unfold withName
  split
  · rfl
  · rw [totalI_ins]; simp
theorem doP_total (fs : List PF) (nm : ByteArray) (pg : Nat) (bs : List Int) : totalI (doP fs nm pg bs) = totalI fs - ((((withName fs nm).getD (findN (withName fs nm) nm) (ByteArray.empty, [])).2.length : Nat) : Int) / 128 + ((max ((withName fs nm).getD (findN (withName fs nm) nm) (ByteArray.empty, [])).2.length ((pg + 1) * 128) : Nat) : Int) / 128 := by
  unfold doP
  rw [totalI_set (findN_with fs nm), withName_total, doData_len]
theorem withName_data (fs : List PF) (nm : ByteArray) : ((withName fs nm).getD (findN (withName fs nm) nm) (ByteArray.empty, [])).2.length = if findN fs nm < fs.length then (fs.getD (findN fs nm) (ByteArray.empty, [])).2.length else 0 := by
  by_cases h : findN fs nm < fs.length
  · rw [if_pos h]
    have : withName fs nm = fs := by unfold withName; rw [if_pos h]
    rw [this]
  · rw [if_neg h]
    have hp : insN fs nm ≤ fs.length := List.findIdx_le_length
    have e : withName fs nm = fs.take (insN fs nm) ++ (nm, []) :: fs.drop (insN fs nm) := by unfold withName; rw [if_neg h]
    have hno : ∀ i, i < fs.length → (fs.getD i (ByteArray.empty, [])).1 ≠ nm := fun i hi e2 => h (findN_iff.2 ⟨i, hi, e2⟩)
    have hf : findN (withName fs nm) nm = insN fs nm := by
      rw [e]
      refine findN_at (by simp; omega) (fun j hj => ?_) ?_
      · rw [getD_ins _ _ _ _ _ hp, if_pos hj]; exact hno j (by omega)
      · rw [getD_ins _ _ _ _ _ hp, if_neg (by omega), if_pos rfl]
    rw [hf, e, getD_ins _ _ _ _ _ hp, if_neg (by omega), if_pos rfl]
    rfl
theorem doP_total2 {fs : List PF} {nm : ByteArray} {pg : Nat} {bs : List Int} (h : Inv fs) (hp : (pg : Int) ≤ lenI fs nm) : totalI (doP fs nm pg bs) = totalI fs + (if (pg : Int) = lenI fs nm then 1 else 0) := by
  rw [doP_total, withName_data]
  by_cases hf : findN fs nm < fs.length
  · have hl : lenI fs nm = ((fs.getD (findN fs nm) (ByteArray.empty, [])).2.length : Int) / 128 := by unfold lenI; rw [if_pos hf]
    have hpg := h.pg _ hf
    rw [if_pos hf]
    rw [hl] at hp ⊢
    generalize (fs.getD (findN fs nm) (ByteArray.empty, [])).2.length = q at *
    split <;> omega
  · rw [lenI_none hf] at hp ⊢
    rw [if_neg hf]
    have : pg = 0 := by omega
    subst this
    simp
theorem total_mono (fs : List PF) (nm : ByteArray) (pg : Nat) (bs : List Int) : totalI fs ≤ totalI (doP fs nm pg bs) := by
  rw [doP_total]
  generalize ((withName fs nm).getD (findN (withName fs nm) nm) (ByteArray.empty, [])).2.length = q
  omega
theorem len_mono (fs : List PF) (nm : ByteArray) (pg : Nat) (bs : List Int) : fs.length ≤ (doP fs nm pg bs).length := by
  rw [doP_len]; split <;> omega
end Go.Proofs.Ytakdaandbdbdnaa
namespace Go.Proofs.Ytakdaandbdbdnaa
open Go.RowKit
set_option linter.unusedVariables false
set_option maxRecDepth 100000

/-- Files whose names ascend. -/
def SortedN (l : List PF) : Prop := l.Pairwise (fun f g => f.1.toList < g.1.toList)
theorem sortedN_of_ok {fs : List PF} (h : ∀ i, i < fs.length → fileOk fs i = true) : SortedN fs := by
  refine List.pairwise_iff_getElem.2 fun i j hi hj hij => ?_
  have := names_up h i j hij hj
  simpa [List.getD, List.getElem?_eq_getElem hi, List.getElem?_eq_getElem hj] using this
theorem SortedN.rem {fs : List PF} (h : SortedN fs) (nm : ByteArray) : SortedN (remF fs nm) := List.Pairwise.filter _ h
theorem lt_or_eqL {a b : List UInt8} (h : ¬ b < a) : a < b ∨ a = b := by
  by_cases h2 : a < b
  · exact .inl h2
  · exact .inr (List.le_antisymm (List.not_lt.1 h) (List.not_lt.1 h2))
theorem gtB_iff (a b : ByteArray) : gtB a b = true ↔ b.toList < a.toList := by
  unfold gtB
  rw [bytesLess_eq]
  simp only [Bool.and_eq_true, Bool.not_eq_true', decide_eq_false_iff_not, beq_eq_false_iff_ne, ne_eq]
  constructor
  · rintro ⟨h1, h2⟩
    rcases lt_or_eqL h1 with h | h
    · exact h
    · exact absurd h.symm h2
  · intro h
    exact ⟨fun h' => List.lt_irrefl _ (List.lt_trans h h'), fun e => by rw [e] at h; exact List.lt_irrefl _ h⟩
theorem toList_inj {a b : ByteArray} (h : a.toList = b.toList) : a = b := by
  have := same_yes (a := a) (b := a) rfl
  exact Decidable.byContradiction fun hn => by have := same_no hn; rw [h] at this; simp at this
theorem lt_of_not_gt {a b : ByteArray} (h : gtB a b = false) (hn : a ≠ b) : a.toList < b.toList := by
  have h1 : ¬ b.toList < a.toList := fun h' => by rw [(gtB_iff a b).2 h'] at h; cases h
  rcases lt_or_eqL h1 with h2 | h2
  · exact h2
  · exact absurd (toList_inj h2) hn
/-- A file more, in its place by name. -/
def insF (l : List PF) (f : PF) : List PF := l.takeWhile (fun g => !gtB g.1 f.1) ++ f :: l.dropWhile (fun g => !gtB g.1 f.1)
theorem insF_perm (l : List PF) (f : PF) : (insF l f).Perm (f :: l) := by
  unfold insF
  refine List.perm_middle.trans ?_
  rw [List.takeWhile_append_dropWhile]
theorem insF_sorted {l : List PF} {f : PF} (h : SortedN l) (hn : ∀ g ∈ l, g.1 ≠ f.1) : SortedN (insF l f) := by
  induction l with
  | nil => simp [insF, SortedN]
  | cons x r ih =>
    obtain ⟨h1, h2⟩ := List.pairwise_cons.1 h
    have hr := ih h2 (fun g hg => hn g (List.mem_cons_of_mem _ hg))
    cases hx : gtB x.1 f.1 with
    | false =>
      have e : insF (x :: r) f = x :: insF r f := by simp [insF, hx]
      rw [e]
      refine List.pairwise_cons.2 ⟨fun g hg => ?_, hr⟩
      rcases List.mem_cons.1 ((insF_perm r f).mem_iff.1 hg) with rfl | hg'
      · exact lt_of_not_gt hx (hn x List.mem_cons_self)
      · exact h1 g hg'
    | true =>
      have e : insF (x :: r) f = f :: x :: r := by simp [insF, hx]
      rw [e]
      have hfx := (gtB_iff _ _).1 hx
      refine List.pairwise_cons.2 ⟨fun g hg => ?_, h⟩
      rcases List.mem_cons.1 hg with rfl | hg'
      · exact hfx
      · exact List.lt_trans hfx (h1 g hg')
theorem sortedN_unique {a b : List PF} (ha : SortedN a) (hb : SortedN b) (h : a.Perm b) : a = b :=
  List.Perm.eq_of_pairwise (fun x y _ _ h1 h2 => absurd (List.lt_trans h1 h2) (List.lt_irrefl _)) ha hb h
def renOne (fr to : ByteArray) (f : PF) : PF := if f.1 = fr then (to, f.2) else f
/-- What a rename makes of files: the document's way. -/
def renF (fs : List PF) (fr to : ByteArray) : List PF := insF (remF (remF fs fr) to) (to, (fs.getD (findN fs fr) (ByteArray.empty, [])).2)
/-- .. the program's, before it sorts. -/
def renB (fs : List PF) (fr to : ByteArray) : List PF := (remF fs to).map (renOne fr to)
theorem remF_mem {fs : List PF} {nm : ByteArray} {f : PF} (h : f ∈ remF fs nm) : f ∈ fs ∧ f.1 ≠ nm := by
  have := List.mem_filter.1 h
  exact ⟨this.1, by simpa using this.2⟩
theorem remF_append (a b : List PF) (nm : ByteArray) : remF (a ++ b) nm = remF a nm ++ remF b nm := by simp [remF]
theorem remF_self {fs : List PF} {nm : ByteArray} (h : ∀ f ∈ fs, f.1 ≠ nm) : remF fs nm = fs := by
  unfold remF
  rw [List.filter_eq_self]
  intro f hf
  simp [h f hf]
theorem renOne_self {fs : List PF} {fr to : ByteArray} (h : ∀ f ∈ fs, f.1 ≠ fr) : fs.map (renOne fr to) = fs := by
  conv => rhs; rw [← List.map_id fs]
  refine List.map_congr_left fun f hf => ?_
  simp [renOne, h f hf]
theorem renF_perm {fs : List PF} {fr to : ByteArray} (hs : SortedN fs) (hf : findN fs fr < fs.length) (hne : fr ≠ to) : (renF fs fr to).Perm (renB fs fr to) := by
  obtain ⟨x, hx⟩ : ∃ x, x = fs.getD (findN fs fr) (ByteArray.empty, []) := ⟨_, rfl⟩
  have hx1 : x.1 = fr := by
    have h1 := List.findIdx_getElem (w := hf)
    rw [hx, List.getD, List.getElem?_eq_getElem hf]
    exact of_decide_eq_true (show decide ((fs[findN fs fr]'hf).1 = fr) = true from h1)
  have hsplit : fs = fs.take (findN fs fr) ++ x :: fs.drop (findN fs fr + 1) := by
    conv => lhs; rw [← List.take_append_drop (findN fs fr) fs]
    rw [List.drop_eq_getElem_cons hf]
    congr 2
    rw [hx]; simp [List.getD, List.getElem?_eq_getElem hf]
  unfold renF renB
  rw [← hx]
  generalize findN fs fr = i at *
  generalize fs.take i = p at hsplit
  generalize fs.drop (i + 1) = s at hsplit
  subst hsplit
  have hs' := List.pairwise_append.1 hs
  have hp : ∀ f ∈ p, f.1 ≠ fr := fun f hf e => by have := hs'.2.2 f hf x List.mem_cons_self; rw [e, ← hx1] at this; exact List.lt_irrefl _ this
  have hss : ∀ f ∈ s, f.1 ≠ fr := fun f hf e => by have := (List.pairwise_cons.1 hs'.2.1).1 f hf; rw [e, ← hx1] at this; exact List.lt_irrefl _ this
  have e1 : remF (p ++ x :: s) fr = p ++ s := by
    rw [remF_append, remF_self hp]
    have : remF (x :: s) fr = remF s fr := by simp [remF, hx1]
    rw [this, remF_self hss]
  have e2 : remF (p ++ x :: s) to = remF p to ++ x :: remF s to := by
    rw [remF_append]
    have : remF (x :: s) to = x :: remF s to := by simp [remF, hx1, hne]
    rw [this]
  rw [e1, e2, remF_append, List.map_append, List.map_cons, renOne_self (fun f hf => hp f (remF_mem hf).1), renOne_self (fun f hf => hss f (remF_mem hf).1), show renOne fr to x = (to, x.2) by simp [renOne, hx1]]
  exact (insF_perm _ _).trans List.perm_middle.symm
theorem renF_sorted {fs : List PF} {fr to : ByteArray} (hs : SortedN fs) : SortedN (renF fs fr to) := insF_sorted ((hs.rem fr).rem to) (fun g hg => (remF_mem hg).2)
theorem ren_sort {fs C : List PF} {fr to : ByteArray} (hs : SortedN fs) (hf : findN fs fr < fs.length) (hne : fr ≠ to) (hp : C.Perm (renB fs fr to)) (hC : SortedN C) : C = renF fs fr to := sortedN_unique hC (renF_sorted hs) (hp.trans (renF_perm hs hf hne).symm)
/-- Names that do not descend ascend, where no two are one. -/
theorem sortedN_of_le {C : List PF} (h : ∀ i j (hij : i < j) (hj : j < C.length), ¬ (C[j]'hj).1.toList < (C[i]'(Nat.lt_trans hij hj)).1.toList) (hd : (C.map (·.1)).Nodup) : SortedN C := by
  refine List.pairwise_iff_getElem.2 fun i j hi hj hij => ?_
  rcases lt_or_eqL (h i j hij hj) with h1 | h1
  · exact h1
  · exfalso
    have := List.pairwise_iff_getElem.1 hd i j (by simpa using hi) (by simpa using hj) hij
    simp only [List.getElem_map, ne_eq] at this
    exact this (toList_inj h1)
theorem sortedN_nodup {l : List PF} (h : SortedN l) : (l.map (·.1)).Nodup := by
  refine List.pairwise_map.2 (h.imp fun h' e => ?_)
  rw [e] at h'
  exact List.lt_irrefl _ h'
end Go.Proofs.Ytakdaandbdbdnaa
