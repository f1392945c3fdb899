import Derived.Test.YtmmdkjeoadlikaaCsW
import Derived.Test.YtmmdkjeoadlikaaDR
import Derived.Test.YtmmdkjeoadlikaaSpV
namespace Go.Proofs.Ytmmdkjeoadlikaa
open Go.RowKit
set_option linter.unusedVariables false
set_option maxRecDepth 100000

/-- A disk that a step tells, in memory of its own. -/
structure ResAt (w : World) (e : Ending) (w' : World) (er : Int) (fs : List PF) (ps : List PP) (cp fu : Int) (de : Bool) : Prop where
  out : ∃ (a : Option Addr) (c : Nat) (b : Option Addr) (d : Nat) (xs vs ys us : List Value), e = .returned (.agg #[.int .i64 er, .slice a fs.length c, .slice b ps.length d, .int .i64 cp, .int .i64 fu, .bool de]) ∧ OwnD w' w.heap.size (.slice a fs.length c) (.slice b ps.length d) fs ps xs vs ys us ∧ Below w.heap.size w w'
theorem OwnD.frS {S : Nat → Prop} {w w' : World} {base : Nat} {v u : Value} {fs : List PF} {ps : List PP} {xs vs ys us : List Value} (h : OwnD w base v u fs ps xs vs ys us) (hf : Fr S w w') (hS : ∀ g, S g → ¬ (Blk v vs g ∨ Blk u us g)) : OwnD w' base v u fs ps xs vs ys us :=
  ⟨h.files.fr hf (fun g hg e => hS g e (.inl hg)), h.cache.fr hf (fun g hg e => hS g e (.inr hg)), h.apart⟩
theorem OwnD.blk {w : World} {base : Nat} {v u : Value} {fs : List PF} {ps : List PP} {xs vs ys us : List Value} (h : OwnD w base v u fs ps xs vs ys us) {g : Nat} (hg : Blk v vs g ∨ Blk u us g) : base ≤ g ∧ g < w.heap.size := hg.elim h.files.blk h.cache.blk
theorem OwnD.lower {w : World} {base base' : Nat} {v u : Value} {fs : List PF} {ps : List PP} {xs vs ys us : List Value} (h : OwnD w base v u fs ps xs vs ys us) (hb : base' ≤ base) : OwnD w base' v u fs ps xs vs ys us := ⟨OwnF.lower h.files hb, OwnP.lower h.cache hb, h.apart⟩
theorem OwnD.shape {w : World} {base : Nat} {v u : Value} {fs : List PF} {ps : List PP} {xs vs ys us : List Value} (h : OwnD w base v u fs ps xs vs ys us) : (∃ a c, v = .slice a fs.length c) ∧ ∃ b d, u = .slice b ps.length d := ⟨own_shape h.files.row, own_shape h.cache.row⟩
def put6R (w : World) (N : Nat) (u0 u1 u2 u3 u4 u5 : Value) : World := (((((w.setCell ⟨N, 0, none⟩ u0).setCell ⟨N, 1, none⟩ u1).setCell ⟨N, 2, none⟩ u2).setCell ⟨N, 3, none⟩ u3).setCell ⟨N, 4, none⟩ u4).setCell ⟨N, 5, none⟩ u5
theorem put6R_box {w : World} {N t : Nat} {v0 v1 v2 v3 v4 v5 : Value} (h : w.heap[N]? = some (.cells #[v0, v1, v2, v3, v4, v5] t)) (u0 u1 u2 u3 u4 u5 : Value) : (put6R w N u0 u1 u2 u3 u4 u5).heap[N]? = some (.cells #[u0, u1, u2, u3, u4, u5] t) := by
  simp [put6R, World.setCell, Array.getElem?_modify, h]
theorem put6R_fr (w : World) (N : Nat) (u0 u1 u2 u3 u4 u5 : Value) : Fr (fun x => x = N) w (put6R w N u0 u1 u2 u3 u4 u5) :=
  (((((fr_setCell _ _ _ _).trans (fr_setCell _ _ _ _)).trans (fr_setCell _ _ _ _)).trans (fr_setCell _ _ _ _)).trans (fr_setCell _ _ _ _)).trans (fr_setCell _ _ _ _)
/-- What a step spends: its word, the fuel, whether the disk is dead. -/
def spE (fu : Int) : Int := if fu = 0 then 3 else 0
def spF (fu : Int) : Int := if 0 < fu then fu - 1 else fu
def spD (fu : Int) (de : Bool) : Bool := if fu = 0 then true else de
theorem ResAt.mk6 {w X : World} {R base : Nat} {er cp fu : Int} {de : Bool} {a b : Option Addr} {c d : Nat} {fs : List PF} {ps : List PP} {xs vs ys us : List Value} (hRw : w.heap.size ≤ R) (hO : OwnD X base (.slice a fs.length c) (.slice b ps.length d) fs ps xs vs ys us) (hRb : R < base) (hX : R < X.heap.size) (hbel : Below w.heap.size w X) :
    ResAt w (.returned (.agg #[.int .i64 er, .slice a fs.length c, .slice b ps.length d, .int .i64 cp, .int .i64 fu, .bool de])) (put6R X R (.int .i64 er) (.slice a fs.length c) (.slice b ps.length d) (.int .i64 cp) (.int .i64 fu) (.bool de)) er fs ps cp fu de := by
  have hz := put6R_fr X R (.int .i64 er) (.slice a fs.length c) (.slice b ps.length d) (.int .i64 cp) (.int .i64 fu) (.bool de)
  exact ⟨⟨a, c, b, d, xs, vs, ys, us, rfl, OwnD.lower (hO.frS hz (fun g e hg => by have := (hO.blk hg).1; omega)) (by omega), hbel.trans (hz.below (by omega) (fun g e => by omega))⟩⟩
theorem ResAt.after {w X X' : World} {e : Ending} {er cp fu : Int} {de : Bool} {fs : List PF} {ps : List PP} (h : ResAt w e X er fs ps cp fu de) (hb : Below X.heap.size X X') : ResAt w e X' er fs ps cp fu de := by
  obtain ⟨a, c, b, d, xs, vs, ys, us, e1, hO, hbel⟩ := h.out
  exact ⟨⟨a, c, b, d, xs, vs, ys, us, e1, hO.below hb, hbel.trans (hb.mono hbel.size)⟩⟩
set_option maxHeartbeats 800000 in
theorem l1Bad_any (a : Option Addr) (n c : Nat) (fs : List PF) (b : Option Addr) (m d : Nat) (ps : List PP) (cp fu : Int) (de : Bool) (w : World) (A B : Nat) (hB : B ≤ w.heap.size)
    (hF : FilesAt w A B a n c fs) (hP : PendsAt w A B b m d ps) (hn : n ≤ 1048576) (hm : m ≤ 1048576) (hall : ∀ j, j < n → (fs.getD j (ByteArray.empty, [])).2.length ≤ 1048576) (hall2 : ∀ j, j < m → (ps.getD j (ByteArray.empty, 0, [])).2.2.length ≤ 1048576) :
    Calls Try.prog 41 #[.agg #[.slice a n c, .slice b m d, .int .i64 cp, .int .i64 fu, .bool de]] w fun e w' => ResAt w e w' 1 fs ps cp fu de := by
  have HF : Hid (∀ W, Below w.heap.size w W → FilesAt W A B a n c fs) := fun W hW => hF.below (hW.mono hB)
  have HP : Hid (∀ W, Below w.heap.size w W → PendsAt W A B b m d ps) := fun W hW => hP.below (hW.mono hB)
  have HA : Hid (∀ j, j < n → (fs.getD j (ByteArray.empty, [])).2.length ≤ 1048576) := hall
  have HA2 : Hid (∀ j, j < m → (ps.getD j (ByteArray.empty, 0, [])).2.2.length ≤ 1048576) := hall2
  clear hF hP hall hall2
  go_enter Try.func41, Try.ntmps41
  go_wp2_with fail
  have hs0 : ((w.alloc (.cells #[.slice a n c, .slice b m d, .int .i64 cp, .int .i64 fu, .bool de] 32)).alloc (.cells #[.int .i64 0, .slice none 0 0, .slice none 0 0, .int .i64 0, .int .i64 0, .bool false] 40)).heap.size = w.heap.size + 2 := by simp
  have hb0 : Below w.heap.size w ((w.alloc (.cells #[.slice a n c, .slice b m d, .int .i64 cp, .int .i64 fu, .bool de] 32)).alloc (.cells #[.int .i64 0, .slice none 0 0, .slice none 0 0, .int .i64 0, .int .i64 0, .bool false] 40)) := ((Below.refl _ _).alloc (Nat.le_refl _) _).alloc (by simp) _
  have k0 : ((w.alloc (.cells #[.slice a n c, .slice b m d, .int .i64 cp, .int .i64 fu, .bool de] 32)).alloc (.cells #[.int .i64 0, .slice none 0 0, .slice none 0 0, .int .i64 0, .int .i64 0, .bool false] 40)).heap[w.heap.size]? = some (.cells #[.slice a n c, .slice b m d, .int .i64 cp, .int .i64 fu, .bool de] 32) := by rw [heap_alloc_old _ _ (by simp)]; exact heap_alloc_new _ _
  have k1 : ((w.alloc (.cells #[.slice a n c, .slice b m d, .int .i64 cp, .int .i64 fu, .bool de] 32)).alloc (.cells #[.int .i64 0, .slice none 0 0, .slice none 0 0, .int .i64 0, .int .i64 0, .bool false] 40)).heap[w.heap.size + 1]? = some (.cells #[.int .i64 0, .slice none 0 0, .slice none 0 0, .int .i64 0, .int .i64 0, .bool false] 40) := by have := heap_alloc_new (w.alloc (.cells #[.slice a n c, .slice b m d, .int .i64 cp, .int .i64 fu, .bool de] 32)) (.cells #[.int .i64 0, .slice none 0 0, .slice none 0 0, .int .i64 0, .int .i64 0, .bool false] 40); simpa using this
  generalize ((w.alloc (.cells #[.slice a n c, .slice b m d, .int .i64 cp, .int .i64 fu, .bool de] 32)).alloc (.cells #[.int .i64 0, .slice none 0 0, .slice none 0 0, .int .i64 0, .int .i64 0, .bool false] 40)) = W0 at hs0 hb0 k0 k1 ⊢
  refine (l1Copy_any a n c fs b m d ps cp fu de W0 A B (by omega) (HF.out W0 hb0) (HP.out W0 hb0) hn hm HA.out HA2.out).mono ?_
  rintro e w1 ⟨v, u, xs, vs, ys, us, rfl, hO1, hb1⟩
  obtain ⟨⟨a1, c1, rfl⟩, b1, d1, rfl⟩ := hO1.shape
  have hs1 := hb1.size
  have j0 := (hb1.block w.heap.size (by omega)).trans k0
  have j1 := (hb1.block (w.heap.size + 1) (by omega)).trans k1
  have bel1 : Below w.heap.size w w1 := hb0.trans (hb1.mono (by omega))
  rw [hs0] at hO1 hs1
  clear hb0 k0 k1 hb1 hs0 HF HP HA HA2
  have jR := j1
  obtain ⟨r0, r1, r2, r3, r4, r5⟩ := box_sixR jR
  have ff := box_thawC jR
  have HB := put6R_box jR (.int .i64 1) (.slice a1 fs.length c1) (.slice b1 ps.length d1) (.int .i64 cp) (.int .i64 fu) (.bool de)
  have HR : Hid (ResAt w (.returned (.agg #[.int .i64 1, .slice a1 fs.length c1, .slice b1 ps.length d1, .int .i64 cp, .int .i64 fu, .bool de])) (put6R w1 (w.heap.size + 1) (.int .i64 1) (.slice a1 fs.length c1) (.slice b1 ps.length d1) (.int .i64 cp) (.int .i64 fu) (.bool de)) 1 fs ps cp fu de) := ResAt.mk6 (by omega) hO1 (by omega) (by omega) bel1
  clear hO1 bel1 j0 j1
  go_wp2
  show bodyPost _ _ _ _ _ (put6R w1 (w.heap.size + 1) (.int .i64 1) (.slice a1 fs.length c1) (.slice b1 ps.length d1) (.int .i64 cp) (.int .i64 fu) (.bool de))
  clear r0 r1 r2 r3 r4 r5
  obtain ⟨r0, r1, r2, r3, r4, r5⟩ := box_sixR HB
  exact bodyPost_ret (v := .agg #[.int .i64 1, .slice a1 fs.length c1, .slice b1 ps.length d1, .int .i64 cp, .int .i64 fu, .bool de]) (by simp [results, Try.results41, go_sem, r0, r1, r2, r3, r4, r5]) rfl HR.out
set_option maxHeartbeats 800000 in
theorem l1Spend_any (a : Option Addr) (n c : Nat) (fs : List PF) (b : Option Addr) (m d : Nat) (ps : List PP) (cp fu : Int) (de : Bool) (w : World) (A B : Nat) (hB : B ≤ w.heap.size)
    (hF : FilesAt w A B a n c fs) (hP : PendsAt w A B b m d ps) (hn : n ≤ 1048576) (hm : m ≤ 1048576) (hall : ∀ j, j < n → (fs.getD j (ByteArray.empty, [])).2.length ≤ 1048576) (hall2 : ∀ j, j < m → (ps.getD j (ByteArray.empty, 0, [])).2.2.length ≤ 1048576) (hfu : -9223372036854775808 ≤ fu ∧ fu ≤ 9223372036854775807) :
    Calls Try.prog 47 #[.agg #[.slice a n c, .slice b m d, .int .i64 cp, .int .i64 fu, .bool de]] w fun e w' => ResAt w e w' (spE fu) fs ps cp (spF fu) (spD fu de) := by
  have HF : Hid (∀ W, Below w.heap.size w W → FilesAt W A B a n c fs) := fun W hW => hF.below (hW.mono hB)
  have HP : Hid (∀ W, Below w.heap.size w W → PendsAt W A B b m d ps) := fun W hW => hP.below (hW.mono hB)
  have HA : Hid (∀ j, j < n → (fs.getD j (ByteArray.empty, [])).2.length ≤ 1048576) := hall
  have HA2 : Hid (∀ j, j < m → (ps.getD j (ByteArray.empty, 0, [])).2.2.length ≤ 1048576) := hall2
  clear hF hP hall hall2
  go_enter Try.func47, Try.ntmps47
  go_wp2_with fail
  have hs0 : ((w.alloc (.cells #[.slice a n c, .slice b m d, .int .i64 cp, .int .i64 fu, .bool de] 32)).alloc (.cells #[.int .i64 0, .slice none 0 0, .slice none 0 0, .int .i64 0, .int .i64 0, .bool false] 40)).heap.size = w.heap.size + 2 := by simp
  have hb0 : Below w.heap.size w ((w.alloc (.cells #[.slice a n c, .slice b m d, .int .i64 cp, .int .i64 fu, .bool de] 32)).alloc (.cells #[.int .i64 0, .slice none 0 0, .slice none 0 0, .int .i64 0, .int .i64 0, .bool false] 40)) := ((Below.refl _ _).alloc (Nat.le_refl _) _).alloc (by simp) _
  have k0 : ((w.alloc (.cells #[.slice a n c, .slice b m d, .int .i64 cp, .int .i64 fu, .bool de] 32)).alloc (.cells #[.int .i64 0, .slice none 0 0, .slice none 0 0, .int .i64 0, .int .i64 0, .bool false] 40)).heap[w.heap.size]? = some (.cells #[.slice a n c, .slice b m d, .int .i64 cp, .int .i64 fu, .bool de] 32) := by rw [heap_alloc_old _ _ (by simp)]; exact heap_alloc_new _ _
  have k1 : ((w.alloc (.cells #[.slice a n c, .slice b m d, .int .i64 cp, .int .i64 fu, .bool de] 32)).alloc (.cells #[.int .i64 0, .slice none 0 0, .slice none 0 0, .int .i64 0, .int .i64 0, .bool false] 40)).heap[w.heap.size + 1]? = some (.cells #[.int .i64 0, .slice none 0 0, .slice none 0 0, .int .i64 0, .int .i64 0, .bool false] 40) := by have := heap_alloc_new (w.alloc (.cells #[.slice a n c, .slice b m d, .int .i64 cp, .int .i64 fu, .bool de] 32)) (.cells #[.int .i64 0, .slice none 0 0, .slice none 0 0, .int .i64 0, .int .i64 0, .bool false] 40); simpa using this
  generalize ((w.alloc (.cells #[.slice a n c, .slice b m d, .int .i64 cp, .int .i64 fu, .bool de] 32)).alloc (.cells #[.int .i64 0, .slice none 0 0, .slice none 0 0, .int .i64 0, .int .i64 0, .bool false] 40)) = W0 at hs0 hb0 k0 k1 ⊢
  refine (l1Copy_any a n c fs b m d ps cp fu de W0 A B (by omega) (HF.out W0 hb0) (HP.out W0 hb0) hn hm HA.out HA2.out).mono ?_
  rintro e w1 ⟨v, u, xs, vs, ys, us, rfl, hO1, hb1⟩
  obtain ⟨⟨a1, c1, rfl⟩, b1, d1, rfl⟩ := hO1.shape
  have hs1 := hb1.size
  have j0 := (hb1.block w.heap.size (by omega)).trans k0
  have j1 := (hb1.block (w.heap.size + 1) (by omega)).trans k1
  have bel1 : Below w.heap.size w w1 := hb0.trans (hb1.mono (by omega))
  rw [hs0] at hO1 hs1
  clear hb0 k0 k1 hb1 hs0 HF HP HA HA2
  obtain ⟨p0, p1, p2, p3, p4⟩ := box_fiveC j0
  obtain ⟨r0, r1, r2, r3, r4, r5⟩ := box_sixR j1
  have ff := box_thawC j1
  have hl0 : w.heap.size < w1.heap.size := by omega
  have hl1 : w.heap.size + 1 < w1.heap.size := by omega
  by_cases h0 : fu = 0
  · subst h0
    have HB := put6R_box j1 (.int .i64 3) (.slice a1 fs.length c1) (.slice b1 ps.length d1) (.int .i64 cp) (.int .i64 0) (.bool true)
    have hsz : (put6R w1 (w.heap.size + 1) (.int .i64 3) (.slice a1 fs.length c1) (.slice b1 ps.length d1) (.int .i64 cp) (.int .i64 0) (.bool true)).heap.size = w1.heap.size := by simp [put6R, World.setCell]
    have HB2 : ((put6R w1 (w.heap.size + 1) (.int .i64 3) (.slice a1 fs.length c1) (.slice b1 ps.length d1) (.int .i64 cp) (.int .i64 0) (.bool true)).alloc (.cells #[.slice a1 fs.length c1, .slice b1 ps.length d1, .int .i64 cp, .int .i64 0, .bool true] 32)).heap[w.heap.size + 1]? = some (.cells #[.int .i64 3, .slice a1 fs.length c1, .slice b1 ps.length d1, .int .i64 cp, .int .i64 0, .bool true] 40) := (heap_alloc_old _ _ (by rw [hsz]; omega)).trans HB
    have HR0 : ResAt w (.returned (.agg #[.int .i64 3, .slice a1 fs.length c1, .slice b1 ps.length d1, .int .i64 cp, .int .i64 0, .bool true])) (put6R w1 (w.heap.size + 1) (.int .i64 3) (.slice a1 fs.length c1) (.slice b1 ps.length d1) (.int .i64 cp) (.int .i64 0) (.bool true)) 3 fs ps cp 0 true := ResAt.mk6 (by omega) hO1 (by omega) (by omega) bel1
    have HR : Hid (ResAt w (.returned (.agg #[.int .i64 3, .slice a1 fs.length c1, .slice b1 ps.length d1, .int .i64 cp, .int .i64 0, .bool true])) ((put6R w1 (w.heap.size + 1) (.int .i64 3) (.slice a1 fs.length c1) (.slice b1 ps.length d1) (.int .i64 cp) (.int .i64 0) (.bool true)).alloc (.cells #[.slice a1 fs.length c1, .slice b1 ps.length d1, .int .i64 cp, .int .i64 0, .bool true] 32)) 3 fs ps cp 0 true) := HR0.after ((Below.refl _ _).alloc (Nat.le_refl _) _)
    clear HR0 HB hsz hO1 bel1 j0 j1
    go_wp2
    show bodyPost _ _ _ _ _ ((put6R w1 (w.heap.size + 1) (.int .i64 3) (.slice a1 fs.length c1) (.slice b1 ps.length d1) (.int .i64 cp) (.int .i64 0) (.bool true)).alloc (.cells #[.slice a1 fs.length c1, .slice b1 ps.length d1, .int .i64 cp, .int .i64 0, .bool true] 32))
    clear r0 r1 r2 r3 r4 r5 ff
    obtain ⟨r0, r1, r2, r3, r4, r5⟩ := box_sixR HB2
    exact bodyPost_ret (v := .agg #[.int .i64 3, .slice a1 fs.length c1, .slice b1 ps.length d1, .int .i64 cp, .int .i64 0, .bool true]) (by simp [results, Try.results47, go_sem, r0, r1, r2, r3, r4, r5]) rfl HR.out
  · have h0' : (fu == 0) = false := by simp [h0]
    by_cases h1 : 0 < fu
    · have HB := put6R_box j1 (.int .i64 0) (.slice a1 fs.length c1) (.slice b1 ps.length d1) (.int .i64 cp) (.int .i64 (fu - 1)) (.bool de)
      have hsz : (put6R w1 (w.heap.size + 1) (.int .i64 0) (.slice a1 fs.length c1) (.slice b1 ps.length d1) (.int .i64 cp) (.int .i64 (fu - 1)) (.bool de)).heap.size = w1.heap.size := by simp [put6R, World.setCell]
      have HB2 : ((put6R w1 (w.heap.size + 1) (.int .i64 0) (.slice a1 fs.length c1) (.slice b1 ps.length d1) (.int .i64 cp) (.int .i64 (fu - 1)) (.bool de)).alloc (.cells #[.slice a1 fs.length c1, .slice b1 ps.length d1, .int .i64 cp, .int .i64 (fu - 1), .bool de] 32)).heap[w.heap.size + 1]? = some (.cells #[.int .i64 0, .slice a1 fs.length c1, .slice b1 ps.length d1, .int .i64 cp, .int .i64 (fu - 1), .bool de] 40) := (heap_alloc_old _ _ (by rw [hsz]; omega)).trans HB
      have HR0 : ResAt w (.returned (.agg #[.int .i64 0, .slice a1 fs.length c1, .slice b1 ps.length d1, .int .i64 cp, .int .i64 (fu - 1), .bool de])) (put6R w1 (w.heap.size + 1) (.int .i64 0) (.slice a1 fs.length c1) (.slice b1 ps.length d1) (.int .i64 cp) (.int .i64 (fu - 1)) (.bool de)) 0 fs ps cp (fu - 1) de := ResAt.mk6 (by omega) hO1 (by omega) (by omega) bel1
      have HR : Hid (ResAt w (.returned (.agg #[.int .i64 0, .slice a1 fs.length c1, .slice b1 ps.length d1, .int .i64 cp, .int .i64 (fu - 1), .bool de])) ((put6R w1 (w.heap.size + 1) (.int .i64 0) (.slice a1 fs.length c1) (.slice b1 ps.length d1) (.int .i64 cp) (.int .i64 (fu - 1)) (.bool de)).alloc (.cells #[.slice a1 fs.length c1, .slice b1 ps.length d1, .int .i64 cp, .int .i64 (fu - 1), .bool de] 32)) 0 fs ps cp (fu - 1) de) := HR0.after ((Below.refl _ _).alloc (Nat.le_refl _) _)
      clear HR0 HB hsz hO1 bel1 j0 j1
      go_wp2
      show bodyPost _ _ _ _ _ ((put6R w1 (w.heap.size + 1) (.int .i64 0) (.slice a1 fs.length c1) (.slice b1 ps.length d1) (.int .i64 cp) (.int .i64 (fu - 1)) (.bool de)).alloc (.cells #[.slice a1 fs.length c1, .slice b1 ps.length d1, .int .i64 cp, .int .i64 (fu - 1), .bool de] 32))
      clear r0 r1 r2 r3 r4 r5 ff
      obtain ⟨r0, r1, r2, r3, r4, r5⟩ := box_sixR HB2
      exact bodyPost_ret (v := .agg #[.int .i64 0, .slice a1 fs.length c1, .slice b1 ps.length d1, .int .i64 cp, .int .i64 (fu - 1), .bool de]) (by simp [results, Try.results47, go_sem, r0, r1, r2, r3, r4, r5]) rfl (by rw [show spE fu = 0 from if_neg h0, show spF fu = fu - 1 from if_pos (by omega), show spD fu de = de from if_neg h0]; exact HR.out)
    · have h1' : decide (0 < fu) = false := decide_eq_false h1
      have HB := put6R_box j1 (.int .i64 0) (.slice a1 fs.length c1) (.slice b1 ps.length d1) (.int .i64 cp) (.int .i64 fu) (.bool de)
      have hsz : (put6R w1 (w.heap.size + 1) (.int .i64 0) (.slice a1 fs.length c1) (.slice b1 ps.length d1) (.int .i64 cp) (.int .i64 fu) (.bool de)).heap.size = w1.heap.size := by simp [put6R, World.setCell]
      have HB2 : ((put6R w1 (w.heap.size + 1) (.int .i64 0) (.slice a1 fs.length c1) (.slice b1 ps.length d1) (.int .i64 cp) (.int .i64 fu) (.bool de)).alloc (.cells #[.slice a1 fs.length c1, .slice b1 ps.length d1, .int .i64 cp, .int .i64 fu, .bool de] 32)).heap[w.heap.size + 1]? = some (.cells #[.int .i64 0, .slice a1 fs.length c1, .slice b1 ps.length d1, .int .i64 cp, .int .i64 fu, .bool de] 40) := (heap_alloc_old _ _ (by rw [hsz]; omega)).trans HB
      have HR0 : ResAt w (.returned (.agg #[.int .i64 0, .slice a1 fs.length c1, .slice b1 ps.length d1, .int .i64 cp, .int .i64 fu, .bool de])) (put6R w1 (w.heap.size + 1) (.int .i64 0) (.slice a1 fs.length c1) (.slice b1 ps.length d1) (.int .i64 cp) (.int .i64 fu) (.bool de)) 0 fs ps cp fu de := ResAt.mk6 (by omega) hO1 (by omega) (by omega) bel1
      have HR : Hid (ResAt w (.returned (.agg #[.int .i64 0, .slice a1 fs.length c1, .slice b1 ps.length d1, .int .i64 cp, .int .i64 fu, .bool de])) ((put6R w1 (w.heap.size + 1) (.int .i64 0) (.slice a1 fs.length c1) (.slice b1 ps.length d1) (.int .i64 cp) (.int .i64 fu) (.bool de)).alloc (.cells #[.slice a1 fs.length c1, .slice b1 ps.length d1, .int .i64 cp, .int .i64 fu, .bool de] 32)) 0 fs ps cp fu de) := HR0.after ((Below.refl _ _).alloc (Nat.le_refl _) _)
      clear HR0 HB hsz hO1 bel1 j0 j1
      go_wp2
      show bodyPost _ _ _ _ _ ((put6R w1 (w.heap.size + 1) (.int .i64 0) (.slice a1 fs.length c1) (.slice b1 ps.length d1) (.int .i64 cp) (.int .i64 fu) (.bool de)).alloc (.cells #[.slice a1 fs.length c1, .slice b1 ps.length d1, .int .i64 cp, .int .i64 fu, .bool de] 32))
      clear r0 r1 r2 r3 r4 r5 ff
      obtain ⟨r0, r1, r2, r3, r4, r5⟩ := box_sixR HB2
      exact bodyPost_ret (v := .agg #[.int .i64 0, .slice a1 fs.length c1, .slice b1 ps.length d1, .int .i64 cp, .int .i64 fu, .bool de]) (by simp [results, Try.results47, go_sem, r0, r1, r2, r3, r4, r5]) rfl (by rw [show spE fu = 0 from if_neg h0, show spF fu = fu from if_neg (by omega), show spD fu de = de from if_neg h0]; exact HR.out)
end Go.Proofs.Ytmmdkjeoadlikaa
