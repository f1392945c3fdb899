import Derived.Test.YtcmhobbpeaeebaaGBE
import Derived.Test.YtcmhobbpeaeebaaGBF
import Derived.Test.YtcmhobbpeaeebaaRows
import Derived.WalkKit
import Derived.ProofKit
import Derived.OpenShut
import Derived.ShutString
import Derived.ChangeOld
import Derived.Below
import Derived.Deep.Slices
namespace Go.Proofs.Ytcmhobbpeaeebaa
namespace Old
open Go.RowKit
set_option linter.unusedVariables false
set_option maxRecDepth 100000

theorem digF_len : ∀ (f k : Nat) (acc : List UInt8), (digF f k acc).length ≤ f + acc.length
  | 0, k, acc => by simp [digF]
  | f + 1, k, acc => by
    unfold digF
    split
    · omega
    · have := digF_len f (k / 10) (UInt8.ofNat (48 + k % 10) :: acc)
      simp only [List.length_cons] at this
      omega
theorem mkS_small (k : Nat) : (mkS k).size ≤ maxLen := by
  unfold mkS maxLen
  split
  · decide
  · have := digF_len 40 k []
    simp [ByteArray.size] at this ⊢
    omega
theorem markK_fit (k n : Nat) (h : k + 2 * n ≤ 1099511627776) : ∀ i, i < n → kidFit ((markK k n).getD i dK) := by
  intro i hi
  rw [markK_get k n i hi]
  exact ⟨mkS_small _, by show I64 ((k + 2 * i + 1 : Nat) : Int); unfold I64; omega⟩
theorem markE_fit (k n : Nat) (h : k + 4 * n ≤ 1099511627776) : ∀ i, i < n → entFit ((markE k n).getD i dE) := by
  intro i hi
  rw [markE_get k n i hi]
  exact ⟨mkS_small (k + 4 * i), mkS_small (k + 4 * i + 1), by show I64 ((k + 4 * i + 2 : Nat) : Int); unfold I64; omega, by show I64 ((k + 4 * i + 3 : Nat) : Int); unfold I64; omega⟩
set_option maxHeartbeats 3200000 in
theorem law_Decode (a : Option Addr) (n c : Nat) (bs : List Int) (w : World) (h : BytesAt w 0 w.heap.size a n c bs) :
    Calls Try.prog 4 #[.slice a n c] w fun e w' => e = .returned (.bool true) ∧ Below w.heap.size w w' := by
  have hcm := h.2.2.1
  have hnc := h.2.1
  have hbb : AllB bs := h.2.2.2.1
  unfold maxLen at hcm
  have hI : ∀ (a : Option Addr) (n c : Nat) (w : World) (A B : Nat), B ≤ w.heap.size → BytesAt w A B a n c bs → Calls Try.prog 14 #[.slice a n c] w fun e w' => ∃ ka kc ea ec, e = .returned (.agg #[.bool (decR bs).1, .int .i64 (decR bs).2.kind, .int .i64 (decR bs).2.tx, .int .i64 (decR bs).2.id, .int .i64 (decR bs).2.root, .int .i64 (decR bs).2.count, .slice ka (decR bs).2.ks.length kc, .slice ea (decR bs).2.es.length ec, .int .i64 (decR bs).2.next, .string (decR bs).2.data]) ∧ w'.ownsRow w.heap.size 100 2 (.slice ka (decR bs).2.ks.length kc) (decR bs).2.ks.length (rowsOf kidCells (decR bs).2.ks) ∧ w'.ownsRow w.heap.size 102 4 (.slice ea (decR bs).2.es.length ec) (decR bs).2.es.length (rowsOf entCells (decR bs).2.es) ∧ (∀ g, (Value.slice ka (decR bs).2.ks.length kc).ownBlock = some g → (Value.slice ea (decR bs).2.es.length ec).ownBlock = some g → False) ∧ Below w.heap.size w w' := fun a n c w A B hB hb => dec_impl a n c bs w A B hB hb
  have hS : ∀ (a : Option Addr) (n c : Nat) (w : World) (A B : Nat), B ≤ w.heap.size → BytesAt w A B a n c bs → Calls Try.prog 12 #[.slice a n c] w fun e w' => ∃ ka kc ea ec, e = .returned (.agg #[.bool (decR bs).1, .int .i64 (decR bs).2.kind, .int .i64 (decR bs).2.tx, .int .i64 (decR bs).2.id, .int .i64 (decR bs).2.root, .int .i64 (decR bs).2.count, .slice ka (decR bs).2.ks.length kc, .slice ea (decR bs).2.es.length ec, .int .i64 (decR bs).2.next, .string (decR bs).2.data]) ∧ w'.ownsRow w.heap.size 100 2 (.slice ka (decR bs).2.ks.length kc) (decR bs).2.ks.length (rowsOf kidCells (decR bs).2.ks) ∧ w'.ownsRow w.heap.size 102 4 (.slice ea (decR bs).2.es.length ec) (decR bs).2.es.length (rowsOf entCells (decR bs).2.es) ∧ (∀ g, (Value.slice ka (decR bs).2.ks.length kc).ownBlock = some g → (Value.slice ea (decR bs).2.es.length ec).ownBlock = some g → False) ∧ Below w.heap.size w w' := fun a n c w A B hB hb => dec_spec a n c bs w A B hB hb
  obtain ⟨hfk, hfe, hlen⟩ := decR_fit bs hbb
  generalize (decR bs).1 = ok at hI hS
  generalize (decR bs).2 = q at hI hS hfk hfe hlen
  have HI : Hid (∀ (a : Option Addr) (n c : Nat) (w : World) (A B : Nat), B ≤ w.heap.size → BytesAt w A B a n c bs → Calls Try.prog 14 #[.slice a n c] w fun e w' => ∃ ka kc ea ec, e = .returned (.agg #[.bool ok, .int .i64 q.kind, .int .i64 q.tx, .int .i64 q.id, .int .i64 q.root, .int .i64 q.count, .slice ka q.ks.length kc, .slice ea q.es.length ec, .int .i64 q.next, .string q.data]) ∧ w'.ownsRow w.heap.size 100 2 (.slice ka q.ks.length kc) q.ks.length (rowsOf kidCells q.ks) ∧ w'.ownsRow w.heap.size 102 4 (.slice ea q.es.length ec) q.es.length (rowsOf entCells q.es) ∧ (∀ g, (Value.slice ka q.ks.length kc).ownBlock = some g → (Value.slice ea q.es.length ec).ownBlock = some g → False) ∧ Below w.heap.size w w') := hI
  have HS : Hid (∀ (a : Option Addr) (n c : Nat) (w : World) (A B : Nat), B ≤ w.heap.size → BytesAt w A B a n c bs → Calls Try.prog 12 #[.slice a n c] w fun e w' => ∃ ka kc ea ec, e = .returned (.agg #[.bool ok, .int .i64 q.kind, .int .i64 q.tx, .int .i64 q.id, .int .i64 q.root, .int .i64 q.count, .slice ka q.ks.length kc, .slice ea q.es.length ec, .int .i64 q.next, .string q.data]) ∧ w'.ownsRow w.heap.size 100 2 (.slice ka q.ks.length kc) q.ks.length (rowsOf kidCells q.ks) ∧ w'.ownsRow w.heap.size 102 4 (.slice ea q.es.length ec) q.es.length (rowsOf entCells q.es) ∧ (∀ g, (Value.slice ka q.ks.length kc).ownBlock = some g → (Value.slice ea q.es.length ec).ownBlock = some g → False) ∧ Below w.heap.size w w') := hS
  have HFK : Hid (∀ i, i < q.ks.length → kidFit (q.ks.getD i dK)) := getD_fit hfk dK
  have HFE : Hid (∀ i, i < q.es.length → entFit (q.es.getD i dE)) := getD_fit hfe dE
  clear hI hS hfk hfe hbb
  go_enter Try.func4, Try.ntmps4
  by_cases hn : n ≤ 1048576
  · go_wp2_with fail
    refine (toByteS_any _ _ _ bs _ 0 _ (Nat.le_refl _) h hn).mono ?_
    rintro e w1 ⟨g1, hg1, rfl, hby1, b1⟩
    go_wp2_with fail
    refine (HS.out _ _ _ w1 _ _ (Nat.le_refl _) hby1).mono ?_
    rintro e w2 ⟨ka, kc, ea, ec, rfl, hO2, hP2, _, hb2⟩
    have b2 := b1.trans (hb2.mono b1.size)
    obtain ⟨_, _, e2, hK2⟩ := RowsAt.of_owns kc2 hO2 rfl HFK.out
    cases e2
    obtain ⟨_, _, e2, hE2⟩ := RowsAt.of_owns ec4 hP2 rfl HFE.out
    cases e2
    clear hO2 hP2 hb2 b1 hby1 hg1
    go_wp2_with fail
    have hal := (Below.refl w2.heap.size w2).alloc (Nat.le_refl _) (.cells #[.bool ok, .int .i64 q.kind, .int .i64 q.tx, .int .i64 q.id, .int .i64 q.root, .int .i64 q.count, .slice ka q.ks.length kc, .slice ea q.es.length ec, .int .i64 q.next, .string q.data] 32)
    have X3 := heap_alloc_new w2 (.cells #[.bool ok, .int .i64 q.kind, .int .i64 q.tx, .int .i64 q.id, .int .i64 q.root, .int .i64 q.count, .slice ka q.ks.length kc, .slice ea q.es.length ec, .int .i64 q.next, .string q.data] 32)
    generalize w2.alloc (.cells #[.bool ok, .int .i64 q.kind, .int .i64 q.tx, .int .i64 q.id, .int .i64 q.root, .int .i64 q.count, .slice ka q.ks.length kc, .slice ea q.es.length ec, .int .i64 q.next, .string q.data] 32) = w3 at hal X3 ⊢
    have b3 := b2.trans (hal.mono b2.size)
    have hK3 := hK2.below hal
    have hE3 := hE2.below hal
    have s23 : w2.heap.size < w3.heap.size := (Array.getElem?_eq_some_iff.1 X3).1
    have b3s := b3.size
    clear b2 hal hK2 hE2
    generalize w2.heap.size = N2 at X3 hK3 hE3 s23 ⊢
    go_wp2_with fail
    refine (toByteS_own _ _ _ bs _ 0 _ b3.size (h.below b3) hn).mono ?_
    rintro e w4 ⟨g4, xs4, hg4, rfl, hO4, hby4, hb4⟩
    have b4 := b3.trans (hb4.mono b3.size)
    have X4 := eb_call X3 hb4
    have s34 := hb4.size
    have hK4 := hK3.below (hb4.mono (by omega))
    have hE4 := hE3.below (hb4.mono (by omega))
    clear b3 X3 hb4 hK3 hE3
    go_wp2_with fail
    refine (HI.out _ _ _ w4 _ _ (Nat.le_refl _) hby4).mono ?_
    rintro e w5 ⟨ka5, kc5, ea5, ec5, rfl, hO5, hP5, hne5, hb5⟩
    have b5 := b4.trans (hb5.mono b4.size)
    have X5 := eb_call X4 hb5
    have s45 := hb5.size
    have hK5 := hK4.below (hb5.mono (by omega))
    have hE5 := hE4.below (hb5.mono (by omega))
    have hx5 := owns_below hO4 hb5
    have hg4t : g4 < w4.heap.size := (hO4.lt g4 rfl).2
    have hO5t : ∀ g, (Value.slice ka5 q.ks.length kc5).ownBlock = some g → w4.heap.size ≤ g ∧ g < w5.heap.size := fun g e => hO5.lt g e
    have hP5t : ∀ g, (Value.slice ea5 q.es.length ec5).ownBlock = some g → w4.heap.size ≤ g ∧ g < w5.heap.size := fun g e => hP5.lt g e
    have hby5 := hby4.below hb5
    clear b4 X4 hb5 hK4 hE4 hO4 hby4
    obtain ⟨c0, c1, c2, c3, c4, c5, c6, c7, c8, c9⟩ := box_res X5
    have s25 : N2 < w5.heap.size := by omega
    go_wp2_with fail
    clear c0 c1 c2 c3 c4 c5 c6 c7 c8 c9
    have hal := (Below.refl w5.heap.size w5).alloc (Nat.le_refl _) (.cells #[.bool ok, .int .i64 q.kind, .int .i64 q.tx, .int .i64 q.id, .int .i64 q.root, .int .i64 q.count, .slice ka5 q.ks.length kc5, .slice ea5 q.es.length ec5, .int .i64 q.next, .string q.data] 32)
    have Y6 := heap_alloc_new w5 (.cells #[.bool ok, .int .i64 q.kind, .int .i64 q.tx, .int .i64 q.id, .int .i64 q.root, .int .i64 q.count, .slice ka5 q.ks.length kc5, .slice ea5 q.es.length ec5, .int .i64 q.next, .string q.data] 32)
    have hO6 := hO5.alloc (.cells #[.bool ok, .int .i64 q.kind, .int .i64 q.tx, .int .i64 q.id, .int .i64 q.root, .int .i64 q.count, .slice ka5 q.ks.length kc5, .slice ea5 q.es.length ec5, .int .i64 q.next, .string q.data] 32)
    have hP6 := hP5.alloc (.cells #[.bool ok, .int .i64 q.kind, .int .i64 q.tx, .int .i64 q.id, .int .i64 q.root, .int .i64 q.count, .slice ka5 q.ks.length kc5, .slice ea5 q.es.length ec5, .int .i64 q.next, .string q.data] 32)
    have hx6 := hx5.alloc (.cells #[.bool ok, .int .i64 q.kind, .int .i64 q.tx, .int .i64 q.id, .int .i64 q.root, .int .i64 q.count, .slice ka5 q.ks.length kc5, .slice ea5 q.es.length ec5, .int .i64 q.next, .string q.data] 32)
    generalize w5.alloc (.cells #[.bool ok, .int .i64 q.kind, .int .i64 q.tx, .int .i64 q.id, .int .i64 q.root, .int .i64 q.count, .slice ka5 q.ks.length kc5, .slice ea5 q.es.length ec5, .int .i64 q.next, .string q.data] 32) = w6 at hal Y6 hO6 hP6 hx6 ⊢
    have b6 := b5.trans (hal.mono b5.size)
    have X6 := eb_call X5 hal
    have hK6 := hK5.below (hal.mono (by omega))
    have hE6 := hE5.below (hal.mono (by omega))
    have hby6 := hby5.below (hal.mono s45)
    have s56 : w5.heap.size < w6.heap.size := (Array.getElem?_eq_some_iff.1 Y6).1
    clear b5 X5 hal hK5 hE5 hO5 hP5 hx5 hby5
    generalize w5.heap.size = N5 at Y6 s45 s56 s25 hO5t hP5t ⊢
    obtain ⟨_, _, e2, hk6⟩ := RowsAt.of_owns kc2 hO6 rfl HFK.out
    cases e2
    obtain ⟨_, _, e2, he6⟩ := RowsAt.of_owns ec4 hP6 rfl HFE.out
    cases e2
    refine (eqPageRes_same ok q.kind q.tx q.id q.root q.count _ _ _ q.ks _ _ _ q.es _ _ _ _ q.next q.data w6 _ _ _ _ (Nat.le_refl _) (by omega) hk6 he6 hK6 hE6).mono ?_
    rintro e w7 ⟨rfl, hb7⟩
    have b7 := b6.trans (hb7.mono b6.size)
    have X7 := eb_call X6 hb7
    have Y7 := eb_call Y6 hb7
    have s67 := hb7.size
    have hO7 := owns_below hO6 hb7
    have hP7 := owns_below hP6 hb7
    have hx7 := owns_below hx6 hb7
    have hK7 := hK6.below (hb7.mono (by omega))
    have hE7 := hE6.below (hb7.mono (by omega))
    have hby7 := hby6.below (hb7.mono (by omega))
    clear b6 X6 Y6 hb7 hO6 hP6 hx6 hK6 hE6 hk6 he6 hby6
    go_wp2_with fail
    refine (toByteS_any _ _ _ bs w7 0 _ b7.size (h.below b7) hn).mono ?_
    rintro e w8 ⟨g8, hg8, rfl, hby8, hb8⟩
    have b8 := b7.trans (hb8.mono b7.size)
    have X8 := eb_call X7 hb8
    have Y8 := eb_call Y7 hb8
    have s78 := hb8.size
    have hO8 := owns_below hO7 hb8
    have hP8 := owns_below hP7 hb8
    have hx8 := owns_below hx7 hb8
    have hK8 := hK7.below (hb8.mono (by omega))
    have hE8 := hE7.below (hb8.mono (by omega))
    have hbx8 := hby7.below (hb8.mono (by omega))
    clear b7 X7 Y7 hb8 hO7 hP7 hx7 hK7 hE7 hby7
    go_wp2_with fail
    refine (eqByteS_same _ _ _ _ _ bs w8 _ _ _ _ hbx8 hby8).mono ?_
    rintro e w9' ⟨rfl, m9, rfl⟩
    have b9 : Below w.heap.size w (w8.drewN m9) := b8.trans ⟨rfl, rfl, rfl, Nat.le_refl _, fun _ _ => rfl⟩
    have X9 : (w8.drewN m9).heap[N2]? = _ := X8
    have Y9 : (w8.drewN m9).heap[N5]? = _ := Y8
    have hO9 : (w8.drewN m9).ownsRow _ _ _ _ _ _ := hO8
    have hP9 : (w8.drewN m9).ownsRow _ _ _ _ _ _ := hP8
    have hx9 : (w8.drewN m9).ownsRow _ _ _ _ _ _ := hx8
    have hK9 : KidsAt (w8.drewN m9) _ _ _ _ _ _ := hK8
    have hE9 : EntsAt (w8.drewN m9) _ _ _ _ _ _ := hE8
    have s89 : w8.heap.size = (w8.drewN m9).heap.size := rfl
    generalize w8.drewN m9 = w9 at b9 X9 Y9 hO9 hP9 hx9 hK9 hE9 s89 ⊢
    clear b8 X8 Y8 hO8 hP8 hx8 hK8 hE8 hbx8 hby8 hg8
    go_wp2_with fail
    refine (markByteS_any _ _ _ 1 _ _ w9 hx9 (by omega)).mono ?_
    rintro e w10 ⟨rfl, _, hg10⟩
    have hS10 : ∀ g, (Value.slice (some ⟨g4, 0, none⟩) n n).ownBlock = some g → g = g4 := fun g e => by simp [Value.ownBlock] at e; exact e.symm
    have b10 := b9.grown hg10 b9.size (fun g e => by have := hS10 g e; have := b3s; omega)
    have X10 := (hg10.block _ (Array.getElem?_eq_some_iff.1 X9).1 (fun e => by have := hS10 _ e.symm; omega)).trans X9
    have Y10 := (hg10.block _ (Array.getElem?_eq_some_iff.1 Y9).1 (fun e => by have := hS10 _ e.symm; omega)).trans Y9
    have s910 := hg10.size
    have F10 : Fr (fun g => g = g4) w9 w10 := (Fr.of_grown hg10).weak hS10
    have hO10 := owns_fr hO9 F10 (fun g e e' => by have := hO5t g e; omega)
    have hP10 := owns_fr hP9 F10 (fun g e e' => by have := hP5t g e; omega)
    have hK10 := hK9.keep (fun k k1 k2 => F10.block k (by omega) (by omega))
    have hE10 := hE9.keep (fun k k1 k2 => F10.block k (by omega) (by omega))
    clear b9 X9 Y9 hg10 hS10 hO9 hP9 hx9 hK9 hE9 F10
    obtain ⟨_, _, e2, hk10⟩ := RowsAt.of_owns kc2 hO10 rfl HFK.out
    cases e2
    obtain ⟨_, _, e2, he10⟩ := RowsAt.of_owns ec4 hP10 rfl HFE.out
    cases e2
    obtain ⟨c0, c1, c2, c3, c4, c5, c6, c7, c8, c9⟩ := box_res X10
    obtain ⟨d0, d1, d2, d3, d4, d5, d6, d7, d8, d9⟩ := box_res Y10
    have hk1 : ¬ ((1 + n : Nat) : Int) < 0 := by omega
    go_wp2_with fail
    clear c0 c1 c2 c3 c4 c5 c6 c7 c8 c9 d0 d1 d2 d3 d4 d5 d6 d7 d8 d9
    refine (eqPageRes_same ok q.kind q.tx q.id q.root q.count _ _ _ q.ks _ _ _ q.es _ _ _ _ q.next q.data w10 _ _ _ _ (Nat.le_refl _) (by omega) hk10 he10 hK10 hE10).mono ?_
    rintro e w11 ⟨rfl, hb11⟩
    have b11 := b10.trans (hb11.mono b10.size)
    have X11 := eb_call X10 hb11
    have Y11 := eb_call Y10 hb11
    have s1011 := hb11.size
    have hO11 := owns_below hO10 hb11
    have hP11 := owns_below hP10 hb11
    have hK11 := hK10.below (hb11.mono (by omega))
    have hE11 := hE10.below (hb11.mono (by omega))
    clear b10 X10 Y10 hb11 hO10 hP10 hK10 hE10 hk10 he10
    obtain ⟨d0, d1, d2, d3, d4, d5, d6, d7, d8, d9⟩ := box_res Y11
    go_wp2_with fail
    clear d0 d1 d2 d3 d4 d5 d6 d7 d8 d9
    refine (markPageRes_any ok q.kind q.tx q.id q.root q.count _ q.ks.length _ _ q.es.length _ q.next q.data 1 _ _ _ w11 hO11 hP11 hne5 (by omega)).mono ?_
    rintro e w12 ⟨rfl, hO12, hP12, hF12⟩
    have hS12 : ∀ g, ((Value.slice ka5 q.ks.length kc5).ownBlock = some g ∨ (Value.slice ea5 q.es.length ec5).ownBlock = some g) → w4.heap.size ≤ g ∧ g < N5 := fun g e => e.elim (hO5t g) (hP5t g)
    have s1112 := hF12.size
    have b12 := b11.trans (hF12.below b11.size (fun g e => by have := hS12 g e; have := b3s; omega))
    have X12 := (hF12.block _ (Array.getElem?_eq_some_iff.1 X11).1 (fun e => by have := hS12 _ e; omega)).trans X11
    have Y12 := (hF12.block _ (Array.getElem?_eq_some_iff.1 Y11).1 (fun e => by have := hS12 _ e; omega)).trans Y11
    have hK12 := hK11.keep (fun k k1 k2 => hF12.block k (by omega) (fun e => by have := hS12 k e; omega))
    have hE12 := hE11.keep (fun k k1 k2 => hF12.block k (by omega) (fun e => by have := hS12 k e; omega))
    obtain ⟨_, _, e2, hk12⟩ := RowsAt.of_owns kc2 hO12 (markK_len _ _) (markK_fit 1 q.ks.length (by omega))
    cases e2
    obtain ⟨_, _, e2, he12⟩ := RowsAt.of_owns ec4 hP12 (markE_len _ _) (markE_fit (1 + 2 * q.ks.length) q.es.length (by omega))
    cases e2
    clear b11 X11 Y11 hO11 hP11 hK11 hE11 hO12 hP12 hF12 hS12
    obtain ⟨d0, d1, d2, d3, d4, d5, d6, d7, d8, d9⟩ := box_res Y12
    go_wp2_with fail
    clear d0 d1 d2 d3 d4 d5 d6 d7 d8 d9
    refine (heldPageRes_any ok q.kind q.tx q.id q.root q.count _ q.ks.length _ _ q.es.length _ q.next q.data 1 w12 _ _ (Nat.le_refl _) hk12 he12 (by omega)).mono ?_
    rintro e w13 ⟨rfl, hb13⟩
    have b13 := b12.trans (hb13.mono b12.size)
    have X13 := eb_call X12 hb13
    have s1213 := hb13.size
    have hK13 := hK12.below (hb13.mono (by omega))
    have hE13 := hE12.below (hb13.mono (by omega))
    clear b12 X12 Y12 hb13 hK12 hE12 hk12 he12 hO5t hP5t hne5
    have hq0 : ¬ ((1 + 2 * q.ks.length + 4 * q.es.length : Nat) : Int) < 0 := by omega
    have hqm : (((1 + 2 * q.ks.length + 4 * q.es.length : Nat) : Int) != ((1 + 2 * q.ks.length + 4 * q.es.length : Nat) : Int)) = false := by simp
    go_wp2_with fail
    refine (toByteS_any _ _ _ bs w13 0 _ b13.size (h.below b13) hn).mono ?_
    rintro e w14 ⟨g14, hg14, rfl, hby14, hb14⟩
    have b14 := b13.trans (hb14.mono b13.size)
    have X14 := eb_call X13 hb14
    have s1314 := hb14.size
    have hK14 := hK13.below (hb14.mono (by omega))
    have hE14 := hE13.below (hb14.mono (by omega))
    clear b13 X13 hb14 hK13 hE13 hg14
    go_wp2_with fail
    refine (HI.out _ _ _ w14 _ _ (Nat.le_refl _) hby14).mono ?_
    rintro e w15 ⟨ka7, kc7, ea7, ec7, rfl, hO15, hP15, _, hb15⟩
    have b15 := b14.trans (hb15.mono b14.size)
    have X15 := eb_call X14 hb15
    have s1415 := hb15.size
    have hK15 := hK14.below (hb15.mono (by omega))
    have hE15 := hE14.below (hb15.mono (by omega))
    clear b14 X14 hb15 hK14 hE14 hby14
    obtain ⟨c0, c1, c2, c3, c4, c5, c6, c7, c8, c9⟩ := box_res X15
    have s215 : N2 < w15.heap.size := by omega
    go_wp2_with fail
    clear c0 c1 c2 c3 c4 c5 c6 c7 c8 c9
    have hal := (Below.refl w15.heap.size w15).alloc (Nat.le_refl _) (.cells #[.bool ok, .int .i64 q.kind, .int .i64 q.tx, .int .i64 q.id, .int .i64 q.root, .int .i64 q.count, .slice ka7 q.ks.length kc7, .slice ea7 q.es.length ec7, .int .i64 q.next, .string q.data] 32)
    have hO16 := hO15.alloc (.cells #[.bool ok, .int .i64 q.kind, .int .i64 q.tx, .int .i64 q.id, .int .i64 q.root, .int .i64 q.count, .slice ka7 q.ks.length kc7, .slice ea7 q.es.length ec7, .int .i64 q.next, .string q.data] 32)
    have hP16 := hP15.alloc (.cells #[.bool ok, .int .i64 q.kind, .int .i64 q.tx, .int .i64 q.id, .int .i64 q.root, .int .i64 q.count, .slice ka7 q.ks.length kc7, .slice ea7 q.es.length ec7, .int .i64 q.next, .string q.data] 32)
    generalize w15.alloc (.cells #[.bool ok, .int .i64 q.kind, .int .i64 q.tx, .int .i64 q.id, .int .i64 q.root, .int .i64 q.count, .slice ka7 q.ks.length kc7, .slice ea7 q.es.length ec7, .int .i64 q.next, .string q.data] 32) = w16 at hal hO16 hP16 ⊢
    have b16 := b15.trans (hal.mono b15.size)
    have s1516 := hal.size
    have hK16 := hK15.below (hal.mono (by omega))
    have hE16 := hE15.below (hal.mono (by omega))
    obtain ⟨_, _, e2, hk16⟩ := RowsAt.of_owns kc2 hO16 rfl HFK.out
    cases e2
    obtain ⟨_, _, e2, he16⟩ := RowsAt.of_owns ec4 hP16 rfl HFE.out
    cases e2
    clear b15 X15 hal hK15 hE15 hO15 hP15 hO16 hP16
    refine (eqPageRes_same ok q.kind q.tx q.id q.root q.count _ _ _ q.ks _ _ _ q.es _ _ _ _ q.next q.data w16 _ _ _ _ (Nat.le_refl _) (by omega) hk16 he16 hK16 hE16).mono ?_
    rintro e w17 ⟨rfl, hb17⟩
    have b17 := b16.trans (hb17.mono b16.size)
    clear b16 hb17 hk16 he16 hK16 hE16
    go_wp2
    go_ret
    exact ⟨rfl, b17⟩
  · go_wp2
    go_ret
    exact ⟨rfl, Below.refl _ _⟩
end Old
end Go.Proofs.Ytcmhobbpeaeebaa
namespace Go.Proofs.Ytcmhobbpeaeebaa
namespace Old
open Go.RowKit Go.Deep Go.ChangeShapes Go.WideShapes Go.ChangeAt
open Go.ChangeMaps (open_string shut_string)
set_option linter.unusedVariables false
set_option maxRecDepth 100000
section
variable {H : Type} {enc : TypeId × Value → H} {w : World} {spare : Nat → Bool} {held : Bool}
theorem cellsDU8 : Try.prog.cellsOf 5 = 1 := by kernel_rfl
theorem bytesD_open {fuel : Nat} {cs : List Value} {x : DataW H × List MemPlace} (h : DataW.trod enc Try.prog w 0 spare held fuel 22 cs = some x) : ∃ a n c bs, cs = [.slice a n c] ∧ BytesAt w 0 w.heap.size a n c bs := by
  rcases open_ints Try.underlying22 Try.underlying5 cellsDU8 h with ⟨rfl, _⟩ | ⟨a, len, cap, zs, rfl, _, hl, hm, hz, _, hc, hw⟩
  · exact ⟨none, 0, 0, [], rfl, rfl, Nat.le_refl _, Nat.zero_le _, (fun x hx => by cases hx), fun h => absurd h (Nat.lt_irrefl _), fun _ => rfl⟩
  · have hzl : len ≤ zs.length := by rw [hz]; split <;> omega
    refine ⟨some a, len, cap, zs.take len, rfl, by simp; omega, hl, hm, fun x hx => ?_, fun hn => ?_, fun h => by cases h⟩
    · exact bounds_u8 (hw x (List.mem_of_mem_take hx))
    · obtain ⟨b, off, spot⟩ := a
      have h0 := hc 0 (by omega)
      have hspot : spot = none := by simpa [Addr.add] using World.cell?_spot h0
      subst hspot
      have hlt : b < w.heap.size := lt_of_cell (by simpa [Addr.add] using h0)
      refine ⟨b, off, rfl, ⟨Nat.zero_le _, hlt⟩, fun i hi => ?_⟩
      have h1 := hc i (by omega)
      rw [show (⟨b, off, none⟩ : Addr).add i = ⟨b, off + i, none⟩ by simp [Addr.add]] at h1
      rw [h1]
      congr 2
      simp [List.getD, hi]
end
theorem own : ownKnob Try.prog.godebug = none := by kernel_rfl
theorem laidOut : laidOutB Try.prog = true := by kernel_rfl

set_option maxRecDepth 100000 in
theorem lifted (os : Os) (started : os.Started) (H : Type) (enc : TypeId × Value → H) :
    ReturnsInHanded {} Try.checked os 4 .any (Rows.fnExactDecodeOldSpec.pre6 enc Try.prog Try.f4 Rows.fnExactDecodeOldRow.domain false) (Rows.fnExactDecodeOldSpec.post enc Try.prog Try.f4 false true false false) := by
  refine returnsInHanded_of_change (C := Try.checked) own started (by kernel_rfl) Try.func4
    (ChangeSpec.witness6 (enc := enc) (C := Try.checked) false ⟨#[], #[.slice none 0 0], []⟩ 8 (by kernel_rfl) (by kernel_rfl) (by kernel_rfl) (by kernel_rfl)) ?_
  intro W base args ds gs before hval0 hW hcnd _
  have hval : ∀ (j : Nat) t v, Try.f4.params[j]? = some t → args[j]? = some v → Value.okWide Try.prog W .any base t v := hval0
  have hW' := hW
  obtain ⟨p, q, hA0, hV, rfl, hfz, hnd⟩ := hW
  have hA : DataW.TrodAll enc Try.prog W 0 (fun _ => true) true Try.f4.params.toList args.toList ds p := hA0
  rw [Try.params4] at hA hval
  obtain ⟨v1, vs1, d1, ds1, p1, q1, hargs, rfl, rfl, hs1, r1⟩ := trodAll_cons hA
  obtain ⟨rfl, rfl, rfl⟩ := trodAll_nil r1
  obtain rfl : args = #[v1] := by cases args; simp_all
  obtain ⟨rfl, rfl⟩ := trodVars_none hV
  have k1 := hs1
  have lt1 : ∀ x ∈ p1, x.block < W.heap.size := by obtain ⟨m, hm⟩ := k1; exact DataW.trod_lt m _ _ _ hm
  obtain ⟨a, n, c, rfl⟩ := okWide_slice Try.underlying22 (hval 0 22 v1 rfl rfl)
  obtain ⟨fuel, hf⟩ := hs1
  obtain ⟨a', n', c', bs, hcs, hB⟩ := bytesD_open hf
  simp only [Value.cells, List.cons.injEq, Value.slice.injEq, and_true] at hcs
  obtain ⟨rfl, rfl, rfl⟩ := hcs
  clear hA0 hval0
  refine (law_Decode a n c bs W hB).mono fun e W' ⟨he, bel⟩ => ?_
  subst he
  exact ⟨_, rfl, _, _, _, [], _, [], hW', trodAll_mk1 (shut_bool Try.underlying4 _), (trodAll_cons_mk (Below.trod laidOut (by kernel_rfl) (of_decide_eq_true (by kernel_rfl)) k1 bel lt1) trodAll_mk0), rfl, bel.frame _, fun h => by cases h⟩

theorem over : Rows.fnExactDecodeOldRow.holds Try.pinned (OpenSpec.ofChange Rows.fnExactDecodeOldSpec) :=
  OpenClaim.holds_of_wide 4 Try.f4 rfl rfl rfl rfl rfl rfl rfl ⟨rfl, rfl, rfl, rfl, rfl⟩ rfl rfl rfl rfl rfl (by kernel_rfl) Try.func4 (by kernel_rfl)
    (of_decide_eq_true (by kernel_rfl)) (by unfold Func.isWrapper; first | (rw [if_pos (by decide +kernel)]; kernel_rfl) | (rw [if_neg (by decide +kernel)]; exact ⟨rfl, rfl⟩))
    (fun os started H enc _ => lifted os started H enc)
end Old
/-- The statement. -/
theorem decodeOld_holds : Rows.FnExactDecodeOldSaid := Old.over
#print axioms decodeOld_holds
end Go.Proofs.Ytcmhobbpeaeebaa
