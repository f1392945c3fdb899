import Derived.Test.YtcmhobbpeaeebaaPgT
import Derived.Test.YtcmhobbpeaeebaaMk
namespace Go.Proofs.Ytcmhobbpeaeebaa
open Go.RowKit
set_option linter.unusedVariables false
set_option maxRecDepth 100000

/-- What marking makes of kids and entries. -/
def markK (k n : Nat) : List PK := (List.range n).map fun i => (mkS (k + 2 * i), ((k + 2 * i + 1 : Nat) : Int))
def markE (k n : Nat) : List PE := (List.range n).map fun i => (mkS (k + 4 * i), mkS (k + 4 * i + 1), ((k + 4 * i + 2 : Nat) : Int), ((k + 4 * i + 3 : Nat) : Int))
theorem markK_len (k n : Nat) : (markK k n).length = n := by simp [markK]
theorem markE_len (k n : Nat) : (markE k n).length = n := by simp [markE]
theorem markK_get (k n i : Nat) (h : i < n) : (markK k n).getD i dK = (mkS (k + 2 * i), ((k + 2 * i + 1 : Nat) : Int)) := by simp [markK, List.getD, h]
theorem markE_get (k n i : Nat) (h : i < n) : (markE k n).getD i dE = (mkS (k + 4 * i), mkS (k + 4 * i + 1), ((k + 4 * i + 2 : Nat) : Int), ((k + 4 * i + 3 : Nat) : Int)) := by simp [markE, List.getD, h]
theorem owns_some {w : World} {base e size n c : Nat} {a : Option Addr} {xs : List Value} (h : w.ownsRow base e size (.slice a n c) n xs) (hn : 0 < n) : ∃ g, a = some ⟨g, 0, none⟩ := by
  rcases h.2 with ⟨h0, h1⟩ | ⟨g, cap, cur, h0, _⟩
  · omega
  · injection h0 with h1; exact ⟨g, h1⟩
theorem fr_set {S : Nat → Prop} {w w' : World} (h : Fr S w w') {g o : Nat} (hS : S g) (u : Value) : Fr S w (w'.setCell ⟨g, o, none⟩ u) :=
  h.trans ⟨rfl, rfl, rfl, by simp [World.setCell], fun k _ hk => Below.heap_setCell w' _ u k (fun e => hk (e ▸ hS))⟩

set_option maxHeartbeats 400000 in
theorem markKidS_any (a : Option Addr) (n c k base : Nat) (xs : List Value) (w : World) (h : w.ownsRow base 100 2 (.slice a n c) n xs) (hk : k + 2 * n ≤ 1099511627776) :
    Calls Try.prog 66 #[.slice a n c, .int .i64 k] w fun e w' => e = .returned (.int .i64 ((k + 2 * n : Nat) : Int)) ∧ w'.ownsRow base 100 2 (.slice a n c) n (rowsOf kidCells (markK k n)) ∧ Fr (fun g => (Value.slice a n c).ownBlock = some g) w w' := by
  go_enter Try.func66, Try.ntmps66
  go_wp2
  go_loopw [1, 5] (fun kv i wr => ∃ (j : Nat) (ys : List Value), j ≤ n ∧ i = .int .i64 j ∧ kv = .int .i64 ((k + 2 * j : Nat) : Int) ∧ wr.ownsRow base 100 2 (.slice a n c) n ys ∧ (∀ q, q < j * 2 → ys[q]? = (rowsOf kidCells (markK k n))[q]?) ∧ Fr (fun g => (Value.slice a n c).ownBlock = some g) w wr) (fun _ i _ => n - (intOf i).toNat)
  case atStart => exact ⟨0, xs, Nat.zero_le _, rfl, rfl, h, fun q hq => by omega, Fr.refl _ _⟩
  case round =>
    clear h
    obtain ⟨j, ys, hj, rfl, rfl, hown, hgot, hfr⟩ := hrel
    have HG : Hid (∀ q, q < j * 2 → ys[q]? = (rowsOf kidCells (markK k n))[q]?) := hgot
    clear hgot
    by_cases hlt : j < n
    · obtain ⟨g, rfl⟩ := owns_some hown (by omega)
      have HS : Hid _ := set_twoP (ys := []) (markK_len k n) hlt (p := (mkS (k + 2 * j), ((k + 2 * j + 1 : Nat) : Int))) (markK_get k n j hlt).symm hown.1 HG.out
      obtain ⟨kj, hkj⟩ : ∃ kj, kj = k + 2 * j := ⟨_, rfl⟩
      rw [← hkj] at HS ⊢
      have HKJ : Hid (kj = k + 2 * j) := hkj
      have hkb : kj ≤ 1099511627776 := by omega
      clear hkj
      have hlt0 := (hown.lt g rfl).2
      go_wp2_with (go_at_call 96; refine (markText_any kj wr hkb).mono ?_; rintro e w1 ⟨rfl, hb1⟩; have hown2 := owns_below hown hb1; have hxl := hown2.1; have hf1 := hown2.frozenAt (j * 2); have hf2 := hown2.frozenAt (j * 2 + 1); obtain ⟨u, hu⟩ : ∃ u, w1.cell? ⟨g, j * 2, none⟩ = some u := ⟨ys[j * 2]'(by omega), by rw [hown2.cellAt (j * 2) (by omega)]; exact List.getElem?_eq_getElem _⟩; obtain ⟨u2, hu2⟩ : ∃ u, w1.cell? ⟨g, j * 2 + 1, none⟩ = some u := ⟨ys[j * 2 + 1]'(by omega), by rw [hown2.cellAt (j * 2 + 1) (by omega)]; exact List.getElem?_eq_getElem _⟩; have HO : Hid (w1.ownsRow base 100 2 (.slice (some ⟨g, 0, none⟩) n c) n ys) := hown2; clear hown2 hown)
      have HK2 : Hid (((kj : Int) + 1 + 1) = ((k + 2 * (j + 1) : Nat) : Int)) := by show _ = _; have := HKJ.out; omega
      have R := (HO.out.stored (j * 2) (.string (mkS kj))).1.stored (j * 2 + 1) (.int .i64 ((kj : Int) + 1))
      go_roundw
      case rel => exact ⟨j + 1, _, by omega, by go_num, by rw [HK2.out], R.1, by have := HS.out; simpa using this, fr_set (fr_set (hfr.trans (Fr.of_below hb1)) rfl _) rfl _⟩
      case measure => simp [intOf]; omega
    · go_wp2
      go_ret
      have hkn : j = n := by omega
      subst hkn
      refine ⟨rfl, ?_, hfr⟩
      rw [show rowsOf kidCells (markK k j) = ys from ?_]
      · exact hown
      · refine (List.ext_getElem? fun q => ?_).symm
        by_cases hq : q < j * 2
        · exact HG.out q (by omega)
        · rw [List.getElem?_eq_none (by rw [hown.1]; omega), List.getElem?_eq_none (by rw [rowsOf_length kc2, markK_len]; omega)]
set_option maxHeartbeats 400000 in
theorem markEntS_any (a : Option Addr) (n c k base : Nat) (xs : List Value) (w : World) (h : w.ownsRow base 102 4 (.slice a n c) n xs) (hk : k + 4 * n ≤ 1099511627776) :
    Calls Try.prog 67 #[.slice a n c, .int .i64 k] w fun e w' => e = .returned (.int .i64 ((k + 4 * n : Nat) : Int)) ∧ w'.ownsRow base 102 4 (.slice a n c) n (rowsOf entCells (markE k n)) ∧ Fr (fun g => (Value.slice a n c).ownBlock = some g) w w' := by
  go_enter Try.func67, Try.ntmps67
  go_wp2
  go_loopw [1, 5] (fun kv i wr => ∃ (j : Nat) (ys : List Value), j ≤ n ∧ i = .int .i64 j ∧ kv = .int .i64 ((k + 4 * j : Nat) : Int) ∧ wr.ownsRow base 102 4 (.slice a n c) n ys ∧ (∀ q, q < j * 4 → ys[q]? = (rowsOf entCells (markE k n))[q]?) ∧ Fr (fun g => (Value.slice a n c).ownBlock = some g) w wr) (fun _ i _ => n - (intOf i).toNat)
  case atStart => exact ⟨0, xs, Nat.zero_le _, rfl, rfl, h, fun q hq => by omega, Fr.refl _ _⟩
  case round =>
    clear h
    obtain ⟨j, ys, hj, rfl, rfl, hown, hgot, hfr⟩ := hrel
    have HG : Hid (∀ q, q < j * 4 → ys[q]? = (rowsOf entCells (markE k n))[q]?) := hgot
    clear hgot
    by_cases hlt : j < n
    · obtain ⟨g, rfl⟩ := owns_some hown (by omega)
      have HS : Hid _ := set_four (markE_len k n) hlt (p := (mkS (k + 4 * j), mkS (k + 4 * j + 1), ((k + 4 * j + 2 : Nat) : Int), ((k + 4 * j + 3 : Nat) : Int))) (markE_get k n j hlt).symm hown.1 HG.out
      obtain ⟨kj, hkj⟩ : ∃ kj, kj = k + 4 * j := ⟨_, rfl⟩
      rw [← hkj] at HS ⊢
      have HKJ : Hid (kj = k + 4 * j) := hkj
      have hkb : kj + 4 ≤ 1099511627776 := by omega
      clear hkj
      have hlt0 := (hown.lt g rfl).2
      go_wp2_with (first
        | (go_at_call 96; refine (markText_any (kj + 1) (w1.setCell ⟨g, j * 4, none⟩ (.string (mkS kj))) (by omega)).mono ?_; rintro e w2 ⟨rfl, hb2⟩; have hown3 := owns_below (HO.out.stored (j * 4) (.string (mkS kj))).1 hb2; have hxl2 := hown3.1; have hf1 := hown3.frozenAt (j * 4 + 1); have hf2 := hown3.frozenAt (j * 4 + 2); have hf3 := hown3.frozenAt (j * 4 + 3); obtain ⟨u1, hu1⟩ : ∃ u, w2.cell? ⟨g, j * 4 + 1, none⟩ = some u := ⟨_, by rw [hown3.cellAt (j * 4 + 1) (by omega)]; exact List.getElem?_eq_getElem (by omega)⟩; obtain ⟨u2, hu2⟩ : ∃ u, w2.cell? ⟨g, j * 4 + 2, none⟩ = some u := ⟨_, by rw [hown3.cellAt (j * 4 + 2) (by omega)]; exact List.getElem?_eq_getElem (by omega)⟩; obtain ⟨u3, hu3⟩ : ∃ u, w2.cell? ⟨g, j * 4 + 3, none⟩ = some u := ⟨_, by rw [hown3.cellAt (j * 4 + 3) (by omega)]; exact List.getElem?_eq_getElem (by omega)⟩; have HO3 : Hid (w2.ownsRow base 102 4 (.slice (some ⟨g, 0, none⟩) n c) n (ys.set (j * 4) (.string (mkS kj)))) := hown3; clear hown3)
        | (go_at_call 96; refine (markText_any kj wr (by omega)).mono ?_; rintro e w1 ⟨rfl, hb1⟩; have hown2 := owns_below hown hb1; have hxl := hown2.1; have hf0 := hown2.frozenAt (j * 4); obtain ⟨u, hu⟩ : ∃ u, w1.cell? ⟨g, j * 4, none⟩ = some u := ⟨ys[j * 4]'(by omega), by rw [hown2.cellAt (j * 4) (by omega)]; exact List.getElem?_eq_getElem _⟩; have HO : Hid (w1.ownsRow base 102 4 (.slice (some ⟨g, 0, none⟩) n c) n ys) := hown2; clear hown2 hown))
      have HK2 : Hid (((kj : Int) + 1 + 1 + 1 + 1) = ((k + 4 * (j + 1) : Nat) : Int)) := by show _ = _; have := HKJ.out; omega
      have R := ((HO3.out.stored (j * 4 + 1) (.string (mkS (kj + 1)))).1.stored (j * 4 + 2) (.int .i64 ((kj : Int) + 1 + 1))).1.stored (j * 4 + 3) (.int .i64 ((kj : Int) + 1 + 1 + 1))
      go_roundw
      case rel => exact ⟨j + 1, _, by omega, by go_num, by rw [HK2.out], R.1, by rw [show (kj : Int) + 1 + 1 = ((kj + 2 : Nat) : Int) by omega, show ((kj + 2 : Nat) : Int) + 1 = ((kj + 3 : Nat) : Int) by omega]; exact HS.out, fr_set (fr_set (fr_set ((fr_set (hfr.trans (Fr.of_below hb1)) rfl _).trans (Fr.of_below hb2)) rfl _) rfl _) rfl _⟩
      case measure => simp [intOf]; omega
    · go_wp2
      go_ret
      have hkn : j = n := by omega
      subst hkn
      refine ⟨rfl, ?_, hfr⟩
      rw [show rowsOf entCells (markE k j) = ys from ?_]
      · exact hown
      · refine (List.ext_getElem? fun q => ?_).symm
        by_cases hq : q < j * 4
        · exact HG.out q (by omega)
        · rw [List.getElem?_eq_none (by rw [hown.1]; omega), List.getElem?_eq_none (by rw [rowsOf_length ec4, markE_len]; omega)]
set_option maxHeartbeats 800000 in
theorem markPage_any (kind tx id root count : Int) (ka : Option Addr) (kn kc : Nat) (ea : Option Addr) (en ec : Nat) (next : Int) (data : ByteArray) (k base : Nat) (xs ys : List Value) (w : World) (hK : w.ownsRow base 100 2 (.slice ka kn kc) kn xs) (hE : w.ownsRow base 102 4 (.slice ea en ec) en ys) (hne : ∀ g, (Value.slice ka kn kc).ownBlock = some g → (Value.slice ea en ec).ownBlock = some g → False) (hk : k + 2 * kn + 4 * en ≤ 1099511627776) :
    Calls Try.prog 24 #[.agg #[.int .i64 kind, .int .i64 tx, .int .i64 id, .int .i64 root, .int .i64 count, .slice ka kn kc, .slice ea en ec, .int .i64 next, .string data], .int .i64 k] w fun e w' => e = .returned (.int .i64 ((k + 2 * kn + 4 * en : Nat) : Int)) ∧ w'.ownsRow base 100 2 (.slice ka kn kc) kn (rowsOf kidCells (markK k kn)) ∧ w'.ownsRow base 102 4 (.slice ea en ec) en (rowsOf entCells (markE (k + 2 * kn) en)) ∧ Fr (fun g => (Value.slice ka kn kc).ownBlock = some g ∨ (Value.slice ea en ec).ownBlock = some g) w w' := by
  go_enter Try.func24, Try.ntmps24
  go_wp2_with fail
  refine (markKidS_any ka kn kc k base xs _ (hK.alloc _) (by omega)).mono ?_
  rintro e w1 ⟨rfl, hO1, hfr1⟩
  have F0 : Fr (fun g => (Value.slice ka kn kc).ownBlock = some g ∨ (Value.slice ea en ec).ownBlock = some g) w w1 := (Fr.of_below ((Below.refl _ _).alloc (Nat.le_refl _) _)).trans (hfr1.weak fun g h => .inl h)
  have hE1 := owns_fr (hE.alloc _) hfr1 (fun g h h' => hne g h' h)
  have hc := hfr1.block w.heap.size (by simp) (fun h => by have := (hK.lt _ h).2; omega)
  have hc6 : w1.cell? ⟨w.heap.size, 6, none⟩ = some (.slice ea en ec) := by
    have : (w.alloc (.cells #[.int .i64 kind, .int .i64 tx, .int .i64 id, .int .i64 root, .int .i64 count, .slice ka kn kc, .slice ea en ec, .int .i64 next, .string data] 28)).cell? ⟨w.heap.size, 6, none⟩ = some (.slice ea en ec) := by simp
    rw [← this]; exact World.cell?_of_block hc
  clear hfr1 hc hE
  go_wp2_with fail
  refine (markEntS_any ea en ec (k + 2 * kn) base ys w1 hE1 (by omega)).mono ?_
  rintro e w2 ⟨rfl, hO2, hfr2⟩
  have F1 := F0.trans (hfr2.weak (T := fun g => (Value.slice ka kn kc).ownBlock = some g ∨ (Value.slice ea en ec).ownBlock = some g) fun g h => .inr h)
  have hO3 := owns_fr hO1 hfr2 (fun g h h' => hne g h h')
  clear hfr2 F0 hO1
  go_wp2
  go_ret
  exact ⟨rfl, hO3, hO2, F1⟩
end Go.Proofs.Ytcmhobbpeaeebaa
