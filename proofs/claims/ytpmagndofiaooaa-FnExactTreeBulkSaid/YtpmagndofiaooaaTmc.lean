import Derived.Test.YtpmagndofiaooaaTma
import Derived.Deep.QuietTactic
import Derived.BigQuiet
namespace Go.Proofs.Ytpmagndofiaooaa
open Go.RowKit
set_option linter.unusedVariables false
set_option linter.unusedSimpArgs false
set_option maxRecDepth 100000

/-- The marks of texts and of numbers. -/
def mkSs (k n : Nat) : List ByteArray := (List.range n).map fun j => mkS (k + j)
def mkIs (k n : Nat) : List Int := (List.range n).map fun j => ((k + j : Nat) : Int)
theorem mkSs_get (k n j : Nat) (h : j < n) : (mkSs k n).getD j ByteArray.empty = mkS (k + j) := by simp [mkSs, List.getD, h]
theorem mkIs_get (k n j : Nat) (h : j < n) : (mkIs k n).getD j 0 = ((k + j : Nat) : Int) := by simp [mkIs, List.getD, h]
theorem mkSs_len (k n : Nat) : (mkSs k n).length = n := by simp [mkSs]
theorem mkIs_len (k n : Nat) : (mkIs k n).length = n := by simp [mkIs]
theorem row_set {α : Type} {cs : α → List Value} (hc : ∀ x, (cs x).length = 1) {ys : List Value} {zs : List α} {d : α} {n j : Nat} {v : Value} (hl : zs.length = n) (hyl : ys.length = n) (hj : j < n) (hv : cs (zs.getD j d) = [v]) (h : ∀ r, r < j → ys[r]? = (rowsOf cs zs)[r]?) : ∀ r, r < j + 1 → (ys.set j v)[r]? = (rowsOf cs zs)[r]? := fun r hr => by
  by_cases hrj : r = j
  · subst hrj
    have e0 := rowsOf_get hc d zs r 0 (by omega) (by omega)
    rw [Nat.mul_one, Nat.add_zero, hv] at e0
    rw [List.getElem?_set_self (by omega), e0]
    rfl
  · rw [List.getElem?_set_ne (by omega)]
    exact h r (by omega)
theorem some_of_lt {w : World} {base e size : Nat} {a : Option Addr} {n c : Nat} {xs : List Value} (h : w.ownsRow base e size (.slice a n c) n xs) (hn : 0 < n) : ∃ g, a = some ⟨g, 0, none⟩ := by
  rcases h.2 with ⟨e1, e2⟩ | ⟨g, cap, cur, e1, _⟩
  · omega
  · simp only [Value.slice.injEq] at e1
    exact ⟨g, e1.1⟩
set_option maxHeartbeats 1000000 in
theorem markStringS_own (a : Option Addr) (n c k base : Nat) (xs : List Value) (w : World) (h : w.ownsRow base 9 1 (.slice a n c) n xs) (hk : k + n ≤ 1000000000) :
    Calls Try.prog 56 #[.slice a n c, .int .i64 k] w fun e w' => e = .returned (.int .i64 (k + n : Nat)) ∧ w'.ownsRow base 9 1 (.slice a n c) n (rowsOf strCells (mkSs k n)) ∧ Fr (fun b => some b = (Value.slice a n c).ownBlock) w w' := by
  have hn63 : n ≤ 1000000000 := by omega
  go_enter Try.func56, Try.ntmps56
  go_wp2_with fail
  go_loopw [1, 5] (fun kv i wr => ∃ (j : Nat) (ys : List Value), j ≤ n ∧ i = .int .i64 j ∧ kv = .int .i64 ((k + j : Nat) : Int) ∧ wr.ownsRow base 9 1 (.slice a n c) n ys ∧ Hid (∀ r, r < j → ys[r]? = (rowsOf strCells (mkSs k n))[r]?) ∧ Fr (fun b => some b = (Value.slice a n c).ownBlock) w wr) (fun _ i _ => n - (intOf i).toNat)
  case atStart => exact ⟨0, xs, Nat.zero_le _, rfl, rfl, h, fun r hr => by omega, Fr.refl _ _⟩
  case round =>
    clear h
    obtain ⟨j, ys, hj, rfl, rfl, hown, HG, hfr⟩ := hrel
    by_cases hlt : j < n
    · obtain ⟨g, rfl⟩ := some_of_lt hown (by omega)
      have hgl := (hown.lt g rfl).2
      have hyl := hown.1
      have HG2 : Hid (∀ r, r < j + 1 → (ys.set j (.string (mkS (k + j))))[r]? = (rowsOf strCells (mkSs k n))[r]?) := row_set (d := ByteArray.empty) sc1 (mkSs_len k n) (by omega) hlt (by rw [mkSs_get _ _ _ hlt]; rfl) HG.out
      have hmt := markText_any (k + j) wr (by omega)
      generalize mkS (k + j) = ms at *
      go_wp2_with fail
      refine hmt.mono ?_
      rintro e w2 ⟨rfl, hb2⟩
      have hown2 := owns_below hown hb2
      have hgl2 := Nat.lt_of_lt_of_le hgl hb2.size
      have hf0 := hown2.frozenAt j
      obtain ⟨u0, hu0⟩ : ∃ u, w2.cell? ⟨g, j, none⟩ = some u := ⟨ys[j]'(by omega), by rw [hown2.cellAt j (by omega)]; exact List.getElem?_eq_getElem _⟩
      have R1 := (hown2.stored j (.string ms)).1
      have fr1 := (hfr.trans (Fr.of_below hb2)).trans ((fr_setT w2 g j (.string ms)).weak (T := fun b => some b = (Value.slice (some ⟨g, 0, none⟩) n c).ownBlock) (fun b e => by subst e; rfl))
      clear hmt hown hown2 hfr hb2 hgl HG
      go_wp2_with fail
      go_roundw
      case rel => exact ⟨j + 1, _, by omega, by go_num, by go_num, R1, HG2, fr1⟩
      case measure => simp [intOf]; omega
    · have hje : j = n := by omega
      have hys : ys = rowsOf strCells (mkSs k n) := by
        refine List.ext_getElem? fun r => ?_
        by_cases hr : r < n
        · exact HG.out r (by omega)
        · rw [List.getElem?_eq_none (by rw [hown.1]; omega), List.getElem?_eq_none (by rw [rowsOf_length sc1, mkSs_len]; omega)]
      rw [hys] at hown
      have HOW : Hid (wr.ownsRow base 9 1 (.slice a n c) n (rowsOf strCells (mkSs k n))) := hown
      clear hown HG hys
      subst hje
      go_wp2_with fail
      go_ret
      exact ⟨rfl, HOW.out, hfr⟩
set_option maxHeartbeats 1000000 in
theorem markInt64S_own (a : Option Addr) (n c k base : Nat) (xs : List Value) (w : World) (h : w.ownsRow base 2 1 (.slice a n c) n xs) (hk : k + n ≤ 1000000000) :
    Calls Try.prog 57 #[.slice a n c, .int .i64 k] w fun e w' => e = .returned (.int .i64 (k + n : Nat)) ∧ w'.ownsRow base 2 1 (.slice a n c) n (rowsOf intCells (mkIs k n)) ∧ Fr (fun b => some b = (Value.slice a n c).ownBlock) w w' := by
  have hn63 : n ≤ 1000000000 := by omega
  go_enter Try.func57, Try.ntmps57
  go_wp2_with fail
  go_loopw [1, 5] (fun kv i wr => ∃ (j : Nat) (ys : List Value), j ≤ n ∧ i = .int .i64 j ∧ kv = .int .i64 ((k + j : Nat) : Int) ∧ wr.ownsRow base 2 1 (.slice a n c) n ys ∧ Hid (∀ r, r < j → ys[r]? = (rowsOf intCells (mkIs k n))[r]?) ∧ Fr (fun b => some b = (Value.slice a n c).ownBlock) w wr) (fun _ i _ => n - (intOf i).toNat)
  case atStart => exact ⟨0, xs, Nat.zero_le _, rfl, rfl, h, fun r hr => by omega, Fr.refl _ _⟩
  case round =>
    clear h
    obtain ⟨j, ys, hj, rfl, rfl, hown, HG, hfr⟩ := hrel
    by_cases hlt : j < n
    · obtain ⟨g, rfl⟩ := some_of_lt hown (by omega)
      have hgl := (hown.lt g rfl).2
      have hyl := hown.1
      have HG2 : Hid (∀ r, r < j + 1 → (ys.set j (.int .i64 ((k + j : Nat) : Int)))[r]? = (rowsOf intCells (mkIs k n))[r]?) := row_set (d := (0 : Int)) ic1 (mkIs_len k n) (by omega) hlt (by rw [mkIs_get _ _ _ hlt]; rfl) HG.out
      obtain ⟨kj, hkj⟩ : ∃ kj, k + j = kj := ⟨_, rfl⟩
      have HKJ : Hid (k + j = kj) := hkj
      rw [hkj] at HG2 ⊢
      have hkb : kj + 1 ≤ 1000000000 := by omega
      clear hkj
      have hf0 := hown.frozenAt j
      obtain ⟨u0, hu0⟩ : ∃ u, wr.cell? ⟨g, j, none⟩ = some u := ⟨ys[j]'(by omega), by rw [hown.cellAt j (by omega)]; exact List.getElem?_eq_getElem _⟩
      have R1 := (hown.stored j (.int .i64 (kj : Int))).1
      have fr1 := hfr.trans ((fr_setT wr g j (.int .i64 (kj : Int))).weak (T := fun b => some b = (Value.slice (some ⟨g, 0, none⟩) n c).ownBlock) (fun b e => by subst e; rfl))
      clear hown hfr HG
      go_wp2_with fail
      go_roundw
      case rel => exact ⟨j + 1, _, by omega, by go_num, by have := HKJ.out; rw [show k + (j + 1) = kj + 1 by omega]; go_num, R1, HG2, fr1⟩
      case measure => simp [intOf]; omega
    · have hje : j = n := by omega
      have hys : ys = rowsOf intCells (mkIs k n) := by
        refine List.ext_getElem? fun r => ?_
        by_cases hr : r < n
        · exact HG.out r (by omega)
        · rw [List.getElem?_eq_none (by rw [hown.1]; omega), List.getElem?_eq_none (by rw [rowsOf_length ic1, mkIs_len]; omega)]
      rw [hys] at hown
      have HOW : Hid (wr.ownsRow base 2 1 (.slice a n c) n (rowsOf intCells (mkIs k n))) := hown
      clear hown HG hys
      subst hje
      go_wp2_with fail
      go_ret
      exact ⟨rfl, HOW.out, hfr⟩
end Go.Proofs.Ytpmagndofiaooaa
