import Derived.Test.YtpmagndofiaooaaTmc
import Derived.Deep.QuietTactic
import Derived.BigQuiet
namespace Go.Proofs.Ytpmagndofiaooaa
open Go.RowKit
set_option linter.unusedVariables false
set_option linter.unusedSimpArgs false
set_option maxRecDepth 100000

theorem own_cell {α : Type} {cs : α → List Value} (hc : ∀ x, (cs x).length = 1) {w : World} {base e : Nat} {g n c j : Nat} {zs : List α} {d : α} {v : Value} (h : w.ownsRow base e 1 (.slice (some ⟨g, 0, none⟩) n c) n (rowsOf cs zs)) (hl : zs.length = n) (hj : j < n) (hv : cs (zs.getD j d) = [v]) : w.cell? ⟨g, j, none⟩ = some v := by
  have e0 := rowsOf_get hc d zs j 0 (by omega) (by omega)
  rw [Nat.mul_one, Nat.add_zero, hv] at e0
  rw [h.cellAt j (by omega), e0]
  rfl
set_option maxHeartbeats 1000000 in
theorem heldStringS_own (a : Option Addr) (n c k base : Nat) (w : World) (h : w.ownsRow base 9 1 (.slice a n c) n (rowsOf strCells (mkSs k n))) (hk : k + n ≤ 1000000000) :
    Calls Try.prog 58 #[.slice a n c, .int .i64 k] w fun e w' => e = .returned (.int .i64 (k + n : Nat)) ∧ Below w.heap.size w w' := by
  have hn63 : n ≤ 1000000000 := by omega
  have H1 : Hid (w.ownsRow base 9 1 (.slice a n c) n (rowsOf strCells (mkSs k n))) := h
  clear h
  go_enter Try.func58, Try.ntmps58
  go_wp2_with fail
  go_loopw [1, 5] (fun kv i wr => ∃ (j : Nat), j ≤ n ∧ i = .int .i64 j ∧ kv = .int .i64 ((k + j : Nat) : Int) ∧ Below w.heap.size w wr) (fun _ i _ => n - (intOf i).toNat)
  case atStart => exact ⟨0, Nat.zero_le _, rfl, rfl, Below.refl _ _⟩
  case round =>
    obtain ⟨j, hj, rfl, rfl, hbel⟩ := hrel
    have hs := hbel.size
    by_cases hlt : j < n
    · obtain ⟨g, rfl⟩ := some_of_lt H1.out (by omega)
      have hown := owns_below H1.out hbel
      have hbl := (hown.lt g rfl).2
      have c0 : wr.cell? ⟨g, j, none⟩ = some (.string (mkS (k + j))) := own_cell (d := ByteArray.empty) sc1 hown (mkSs_len k n) hlt (by rw [mkSs_get _ _ _ hlt]; rfl)
      obtain ⟨kj, hkj⟩ : ∃ kj, k + j = kj := ⟨_, rfl⟩
      have hkb : kj + 1 ≤ 1000000000 := by omega
      have HKJ : Hid (k + j = kj) := hkj
      rw [hkj] at c0 ⊢
      have hmt := fun W => markText_any kj W (by omega)
      have HB0 : Hid (∀ w1, Below wr.heap.size wr w1 → w1.cell? ⟨g, j, none⟩ = some (.string (mkS kj)) ∧ g < w1.heap.size) := fun w1 hb1 => ⟨(World.cell?_of_block (w := wr) (a := ⟨g, j, none⟩) (hb1.block g hbl)).trans c0, Nat.lt_of_lt_of_le hbl hb1.size⟩
      generalize mkS kj = ms at *
      have HMT : Hid (∀ W : World, Calls Try.prog 40 #[.int .i64 (kj : Int)] W fun e w' => e = .returned (.string ms) ∧ Below W.heap.size W w') := hmt
      clear hkj hmt hown
      go_upto_region 4 with fail
      go_cut [18] (fun v wx => v = .bool false ∧ Below wr.heap.size wr wx)
      case first =>
        go_region_with (go_at_call 40; refine (HMT.out _).mono ?_; rintro e w1 ⟨rfl, hb1⟩; obtain ⟨c9, b9⟩ := HB0.out w1 (((Below.refl _ wr).drew).trans hb1))
        all_goals
          have hb1' : Below wr.heap.size wr w1 := ((Below.refl _ wr).drew).trans hb1
          clear hb1
          go_wp2_with fail
          go_meet
          exact ⟨by simp, hb1'⟩
      case rest =>
        obtain ⟨rfl, hbx⟩ := hcut
        have hfin := hbel.trans (hbx.mono hs)
        clear c0 hbx HB0
        go_wp2_with fail
        go_roundw
        case rel => exact ⟨j + 1, by omega, by go_num, by have := HKJ.out; rw [show k + (j + 1) = kj + 1 by omega]; go_num, hfin⟩
        case measure => simp [intOf]; omega
    · have hje : j = n := by omega
      subst hje
      go_wp2_with fail
      go_ret
      exact ⟨rfl, hbel⟩
set_option maxHeartbeats 1000000 in
theorem heldInt64S_own (a : Option Addr) (n c k base : Nat) (w : World) (h : w.ownsRow base 2 1 (.slice a n c) n (rowsOf intCells (mkIs k n))) (hk : k + n ≤ 1000000000) :
    Calls Try.prog 59 #[.slice a n c, .int .i64 k] w fun e w' => e = .returned (.int .i64 (k + n : Nat)) ∧ Below w.heap.size w w' := by
  have hn63 : n ≤ 1000000000 := by omega
  have H1 : Hid (w.ownsRow base 2 1 (.slice a n c) n (rowsOf intCells (mkIs k n))) := h
  clear h
  go_enter Try.func59, Try.ntmps59
  go_wp2_with fail
  go_loopw [1, 5] (fun kv i wr => ∃ (j : Nat), j ≤ n ∧ i = .int .i64 j ∧ kv = .int .i64 ((k + j : Nat) : Int) ∧ Below w.heap.size w wr) (fun _ i _ => n - (intOf i).toNat)
  case atStart => exact ⟨0, Nat.zero_le _, rfl, rfl, Below.refl _ _⟩
  case round =>
    obtain ⟨j, hj, rfl, rfl, hbel⟩ := hrel
    by_cases hlt : j < n
    · obtain ⟨g, rfl⟩ := some_of_lt H1.out (by omega)
      have hown := owns_below H1.out hbel
      have hbl := (hown.lt g rfl).2
      have c0 : wr.cell? ⟨g, j, none⟩ = some (.int .i64 ((k + j : Nat) : Int)) := own_cell (d := (0 : Int)) ic1 hown (mkIs_len k n) hlt (by rw [mkIs_get _ _ _ hlt]; rfl)
      obtain ⟨kj, hkj⟩ : ∃ kj, k + j = kj := ⟨_, rfl⟩
      have hkb : kj + 1 ≤ 1000000000 := by omega
      have HKJ : Hid (k + j = kj) := hkj
      rw [hkj] at c0 ⊢
      clear hkj hown
      go_wp2_with fail
      go_roundw
      case rel => exact ⟨j + 1, by omega, by go_num, by have := HKJ.out; rw [show k + (j + 1) = kj + 1 by omega]; go_num, hbel⟩
      case measure => simp [intOf]; omega
    · have hje : j = n := by omega
      subst hje
      go_wp2_with fail
      go_ret
      exact ⟨rfl, hbel⟩
end Go.Proofs.Ytpmagndofiaooaa
