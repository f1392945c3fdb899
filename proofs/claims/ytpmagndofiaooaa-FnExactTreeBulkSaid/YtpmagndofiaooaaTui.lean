import Derived.Test.YtpmagndofiaooaaTuh
import Derived.Test.YtpmagndofiaooaaTlq
namespace Go.Proofs.Ytpmagndofiaooaa
open Go.RowKit
set_option linter.unusedVariables false
set_option linter.unusedSimpArgs false
set_option maxRecDepth 100000

theorem emptyI (w : World) : (w.alloc (.cells #[] 3)).ownsRow w.heap.size 3 1 (.slice (some ⟨w.heap.size, 0, none⟩) 0 0) 0 [] := by
  have := World.ownsRow_made w #[] (base := w.heap.size) (e := 3) (size := 1) 0 (by simp) (by unfold maxLen; omega) (by simp)
  simpa using this
set_option maxHeartbeats 2000000 in
theorem groups_any (n : Nat) (hn : n ≤ 10000000) (w : World) :
    Calls Try.prog 29 #[.int .i64 n] w fun e w' => ∃ a c, e = .returned (.slice a (sharesL n).length c) ∧ w'.ownsRow w.heap.size 3 1 (.slice a (sharesL n).length c) (sharesL n).length (rowsOf intCells (sharesL n)) ∧ Below w.heap.size w w' := by
  obtain ⟨i0, hi0, hz0, hz1, hz2⟩ := info_parts info_int
  obtain ⟨FIN, hF⟩ : ∃ F, F = sharesL n := ⟨_, rfl⟩
  rw [← hF]
  have HF : Hid ([] ++ sharesL n = FIN) := hF.symm
  clear hF
  have HE : Hid ((w.alloc (.cells #[] 3)).ownsRow w.heap.size 3 1 (.slice (some ⟨w.heap.size, 0, none⟩) 0 0) 0 [] ∧ Below w.heap.size w (w.alloc (.cells #[] 3))) := ⟨emptyI w, (Below.refl _ _).alloc (Nat.le_refl _) _⟩
  go_enter Try.func29, Try.ntmps29
  go_wp2_with fail
  go_loopw [0, 3, 4] (fun cv o _ wr => ∃ (k : Nat) (xs : List Int) (a : Option Addr) (c : Nat), k + xs.length ≤ n ∧ cv = .int .i64 k ∧ o = .slice a xs.length c ∧ Hid (xs ++ sharesL k = FIN) ∧ Hid (wr.ownsRow w.heap.size 3 1 (.slice a xs.length c) xs.length (rowsOf intCells xs) ∧ Below w.heap.size w wr)) (fun cv _ _ _ => (intOf cv).toNat)
  case atStart => exact ⟨n, [], some ⟨w.heap.size, 0, none⟩, 0, by simp, rfl, rfl, HF, HE.out.1, HE.out.2⟩
  case round =>
    clear HF HE
    obtain ⟨k, xs, a, c, hk, rfl, rfl, HX, HO⟩ := hrel
    by_cases h0 : 0 < k
    · obtain ⟨hs1, hs2, hs3⟩ := shareN_le h0
      have hstep := sharesL_step h0
      obtain ⟨s, hs⟩ : ∃ s, s = shareN k := ⟨_, rfl⟩
      rw [← hs] at hs1 hs2 hs3 hstep
      have HX2 : Hid ((xs ++ [(s : Int)]) ++ sharesL (k - s) = FIN) := by
        show _ = _
        rw [← HX.out, hstep]; simp
      have hd0 : decide ((0 : Int) < (k : Int)) = true := by simp; omega
      have hrow := HO.out.1
      have hbel := HO.out.2
      obtain ⟨xl, hxl⟩ : ∃ xl, xl = xs.length := ⟨_, rfl⟩
      have HXL : Hid (xl = xs.length) := hxl
      rw [← hxl] at hrow hk ⊢
      clear HO HX hstep hxl
      have hcell := cell_one_new wr (.int .i64 (s : Int)) 3
      have hsz := hbel.size
      have HSH : Hid (s = shareN k) := hs
      clear hs
      by_cases h5 : k = 5
      · have h5d : ((k : Int) == 5) = true := by simp; omega
        have hs3' : s = 3 := by rw [HSH.out, h5]; rfl
        subst hs3'
        have hlt4 : ¬ (k : Int) < 4 := by omega
        clear h5
        go_wp2_with (at_builtin; refine wpList_append_ownD _ rfl _ _ 56 rfl w.heap.size 3 i0 _ 1 8 Try.underlying56 hi0 hz0 hz1 hz2 rfl (by decide) _ _ _ rfl (hrow.alloc _) ⟨wr.heap.size, 0, none⟩ 1 1 [.int .i64 3] rfl rfl hcell (by simp [Value.oneCell']) (by unfold maxLen; omega) (by omega) (by simp; omega) ?_; intro v' w5 hown' hgr' hat'; obtain ⟨g5, e5, rfl⟩ := rowSuccT hown')
        have HR : Hid (w5.ownsRow w.heap.size 3 1 (.slice (some ⟨g5, 0, none⟩) (xs ++ [(((3 : Nat)) : Int)]).length e5) (xs ++ [(((3 : Nat)) : Int)]).length (rowsOf intCells (xs ++ [(((3 : Nat)) : Int)])) ∧ Below w.heap.size w w5) := by
          refine ⟨?_, (hbel.alloc hsz _).grown hgr' (by simp; omega) (fun q e => (hrow.lt q e).1)⟩
          rw [List.length_append, ← HXL.out, show rowsOf intCells (xs ++ [(((3 : Nat)) : Int)]) = rowsOf intCells xs ++ [.int .i64 3] by simp [rowsOf, intCells]]
          exact hown'
        have HLL : Hid ((xs ++ [(((3 : Nat)) : Int)]).length = xl + 1) := by show _ = _; rw [List.length_append, ← HXL.out]; rfl
        clear hown' hgr' hat' hrow hbel hcell
        go_roundw
        case rel => exact ⟨k - 3, xs ++ [(((3 : Nat)) : Int)], some ⟨g5, 0, none⟩, e5, by rw [HLL.out]; omega, by go_num, by rw [HLL.out], HX2, HR⟩
        case measure => simp [intOf]; omega
      · have h5d : ((k : Int) == 5) = false := by simp; omega
        by_cases h4 : k < 4
        · have hd4 : (k : Int) < 4 := by omega
          have hs4 : s = k := by rw [HSH.out]; unfold shareN; rw [if_neg h5]; omega
          subst hs4
          clear h5
          go_wp2_with (at_builtin; refine wpList_append_ownD _ rfl _ _ 56 rfl w.heap.size 3 i0 _ 1 8 Try.underlying56 hi0 hz0 hz1 hz2 rfl (by decide) _ _ _ rfl (hrow.alloc _) ⟨wr.heap.size, 0, none⟩ 1 1 [.int .i64 (s : Int)] rfl rfl hcell (by simp [Value.oneCell']) (by unfold maxLen; omega) (by omega) (by simp; omega) ?_; intro v' w5 hown' hgr' hat'; obtain ⟨g5, e5, rfl⟩ := rowSuccT hown')
          have HR : Hid (w5.ownsRow w.heap.size 3 1 (.slice (some ⟨g5, 0, none⟩) (xs ++ [(s : Int)]).length e5) (xs ++ [(s : Int)]).length (rowsOf intCells (xs ++ [(s : Int)])) ∧ Below w.heap.size w w5) := by
            refine ⟨?_, (hbel.alloc hsz _).grown hgr' (by simp; omega) (fun q e => (hrow.lt q e).1)⟩
            rw [List.length_append, ← HXL.out, show rowsOf intCells (xs ++ [(s : Int)]) = rowsOf intCells xs ++ [.int .i64 (s : Int)] by simp [rowsOf, intCells]]
            exact hown'
          have HLL : Hid ((xs ++ [(s : Int)]).length = xl + 1) := by show _ = _; rw [List.length_append, ← HXL.out]; rfl
          clear hown' hgr' hat' hrow hbel hcell
          go_roundw
          case rel => exact ⟨s - s, xs ++ [(s : Int)], some ⟨g5, 0, none⟩, e5, by rw [HLL.out]; omega, by go_num, by rw [HLL.out], HX2, HR⟩
          case measure => simp [intOf]; omega
        · have hd4 : ¬ (k : Int) < 4 := by omega
          have hs4 : s = 4 := by rw [HSH.out]; unfold shareN; rw [if_neg h5]; omega
          subst hs4
          clear h5
          go_wp2_with (at_builtin; refine wpList_append_ownD _ rfl _ _ 56 rfl w.heap.size 3 i0 _ 1 8 Try.underlying56 hi0 hz0 hz1 hz2 rfl (by decide) _ _ _ rfl (hrow.alloc _) ⟨wr.heap.size, 0, none⟩ 1 1 [.int .i64 4] rfl rfl hcell (by simp [Value.oneCell']) (by unfold maxLen; omega) (by omega) (by simp; omega) ?_; intro v' w5 hown' hgr' hat'; obtain ⟨g5, e5, rfl⟩ := rowSuccT hown')
          have HR : Hid (w5.ownsRow w.heap.size 3 1 (.slice (some ⟨g5, 0, none⟩) (xs ++ [(((4 : Nat)) : Int)]).length e5) (xs ++ [(((4 : Nat)) : Int)]).length (rowsOf intCells (xs ++ [(((4 : Nat)) : Int)])) ∧ Below w.heap.size w w5) := by
            refine ⟨?_, (hbel.alloc hsz _).grown hgr' (by simp; omega) (fun q e => (hrow.lt q e).1)⟩
            rw [List.length_append, ← HXL.out, show rowsOf intCells (xs ++ [(((4 : Nat)) : Int)]) = rowsOf intCells xs ++ [.int .i64 4] by simp [rowsOf, intCells]]
            exact hown'
          have HLL : Hid ((xs ++ [(((4 : Nat)) : Int)]).length = xl + 1) := by show _ = _; rw [List.length_append, ← HXL.out]; rfl
          clear hown' hgr' hat' hrow hbel hcell
          go_roundw
          case rel => exact ⟨k - 4, xs ++ [(((4 : Nat)) : Int)], some ⟨g5, 0, none⟩, e5, by rw [HLL.out]; omega, by go_num, by rw [HLL.out], HX2, HR⟩
          case measure => simp [intOf]; omega
    · obtain rfl : k = 0 := by omega
      have hxe : xs = FIN := by rw [← HX.out, sharesL_zero, List.append_nil]
      subst hxe
      clear HX
      go_wp2_with fail
      go_ret
      exact ⟨a, c, rfl, HO.out.1, HO.out.2⟩
end Go.Proofs.Ytpmagndofiaooaa
