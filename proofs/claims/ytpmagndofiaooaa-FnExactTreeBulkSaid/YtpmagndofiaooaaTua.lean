import Derived.Test.YtpmagndofiaooaaTtd
namespace Go.Proofs.Ytpmagndofiaooaa
open Go.RowKit
set_option linter.unusedVariables false
set_option linter.unusedSimpArgs false
set_option maxRecDepth 100000

/-- How many go into a node of so many that are left, and the shares from the left. -/
def shareN (n : Nat) : Nat := if n = 5 then 3 else min n 4
theorem shareN_le {n : Nat} (h : 0 < n) : 0 < shareN n ∧ shareN n ≤ n ∧ shareN n ≤ 4 := by
  unfold shareN
  split <;> omega
def sharesF : Nat → Nat → List Int
  | 0, _ => []
  | f + 1, n => if n = 0 then [] else (shareN n : Int) :: sharesF f (n - shareN n)
def sharesL (n : Nat) : List Int := sharesF n n
theorem sharesF_more : ∀ (f f' n : Nat), n ≤ f → n ≤ f' → sharesF f n = sharesF f' n
  | 0, 0, n, _, _ => rfl
  | 0, f' + 1, n, h, _ => by
    have : n = 0 := by omega
    subst this; simp [sharesF]
  | f + 1, 0, n, _, h => by
    have : n = 0 := by omega
    subst this; simp [sharesF]
  | f + 1, f' + 1, n, h, h' => by
    simp only [sharesF]
    split
    · rfl
    · have := shareN_le (n := n) (by omega)
      rw [sharesF_more f f' _ (by omega) (by omega)]
theorem sharesL_zero : sharesL 0 = [] := rfl
theorem sharesL_step {n : Nat} (h : 0 < n) : sharesL n = (shareN n : Int) :: sharesL (n - shareN n) := by
  unfold sharesL
  have hs := shareN_le h
  obtain ⟨m, rfl⟩ : ∃ m, n = m + 1 := ⟨n - 1, by omega⟩
  rw [sharesF, if_neg (by omega), sharesF_more m (m + 1 - shareN (m + 1)) _ (by omega) (by omega)]
theorem sharesL_len (n : Nat) : (sharesL n).length ≤ n := by
  have : ∀ f n, (sharesF f n).length ≤ n := by
    intro f
    induction f with
    | zero => intro n; simp [sharesF]
    | succ f ih =>
      intro n
      rw [sharesF]
      split
      · simp
      · have := shareN_le (n := n) (by omega)
        have := ih (n - shareN n)
        simp; omega
  exact this n n
theorem intsOne (x : Int) : (intCells x) = [.int .i64 x] := rfl
theorem info_int : (Try.prog.info? 3).map (fun i => (i.zero, i.size, i.bytes)) = some (some (.int .i64 0), 1, 8) := by kernel_rfl
set_option maxHeartbeats 1000000 in
theorem shares_any (n : Nat) (hn : n ≤ 10000000) (w : World) :
    Calls Try.prog 53 #[.int .i64 n] w fun e w' => ∃ a c, e = .returned (.slice a (sharesL n).length c) ∧ w'.ownsRow w.heap.size 3 1 (.slice a (sharesL n).length c) (sharesL n).length (rowsOf intCells (sharesL n)) ∧ Below w.heap.size w w' := by
  obtain ⟨i0, hi0, hz0, hz1, hz2⟩ := info_parts info_int
  obtain ⟨FIN, hF⟩ : ∃ F, F = sharesL n := ⟨_, rfl⟩
  rw [← hF]
  have HF : Hid ([] ++ sharesL n = FIN) := hF.symm
  clear hF
  go_enter Try.func53, Try.ntmps53
  go_wp2_with fail
  go_loopw [0, 3, 4] (fun cv o _ wr => ∃ (k : Nat) (xs : List Int) (a : Option Addr) (c : Nat), k + xs.length ≤ n ∧ cv = .int .i64 k ∧ o = .slice a xs.length c ∧ Hid (xs ++ sharesL k = FIN) ∧ Hid (wr.ownsRow w.heap.size 3 1 (.slice a xs.length c) xs.length (rowsOf intCells xs) ∧ Below w.heap.size w wr)) (fun cv _ _ _ => (intOf cv).toNat)
  case atStart => exact ⟨n, [], none, 0, by simp, rfl, rfl, HF, World.ownsRow_nil _ _ _ _, Below.refl _ _⟩
  case round =>
    clear HF
    obtain ⟨k, xs, a, c, hk, rfl, rfl, HX, HO⟩ := hrel
    by_cases h0 : 0 < k
    · obtain ⟨hs1, hs2, hs3⟩ := shareN_le h0
      have hstep := sharesL_step h0
      obtain ⟨s, hs⟩ : ∃ s, s = shareN k := ⟨_, rfl⟩
      rw [← hs] at hs1 hs2 hs3 hstep
      have HX2 : Hid ((xs ++ [(s : Int)]) ++ sharesL (k - s) = FIN) := by
        show _ = _
        rw [← HX.out, hstep]; simp
      have hd0 : decide ((0 : Int) < (k : Int)) = true := by simp; omega
      have hrow := HO.out.1
      have hbel := HO.out.2
      obtain ⟨xl, hxl⟩ : ∃ xl, xl = xs.length := ⟨_, rfl⟩
      have HXL : Hid (xl = xs.length) := hxl
      rw [← hxl] at hrow hk ⊢
      clear HO HX hstep hxl
      have hcell := cell_one_new wr (.int .i64 (s : Int)) 3
      have hsz := hbel.size
      have HSH : Hid (s = shareN k) := hs
      clear hs
      by_cases h5 : k = 5
      · have h5d : ((k : Int) == 5) = true := by simp; omega
        have hs3' : s = 3 := by rw [HSH.out, h5]; rfl
        subst hs3'
        clear h5
        go_wp2_with (at_builtin; refine wpList_append_ownD _ rfl _ _ 56 rfl w.heap.size 3 i0 _ 1 8 Try.underlying56 hi0 hz0 hz1 hz2 rfl (by decide) _ _ _ rfl (hrow.alloc _) ⟨wr.heap.size, 0, none⟩ 1 1 [.int .i64 3] rfl rfl hcell (by simp [Value.oneCell']) (by unfold maxLen; omega) (by omega) (by simp; omega) ?_; intro v' w5 hown' hgr' hat'; obtain ⟨g5, e5, rfl⟩ := rowSuccT hown')
        have HR : Hid (w5.ownsRow w.heap.size 3 1 (.slice (some ⟨g5, 0, none⟩) (xs ++ [((3 : Nat) : Int)]).length e5) (xs ++ [((3 : Nat) : Int)]).length (rowsOf intCells (xs ++ [((3 : Nat) : Int)])) ∧ Below w.heap.size w w5) := by
          refine ⟨?_, (hbel.alloc hsz _).grown hgr' (by simp; omega) (fun q e => (hrow.lt q e).1)⟩
          rw [List.length_append, ← HXL.out, show rowsOf intCells (xs ++ [((3 : Nat) : Int)]) = rowsOf intCells xs ++ [.int .i64 3] by simp [rowsOf, intCells]]
          exact hown'
        have HLL : Hid ((xs ++ [((3 : Nat) : Int)]).length = xl + 1) := by show _ = _; rw [List.length_append, ← HXL.out]; rfl
        clear hown' hgr' hat' hrow hbel hcell
        go_roundw
        case rel => exact ⟨k - 3, xs ++ [((3 : Nat) : Int)], some ⟨g5, 0, none⟩, e5, by rw [HLL.out]; omega, by go_num, by rw [HLL.out], HX2, HR⟩
        case measure => simp [intOf]; omega
      · have h5d : ((k : Int) == 5) = false := by simp; omega
        by_cases h4 : k ≤ 4
        · have hs4 : s = k := by rw [HSH.out]; unfold shareN; rw [if_neg h5]; omega
          subst hs4
          have hgt : ¬ (4 : Int) < (s : Int) := by omega
          clear h5
          go_wp2_with (at_builtin; refine wpList_append_ownD _ rfl _ _ 56 rfl w.heap.size 3 i0 _ 1 8 Try.underlying56 hi0 hz0 hz1 hz2 rfl (by decide) _ _ _ rfl (hrow.alloc _) ⟨wr.heap.size, 0, none⟩ 1 1 [.int .i64 (s : Int)] rfl rfl hcell (by simp [Value.oneCell']) (by unfold maxLen; omega) (by omega) (by simp; omega) ?_; intro v' w5 hown' hgr' hat'; obtain ⟨g5, e5, rfl⟩ := rowSuccT hown')
          have HR : Hid (w5.ownsRow w.heap.size 3 1 (.slice (some ⟨g5, 0, none⟩) (xs ++ [(s : Int)]).length e5) (xs ++ [(s : Int)]).length (rowsOf intCells (xs ++ [(s : Int)])) ∧ Below w.heap.size w w5) := by
            refine ⟨?_, (hbel.alloc hsz _).grown hgr' (by simp; omega) (fun q e => (hrow.lt q e).1)⟩
            rw [List.length_append, ← HXL.out, show rowsOf intCells (xs ++ [(s : Int)]) = rowsOf intCells xs ++ [.int .i64 (s : Int)] by simp [rowsOf, intCells]]
            exact hown'
          have HLL : Hid ((xs ++ [(s : Int)]).length = xl + 1) := by show _ = _; rw [List.length_append, ← HXL.out]; rfl
          clear hown' hgr' hat' hrow hbel hcell
          go_roundw
          case rel => exact ⟨s - s, xs ++ [(s : Int)], some ⟨g5, 0, none⟩, e5, by rw [HLL.out]; omega, by go_num, by rw [HLL.out], HX2, HR⟩
          case measure => simp [intOf]; omega
        · have hs4 : s = 4 := by rw [HSH.out]; unfold shareN; rw [if_neg h5]; omega
          subst hs4
          have hgt : (4 : Int) < (k : Int) := by omega
          clear h5
          go_wp2_with (at_builtin; refine wpList_append_ownD _ rfl _ _ 56 rfl w.heap.size 3 i0 _ 1 8 Try.underlying56 hi0 hz0 hz1 hz2 rfl (by decide) _ _ _ rfl (hrow.alloc _) ⟨wr.heap.size, 0, none⟩ 1 1 [.int .i64 4] rfl rfl hcell (by simp [Value.oneCell']) (by unfold maxLen; omega) (by omega) (by simp; omega) ?_; intro v' w5 hown' hgr' hat'; obtain ⟨g5, e5, rfl⟩ := rowSuccT hown')
          have HR : Hid (w5.ownsRow w.heap.size 3 1 (.slice (some ⟨g5, 0, none⟩) (xs ++ [((4 : Nat) : Int)]).length e5) (xs ++ [((4 : Nat) : Int)]).length (rowsOf intCells (xs ++ [((4 : Nat) : Int)])) ∧ Below w.heap.size w w5) := by
            refine ⟨?_, (hbel.alloc hsz _).grown hgr' (by simp; omega) (fun q e => (hrow.lt q e).1)⟩
            rw [List.length_append, ← HXL.out, show rowsOf intCells (xs ++ [((4 : Nat) : Int)]) = rowsOf intCells xs ++ [.int .i64 4] by simp [rowsOf, intCells]]
            exact hown'
          have HLL : Hid ((xs ++ [((4 : Nat) : Int)]).length = xl + 1) := by show _ = _; rw [List.length_append, ← HXL.out]; rfl
          clear hown' hgr' hat' hrow hbel hcell
          go_roundw
          case rel => exact ⟨k - 4, xs ++ [((4 : Nat) : Int)], some ⟨g5, 0, none⟩, e5, by rw [HLL.out]; omega, by go_num, by rw [HLL.out], HX2, HR⟩
          case measure => simp [intOf]; omega
    · obtain rfl : k = 0 := by omega
      have hxe : xs = FIN := by rw [← HX.out, sharesL_zero, List.append_nil]
      subst hxe
      clear HX
      go_wp2_with fail
      go_ret
      exact ⟨a, c, rfl, HO.out.1, HO.out.2⟩
end Go.Proofs.Ytpmagndofiaooaa
