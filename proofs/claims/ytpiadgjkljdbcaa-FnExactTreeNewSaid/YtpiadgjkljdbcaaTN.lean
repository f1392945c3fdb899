import Derived.Test.YtpiadgjkljdbcaaPgM
namespace Go.Proofs.Ytpiadgjkljdbcaa
open Go.RowKit
set_option linter.unusedVariables false
set_option maxRecDepth 100000

theorem specTreeNew_any (w : World) : Calls Try.prog 13 #[] w fun e w' => e = .returned (.agg #[.slice (some ⟨w.heap.size + 1, 0, none⟩) 1 1]) ∧ w' = (w.alloc (.cells #[.slice (some ⟨w.heap.size + 1, 0, none⟩) 1 1] 30)).alloc (.cells #[.bool true, .int .i64 0, .slice none 0 0, .slice none 0 0, .slice none 0 0, .slice none 0 0] 75) := by
  go_enter Try.func13, Try.ntmps13
  go_wp2
  exact bodyPost_ret (v := .agg #[.slice (some ⟨w.heap.size + 1, 0, none⟩) 1 1]) (by simp [results, Try.results13, go_sem]) rfl ⟨rfl, rfl⟩

/-- An empty, dirty leaf. -/
def leaf0 : List Value := [.bool true, .int .i64 0, .slice none 0 0, .slice none 0 0, .slice none 0 0, .slice none 0 0]
theorem info_TNode : (Try.prog.info? 75).map (fun i => (i.zero, i.size, i.bytes)) = some (some (.agg #[.bool false, .int .i64 0, .slice none 0 0, .slice none 0 0, .slice none 0 0, .slice none 0 0]), 6, 112) := by kernel_rfl
theorem box_two {w : World} {N : Nat} {v0 v1 : Value} {t : TypeId} (h : w.heap[N]? = some (.cells #[v0, v1] t)) : w.cell? ⟨N, 0, none⟩ = some v0 ∧ w.cell? ⟨N, 1, none⟩ = some v1 := by
  simp [World.cell?, h]
theorem leaf0_cells {w : World} {g : Nat} {t : TypeId} (h : w.heap[g]? = some (.cells #[.bool true, .int .i64 0, .slice none 0 0, .slice none 0 0, .slice none 0 0, .slice none 0 0] t)) : ∀ (j : Nat) (u : Value), leaf0[j]? = some u → w.cell? ((⟨g, 0, none⟩ : Addr).add j) = some u := by
  intro j u hj
  have e : (⟨g, 0, none⟩ : Addr).add j = ⟨g, j, none⟩ := by simp [Addr.add]; omega
  rw [e]
  rcases j with _ | _ | _ | _ | _ | _ | j
  all_goals first
    | (simp [leaf0] at hj; done)
    | (simp [leaf0] at hj; subst hj; simp [World.cell?, h])
theorem leaf0_new (w : World) (o : Obj) (t : TypeId) : ((w.alloc o).alloc (.cells #[.bool true, .int .i64 0, .slice none 0 0, .slice none 0 0, .slice none 0 0, .slice none 0 0] t)).heap[w.heap.size + 1]? = some (.cells #[.bool true, .int .i64 0, .slice none 0 0, .slice none 0 0, .slice none 0 0, .slice none 0 0] t) := by
  have h := heap_alloc_new (w.alloc o) (.cells #[.bool true, .int .i64 0, .slice none 0 0, .slice none 0 0, .slice none 0 0, .slice none 0 0] t)
  have hs : (w.alloc o).heap.size = w.heap.size + 1 := by simp
  rw [hs] at h
  exact h
theorem leaf0_plain : ∀ u ∈ leaf0, u.oneCell' = true := by
  intro u hu
  simp [leaf0] at hu
  rcases hu with rfl | rfl | rfl <;> rfl
theorem one_shape {w : World} {base e : Nat} {v : Value} (h : w.ownsRow base e 6 v 1 leaf0) : ∃ g c, v = .slice (some ⟨g, 0, none⟩) 1 c := by
  rcases h.2 with ⟨_, h1⟩ | ⟨g, cap, cur, h0, _⟩
  · simp at h1
  · exact ⟨g, cap, h0⟩
theorem tell_new (L : Nat) (w : World) (hL : w.heap[L]? = some (.cells #[.int .i64 0, .slice none 0 0] 82)) : Calls Try.prog 133 #[.pointer (some ⟨L, 0, none⟩), .slice none 0 0] w fun e w' => ∃ g c, e = .returned (.slice (some ⟨g, 0, none⟩) 1 c) ∧ w'.ownsRow w.heap.size 75 6 (.slice (some ⟨g, 0, none⟩) 1 c) 1 leaf0 ∧ Below w.heap.size w w' := by
  obtain ⟨c0, c1⟩ := box_two hL
  have hlt : L < w.heap.size := (Array.getElem?_eq_some_iff.1 hL).1
  go_enter Try.func133, Try.ntmps133
  go_wp2
  go_loopw [19] (fun i wr => i = .int .i64 0 ∧ wr = w.alloc (.cells #[.bool true, .int .i64 0, .slice none 0 0, .slice none 0 0, .slice none 0 0, .slice none 0 0] 75)) (fun _ _ => 0)
  case atStart => exact ⟨rfl, rfl⟩
  case round =>
    obtain ⟨rfl, rfl⟩ := hrel
    obtain ⟨i0, hi, hz0, hz1, hz2⟩ := info_parts info_TNode
    go_wp2_with (at_builtin; refine wpList_append_own _ rfl _ _ 28 rfl w.heap.size 75 i0 _ 6 112 Try.underlying28 hi hz0 hz1 hz2 rfl (by decide) _ 0 [] rfl (World.ownsRow_nil _ _ _ _) ⟨w.heap.size + 1, 0, none⟩ 1 1 leaf0 (by simp [Act.eval]) rfl ?_ ?_ (by unfold maxLen; omega) (by omega) (by simp; omega) ?_)
    · exact leaf0_cells (leaf0_new _ _ _)
    · exact leaf0_plain
    · intro v' w' h1 h2 _
      go_wp2
      go_ret
      obtain ⟨g, c, rfl⟩ := one_shape h1
      exact ⟨g, c, rfl, h1, (((Below.refl _ _).alloc (Nat.le_refl _) _).alloc (by simp) _).grown h2 (by simp; omega) (by simp [Value.ownBlock])⟩
theorem meth_leaf_tell (a : Addr) (w : World) : (method 319 77 (.pointer (some a)) "loop.example/s02098/impl.tell").run Try.prog w = .ok (133, .pointer (some a)) w := by kernel_rfl
theorem ahead_leaf_tell (a : Addr) (w : World) : (nilAhead 319 77 (.pointer (some a)) "loop.example/s02098/impl.tell").run Try.prog w = .ok (some false) w := by kernel_rfl
theorem told_new (L : Nat) (w : World) (hL : w.heap[L]? = some (.cells #[.int .i64 0, .slice none 0 0] 82)) : Calls Try.prog 37 #[.iface 77 (.pointer (some ⟨L, 0, none⟩))] w fun e w' => ∃ g c, e = .returned (.agg #[.slice (some ⟨g, 0, none⟩) 1 c]) ∧ w'.ownsRow w.heap.size 75 6 (.slice (some ⟨g, 0, none⟩) 1 c) 1 leaf0 ∧ Below w.heap.size w w' := by
  have hm := fun a w => meth_leaf_tell a w
  have ha := fun a w => ahead_leaf_tell a w
  go_enter Try.func37, Try.ntmps37
  have hb0 : Below w.heap.size w (w.alloc (.cells #[.slice none 0 0] 30)) := (Below.refl _ _).alloc (Nat.le_refl _) _
  have hlt : L < w.heap.size := (Array.getElem?_eq_some_iff.1 hL).1
  have hL0 := (hb0.block L hlt).trans hL
  have HX0 := heap_alloc_new w (.cells #[.slice none 0 0] 30)
  have hs0 : w.heap.size < (w.alloc (.cells #[.slice none 0 0] 30)).heap.size := by simp
  go_wp2_with fail
  refine (tell_new L _ hL0).mono ?_
  rintro e w1 ⟨g1, k1, rfl, hO1, hb1⟩
  have HX1 := (hb1.block w.heap.size hs0).trans HX0
  have x1 : w1.cell? ⟨w.heap.size, 0, none⟩ = some (.slice none 0 0) := by simp [World.cell?, HX1]
  have f1 : w1.frozen? ⟨w.heap.size, 0, none⟩ = false := by simp [World.frozen?, HX1]
  have hb2 := hb0.trans (hb1.mono hb0.size)
  have hO2 := ownsRow_setCell_below hO1 (a := ⟨w.heap.size, 0, none⟩) hs0 (.slice (some ⟨g1, 0, none⟩) 1 k1)
  have hx : (w1.setCell ⟨w.heap.size, 0, none⟩ (.slice (some ⟨g1, 0, none⟩) 1 k1)).cell? ⟨w.heap.size, 0, none⟩ = some (.slice (some ⟨g1, 0, none⟩) 1 k1) := by simp [World.cell?, World.setCell, Array.getElem?_modify, HX1]
  go_wp2
  exact bodyPost_ret (v := .agg #[.slice (some ⟨g1, 0, none⟩) 1 k1]) (by simp [results, Try.results37, go_sem, hx]) rfl ⟨g1, k1, rfl, owns_base hO2 (Nat.le_of_lt hs0), hb2.setCell (p := ⟨w.heap.size, 0, none⟩) (Nat.le_refl _) _⟩
theorem implTreeNew_any (w : World) : Calls Try.prog 14 #[] w fun e w' => ∃ g c, e = .returned (.agg #[.slice (some ⟨g, 0, none⟩) 1 c]) ∧ w'.ownsRow w.heap.size 75 6 (.slice (some ⟨g, 0, none⟩) 1 c) 1 leaf0 ∧ Below w.heap.size w w' := by
  go_enter Try.func14, Try.ntmps14
  have hb0 : Below w.heap.size w ((w.alloc (.cells #[.slice none 0 0] 30)).alloc (.cells #[.int .i64 0, .slice none 0 0] 82)) := ((Below.refl _ _).alloc (Nat.le_refl _) _).alloc (by simp) _
  have HL0 := heap_alloc_new (w.alloc (.cells #[.slice none 0 0] 30)) (.cells #[.int .i64 0, .slice none 0 0] 82)
  have hsz : (w.alloc (.cells #[.slice none 0 0] 30)).heap.size = w.heap.size + 1 := by simp
  have hsz2 : ((w.alloc (.cells #[.slice none 0 0] 30)).alloc (.cells #[.int .i64 0, .slice none 0 0] 82)).heap.size = w.heap.size + 2 := by simp
  rw [hsz] at HL0
  have HX0 : ((w.alloc (.cells #[.slice none 0 0] 30)).alloc (.cells #[.int .i64 0, .slice none 0 0] 82)).heap[w.heap.size]? = some (.cells #[.slice none 0 0] 30) := (((Below.refl (w.alloc (.cells #[.slice none 0 0] 30)).heap.size _).alloc (Nat.le_refl _) _).block w.heap.size (by simp)).trans (heap_alloc_new w _)
  go_wp2_with fail
  refine (told_new (w.heap.size + 1) _ HL0).mono ?_
  generalize (w.alloc (.cells #[.slice none 0 0] 30)).alloc (.cells #[.int .i64 0, .slice none 0 0] 82) = W0 at hb0 HL0 hsz2 HX0 ⊢
  rintro e w1 ⟨g1, k1, rfl, hO1, hb1⟩
  have HX1 := (hb1.block w.heap.size (by omega)).trans HX0
  have x1 : w1.cell? ⟨w.heap.size, 0, none⟩ = some (.slice none 0 0) := by simp [World.cell?, HX1]
  have f1 : w1.frozen? ⟨w.heap.size, 0, none⟩ = false := by simp [World.frozen?, HX1]
  have hb2 := hb0.trans (hb1.mono hb0.size)
  have hO2 := ownsRow_setCell_below hO1 (a := ⟨w.heap.size, 0, none⟩) (by show w.heap.size < W0.heap.size; omega) (.slice (some ⟨g1, 0, none⟩) 1 k1)
  have hx : (w1.setCell ⟨w.heap.size, 0, none⟩ (.slice (some ⟨g1, 0, none⟩) 1 k1)).cell? ⟨w.heap.size, 0, none⟩ = some (.slice (some ⟨g1, 0, none⟩) 1 k1) := by simp [World.cell?, World.setCell, Array.getElem?_modify, HX1]
  go_wp2
  exact bodyPost_ret (v := .agg #[.slice (some ⟨g1, 0, none⟩) 1 k1]) (by simp [results, Try.results14, go_sem, hx]) rfl ⟨g1, k1, rfl, owns_base hO2 (by omega), hb2.setCell (p := ⟨w.heap.size, 0, none⟩) (Nat.le_refl _) _⟩

set_option maxHeartbeats 400000 in
theorem eqStringS_nil (w : World) : Calls Try.prog 108 #[.slice none 0 0, .slice none 0 0] w fun e w' => e = .returned (.bool true) ∧ w' = w := by
  go_enter Try.func108, Try.ntmps108
  go_wp2
  go_loop [5] (fun i => i = .int .i64 0) (fun _ => 0)
  case atStart => rfl
  case round =>
    subst hrel
    go_wp2
    go_ret
    exact ⟨rfl, rfl⟩
set_option maxHeartbeats 400000 in
theorem eqInt64S_nil (w : World) : Calls Try.prog 109 #[.slice none 0 0, .slice none 0 0] w fun e w' => e = .returned (.bool true) ∧ w' = w := by
  go_enter Try.func109, Try.ntmps109
  go_wp2
  go_loop [5] (fun i => i = .int .i64 0) (fun _ => 0)
  case atStart => rfl
  case round =>
    subst hrel
    go_wp2
    go_ret
    exact ⟨rfl, rfl⟩
set_option maxHeartbeats 400000 in
theorem markStringS_nil (k : Int) (w : World) : Calls Try.prog 81 #[.slice none 0 0, .int .i64 k] w fun e w' => e = .returned (.int .i64 k) ∧ w' = w := by
  go_enter Try.func81, Try.ntmps81
  go_wp2
  go_loop [1, 5] (fun k' i => k' = .int .i64 k ∧ i = .int .i64 0) (fun _ _ => 0)
  case atStart => exact ⟨rfl, rfl⟩
  case round =>
    obtain ⟨rfl, rfl⟩ := hrel
    go_wp2
    go_ret
    exact ⟨rfl, rfl⟩
set_option maxHeartbeats 400000 in
theorem markInt64S_nil (k : Int) (w : World) : Calls Try.prog 82 #[.slice none 0 0, .int .i64 k] w fun e w' => e = .returned (.int .i64 k) ∧ w' = w := by
  go_enter Try.func82, Try.ntmps82
  go_wp2
  go_loop [1, 5] (fun k' i => k' = .int .i64 k ∧ i = .int .i64 0) (fun _ _ => 0)
  case atStart => exact ⟨rfl, rfl⟩
  case round =>
    obtain ⟨rfl, rfl⟩ := hrel
    go_wp2
    go_ret
    exact ⟨rfl, rfl⟩
set_option maxHeartbeats 400000 in
theorem heldStringS_nil (k : Int) (w : World) : Calls Try.prog 83 #[.slice none 0 0, .int .i64 k] w fun e w' => e = .returned (.int .i64 k) ∧ w' = w := by
  go_enter Try.func83, Try.ntmps83
  go_wp2
  go_loop [1, 5] (fun k' i => k' = .int .i64 k ∧ i = .int .i64 0) (fun _ _ => 0)
  case atStart => exact ⟨rfl, rfl⟩
  case round =>
    obtain ⟨rfl, rfl⟩ := hrel
    go_wp2
    go_ret
    exact ⟨rfl, rfl⟩
set_option maxHeartbeats 400000 in
theorem heldInt64S_nil (k : Int) (w : World) : Calls Try.prog 84 #[.slice none 0 0, .int .i64 k] w fun e w' => e = .returned (.int .i64 k) ∧ w' = w := by
  go_enter Try.func84, Try.ntmps84
  go_wp2
  go_loop [1, 5] (fun k' i => k' = .int .i64 k ∧ i = .int .i64 0) (fun _ _ => 0)
  case atStart => exact ⟨rfl, rfl⟩
  case round =>
    obtain ⟨rfl, rfl⟩ := hrel
    go_wp2
    go_ret
    exact ⟨rfl, rfl⟩
end Go.Proofs.Ytpiadgjkljdbcaa
