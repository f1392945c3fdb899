import Derived.Test.YtpiadgjkljdbcaaTM
namespace Go.Proofs.Ytpiadgjkljdbcaa
open Go.RowKit
set_option linter.unusedVariables false
set_option maxRecDepth 100000

theorem NodeAt.of_box {w : World} {g t : Nat} (h : w.heap[g]? = some (.cells #[.bool true, .int .i64 0, .slice none 0 0, .slice none 0 0, .slice none 0 0, .slice none 0 0] t)) : NodeAt w g true 0 := by
  constructor <;> simp [World.cell?, h]
theorem NodeAt.of_own {w : World} {base g c : Nat} {t : TypeId} (h : w.ownsRow base t 6 (.slice (some ⟨g, 0, none⟩) 1 c) 1 leaf0) : NodeAt w g true 0 :=
  ⟨h.cellAt 0 (by simp), h.cellAt 1 (by simp), h.cellAt 2 (by simp), h.cellAt 3 (by simp), h.cellAt 4 (by simp), h.cellAt 5 (by simp)⟩
theorem own_thaw {w : World} {base g c : Nat} {t : TypeId} (h : w.ownsRow base t 6 (.slice (some ⟨g, 0, none⟩) 1 c) 1 leaf0) (k : Nat) : w.frozen? ⟨g, k, none⟩ = false := h.frozenAt k
theorem NodeAt.mark {w : World} {g : Nat} (h : NodeAt w g true 0) (hg : g < w.heap.size) : NodeAt (marked w g) g false 2 := by
  have ne : ∀ i j, i ≠ j → (⟨g, i, none⟩ : Addr) ≠ ⟨g, j, none⟩ := fun i j hij e => by injection e with _ e2; exact hij e2
  unfold marked
  have a0 : (w.setCell ⟨g, 0, none⟩ (.bool false)).cell? ⟨g, 0, none⟩ = some (.bool false) := World.cell?_setCell_same _ _ _ h.c0
  have a1 : (w.setCell ⟨g, 0, none⟩ (.bool false)).cell? ⟨g, 1, none⟩ = some (.int .i64 0) := (World.cell?_setCell_other _ _ _ _ (ne 0 1 (by decide))).trans h.c1
  exact ⟨(World.cell?_setCell_other _ _ _ _ (ne 1 0 (by decide))).trans a0, World.cell?_setCell_same _ _ _ a1,
    (World.cell?_setCell_other _ _ _ _ (ne 1 2 (by decide))).trans ((World.cell?_setCell_other _ _ _ _ (ne 0 2 (by decide))).trans h.c2),
    (World.cell?_setCell_other _ _ _ _ (ne 1 3 (by decide))).trans ((World.cell?_setCell_other _ _ _ _ (ne 0 3 (by decide))).trans h.c3),
    (World.cell?_setCell_other _ _ _ _ (ne 1 4 (by decide))).trans ((World.cell?_setCell_other _ _ _ _ (ne 0 4 (by decide))).trans h.c4),
    (World.cell?_setCell_other _ _ _ _ (ne 1 5 (by decide))).trans ((World.cell?_setCell_other _ _ _ _ (ne 0 5 (by decide))).trans h.c5)⟩
theorem below_mark {w : World} {S g : Nat} (hg : S ≤ g) : Below S w (marked w g) := ((Below.refl _ _).setCell (p := ⟨g, 0, none⟩) hg _).setCell (p := ⟨g, 1, none⟩) hg _
theorem markTree_one (g c : Nat) (w : World) (hg : NodeAt w g true 0) (hgl : g < w.heap.size) (hf : ∀ k, w.frozen? ⟨g, k, none⟩ = false) : Calls Try.prog 16 #[.agg #[.slice (some ⟨g, 0, none⟩) 1 c], .int .i64 1] w fun e w' => e = .returned (.int .i64 3) ∧ NodeAt w' g false 2 ∧ (∀ S, S ≤ g → Below S w w') ∧ (∀ k, k ≠ g → k < w.heap.size → w'.heap[k]? = w.heap[k]?) := by
  have hb0 : Below w.heap.size w (w.alloc (.cells #[.slice (some ⟨g, 0, none⟩) 1 c] 30)) := (Below.refl _ _).alloc (Nat.le_refl _) _
  have hs := hb0.size
  go_enter Try.func16, Try.ntmps16
  go_wp2_with (go_at_call 39; refine (markTNodeS_one g c _ (hg.below hb0 hgl) (by omega) (fun k => (hb0.frozen (p := ⟨g, k, none⟩) hgl).trans (hf k))).mono ?_; rintro e w1 ⟨rfl, rfl⟩)
  go_ret
  exact ⟨rfl, (hg.below hb0 hgl).mark (by omega), fun S hS => (hb0.mono (by omega)).trans (below_mark hS), fun k hk hl => (Below.heap_setCell _ ⟨g, 1, none⟩ _ k hk).trans ((Below.heap_setCell _ ⟨g, 0, none⟩ _ k hk).trans (hb0.block k hl))⟩
theorem heldTree_one (g c : Nat) (w : World) (hg : NodeAt w g false 2) (hgl : g < w.heap.size) : Calls Try.prog 17 #[.agg #[.slice (some ⟨g, 0, none⟩) 1 c], .int .i64 1] w fun e w' => e = .returned (.int .i64 3) ∧ Below w.heap.size w w' := by
  have hb0 : Below w.heap.size w (w.alloc (.cells #[.slice (some ⟨g, 0, none⟩) 1 c] 30)) := (Below.refl _ _).alloc (Nat.le_refl _) _
  have hs := hb0.size
  go_enter Try.func17, Try.ntmps17
  go_wp2_with (go_at_call 40; refine (heldTNodeS_one g c _ (hg.below hb0 hgl) (by omega)).mono ?_; rintro e w1 ⟨rfl, rfl⟩)
  go_ret
  exact ⟨rfl, hb0⟩
theorem box_one {w : World} {N : Nat} {v0 : Value} {t : TypeId} (h : w.heap[N]? = some (.cells #[v0] t)) : w.cell? ⟨N, 0, none⟩ = some v0 := by
  simp [World.cell?, h]
theorem law_TreeNew (w : World) : Calls Try.prog 4 #[] w fun e w' => e = .returned (.bool true) ∧ Below w.heap.size w w' := by
  go_enter Try.func4, Try.ntmps4
  go_wp2_with fail
  refine (specTreeNew_any w).mono ?_
  rintro e w1 ⟨rfl, hw1⟩
  have hb1 : Below w.heap.size w w1 := by rw [hw1]; exact ((Below.refl _ _).alloc (Nat.le_refl _) _).alloc (by simp) _
  have hG : w.heap.size + 1 < w1.heap.size := by rw [hw1]; simp
  have hN1 : NodeAt w1 (w.heap.size + 1) true 0 := NodeAt.of_box (by rw [hw1]; exact leaf0_new w _ _)
  clear hw1
  generalize w.heap.size + 1 = G at hN1 hG
  go_wp2_with fail
  have hb2 : Below w1.heap.size w1 (w1.alloc (.cells #[.slice (some ⟨G, 0, none⟩) 1 1] 30)) := (Below.refl _ _).alloc (Nat.le_refl _) _
  have hN2 := hN1.below hb2 hG
  have hc2 := heap_alloc_new w1 (.cells #[.slice (some ⟨G, 0, none⟩) 1 1] 30)
  have hS2 : w1.heap.size < (w1.alloc (.cells #[.slice (some ⟨G, 0, none⟩) 1 1] 30)).heap.size := by simp
  generalize w1.alloc (.cells #[.slice (some ⟨G, 0, none⟩) 1 1] 30) = w2 at hb2 hN2 hc2 hS2 ⊢
  have hS1 := hb1.size
  have hB2 := hb1.trans (hb2.mono hS1)
  generalize w1.heap.size = A at hG hc2 hS2 hS1 ⊢
  clear hN1 hb1 hb2
  refine (implTreeNew_any w2).mono ?_
  rintro e w3 ⟨g, c, rfl, hO3, hb3⟩
  have hgl := hO3.lt g rfl
  have hN3 := hN2.below hb3 (by omega)
  have hM3 := NodeAt.of_own hO3
  have hf3 := own_thaw hO3
  have hc3 := (hb3.block A hS2).trans hc2
  have hB3 := hB2.trans (hb3.mono hB2.size)
  have hs3 := hb3.size
  clear hO3 hb3 hN2 hc2 hB2
  have d3 : w3.cell? ⟨A, 0, none⟩ = some (.slice (some ⟨G, 0, none⟩) 1 1) := box_one hc3
  have hA3 : A < w3.heap.size := by omega
  obtain ⟨hg1, hg2⟩ := hgl
  go_wp2_with fail
  have hb4 : Below w3.heap.size w3 (w3.alloc (.cells #[.slice (some ⟨g, 0, none⟩) 1 c] 30)) := (Below.refl _ _).alloc (Nat.le_refl _) _
  have hN4 := hN3.below hb4 (by omega)
  have hM4 := hM3.below hb4 (by omega)
  have hf4 : ∀ k, (w3.alloc (.cells #[.slice (some ⟨g, 0, none⟩) 1 c] 30)).frozen? ⟨g, k, none⟩ = false := fun k => (hb4.frozen (p := ⟨g, k, none⟩) hg2).trans (hf3 k)
  have hc4 := (hb4.block A hA3).trans hc3
  have he4 := heap_alloc_new w3 (.cells #[.slice (some ⟨g, 0, none⟩) 1 c] 30)
  have hB4 := hB3.trans (hb4.mono hB3.size)
  have hS4 : w3.heap.size < (w3.alloc (.cells #[.slice (some ⟨g, 0, none⟩) 1 c] 30)).heap.size := by simp
  generalize w3.alloc (.cells #[.slice (some ⟨g, 0, none⟩) 1 c] 30) = w4 at hb4 hN4 hM4 hf4 hc4 he4 hB4 hS4 ⊢
  generalize w3.heap.size = D at *
  clear hb4 hN3 hM3 hf3 hc3 hB3 d3
  refine (eqTree_one true 0 g G c 1 w4 hM4 hN4 (by omega) (by omega)).mono ?_
  rintro e w5 ⟨rfl, hb5⟩
  have hN5 := hN4.below hb5 (by omega)
  have hM5 := hM4.below hb5 (by omega)
  have hf5 : ∀ k, w5.frozen? ⟨g, k, none⟩ = false := fun k => (hb5.frozen (p := ⟨g, k, none⟩) (by show g < w4.heap.size; omega)).trans (hf4 k)
  have hc5 := (hb5.block A (by omega)).trans hc4
  have he5 := (hb5.block D (by omega)).trans he4
  have hB5 := hB4.trans (hb5.mono hB4.size)
  have hS5 := hb5.size
  have d5 : w5.cell? ⟨D, 0, none⟩ = some (.slice (some ⟨g, 0, none⟩) 1 c) := box_one he5
  clear hb5 hN4 hM4 hf4 hc4 he4 hB4
  go_wp2_with fail
  refine (markTree_one g c w5 hM5 (by omega) hf5).mono ?_
  rintro e w6 ⟨rfl, hM6, hb6, hk6⟩
  have hN6 := hN5.below (hb6 g (Nat.le_refl _)) (by omega)
  have hc6 := ((hb6 g (Nat.le_refl _)).block A (by omega)).trans hc5
  have hB6 := hB5.trans (hb6 w.heap.size (by omega))
  have hS6 := (hb6 g (Nat.le_refl _)).size
  have he6 := (hk6 D (by omega) (by omega)).trans he5
  have d6 : w6.cell? ⟨D, 0, none⟩ = some (.slice (some ⟨g, 0, none⟩) 1 c) := box_one he6
  clear hb6 hk6 hN5 hM5 hf5 hc5 he5 hB5 d5
  go_wp2_with fail
  refine (heldTree_one g c w6 hM6 (by omega)).mono ?_
  rintro e w7 ⟨rfl, hb7⟩
  have hN7 := hN6.below hb7 (by omega)
  have hc7 := (hb7.block A (by omega)).trans hc6
  have hB7 := hB6.trans (hb7.mono hB6.size)
  have hS7 := hb7.size
  clear hb7 hN6 hM6 hc6 he6 hB6 d6
  go_wp2_with fail
  refine (implTreeNew_any w7).mono ?_
  rintro e w8 ⟨h, d, rfl, hO8, hb8⟩
  obtain ⟨hh1, hh2⟩ := hO8.lt h rfl
  have hN8 := hN7.below hb8 (by omega)
  have hM8 := NodeAt.of_own hO8
  have hc8 := (hb8.block A (by omega)).trans hc7
  have hB8 := hB7.trans (hb8.mono hB7.size)
  have hs8 := hb8.size
  have d8 : w8.cell? ⟨A, 0, none⟩ = some (.slice (some ⟨G, 0, none⟩) 1 1) := box_one hc8
  have hA8 : A < w8.heap.size := by omega
  clear hO8 hb8 hN7 hc7 hB7
  go_wp2_with fail
  have hb9 : Below w8.heap.size w8 (w8.alloc (.cells #[.slice (some ⟨h, 0, none⟩) 1 d] 30)) := (Below.refl _ _).alloc (Nat.le_refl _) _
  have hs9 := hb9.size
  refine (eqTree_one true 0 h G d 1 _ (hM8.below hb9 hh2) (hN8.below hb9 (by omega)) (by omega) (by omega)).mono ?_
  rintro e w10 ⟨rfl, hb10⟩
  have hB10 := (hB8.trans (hb9.mono hB8.size)).trans (hb10.mono (hB8.trans (hb9.mono hB8.size)).size)
  clear hb9 hb10 hB8
  go_wp2
  go_ret
  exact ⟨rfl, hB10⟩
end Go.Proofs.Ytpiadgjkljdbcaa
