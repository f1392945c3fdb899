import Derived.Test.YtpiadgjkljdbcaaTN
namespace Go.Proofs.Ytpiadgjkljdbcaa
open Go.RowKit
set_option linter.unusedVariables false
set_option maxRecDepth 100000

/-- The cells of a node at block g. -/
structure NodeAt (w : World) (g : Nat) (leaf : Bool) (page : Int) : Prop where
  c0 : w.cell? ⟨g, 0, none⟩ = some (.bool leaf)
  c1 : w.cell? ⟨g, 1, none⟩ = some (.int .i64 page)
  c2 : w.cell? ⟨g, 2, none⟩ = some (.slice none 0 0)
  c3 : w.cell? ⟨g, 3, none⟩ = some (.slice none 0 0)
  c4 : w.cell? ⟨g, 4, none⟩ = some (.slice none 0 0)
  c5 : w.cell? ⟨g, 5, none⟩ = some (.slice none 0 0)
theorem NodeAt.below {w w' : World} {S g : Nat} {leaf : Bool} {page : Int} (h : NodeAt w g leaf page) (hb : Below S w w') (hg : g < S) : NodeAt w' g leaf page :=
  ⟨(hb.cell (p := ⟨g, 0, none⟩) hg).trans h.c0, (hb.cell (p := ⟨g, 1, none⟩) hg).trans h.c1, (hb.cell (p := ⟨g, 2, none⟩) hg).trans h.c2, (hb.cell (p := ⟨g, 3, none⟩) hg).trans h.c3, (hb.cell (p := ⟨g, 4, none⟩) hg).trans h.c4, (hb.cell (p := ⟨g, 5, none⟩) hg).trans h.c5⟩
theorem eqTNode_one (leaf : Bool) (page : Int) (w : World) : Calls Try.prog 80 #[.agg #[.bool leaf, .int .i64 page, .slice none 0 0, .slice none 0 0, .slice none 0 0, .slice none 0 0], .agg #[.bool leaf, .int .i64 page, .slice none 0 0, .slice none 0 0, .slice none 0 0, .slice none 0 0]] w fun e w' => e = .returned (.bool true) ∧ Below w.heap.size w w' := by
  go_enter Try.func80, Try.ntmps80
  go_wp2_with (first | (go_at_call 108; refine (eqStringS_nil _).mono ?_; rintro e w1 ⟨rfl, rfl⟩) | (go_at_call 109; refine (eqInt64S_nil _).mono ?_; rintro e w1 ⟨rfl, rfl⟩))
  go_ret
  exact ⟨rfl, by repeat (first | exact Below.refl _ _ | refine Below.alloc ?_ (by simp) _)⟩
theorem eqTNodeS_one (leaf : Bool) (page : Int) (g h c d : Nat) (w : World) (hg : NodeAt w g leaf page) (hh : NodeAt w h leaf page) (hgl : g < w.heap.size) (hhl : h < w.heap.size) : Calls Try.prog 38 #[.slice (some ⟨g, 0, none⟩) 1 c, .slice (some ⟨h, 0, none⟩) 1 d] w fun e w' => e = .returned (.bool true) ∧ Below w.heap.size w w' := by
  go_enter Try.func38, Try.ntmps38
  go_wp2
  go_loopw [5] (fun i wr => (i = .int .i64 0 ∧ wr = w) ∨ (i = .int .i64 1 ∧ Below w.heap.size w wr)) (fun i _ => 1 - (intOf i).toNat)
  case atStart => exact .inl ⟨rfl, rfl⟩
  case round =>
    rcases hrel with ⟨rfl, rfl⟩ | ⟨rfl, hb⟩
    · obtain ⟨a0, a1, a2, a3, a4, a5⟩ := hg
      obtain ⟨b0, b1, b2, b3, b4, b5⟩ := hh
      go_wp2_with fail
      go_region_with (go_at_call 80; refine (eqTNode_one leaf page _).mono ?_; rintro e w1 ⟨rfl, hb1⟩)
      all_goals
        go_wp2
        go_roundw
        case rel => exact .inr ⟨by go_num, (Below.refl _ _).drew.trans hb1⟩
        case measure => simp [intOf]
    · go_wp2
      go_ret
      exact ⟨rfl, hb⟩
theorem eqTree_one (leaf : Bool) (page : Int) (g h c d : Nat) (w : World) (hg : NodeAt w g leaf page) (hh : NodeAt w h leaf page) (hgl : g < w.heap.size) (hhl : h < w.heap.size) : Calls Try.prog 15 #[.agg #[.slice (some ⟨g, 0, none⟩) 1 c], .agg #[.slice (some ⟨h, 0, none⟩) 1 d]] w fun e w' => e = .returned (.bool true) ∧ Below w.heap.size w w' := by
  have hb0 : Below w.heap.size w ((w.alloc (.cells #[.slice (some ⟨g, 0, none⟩) 1 c] 30)).alloc (.cells #[.slice (some ⟨h, 0, none⟩) 1 d] 30)) := ((Below.refl _ _).alloc (Nat.le_refl _) _).alloc (by simp) _
  have hs := hb0.size
  go_enter Try.func15, Try.ntmps15
  go_wp2_with (go_at_call 38; refine (eqTNodeS_one leaf page g h c d _ (hg.below hb0 hgl) (hh.below hb0 hhl) (by omega) (by omega)).mono ?_; rintro e w1 ⟨rfl, hb1⟩)
  go_ret
  exact ⟨rfl, hb0.trans (hb1.mono hb0.size)⟩
/-- What marking makes of one new node. -/
def marked (w : World) (g : Nat) : World := (w.setCell ⟨g, 0, none⟩ (.bool false)).setCell ⟨g, 1, none⟩ (.int .i64 2)
set_option maxHeartbeats 800000 in
theorem markTNodeS_one (g c : Nat) (w : World) (hg : NodeAt w g true 0) (hgl : g < w.heap.size) (hf : ∀ k, w.frozen? ⟨g, k, none⟩ = false) : Calls Try.prog 39 #[.slice (some ⟨g, 0, none⟩) 1 c, .int .i64 1] w fun e w' => e = .returned (.int .i64 3) ∧ w' = marked w g := by
  go_enter Try.func39, Try.ntmps39
  go_wp2
  go_loopw [1, 5] (fun k i wr => (k = .int .i64 1 ∧ i = .int .i64 0 ∧ wr = w) ∨ (k = .int .i64 3 ∧ i = .int .i64 1 ∧ wr = marked w g)) (fun _ i _ => 1 - (intOf i).toNat)
  case atStart => exact .inl ⟨rfl, rfl, rfl⟩
  case round =>
    rcases hrel with ⟨rfl, rfl, rfl⟩ | ⟨rfl, rfl, rfl⟩
    · obtain ⟨a0, a1, a2, a3, a4, a5⟩ := hg
      go_wp2_with (first | (go_at_call 81; refine (markStringS_nil _ _).mono ?_; rintro e w1 ⟨rfl, rfl⟩) | (go_at_call 82; refine (markInt64S_nil _ _).mono ?_; rintro e w1 ⟨rfl, rfl⟩))
      go_roundw
      case rel => exact .inr ⟨by go_num, by go_num, by first | rfl | trivial⟩
      case measure => simp [intOf]
    · go_wp2
      go_ret
      exact ⟨rfl, rfl⟩
set_option maxHeartbeats 800000 in
theorem heldTNodeS_one (g c : Nat) (w : World) (hg : NodeAt w g false 2) (hgl : g < w.heap.size) : Calls Try.prog 40 #[.slice (some ⟨g, 0, none⟩) 1 c, .int .i64 1] w fun e w' => e = .returned (.int .i64 3) ∧ w' = w := by
  go_enter Try.func40, Try.ntmps40
  go_wp2
  go_loopw [1, 5] (fun k i wr => (k = .int .i64 1 ∧ i = .int .i64 0 ∧ wr = w) ∨ (k = .int .i64 3 ∧ i = .int .i64 1 ∧ wr = w)) (fun _ i _ => 1 - (intOf i).toNat)
  case atStart => exact .inl ⟨rfl, rfl, rfl⟩
  case round =>
    rcases hrel with ⟨rfl, rfl, rfl⟩ | ⟨rfl, rfl, rfl⟩
    · obtain ⟨a0, a1, a2, a3, a4, a5⟩ := hg
      go_wp2_with (first | (go_at_call 83; refine (heldStringS_nil _ _).mono ?_; rintro e w1 ⟨rfl, rfl⟩) | (go_at_call 84; refine (heldInt64S_nil _ _).mono ?_; rintro e w1 ⟨rfl, rfl⟩))
      go_roundw
      case rel => exact .inr ⟨by go_num, by go_num, by first | rfl | trivial⟩
      case measure => simp [intOf]
    · go_wp2
      go_ret
      exact ⟨rfl, rfl⟩
end Go.Proofs.Ytpiadgjkljdbcaa
