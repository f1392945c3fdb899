import Derived.Test.YtcmhobbpeaeebaaPgW
namespace Go.Proofs.Ytcmhobbpeaeebaa
open Go.RowKit
set_option linter.unusedVariables false
set_option maxRecDepth 100000

/-- A text with its length ahead. -/
def textB (s : ByteArray) : List Int := (s.size : Int) :: strB s
theorem textB_eq (s : ByteArray) : textB s = [(s.size : Int)] ++ strB s := rfl
theorem u8_in (x : Int) (h : 0 ≤ x ∧ x ≤ 255) : IntKind.u8.wrap x = x := by rw [IntKind.wrap_u8']; omega
theorem BytesAt.grown {w w' : World} {A B : Nat} {a : Option Addr} {n c : Nat} {bs : List Int} {row : Option Nat} (h : BytesAt w A B a n c bs) (hg : w.grownBy w' row) (hB : B ≤ w.heap.size) (hr : ∀ g, row = some g → g < A ∨ B ≤ g) : BytesAt w' A B a n c bs :=
  h.keep fun k h1 h2 => hg.block k (by omega) (fun e => by have := hr k e.symm; omega)

set_option maxHeartbeats 1600000 in
theorem l2WriteBody_over (hi : Bool) (nw : Nat) (hnw : nw ≤ 8) (tx id root count : Int) (ka : Option Addr) (kn kc : Nat) (ea : Option Addr) (en ec : Nat) (next : Int) (hn : I64 next) (data : ByteArray) (hd : data.size ≤ 96) (w : World) :
    Calls Try.prog 43 #[.agg #[.int .i64 4, .int .i64 tx, .int .i64 id, .int .i64 root, .int .i64 count, .slice ka kn kc, .slice ea en ec, .int .i64 next, .string data], .agg #[.bool hi, .int .i64 nw, .bool hi]] w fun e w' => ∃ v n, e = .returned v ∧ w'.ownsRow w.heap.size 5 1 v n (u8s (numB hi nw next ++ textB data)) ∧ Below w.heap.size w w' := by
  have HA := acc_start w (.cells #[.int .i64 4, .int .i64 tx, .int .i64 id, .int .i64 root, .int .i64 count, .slice ka kn kc, .slice ea en ec, .int .i64 next, .string data] 28) (.cells #[.bool hi, .int .i64 nw, .bool hi] 63)
  go_enter Try.func43, Try.ntmps43
  go_wp2_with fail
  generalize ((w.alloc (.cells #[.int .i64 4, .int .i64 tx, .int .i64 id, .int .i64 root, .int .i64 count, .slice ka kn kc, .slice ea en ec, .int .i64 next, .string data] 28)).alloc (.cells #[.bool hi, .int .i64 nw, .bool hi] 63)).alloc (.cells #[] 5) = W at HA ⊢
  obtain ⟨_, _, _, _, _, _, x7, x8, _⟩ := box_slice HA.box
  obtain ⟨f0, f1, _⟩ := box_form HA.box2
  have hwr := u8_in (data.size : Int) (by omega)
  go_region_held3 (fun w' => w'.cell? ⟨w.heap.size, 7, none⟩ = some (.int .i64 next) ∧ w'.cell? ⟨w.heap.size, 8, none⟩ = some (.string data) ∧ w'.cell? ⟨w.heap.size + 1, 0, none⟩ = some (.bool hi) ∧ w'.cell? ⟨w.heap.size + 1, 1, none⟩ = some (.int .i64 nw)) (go_keep)
    (first
      | (refine step_as rfl _ _ rfl (w.heap.size + 2) v4 _ _ (by simp [Act.eval]) HA4.row data (by simp [Act.eval]) (by simp [numB_len]; omega) (by have := HA4.lt; omega) ?_; intro v6 w6 hO6 hg6; have HA6 := HA4.grown hO6 hg6; obtain ⟨_, _, _, _, _, _, y7, y8, _⟩ := box_slice HA6.box; obtain ⟨g0, g1, _⟩ := box_form HA6.box2)
      | (refine step_ab rfl _ _ rfl (w.heap.size + 2) v2 _ _ (by simp [Act.eval]) HA3.row _ 1 1 _ _ _ (by simp [Act.eval]) hB3 (by simp [numB_len]; omega) (by have := HA3.lt; omega) ?_; intro v4 w4 hO4 hg4; have HA4 := HA3.grown hO4 hg4; obtain ⟨_, _, _, _, _, _, y7, y8, _⟩ := box_slice HA4.box; obtain ⟨g0, g1, _⟩ := box_form HA4.box2)
      | (refine step_ab rfl _ _ rfl (w.heap.size + 2) _ _ [] (by simp [Act.eval]) HA1c.row a1 nw c1 _ _ _ (by simp [Act.eval]) hB1 (by simp; omega) (by have := HA1c.lt; omega) ?_; intro v2 w2 hO2 hg2; have HA3 := HA1c.grown hO2 hg2; have hB3 := hBc.grown hg2 (Nat.le_trans (Nat.le_of_eq (by simp)) hb1.size) (fun g e => .inl (HA.drew.own.lt g e).2); obtain ⟨_, _, _, _, _, _, y7, y8, _⟩ := box_slice HA3.box; obtain ⟨g0, g1, _⟩ := box_form HA3.box2)
      | (refine step_ab rfl _ _ rfl (w.heap.size + 2) _ _ [] (by simp [Act.eval]) HA1.row a1 nw c1 _ _ _ (by simp [Act.eval]) hB1 (by simp; omega) (by have := HA1.lt; omega) ?_; intro v2 w2 hO2 hg2; have HA2 := HA1.grown hO2 hg2; have HA3 := HA2.alloc (.cells #[.int .u8 (data.size : Int)] 5); have hB3 := bytesAt_one w2 (data.size : Int) (by omega); obtain ⟨_, _, _, _, _, _, y7, y8, _⟩ := box_slice HA2.box; obtain ⟨g0, g1, _⟩ := box_form HA2.box2)
      | (refine step_ab (w := w1.alloc (.cells #[.int .u8 (data.size : Int)] 5)) rfl _ _ rfl (w.heap.size + 2) _ _ [] (by simp [Act.eval]) (HA1.alloc (.cells #[.int .u8 (data.size : Int)] 5)).row a1 nw c1 _ _ _ (by simp [Act.eval]) (hB1.below ((Below.refl w1.heap.size w1).alloc (Nat.le_refl _) (.cells #[.int .u8 (data.size : Int)] 5))) (by simp; omega) (by have := HA1.lt; simp; omega) ?_; intro v2 w2 hO2 hg2; have HA3 := (HA1.alloc (.cells #[.int .u8 (data.size : Int)] 5)).grown hO2 hg2; have hB3 := (bytesAt_one w1 (data.size : Int) (by omega)).grown hg2 (by simp) (fun g e => by have := (HA1.own.lt g e).2; omega); obtain ⟨_, _, _, _, _, _, y7, y8, _⟩ := box_slice HA3.box; obtain ⟨g0, g1, _⟩ := box_form HA3.box2)
      | (go_at_call 40; refine (l2Put_any hi next hn nw hnw W.drew).mono ?_; rintro e w1 ⟨a1, c1, rfl, _, hB1, hb1⟩; have HA1 := HA.drew.call hb1; obtain ⟨_, _, _, _, _, _, y7, y8, _⟩ := box_slice HA1.box; obtain ⟨g0, g1, _⟩ := box_form HA1.box2)
      | (go_at_call 40; refine (l2Put_any hi next hn nw hnw (W.drew.alloc (.cells #[.int .u8 (data.size : Int)] 5))).mono ?_; rintro e w1 ⟨a1, c1, rfl, _, hB1, hb1⟩; have HA1c := (HA.drew.alloc (.cells #[.int .u8 (data.size : Int)] 5)).call hb1; have hBc := (bytesAt_one W.drew (data.size : Int) (by omega)).below (hb1.mono (by simp)); obtain ⟨_, _, _, _, _, _, y7, y8, _⟩ := box_slice HA1c.box; obtain ⟨g0, g1, _⟩ := box_form HA1c.box2))
  all_goals
    have R : Hid (∃ n, w6.ownsRow w.heap.size 5 1 v6 n (u8s (numB hi nw next ++ textB data))) := by
      have h := owns_base HA6.row (base' := w.heap.size) (by omega)
      rw [textB_eq, ← List.append_assoc]
      exact ⟨_, h⟩
    have RB : Hid (Below w.heap.size w w6) := HA6.bel
    clear HA HA3 HA4 HA6 hB1 hB3 hb1 hO2 hO4 hO6 hg2 hg4 hg6
    go_wp2
    go_ret
    obtain ⟨n, hn⟩ := R.out
    exact ⟨_, n, rfl, hn, RB.out⟩
end Go.Proofs.Ytcmhobbpeaeebaa
