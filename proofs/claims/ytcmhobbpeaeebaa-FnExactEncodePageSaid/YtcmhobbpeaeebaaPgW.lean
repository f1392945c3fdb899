import Derived.Test.YtcmhobbpeaeebaaPgL
import Derived.Test.YtcmhobbpeaeebaaPgB5
import Derived.Test.YtcmhobbpeaeebaaAcc
namespace Go.Proofs.Ytcmhobbpeaeebaa
open Go.RowKit
set_option linter.unusedVariables false
set_option maxRecDepth 100000

def smallW (high : Bool) : Nat := if high then 2 else 4
def metaB (high : Bool) (p : Pg) : List Int := if high then beB 2 p.root ++ beB 4 p.count ++ beB 4 p.id else leB 4 p.id ++ leB 4 p.root ++ leB 4 p.count ++ [67, 79, 87, 50]

theorem beB_byte (n : Nat) (x : Int) : ∀ y ∈ beB n x, 0 ≤ y ∧ y ≤ 255 := numB_byte true n x

theorem box_form {w : World} {N : Nat} {v0 v1 v2 : Value} {t : TypeId} (h : w.heap[N]? = some (.cells #[v0, v1, v2] t)) : w.cell? ⟨N, 0, none⟩ = some v0 ∧ w.cell? ⟨N, 1, none⟩ = some v1 ∧ w.cell? ⟨N, 2, none⟩ = some v2 := by
  refine ⟨?_, ?_, ?_⟩ <;> simp [World.cell?, h]
/-- The state in which the writing of a body begins. -/
theorem acc_start (w : World) (b1 b2 : Obj) : Acc w w.heap.size b1 b2 (((w.alloc b1).alloc b2).alloc (.cells #[] 5)) (.slice (some ⟨w.heap.size + 1 + 1, 0, none⟩) 0 0) [] := by
  refine ⟨?_, ?_, ?_, (((Below.refl _ _).alloc (Nat.le_refl _) _).alloc (by simp) _).alloc (by simp; omega) _⟩
  · have := World.ownsRow_made ((w.alloc b1).alloc b2) #[] (base := w.heap.size + 2) (e := 5) (size := 1) 0 (by simp) (by unfold maxLen; omega) (by simp)
    simpa [u8s] using this
  · show (((w.heap.push b1).push b2).push _)[w.heap.size]? = _
    rw [Array.getElem?_push, if_neg (by simp; omega), Array.getElem?_push, if_neg (by simp), Array.getElem?_push, if_pos rfl]
  · show (((w.heap.push b1).push b2).push _)[w.heap.size + 1]? = _
    rw [Array.getElem?_push, if_neg (by simp), Array.getElem?_push, if_pos (by simp)]

set_option maxHeartbeats 1600000 in
theorem l2WriteBody_metaOld (tx id root count : Int) (hi : I64 id) (hr : I64 root) (hc : I64 count) (ka : Option Addr) (kn kc : Nat) (ea : Option Addr) (en ec : Nat) (next : Int) (data : ByteArray) (w : World) :
    Calls Try.prog 43 #[.agg #[.int .i64 1, .int .i64 tx, .int .i64 id, .int .i64 root, .int .i64 count, .slice ka kn kc, .slice ea en ec, .int .i64 next, .string data], .agg #[.bool true, .int .i64 2, .bool true]] w fun e w' => ∃ v, e = .returned v ∧ w'.ownsRow w.heap.size 5 1 v 10 (u8s (beB 2 root ++ beB 4 count ++ beB 4 id)) ∧ Below w.heap.size w w' := by
  have HA := acc_start w (.cells #[.int .i64 1, .int .i64 tx, .int .i64 id, .int .i64 root, .int .i64 count, .slice ka kn kc, .slice ea en ec, .int .i64 next, .string data] 28) (.cells #[.bool true, .int .i64 2, .bool true] 63)
  go_enter Try.func43, Try.ntmps43
  go_wp2_with fail
  generalize ((w.alloc (.cells #[.int .i64 1, .int .i64 tx, .int .i64 id, .int .i64 root, .int .i64 count, .slice ka kn kc, .slice ea en ec, .int .i64 next, .string data] 28)).alloc (.cells #[.bool true, .int .i64 2, .bool true] 63)).alloc (.cells #[] 5) = W at HA ⊢
  obtain ⟨_, _, _, x2, x3, x4, _⟩ := box_slice HA.box
  go_region_held3 (fun w' => w'.cell? ⟨w.heap.size, 2, none⟩ = some (.int .i64 id) ∧ w'.cell? ⟨w.heap.size, 3, none⟩ = some (.int .i64 root) ∧ w'.cell? ⟨w.heap.size, 4, none⟩ = some (.int .i64 count)) (go_keep)
    (first
      | (refine step_ab rfl _ _ rfl (w.heap.size + 2) v4 _ _ (by simp [Act.eval]) HA5.row a5 4 c5 _ _ _ (by simp [Act.eval]) hB5 (by first | (simp; done) | (simp [numB_len]; done)) (by have := HA5.lt; omega) ?_; intro v6 w6 hO6 hg6; have HA6 := HA5.grown hO6 hg6; obtain ⟨_, _, _, z2, z3, z4, _⟩ := box_slice HA6.box)
      | (go_at_call 40; refine (l2Put_any true id hi 4 (by omega) w4).mono ?_; rintro e w5 ⟨a5, c5, rfl, _, hB5, hb5⟩; have HA5 := HA4.call hb5; obtain ⟨_, _, _, y2, y3, y4, _⟩ := box_slice HA5.box)
      | (refine step_ab rfl _ _ rfl (w.heap.size + 2) v2 _ _ (by simp [Act.eval]) HA3.row a3 4 c3 _ _ _ (by simp [Act.eval]) hB3 (by first | (simp; done) | (simp [numB_len]; done)) (by have := HA3.lt; omega) ?_; intro v4 w4 hO4 hg4; have HA4 := HA3.grown hO4 hg4; obtain ⟨_, _, _, z2, z3, z4, _⟩ := box_slice HA4.box)
      | (go_at_call 40; refine (l2Put_any true count hc 4 (by omega) w2).mono ?_; rintro e w3 ⟨a3, c3, rfl, _, hB3, hb3⟩; have HA3 := HA2.call hb3; obtain ⟨_, _, _, y2, y3, y4, _⟩ := box_slice HA3.box)
      | (refine step_ab rfl _ _ rfl (w.heap.size + 2) _ _ [] (by simp [Act.eval]) HA1.row a1 2 c1 _ _ _ (by simp [Act.eval]) hB1 (by simp) (by have := HA1.lt; omega) ?_; intro v2 w2 hO2 hg2; have HA2 := HA1.grown hO2 hg2; obtain ⟨_, _, _, z2, z3, z4, _⟩ := box_slice HA2.box)
      | (go_at_call 40; refine (l2Put_any true root hr 2 (by omega) W.drew).mono ?_; rintro e w1 ⟨a1, c1, rfl, _, hB1, hb1⟩; have HA1 := HA.drew.call hb1; obtain ⟨_, _, _, y2, y3, y4, _⟩ := box_slice HA1.box))
  have R : Hid (w6.ownsRow w.heap.size 5 1 v6 10 (u8s (beB 2 root ++ beB 4 count ++ beB 4 id))) := by
    have h := owns_base HA6.row (base' := w.heap.size) (by omega)
    have e : ([] ++ numB true 2 root ++ numB true 4 count ++ numB true 4 id) = beB 2 root ++ beB 4 count ++ beB 4 id := rfl
    rw [e] at h
    have el : (beB 2 root ++ beB 4 count ++ beB 4 id).length = 10 := by simp [beB_len]
    rw [el] at h
    exact h
  have RB : Hid (Below w.heap.size w w6) := HA6.bel
  clear HA HA1 HA2 HA3 HA4 HA5 HA6 hB1 hB3 hB5 hb1 hb3 hb5 hO2 hO4 hO6 hg2 hg4 hg6
  go_wp2
  go_ret
  exact ⟨_, rfl, R.out, RB.out⟩

theorem bytesAt_lit4 (w : World) (x0 x1 x2 x3 : Int) (h : ∀ x ∈ [x0, x1, x2, x3], 0 ≤ x ∧ x ≤ 255) : BytesAt (w.alloc (.cells #[.int .u8 x0, .int .u8 x1, .int .u8 x2, .int .u8 x3] 5)) w.heap.size (w.heap.size + 1) (some ⟨w.heap.size, 0, none⟩) 4 4 [x0, x1, x2, x3] := by
  refine ⟨rfl, Nat.le_refl _, by unfold maxLen; omega, h, fun _ => ⟨w.heap.size, 0, rfl, ⟨Nat.le_refl _, Nat.lt_succ_self _⟩, fun i hi => ?_⟩, fun h => by cases h⟩
  match i, hi with
  | 0, _ => simp
  | 1, _ => simp
  | 2, _ => simp
  | 3, _ => simp

set_option maxHeartbeats 1600000 in
theorem l2WriteBody_metaNew (tx id root count : Int) (hi : I64 id) (hr : I64 root) (hc : I64 count) (ka : Option Addr) (kn kc : Nat) (ea : Option Addr) (en ec : Nat) (next : Int) (data : ByteArray) (w : World) :
    Calls Try.prog 43 #[.agg #[.int .i64 1, .int .i64 tx, .int .i64 id, .int .i64 root, .int .i64 count, .slice ka kn kc, .slice ea en ec, .int .i64 next, .string data], .agg #[.bool false, .int .i64 4, .bool false]] w fun e w' => ∃ v, e = .returned v ∧ w'.ownsRow w.heap.size 5 1 v 16 (u8s (leB 4 id ++ leB 4 root ++ leB 4 count ++ [67, 79, 87, 50])) ∧ Below w.heap.size w w' := by
  have HA := acc_start w (.cells #[.int .i64 1, .int .i64 tx, .int .i64 id, .int .i64 root, .int .i64 count, .slice ka kn kc, .slice ea en ec, .int .i64 next, .string data] 28) (.cells #[.bool false, .int .i64 4, .bool false] 63)
  go_enter Try.func43, Try.ntmps43
  go_wp2_with fail
  generalize ((w.alloc (.cells #[.int .i64 1, .int .i64 tx, .int .i64 id, .int .i64 root, .int .i64 count, .slice ka kn kc, .slice ea en ec, .int .i64 next, .string data] 28)).alloc (.cells #[.bool false, .int .i64 4, .bool false] 63)).alloc (.cells #[] 5) = W at HA ⊢
  obtain ⟨_, _, _, x2, x3, x4, _⟩ := box_slice HA.box
  go_region_held3 (fun w' => w'.cell? ⟨w.heap.size, 2, none⟩ = some (.int .i64 id) ∧ w'.cell? ⟨w.heap.size, 3, none⟩ = some (.int .i64 root) ∧ w'.cell? ⟨w.heap.size, 4, none⟩ = some (.int .i64 count)) (go_keep)
    (first
      | (refine step_ab rfl _ _ rfl (w.heap.size + 2) v4 _ _ (by simp [Act.eval]) HA5.row a5 4 c5 _ _ _ (by simp [Act.eval]) hB5 (by first | (simp; done) | (simp [numB_len]; done)) (by have := HA5.lt; omega) ?_; intro v6 w6 hO6 hg6; have HA6 := HA5.grown hO6 hg6; obtain ⟨_, _, _, y2, y3, y4, _⟩ := box_slice HA6.box)
      | (go_at_call 40; refine (l2Put_any false count hc 4 (by omega) w4).mono ?_; rintro e w5 ⟨a5, c5, rfl, _, hB5, hb5⟩; have HA5 := HA4.call hb5; obtain ⟨_, _, _, y2, y3, y4, _⟩ := box_slice HA5.box)
      | (refine step_ab rfl _ _ rfl (w.heap.size + 2) v2 _ _ (by simp [Act.eval]) HA3.row a3 4 c3 _ _ _ (by simp [Act.eval]) hB3 (by first | (simp; done) | (simp [numB_len]; done)) (by have := HA3.lt; omega) ?_; intro v4 w4 hO4 hg4; have HA4 := HA3.grown hO4 hg4; obtain ⟨_, _, _, y2, y3, y4, _⟩ := box_slice HA4.box)
      | (go_at_call 40; refine (l2Put_any false root hr 4 (by omega) w2).mono ?_; rintro e w3 ⟨a3, c3, rfl, _, hB3, hb3⟩; have HA3 := HA2.call hb3; obtain ⟨_, _, _, y2, y3, y4, _⟩ := box_slice HA3.box)
      | (refine step_ab rfl _ _ rfl (w.heap.size + 2) _ _ [] (by simp [Act.eval]) HA1.row a1 4 c1 _ _ _ (by simp [Act.eval]) hB1 (by first | (simp; done) | (simp [numB_len]; done)) (by have := HA1.lt; omega) ?_; intro v2 w2 hO2 hg2; have HA2 := HA1.grown hO2 hg2; obtain ⟨_, _, _, y2, y3, y4, _⟩ := box_slice HA2.box)
      | (go_at_call 40; refine (l2Put_any false id hi 4 (by omega) W.drew).mono ?_; rintro e w1 ⟨a1, c1, rfl, _, hB1, hb1⟩; have HA1 := HA.drew.call hb1; obtain ⟨_, _, _, y2, y3, y4, _⟩ := box_slice HA1.box))
  have e : ([] ++ numB false 4 id ++ numB false 4 root ++ numB false 4 count) = leB 4 id ++ leB 4 root ++ leB 4 count := rfl
  rw [e] at HA6
  have el : (leB 4 id ++ leB 4 root ++ leB 4 count).length = 12 := by simp [leB_len]
  generalize hl : leB 4 id ++ leB 4 root ++ leB 4 count = l at HA6 el ⊢
  have HLL : Hid (leB 4 id ++ leB 4 root ++ leB 4 count = l) := hl
  clear hl
  clear HA HA1 HA2 HA3 HA4 HA5 hB1 hB3 hB5 hb1 hb3 hb5 hO2 hO4 hO6 hg2 hg4 hg6 e
  have hL := bytesAt_lit4 w6 67 79 87 50 (by intro x hx; simp at hx; omega)
  have HA7 := HA6.alloc (.cells #[.int .u8 67, .int .u8 79, .int .u8 87, .int .u8 50] 5)
  have hN := HA6.lt
  go_wp2_with (at_builtin; refine wpList_ab rfl _ _ rfl (w.heap.size + 2) v6 _ l rfl HA7.row _ 4 4 _ _ _ rfl hL (by omega) (by simp; omega) ?_; intro v8 w8 hO8 hg8)
  have HA8 := HA7.grown hO8 hg8
  go_ret
  refine ⟨_, rfl, ?_, HA8.bel⟩
  have h := owns_base HA8.row (base' := w.heap.size) (by omega)
  rw [List.length_append, el] at h
  rw [HLL.out]
  exact h
end Go.Proofs.Ytcmhobbpeaeebaa
