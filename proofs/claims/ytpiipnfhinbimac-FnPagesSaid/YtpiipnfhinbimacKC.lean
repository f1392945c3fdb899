import Derived.Test.YtpiipnfhinbimacJB
import Derived.Test.YtpiipnfhinbimacKB
namespace Go.Proofs.Ytpiipnfhinbimac
open Go.RowKit
set_option linter.unusedVariables false
set_option maxRecDepth 100000

def smallW (high : Bool) : Nat := if high then 2 else 4
def metaB (high : Bool) (p : Pg) : List Int := if high then beB 2 p.root ++ beB 4 p.count ++ beB 4 p.id else leB 4 p.id ++ leB 4 p.root ++ leB 4 p.count ++ [67, 79, 87, 50]

theorem beB_byte (n : Nat) (x : Int) : ∀ y ∈ beB n x, 0 ≤ y ∧ y ≤ 255 := numB_byte true n x

theorem box_form {w : World} {N : Nat} {v0 v1 v2 : Value} {t : TypeId} (h : w.heap[N]? = some (.cells #[v0, v1, v2] t)) : w.cell? ⟨N, 0, none⟩ = some v0 ∧ w.cell? ⟨N, 1, none⟩ = some v1 ∧ w.cell? ⟨N, 2, none⟩ = some v2 := by
  refine ⟨?_, ?_, ?_⟩ <;> simp [World.cell?, h]
/-- The state in which the writing of a body begins. -/
theorem acc_start (w : World) (b1 b2 : Obj) : Acc w w.heap.size b1 b2 (((w.alloc b1).alloc b2).alloc (.cells #[] 5)) (.slice (some ⟨w.heap.size + 1 + 1, 0, none⟩) 0 0) [] := by
  refine ⟨?_, ?_, ?_, (((Below.refl _ _).alloc (Nat.le_refl _) _).alloc (by simp) _).alloc (by simp; omega) _⟩
  · have := World.ownsRow_made ((w.alloc b1).alloc b2) #[] (base := w.heap.size + 2) (e := 5) (size := 1) 0 (by simp) (by unfold maxLen; omega) (by simp)
    simpa [u8s] using this
  · show (((w.heap.push b1).push b2).push _)[w.heap.size]? = _
    rw [Array.getElem?_push, if_neg (by simp; omega), Array.getElem?_push, if_neg (by simp), Array.getElem?_push, if_pos rfl]
  · show (((w.heap.push b1).push b2).push _)[w.heap.size + 1]? = _
    rw [Array.getElem?_push, if_neg (by simp), Array.getElem?_push, if_pos (by simp)]

set_option maxHeartbeats 1600000 in
theorem l2WriteBody_metaOld (tx id root count : Int) (hi : I64 id) (hr : I64 root) (hc : I64 count) (ka : Option Addr) (kn kc : Nat) (ea : Option Addr) (en ec : Nat) (next : Int) (data : ByteArray) (w : World) :
    Calls Try.prog 52 #[.agg #[.int .i64 1, .int .i64 tx, .int .i64 id, .int .i64 root, .int .i64 count, .slice ka kn kc, .slice ea en ec, .int .i64 next, .string data], .agg #[.bool true, .int .i64 2, .bool true]] w fun e w' => ∃ v, e = .returned v ∧ w'.ownsRow w.heap.size 5 1 v 10 (u8s (beB 2 root ++ beB 4 count ++ beB 4 id)) ∧ Below w.heap.size w w' := by
  have HA := acc_start w (.cells #[.int .i64 1, .int .i64 tx, .int .i64 id, .int .i64 root, .int .i64 count, .slice ka kn kc, .slice ea en ec, .int .i64 next, .string data] 35) (.cells #[.bool true, .int .i64 2, .bool true] 87)
  go_enter Try.func52, Try.ntmps52
  go_wp2_with fail
  generalize ((w.alloc (.cells #[.int .i64 1, .int .i64 tx, .int .i64 id, .int .i64 root, .int .i64 count, .slice ka kn kc, .slice ea en ec, .int .i64 next, .string data] 35)).alloc (.cells #[.bool true, .int .i64 2, .bool true] 87)).alloc (.cells #[] 5) = W at HA ⊢
  obtain ⟨_, _, _, x2, x3, x4, _⟩ := box_slice HA.box
  go_region_held3 (fun w' => w'.cell? ⟨w.heap.size, 2, none⟩ = some (.int .i64 id) ∧ w'.cell? ⟨w.heap.size, 3, none⟩ = some (.int .i64 root) ∧ w'.cell? ⟨w.heap.size, 4, none⟩ = some (.int .i64 count)) (go_keep)
    (first
      | (refine step_ab rfl _ _ rfl (w.heap.size + 2) v4 _ _ (by simp [Act.eval]) HA5.row a5 4 c5 _ _ _ (by simp [Act.eval]) hB5 (by first | (simp; done) | (simp [numB_len]; done)) (by have := HA5.lt; omega) ?_; intro v6 w6 hO6 hg6; have HA6 := HA5.grown hO6 hg6; obtain ⟨_, _, _, z2, z3, z4, _⟩ := box_slice HA6.box)
      | (go_at_call 49; refine (l2Put_any true id hi 4 (by omega) w4).mono ?_; rintro e w5 ⟨a5, c5, rfl, _, hB5, hb5⟩; have HA5 := HA4.call hb5; obtain ⟨_, _, _, y2, y3, y4, _⟩ := box_slice HA5.box)
      | (refine step_ab rfl _ _ rfl (w.heap.size + 2) v2 _ _ (by simp [Act.eval]) HA3.row a3 4 c3 _ _ _ (by simp [Act.eval]) hB3 (by first | (simp; done) | (simp [numB_len]; done)) (by have := HA3.lt; omega) ?_; intro v4 w4 hO4 hg4; have HA4 := HA3.grown hO4 hg4; obtain ⟨_, _, _, z2, z3, z4, _⟩ := box_slice HA4.box)
      | (go_at_call 49; refine (l2Put_any true count hc 4 (by omega) w2).mono ?_; rintro e w3 ⟨a3, c3, rfl, _, hB3, hb3⟩; have HA3 := HA2.call hb3; obtain ⟨_, _, _, y2, y3, y4, _⟩ := box_slice HA3.box)
      | (refine step_ab rfl _ _ rfl (w.heap.size + 2) _ _ [] (by simp [Act.eval]) HA1.row a1 2 c1 _ _ _ (by simp [Act.eval]) hB1 (by simp) (by have := HA1.lt; omega) ?_; intro v2 w2 hO2 hg2; have HA2 := HA1.grown hO2 hg2; obtain ⟨_, _, _, z2, z3, z4, _⟩ := box_slice HA2.box)
      | (go_at_call 49; refine (l2Put_any true root hr 2 (by omega) W.drew).mono ?_; rintro e w1 ⟨a1, c1, rfl, _, hB1, hb1⟩; have HA1 := HA.drew.call hb1; obtain ⟨_, _, _, y2, y3, y4, _⟩ := box_slice HA1.box))
  have R : Hid (w6.ownsRow w.heap.size 5 1 v6 10 (u8s (beB 2 root ++ beB 4 count ++ beB 4 id))) := by
    have h := owns_base HA6.row (base' := w.heap.size) (by omega)
    have e : ([] ++ numB true 2 root ++ numB true 4 count ++ numB true 4 id) = beB 2 root ++ beB 4 count ++ beB 4 id := rfl
    rw [e] at h
    have el : (beB 2 root ++ beB 4 count ++ beB 4 id).length = 10 := by simp [beB_len]
    rw [el] at h
    exact h
  have RB : Hid (Below w.heap.size w w6) := HA6.bel
  clear HA HA1 HA2 HA3 HA4 HA5 HA6 hB1 hB3 hB5 hb1 hb3 hb5 hO2 hO4 hO6 hg2 hg4 hg6
  go_wp2
  go_ret
  exact ⟨_, rfl, R.out, RB.out⟩

theorem bytesAt_lit4 (w : World) (x0 x1 x2 x3 : Int) (h : ∀ x ∈ [x0, x1, x2, x3], 0 ≤ x ∧ x ≤ 255) : BytesAt (w.alloc (.cells #[.int .u8 x0, .int .u8 x1, .int .u8 x2, .int .u8 x3] 5)) w.heap.size (w.heap.size + 1) (some ⟨w.heap.size, 0, none⟩) 4 4 [x0, x1, x2, x3] := by
  refine ⟨rfl, Nat.le_refl _, by unfold maxLen; omega, h, fun _ => ⟨w.heap.size, 0, rfl, ⟨Nat.le_refl _, Nat.lt_succ_self _⟩, fun i hi => ?_⟩, fun h => by cases h⟩
  match i, hi with
  | 0, _ => simp
  | 1, _ => simp
  | 2, _ => simp
  | 3, _ => simp

set_option maxHeartbeats 1600000 in
theorem l2WriteBody_metaNew (tx id root count : Int) (hi : I64 id) (hr : I64 root) (hc : I64 count) (ka : Option Addr) (kn kc : Nat) (ea : Option Addr) (en ec : Nat) (next : Int) (data : ByteArray) (w : World) :
    Calls Try.prog 52 #[.agg #[.int .i64 1, .int .i64 tx, .int .i64 id, .int .i64 root, .int .i64 count, .slice ka kn kc, .slice ea en ec, .int .i64 next, .string data], .agg #[.bool false, .int .i64 4, .bool false]] w fun e w' => ∃ v, e = .returned v ∧ w'.ownsRow w.heap.size 5 1 v 16 (u8s (leB 4 id ++ leB 4 root ++ leB 4 count ++ [67, 79, 87, 50])) ∧ Below w.heap.size w w' := by
  have HA := acc_start w (.cells #[.int .i64 1, .int .i64 tx, .int .i64 id, .int .i64 root, .int .i64 count, .slice ka kn kc, .slice ea en ec, .int .i64 next, .string data] 35) (.cells #[.bool false, .int .i64 4, .bool false] 87)
  go_enter Try.func52, Try.ntmps52
  go_wp2_with fail
  generalize ((w.alloc (.cells #[.int .i64 1, .int .i64 tx, .int .i64 id, .int .i64 root, .int .i64 count, .slice ka kn kc, .slice ea en ec, .int .i64 next, .string data] 35)).alloc (.cells #[.bool false, .int .i64 4, .bool false] 87)).alloc (.cells #[] 5) = W at HA ⊢
  obtain ⟨_, _, _, x2, x3, x4, _⟩ := box_slice HA.box
  go_region_held3 (fun w' => w'.cell? ⟨w.heap.size, 2, none⟩ = some (.int .i64 id) ∧ w'.cell? ⟨w.heap.size, 3, none⟩ = some (.int .i64 root) ∧ w'.cell? ⟨w.heap.size, 4, none⟩ = some (.int .i64 count)) (go_keep)
    (first
      | (refine step_ab rfl _ _ rfl (w.heap.size + 2) v4 _ _ (by simp [Act.eval]) HA5.row a5 4 c5 _ _ _ (by simp [Act.eval]) hB5 (by first | (simp; done) | (simp [numB_len]; done)) (by have := HA5.lt; omega) ?_; intro v6 w6 hO6 hg6; have HA6 := HA5.grown hO6 hg6; obtain ⟨_, _, _, y2, y3, y4, _⟩ := box_slice HA6.box)
      | (go_at_call 49; refine (l2Put_any false count hc 4 (by omega) w4).mono ?_; rintro e w5 ⟨a5, c5, rfl, _, hB5, hb5⟩; have HA5 := HA4.call hb5; obtain ⟨_, _, _, y2, y3, y4, _⟩ := box_slice HA5.box)
      | (refine step_ab rfl _ _ rfl (w.heap.size + 2) v2 _ _ (by simp [Act.eval]) HA3.row a3 4 c3 _ _ _ (by simp [Act.eval]) hB3 (by first | (simp; done) | (simp [numB_len]; done)) (by have := HA3.lt; omega) ?_; intro v4 w4 hO4 hg4; have HA4 := HA3.grown hO4 hg4; obtain ⟨_, _, _, y2, y3, y4, _⟩ := box_slice HA4.box)
      | (go_at_call 49; refine (l2Put_any false root hr 4 (by omega) w2).mono ?_; rintro e w3 ⟨a3, c3, rfl, _, hB3, hb3⟩; have HA3 := HA2.call hb3; obtain ⟨_, _, _, y2, y3, y4, _⟩ := box_slice HA3.box)
      | (refine step_ab rfl _ _ rfl (w.heap.size + 2) _ _ [] (by simp [Act.eval]) HA1.row a1 4 c1 _ _ _ (by simp [Act.eval]) hB1 (by first | (simp; done) | (simp [numB_len]; done)) (by have := HA1.lt; omega) ?_; intro v2 w2 hO2 hg2; have HA2 := HA1.grown hO2 hg2; obtain ⟨_, _, _, y2, y3, y4, _⟩ := box_slice HA2.box)
      | (go_at_call 49; refine (l2Put_any false id hi 4 (by omega) W.drew).mono ?_; rintro e w1 ⟨a1, c1, rfl, _, hB1, hb1⟩; have HA1 := HA.drew.call hb1; obtain ⟨_, _, _, y2, y3, y4, _⟩ := box_slice HA1.box))
  have e : ([] ++ numB false 4 id ++ numB false 4 root ++ numB false 4 count) = leB 4 id ++ leB 4 root ++ leB 4 count := rfl
  rw [e] at HA6
  have el : (leB 4 id ++ leB 4 root ++ leB 4 count).length = 12 := by simp [leB_len]
  generalize hl : leB 4 id ++ leB 4 root ++ leB 4 count = l at HA6 el ⊢
  have HLL : Hid (leB 4 id ++ leB 4 root ++ leB 4 count = l) := hl
  clear hl
  clear HA HA1 HA2 HA3 HA4 HA5 hB1 hB3 hB5 hb1 hb3 hb5 hO2 hO4 hO6 hg2 hg4 hg6 e
  have hL := bytesAt_lit4 w6 67 79 87 50 (by intro x hx; simp at hx; omega)
  have HA7 := HA6.alloc (.cells #[.int .u8 67, .int .u8 79, .int .u8 87, .int .u8 50] 5)
  have hN := HA6.lt
  go_wp2_with (at_builtin; refine wpList_ab rfl _ _ rfl (w.heap.size + 2) v6 _ l rfl HA7.row _ 4 4 _ _ _ rfl hL (by omega) (by simp; omega) ?_; intro v8 w8 hO8 hg8)
  have HA8 := HA7.grown hO8 hg8
  go_ret
  refine ⟨_, rfl, ?_, HA8.bel⟩
  have h := owns_base HA8.row (base' := w.heap.size) (by omega)
  rw [List.length_append, el] at h
  rw [HLL.out]
  exact h
end Go.Proofs.Ytpiipnfhinbimac
namespace Go.Proofs.Ytpiipnfhinbimac
open Go.RowKit
set_option linter.unusedVariables false
set_option maxRecDepth 100000

/-- A text with its length ahead. -/
def textB (s : ByteArray) : List Int := (s.size : Int) :: strB s
theorem textB_eq (s : ByteArray) : textB s = [(s.size : Int)] ++ strB s := rfl
theorem u8_in (x : Int) (h : 0 ≤ x ∧ x ≤ 255) : IntKind.u8.wrap x = x := by rw [IntKind.wrap_u8']; omega
theorem BytesAt.grown {w w' : World} {A B : Nat} {a : Option Addr} {n c : Nat} {bs : List Int} {row : Option Nat} (h : BytesAt w A B a n c bs) (hg : w.grownBy w' row) (hB : B ≤ w.heap.size) (hr : ∀ g, row = some g → g < A ∨ B ≤ g) : BytesAt w' A B a n c bs :=
  h.keep fun k h1 h2 => hg.block k (by omega) (fun e => by have := hr k e.symm; omega)

set_option maxHeartbeats 1600000 in
theorem l2WriteBody_over (hi : Bool) (nw : Nat) (hnw : nw ≤ 8) (tx id root count : Int) (ka : Option Addr) (kn kc : Nat) (ea : Option Addr) (en ec : Nat) (next : Int) (hn : I64 next) (data : ByteArray) (hd : data.size ≤ 96) (w : World) :
    Calls Try.prog 52 #[.agg #[.int .i64 4, .int .i64 tx, .int .i64 id, .int .i64 root, .int .i64 count, .slice ka kn kc, .slice ea en ec, .int .i64 next, .string data], .agg #[.bool hi, .int .i64 nw, .bool hi]] w fun e w' => ∃ v n, e = .returned v ∧ w'.ownsRow w.heap.size 5 1 v n (u8s (numB hi nw next ++ textB data)) ∧ Below w.heap.size w w' := by
  have HA := acc_start w (.cells #[.int .i64 4, .int .i64 tx, .int .i64 id, .int .i64 root, .int .i64 count, .slice ka kn kc, .slice ea en ec, .int .i64 next, .string data] 35) (.cells #[.bool hi, .int .i64 nw, .bool hi] 87)
  go_enter Try.func52, Try.ntmps52
  go_wp2_with fail
  generalize ((w.alloc (.cells #[.int .i64 4, .int .i64 tx, .int .i64 id, .int .i64 root, .int .i64 count, .slice ka kn kc, .slice ea en ec, .int .i64 next, .string data] 35)).alloc (.cells #[.bool hi, .int .i64 nw, .bool hi] 87)).alloc (.cells #[] 5) = W at HA ⊢
  obtain ⟨_, _, _, _, _, _, x7, x8, _⟩ := box_slice HA.box
  obtain ⟨f0, f1, _⟩ := box_form HA.box2
  have hwr := u8_in (data.size : Int) (by omega)
  go_region_held3 (fun w' => w'.cell? ⟨w.heap.size, 7, none⟩ = some (.int .i64 next) ∧ w'.cell? ⟨w.heap.size, 8, none⟩ = some (.string data) ∧ w'.cell? ⟨w.heap.size + 1, 0, none⟩ = some (.bool hi) ∧ w'.cell? ⟨w.heap.size + 1, 1, none⟩ = some (.int .i64 nw)) (go_keep)
    (first
      | (refine step_as rfl _ _ rfl (w.heap.size + 2) v4 _ _ (by simp [Act.eval]) HA4.row data (by simp [Act.eval]) (by simp [numB_len]; omega) (by have := HA4.lt; omega) ?_; intro v6 w6 hO6 hg6; have HA6 := HA4.grown hO6 hg6; obtain ⟨_, _, _, _, _, _, y7, y8, _⟩ := box_slice HA6.box; obtain ⟨g0, g1, _⟩ := box_form HA6.box2)
      | (refine step_ab rfl _ _ rfl (w.heap.size + 2) v2 _ _ (by simp [Act.eval]) HA3.row _ 1 1 _ _ _ (by simp [Act.eval]) hB3 (by simp [numB_len]; omega) (by have := HA3.lt; omega) ?_; intro v4 w4 hO4 hg4; have HA4 := HA3.grown hO4 hg4; obtain ⟨_, _, _, _, _, _, y7, y8, _⟩ := box_slice HA4.box; obtain ⟨g0, g1, _⟩ := box_form HA4.box2)
      | (refine step_ab rfl _ _ rfl (w.heap.size + 2) _ _ [] (by simp [Act.eval]) HA1c.row a1 nw c1 _ _ _ (by simp [Act.eval]) hB1 (by simp; omega) (by have := HA1c.lt; omega) ?_; intro v2 w2 hO2 hg2; have HA3 := HA1c.grown hO2 hg2; have hB3 := hBc.grown hg2 (Nat.le_trans (Nat.le_of_eq (by simp)) hb1.size) (fun g e => .inl (HA.drew.own.lt g e).2); obtain ⟨_, _, _, _, _, _, y7, y8, _⟩ := box_slice HA3.box; obtain ⟨g0, g1, _⟩ := box_form HA3.box2)
      | (refine step_ab rfl _ _ rfl (w.heap.size + 2) _ _ [] (by simp [Act.eval]) HA1.row a1 nw c1 _ _ _ (by simp [Act.eval]) hB1 (by simp; omega) (by have := HA1.lt; omega) ?_; intro v2 w2 hO2 hg2; have HA2 := HA1.grown hO2 hg2; have HA3 := HA2.alloc (.cells #[.int .u8 (data.size : Int)] 5); have hB3 := bytesAt_one w2 (data.size : Int) (by omega); obtain ⟨_, _, _, _, _, _, y7, y8, _⟩ := box_slice HA2.box; obtain ⟨g0, g1, _⟩ := box_form HA2.box2)
      | (refine step_ab (w := w1.alloc (.cells #[.int .u8 (data.size : Int)] 5)) rfl _ _ rfl (w.heap.size + 2) _ _ [] (by simp [Act.eval]) (HA1.alloc (.cells #[.int .u8 (data.size : Int)] 5)).row a1 nw c1 _ _ _ (by simp [Act.eval]) (hB1.below ((Below.refl w1.heap.size w1).alloc (Nat.le_refl _) (.cells #[.int .u8 (data.size : Int)] 5))) (by simp; omega) (by have := HA1.lt; simp; omega) ?_; intro v2 w2 hO2 hg2; have HA3 := (HA1.alloc (.cells #[.int .u8 (data.size : Int)] 5)).grown hO2 hg2; have hB3 := (bytesAt_one w1 (data.size : Int) (by omega)).grown hg2 (by simp) (fun g e => by have := (HA1.own.lt g e).2; omega); obtain ⟨_, _, _, _, _, _, y7, y8, _⟩ := box_slice HA3.box; obtain ⟨g0, g1, _⟩ := box_form HA3.box2)
      | (go_at_call 49; refine (l2Put_any hi next hn nw hnw W.drew).mono ?_; rintro e w1 ⟨a1, c1, rfl, _, hB1, hb1⟩; have HA1 := HA.drew.call hb1; obtain ⟨_, _, _, _, _, _, y7, y8, _⟩ := box_slice HA1.box; obtain ⟨g0, g1, _⟩ := box_form HA1.box2)
      | (go_at_call 49; refine (l2Put_any hi next hn nw hnw (W.drew.alloc (.cells #[.int .u8 (data.size : Int)] 5))).mono ?_; rintro e w1 ⟨a1, c1, rfl, _, hB1, hb1⟩; have HA1c := (HA.drew.alloc (.cells #[.int .u8 (data.size : Int)] 5)).call hb1; have hBc := (bytesAt_one W.drew (data.size : Int) (by omega)).below (hb1.mono (by simp)); obtain ⟨_, _, _, _, _, _, y7, y8, _⟩ := box_slice HA1c.box; obtain ⟨g0, g1, _⟩ := box_form HA1c.box2))
  all_goals
    have R : Hid (∃ n, w6.ownsRow w.heap.size 5 1 v6 n (u8s (numB hi nw next ++ textB data))) := by
      have h := owns_base HA6.row (base' := w.heap.size) (by omega)
      rw [textB_eq, ← List.append_assoc]
      exact ⟨_, h⟩
    have RB : Hid (Below w.heap.size w w6) := HA6.bel
    clear HA HA3 HA4 HA6 hB1 hB3 hb1 hO2 hO4 hO6 hg2 hg4 hg6
    go_wp2
    go_ret
    obtain ⟨n, hn⟩ := R.out
    exact ⟨_, n, rfl, hn, RB.out⟩
end Go.Proofs.Ytpiipnfhinbimac
namespace Go.Proofs.Ytpiipnfhinbimac
open Go.RowKit
set_option linter.unusedVariables false
set_option maxRecDepth 100000

def kidB (hi : Bool) (nw i : Nat) (k : PK) : List Int := (if 0 < i then textB k.1 else []) ++ numB hi nw k.2
def kidsB (hi : Bool) (nw : Nat) (ks : List PK) : Nat → List Int
  | 0 => []
  | i + 1 => kidsB hi nw ks i ++ kidB hi nw i (ks.getD i dK)
theorem textB_len (s : ByteArray) : (textB s).length = s.size + 1 := by simp [textB, strB_len]

set_option maxHeartbeats 1600000 in
theorem l2WriteBody_branch (hi : Bool) (nw : Nat) (hnw : nw ≤ 8) (tx id root count : Int) (ka : Option Addr) (n kc : Nat) (ks : List PK) (ea : Option Addr) (en ec : Nat) (next : Int) (data : ByteArray) (w : World) (A B : Nat) (hB : B ≤ w.heap.size) (hK : KidsAt w A B ka n kc ks) (hn : n ≤ 4) (hs : ∀ i, i < n → 0 < i → (ks.getD i dK).1.size ≤ 8) :
    Calls Try.prog 52 #[.agg #[.int .i64 2, .int .i64 tx, .int .i64 id, .int .i64 root, .int .i64 count, .slice ka n kc, .slice ea en ec, .int .i64 next, .string data], .agg #[.bool hi, .int .i64 nw, .bool hi]] w fun e w' => ∃ v m, e = .returned v ∧ w'.ownsRow w.heap.size 5 1 v m (u8s (kidsB hi nw ks n)) ∧ Below w.heap.size w w' := by
  have HA := acc_start w (.cells #[.int .i64 2, .int .i64 tx, .int .i64 id, .int .i64 root, .int .i64 count, .slice ka n kc, .slice ea en ec, .int .i64 next, .string data] 35) (.cells #[.bool hi, .int .i64 nw, .bool hi] 87)
  go_enter Try.func52, Try.ntmps52
  go_wp2_with fail
  generalize ((w.alloc (.cells #[.int .i64 2, .int .i64 tx, .int .i64 id, .int .i64 root, .int .i64 count, .slice ka n kc, .slice ea en ec, .int .i64 next, .string data] 35)).alloc (.cells #[.bool hi, .int .i64 nw, .bool hi] 87)).alloc (.cells #[] 5) = W at HA ⊢
  go_loopw [5, 6] (fun v i wr => ∃ k : Nat, k ≤ n ∧ i = .int .i64 k ∧ Hid (Acc w w.heap.size (.cells #[.int .i64 2, .int .i64 tx, .int .i64 id, .int .i64 root, .int .i64 count, .slice ka n kc, .slice ea en ec, .int .i64 next, .string data] 35) (.cells #[.bool hi, .int .i64 nw, .bool hi] 87) wr v (kidsB hi nw ks k)) ∧ Hid ((kidsB hi nw ks k).length ≤ 20 * k)) (fun _ i _ => n - (intOf i).toNat)
  case atStart => exact ⟨0, Nat.zero_le _, rfl, HA, Nat.le_refl _⟩
  case round =>
    clear HA
    obtain ⟨k, hk, rfl, HA, HLen⟩ := hrel
    obtain ⟨x5, _⟩ := box_slice HA.out.box
    by_cases hlt : k < n
    · obtain ⟨b, off, rfl, hb, hfk, e0, e1⟩ := KidsAt.at hK (i := k) hlt
      have hs' := hs k hlt
      have HK : Hid (kidsB hi nw ks (k + 1) = kidsB hi nw ks k ++ kidB hi nw k (ks.getD k dK)) := rfl
      generalize ks.getD k dK = kd at e0 e1 hfk hs' HK
      have E0 : Hid (w.cell? ⟨b, off + k * 2, none⟩ = some (.string kd.1)) := e0
      have E1 : Hid (w.cell? ⟨b, off + k * 2 + 1, none⟩ = some (.int .i64 kd.2)) := e1
      have hpg : I64 kd.2 := hfk.2
      generalize kidsB hi nw ks k = l at HA HLen HK
      have hl := HLen.out
      have hbn : b < w.heap.size := by omega
      have q0 := (HA.out.cell hbn).trans E0.out
      have q1 := (HA.out.cell hbn).trans E1.out
      clear e0 e1
      clear hK hs
      have hN := HA.out.lt
      obtain ⟨f0, f1, _⟩ := box_form HA.out.box2
      by_cases h0 : 0 < k
      · have hsz := hs' h0
        have hwr := u8_in (kd.1.size : Int) (by omega)
        have s4 : decide ((0 : Int) < (k : Int)) = true := by simp; omega
        clear hs'
        go_wp2_with fail
        have HA1 := HA.out.drew.alloc (.cells #[.int .u8 (kd.1.size : Int)] 5)
        have hB1 := bytesAt_one wr.drew (kd.1.size : Int) (by omega)
        go_region_held3 (fun w' => w'.cell? ⟨w.heap.size, 5, none⟩ = some (.slice (some ⟨b, off, none⟩) n kc) ∧ w'.cell? ⟨b, off + k * 2, none⟩ = some (.string kd.1) ∧ w'.cell? ⟨b, off + k * 2 + 1, none⟩ = some (.int .i64 kd.2) ∧ w'.cell? ⟨w.heap.size + 1, 0, none⟩ = some (.bool hi) ∧ w'.cell? ⟨w.heap.size + 1, 1, none⟩ = some (.int .i64 nw)) (go_keep)
          (first
            | (refine step_as rfl _ _ rfl (w.heap.size + 2) v2 _ _ (by simp [Act.eval]) HA2.row kd.1 (by simp [Act.eval]) (by simp; omega) (by have := HA2.lt; omega) ?_; intro v4 w4 hO4 hg4; have HA4 := HA2.grown hO4 hg4; obtain ⟨y5, _⟩ := box_slice HA4.box; obtain ⟨g0, g1, _⟩ := box_form HA4.box2; have r0 := (HA4.cell hbn).trans E0.out; have r1 := (HA4.cell hbn).trans E1.out)
            | (refine step_ab rfl _ _ rfl (w.heap.size + 2) u5 _ l (by simp [Act.eval]) HA1.row _ 1 1 _ _ _ (by simp [Act.eval]) hB1 (by omega) HA1.lt ?_; intro v2 w2 hO2 hg2; have HA2 := HA1.grown hO2 hg2; obtain ⟨y5, _⟩ := box_slice HA2.box; obtain ⟨g0, g1, _⟩ := box_form HA2.box2; have r0 := (HA2.cell hbn).trans E0.out; have r1 := (HA2.cell hbn).trans E1.out))
        clear HA1 HA2 hB1 hO2 hg2 hO4 hg4
        go_wp2_with fail
        go_region_held3 (fun w' => w'.cell? ⟨w.heap.size, 5, none⟩ = some (.slice (some ⟨b, off, none⟩) n kc) ∧ w'.cell? ⟨b, off + k * 2, none⟩ = some (.string kd.1) ∧ w'.cell? ⟨b, off + k * 2 + 1, none⟩ = some (.int .i64 kd.2) ∧ w'.cell? ⟨w.heap.size + 1, 0, none⟩ = some (.bool hi) ∧ w'.cell? ⟨w.heap.size + 1, 1, none⟩ = some (.int .i64 nw)) (go_keep)
          (first
            | (refine step_ab rfl _ _ rfl (w.heap.size + 2) v4 _ _ (by simp [Act.eval]) HA5.row a5 nw c5 _ _ _ (by simp [Act.eval]) hB5 (by simp [strB_len]; omega) HA5.lt ?_; intro v6 w6 hO6 hg6; have HA6 := HA5.grown hO6 hg6; obtain ⟨y5, _⟩ := box_slice HA6.box; obtain ⟨g0, g1, _⟩ := box_form HA6.box2; have r0 := (HA6.cell hbn).trans E0.out; have r1 := (HA6.cell hbn).trans E1.out)
            | (go_at_call 49; refine (l2Put_any hi kd.2 hpg nw hnw w4.drew).mono ?_; rintro e w5 ⟨a5, c5, rfl, _, hB5, hb5⟩; have HA5 := HA4.drew.call hb5; obtain ⟨y5, _⟩ := box_slice HA5.box; obtain ⟨g0, g1, _⟩ := box_form HA5.box2; have r0 := (HA5.cell hbn).trans E0.out; have r1 := (HA5.cell hbn).trans E1.out))
        have R : Hid (Acc w w.heap.size (.cells #[.int .i64 2, .int .i64 tx, .int .i64 id, .int .i64 root, .int .i64 count, .slice (some ⟨b, off, none⟩) n kc, .slice ea en ec, .int .i64 next, .string data] 35) (.cells #[.bool hi, .int .i64 nw, .bool hi] 87) w6 v6 (kidsB hi nw ks (k + 1))) := by
          rw [show kidsB hi nw ks (k + 1) = _ from HK.out, kidB, if_pos h0, textB_eq, ← List.append_assoc, ← List.append_assoc]
          exact HA6
        have RL : Hid ((kidsB hi nw ks (k + 1)).length ≤ 20 * (k + 1)) := by
          show _ ≤ _
          rw [HK.out, kidB]
          simp [numB_len]
          split <;> simp [textB_len] <;> omega
        clear HA5 HA6 hB5 hb5 hO6 hg6
        go_wp2
        go_roundw
        case rel => exact ⟨k + 1, by omega, by go_num, R, RL⟩
        case measure => simp [intOf]; omega
      · have s4 : decide ((0 : Int) < (k : Int)) = false := by simp; omega
        clear hs'
        go_wp2_with fail
        go_region_held3 (fun w' => w'.cell? ⟨w.heap.size, 5, none⟩ = some (.slice (some ⟨b, off, none⟩) n kc) ∧ w'.cell? ⟨b, off + k * 2, none⟩ = some (.string kd.1) ∧ w'.cell? ⟨b, off + k * 2 + 1, none⟩ = some (.int .i64 kd.2) ∧ w'.cell? ⟨w.heap.size + 1, 0, none⟩ = some (.bool hi) ∧ w'.cell? ⟨w.heap.size + 1, 1, none⟩ = some (.int .i64 nw)) (go_keep)
          (first
            | (refine step_ab rfl _ _ rfl (w.heap.size + 2) u5 _ _ (by simp [Act.eval]) HA5.row a5 nw c5 _ _ _ (by simp [Act.eval]) hB5 (by omega) HA5.lt ?_; intro v6 w6 hO6 hg6; have HA6 := HA5.grown hO6 hg6; obtain ⟨y5, _⟩ := box_slice HA6.box; obtain ⟨g0, g1, _⟩ := box_form HA6.box2; have r0 := (HA6.cell hbn).trans E0.out; have r1 := (HA6.cell hbn).trans E1.out)
            | (go_at_call 49; refine (l2Put_any hi kd.2 hpg nw hnw wr.drew).mono ?_; rintro e w5 ⟨a5, c5, rfl, _, hB5, hb5⟩; have HA5 := HA.out.drew.call hb5; obtain ⟨y5, _⟩ := box_slice HA5.box; obtain ⟨g0, g1, _⟩ := box_form HA5.box2; have r0 := (HA5.cell hbn).trans E0.out; have r1 := (HA5.cell hbn).trans E1.out))
        have R : Hid (Acc w w.heap.size (.cells #[.int .i64 2, .int .i64 tx, .int .i64 id, .int .i64 root, .int .i64 count, .slice (some ⟨b, off, none⟩) n kc, .slice ea en ec, .int .i64 next, .string data] 35) (.cells #[.bool hi, .int .i64 nw, .bool hi] 87) w6 v6 (kidsB hi nw ks (k + 1))) := by
          rw [show kidsB hi nw ks (k + 1) = _ from HK.out, kidB, if_neg h0, List.nil_append]
          exact HA6
        have RL : Hid ((kidsB hi nw ks (k + 1)).length ≤ 20 * (k + 1)) := by
          show _ ≤ _
          rw [HK.out, kidB]
          simp [numB_len]
          split <;> simp [textB_len] <;> omega
        clear HA5 HA6 hB5 hb5 hO6 hg6
        go_wp2
        go_roundw
        case rel => exact ⟨k + 1, by omega, by go_num, R, RL⟩
        case measure => simp [intOf]; omega
    · go_wp2
      go_ret
      obtain rfl : k = n := by omega
      exact ⟨_, _, rfl, owns_base HA.out.row (by omega), HA.out.bel⟩
end Go.Proofs.Ytpiipnfhinbimac
