import Derived.Test.YtcmhobbpeaeebaaWrLN
import Derived.Test.YtcmhobbpeaeebaaVl
import Derived.Test.YtcmhobbpeaeebaaSm
import Derived.Test.YtcmhobbpeaeebaaBo
import Derived.Test.YtcmhobbpeaeebaaPgN
namespace Go.Proofs.Ytcmhobbpeaeebaa
namespace New
open Go.RowKit
set_option linter.unusedVariables false
set_option maxRecDepth 100000

theorem newPages_any (w : World) : Calls Try.prog 61 #[] w fun e w' => e = .returned (.agg #[.int .i64 2, .int .i64 999]) ∧ Below w.heap.size w w' := by
  go_enter Try.func61, Try.ntmps61
  go_wp2
  exact bodyPost_ret (v := .agg #[.int .i64 2, .int .i64 999]) (by simp [results, Try.results61, go_sem]) rfl ⟨rfl, by first | exact Below.refl _ _ | exact (Below.refl _ _).alloc (Nat.le_refl _) _⟩
set_option maxHeartbeats 400000 in
theorem isStamp_any (x : Int) (w : World) : Calls Try.prog 60 #[.int .i64 x] w fun e w' => e = .returned (.bool (inB 1 2000000000 x)) ∧ w' = w := by
  by_cases h1 : 1 ≤ x
  · go_enter Try.func60, Try.ntmps60
    go_wp2
    go_ret
    exact ⟨by simp [inB, h1], rfl⟩
  · have hd : decide (1 ≤ x) = false := by simp; omega
    go_enter Try.func60, Try.ntmps60
    go_wp2
    go_ret
    exact ⟨by simp [inB]; omega, rfl⟩
theorem newCursor_any (G : Nat) (L : List Int) (hl : L.length = 128) (w : World) (hr : w.ownsRow 0 5 1 (.slice (some ⟨G, 0, none⟩) 128 128) 128 (u8s L)) :
    Calls Try.prog 46 #[.slice (some ⟨G, 0, none⟩) 128 128] w fun e w' => e = .returned (.pointer (some ⟨w.heap.size, 0, none⟩)) ∧ Cur w' w.heap.size G false 79 80 0 L ∧ Below w.heap.size w w' := by
  go_enter Try.func46, Try.ntmps46
  go_wp2
  go_ret
  exact ⟨rfl, ⟨heap_alloc_new w _, hr.alloc _, hl⟩, (Below.refl _ _).alloc (Nat.le_refl _) _⟩
theorem implCrc0 (a : Option Addr) (n cc : Nat) (bs : List Int) (w : World) (A B : Nat) (h : BytesAt w A B a n cc bs) :
    Calls Try.prog 62 #[.int .u32 0, .slice a n cc] w fun e w' => e = .returned (.int .u32 (crcOf bs)) ∧ w' = w := implCrc_any 0 (by omega) a n cc bs w A B h

theorem lay_zero {n : Nat} {bs : List Int} (h : bs.length ≤ n) : lay (List.replicate n 0) 0 bs = padB n bs := by
  simp [lay, padB]
theorem pad_take {bs : List Int} (h : bs.length ≤ 120) : (padB 128 bs).take 120 = padB 120 bs := by
  unfold padB
  rw [List.take_append, List.take_of_length_le h, List.take_replicate]
  congr 2
  omega
theorem pad_lay {bs s : List Int} (h : bs.length ≤ 120) (hs : s.length = 8) : lay (padB 128 bs) 120 s = padB 120 bs ++ s := by
  have hl : (padB 128 bs).length = 128 := by simp [padB]; omega
  unfold lay
  rw [pad_take h, List.drop_eq_nil_of_le (by simp [hl, hs])]
  simp
theorem padB_len {n : Nat} {bs : List Int} (h : bs.length ≤ n) : (padB n bs).length = n := by simp [padB]; omega
theorem padB_byte {n : Nat} {bs : List Int} (h : ∀ x ∈ bs, 0 ≤ x ∧ x ≤ 255) : ∀ x ∈ padB n bs, 0 ≤ x ∧ x ≤ 255 := bytes_app h (by intro x hx; have := List.eq_of_mem_replicate hx; omega)
theorem owns_raise {w : World} {e size G n c N : Nat} {xs : List Value} (h : w.ownsRow 0 e size (.slice (some ⟨G, 0, none⟩) n c) n xs) (hN : N ≤ G) : w.ownsRow N e size (.slice (some ⟨G, 0, none⟩) n c) n xs := by
  refine ⟨h.1, ?_⟩
  rcases h.2 with ⟨h0, _⟩ | ⟨g, cap, cur, h0, _, rest⟩
  · cases h0
  · injection h0 with h1 _ h4
    injection h1 with h2
    injection h2 with h3
    subst h3 h4
    exact .inr ⟨G, c, cur, rfl, hN, rest⟩
/-- The head and the body of a new page's code. -/
def headN (tx k c : Int) (b : List Int) : List Int := leB 4 tx ++ [k] ++ [c] ++ [0, 0] ++ b
theorem headN_eq (tx k c : Int) (b : List Int) : headN tx k c b = leB 4 tx ++ [k, c, 0, 0] ++ b := by simp [headN]
theorem bytes120 {w : World} {C G k pf gf : Nat} {old : Bool} {L : List Int} (h : Cur w C G old pf gf k L) (hb : ∀ x ∈ L, 0 ≤ x ∧ x ≤ 255) : BytesAt w 0 w.heap.size (some ⟨G, 0, none⟩) 120 128 (L.take 120) := by
  have hl := h.len
  refine ⟨by simp [hl], by omega, by unfold maxLen; omega, fun x hx => hb x (List.mem_of_mem_take hx), fun _ => ⟨G, 0, rfl, ⟨Nat.zero_le _, (h.row.lt G rfl).2⟩, fun i hi => ?_⟩, fun h => by cases h⟩
  rw [Nat.zero_add, h.row.cellAt i (by omega)]
  simp [u8s, List.getD, hi, hl, show i < 128 by omega]
theorem Wrote.start {w w2 : World} {C G pf gf : Nat} {old : Bool} {L bs : List Int} (hV : Wrote w.drew w2 C G old pf gf 0 L bs) : Wrote w w2 C G old pf gf 0 L bs :=
  ⟨hV.1, (Fr.of_below (Below.refl _ _).drew).trans hV.2⟩
theorem Wrote.redraw {w w2 : World} {C G k pf gf : Nat} {old : Bool} {L bs : List Int} (hV : Wrote w.drew w2 C G old pf gf k L bs) : Wrote w w2 C G old pf gf k L bs :=
  ⟨hV.1, (Fr.of_below (Below.refl _ _).drew).trans hV.2⟩
theorem num2_zero : numB false 2 0 = [0, 0] := by decide
theorem made128 : (madeCells (Value.int .u8 0).cells (128 * 1)).toList = u8s (List.replicate 128 0) := by kernel_rfl
theorem ahead_meta_valid (a : Addr) (w : World) : (nilAhead 264 134 (.pointer (some a)) "loop.example/s02098/impl.valid").run Try.prog w = .ok (some false) w := by kernel_rfl
theorem ahead_meta_count (a : Addr) (w : World) : (nilAhead 264 134 (.pointer (some a)) "loop.example/s02098/impl.count").run Try.prog w = .ok (some false) w := by kernel_rfl
theorem ahead_meta_write (a : Addr) (w : World) : (nilAhead 264 134 (.pointer (some a)) "loop.example/s02098/impl.write").run Try.prog w = .ok (some false) w := by kernel_rfl
theorem ahead_branch_valid (a : Addr) (w : World) : (nilAhead 264 137 (.pointer (some a)) "loop.example/s02098/impl.valid").run Try.prog w = .ok (some false) w := by kernel_rfl
theorem ahead_branch_count (a : Addr) (w : World) : (nilAhead 264 137 (.pointer (some a)) "loop.example/s02098/impl.count").run Try.prog w = .ok (some false) w := by kernel_rfl
theorem ahead_branch_write (a : Addr) (w : World) : (nilAhead 264 137 (.pointer (some a)) "loop.example/s02098/impl.write").run Try.prog w = .ok (some false) w := by kernel_rfl
theorem ahead_leaf_valid (a : Addr) (w : World) : (nilAhead 264 140 (.pointer (some a)) "loop.example/s02098/impl.valid").run Try.prog w = .ok (some false) w := by kernel_rfl
theorem ahead_leaf_count (a : Addr) (w : World) : (nilAhead 264 140 (.pointer (some a)) "loop.example/s02098/impl.count").run Try.prog w = .ok (some false) w := by kernel_rfl
theorem ahead_leaf_write (a : Addr) (w : World) : (nilAhead 264 140 (.pointer (some a)) "loop.example/s02098/impl.write").run Try.prog w = .ok (some false) w := by kernel_rfl
theorem ahead_over_valid (a : Addr) (w : World) : (nilAhead 264 143 (.pointer (some a)) "loop.example/s02098/impl.valid").run Try.prog w = .ok (some false) w := by kernel_rfl
theorem ahead_over_count (a : Addr) (w : World) : (nilAhead 264 143 (.pointer (some a)) "loop.example/s02098/impl.count").run Try.prog w = .ok (some false) w := by kernel_rfl
theorem ahead_over_write (a : Addr) (w : World) : (nilAhead 264 143 (.pointer (some a)) "loop.example/s02098/impl.write").run Try.prog w = .ok (some false) w := by kernel_rfl
end New
end Go.Proofs.Ytcmhobbpeaeebaa
