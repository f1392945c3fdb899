import Derived.Test.YtcmhobbpeaeebaaGAJ
import Derived.Test.YtcmhobbpeaeebaaGAK
import Derived.Test.YtcmhobbpeaeebaaGAM
namespace Go.Proofs.Ytcmhobbpeaeebaa
namespace Old
open Go.RowKit
set_option linter.unusedVariables false
set_option maxRecDepth 100000

theorem lay_drop {L : List Int} {k m : Nat} {bs : List Int} (h : k + bs.length ≤ L.length) : (lay L k bs).drop (k + bs.length + m) = L.drop (k + bs.length + m) := by
  unfold lay
  have h1 : (L.take k ++ bs).length = k + bs.length := by simp; omega
  rw [List.drop_append, h1, List.drop_eq_nil_of_le (by rw [h1]; omega), List.nil_append, List.drop_drop]
  congr 1
  omega
theorem zeros_at {L : List Int} {k j z : Nat} (hl : L.length = 128) (hZ : L.drop k = List.replicate (128 - k) 0) (hj : k ≤ j) (hz : j + z ≤ 128) : (L.drop j).take z = List.replicate z 0 := by
  have : L.drop j = List.replicate (128 - j) 0 := by
    rw [show j = k + (j - k) by omega, ← List.drop_drop, hZ, List.drop_replicate]
    congr 1
    omega
  rw [this, List.take_replicate, Nat.min_eq_left (by omega)]
theorem entsB_len' (hi : Bool) (es : List PE) (n : Nat) (hs : ∀ i, i < n → (es.getD i dE).1.size ≤ 8 ∧ (es.getD i dE).2.1.size ≤ 8) : (entsB hi (smallN hi) es n).length ≤ n * 19 := entsB_len hi (smallN hi) es (smallN_le hi) n hs

set_option maxHeartbeats 1600000 in
theorem leafWrite_any (C G k M : Nat) (L : List Int) (ea : Option Addr) (n ec : Nat) (es : List PE) (w : World) (A B : Nat) (h : Cur w C G true 85 86 k L) (hZ : L.drop k = List.replicate (128 - k) 0) (hk : k ≤ 8) (hM : w.heap[M]? = some (.cells #[.slice ea n ec] 142)) (h1 : M ≠ C) (h2 : M ≠ G) (hE : EntsAt w A B ea n ec es) (hB : B ≤ w.heap.size) (hC : B ≤ C) (hG : B ≤ G) (hn : n ≤ 4) (hs : ∀ i, i < n → (es.getD i dE).1.size ≤ 8 ∧ (es.getD i dE).2.1.size ≤ 8) :
    Calls Try.prog 138 #[.pointer (some ⟨M, 0, none⟩), .pointer (some ⟨C, 0, none⟩)] w fun e w' => e = .returned (.tuple #[]) ∧ Wrote w w' C G true 85 86 k L (entsB true (smallN true) es n) := by
  have m0 : w.cell? ⟨M, 0, none⟩ = some (.slice ea n ec) := by simp [World.cell?, hM]
  have hl := h.len
  go_enter Try.func138, Try.ntmps138
  go_wp2_with fail
  go_loopw [11] (fun iv wr => ∃ i : Nat, i ≤ n ∧ iv = .int .i64 i ∧ Hid (Wrote w wr C G true 85 86 k L (entsB true (smallN true) es i))) (fun iv _ => n - (intOf iv).toNat)
  case atStart => exact ⟨0, Nat.zero_le _, rfl, wrote_nil h⟩
  case round =>
    obtain ⟨i, hi, rfl, HW⟩ := hrel
    by_cases hlt : i < n
    · obtain ⟨b, off, rfl, hb, hfit, q0, q1, q2, q3⟩ := EntsAt.at (hE.fr HW.out.2 hB (fun g e => by rcases e with e | e <;> omega)) hlt
      have hs' := hs i hlt
      have hlen := entsB_len' true es i (fun j h1 => hs j (by omega))
      have HK : Hid (entsB true (smallN true) es (i + 1) = entsB true (smallN true) es i ++ entB true (smallN true) (es.getD i dE)) := rfl
      generalize es.getD i dE = kd at q0 q1 q2 q3 hfit hs' HK
      generalize entsB true (smallN true) es i = l at HW HK hlen
      have hv1 : I64 kd.2.2.1 := hfit.2.2.1
      have hv2 : I64 kd.2.2.2 := hfit.2.2.2
      obtain ⟨hCl, hGl⟩ := Wrote.lt HW.out
      have HW0 := Wrote.call HW.out ((Below.refl _ wr).alloc (Nat.le_refl _) (.cells #[.string kd.1, .string kd.2.1, .int .i64 kd.2.2.1, .int .i64 kd.2.2.2] 102))
      have HE0 : (wr.alloc (.cells #[.string kd.1, .string kd.2.1, .int .i64 kd.2.2.1, .int .i64 kd.2.2.2] 102)).heap[wr.heap.size]? = some (.cells #[.string kd.1, .string kd.2.1, .int .i64 kd.2.2.1, .int .i64 kd.2.2.2] 102) := heap_alloc_new wr _
      have hnC : wr.heap.size ≠ C := by omega
      have hnG : wr.heap.size ≠ G := by omega
      have hz : ((lay L k l).drop (k + l.length + (kd.1.size + 1))).take (8 - kd.1.size) = List.replicate (8 - kd.1.size) 0 := by
        rw [lay_drop (by omega)]
        exact zeros_at hl hZ (by omega) (by omega)
      clear hE hs
      go_wp2_with fail
      generalize wr.alloc (.cells #[.string kd.1, .string kd.2.1, .int .i64 kd.2.2.1, .int .i64 kd.2.2.2] 102) = W0 at HW0 HE0 ⊢
      generalize wr.heap.size = E at HE0 hnC hnG ⊢
      refine (putKey_any C G (k + l.length) _ kd.1 W0 HW0.1 hs'.1 (by omega) hz).mono ?_
      rintro e w1 ⟨rfl, hV1⟩
      have HE1 := wrote_box hV1 HE0 hnC hnG
      obtain ⟨r0, r1, r2, r3⟩ := box_four HE1
      have HW1 := HW0.trans (by omega) hV1
      have hlk : (textB kd.1 ++ (if true then List.replicate (8 - kd.1.size) 0 else [])).length ≤ 9 := by simp [textB_len]; omega
      have HK1 : Hid (entsB true (smallN true) es (i + 1) = (l ++ (textB kd.1 ++ (if true then List.replicate (8 - kd.1.size) 0 else []))) ++ (if kd.2.2.1 = 0 then 0 :: textB kd.2.1 else 1 :: (numB true (smallN true) kd.2.2.1 ++ numB true (smallN true) kd.2.2.2))) := by
        show _ = _
        rw [HK.out, entB]
        simp only [List.append_assoc]
      have hl1 : (l ++ (textB kd.1 ++ (if true then List.replicate (8 - kd.1.size) 0 else []))).length ≤ i * 19 + 9 := by rw [List.length_append]; omega
      generalize l ++ (textB kd.1 ++ (if true then List.replicate (8 - kd.1.size) 0 else [])) = l1 at HW1 HK1 hl1
      obtain ⟨_, _, _, e3, _⟩ := HW1.1.cells
      clear HK hz hlk hV1 HW0 HE0 HW
      by_cases ho : kd.2.2.1 = 0
      · have so : (kd.2.2.1 == 0) = true := by simpa using ho
        have HO : Hid (kd.2.2.1 = 0) := ho
        clear ho
        go_wp2_with fail
        refine (Put C G (k + l1.length) _ 0 1 w1 (by unfold I64; omega) (by omega) HW1.1 (by omega)).mono ?_
        rintro e w2 ⟨rfl, hV2⟩
        rw [numB_one _ _ (by omega)] at hV2
        have HE2 := wrote_box hV2 HE1 hnC hnG
        obtain ⟨r0, r1, r2, r3⟩ := box_four HE2
        have HW2 := HW1.trans (by omega) hV2
        have hl2 : (l1 ++ [0]).length ≤ i * 19 + 10 := by simp; omega
        go_wp2_with fail
        refine (putText_any C G (k + (l1 ++ [0]).length) _ kd.2.1 w2 HW2.1 (by omega)).mono ?_
        rintro e w3 ⟨rfl, hV3⟩
        have R : Hid (Wrote w w3 C G true 85 86 k L (entsB true (smallN true) es (i + 1))) := by
          show Wrote _ _ _ _ _ _ _ _ _ _
          rw [HK1.out, if_pos HO.out, show (0 : Int) :: textB kd.2.1 = [0] ++ textB kd.2.1 from rfl, ← List.append_assoc]
          exact HW2.trans (by omega) hV3
        clear HW1 HW2 hV2 hV3 HE1 HE2
        go_wp2
        go_roundw
        case rel => exact ⟨i + 1, by omega, by go_num, R⟩
        case measure => simp [intOf]; omega
      · have so : (kd.2.2.1 == 0) = false := by simpa using ho
        have HO : Hid (¬ kd.2.2.1 = 0) := ho
        clear ho
        go_wp2_with fail
        refine (Put C G (k + l1.length) _ 1 1 w1 (by unfold I64; omega) (by omega) HW1.1 (by omega)).mono ?_
        rintro e w2 ⟨rfl, hV2⟩
        rw [numB_one _ _ (by omega)] at hV2
        have HE2 := wrote_box hV2 HE1 hnC hnG
        obtain ⟨r0, r1, r2, r3⟩ := box_four HE2
        have HW2 := HW1.trans (by omega) hV2
        have hl2 : (l1 ++ [1]).length ≤ i * 19 + 10 := by simp; omega
        go_wp2_with fail
        refine (putSmall_any C G (k + (l1 ++ [1]).length) _ kd.2.2.1 hv1 w2 HW2.1 (by omega)).mono ?_
        rintro e w3 ⟨rfl, hV3⟩
        have HE3 := wrote_box hV3 HE2 hnC hnG
        obtain ⟨r0, r1, r2, r3⟩ := box_four HE3
        have HW3 := HW2.trans (by omega) hV3
        have hl3 : (l1 ++ [1] ++ numB true (smallN true) kd.2.2.1).length ≤ i * 19 + 14 := by have := numB_small true kd.2.2.1; rw [List.length_append]; omega
        go_wp2_with fail
        refine (putSmall_any C G (k + (l1 ++ [1] ++ numB true (smallN true) kd.2.2.1).length) _ kd.2.2.2 hv2 w3 HW3.1 (by omega)).mono ?_
        rintro e w4 ⟨rfl, hV4⟩
        have R : Hid (Wrote w w4 C G true 85 86 k L (entsB true (smallN true) es (i + 1))) := by
          show Wrote _ _ _ _ _ _ _ _ _ _
          rw [HK1.out, if_neg HO.out, show (1 : Int) :: (numB true (smallN true) kd.2.2.1 ++ numB true (smallN true) kd.2.2.2) = [1] ++ (numB true (smallN true) kd.2.2.1 ++ numB true (smallN true) kd.2.2.2) from rfl, ← List.append_assoc, ← List.append_assoc]
          exact HW3.trans (by omega) hV4
        clear HW1 HW2 HW3 hV2 hV3 hV4 HE1 HE2 HE3
        go_wp2
        go_roundw
        case rel => exact ⟨i + 1, by omega, by go_num, R⟩
        case measure => simp [intOf]; omega
    · obtain rfl : i = n := by omega
      go_wp2
      go_end0
      exact ⟨rfl, HW.out⟩
end Old
end Go.Proofs.Ytcmhobbpeaeebaa
namespace Go.Proofs.Ytcmhobbpeaeebaa
namespace Old
open Go.RowKit
set_option linter.unusedVariables false
set_option maxRecDepth 100000

theorem oldPages_any (w : World) : Calls Try.prog 69 #[] w fun e w' => e = .returned (.agg #[.int .i64 1, .int .i64 998]) ∧ Below w.heap.size w w' := by
  go_enter Try.func69, Try.ntmps69
  go_wp2
  exact bodyPost_ret (v := .agg #[.int .i64 1, .int .i64 998]) (by simp [results, Try.results69, go_sem]) rfl ⟨rfl, by first | exact Below.refl _ _ | exact (Below.refl _ _).alloc (Nat.le_refl _) _⟩
theorem oldCursor_any (G : Nat) (L : List Int) (hl : L.length = 128) (w : World) (hr : w.ownsRow 0 5 1 (.slice (some ⟨G, 0, none⟩) 128 128) 128 (u8s L)) :
    Calls Try.prog 51 #[.slice (some ⟨G, 0, none⟩) 128 128] w fun e w' => e = .returned (.pointer (some ⟨w.heap.size, 0, none⟩)) ∧ Cur w' w.heap.size G true 85 86 0 L ∧ Below w.heap.size w w' := by
  go_enter Try.func51, Try.ntmps51
  go_wp2
  go_ret
  exact ⟨rfl, ⟨heap_alloc_new w _, hr.alloc _, hl⟩, (Below.refl _ _).alloc (Nat.le_refl _) _⟩

theorem lay_zero {n : Nat} {bs : List Int} (h : bs.length ≤ n) : lay (List.replicate n 0) 0 bs = padB n bs := by
  simp [lay, padB]
theorem pad_take {bs : List Int} (h : bs.length ≤ 127) : (padB 128 bs).take 127 = padB 127 bs := by
  unfold padB
  rw [List.take_append, List.take_of_length_le h, List.take_replicate]
  congr 2
  omega
theorem pad_lay {bs : List Int} (s : Int) (h : bs.length ≤ 127) : lay (padB 128 bs) 127 [s] = padB 127 bs ++ [s] := by
  have hl : (padB 128 bs).length = 128 := by simp [padB]; omega
  unfold lay
  rw [pad_take h, List.drop_eq_nil_of_le (by simp [hl])]
  simp
theorem padB_len {n : Nat} {bs : List Int} (h : bs.length ≤ n) : (padB n bs).length = n := by simp [padB]; omega
theorem padB_byte {n : Nat} {bs : List Int} (h : ∀ x ∈ bs, 0 ≤ x ∧ x ≤ 255) : ∀ x ∈ padB n bs, 0 ≤ x ∧ x ≤ 255 := bytes_app h (by intro x hx; have := List.eq_of_mem_replicate hx; omega)
theorem be1 (s : Int) : beB 1 s = [s % 256] := rfl
theorem str_O : strB ⟨#[79]⟩ = [79] := by decide
end Old
end Go.Proofs.Ytcmhobbpeaeebaa
namespace Go.Proofs.Ytcmhobbpeaeebaa
namespace Old
open Go.RowKit
set_option linter.unusedVariables false
set_option maxRecDepth 100000

theorem owns_raise {w : World} {e size G n c N : Nat} {xs : List Value} (h : w.ownsRow 0 e size (.slice (some ⟨G, 0, none⟩) n c) n xs) (hN : N ≤ G) : w.ownsRow N e size (.slice (some ⟨G, 0, none⟩) n c) n xs := by
  refine ⟨h.1, ?_⟩
  rcases h.2 with ⟨h0, _⟩ | ⟨g, cap, cur, h0, _, rest⟩
  · cases h0
  · injection h0 with h1 _ h4
    injection h1 with h2
    injection h2 with h3
    subst h3 h4
    exact .inr ⟨G, c, cur, rfl, hN, rest⟩
/-- The head of an old page's code, and the code whole. -/
def headO (k c : Int) (b : List Int) : List Int := [79, k, c] ++ b
def sealO (l : List Int) : List Int := padB 127 l ++ [sumI (padB 127 l) % 256]
theorem bytes127 {w : World} {C G k pf gf : Nat} {old : Bool} {L : List Int} (h : Cur w C G old pf gf k L) (hb : ∀ x ∈ L, 0 ≤ x ∧ x ≤ 255) : BytesAt w 0 w.heap.size (some ⟨G, 0, none⟩) 127 128 (L.take 127) := by
  have hl := h.len
  refine ⟨by simp [hl], by omega, by unfold maxLen; omega, fun x hx => hb x (List.mem_of_mem_take hx), fun _ => ⟨G, 0, rfl, ⟨Nat.zero_le _, (h.row.lt G rfl).2⟩, fun i hi => ?_⟩, fun h => by cases h⟩
  rw [Nat.zero_add, h.row.cellAt i (by omega)]
  simp [u8s, List.getD, hi, hl, show i < 128 by omega]
theorem foldl_sum (l : List Int) (a : Int) : l.foldl (· + ·) a = a + l.foldl (· + ·) 0 := by
  induction l generalizing a with
  | nil => simp
  | cons x r ih => simp only [List.foldl_cons]; rw [ih (a + x), ih (0 + x)]; omega
theorem sum_range {l : List Int} {n : Nat} (hb : ∀ x ∈ l, 0 ≤ x ∧ x ≤ 255) (hl : l.length = n) : 0 ≤ sumI l ∧ sumI l ≤ 255 * n := by
  subst hl
  induction l with
  | nil => simp [sumI]
  | cons x r ih =>
    have h1 := hb x (List.mem_cons_self ..)
    have h2 := ih (fun y hy => hb y (List.mem_cons_of_mem _ hy))
    simp only [sumI, List.foldl_cons, List.length_cons] at h2 ⊢
    rw [foldl_sum]
    omega
theorem made128 : (madeCells (Value.int .u8 0).cells (128 * 1)).toList = u8s (List.replicate 128 0) := by kernel_rfl
theorem ahead_meta_valid (a : Addr) (w : World) : (nilAhead 264 134 (.pointer (some a)) "loop.example/s02098/impl.valid").run Try.prog w = .ok (some false) w := by kernel_rfl
theorem ahead_meta_count (a : Addr) (w : World) : (nilAhead 264 134 (.pointer (some a)) "loop.example/s02098/impl.count").run Try.prog w = .ok (some false) w := by kernel_rfl
theorem ahead_meta_write (a : Addr) (w : World) : (nilAhead 264 134 (.pointer (some a)) "loop.example/s02098/impl.write").run Try.prog w = .ok (some false) w := by kernel_rfl
theorem ahead_branch_valid (a : Addr) (w : World) : (nilAhead 264 137 (.pointer (some a)) "loop.example/s02098/impl.valid").run Try.prog w = .ok (some false) w := by kernel_rfl
theorem ahead_branch_count (a : Addr) (w : World) : (nilAhead 264 137 (.pointer (some a)) "loop.example/s02098/impl.count").run Try.prog w = .ok (some false) w := by kernel_rfl
theorem ahead_branch_write (a : Addr) (w : World) : (nilAhead 264 137 (.pointer (some a)) "loop.example/s02098/impl.write").run Try.prog w = .ok (some false) w := by kernel_rfl
theorem ahead_leaf_valid (a : Addr) (w : World) : (nilAhead 264 140 (.pointer (some a)) "loop.example/s02098/impl.valid").run Try.prog w = .ok (some false) w := by kernel_rfl
theorem ahead_leaf_count (a : Addr) (w : World) : (nilAhead 264 140 (.pointer (some a)) "loop.example/s02098/impl.count").run Try.prog w = .ok (some false) w := by kernel_rfl
theorem ahead_leaf_write (a : Addr) (w : World) : (nilAhead 264 140 (.pointer (some a)) "loop.example/s02098/impl.write").run Try.prog w = .ok (some false) w := by kernel_rfl
theorem ahead_over_valid (a : Addr) (w : World) : (nilAhead 264 143 (.pointer (some a)) "loop.example/s02098/impl.valid").run Try.prog w = .ok (some false) w := by kernel_rfl
theorem ahead_over_count (a : Addr) (w : World) : (nilAhead 264 143 (.pointer (some a)) "loop.example/s02098/impl.count").run Try.prog w = .ok (some false) w := by kernel_rfl
theorem ahead_over_write (a : Addr) (w : World) : (nilAhead 264 143 (.pointer (some a)) "loop.example/s02098/impl.write").run Try.prog w = .ok (some false) w := by kernel_rfl
end Old
end Go.Proofs.Ytcmhobbpeaeebaa
