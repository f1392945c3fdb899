import Derived.Test.YtcmhobbpeaeebaaGAH
namespace Go.Proofs.Ytcmhobbpeaeebaa
open Go.RowKit
set_option linter.unusedVariables false
set_option maxRecDepth 100000

def kidB (hi : Bool) (nw i : Nat) (k : PK) : List Int := (if 0 < i then textB k.1 else []) ++ numB hi nw k.2
def kidsB (hi : Bool) (nw : Nat) (ks : List PK) : Nat → List Int
  | 0 => []
  | i + 1 => kidsB hi nw ks i ++ kidB hi nw i (ks.getD i dK)
theorem textB_len (s : ByteArray) : (textB s).length = s.size + 1 := by simp [textB, strB_len]

set_option maxHeartbeats 1600000 in
theorem l2WriteBody_branch (hi : Bool) (nw : Nat) (hnw : nw ≤ 8) (tx id root count : Int) (ka : Option Addr) (n kc : Nat) (ks : List PK) (ea : Option Addr) (en ec : Nat) (next : Int) (data : ByteArray) (w : World) (A B : Nat) (hB : B ≤ w.heap.size) (hK : KidsAt w A B ka n kc ks) (hn : n ≤ 4) (hs : ∀ i, i < n → 0 < i → (ks.getD i dK).1.size ≤ 8) :
    Calls Try.prog 43 #[.agg #[.int .i64 2, .int .i64 tx, .int .i64 id, .int .i64 root, .int .i64 count, .slice ka n kc, .slice ea en ec, .int .i64 next, .string data], .agg #[.bool hi, .int .i64 nw, .bool hi]] w fun e w' => ∃ v m, e = .returned v ∧ w'.ownsRow w.heap.size 5 1 v m (u8s (kidsB hi nw ks n)) ∧ Below w.heap.size w w' := by
  have HA := acc_start w (.cells #[.int .i64 2, .int .i64 tx, .int .i64 id, .int .i64 root, .int .i64 count, .slice ka n kc, .slice ea en ec, .int .i64 next, .string data] 28) (.cells #[.bool hi, .int .i64 nw, .bool hi] 63)
  go_enter Try.func43, Try.ntmps43
  go_wp2_with fail
  generalize ((w.alloc (.cells #[.int .i64 2, .int .i64 tx, .int .i64 id, .int .i64 root, .int .i64 count, .slice ka n kc, .slice ea en ec, .int .i64 next, .string data] 28)).alloc (.cells #[.bool hi, .int .i64 nw, .bool hi] 63)).alloc (.cells #[] 5) = W at HA ⊢
  go_loopw [5, 6] (fun v i wr => ∃ k : Nat, k ≤ n ∧ i = .int .i64 k ∧ Hid (Acc w w.heap.size (.cells #[.int .i64 2, .int .i64 tx, .int .i64 id, .int .i64 root, .int .i64 count, .slice ka n kc, .slice ea en ec, .int .i64 next, .string data] 28) (.cells #[.bool hi, .int .i64 nw, .bool hi] 63) wr v (kidsB hi nw ks k)) ∧ Hid ((kidsB hi nw ks k).length ≤ 20 * k)) (fun _ i _ => n - (intOf i).toNat)
  case atStart => exact ⟨0, Nat.zero_le _, rfl, HA, Nat.le_refl _⟩
  case round =>
    clear HA
    obtain ⟨k, hk, rfl, HA, HLen⟩ := hrel
    obtain ⟨x5, _⟩ := box_slice HA.out.box
    by_cases hlt : k < n
    · obtain ⟨b, off, rfl, hb, hfk, e0, e1⟩ := KidsAt.at hK (i := k) hlt
      have hs' := hs k hlt
      have HK : Hid (kidsB hi nw ks (k + 1) = kidsB hi nw ks k ++ kidB hi nw k (ks.getD k dK)) := rfl
      generalize ks.getD k dK = kd at e0 e1 hfk hs' HK
      have E0 : Hid (w.cell? ⟨b, off + k * 2, none⟩ = some (.string kd.1)) := e0
      have E1 : Hid (w.cell? ⟨b, off + k * 2 + 1, none⟩ = some (.int .i64 kd.2)) := e1
      have hpg : I64 kd.2 := hfk.2
      generalize kidsB hi nw ks k = l at HA HLen HK
      have hl := HLen.out
      have hbn : b < w.heap.size := by omega
      have q0 := (HA.out.cell hbn).trans E0.out
      have q1 := (HA.out.cell hbn).trans E1.out
      clear e0 e1
      clear hK hs
      have hN := HA.out.lt
      obtain ⟨f0, f1, _⟩ := box_form HA.out.box2
      by_cases h0 : 0 < k
      · have hsz := hs' h0
        have hwr := u8_in (kd.1.size : Int) (by omega)
        have s4 : decide ((0 : Int) < (k : Int)) = true := by simp; omega
        clear hs'
        go_wp2_with fail
        have HA1 := HA.out.drew.alloc (.cells #[.int .u8 (kd.1.size : Int)] 5)
        have hB1 := bytesAt_one wr.drew (kd.1.size : Int) (by omega)
        go_region_held3 (fun w' => w'.cell? ⟨w.heap.size, 5, none⟩ = some (.slice (some ⟨b, off, none⟩) n kc) ∧ w'.cell? ⟨b, off + k * 2, none⟩ = some (.string kd.1) ∧ w'.cell? ⟨b, off + k * 2 + 1, none⟩ = some (.int .i64 kd.2) ∧ w'.cell? ⟨w.heap.size + 1, 0, none⟩ = some (.bool hi) ∧ w'.cell? ⟨w.heap.size + 1, 1, none⟩ = some (.int .i64 nw)) (go_keep)
          (first
            | (refine step_as rfl _ _ rfl (w.heap.size + 2) v2 _ _ (by simp [Act.eval]) HA2.row kd.1 (by simp [Act.eval]) (by simp; omega) (by have := HA2.lt; omega) ?_; intro v4 w4 hO4 hg4; have HA4 := HA2.grown hO4 hg4; obtain ⟨y5, _⟩ := box_slice HA4.box; obtain ⟨g0, g1, _⟩ := box_form HA4.box2; have r0 := (HA4.cell hbn).trans E0.out; have r1 := (HA4.cell hbn).trans E1.out)
            | (refine step_ab rfl _ _ rfl (w.heap.size + 2) u5 _ l (by simp [Act.eval]) HA1.row _ 1 1 _ _ _ (by simp [Act.eval]) hB1 (by omega) HA1.lt ?_; intro v2 w2 hO2 hg2; have HA2 := HA1.grown hO2 hg2; obtain ⟨y5, _⟩ := box_slice HA2.box; obtain ⟨g0, g1, _⟩ := box_form HA2.box2; have r0 := (HA2.cell hbn).trans E0.out; have r1 := (HA2.cell hbn).trans E1.out))
        clear HA1 HA2 hB1 hO2 hg2 hO4 hg4
        go_wp2_with fail
        go_region_held3 (fun w' => w'.cell? ⟨w.heap.size, 5, none⟩ = some (.slice (some ⟨b, off, none⟩) n kc) ∧ w'.cell? ⟨b, off + k * 2, none⟩ = some (.string kd.1) ∧ w'.cell? ⟨b, off + k * 2 + 1, none⟩ = some (.int .i64 kd.2) ∧ w'.cell? ⟨w.heap.size + 1, 0, none⟩ = some (.bool hi) ∧ w'.cell? ⟨w.heap.size + 1, 1, none⟩ = some (.int .i64 nw)) (go_keep)
          (first
            | (refine step_ab rfl _ _ rfl (w.heap.size + 2) v4 _ _ (by simp [Act.eval]) HA5.row a5 nw c5 _ _ _ (by simp [Act.eval]) hB5 (by simp [strB_len]; omega) HA5.lt ?_; intro v6 w6 hO6 hg6; have HA6 := HA5.grown hO6 hg6; obtain ⟨y5, _⟩ := box_slice HA6.box; obtain ⟨g0, g1, _⟩ := box_form HA6.box2; have r0 := (HA6.cell hbn).trans E0.out; have r1 := (HA6.cell hbn).trans E1.out)
            | (go_at_call 40; refine (l2Put_any hi kd.2 hpg nw hnw w4.drew).mono ?_; rintro e w5 ⟨a5, c5, rfl, _, hB5, hb5⟩; have HA5 := HA4.drew.call hb5; obtain ⟨y5, _⟩ := box_slice HA5.box; obtain ⟨g0, g1, _⟩ := box_form HA5.box2; have r0 := (HA5.cell hbn).trans E0.out; have r1 := (HA5.cell hbn).trans E1.out))
        have R : Hid (Acc w w.heap.size (.cells #[.int .i64 2, .int .i64 tx, .int .i64 id, .int .i64 root, .int .i64 count, .slice (some ⟨b, off, none⟩) n kc, .slice ea en ec, .int .i64 next, .string data] 28) (.cells #[.bool hi, .int .i64 nw, .bool hi] 63) w6 v6 (kidsB hi nw ks (k + 1))) := by
          rw [show kidsB hi nw ks (k + 1) = _ from HK.out, kidB, if_pos h0, textB_eq, ← List.append_assoc, ← List.append_assoc]
          exact HA6
        have RL : Hid ((kidsB hi nw ks (k + 1)).length ≤ 20 * (k + 1)) := by
          show _ ≤ _
          rw [HK.out, kidB]
          simp [numB_len]
          split <;> simp [textB_len] <;> omega
        clear HA5 HA6 hB5 hb5 hO6 hg6
        go_wp2
        go_roundw
        case rel => exact ⟨k + 1, by omega, by go_num, R, RL⟩
        case measure => simp [intOf]; omega
      · have s4 : decide ((0 : Int) < (k : Int)) = false := by simp; omega
        clear hs'
        go_wp2_with fail
        go_region_held3 (fun w' => w'.cell? ⟨w.heap.size, 5, none⟩ = some (.slice (some ⟨b, off, none⟩) n kc) ∧ w'.cell? ⟨b, off + k * 2, none⟩ = some (.string kd.1) ∧ w'.cell? ⟨b, off + k * 2 + 1, none⟩ = some (.int .i64 kd.2) ∧ w'.cell? ⟨w.heap.size + 1, 0, none⟩ = some (.bool hi) ∧ w'.cell? ⟨w.heap.size + 1, 1, none⟩ = some (.int .i64 nw)) (go_keep)
          (first
            | (refine step_ab rfl _ _ rfl (w.heap.size + 2) u5 _ _ (by simp [Act.eval]) HA5.row a5 nw c5 _ _ _ (by simp [Act.eval]) hB5 (by omega) HA5.lt ?_; intro v6 w6 hO6 hg6; have HA6 := HA5.grown hO6 hg6; obtain ⟨y5, _⟩ := box_slice HA6.box; obtain ⟨g0, g1, _⟩ := box_form HA6.box2; have r0 := (HA6.cell hbn).trans E0.out; have r1 := (HA6.cell hbn).trans E1.out)
            | (go_at_call 40; refine (l2Put_any hi kd.2 hpg nw hnw wr.drew).mono ?_; rintro e w5 ⟨a5, c5, rfl, _, hB5, hb5⟩; have HA5 := HA.out.drew.call hb5; obtain ⟨y5, _⟩ := box_slice HA5.box; obtain ⟨g0, g1, _⟩ := box_form HA5.box2; have r0 := (HA5.cell hbn).trans E0.out; have r1 := (HA5.cell hbn).trans E1.out))
        have R : Hid (Acc w w.heap.size (.cells #[.int .i64 2, .int .i64 tx, .int .i64 id, .int .i64 root, .int .i64 count, .slice (some ⟨b, off, none⟩) n kc, .slice ea en ec, .int .i64 next, .string data] 28) (.cells #[.bool hi, .int .i64 nw, .bool hi] 63) w6 v6 (kidsB hi nw ks (k + 1))) := by
          rw [show kidsB hi nw ks (k + 1) = _ from HK.out, kidB, if_neg h0, List.nil_append]
          exact HA6
        have RL : Hid ((kidsB hi nw ks (k + 1)).length ≤ 20 * (k + 1)) := by
          show _ ≤ _
          rw [HK.out, kidB]
          simp [numB_len]
          split <;> simp [textB_len] <;> omega
        clear HA5 HA6 hB5 hb5 hO6 hg6
        go_wp2
        go_roundw
        case rel => exact ⟨k + 1, by omega, by go_num, R, RL⟩
        case measure => simp [intOf]; omega
    · go_wp2
      go_ret
      obtain rfl : k = n := by omega
      exact ⟨_, _, rfl, owns_base HA.out.row (by omega), HA.out.bel⟩
end Go.Proofs.Ytcmhobbpeaeebaa
