import Derived.Test.YtcmhobbpeaeebaaGAA
import Derived.Test.YtcmhobbpeaeebaaGAB
import Derived.Test.YtcmhobbpeaeebaaGAC
import Derived.WalkLawsBesides
import Derived.Laws.EntriesVeiled
import Derived.WideLaws
import Derived.Deep.RegionHeld3
import Derived.Lib.BufferWrite
import Derived.Laws.BitsAll
import Derived.Laws.IdiomStrings
namespace Go.Proofs.Ytcmhobbpeaeebaa
open Go.RowKit
set_option linter.unusedVariables false
set_option maxRecDepth 100000

def entB (hi : Bool) (nw : Nat) (e : PE) : List Int := textB e.1 ++ (if hi then List.replicate (8 - e.1.size) 0 else []) ++ (if e.2.2.1 = 0 then 0 :: textB e.2.1 else 1 :: (numB hi nw e.2.2.1 ++ numB hi nw e.2.2.2))
def entsB (hi : Bool) (nw : Nat) (es : List PE) : Nat → List Int
  | 0 => []
  | i + 1 => entsB hi nw es i ++ entB hi nw (es.getD i dE)
theorem eb_call {w' w'' : World} {M : Nat} {eb : Obj} (he : w'.heap[M]? = some eb) (hb : Below w'.heap.size w' w'') : w''.heap[M]? = some eb := (hb.block M (Array.getElem?_eq_some_iff.1 he).1).trans he
theorem eb_grown {w' w'' : World} {M base t n : Nat} {cs : Array Value} {v : Value} {xs : List Value} (he : w'.heap[M]? = some (.cells cs t (0, 0))) (ht : t ≠ 5) (ho : w'.ownsRow base 5 1 v n xs) (hg : w'.grownBy w'' v.ownBlock) : w''.heap[M]? = some (.cells cs t (0, 0)) := by
  refine (hg.block M (Array.getElem?_eq_some_iff.1 he).1 (fun e => ?_)).trans he
  rcases ho.2 with ⟨rfl, _⟩ | ⟨g, cap, cur, rfl, _, hgg, _⟩
  · cases e
  · simp only [Value.ownBlock, Option.some.injEq] at e
    subst e
    rw [he] at hgg
    injection hgg with h
    injection h with _ h2
    exact ht h2
theorem box_four {w : World} {N : Nat} {v0 v1 v2 v3 : Value} {t : TypeId} (h : w.heap[N]? = some (.cells #[v0, v1, v2, v3] t)) : w.cell? ⟨N, 0, none⟩ = some v0 ∧ w.cell? ⟨N, 1, none⟩ = some v1 ∧ w.cell? ⟨N, 2, none⟩ = some v2 ∧ w.cell? ⟨N, 3, none⟩ = some v3 := by
  refine ⟨?_, ?_, ?_, ?_⟩ <;> simp [World.cell?, h]

theorem bytesAt_two (w : World) (x y : Int) (hx : 0 ≤ x ∧ x ≤ 255) (hy : 0 ≤ y ∧ y ≤ 255) : BytesAt (w.alloc (.cells #[.int .u8 x, .int .u8 y] 5)) w.heap.size (w.heap.size + 1) (some ⟨w.heap.size, 0, none⟩) 2 2 [x, y] := by
  refine ⟨rfl, Nat.le_refl _, by unfold maxLen; omega, fun z hz => by simp at hz; omega, fun _ => ⟨w.heap.size, 0, rfl, ⟨Nat.le_refl _, Nat.lt_succ_self _⟩, fun i hi => ?_⟩, fun h => by cases h⟩
  match i, hi with
  | 0, _ => simp
  | 1, _ => simp

set_option maxHeartbeats 6400000 in
theorem l2WriteBody_leaf (hi : Bool) (nw : Nat) (hnw : nw ≤ 8) (tx id root count : Int) (ka : Option Addr) (kn kc : Nat) (ea : Option Addr) (n ec : Nat) (es : List PE) (next : Int) (data : ByteArray) (w : World) (A B : Nat) (hB : B ≤ w.heap.size) (hE : EntsAt w A B ea n ec es) (hn : n ≤ 4) (hs : ∀ i, i < n → (es.getD i dE).1.size ≤ 8 ∧ (es.getD i dE).2.1.size ≤ 8) :
    Calls Try.prog 43 #[.agg #[.int .i64 3, .int .i64 tx, .int .i64 id, .int .i64 root, .int .i64 count, .slice ka kn kc, .slice ea n ec, .int .i64 next, .string data], .agg #[.bool hi, .int .i64 nw, .bool hi]] w fun e w' => ∃ v m, e = .returned v ∧ w'.ownsRow w.heap.size 5 1 v m (u8s (entsB hi nw es n)) ∧ Below w.heap.size w w' := by
  have HA := acc_start w (.cells #[.int .i64 3, .int .i64 tx, .int .i64 id, .int .i64 root, .int .i64 count, .slice ka kn kc, .slice ea n ec, .int .i64 next, .string data] 28) (.cells #[.bool hi, .int .i64 nw, .bool hi] 63)
  go_enter Try.func43, Try.ntmps43
  go_wp2_with fail
  generalize ((w.alloc (.cells #[.int .i64 3, .int .i64 tx, .int .i64 id, .int .i64 root, .int .i64 count, .slice ka kn kc, .slice ea n ec, .int .i64 next, .string data] 28)).alloc (.cells #[.bool hi, .int .i64 nw, .bool hi] 63)).alloc (.cells #[] 5) = W at HA ⊢
  go_loopw [5, 7] (fun v i wr => ∃ k : Nat, k ≤ n ∧ i = .int .i64 k ∧ Hid (Acc w w.heap.size (.cells #[.int .i64 3, .int .i64 tx, .int .i64 id, .int .i64 root, .int .i64 count, .slice ka kn kc, .slice ea n ec, .int .i64 next, .string data] 28) (.cells #[.bool hi, .int .i64 nw, .bool hi] 63) wr v (entsB hi nw es k)) ∧ Hid ((entsB hi nw es k).length ≤ 40 * k)) (fun _ i _ => n - (intOf i).toNat)
  case atStart => exact ⟨0, Nat.zero_le _, rfl, HA, Nat.le_refl _⟩
  case round =>
    clear HA
    obtain ⟨k, hk, rfl, HA, HLen⟩ := hrel
    obtain ⟨_, x6, _⟩ := box_slice HA.out.box
    by_cases hlt : k < n
    · obtain ⟨b, off, rfl, hb, hfk, e0, e1, e2, e3⟩ := EntsAt.at hE (i := k) hlt
      have hs' := hs k hlt
      have HK : Hid (entsB hi nw es (k + 1) = entsB hi nw es k ++ entB hi nw (es.getD k dE)) := rfl
      generalize es.getD k dE = kd at e0 e1 e2 e3 hfk hs' HK
      generalize entsB hi nw es k = l at HA HLen HK
      have hl := HLen.out
      have hbn : b < w.heap.size := by omega
      have q0 := (HA.out.cell hbn).trans e0
      have q1 := (HA.out.cell hbn).trans e1
      have q2 := (HA.out.cell hbn).trans e2
      have q3 := (HA.out.cell hbn).trans e3
      clear hE hs e0 e1 e2 e3
      have hN := HA.out.lt
      have hbw : b < wr.heap.size := by omega
      have hwr1 := u8_in (kd.1.size : Int) (by omega)
      have hwr2 := u8_in (kd.2.1.size : Int) (by omega)
      have HA0 := HA.out.alloc (.cells #[.string kd.1, .string kd.2.1, .int .i64 kd.2.2.1, .int .i64 kd.2.2.2] 102)
      have HE0 : (wr.alloc (.cells #[.string kd.1, .string kd.2.1, .int .i64 kd.2.2.1, .int .i64 kd.2.2.2] 102)).heap[wr.heap.size]? = some (.cells #[.string kd.1, .string kd.2.1, .int .i64 kd.2.2.1, .int .i64 kd.2.2.2] 102) := heap_alloc_new wr _
      go_wp2_with fail
      generalize wr.alloc (.cells #[.string kd.1, .string kd.2.1, .int .i64 kd.2.2.1, .int .i64 kd.2.2.2] 102) = W0 at HA0 HE0 ⊢
      generalize wr.heap.size = M at HE0 ⊢
      clear HA q0 q1 q2 q3 x6 hN hbw
      obtain ⟨m0, m1, m2, m3⟩ := box_four HE0
      have HA1 := HA0.drew.alloc (.cells #[.int .u8 (kd.1.size : Int)] 5)
      have HE1 := eb_call HE0 (((Below.refl _ W0).drew).alloc (Nat.le_refl _) (.cells #[.int .u8 (kd.1.size : Int)] 5))
      have hB1 := bytesAt_one W0.drew (kd.1.size : Int) (by omega)
      go_region_held3 (fun w' => w'.cell? ⟨M, 0, none⟩ = some (.string kd.1)) (go_keep)
        (first
          | (refine step_as rfl _ _ rfl (w.heap.size + 2) v2 _ _ (by simp [Act.eval]) HA2.row kd.1 (by simp [Act.eval]) (by simp; omega) HA2.lt ?_; intro v4 w4 hO4 hg4; have HA4 := HA2.grown hO4 hg4; have HE4 := eb_grown HE2 (by decide) HA2.row hg4; obtain ⟨p0, _⟩ := box_four HE4)
          | (refine step_ab rfl _ _ rfl (w.heap.size + 2) u5 _ l (by simp [Act.eval]) HA1.row _ 1 1 _ _ _ (by simp [Act.eval]) hB1 (by omega) HA1.lt ?_; intro v2 w2 hO2 hg2; have HA2 := HA1.grown hO2 hg2; have HE2 := eb_grown HE1 (by decide) HA1.row hg2; obtain ⟨p0, _⟩ := box_four HE2))
      clear HA1 HA2 HE1 HE2 hB1 hO2 hg2 hO4 hg4 HA0 HE0 m0 m1 m2 m3
      have HA5 : Hid (Acc w w.heap.size (.cells #[.int .i64 3, .int .i64 tx, .int .i64 id, .int .i64 root, .int .i64 count, .slice ka kn kc, .slice (some ⟨b, off, none⟩) n ec, .int .i64 next, .string data] 28) (.cells #[.bool hi, .int .i64 nw, .bool hi] 63) w4 v4 (l ++ textB kd.1)) := by
        show Acc _ _ _ _ _ _ _
        rw [textB_eq, ← List.append_assoc]; exact HA4
      clear HA4
      go_wp2_with fail
      have hl2 : (l ++ textB kd.1).length ≤ 40 * k + 9 := by simp [textB_len]; omega
      have HK2 : Hid (entsB hi nw es (k + 1) = (l ++ textB kd.1) ++ ((if hi then List.replicate (8 - kd.1.size) 0 else []) ++ (if kd.2.2.1 = 0 then 0 :: textB kd.2.1 else 1 :: (numB hi nw kd.2.2.1 ++ numB hi nw kd.2.2.2)))) := by
        show _ = _
        rw [HK.out, entB]; simp only [List.append_assoc]
      clear HK hl HLen
      generalize l ++ textB kd.1 = l2 at HA5 HK2 hl2
      have HE5 : Hid (w4.heap[M]? = some (.cells #[.string kd.1, .string kd.2.1, .int .i64 kd.2.2.1, .int .i64 kd.2.2.2] 102)) := HE4
      clear HE4 p0
      go_loopw [5, 9] (fun v i wr2 => ∃ j : Nat, kd.1.size + j ≤ 8 ∧ i = .int .i64 ((kd.1.size + j : Nat) : Int) ∧ (hi = false → j = 0) ∧ Hid (Acc w w.heap.size (.cells #[.int .i64 3, .int .i64 tx, .int .i64 id, .int .i64 root, .int .i64 count, .slice ka kn kc, .slice (some ⟨b, off, none⟩) n ec, .int .i64 next, .string data] 28) (.cells #[.bool hi, .int .i64 nw, .bool hi] 63) wr2 v (l2 ++ List.replicate j 0)) ∧ Hid (wr2.heap[M]? = some (.cells #[.string kd.1, .string kd.2.1, .int .i64 kd.2.2.1, .int .i64 kd.2.2.2] 102))) (fun _ i _ => 8 - (intOf i).toNat)
      case atStart => exact ⟨0, by omega, by simp, fun _ => rfl, by simpa using HA5, HE5⟩
      case round =>
        clear HA5 HE5
        obtain ⟨j, hj, rfl, hhj, HA6, HE6⟩ := hrel
        obtain ⟨_, _, f2⟩ := box_form HA6.out.box2
        by_cases hc : hi = true ∧ kd.1.size + j < 8
        · obtain ⟨rfl, hc2⟩ := hc
          have HR : Hid (l2 ++ List.replicate (j + 1) 0 = (l2 ++ List.replicate j 0) ++ [0]) := by show _ = _; rw [List.replicate_succ', List.append_assoc]
          have hl3 : (l2 ++ List.replicate j 0).length ≤ 40 * k + 17 := by simp; omega
          generalize l2 ++ List.replicate j 0 = l3 at HA6 HR hl3
          have HA7 := HA6.out.alloc (.cells #[.int .u8 0] 5)
          have HE7 := eb_call HE6.out ((Below.refl _ _).alloc (Nat.le_refl _) (.cells #[.int .u8 0] 5))
          have hB7 := bytesAt_one wr 0 (by omega)
          have hc3 : ((kd.1.size + j : Nat) : Int) < 8 := by omega
          go_wp2_with (at_builtin; refine wpList_ab rfl _ _ rfl (w.heap.size + 2) u5 _ l3 rfl HA7.row _ 1 1 _ _ _ rfl hB7 (by omega) HA7.lt ?_; intro v8 w8 hO8 hg8)
          have HA8 := HA7.grown hO8 hg8
          have HE8 := eb_grown HE7 (by decide) HA7.row hg8
          rw [← HR.out] at HA8
          clear HA7 HE7 hB7 hO8 hg8
          go_roundw
          case rel => exact ⟨j + 1, by omega, by go_num, (fun h => by cases h), HA8, HE8⟩
          case measure => simp [intOf]; omega
        · have hl3 : (l2 ++ List.replicate j 0).length ≤ 40 * k + 17 := by simp; omega
          cases hi
          · have HK3 : Hid (entsB false nw es (k + 1) = (l2 ++ List.replicate j 0) ++ (if kd.2.2.1 = 0 then 0 :: textB kd.2.1 else 1 :: (numB false nw kd.2.2.1 ++ numB false nw kd.2.2.2))) := by
              show _ = _
              rw [HK2.out, hhj rfl]
              simp
            clear hhj hc
            generalize l2 ++ List.replicate j 0 = l3 at HA6 hl3 HK3
            clear HK2
            obtain ⟨m0, m1, m2, m3⟩ := box_four HE6.out
            obtain ⟨f0, f1, _⟩ := box_form HA6.out.box2
            by_cases ho : kd.2.2.1 = 0
            · have so : (kd.2.2.1 == 0) = true := by simpa using ho
              have HO : Hid (kd.2.2.1 = 0) := ho
              clear ho
              go_wp2_with fail
              have HA7 := HA6.out.drew.alloc (.cells #[.int .u8 0, .int .u8 (kd.2.1.size : Int)] 5)
              have HE7 := eb_call HE6.out (((Below.refl _ wr).drew).alloc (Nat.le_refl _) (.cells #[.int .u8 0, .int .u8 (kd.2.1.size : Int)] 5))
              have hB7 := bytesAt_two wr.drew 0 (kd.2.1.size : Int) (by omega) (by omega)
              go_region_held3 (fun w' => w'.cell? ⟨M, 1, none⟩ = some (.string kd.2.1)) (go_keep)
                (first
                  | (refine step_as rfl _ _ rfl (w.heap.size + 2) v8 _ _ (by simp [Act.eval]) HA8.row kd.2.1 (by simp [Act.eval]) (by simp; omega) HA8.lt ?_; intro v9 w9 hO9 hg9; have HA9 := HA8.grown hO9 hg9; have HE9 := eb_grown HE8 (by decide) HA8.row hg9; obtain ⟨g0, g1, _⟩ := box_form HA9.box2; obtain ⟨_, p1, p2, p3⟩ := box_four HE9)
                  | (refine step_ab rfl _ _ rfl (w.heap.size + 2) u5 _ l3 (by simp [Act.eval]) HA7.row _ 2 2 _ _ _ (by simp [Act.eval]) hB7 (by omega) HA7.lt ?_; intro v8 w8 hO8 hg8; have HA8 := HA7.grown hO8 hg8; have HE8 := eb_grown HE7 (by decide) HA7.row hg8; obtain ⟨g0, g1, _⟩ := box_form HA8.box2; obtain ⟨_, p1, p2, p3⟩ := box_four HE8))
              have R : Hid (Acc w w.heap.size (.cells #[.int .i64 3, .int .i64 tx, .int .i64 id, .int .i64 root, .int .i64 count, .slice ka kn kc, .slice (some ⟨b, off, none⟩) n ec, .int .i64 next, .string data] 28) (.cells #[.bool false, .int .i64 nw, .bool false] 63) w9 v9 (entsB false nw es (k + 1))) := by
                show Acc _ _ _ _ _ _ _
                rw [HK3.out, if_pos HO.out, show (0 : Int) :: textB kd.2.1 = [0, (kd.2.1.size : Int)] ++ strB kd.2.1 from rfl, ← List.append_assoc]
                exact HA9
              have RL : Hid ((entsB false nw es (k + 1)).length ≤ 40 * (k + 1)) := by
                show _ ≤ _
                rw [HK3.out, if_pos HO.out, List.length_append, List.length_cons, textB_len]
                omega
              clear HA6 HE6 HA7 HE7 HA8 HE8 HA9 HE9 hB7 hO8 hg8 hO9 hg9
              go_wp2
              go_roundw
              case rel => exact ⟨k + 1, by omega, by go_num, R, RL⟩
              case measure => simp [intOf]; omega
            · have so : (kd.2.2.1 == 0) = false := by simpa using ho
              have HO : Hid (¬ kd.2.2.1 = 0) := ho
              clear ho
              have hv1 : I64 kd.2.2.1 := hfk.2.2.1
              have hv2 : I64 kd.2.2.2 := hfk.2.2.2
              go_wp2_with fail
              have HA7 := HA6.out.drew.alloc (.cells #[.int .u8 1] 5)
              have HE7 := eb_call HE6.out (((Below.refl _ wr).drew).alloc (Nat.le_refl _) (.cells #[.int .u8 1] 5))
              have hB7 := bytesAt_one wr.drew 1 (by omega)
              go_region_held3 (fun w' => w'.cell? ⟨M, 2, none⟩ = some (.int .i64 kd.2.2.1) ∧ w'.cell? ⟨M, 3, none⟩ = some (.int .i64 kd.2.2.2) ∧ w'.cell? ⟨w.heap.size + 1, 0, none⟩ = some (.bool false) ∧ w'.cell? ⟨w.heap.size + 1, 1, none⟩ = some (.int .i64 nw)) (go_keep)
                (first
                  | (refine step_ab rfl _ _ rfl (w.heap.size + 2) v10 _ _ (by simp [Act.eval]) HA11.row a11 nw c11 _ _ _ (by simp [Act.eval]) hB11 (by simp [numB_len]; omega) HA11.lt ?_; intro v12 w12 hO12 hg12; have HA12 := HA11.grown hO12 hg12; have HE12 := eb_grown HE11 (by decide) HA11.row hg12; obtain ⟨g0, g1, _⟩ := box_form HA12.box2; obtain ⟨_, p1, p2, p3⟩ := box_four HE12)
                  | (go_at_call 40; refine (l2Put_any false kd.2.2.2 hv2 nw hnw w10).mono ?_; rintro e w11 ⟨a11, c11, rfl, _, hB11, hb11⟩; have HA11 := HA10.call hb11; have HE11 := eb_call HE10 hb11; obtain ⟨g0, g1, _⟩ := box_form HA11.box2; obtain ⟨_, p1, p2, p3⟩ := box_four HE11)
                  | (refine step_ab rfl _ _ rfl (w.heap.size + 2) v8 _ _ (by simp [Act.eval]) HA9.row a9 nw c9 _ _ _ (by simp [Act.eval]) hB9 (by simp; omega) HA9.lt ?_; intro v10 w10 hO10 hg10; have HA10 := HA9.grown hO10 hg10; have HE10 := eb_grown HE9 (by decide) HA9.row hg10; obtain ⟨g0, g1, _⟩ := box_form HA10.box2; obtain ⟨_, p1, p2, p3⟩ := box_four HE10)
                  | (go_at_call 40; refine (l2Put_any false kd.2.2.1 hv1 nw hnw w8).mono ?_; rintro e w9 ⟨a9, c9, rfl, _, hB9, hb9⟩; have HA9 := HA8.call hb9; have HE9 := eb_call HE8 hb9; obtain ⟨g0, g1, _⟩ := box_form HA9.box2; obtain ⟨_, p1, p2, p3⟩ := box_four HE9)
                  | (refine step_ab rfl _ _ rfl (w.heap.size + 2) u5 _ l3 (by simp [Act.eval]) HA7.row _ 1 1 _ _ _ (by simp [Act.eval]) hB7 (by omega) HA7.lt ?_; intro v8 w8 hO8 hg8; have HA8 := HA7.grown hO8 hg8; have HE8 := eb_grown HE7 (by decide) HA7.row hg8; obtain ⟨g0, g1, _⟩ := box_form HA8.box2; obtain ⟨_, p1, p2, p3⟩ := box_four HE8))
              have R : Hid (Acc w w.heap.size (.cells #[.int .i64 3, .int .i64 tx, .int .i64 id, .int .i64 root, .int .i64 count, .slice ka kn kc, .slice (some ⟨b, off, none⟩) n ec, .int .i64 next, .string data] 28) (.cells #[.bool false, .int .i64 nw, .bool false] 63) w12 v12 (entsB false nw es (k + 1))) := by
                show Acc _ _ _ _ _ _ _
                rw [HK3.out, if_neg HO.out, show (1 : Int) :: (numB false nw kd.2.2.1 ++ numB false nw kd.2.2.2) = [1] ++ (numB false nw kd.2.2.1 ++ numB false nw kd.2.2.2) from rfl, ← List.append_assoc, ← List.append_assoc]
                exact HA12
              have RL : Hid ((entsB false nw es (k + 1)).length ≤ 40 * (k + 1)) := by
                show _ ≤ _
                rw [HK3.out, if_neg HO.out, List.length_append, List.length_cons, List.length_append, numB_len, numB_len]
                omega
              clear HA6 HE6 HA7 HE7 HA8 HE8 HA9 HE9 HA10 HE10 HA11 HE11 HA12 HE12 hB7 hB9 hB11 hO8 hg8 hO10 hg10 hO12 hg12 hb9 hb11
              go_wp2
              go_roundw
              case rel => exact ⟨k + 1, by omega, by go_num, R, RL⟩
              case measure => simp [intOf]; omega
          · have hj8 : kd.1.size + j = 8 := by simp at hc; omega
            have HK3 : Hid (entsB true nw es (k + 1) = (l2 ++ List.replicate j 0) ++ (if kd.2.2.1 = 0 then 0 :: textB kd.2.1 else 1 :: (numB true nw kd.2.2.1 ++ numB true nw kd.2.2.2))) := by
              show _ = _
              rw [HK2.out, show j = 8 - kd.1.size by omega]
              simp
            have hc3 : ¬ ((kd.1.size + j : Nat) : Int) < 8 := by omega
            clear hhj hc hj8
            generalize l2 ++ List.replicate j 0 = l3 at HA6 hl3 HK3
            clear HK2
            obtain ⟨m0, m1, m2, m3⟩ := box_four HE6.out
            obtain ⟨f0, f1, _⟩ := box_form HA6.out.box2
            by_cases ho : kd.2.2.1 = 0
            · have so : (kd.2.2.1 == 0) = true := by simpa using ho
              have HO : Hid (kd.2.2.1 = 0) := ho
              clear ho
              go_wp2_with fail
              have HA7 := HA6.out.drew.alloc (.cells #[.int .u8 0, .int .u8 (kd.2.1.size : Int)] 5)
              have HE7 := eb_call HE6.out (((Below.refl _ wr).drew).alloc (Nat.le_refl _) (.cells #[.int .u8 0, .int .u8 (kd.2.1.size : Int)] 5))
              have hB7 := bytesAt_two wr.drew 0 (kd.2.1.size : Int) (by omega) (by omega)
              go_region_held3 (fun w' => w'.cell? ⟨M, 1, none⟩ = some (.string kd.2.1)) (go_keep)
                (first
                  | (refine step_as rfl _ _ rfl (w.heap.size + 2) v8 _ _ (by simp [Act.eval]) HA8.row kd.2.1 (by simp [Act.eval]) (by simp; omega) HA8.lt ?_; intro v9 w9 hO9 hg9; have HA9 := HA8.grown hO9 hg9; have HE9 := eb_grown HE8 (by decide) HA8.row hg9; obtain ⟨g0, g1, _⟩ := box_form HA9.box2; obtain ⟨_, p1, p2, p3⟩ := box_four HE9)
                  | (refine step_ab rfl _ _ rfl (w.heap.size + 2) u5 _ l3 (by simp [Act.eval]) HA7.row _ 2 2 _ _ _ (by simp [Act.eval]) hB7 (by omega) HA7.lt ?_; intro v8 w8 hO8 hg8; have HA8 := HA7.grown hO8 hg8; have HE8 := eb_grown HE7 (by decide) HA7.row hg8; obtain ⟨g0, g1, _⟩ := box_form HA8.box2; obtain ⟨_, p1, p2, p3⟩ := box_four HE8))
              have R : Hid (Acc w w.heap.size (.cells #[.int .i64 3, .int .i64 tx, .int .i64 id, .int .i64 root, .int .i64 count, .slice ka kn kc, .slice (some ⟨b, off, none⟩) n ec, .int .i64 next, .string data] 28) (.cells #[.bool true, .int .i64 nw, .bool true] 63) w9 v9 (entsB true nw es (k + 1))) := by
                show Acc _ _ _ _ _ _ _
                rw [HK3.out, if_pos HO.out, show (0 : Int) :: textB kd.2.1 = [0, (kd.2.1.size : Int)] ++ strB kd.2.1 from rfl, ← List.append_assoc]
                exact HA9
              have RL : Hid ((entsB true nw es (k + 1)).length ≤ 40 * (k + 1)) := by
                show _ ≤ _
                rw [HK3.out, if_pos HO.out, List.length_append, List.length_cons, textB_len]
                omega
              clear HA6 HE6 HA7 HE7 HA8 HE8 HA9 HE9 hB7 hO8 hg8 hO9 hg9
              go_wp2
              go_roundw
              case rel => exact ⟨k + 1, by omega, by go_num, R, RL⟩
              case measure => simp [intOf]; omega
            · have so : (kd.2.2.1 == 0) = false := by simpa using ho
              have HO : Hid (¬ kd.2.2.1 = 0) := ho
              clear ho
              have hv1 : I64 kd.2.2.1 := hfk.2.2.1
              have hv2 : I64 kd.2.2.2 := hfk.2.2.2
              go_wp2_with fail
              have HA7 := HA6.out.drew.alloc (.cells #[.int .u8 1] 5)
              have HE7 := eb_call HE6.out (((Below.refl _ wr).drew).alloc (Nat.le_refl _) (.cells #[.int .u8 1] 5))
              have hB7 := bytesAt_one wr.drew 1 (by omega)
              go_region_held3 (fun w' => w'.cell? ⟨M, 2, none⟩ = some (.int .i64 kd.2.2.1) ∧ w'.cell? ⟨M, 3, none⟩ = some (.int .i64 kd.2.2.2) ∧ w'.cell? ⟨w.heap.size + 1, 0, none⟩ = some (.bool true) ∧ w'.cell? ⟨w.heap.size + 1, 1, none⟩ = some (.int .i64 nw)) (go_keep)
                (first
                  | (refine step_ab rfl _ _ rfl (w.heap.size + 2) v10 _ _ (by simp [Act.eval]) HA11.row a11 nw c11 _ _ _ (by simp [Act.eval]) hB11 (by simp [numB_len]; omega) HA11.lt ?_; intro v12 w12 hO12 hg12; have HA12 := HA11.grown hO12 hg12; have HE12 := eb_grown HE11 (by decide) HA11.row hg12; obtain ⟨g0, g1, _⟩ := box_form HA12.box2; obtain ⟨_, p1, p2, p3⟩ := box_four HE12)
                  | (go_at_call 40; refine (l2Put_any true kd.2.2.2 hv2 nw hnw w10).mono ?_; rintro e w11 ⟨a11, c11, rfl, _, hB11, hb11⟩; have HA11 := HA10.call hb11; have HE11 := eb_call HE10 hb11; obtain ⟨g0, g1, _⟩ := box_form HA11.box2; obtain ⟨_, p1, p2, p3⟩ := box_four HE11)
                  | (refine step_ab rfl _ _ rfl (w.heap.size + 2) v8 _ _ (by simp [Act.eval]) HA9.row a9 nw c9 _ _ _ (by simp [Act.eval]) hB9 (by simp; omega) HA9.lt ?_; intro v10 w10 hO10 hg10; have HA10 := HA9.grown hO10 hg10; have HE10 := eb_grown HE9 (by decide) HA9.row hg10; obtain ⟨g0, g1, _⟩ := box_form HA10.box2; obtain ⟨_, p1, p2, p3⟩ := box_four HE10)
                  | (go_at_call 40; refine (l2Put_any true kd.2.2.1 hv1 nw hnw w8).mono ?_; rintro e w9 ⟨a9, c9, rfl, _, hB9, hb9⟩; have HA9 := HA8.call hb9; have HE9 := eb_call HE8 hb9; obtain ⟨g0, g1, _⟩ := box_form HA9.box2; obtain ⟨_, p1, p2, p3⟩ := box_four HE9)
                  | (refine step_ab rfl _ _ rfl (w.heap.size + 2) u5 _ l3 (by simp [Act.eval]) HA7.row _ 1 1 _ _ _ (by simp [Act.eval]) hB7 (by omega) HA7.lt ?_; intro v8 w8 hO8 hg8; have HA8 := HA7.grown hO8 hg8; have HE8 := eb_grown HE7 (by decide) HA7.row hg8; obtain ⟨g0, g1, _⟩ := box_form HA8.box2; obtain ⟨_, p1, p2, p3⟩ := box_four HE8))
              have R : Hid (Acc w w.heap.size (.cells #[.int .i64 3, .int .i64 tx, .int .i64 id, .int .i64 root, .int .i64 count, .slice ka kn kc, .slice (some ⟨b, off, none⟩) n ec, .int .i64 next, .string data] 28) (.cells #[.bool true, .int .i64 nw, .bool true] 63) w12 v12 (entsB true nw es (k + 1))) := by
                show Acc _ _ _ _ _ _ _
                rw [HK3.out, if_neg HO.out, show (1 : Int) :: (numB true nw kd.2.2.1 ++ numB true nw kd.2.2.2) = [1] ++ (numB true nw kd.2.2.1 ++ numB true nw kd.2.2.2) from rfl, ← List.append_assoc, ← List.append_assoc]
                exact HA12
              have RL : Hid ((entsB true nw es (k + 1)).length ≤ 40 * (k + 1)) := by
                show _ ≤ _
                rw [HK3.out, if_neg HO.out, List.length_append, List.length_cons, List.length_append, numB_len, numB_len]
                omega
              clear HA6 HE6 HA7 HE7 HA8 HE8 HA9 HE9 HA10 HE10 HA11 HE11 HA12 HE12 hB7 hB9 hB11 hO8 hg8 hO10 hg10 hO12 hg12 hb9 hb11
              go_wp2
              go_roundw
              case rel => exact ⟨k + 1, by omega, by go_num, R, RL⟩
              case measure => simp [intOf]; omega
    · go_wp2
      go_ret
      obtain rfl : k = n := by omega
      exact ⟨_, _, rfl, owns_base HA.out.row (by omega), HA.out.bel⟩
end Go.Proofs.Ytcmhobbpeaeebaa
namespace Go.Proofs.Ytcmhobbpeaeebaa
open Go.RowKit
set_option linter.unusedVariables false
set_option maxRecDepth 100000

def bodyOk (low last : Int) (p : Pg) : Bool :=
  if p.kind = 1 then metaOk low last p else if p.kind = 2 then branchOk low last p else if p.kind = 3 then leafOk low last p else if p.kind = 4 then overOk low last p else false
def bodyB (hi : Bool) (p : Pg) : List Int :=
  if p.kind = 1 then metaB hi p else if p.kind = 2 then kidsB hi (smallW hi) p.ks p.ks.length else if p.kind = 3 then entsB hi (smallW hi) p.es p.es.length else if p.kind = 4 then numB hi (smallW hi) p.next ++ textB p.data else []
structure PgFit (p : Pg) : Prop where
  kind : I64 p.kind
  tx : I64 p.tx
  id : I64 p.id
  root : I64 p.root
  count : I64 p.count
  next : I64 p.next
  data : p.data.size ≤ maxLen

theorem l2Body_any (p : Pg) (hf : PgFit p) (ka : Option Addr) (kc : Nat) (ea : Option Addr) (ec : Nat) (low last : Int) (hlow : 1 ≤ low) (w : World) (A B : Nat) (hB : B ≤ w.heap.size) (hK : KidsAt w A B ka p.ks.length kc p.ks) (hE : EntsAt w A B ea p.es.length ec p.es) :
    Calls Try.prog 39 #[.agg #[.int .i64 p.kind, .int .i64 p.tx, .int .i64 p.id, .int .i64 p.root, .int .i64 p.count, .slice ka p.ks.length kc, .slice ea p.es.length ec, .int .i64 p.next, .string p.data], .int .i64 low, .int .i64 last] w fun e w' => e = .returned (.bool (bodyOk low last p)) ∧ Below w.heap.size w w' := by
  have hkl := Nat.le_trans hK.2.1 hK.2.2.1
  have hel := Nat.le_trans hE.2.1 hE.2.2.1
  by_cases h1 : p.kind = 1
  · simp only [bodyOk, if_pos h1]
    exact l2Body_meta p h1 ka kc ea ec hf.data low last w hkl hel
  by_cases h2 : p.kind = 2
  · simp only [bodyOk, if_neg h1, if_pos h2]
    obtain ⟨kind, tx, id, root, count, ks, es, next, data⟩ := p
    simp only at h2 hK hE hkl hel ⊢
    subst h2
    by_cases hz : id = 0 ∧ root = 0 ∧ count = 0 ∧ es.length = 0 ∧ next = 0 ∧ data.toList = [] ∧ 2 ≤ ks.length ∧ ks.length ≤ 4
    · obtain ⟨rfl, rfl, rfl, he, rfl, hd, g2, g4⟩ := hz
      have := l2Body_branch1 tx ka kc ks ks.length ea ec data low last w A B hB hK hd g2 g4
      rw [he]
      refine this.mono ?_
      rintro e w' ⟨rfl, hb⟩
      exact ⟨by simp [branchOk, noMeta, he, hd, g2, g4], hb⟩
    · refine (l2Body_branch0 tx id root count ka ks.length kc ea es.length ec next data low last w hkl hel hf.data ?_).mono ?_
      · by_cases c1 : id = 0 <;> by_cases c2 : root = 0 <;> by_cases c3 : count = 0 <;> by_cases c4 : es.length = 0 <;> by_cases c5 : next = 0 <;> by_cases c6 : data.toList = [] <;> simp_all <;> omega
      · rintro e w' ⟨rfl, hb⟩
        refine ⟨?_, hb⟩
        congr 2
        symm
        rw [Bool.eq_false_iff]
        intro hb
        apply hz
        simp [branchOk, noMeta] at hb
        obtain ⟨⟨⟨⟨⟨⟨⟨⟨a1, a2, a3⟩, a4⟩, a5⟩, a6⟩, a7⟩, a8⟩, a9⟩, _⟩ := hb
        exact ⟨a1, a2, a3, by simp [a4], a5, a6, a7, a8⟩
  by_cases h3 : p.kind = 3
  · simp only [bodyOk, if_neg h1, if_neg h2, if_pos h3]
    obtain ⟨kind, tx, id, root, count, ks, es, next, data⟩ := p
    simp only at h3 hK hE hkl hel ⊢
    subst h3
    by_cases hz : id = 0 ∧ root = 0 ∧ count = 0 ∧ ks.length = 0 ∧ next = 0 ∧ data.toList = [] ∧ es.length ≤ 4
    · obtain ⟨rfl, rfl, rfl, hk, rfl, hd, g4⟩ := hz
      have := l2Body_leaf1 tx ka kc es es.length ea ec data low last hlow w A B hB hE hd g4
      rw [hk]
      refine this.mono ?_
      rintro e w' ⟨rfl, hb⟩
      exact ⟨by simp [leafOk, noMeta, hk, hd, g4], hb⟩
    · refine (l2Body_leaf0 tx id root count ka ks.length kc ea es.length ec next data low last w hkl hel hf.data ?_).mono ?_
      · by_cases c1 : id = 0 <;> by_cases c2 : root = 0 <;> by_cases c3 : count = 0 <;> by_cases c4 : ks.length = 0 <;> by_cases c5 : next = 0 <;> by_cases c6 : data.toList = [] <;> simp_all
      · rintro e w' ⟨rfl, hb⟩
        refine ⟨?_, hb⟩
        congr 2
        symm
        rw [Bool.eq_false_iff]
        intro hb
        apply hz
        simp [leafOk, noMeta] at hb
        obtain ⟨⟨⟨⟨⟨⟨a1, a2, a3⟩, a4⟩, a5⟩, a6⟩, a7⟩, _⟩ := hb
        exact ⟨a1, a2, a3, by simp [a4], a5, a6, a7⟩
  by_cases h4 : p.kind = 4
  · simp only [bodyOk, if_neg h1, if_neg h2, if_neg h3, if_pos h4]
    exact l2Body_over p h4 ka kc ea ec hf.data low last w hkl hel
  · simp only [bodyOk, if_neg h1, if_neg h2, if_neg h3, if_neg h4]
    exact l2Body_other p h1 h2 h3 h4 ka kc ea ec low last w

theorem all_get {f : Nat → Bool} {n i : Nat} (h : (List.range n).all f = true) (hi : i < n) : f i = true := all_range h hi
theorem smallW_le (hi : Bool) : smallW hi ≤ 4 := by cases hi <;> decide
theorem kidsB_len (hi : Bool) (nw : Nat) (ks : List PK) : ∀ n, (∀ i, i < n → 0 < i → (ks.getD i dK).1.size ≤ 8) → (kidsB hi nw ks n).length ≤ n * (9 + nw)
  | 0, _ => by simp [kidsB]
  | n + 1, h => by
    have ih := kidsB_len hi nw ks n (fun i h1 h2 => h i (by omega) h2)
    have h8 := h n (by omega)
    simp only [kidsB, kidB, List.length_append, numB_len]
    rw [Nat.add_mul]
    by_cases h0 : 0 < n
    · rw [if_pos h0, textB_len]; have := h8 h0; omega
    · rw [if_neg h0]; simp; omega
theorem entB_len (hi : Bool) (nw : Nat) (e : PE) (h1 : e.1.size ≤ 8) (h2 : e.2.1.size ≤ 8) (hn : nw ≤ 4) : (entB hi nw e).length ≤ 19 := by
  simp only [entB, List.length_append, textB_len]
  have a : (if hi then List.replicate (8 - e.1.size) (0 : Int) else []).length ≤ 8 - e.1.size := by cases hi <;> simp
  have b : (if e.2.2.1 = 0 then 0 :: textB e.2.1 else 1 :: (numB hi nw e.2.2.1 ++ numB hi nw e.2.2.2)).length ≤ 10 := by
    split
    · simp [textB_len]; omega
    · simp [numB_len]; omega
  omega
theorem entsB_len (hi : Bool) (nw : Nat) (es : List PE) (hn : nw ≤ 4) : ∀ n, (∀ i, i < n → (es.getD i dE).1.size ≤ 8 ∧ (es.getD i dE).2.1.size ≤ 8) → (entsB hi nw es n).length ≤ n * 19
  | 0, _ => by simp [entsB]
  | n + 1, h => by
    have ih := entsB_len hi nw es hn n (fun i h1 => h i (by omega))
    have h8 := h n (by omega)
    have := entB_len hi nw (es.getD n dE) h8.1 h8.2 hn
    simp only [entsB, List.length_append]
    omega
/-- What a good page's kids and entries are like. -/
theorem branch_sizes {low last : Int} {p : Pg} (h : branchOk low last p = true) : p.ks.length ≤ 4 ∧ ∀ i, i < p.ks.length → 0 < i → (p.ks.getD i dK).1.size ≤ 8 := by
  simp only [branchOk, Bool.and_eq_true] at h
  obtain ⟨⟨⟨_, h4⟩, _⟩, hk⟩ := h
  refine ⟨by simpa using h4, fun i hi h0 => ?_⟩
  have := all_range hk hi
  simp [kidOk, h0, keyB] at this
  exact this.2.1.2
theorem ent_sizes {low last : Int} {e : PE} (h : shortB e = true ∨ longB low last e = true) : e.2.1.size ≤ 8 := by
  rcases h with h | h
  · simp [shortB] at h; exact h.2
  · simp [longB] at h
    have := h.1.2
    have hs : e.2.1.size = 0 := by
      have h2 : e.2.1.data.toList = [] := by simpa [ByteArray.toList_eq] using this
      have h3 : e.2.1.data.size = 0 := by rw [← Array.length_toList, h2]; rfl
      exact h3
    omega
theorem leaf_sizes {low last : Int} {p : Pg} (h : leafOk low last p = true) : p.es.length ≤ 4 ∧ ∀ i, i < p.es.length → (p.es.getD i dE).1.size ≤ 8 ∧ (p.es.getD i dE).2.1.size ≤ 8 := by
  simp only [leafOk, Bool.and_eq_true] at h
  obtain ⟨⟨_, h4⟩, hk⟩ := h
  refine ⟨by simpa using h4, fun i hi => ?_⟩
  have := all_range hk hi
  simp only [entOk, Bool.and_eq_true, Bool.or_eq_true] at this
  refine ⟨?_, ent_sizes this.1.2⟩
  have := this.1.1
  simp [keyB] at this
  exact this.2
theorem over_size {low last : Int} {p : Pg} (h : overOk low last p = true) : p.data.size ≤ 96 := by
  simp [overOk] at h
  exact h.1.2
theorem bodyB_len (hi : Bool) {low last : Int} {p : Pg} (h : bodyOk low last p = true) : (bodyB hi p).length ≤ 104 := by
  have hw := smallW_le hi
  unfold bodyOk at h
  unfold bodyB
  split at h
  · rename_i h1; rw [if_pos h1]; cases hi <;> simp [metaB, beB_len, leB_len]
  · rename_i h1
    rw [if_neg h1]
    split at h
    · rename_i h2; rw [if_pos h2]
      have ⟨h4, hs⟩ := branch_sizes h
      have := kidsB_len hi (smallW hi) p.ks _ hs
      have := Nat.mul_le_mul h4 (show 9 + smallW hi ≤ 13 by omega)
      omega
    · rename_i h2; rw [if_neg h2]
      split at h
      · rename_i h3; rw [if_pos h3]
        have ⟨h4, hs⟩ := leaf_sizes h
        have := entsB_len hi (smallW hi) p.es hw _ hs
        omega
      · rename_i h3; rw [if_neg h3]
        split at h
        · rename_i h4; rw [if_pos h4]
          have := over_size h
          simp [numB_len, textB_len]; omega
        · cases h
theorem l2WriteBody_any (hi : Bool) (p : Pg) (hf : PgFit p) (low last : Int) (hok : bodyOk low last p = true) (ka : Option Addr) (kc : Nat) (ea : Option Addr) (ec : Nat) (w : World) (A B : Nat) (hB : B ≤ w.heap.size) (hK : KidsAt w A B ka p.ks.length kc p.ks) (hE : EntsAt w A B ea p.es.length ec p.es) :
    Calls Try.prog 43 #[.agg #[.int .i64 p.kind, .int .i64 p.tx, .int .i64 p.id, .int .i64 p.root, .int .i64 p.count, .slice ka p.ks.length kc, .slice ea p.es.length ec, .int .i64 p.next, .string p.data], .agg #[.bool hi, .int .i64 (smallW hi), .bool hi]] w fun e w' => ∃ v m, e = .returned v ∧ w'.ownsRow w.heap.size 5 1 v m (u8s (bodyB hi p)) ∧ Below w.heap.size w w' := by
  have hw := smallW_le hi
  unfold bodyOk at hok
  split at hok
  · rename_i h1
    simp only [bodyB, if_pos h1]
    cases hi
    · have := l2WriteBody_metaNew p.tx p.id p.root p.count hf.id hf.root hf.count ka p.ks.length kc ea p.es.length ec p.next p.data w
      rw [← h1] at this
      exact this.mono fun e w' ⟨v, he, hv, hb⟩ => ⟨v, 16, he, hv, hb⟩
    · have := l2WriteBody_metaOld p.tx p.id p.root p.count hf.id hf.root hf.count ka p.ks.length kc ea p.es.length ec p.next p.data w
      rw [← h1] at this
      exact this.mono fun e w' ⟨v, he, hv, hb⟩ => ⟨v, 10, he, hv, hb⟩
  · rename_i h1
    split at hok
    · rename_i h2
      simp only [bodyB, if_neg h1, if_pos h2]
      have ⟨h4, hs⟩ := branch_sizes hok
      have := l2WriteBody_branch hi (smallW hi) (by omega) p.tx p.id p.root p.count ka p.ks.length kc p.ks ea p.es.length ec p.next p.data w A B hB hK h4 hs
      rw [← h2] at this
      exact this
    · rename_i h2
      split at hok
      · rename_i h3
        simp only [bodyB, if_neg h1, if_neg h2, if_pos h3]
        have ⟨h4, hs⟩ := leaf_sizes hok
        have := l2WriteBody_leaf hi (smallW hi) (by omega) p.tx p.id p.root p.count ka p.ks.length kc ea p.es.length ec p.es p.next p.data w A B hB hE h4 hs
        rw [← h3] at this
        exact this
      · rename_i h3
        split at hok
        · rename_i h4
          simp only [bodyB, if_neg h1, if_neg h2, if_neg h3, if_pos h4]
          have := l2WriteBody_over hi (smallW hi) (by omega) p.tx p.id p.root p.count ka p.ks.length kc ea p.es.length ec p.next hf.next p.data (over_size hok) w
          rw [← h4] at this
          exact this
        · cases hok
theorem l2Count_any (p : Pg) (ka : Option Addr) (kn kc : Nat) (ea : Option Addr) (en ec : Nat) (hk : kn + en ≤ 255) (w : World) :
    Calls Try.prog 41 #[.agg #[.int .i64 p.kind, .int .i64 p.tx, .int .i64 p.id, .int .i64 p.root, .int .i64 p.count, .slice ka kn kc, .slice ea en ec, .int .i64 p.next, .string p.data]] w fun e w' => e = .returned (.int .u8 ((kn + en : Nat) : Int)) ∧ Below w.heap.size w w' := by
  go_enter Try.func41, Try.ntmps41
  go_wp2
  go_ret
  refine ⟨?_, (Below.refl _ _).alloc (Nat.le_refl _) _⟩
  simp
end Go.Proofs.Ytcmhobbpeaeebaa
namespace Go.Proofs.Ytcmhobbpeaeebaa
open Go.RowKit
set_option linter.unusedVariables false
set_option maxRecDepth 100000

/-- bs laid over L from place k on. -/
def lay (L : List Int) (k : Nat) (bs : List Int) : List Int := L.take k ++ bs ++ L.drop (k + bs.length)
theorem lay_len {L : List Int} {k : Nat} {bs : List Int} (h : k + bs.length ≤ L.length) : (lay L k bs).length = L.length := by simp [lay]; omega
theorem lay_nil (L : List Int) (k : Nat) : lay L k [] = L := by simp [lay]
theorem lay_lay {L : List Int} {k : Nat} {ds bs : List Int} (h : k + ds.length ≤ L.length) : lay (lay L k ds) (k + ds.length) bs = lay L k (ds ++ bs) := by
  have h1 : (L.take k ++ ds).length = k + ds.length := by simp; omega
  unfold lay
  rw [List.take_append_of_le_length (by omega), List.take_of_length_le (by omega)]
  rw [show k + ds.length + bs.length = (L.take k ++ ds).length + bs.length by omega, List.drop_append, List.drop_drop, List.drop_eq_nil_of_le (by omega)]
  simp only [List.length_append, List.nil_append]
  rw [List.append_assoc (L.take k) ds bs]
  congr 2
  simp
  omega
theorem lay_set {L : List Int} {k : Nat} {x : Int} (h : k < L.length) : L.set k x = lay L k [x] := by
  rw [lay, List.set_eq_take_append_cons_drop, if_pos h]; simp

theorem heap_setCell_atB {w : World} {b t : Nat} {cs : Array Value} (h : w.heap[b]? = some (.cells cs t (0, 0))) (o : Nat) (v : Value) : (w.setCell ⟨b, o, none⟩ v).heap[b]? = some (.cells (cs.setIfInBounds o v) t (0, 0)) := by
  obtain ⟨hlt, hk⟩ := Array.getElem?_eq_some_iff.1 h
  show (w.heap.modify b _)[b]? = _
  rw [Array.getElem?_eq_getElem (by rw [Array.size_modify]; exact hlt), Array.getElem_modify_self, hk]
  rfl
theorem fr_setB {S : Nat → Prop} {w w' : World} (h : Fr S w w') {g o : Nat} (hS : S g) (u : Value) : Fr S w (w'.setCell ⟨g, o, none⟩ u) :=
  h.trans ⟨rfl, rfl, rfl, by simp [World.setCell], fun k _ hk => Below.heap_setCell w' _ u k (fun e => hk (e ▸ hS))⟩

/-- A cursor at block C over the bytes of block G, at place k. -/
structure Cur (w : World) (C G : Nat) (old : Bool) (pf gf : Nat) (k : Nat) (L : List Int) : Prop where
  box : w.heap[C]? = some (.cells #[.slice (some ⟨G, 0, none⟩) 128 128, .int .i64 k, .bool old, .func (.func pf) #[.pointer (some ⟨C, 0, none⟩)] #[], .func (.func gf) #[.pointer (some ⟨C, 0, none⟩)] #[]] 72)
  row : w.ownsRow 0 5 1 (.slice (some ⟨G, 0, none⟩) 128 128) 128 (u8s L)
  len : L.length = 128
theorem Cur.ne {w : World} {C G k pf gf : Nat} {old : Bool} {L : List Int} (h : Cur w C G old pf gf k L) : C ≠ G := by
  intro e
  subst e
  rcases h.row.2 with ⟨h0, _⟩ | ⟨g, cap, cur, h0, _, hgg, _⟩
  · cases h0
  · injection h0 with h1
    injection h1 with h2
    injection h2 with h3
    subst h3
    rw [h.box] at hgg
    injection hgg with h4
    injection h4 with _ h5
    exact absurd h5 (by decide)
theorem Cur.drew {w : World} {C G k pf gf : Nat} {old : Bool} {L : List Int} (h : Cur w C G old pf gf k L) : Cur w.drew C G old pf gf k L := ⟨h.box, h.row.drew, h.len⟩
/-- What a write through the cursor does. -/
def Wrote (w w' : World) (C G : Nat) (old : Bool) (pf gf : Nat) (k : Nat) (L bs : List Int) : Prop := Cur w' C G old pf gf (k + bs.length) (lay L k bs) ∧ Fr (fun g => g = C ∨ g = G) w w'
theorem Wrote.drew {w w' : World} {C G k pf gf : Nat} {old : Bool} {L bs : List Int} (h : Wrote w w' C G old pf gf k L bs) : Wrote w w'.drew C G old pf gf k L bs := ⟨h.1.drew, h.2.trans (Fr.of_below (Below.refl _ _).drew)⟩
theorem Wrote.trans {w w' w'' : World} {C G k pf gf : Nat} {old : Bool} {L ds bs : List Int} (h : Wrote w w' C G old pf gf k L ds) (hl : k + ds.length ≤ L.length) (h2 : Wrote w' w'' C G old pf gf (k + ds.length) (lay L k ds) bs) : Wrote w w'' C G old pf gf k L (ds ++ bs) := by
  obtain ⟨h3, h4⟩ := h2
  rw [lay_lay hl, Nat.add_assoc, ← List.length_append] at h3
  exact ⟨h3, h.2.trans h4⟩

set_option maxHeartbeats 800000 in
theorem putByte_any (C G k pf gf : Nat) (old : Bool) (L : List Int) (x : Int) (w : World) (h : Cur w C G old pf gf k L) (hk : k < 128) :
    Calls Try.prog 98 #[.pointer (some ⟨C, 0, none⟩), .int .u8 x] w fun e w' => e = .returned (.tuple #[]) ∧ Wrote w w' C G old pf gf k L [x] := by
  have e0 : w.cell? ⟨C, 0, none⟩ = some (.slice (some ⟨G, 0, none⟩) 128 128) := by simp [World.cell?, h.box]
  have e1 : w.cell? ⟨C, 1, none⟩ = some (.int .i64 k) := by simp [World.cell?, h.box]
  go_enter Try.func98, Try.ntmps98
  have hki : (k : Int) < 128 := by omega
  have hne := h.ne
  have hne' := hne.symm
  have hf := h.row.frozenAt k
  have hfC : ∀ o, w.frozen? ⟨C, o, none⟩ = false := by intro o; simp [World.frozen?, h.box]
  obtain ⟨u, hu⟩ : ∃ u, w.cell? ⟨G, k, none⟩ = some u := ⟨_, by rw [h.row.cellAt k (by omega)]; exact List.getElem?_eq_getElem (by simp [u8s, h.len]; omega)⟩
  go_wp2
  go_region_held3 (fun w' => w'.cell? ⟨C, 0, none⟩ = some (.slice (some ⟨G, 0, none⟩) 128 128) ∧ w'.cell? ⟨C, 1, none⟩ = some (.int .i64 k)) (go_keep) (fail)
  go_wp2
  go_end0
  have R : Wrote w ((w.setCell ⟨G, k, none⟩ (.int .u8 x)).setCell ⟨C, 1, none⟩ (.int .i64 ((k : Int) + 1))) C G old pf gf k L [x] := by
    refine ⟨?_, ?_⟩
    · have hrow := (h.row.stored k (.int .u8 x)).1
      have hbx : (w.setCell ⟨G, k, none⟩ (.int .u8 x)).heap[C]? = _ := (Below.heap_setCell w ⟨G, k, none⟩ (.int .u8 x) C hne).trans h.box
      refine ⟨?_, ?_, ?_⟩
      · have := heap_setCell_atB hbx 1 (.int .i64 ((k : Int) + 1))
        simpa using this
      · rw [← lay_set (by rw [h.len]; exact hk)]
        have := owns_set hrow (p := ⟨C, 1, none⟩) (fun g e e' => by simp [Value.ownBlock] at e; simp at e'; omega) (.int .i64 ((k : Int) + 1))
        simpa [u8s, List.map_set] using this
      · rw [lay_len (by simp [h.len]; omega)]; exact h.len
    · exact fr_setB (o := 1) (fr_setB (Fr.refl _ _) (.inr rfl) _) (g := C) (.inl rfl) (.int .i64 ((k : Int) + 1))
  exact ⟨rfl, R.drew⟩

theorem shr8_pow (x : Int) : ∀ m, shr8 m x = x / 2 ^ (8 * m)
  | 0 => by simp [shr8]
  | m + 1 => by
    rw [shr8, shr8_pow x m, Int.ediv_ediv_of_nonneg (Int.le_of_lt (Int.pow_pos (by omega)))]
    congr 1
    rw [show 8 * (m + 1) = 8 * m + 8 by omega, Int.pow_add]
    rfl
theorem leB_get (x : Int) : ∀ n i, i < n → (leB n x)[i]? = some (shr8 i x % 256) := by
  intro n
  induction n with
  | zero => intro i h; omega
  | succ n ih =>
    intro i h
    rw [leB_snoc]
    by_cases hi : i < n
    · rw [List.getElem?_append_left (by rw [leB_len]; exact hi)]; exact ih i hi
    · obtain rfl : i = n := by omega
      rw [List.getElem?_append_right (by rw [leB_len]; omega), leB_len]; simp
theorem beB_get (x : Int) {n i : Nat} (h : i < n) : (beB n x)[i]? = some (x / 2 ^ (8 * (n - 1 - i)) % 256) := by
  rw [beB, List.getElem?_reverse (by rw [leB_len]; exact h), leB_len, leB_get x n (n - 1 - i) (by omega), shr8_pow]
theorem beB_take (x : Int) {n i : Nat} (h : i < n) : (beB n x).take (i + 1) = (beB n x).take i ++ [x / 2 ^ (8 * (n - 1 - i)) % 256] := by
  rw [List.take_add_one, beB_get x h]; rfl
theorem wrote_nil {w : World} {C G k pf gf : Nat} {old : Bool} {L : List Int} (h : Cur w C G old pf gf k L) : Wrote w w C G old pf gf k L [] := ⟨by rw [lay_nil]; exact h, Fr.refl _ _⟩

/-- What the cursor's way of writing numbers does. -/
def PutNum (C G : Nat) (old : Bool) (pf gf : Nat) : Prop := ∀ (k : Nat) (L : List Int) (x : Int) (n : Nat) (w : World), I64 x → n ≤ 8 → Cur w C G old pf gf k L → k + n ≤ 128 →
  Calls Try.prog pf #[.pointer (some ⟨C, 0, none⟩), .int .i64 x, .int .i64 n] w fun e w' => e = .returned (.tuple #[]) ∧ Wrote w w' C G old pf gf k L (numB old n x)
theorem Cur.cells {w : World} {C G k pf gf : Nat} {old : Bool} {L : List Int} (h : Cur w C G old pf gf k L) : w.cell? ⟨C, 0, none⟩ = some (.slice (some ⟨G, 0, none⟩) 128 128) ∧ w.cell? ⟨C, 1, none⟩ = some (.int .i64 k) ∧ w.cell? ⟨C, 2, none⟩ = some (.bool old) ∧ w.cell? ⟨C, 3, none⟩ = some (.func (.func pf) #[.pointer (some ⟨C, 0, none⟩)] #[]) ∧ w.cell? ⟨C, 4, none⟩ = some (.func (.func gf) #[.pointer (some ⟨C, 0, none⟩)] #[]) := by
  refine ⟨?_, ?_, ?_, ?_, ?_⟩ <;> simp [World.cell?, h.box]
end Go.Proofs.Ytcmhobbpeaeebaa
namespace Go.Proofs.Ytcmhobbpeaeebaa
open Go.RowKit
set_option linter.unusedVariables false
set_option maxRecDepth 100000

def smallN (old : Bool) : Nat := if old then 2 else 4
theorem smallWidth_any (C G k pf gf : Nat) (old : Bool) (L : List Int) (w : World) (h : Cur w C G old pf gf k L) :
    Calls Try.prog 125 #[.pointer (some ⟨C, 0, none⟩)] w fun e w' => e = .returned (.int .i64 (smallN old)) ∧ w' = w := by
  obtain ⟨_, _, e2, _⟩ := h.cells
  cases old
  all_goals
    go_enter Try.func125, Try.ntmps125
    go_wp2
    go_ret
    exact ⟨rfl, rfl⟩

theorem numB_small (old : Bool) (x : Int) : (numB old (smallN old) x).length ≤ 4 := by rw [numB_len]; cases old <;> decide
theorem smallN_le (old : Bool) : smallN old ≤ 4 := by cases old <;> decide

theorem Cur.move {w : World} {C G k pf gf : Nat} {old : Bool} {L : List Int} (h : Cur w C G old pf gf k L) (m : Nat) : Cur (w.setCell ⟨C, 1, none⟩ (.int .i64 (m : Int))) C G old pf gf m L := by
  have hne := h.ne
  refine ⟨?_, owns_set h.row (fun g e e' => by simp [Value.ownBlock] at e; simp at e'; omega) _, h.len⟩
  have := heap_setCell_atB h.box 1 (.int .i64 (m : Int))
  simpa using this
/-- copy(c.bytes[c.at:], s). -/
theorem step_letters {w : World} {C G k pf gf : Nat} {old : Bool} {L : List Int} {s : ByteArray} {ops : Array Oper} {o : Oper} {a : Act} {K : Act → World → Prop} {Q : Exit → Act → World → Prop} {E : Prop} (h : Cur w C G old pf gf k L) (hs : k + s.size ≤ 128) (hgd : o.guard = none) (d x : Operand)
    (ho : o.op = .call { callee := .builtin .copy, args := #[d, x], argTypes := #[22, 9] }) (dl dc : Nat) (hdl : dl = 128 - k) (hd : a.eval d = .slice (some ⟨G, k, none⟩) dl dc) (hx : a.eval x = .string s)
    (hK : ∀ w', Cur w' C G old pf gf k (lay L k (strB s)) → Fr (fun g => g = C ∨ g = G) w w' → K (a.put o.dst (.int .i64 s.size)) w') :
    if Region.wanted o (yielded ops a.tmps) = true then Oper.wp Try.prog o a w K Q else E := by
  obtain ⟨i0, hi, hz0, hz1, hz2⟩ := info_parts info_u8
  rw [if_pos (by simp [Region.wanted, hgd])]
  have hne := h.ne
  rcases h.row.2 with ⟨h0, _⟩ | ⟨g, cap, cur, h0, _, hgg, hc1, hc2, hcs, hct⟩
  · cases h0
  injection h0 with h1 _ h3
  injection h1 with h2
  injection h2 with h4
  subst h4 h3
  have hcur : cur.toList = u8s L := by
    rw [← hct, List.take_of_length_le (by rw [Array.length_toList, hcs]; omega)]
  have hrun := Lib.run_copy_row_string (P := Try.prog) w 22 9 o.type 5 G k dl dc s cur 5 Try.underlying22 (by rw [hi]; simp [hz1]) hgg (by omega) (by rw [hcs]; omega)
  have hcells : (cur.toList.take k ++ Lib.byteCells s.data.toList ++ cur.toList.drop (k + s.size)).toArray = (u8s (lay L k (strB s))).toArray := by
    rw [hcur, lay, strB_len]
    simp [u8s, strB, Lib.byteCells, List.map_take, List.map_drop]
  rw [hcells] at hrun
  unfold Oper.wp execOp
  simp only [ho, resolve, invoke, builtin, Sem.run_bind, Sem.run_pure, Result.andThen_ok, List.map_toArray, List.map_cons, List.map_nil, hd, hx, hrun]
  refine hK _ ⟨?_, ?_, ?_⟩ ⟨rfl, rfl, rfl, by simp [World.setRow], fun j _ hj => setRow_other w G j _ (fun e => hj (.inr e))⟩
  · exact (setRow_other w G C _ hne).trans h.box
  · have hl : (lay L k (strB s)).length = 128 := by rw [lay_len (by rw [strB_len, h.len]; exact hs)]; exact h.len
    refine ⟨by simp [u8s, hl], .inr ⟨G, 128, (u8s (lay L k (strB s))).toArray, rfl, Nat.zero_le _, setRow_heap w G cur _ _ _ hgg, Nat.le_refl _, by unfold maxLen; omega, by simp [u8s, hl], ?_⟩⟩
    rw [List.take_of_length_le (by simp [u8s, hl])]
  · rw [lay_len (by rw [strB_len, h.len]; exact hs)]; exact h.len

set_option maxHeartbeats 800000 in
theorem putLetters_any (C G k pf gf : Nat) (old : Bool) (L : List Int) (s : ByteArray) (w : World) (h : Cur w C G old pf gf k L) (hk : k + s.size ≤ 128) (hk1 : k < 128) :
    Calls Try.prog 70 #[.pointer (some ⟨C, 0, none⟩), .string s] w fun e w' => e = .returned (.tuple #[]) ∧ Wrote w w' C G old pf gf k L (strB s) := by
  obtain ⟨e0, e1, e2, e3, e4⟩ := h.cells
  have hfC : ∀ o, w.frozen? ⟨C, o, none⟩ = false := by intro o; simp [World.frozen?, h.box]
  have hki : (k : Int) ≤ 128 := by omega
  go_enter Try.func70, Try.ntmps70
  go_wp2_with fail
  have hks : (k : Int) ≠ 128 := by omega
  have hks2 : ¬ 128 = k := by omega
  go_region_law (first
      | (refine step_letters h.drew hk rfl (.tmp 16) (.tmp 17) rfl (128 - k) (128 - k) rfl (by first | rfl | (simp [Act.eval]; done)) (by first | rfl | (simp [Act.eval]; done)) ?_; intro w1 hc1 hf1; obtain ⟨q0, q1, _⟩ := hc1.cells; have hfq : w1.frozen? ⟨C, 1, none⟩ = false := by simp [World.frozen?, hc1.box]))
  all_goals
    have hwr : IntKind.i64.wrap ((k : Int) + (s.size : Int)) = ((k + s.size : Nat) : Int) := by rw [IntKind.wrap_i64]; omega
    go_wp2
    go_end0
    rw [hwr]
    refine ⟨rfl, ?_, fr_setB ((Fr.of_below (Below.refl _ _).drew).trans hf1) (.inl rfl) _⟩
    rw [strB_len]
    exact hc1.move (k + s.size)
end Go.Proofs.Ytcmhobbpeaeebaa
namespace Go.Proofs.Ytcmhobbpeaeebaa
open Go.RowKit
set_option linter.unusedVariables false
set_option maxRecDepth 100000

theorem bytesAt_sub {w : World} {A B g o c n : Nat} {bs : List Int} (h : BytesAt w A B (some ⟨g, o, none⟩) n c bs) (k m : Nat) (hk : k + m ≤ n) (hn : 0 < n) : BytesAt w A B (some ⟨g, o + k, none⟩) m (c - k) ((bs.drop k).take m) := by
  obtain ⟨hl, hnc, hc, hw, hcell, hnil⟩ := h
  obtain ⟨b, off, e1, e2, e3⟩ := hcell hn
  cases e1
  refine ⟨by simp; omega, by omega, by omega, fun x hx => hw x (List.mem_of_mem_drop (List.mem_of_mem_take hx)), fun _ => ⟨g, o + k, rfl, e2, fun i hi => ?_⟩, fun h => by cases h⟩
  rw [Nat.add_assoc, e3 (k + i) (by omega)]
  simp [List.getD, hi]
/-- A cursor that reads 128 bytes. -/
structure RCur (w : World) (C g o c : Nat) (old : Bool) (pf gf k : Nat) : Prop where
  box : w.heap[C]? = some (.cells #[.slice (some ⟨g, o, none⟩) 128 c, .int .i64 k, .bool old, .func (.func pf) #[.pointer (some ⟨C, 0, none⟩)] #[], .func (.func gf) #[.pointer (some ⟨C, 0, none⟩)] #[]] 72)
theorem RCur.cells {w : World} {C g o c pf gf k : Nat} {old : Bool} (h : RCur w C g o c old pf gf k) : w.cell? ⟨C, 0, none⟩ = some (.slice (some ⟨g, o, none⟩) 128 c) ∧ w.cell? ⟨C, 1, none⟩ = some (.int .i64 k) ∧ w.cell? ⟨C, 2, none⟩ = some (.bool old) ∧ w.cell? ⟨C, 3, none⟩ = some (.func (.func pf) #[.pointer (some ⟨C, 0, none⟩)] #[]) ∧ w.cell? ⟨C, 4, none⟩ = some (.func (.func gf) #[.pointer (some ⟨C, 0, none⟩)] #[]) := by
  refine ⟨?_, ?_, ?_, ?_, ?_⟩ <;> simp [World.cell?, h.box]
theorem RCur.drew {w : World} {C g o c pf gf k : Nat} {old : Bool} (h : RCur w C g o c old pf gf k) : RCur w.drew C g o c old pf gf k := ⟨h.box⟩
/-- The cursor went on to k'; nothing else was written. -/
def Mv (w w' : World) (C g o c : Nat) (old : Bool) (pf gf k : Nat) : Prop := RCur w' C g o c old pf gf k ∧ Fr (fun x => x = C) w w'
theorem Mv.of_set {w : World} {C g o c pf gf k : Nat} {old : Bool} (h : RCur w C g o c old pf gf k) (k' : Nat) : Mv w (w.setCell ⟨C, 1, none⟩ (.int .i64 k')) C g o c old pf gf k' := by
  refine ⟨⟨?_⟩, ?_⟩
  · simp [World.setCell, Array.getElem?_modify, h.box]
  · exact ⟨rfl, rfl, rfl, by simp [World.setCell], fun k _ hk => Below.heap_setCell w ⟨C, 1, none⟩ _ k hk⟩
theorem Mv.trans {w w1 w2 : World} {C g o c pf gf k k' : Nat} {old : Bool} (h : Mv w w1 C g o c old pf gf k) (h2 : Mv w1 w2 C g o c old pf gf k') : Mv w w2 C g o c old pf gf k' := ⟨h2.1, h.2.trans h2.2⟩
theorem Mv.redraw {w w1 : World} {C g o c pf gf k : Nat} {old : Bool} (h : Mv w.drew w1 C g o c old pf gf k) : Mv w w1 C g o c old pf gf k := ⟨h.1, (Fr.of_below (Below.refl _ _).drew).trans h.2⟩

theorem Mv.drewN {w w1 : World} {C g o c pf gf k : Nat} {old : Bool} (h : Mv w w1 C g o c old pf gf k) (q : Nat) : Mv w (w1.drewN q) C g o c old pf gf k := ⟨⟨h.1.box⟩, h.2.trans (Fr.of_below ⟨rfl, rfl, rfl, Nat.le_refl _, fun _ _ => rfl⟩)⟩
theorem BytesAt.fr {w w' : World} {A B C : Nat} {a : Option Addr} {n c : Nat} {bs : List Int} (h : BytesAt w A B a n c bs) (hf : Fr (fun x => x = C) w w') (hB : B ≤ C) (hs : B ≤ w.heap.size) : BytesAt w' A B a n c bs :=
  h.keep fun k k1 k2 => hf.block k (by omega) (by omega)
/-- What is left of 128 bytes at k, at most n. -/
def cutL (bs : List Int) (k n : Nat) : List Int := (bs.drop k).take (min (k + n) 128 - k)
theorem cutL_len {bs : List Int} (h : bs.length = 128) (k n : Nat) : (cutL bs k n).length = min (k + n) 128 - k := by simp [cutL, h]; omega
theorem bytesAt_none {w : World} {A B : Nat} (a : Addr) (c : Nat) (hc : c ≤ maxLen) : BytesAt w A B (some a) 0 c [] :=
  ⟨rfl, Nat.zero_le _, hc, (by intro x hx; cases hx), fun h => absurd h (Nat.lt_irrefl _), (by intro h; cases h)⟩
set_option maxHeartbeats 800000 in
theorem take_any (C g o c pf gf k : Nat) (old : Bool) (n : Nat) (hn : n ≤ 255) (hk : k ≤ 128) (bs : List Int) (A B : Nat) (hBC : B ≤ C) (w : World) (hBs : B ≤ w.heap.size) (hB : BytesAt w A B (some ⟨g, o, none⟩) 128 c bs) (h : RCur w C g o c old pf gf k) :
    Calls Try.prog 52 #[.pointer (some ⟨C, 0, none⟩), .int .i64 n] w fun e w' => ∃ a' c', e = .returned (.slice a' (min (k + n) 128 - k) c') ∧ BytesAt w' A B a' (min (k + n) 128 - k) c' (cutL bs k n) ∧ Mv w w' C g o c old pf gf (min (k + n) 128) := by
  have hc : 128 ≤ c := hB.2.1
  have hcm : c ≤ maxLen := hB.2.2.1
  obtain ⟨c0, c1, c2, c3, c4⟩ := h.cells
  have hf : ∀ j, w.frozen? ⟨C, j, none⟩ = false := by intro j; simp [World.frozen?, h.box]
  have hcm2 := hcm
  unfold maxLen at hcm
  have hlB : bs.length = 128 := hB.1
  by_cases hlt : k + n ≤ 128
  · have hmn : min (k + n) 128 = k + n := by omega
    have HC : Hid (BytesAt w A B (some ⟨g, o + k, none⟩) (k + n - k) (c - k) (cutL bs k n)) := by
      have := bytesAt_sub hB k n hlt (by omega)
      show BytesAt _ _ _ _ _ _ _
      rw [cutL, hmn, Nat.add_sub_cancel_left]; exact this
    have HZ : Hid (n = 0 → BytesAt w A B (some ⟨g, o, none⟩) (k + n - k) 0 (cutL bs k n)) := by
      intro h0; subst h0
      have e : cutL bs k 0 = [] := by rw [cutL, hmn]; simp
      rw [e, Nat.add_sub_cancel_left]; exact bytesAt_none _ 0 (Nat.zero_le _)
    have HM : Hid (Mv w (w.setCell ⟨C, 1, none⟩ (.int .i64 ((k + n : Nat) : Int))) C g o c old pf gf (k + n)) := Mv.of_set h (k + n)
    rw [hmn]
    have hgt : ¬ (128 : Int) < (k : Int) + (n : Int) := by omega
    have HM' : Hid (Mv w (w.setCell ⟨C, 1, none⟩ (.int .i64 ((k : Int) + (n : Int)))) C g o c old pf gf (k + n)) := by
      have e : ((k : Int) + (n : Int)) = ((k + n : Nat) : Int) := by omega
      rw [e]; exact HM
    have HR : Hid (∀ q a' c', BytesAt w A B a' (k + n - k) c' (cutL bs k n) → BytesAt ((w.setCell ⟨C, 1, none⟩ (.int .i64 ((k : Int) + (n : Int)))).drewN q) A B a' (k + n - k) c' (cutL bs k n)) := fun q a' c' hb => hb.fr (HM'.out.drewN q).2 hBC hBs
    clear HM hB
    by_cases hck : c = k
    · go_enter Try.func52, Try.ntmps52
      go_wp2
      obtain ⟨d0, d1, d2, d3, d4⟩ := HM'.out.1.cells
      generalize w.setCell ⟨C, 1, none⟩ (.int .i64 ((k : Int) + (n : Int))) = w1 at HM' HR d0 d1 d2 d3 d4 ⊢
      clear c0 c1 c2 c3 c4 hf
      go_quiet (fail)
      go_wp2
      go_ret
      exact ⟨_, _, rfl, HR.out _ _ _ (HZ.out (by omega)), HM'.out.drewN _⟩
    · go_enter Try.func52, Try.ntmps52
      go_wp2
      obtain ⟨d0, d1, d2, d3, d4⟩ := HM'.out.1.cells
      generalize w.setCell ⟨C, 1, none⟩ (.int .i64 ((k : Int) + (n : Int))) = w1 at HM' HR d0 d1 d2 d3 d4 ⊢
      clear c0 c1 c2 c3 c4 hf
      go_quiet (fail)
      go_wp2
      go_ret
      exact ⟨_, _, rfl, HR.out _ _ _ HC.out, HM'.out.drewN _⟩
  · have hmn : min (k + n) 128 = 128 := by omega
    have HC : Hid (BytesAt w A B (some ⟨g, o + k, none⟩) (128 - k) (c - k) (cutL bs k n)) := by
      have := bytesAt_sub hB k (128 - k) (by omega) (by omega)
      show BytesAt _ _ _ _ _ _ _
      rw [cutL, hmn]; exact this
    have HZ : Hid (128 - k = 0 → BytesAt w A B (some ⟨g, o, none⟩) (128 - k) 0 (cutL bs k n)) := by
      intro h0
      have e : cutL bs k n = [] := by rw [cutL, hmn, h0]; simp
      rw [e, h0]; exact bytesAt_none _ 0 (Nat.zero_le _)
    have HM : Hid (Mv w (w.setCell ⟨C, 1, none⟩ (.int .i64 128)) C g o c old pf gf 128) := Mv.of_set h 128
    have HR : Hid (∀ q a' c', BytesAt w A B a' (128 - k) c' (cutL bs k n) → BytesAt ((w.setCell ⟨C, 1, none⟩ (.int .i64 128)).drewN q) A B a' (128 - k) c' (cutL bs k n)) := fun q a' c' hb => hb.fr (HM.out.drewN q).2 hBC hBs
    rw [hmn]
    have hgt : (128 : Int) < (k : Int) + (n : Int) := by omega
    clear hB
    by_cases hck : c = k
    · go_enter Try.func52, Try.ntmps52
      go_wp2
      obtain ⟨d0, d1, d2, d3, d4⟩ := HM.out.1.cells
      generalize w.setCell ⟨C, 1, none⟩ (.int .i64 128) = w1 at HM HR d0 d1 d2 d3 d4 ⊢
      clear c0 c1 c2 c3 c4 hf
      go_quiet (fail)
      go_wp2
      go_ret
      exact ⟨_, _, rfl, HR.out _ _ _ (HZ.out (by omega)), HM.out.drewN _⟩
    · go_enter Try.func52, Try.ntmps52
      go_wp2
      obtain ⟨d0, d1, d2, d3, d4⟩ := HM.out.1.cells
      generalize w.setCell ⟨C, 1, none⟩ (.int .i64 128) = w1 at HM HR d0 d1 d2 d3 d4 ⊢
      clear c0 c1 c2 c3 c4 hf
      go_quiet (fail)
      go_wp2
      go_ret
      exact ⟨_, _, rfl, HR.out _ _ _ HC.out, HM.out.drewN _⟩
end Go.Proofs.Ytcmhobbpeaeebaa
