import Derived.Test.YtcmhobbpeaeebaaPgW3
namespace Go.Proofs.Ytcmhobbpeaeebaa
open Go.RowKit
set_option linter.unusedVariables false
set_option maxRecDepth 100000

def entB (hi : Bool) (nw : Nat) (e : PE) : List Int := textB e.1 ++ (if hi then List.replicate (8 - e.1.size) 0 else []) ++ (if e.2.2.1 = 0 then 0 :: textB e.2.1 else 1 :: (numB hi nw e.2.2.1 ++ numB hi nw e.2.2.2))
def entsB (hi : Bool) (nw : Nat) (es : List PE) : Nat → List Int
  | 0 => []
  | i + 1 => entsB hi nw es i ++ entB hi nw (es.getD i dE)
theorem eb_call {w' w'' : World} {M : Nat} {eb : Obj} (he : w'.heap[M]? = some eb) (hb : Below w'.heap.size w' w'') : w''.heap[M]? = some eb := (hb.block M (Array.getElem?_eq_some_iff.1 he).1).trans he
theorem eb_grown {w' w'' : World} {M base t n : Nat} {cs : Array Value} {v : Value} {xs : List Value} (he : w'.heap[M]? = some (.cells cs t (0, 0))) (ht : t ≠ 5) (ho : w'.ownsRow base 5 1 v n xs) (hg : w'.grownBy w'' v.ownBlock) : w''.heap[M]? = some (.cells cs t (0, 0)) := by
  refine (hg.block M (Array.getElem?_eq_some_iff.1 he).1 (fun e => ?_)).trans he
  rcases ho.2 with ⟨rfl, _⟩ | ⟨g, cap, cur, rfl, _, hgg, _⟩
  · cases e
  · simp only [Value.ownBlock, Option.some.injEq] at e
    subst e
    rw [he] at hgg
    injection hgg with h
    injection h with _ h2
    exact ht h2
theorem box_four {w : World} {N : Nat} {v0 v1 v2 v3 : Value} {t : TypeId} (h : w.heap[N]? = some (.cells #[v0, v1, v2, v3] t)) : w.cell? ⟨N, 0, none⟩ = some v0 ∧ w.cell? ⟨N, 1, none⟩ = some v1 ∧ w.cell? ⟨N, 2, none⟩ = some v2 ∧ w.cell? ⟨N, 3, none⟩ = some v3 := by
  refine ⟨?_, ?_, ?_, ?_⟩ <;> simp [World.cell?, h]

theorem bytesAt_two (w : World) (x y : Int) (hx : 0 ≤ x ∧ x ≤ 255) (hy : 0 ≤ y ∧ y ≤ 255) : BytesAt (w.alloc (.cells #[.int .u8 x, .int .u8 y] 5)) w.heap.size (w.heap.size + 1) (some ⟨w.heap.size, 0, none⟩) 2 2 [x, y] := by
  refine ⟨rfl, Nat.le_refl _, by unfold maxLen; omega, fun z hz => by simp at hz; omega, fun _ => ⟨w.heap.size, 0, rfl, ⟨Nat.le_refl _, Nat.lt_succ_self _⟩, fun i hi => ?_⟩, fun h => by cases h⟩
  match i, hi with
  | 0, _ => simp
  | 1, _ => simp

set_option maxHeartbeats 6400000 in
theorem l2WriteBody_leaf (hi : Bool) (nw : Nat) (hnw : nw ≤ 8) (tx id root count : Int) (ka : Option Addr) (kn kc : Nat) (ea : Option Addr) (n ec : Nat) (es : List PE) (next : Int) (data : ByteArray) (w : World) (A B : Nat) (hB : B ≤ w.heap.size) (hE : EntsAt w A B ea n ec es) (hn : n ≤ 4) (hs : ∀ i, i < n → (es.getD i dE).1.size ≤ 8 ∧ (es.getD i dE).2.1.size ≤ 8) :
    Calls Try.prog 43 #[.agg #[.int .i64 3, .int .i64 tx, .int .i64 id, .int .i64 root, .int .i64 count, .slice ka kn kc, .slice ea n ec, .int .i64 next, .string data], .agg #[.bool hi, .int .i64 nw, .bool hi]] w fun e w' => ∃ v m, e = .returned v ∧ w'.ownsRow w.heap.size 5 1 v m (u8s (entsB hi nw es n)) ∧ Below w.heap.size w w' := by
  have HA := acc_start w (.cells #[.int .i64 3, .int .i64 tx, .int .i64 id, .int .i64 root, .int .i64 count, .slice ka kn kc, .slice ea n ec, .int .i64 next, .string data] 28) (.cells #[.bool hi, .int .i64 nw, .bool hi] 63)
  go_enter Try.func43, Try.ntmps43
  go_wp2_with fail
  generalize ((w.alloc (.cells #[.int .i64 3, .int .i64 tx, .int .i64 id, .int .i64 root, .int .i64 count, .slice ka kn kc, .slice ea n ec, .int .i64 next, .string data] 28)).alloc (.cells #[.bool hi, .int .i64 nw, .bool hi] 63)).alloc (.cells #[] 5) = W at HA ⊢
  go_loopw [5, 7] (fun v i wr => ∃ k : Nat, k ≤ n ∧ i = .int .i64 k ∧ Hid (Acc w w.heap.size (.cells #[.int .i64 3, .int .i64 tx, .int .i64 id, .int .i64 root, .int .i64 count, .slice ka kn kc, .slice ea n ec, .int .i64 next, .string data] 28) (.cells #[.bool hi, .int .i64 nw, .bool hi] 63) wr v (entsB hi nw es k)) ∧ Hid ((entsB hi nw es k).length ≤ 40 * k)) (fun _ i _ => n - (intOf i).toNat)
  case atStart => exact ⟨0, Nat.zero_le _, rfl, HA, Nat.le_refl _⟩
  case round =>
    clear HA
    obtain ⟨k, hk, rfl, HA, HLen⟩ := hrel
    obtain ⟨_, x6, _⟩ := box_slice HA.out.box
    by_cases hlt : k < n
    · obtain ⟨b, off, rfl, hb, hfk, e0, e1, e2, e3⟩ := EntsAt.at hE (i := k) hlt
      have hs' := hs k hlt
      have HK : Hid (entsB hi nw es (k + 1) = entsB hi nw es k ++ entB hi nw (es.getD k dE)) := rfl
      generalize es.getD k dE = kd at e0 e1 e2 e3 hfk hs' HK
      generalize entsB hi nw es k = l at HA HLen HK
      have hl := HLen.out
      have hbn : b < w.heap.size := by omega
      have q0 := (HA.out.cell hbn).trans e0
      have q1 := (HA.out.cell hbn).trans e1
      have q2 := (HA.out.cell hbn).trans e2
      have q3 := (HA.out.cell hbn).trans e3
      clear hE hs e0 e1 e2 e3
      have hN := HA.out.lt
      have hbw : b < wr.heap.size := by omega
      have hwr1 := u8_in (kd.1.size : Int) (by omega)
      have hwr2 := u8_in (kd.2.1.size : Int) (by omega)
      have HA0 := HA.out.alloc (.cells #[.string kd.1, .string kd.2.1, .int .i64 kd.2.2.1, .int .i64 kd.2.2.2] 102)
      have HE0 : (wr.alloc (.cells #[.string kd.1, .string kd.2.1, .int .i64 kd.2.2.1, .int .i64 kd.2.2.2] 102)).heap[wr.heap.size]? = some (.cells #[.string kd.1, .string kd.2.1, .int .i64 kd.2.2.1, .int .i64 kd.2.2.2] 102) := heap_alloc_new wr _
      go_wp2_with fail
      generalize wr.alloc (.cells #[.string kd.1, .string kd.2.1, .int .i64 kd.2.2.1, .int .i64 kd.2.2.2] 102) = W0 at HA0 HE0 ⊢
      generalize wr.heap.size = M at HE0 ⊢
      clear HA q0 q1 q2 q3 x6 hN hbw
      obtain ⟨m0, m1, m2, m3⟩ := box_four HE0
      have HA1 := HA0.drew.alloc (.cells #[.int .u8 (kd.1.size : Int)] 5)
      have HE1 := eb_call HE0 (((Below.refl _ W0).drew).alloc (Nat.le_refl _) (.cells #[.int .u8 (kd.1.size : Int)] 5))
      have hB1 := bytesAt_one W0.drew (kd.1.size : Int) (by omega)
      go_region_held3 (fun w' => w'.cell? ⟨M, 0, none⟩ = some (.string kd.1)) (go_keep)
        (first
          | (refine step_as rfl _ _ rfl (w.heap.size + 2) v2 _ _ (by simp [Act.eval]) HA2.row kd.1 (by simp [Act.eval]) (by simp; omega) HA2.lt ?_; intro v4 w4 hO4 hg4; have HA4 := HA2.grown hO4 hg4; have HE4 := eb_grown HE2 (by decide) HA2.row hg4; obtain ⟨p0, _⟩ := box_four HE4)
          | (refine step_ab rfl _ _ rfl (w.heap.size + 2) u5 _ l (by simp [Act.eval]) HA1.row _ 1 1 _ _ _ (by simp [Act.eval]) hB1 (by omega) HA1.lt ?_; intro v2 w2 hO2 hg2; have HA2 := HA1.grown hO2 hg2; have HE2 := eb_grown HE1 (by decide) HA1.row hg2; obtain ⟨p0, _⟩ := box_four HE2))
      clear HA1 HA2 HE1 HE2 hB1 hO2 hg2 hO4 hg4 HA0 HE0 m0 m1 m2 m3
      have HA5 : Hid (Acc w w.heap.size (.cells #[.int .i64 3, .int .i64 tx, .int .i64 id, .int .i64 root, .int .i64 count, .slice ka kn kc, .slice (some ⟨b, off, none⟩) n ec, .int .i64 next, .string data] 28) (.cells #[.bool hi, .int .i64 nw, .bool hi] 63) w4 v4 (l ++ textB kd.1)) := by
        show Acc _ _ _ _ _ _ _
        rw [textB_eq, ← List.append_assoc]; exact HA4
      clear HA4
      go_wp2_with fail
      have hl2 : (l ++ textB kd.1).length ≤ 40 * k + 9 := by simp [textB_len]; omega
      have HK2 : Hid (entsB hi nw es (k + 1) = (l ++ textB kd.1) ++ ((if hi then List.replicate (8 - kd.1.size) 0 else []) ++ (if kd.2.2.1 = 0 then 0 :: textB kd.2.1 else 1 :: (numB hi nw kd.2.2.1 ++ numB hi nw kd.2.2.2)))) := by
        show _ = _
        rw [HK.out, entB]; simp only [List.append_assoc]
      clear HK hl HLen
      generalize l ++ textB kd.1 = l2 at HA5 HK2 hl2
      have HE5 : Hid (w4.heap[M]? = some (.cells #[.string kd.1, .string kd.2.1, .int .i64 kd.2.2.1, .int .i64 kd.2.2.2] 102)) := HE4
      clear HE4 p0
      go_loopw [5, 9] (fun v i wr2 => ∃ j : Nat, kd.1.size + j ≤ 8 ∧ i = .int .i64 ((kd.1.size + j : Nat) : Int) ∧ (hi = false → j = 0) ∧ Hid (Acc w w.heap.size (.cells #[.int .i64 3, .int .i64 tx, .int .i64 id, .int .i64 root, .int .i64 count, .slice ka kn kc, .slice (some ⟨b, off, none⟩) n ec, .int .i64 next, .string data] 28) (.cells #[.bool hi, .int .i64 nw, .bool hi] 63) wr2 v (l2 ++ List.replicate j 0)) ∧ Hid (wr2.heap[M]? = some (.cells #[.string kd.1, .string kd.2.1, .int .i64 kd.2.2.1, .int .i64 kd.2.2.2] 102))) (fun _ i _ => 8 - (intOf i).toNat)
      case atStart => exact ⟨0, by omega, by simp, fun _ => rfl, by simpa using HA5, HE5⟩
      case round =>
        clear HA5 HE5
        obtain ⟨j, hj, rfl, hhj, HA6, HE6⟩ := hrel
        obtain ⟨_, _, f2⟩ := box_form HA6.out.box2
        by_cases hc : hi = true ∧ kd.1.size + j < 8
        · obtain ⟨rfl, hc2⟩ := hc
          have HR : Hid (l2 ++ List.replicate (j + 1) 0 = (l2 ++ List.replicate j 0) ++ [0]) := by show _ = _; rw [List.replicate_succ', List.append_assoc]
          have hl3 : (l2 ++ List.replicate j 0).length ≤ 40 * k + 17 := by simp; omega
          generalize l2 ++ List.replicate j 0 = l3 at HA6 HR hl3
          have HA7 := HA6.out.alloc (.cells #[.int .u8 0] 5)
          have HE7 := eb_call HE6.out ((Below.refl _ _).alloc (Nat.le_refl _) (.cells #[.int .u8 0] 5))
          have hB7 := bytesAt_one wr 0 (by omega)
          have hc3 : ((kd.1.size + j : Nat) : Int) < 8 := by omega
          go_wp2_with (at_builtin; refine wpList_ab rfl _ _ rfl (w.heap.size + 2) u5 _ l3 rfl HA7.row _ 1 1 _ _ _ rfl hB7 (by omega) HA7.lt ?_; intro v8 w8 hO8 hg8)
          have HA8 := HA7.grown hO8 hg8
          have HE8 := eb_grown HE7 (by decide) HA7.row hg8
          rw [← HR.out] at HA8
          clear HA7 HE7 hB7 hO8 hg8
          go_roundw
          case rel => exact ⟨j + 1, by omega, by go_num, (fun h => by cases h), HA8, HE8⟩
          case measure => simp [intOf]; omega
        · have hl3 : (l2 ++ List.replicate j 0).length ≤ 40 * k + 17 := by simp; omega
          cases hi
          · have HK3 : Hid (entsB false nw es (k + 1) = (l2 ++ List.replicate j 0) ++ (if kd.2.2.1 = 0 then 0 :: textB kd.2.1 else 1 :: (numB false nw kd.2.2.1 ++ numB false nw kd.2.2.2))) := by
              show _ = _
              rw [HK2.out, hhj rfl]
              simp
            clear hhj hc
            generalize l2 ++ List.replicate j 0 = l3 at HA6 hl3 HK3
            clear HK2
            obtain ⟨m0, m1, m2, m3⟩ := box_four HE6.out
            obtain ⟨f0, f1, _⟩ := box_form HA6.out.box2
            by_cases ho : kd.2.2.1 = 0
            · have so : (kd.2.2.1 == 0) = true := by simpa using ho
              have HO : Hid (kd.2.2.1 = 0) := ho
              clear ho
              go_wp2_with fail
              have HA7 := HA6.out.drew.alloc (.cells #[.int .u8 0, .int .u8 (kd.2.1.size : Int)] 5)
              have HE7 := eb_call HE6.out (((Below.refl _ wr).drew).alloc (Nat.le_refl _) (.cells #[.int .u8 0, .int .u8 (kd.2.1.size : Int)] 5))
              have hB7 := bytesAt_two wr.drew 0 (kd.2.1.size : Int) (by omega) (by omega)
              go_region_held3 (fun w' => w'.cell? ⟨M, 1, none⟩ = some (.string kd.2.1)) (go_keep)
                (first
                  | (refine step_as rfl _ _ rfl (w.heap.size + 2) v8 _ _ (by simp [Act.eval]) HA8.row kd.2.1 (by simp [Act.eval]) (by simp; omega) HA8.lt ?_; intro v9 w9 hO9 hg9; have HA9 := HA8.grown hO9 hg9; have HE9 := eb_grown HE8 (by decide) HA8.row hg9; obtain ⟨g0, g1, _⟩ := box_form HA9.box2; obtain ⟨_, p1, p2, p3⟩ := box_four HE9)
                  | (refine step_ab rfl _ _ rfl (w.heap.size + 2) u5 _ l3 (by simp [Act.eval]) HA7.row _ 2 2 _ _ _ (by simp [Act.eval]) hB7 (by omega) HA7.lt ?_; intro v8 w8 hO8 hg8; have HA8 := HA7.grown hO8 hg8; have HE8 := eb_grown HE7 (by decide) HA7.row hg8; obtain ⟨g0, g1, _⟩ := box_form HA8.box2; obtain ⟨_, p1, p2, p3⟩ := box_four HE8))
              have R : Hid (Acc w w.heap.size (.cells #[.int .i64 3, .int .i64 tx, .int .i64 id, .int .i64 root, .int .i64 count, .slice ka kn kc, .slice (some ⟨b, off, none⟩) n ec, .int .i64 next, .string data] 28) (.cells #[.bool false, .int .i64 nw, .bool false] 63) w9 v9 (entsB false nw es (k + 1))) := by
                show Acc _ _ _ _ _ _ _
                rw [HK3.out, if_pos HO.out, show (0 : Int) :: textB kd.2.1 = [0, (kd.2.1.size : Int)] ++ strB kd.2.1 from rfl, ← List.append_assoc]
                exact HA9
              have RL : Hid ((entsB false nw es (k + 1)).length ≤ 40 * (k + 1)) := by
                show _ ≤ _
                rw [HK3.out, if_pos HO.out, List.length_append, List.length_cons, textB_len]
                omega
              clear HA6 HE6 HA7 HE7 HA8 HE8 HA9 HE9 hB7 hO8 hg8 hO9 hg9
              go_wp2
              go_roundw
              case rel => exact ⟨k + 1, by omega, by go_num, R, RL⟩
              case measure => simp [intOf]; omega
            · have so : (kd.2.2.1 == 0) = false := by simpa using ho
              have HO : Hid (¬ kd.2.2.1 = 0) := ho
              clear ho
              have hv1 : I64 kd.2.2.1 := hfk.2.2.1
              have hv2 : I64 kd.2.2.2 := hfk.2.2.2
              go_wp2_with fail
              have HA7 := HA6.out.drew.alloc (.cells #[.int .u8 1] 5)
              have HE7 := eb_call HE6.out (((Below.refl _ wr).drew).alloc (Nat.le_refl _) (.cells #[.int .u8 1] 5))
              have hB7 := bytesAt_one wr.drew 1 (by omega)
              go_region_held3 (fun w' => w'.cell? ⟨M, 2, none⟩ = some (.int .i64 kd.2.2.1) ∧ w'.cell? ⟨M, 3, none⟩ = some (.int .i64 kd.2.2.2) ∧ w'.cell? ⟨w.heap.size + 1, 0, none⟩ = some (.bool false) ∧ w'.cell? ⟨w.heap.size + 1, 1, none⟩ = some (.int .i64 nw)) (go_keep)
                (first
                  | (refine step_ab rfl _ _ rfl (w.heap.size + 2) v10 _ _ (by simp [Act.eval]) HA11.row a11 nw c11 _ _ _ (by simp [Act.eval]) hB11 (by simp [numB_len]; omega) HA11.lt ?_; intro v12 w12 hO12 hg12; have HA12 := HA11.grown hO12 hg12; have HE12 := eb_grown HE11 (by decide) HA11.row hg12; obtain ⟨g0, g1, _⟩ := box_form HA12.box2; obtain ⟨_, p1, p2, p3⟩ := box_four HE12)
                  | (go_at_call 40; refine (l2Put_any false kd.2.2.2 hv2 nw hnw w10).mono ?_; rintro e w11 ⟨a11, c11, rfl, _, hB11, hb11⟩; have HA11 := HA10.call hb11; have HE11 := eb_call HE10 hb11; obtain ⟨g0, g1, _⟩ := box_form HA11.box2; obtain ⟨_, p1, p2, p3⟩ := box_four HE11)
                  | (refine step_ab rfl _ _ rfl (w.heap.size + 2) v8 _ _ (by simp [Act.eval]) HA9.row a9 nw c9 _ _ _ (by simp [Act.eval]) hB9 (by simp; omega) HA9.lt ?_; intro v10 w10 hO10 hg10; have HA10 := HA9.grown hO10 hg10; have HE10 := eb_grown HE9 (by decide) HA9.row hg10; obtain ⟨g0, g1, _⟩ := box_form HA10.box2; obtain ⟨_, p1, p2, p3⟩ := box_four HE10)
                  | (go_at_call 40; refine (l2Put_any false kd.2.2.1 hv1 nw hnw w8).mono ?_; rintro e w9 ⟨a9, c9, rfl, _, hB9, hb9⟩; have HA9 := HA8.call hb9; have HE9 := eb_call HE8 hb9; obtain ⟨g0, g1, _⟩ := box_form HA9.box2; obtain ⟨_, p1, p2, p3⟩ := box_four HE9)
                  | (refine step_ab rfl _ _ rfl (w.heap.size + 2) u5 _ l3 (by simp [Act.eval]) HA7.row _ 1 1 _ _ _ (by simp [Act.eval]) hB7 (by omega) HA7.lt ?_; intro v8 w8 hO8 hg8; have HA8 := HA7.grown hO8 hg8; have HE8 := eb_grown HE7 (by decide) HA7.row hg8; obtain ⟨g0, g1, _⟩ := box_form HA8.box2; obtain ⟨_, p1, p2, p3⟩ := box_four HE8))
              have R : Hid (Acc w w.heap.size (.cells #[.int .i64 3, .int .i64 tx, .int .i64 id, .int .i64 root, .int .i64 count, .slice ka kn kc, .slice (some ⟨b, off, none⟩) n ec, .int .i64 next, .string data] 28) (.cells #[.bool false, .int .i64 nw, .bool false] 63) w12 v12 (entsB false nw es (k + 1))) := by
                show Acc _ _ _ _ _ _ _
                rw [HK3.out, if_neg HO.out, show (1 : Int) :: (numB false nw kd.2.2.1 ++ numB false nw kd.2.2.2) = [1] ++ (numB false nw kd.2.2.1 ++ numB false nw kd.2.2.2) from rfl, ← List.append_assoc, ← List.append_assoc]
                exact HA12
              have RL : Hid ((entsB false nw es (k + 1)).length ≤ 40 * (k + 1)) := by
                show _ ≤ _
                rw [HK3.out, if_neg HO.out, List.length_append, List.length_cons, List.length_append, numB_len, numB_len]
                omega
              clear HA6 HE6 HA7 HE7 HA8 HE8 HA9 HE9 HA10 HE10 HA11 HE11 HA12 HE12 hB7 hB9 hB11 hO8 hg8 hO10 hg10 hO12 hg12 hb9 hb11
              go_wp2
              go_roundw
              case rel => exact ⟨k + 1, by omega, by go_num, R, RL⟩
              case measure => simp [intOf]; omega
          · have hj8 : kd.1.size + j = 8 := by simp at hc; omega
            have HK3 : Hid (entsB true nw es (k + 1) = (l2 ++ List.replicate j 0) ++ (if kd.2.2.1 = 0 then 0 :: textB kd.2.1 else 1 :: (numB true nw kd.2.2.1 ++ numB true nw kd.2.2.2))) := by
              show _ = _
              rw [HK2.out, show j = 8 - kd.1.size by omega]
              simp
            have hc3 : ¬ ((kd.1.size + j : Nat) : Int) < 8 := by omega
            clear hhj hc hj8
            generalize l2 ++ List.replicate j 0 = l3 at HA6 hl3 HK3
            clear HK2
            obtain ⟨m0, m1, m2, m3⟩ := box_four HE6.out
            obtain ⟨f0, f1, _⟩ := box_form HA6.out.box2
            by_cases ho : kd.2.2.1 = 0
            · have so : (kd.2.2.1 == 0) = true := by simpa using ho
              have HO : Hid (kd.2.2.1 = 0) := ho
              clear ho
              go_wp2_with fail
              have HA7 := HA6.out.drew.alloc (.cells #[.int .u8 0, .int .u8 (kd.2.1.size : Int)] 5)
              have HE7 := eb_call HE6.out (((Below.refl _ wr).drew).alloc (Nat.le_refl _) (.cells #[.int .u8 0, .int .u8 (kd.2.1.size : Int)] 5))
              have hB7 := bytesAt_two wr.drew 0 (kd.2.1.size : Int) (by omega) (by omega)
              go_region_held3 (fun w' => w'.cell? ⟨M, 1, none⟩ = some (.string kd.2.1)) (go_keep)
                (first
                  | (refine step_as rfl _ _ rfl (w.heap.size + 2) v8 _ _ (by simp [Act.eval]) HA8.row kd.2.1 (by simp [Act.eval]) (by simp; omega) HA8.lt ?_; intro v9 w9 hO9 hg9; have HA9 := HA8.grown hO9 hg9; have HE9 := eb_grown HE8 (by decide) HA8.row hg9; obtain ⟨g0, g1, _⟩ := box_form HA9.box2; obtain ⟨_, p1, p2, p3⟩ := box_four HE9)
                  | (refine step_ab rfl _ _ rfl (w.heap.size + 2) u5 _ l3 (by simp [Act.eval]) HA7.row _ 2 2 _ _ _ (by simp [Act.eval]) hB7 (by omega) HA7.lt ?_; intro v8 w8 hO8 hg8; have HA8 := HA7.grown hO8 hg8; have HE8 := eb_grown HE7 (by decide) HA7.row hg8; obtain ⟨g0, g1, _⟩ := box_form HA8.box2; obtain ⟨_, p1, p2, p3⟩ := box_four HE8))
              have R : Hid (Acc w w.heap.size (.cells #[.int .i64 3, .int .i64 tx, .int .i64 id, .int .i64 root, .int .i64 count, .slice ka kn kc, .slice (some ⟨b, off, none⟩) n ec, .int .i64 next, .string data] 28) (.cells #[.bool true, .int .i64 nw, .bool true] 63) w9 v9 (entsB true nw es (k + 1))) := by
                show Acc _ _ _ _ _ _ _
                rw [HK3.out, if_pos HO.out, show (0 : Int) :: textB kd.2.1 = [0, (kd.2.1.size : Int)] ++ strB kd.2.1 from rfl, ← List.append_assoc]
                exact HA9
              have RL : Hid ((entsB true nw es (k + 1)).length ≤ 40 * (k + 1)) := by
                show _ ≤ _
                rw [HK3.out, if_pos HO.out, List.length_append, List.length_cons, textB_len]
                omega
              clear HA6 HE6 HA7 HE7 HA8 HE8 HA9 HE9 hB7 hO8 hg8 hO9 hg9
              go_wp2
              go_roundw
              case rel => exact ⟨k + 1, by omega, by go_num, R, RL⟩
              case measure => simp [intOf]; omega
            · have so : (kd.2.2.1 == 0) = false := by simpa using ho
              have HO : Hid (¬ kd.2.2.1 = 0) := ho
              clear ho
              have hv1 : I64 kd.2.2.1 := hfk.2.2.1
              have hv2 : I64 kd.2.2.2 := hfk.2.2.2
              go_wp2_with fail
              have HA7 := HA6.out.drew.alloc (.cells #[.int .u8 1] 5)
              have HE7 := eb_call HE6.out (((Below.refl _ wr).drew).alloc (Nat.le_refl _) (.cells #[.int .u8 1] 5))
              have hB7 := bytesAt_one wr.drew 1 (by omega)
              go_region_held3 (fun w' => w'.cell? ⟨M, 2, none⟩ = some (.int .i64 kd.2.2.1) ∧ w'.cell? ⟨M, 3, none⟩ = some (.int .i64 kd.2.2.2) ∧ w'.cell? ⟨w.heap.size + 1, 0, none⟩ = some (.bool true) ∧ w'.cell? ⟨w.heap.size + 1, 1, none⟩ = some (.int .i64 nw)) (go_keep)
                (first
                  | (refine step_ab rfl _ _ rfl (w.heap.size + 2) v10 _ _ (by simp [Act.eval]) HA11.row a11 nw c11 _ _ _ (by simp [Act.eval]) hB11 (by simp [numB_len]; omega) HA11.lt ?_; intro v12 w12 hO12 hg12; have HA12 := HA11.grown hO12 hg12; have HE12 := eb_grown HE11 (by decide) HA11.row hg12; obtain ⟨g0, g1, _⟩ := box_form HA12.box2; obtain ⟨_, p1, p2, p3⟩ := box_four HE12)
                  | (go_at_call 40; refine (l2Put_any true kd.2.2.2 hv2 nw hnw w10).mono ?_; rintro e w11 ⟨a11, c11, rfl, _, hB11, hb11⟩; have HA11 := HA10.call hb11; have HE11 := eb_call HE10 hb11; obtain ⟨g0, g1, _⟩ := box_form HA11.box2; obtain ⟨_, p1, p2, p3⟩ := box_four HE11)
                  | (refine step_ab rfl _ _ rfl (w.heap.size + 2) v8 _ _ (by simp [Act.eval]) HA9.row a9 nw c9 _ _ _ (by simp [Act.eval]) hB9 (by simp; omega) HA9.lt ?_; intro v10 w10 hO10 hg10; have HA10 := HA9.grown hO10 hg10; have HE10 := eb_grown HE9 (by decide) HA9.row hg10; obtain ⟨g0, g1, _⟩ := box_form HA10.box2; obtain ⟨_, p1, p2, p3⟩ := box_four HE10)
                  | (go_at_call 40; refine (l2Put_any true kd.2.2.1 hv1 nw hnw w8).mono ?_; rintro e w9 ⟨a9, c9, rfl, _, hB9, hb9⟩; have HA9 := HA8.call hb9; have HE9 := eb_call HE8 hb9; obtain ⟨g0, g1, _⟩ := box_form HA9.box2; obtain ⟨_, p1, p2, p3⟩ := box_four HE9)
                  | (refine step_ab rfl _ _ rfl (w.heap.size + 2) u5 _ l3 (by simp [Act.eval]) HA7.row _ 1 1 _ _ _ (by simp [Act.eval]) hB7 (by omega) HA7.lt ?_; intro v8 w8 hO8 hg8; have HA8 := HA7.grown hO8 hg8; have HE8 := eb_grown HE7 (by decide) HA7.row hg8; obtain ⟨g0, g1, _⟩ := box_form HA8.box2; obtain ⟨_, p1, p2, p3⟩ := box_four HE8))
              have R : Hid (Acc w w.heap.size (.cells #[.int .i64 3, .int .i64 tx, .int .i64 id, .int .i64 root, .int .i64 count, .slice ka kn kc, .slice (some ⟨b, off, none⟩) n ec, .int .i64 next, .string data] 28) (.cells #[.bool true, .int .i64 nw, .bool true] 63) w12 v12 (entsB true nw es (k + 1))) := by
                show Acc _ _ _ _ _ _ _
                rw [HK3.out, if_neg HO.out, show (1 : Int) :: (numB true nw kd.2.2.1 ++ numB true nw kd.2.2.2) = [1] ++ (numB true nw kd.2.2.1 ++ numB true nw kd.2.2.2) from rfl, ← List.append_assoc, ← List.append_assoc]
                exact HA12
              have RL : Hid ((entsB true nw es (k + 1)).length ≤ 40 * (k + 1)) := by
                show _ ≤ _
                rw [HK3.out, if_neg HO.out, List.length_append, List.length_cons, List.length_append, numB_len, numB_len]
                omega
              clear HA6 HE6 HA7 HE7 HA8 HE8 HA9 HE9 HA10 HE10 HA11 HE11 HA12 HE12 hB7 hB9 hB11 hO8 hg8 hO10 hg10 hO12 hg12 hb9 hb11
              go_wp2
              go_roundw
              case rel => exact ⟨k + 1, by omega, by go_num, R, RL⟩
              case measure => simp [intOf]; omega
    · go_wp2
      go_ret
      obtain rfl : k = n := by omega
      exact ⟨_, _, rfl, owns_base HA.out.row (by omega), HA.out.bel⟩
end Go.Proofs.Ytcmhobbpeaeebaa
