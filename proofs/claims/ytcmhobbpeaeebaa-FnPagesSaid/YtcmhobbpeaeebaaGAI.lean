import Derived.Test.YtcmhobbpeaeebaaGAD
import Derived.Test.YtcmhobbpeaeebaaGAH
namespace Go.Proofs.Ytcmhobbpeaeebaa
open Go.RowKit
set_option linter.unusedVariables false
set_option maxRecDepth 100000

theorem xor8_range (a b : Int) : 0 ≤ bits .xor .u8 a b ∧ bits .xor .u8 a b ≤ 255 := by
  unfold bits
  simp only [IntKind.wrap_u8]
  omega
theorem u8s_set (bs : List Int) (j : Nat) (y : Int) : (u8s bs).set j (.int .u8 y) = u8s (bs.set j y) := by simp [u8s, List.map_set]
theorem set_byte {bs : List Int} (h : ∀ x ∈ bs, 0 ≤ x ∧ x ≤ 255) (j : Nat) {y : Int} (hy : 0 ≤ y ∧ y ≤ 255) : ∀ x ∈ bs.set j y, 0 ≤ x ∧ x ≤ 255 := by
  intro x hx
  rcases List.mem_or_eq_of_mem_set hx with hx | rfl
  · exact h x hx
  · exact hy
/-- Bytes are told, from T on; nothing below S is written. -/
structure TRes (S T : Nat) (w : World) (e : Ending) (w' : World) : Prop where
  out : ∃ (a' : Option Addr) (n' c' : Nat) (bs' : List Int), e = .returned (.slice a' n' c') ∧ BytesAt w' T w'.heap.size a' n' c' bs' ∧ Below S w w'
set_option maxHeartbeats 3200000 in
theorem l2Turn_any (C A B : Nat) (w : World) (h : DCur w C A B) (old : Bool) (S T : Nat) (hS : S ≤ C) (hT : C < T) (hTw : T ≤ w.heap.size) (a : Option Addr) (n c : Nat) (bs : List Int) (hO : w.ownsRow T 5 1 (.slice a n c) n (u8s bs)) (hb : ∀ x ∈ bs, 0 ≤ x ∧ x ≤ 255) :
    Calls Try.prog 73 #[.pointer (some ⟨C, 0, none⟩), .slice a n c, .bool old] w fun e w' => TRes S T w e w' := by
  go_enter Try.func73, Try.ntmps73
  by_cases hn : n = 128
  · subst hn
    go_wp2_with fail
    refine (l1Below_any C A B w h 128 (by omega) (by omega)).mono ?_
    rintro e w1 ⟨k, rfl, hk, hD1, hF1⟩
    have hO1 := owns_fr hO hF1 (fun g e e' => by have := (hO.lt g e).1; omega)
    have b1 : Below S w w1 := hF1.below (by omega) (fun g e => by omega)
    go_wp2_with fail
    refine (l1Once_any C A B w1 hD1 2 (by omega) (by omega)).mono ?_
    rintro e w2 ⟨b, rfl, hD2, hF2⟩
    have hO2 := owns_fr hO1 hF2 (fun g e e' => by have := (hO1.lt g e).1; omega)
    have b2 : Below S w w2 := b1.trans (hF2.below (by have := b1.size; omega) (fun g e => by omega))
    clear hD1 hF1 hO1 b1 hF2 hO h
    have hk128 : k < 128 := by omega
    clear hk
    cases b
    · go_wp2_with fail
      refine (l1Below_any C A B w2 hD2 255 (by omega) (by omega)).mono ?_
      rintro e w3 ⟨x, rfl, hx, hD3, hF3⟩
      have hO3 := owns_fr hO2 hF3 (fun g e e' => by have := (hO2.lt g e).1; omega)
      have b3 : Below S w w3 := b2.trans (hF3.below (by have := b2.size; omega) (fun g e => by omega))
      clear hD2 hF3 hO2 b2
      obtain ⟨g, rfl⟩ := owns_someD hO3 (by omega)
      have hf := hO3.frozenAt k
      have hbl : bs.length = 128 := by have := hO3.1; simpa [u8s] using this
      have e1 : w3.cell? ⟨g, k, none⟩ = some (.int .u8 (bs.getD k 0)) := by
        rw [hO3.cellAt k (by omega)]
        simp [u8s, List.getD, hbl, hk128]
      generalize bs.getD k 0 = y0 at e1
      go_wp2_with fail
      have hy := xor8_range y0 (1 + (x : Int))
      generalize bits .xor .u8 y0 (1 + (x : Int)) = y at hy ⊢
      obtain ⟨R1, R2⟩ := hO3.stored k (.int .u8 y)
      rw [u8s_set] at R1
      have hb4 := set_byte hb k hy
      have hgT : T ≤ g := (hO3.lt g rfl).1
      have hF4 := setD_fr w3 g k (.int .u8 y)
      have hD4 := hD3.frg hF4 (fun g e => by omega)
      have b4 : Below S w (w3.setCell ⟨g, k, none⟩ (.int .u8 y)) := b3.trans (hF4.below (by have := b3.size; omega) (fun g e => by omega))
      have hbl4 : (bs.set k y).length = 128 := by simpa using hbl
      clear hf e1 hO3 b3 hD3 R2 hF4 hb hbl
      generalize w3.setCell ⟨g, k, none⟩ (.int .u8 y) = w4 at R1 hD4 b4 ⊢
      generalize bs.set k y = bs4 at R1 hb4 hbl4
      refine (l1Once_any C A B w4 hD4 2 (by omega) (by omega)).mono ?_
      rintro e w5 ⟨b, rfl, hD5, hF5⟩
      have hO5 := owns_fr R1 hF5 (fun g e e' => by have := (R1.lt g e).1; omega)
      have b5 : Below S w w5 := b4.trans (hF5.below (by have := b4.size; omega) (fun g e => by omega))
      clear hD4 hF5 R1 b4
      have hB5 := bytesAt_row hO5 hb4
      have hcc : 128 ≤ c := hB5.2.1
      have hcm : c ≤ maxLen := hB5.2.2.1
      unfold maxLen at hcm
      cases b
      · cases old
        · have hb6 : Below w5.heap.size w5 (w5.alloc (.cells #[] 5)) := (Below.refl _ _).alloc (Nat.le_refl _) _
          have hR6 : (w5.alloc (.cells #[] 5)).ownsRow w5.heap.size 5 1 (.slice (some ⟨w5.heap.size, 0, none⟩) 0 0) 0 (u8s []) := by
            have := World.ownsRow_made w5 #[] (base := w5.heap.size) (e := 5) (size := 1) 0 (by simp) (by unfold maxLen; omega) (by simp)
            simpa [u8s] using this
          have hS120 : BytesAt w5 T w5.heap.size (some ⟨g, 0, none⟩) 120 c (bs4.take 120) := by have := bytesAt_sub hB5 0 120 (by omega) (by omega); simpa using this
          have hS4 : BytesAt w5 T w5.heap.size (some ⟨g, 0, none⟩) 4 c (bs4.take 4) := by have := bytesAt_sub hB5 0 4 (by omega) (by omega); simpa using this
          clear hB5 hO5
          have h120 : (120 : Nat) ≤ c := by omega
          have h4c : (4 : Nat) ≤ c := by omega
          go_wp2_with (at_builtin; refine wpList_ab rfl _ _ rfl w5.heap.size _ 0 [] rfl hR6 (some ⟨g, 0, none⟩) 120 c (bs4.take 120) _ _ rfl (hS120.below hb6) (by omega) hb6.size ?_; intro v7 w7 hO7' hg7; have hO7 : w7.ownsRow w5.heap.size 5 1 v7 120 (u8s (bs4.take 120)) := hO7'; obtain ⟨a7, c7, rfl⟩ := own_shape hO7; have hb7 := hb6.grown hg7 hb6.size (fun g e => (hR6.lt g e).1); clear hO7' hg7)
          have hl7 : ∀ x ∈ bs4.take 120, 0 ≤ x ∧ x ≤ 255 := fun x hx => hb4 x (List.mem_of_mem_take hx)
          have hB7 := bytesAt_row hO7 hl7
          have b7 := b5.trans (hb7.mono (by have := b5.size; omega))
          have hS47 := hS4.below hb7
          have hs7 := hb7.size
          clear hR6 hb6 hS120 hS4
          generalize bs4.take 120 = l7 at hO7 hl7 hB7
          refine (specCrc0 a7 120 c7 l7 w7 _ _ hB7).mono ?_
          rintro e w7' ⟨rfl, rfl⟩
          have hcr := crcOf_range l7
          generalize crcOf l7 = z at hcr ⊢
          go_wp2_with fail
          refine (l2Put_any false z (by unfold I64; omega) 4 (by omega) w7').mono ?_
          rintro e w8 ⟨a8, c8, rfl, hO8, hB8, hb8⟩
          have hO78 := owns_below hO7 hb8
          have b8 := b7.trans (hb8.mono (by have := b7.size; omega))
          have hS48 := hS47.below (hb8.mono (by omega))
          have hs8 := hb8.size
          clear hO7 hB7 b7 hS47 hb8 hO8
          have hl8 := numB_byte false 4 z
          generalize numB false 4 z = l8 at hB8 hl8
          go_wp2_with (at_builtin; first
            | (refine wpList_ab rfl _ _ rfl w5.heap.size _ 124 (l7 ++ l8) rfl hO9 (some ⟨g, 0, none⟩) 4 c (bs4.take 4) _ _ rfl (hS48.below (hb9.mono (by omega))) (by omega) (by omega) ?_; intro v10 w10 hO10' hg10; have hO10 : w10.ownsRow w5.heap.size 5 1 v10 128 (u8s (l7 ++ l8 ++ bs4.take 4)) := hO10'; obtain ⟨a10, c10, rfl⟩ := own_shape hO10; clear hO10')
            | (refine wpList_ab rfl _ _ rfl w5.heap.size _ 120 l7 rfl hO78 a8 4 c8 l8 _ _ rfl hB8 (by omega) (by omega) ?_; intro v9 w9 hO9' hg9; have hO9 : w9.ownsRow w5.heap.size 5 1 v9 124 (u8s (l7 ++ l8)) := hO9'; obtain ⟨a9, c9, rfl⟩ := own_shape hO9; have hb9 : Below w5.heap.size w8 w9 := (Below.refl _ _).grown hg9 (by omega) (fun g e => (hO78.lt g e).1); have hs9 := hb9.size; clear hO9' hg9))
          have hB10 := bytesAt_row (own_lowerD hO10 (show T ≤ w5.heap.size by have := b5.size; omega)) (bytes_app (bytes_app hl7 hl8) (fun x hx => hb4 x (List.mem_of_mem_take hx)))
          have b9 := b8.trans (hb9.mono (by have := b5.size; omega))
          have b10 := b9.grown hg10 (by have := b9.size; omega) (fun g e => by have := (hO9.lt g e).1; have := b5.size; omega)
          go_ret
          exact ⟨⟨_, _, _, _, rfl, hB10, b10⟩⟩
        · clear hB5
          go_wp2_with fail
          go_loop [9, 10] (fun s i => ∃ (j : Nat) (y : Int), j ≤ 127 ∧ i = .int .i64 j ∧ s = .int .u8 y ∧ 0 ≤ y ∧ y ≤ 255) (fun _ i => 127 - (intOf i).toNat)
          case atStart => exact ⟨0, 0, by omega, rfl, rfl, by omega, by omega⟩
          case round =>
            obtain ⟨j, z, hj, rfl, rfl, hz0, hz1⟩ := hrel
            by_cases hlt : j < 127
            · have e1 : w5.cell? ⟨g, j, none⟩ = some (.int .u8 (bs4.getD j 0)) := by
                rw [hO5.cellAt j (by omega)]
                simp [u8s, List.getD, hbl4, show j < 128 by omega]
              have hq := getD_byteD hb4 j
              generalize bs4.getD j 0 = q at e1 hq
              go_wp2
              go_round
              case rel => exact ⟨j + 1, _, by omega, by go_num, rfl, by omega, by omega⟩
              case measure => simp [intOf]; omega
            · obtain rfl : j = 127 := by omega
              have e1 : w5.cell? ⟨g, 127, none⟩ = some (.int .u8 (bs4.getD 127 0)) := by
                rw [hO5.cellAt 127 (by omega)]
                simp [u8s, List.getD, hbl4]
              have hf := hO5.frozenAt 127
              obtain ⟨R1, R2⟩ := hO5.stored 127 (.int .u8 z)
              rw [u8s_set] at R1
              have hB9 := bytesAt_row R1 (set_byte hb4 127 ⟨hz0, hz1⟩)
              have b9 : Below S w (w5.setCell ⟨g, 127, none⟩ (.int .u8 z)) := b5.trans ((setD_fr w5 g 127 (.int .u8 z)).below (by have := b5.size; omega) (fun g e => by omega))
              clear R1 R2 hO5
              go_wp2
              go_ret
              exact ⟨⟨_, _, _, _, rfl, hB9, b9⟩⟩
      · have hB := bytesAt_row hO5 hb4
        go_wp2
        go_ret
        exact ⟨⟨_, _, _, _, rfl, hB, b5⟩⟩
    · go_wp2_with fail
      refine (l1Below_any C A B w2 hD2 40 (by omega) (by omega)).mono ?_
      rintro e w20 ⟨k2, rfl, hk2, hD20, hF20⟩
      have hO20 := owns_fr hO2 hF20 (fun g e e' => by have := (hO2.lt g e).1; omega)
      have b20 : Below S w w20 := b2.trans (hF20.below (by have := b2.size; omega) (fun g e => by omega))
      clear hD2 hF20 hO2 b2 hk128
      have hk128 : k2 < 128 := by omega
      clear hk2
      go_wp2_with fail
      refine (l1Below_any C A B w20 hD20 255 (by omega) (by omega)).mono ?_
      rintro e w3 ⟨x, rfl, hx, hD3, hF3⟩
      have hO3 := owns_fr hO20 hF3 (fun g e e' => by have := (hO20.lt g e).1; omega)
      have b3 : Below S w w3 := b20.trans (hF3.below (by have := b20.size; omega) (fun g e => by omega))
      clear hD20 hF3 hO20 b20
      obtain ⟨g, rfl⟩ := owns_someD hO3 (by omega)
      have hf := hO3.frozenAt k2
      have hbl : bs.length = 128 := by have := hO3.1; simpa [u8s] using this
      have e1 : w3.cell? ⟨g, k2, none⟩ = some (.int .u8 (bs.getD k2 0)) := by
        rw [hO3.cellAt k2 (by omega)]
        simp [u8s, List.getD, hbl, hk128]
      generalize bs.getD k2 0 = y0 at e1
      go_wp2_with fail
      have hy := xor8_range y0 (1 + (x : Int))
      generalize bits .xor .u8 y0 (1 + (x : Int)) = y at hy ⊢
      obtain ⟨R1, R2⟩ := hO3.stored k2 (.int .u8 y)
      rw [u8s_set] at R1
      have hb4 := set_byte hb k2 hy
      have hgT : T ≤ g := (hO3.lt g rfl).1
      have hF4 := setD_fr w3 g k2 (.int .u8 y)
      have hD4 := hD3.frg hF4 (fun g e => by omega)
      have b4 : Below S w (w3.setCell ⟨g, k2, none⟩ (.int .u8 y)) := b3.trans (hF4.below (by have := b3.size; omega) (fun g e => by omega))
      have hbl4 : (bs.set k2 y).length = 128 := by simpa using hbl
      clear hf e1 hO3 b3 hD3 R2 hF4 hb hbl
      generalize w3.setCell ⟨g, k2, none⟩ (.int .u8 y) = w4 at R1 hD4 b4 ⊢
      generalize bs.set k2 y = bs4 at R1 hb4 hbl4
      refine (l1Once_any C A B w4 hD4 2 (by omega) (by omega)).mono ?_
      rintro e w5 ⟨b, rfl, hD5, hF5⟩
      have hO5 := owns_fr R1 hF5 (fun g e e' => by have := (R1.lt g e).1; omega)
      have b5 : Below S w w5 := b4.trans (hF5.below (by have := b4.size; omega) (fun g e => by omega))
      clear hD4 hF5 R1 b4
      have hB5 := bytesAt_row hO5 hb4
      have hcc : 128 ≤ c := hB5.2.1
      have hcm : c ≤ maxLen := hB5.2.2.1
      unfold maxLen at hcm
      cases b
      · cases old
        · have hb6 : Below w5.heap.size w5 (w5.alloc (.cells #[] 5)) := (Below.refl _ _).alloc (Nat.le_refl _) _
          have hR6 : (w5.alloc (.cells #[] 5)).ownsRow w5.heap.size 5 1 (.slice (some ⟨w5.heap.size, 0, none⟩) 0 0) 0 (u8s []) := by
            have := World.ownsRow_made w5 #[] (base := w5.heap.size) (e := 5) (size := 1) 0 (by simp) (by unfold maxLen; omega) (by simp)
            simpa [u8s] using this
          have hS120 : BytesAt w5 T w5.heap.size (some ⟨g, 0, none⟩) 120 c (bs4.take 120) := by have := bytesAt_sub hB5 0 120 (by omega) (by omega); simpa using this
          have hS4 : BytesAt w5 T w5.heap.size (some ⟨g, 0, none⟩) 4 c (bs4.take 4) := by have := bytesAt_sub hB5 0 4 (by omega) (by omega); simpa using this
          clear hB5 hO5
          have h120 : (120 : Nat) ≤ c := by omega
          have h4c : (4 : Nat) ≤ c := by omega
          go_wp2_with (at_builtin; refine wpList_ab rfl _ _ rfl w5.heap.size _ 0 [] rfl hR6 (some ⟨g, 0, none⟩) 120 c (bs4.take 120) _ _ rfl (hS120.below hb6) (by omega) hb6.size ?_; intro v7 w7 hO7' hg7; have hO7 : w7.ownsRow w5.heap.size 5 1 v7 120 (u8s (bs4.take 120)) := hO7'; obtain ⟨a7, c7, rfl⟩ := own_shape hO7; have hb7 := hb6.grown hg7 hb6.size (fun g e => (hR6.lt g e).1); clear hO7' hg7)
          have hl7 : ∀ x ∈ bs4.take 120, 0 ≤ x ∧ x ≤ 255 := fun x hx => hb4 x (List.mem_of_mem_take hx)
          have hB7 := bytesAt_row hO7 hl7
          have b7 := b5.trans (hb7.mono (by have := b5.size; omega))
          have hS47 := hS4.below hb7
          have hs7 := hb7.size
          clear hR6 hb6 hS120 hS4
          generalize bs4.take 120 = l7 at hO7 hl7 hB7
          refine (specCrc0 a7 120 c7 l7 w7 _ _ hB7).mono ?_
          rintro e w7' ⟨rfl, rfl⟩
          have hcr := crcOf_range l7
          generalize crcOf l7 = z at hcr ⊢
          go_wp2_with fail
          refine (l2Put_any false z (by unfold I64; omega) 4 (by omega) w7').mono ?_
          rintro e w8 ⟨a8, c8, rfl, hO8, hB8, hb8⟩
          have hO78 := owns_below hO7 hb8
          have b8 := b7.trans (hb8.mono (by have := b7.size; omega))
          have hS48 := hS47.below (hb8.mono (by omega))
          have hs8 := hb8.size
          clear hO7 hB7 b7 hS47 hb8 hO8
          have hl8 := numB_byte false 4 z
          generalize numB false 4 z = l8 at hB8 hl8
          go_wp2_with (at_builtin; first
            | (refine wpList_ab rfl _ _ rfl w5.heap.size _ 124 (l7 ++ l8) rfl hO9 (some ⟨g, 0, none⟩) 4 c (bs4.take 4) _ _ rfl (hS48.below (hb9.mono (by omega))) (by omega) (by omega) ?_; intro v10 w10 hO10' hg10; have hO10 : w10.ownsRow w5.heap.size 5 1 v10 128 (u8s (l7 ++ l8 ++ bs4.take 4)) := hO10'; obtain ⟨a10, c10, rfl⟩ := own_shape hO10; clear hO10')
            | (refine wpList_ab rfl _ _ rfl w5.heap.size _ 120 l7 rfl hO78 a8 4 c8 l8 _ _ rfl hB8 (by omega) (by omega) ?_; intro v9 w9 hO9' hg9; have hO9 : w9.ownsRow w5.heap.size 5 1 v9 124 (u8s (l7 ++ l8)) := hO9'; obtain ⟨a9, c9, rfl⟩ := own_shape hO9; have hb9 : Below w5.heap.size w8 w9 := (Below.refl _ _).grown hg9 (by omega) (fun g e => (hO78.lt g e).1); have hs9 := hb9.size; clear hO9' hg9))
          have hB10 := bytesAt_row (own_lowerD hO10 (show T ≤ w5.heap.size by have := b5.size; omega)) (bytes_app (bytes_app hl7 hl8) (fun x hx => hb4 x (List.mem_of_mem_take hx)))
          have b9 := b8.trans (hb9.mono (by have := b5.size; omega))
          have b10 := b9.grown hg10 (by have := b9.size; omega) (fun g e => by have := (hO9.lt g e).1; have := b5.size; omega)
          go_ret
          exact ⟨⟨_, _, _, _, rfl, hB10, b10⟩⟩
        · clear hB5
          go_wp2_with fail
          go_loop [9, 10] (fun s i => ∃ (j : Nat) (y : Int), j ≤ 127 ∧ i = .int .i64 j ∧ s = .int .u8 y ∧ 0 ≤ y ∧ y ≤ 255) (fun _ i => 127 - (intOf i).toNat)
          case atStart => exact ⟨0, 0, by omega, rfl, rfl, by omega, by omega⟩
          case round =>
            obtain ⟨j, z, hj, rfl, rfl, hz0, hz1⟩ := hrel
            by_cases hlt : j < 127
            · have e1 : w5.cell? ⟨g, j, none⟩ = some (.int .u8 (bs4.getD j 0)) := by
                rw [hO5.cellAt j (by omega)]
                simp [u8s, List.getD, hbl4, show j < 128 by omega]
              have hq := getD_byteD hb4 j
              generalize bs4.getD j 0 = q at e1 hq
              go_wp2
              go_round
              case rel => exact ⟨j + 1, _, by omega, by go_num, rfl, by omega, by omega⟩
              case measure => simp [intOf]; omega
            · obtain rfl : j = 127 := by omega
              have e1 : w5.cell? ⟨g, 127, none⟩ = some (.int .u8 (bs4.getD 127 0)) := by
                rw [hO5.cellAt 127 (by omega)]
                simp [u8s, List.getD, hbl4]
              have hf := hO5.frozenAt 127
              obtain ⟨R1, R2⟩ := hO5.stored 127 (.int .u8 z)
              rw [u8s_set] at R1
              have hB9 := bytesAt_row R1 (set_byte hb4 127 ⟨hz0, hz1⟩)
              have b9 : Below S w (w5.setCell ⟨g, 127, none⟩ (.int .u8 z)) := b5.trans ((setD_fr w5 g 127 (.int .u8 z)).below (by have := b5.size; omega) (fun g e => by omega))
              clear R1 R2 hO5
              go_wp2
              go_ret
              exact ⟨⟨_, _, _, _, rfl, hB9, b9⟩⟩
      · have hB := bytesAt_row hO5 hb4
        go_wp2
        go_ret
        exact ⟨⟨_, _, _, _, rfl, hB, b5⟩⟩
  · have hB := bytesAt_row hO hb
    go_wp2
    go_ret
    exact ⟨⟨_, _, _, _, rfl, hB, Below.refl _ _⟩⟩
end Go.Proofs.Ytcmhobbpeaeebaa
namespace Go.Proofs.Ytcmhobbpeaeebaa
open Go.RowKit
set_option linter.unusedVariables false
set_option maxRecDepth 100000

theorem l2Old_any (w : World) : Calls Try.prog 50 #[] w fun e w' => e = .returned (.agg #[.bool true, .int .i64 2, .bool true]) ∧ Below w.heap.size w w' := by
  go_enter Try.func50, Try.ntmps50
  go_wp2
  exact bodyPost_ret (v := .agg #[.bool true, .int .i64 2, .bool true]) (by simp [results, Try.results50, go_sem]) rfl ⟨rfl, by first | exact Below.refl _ _ | exact (Below.refl _ _).alloc (Nat.le_refl _) _⟩

set_option maxHeartbeats 1600000 in
theorem specEncodeOld_any (p : Pg) (hf : PgFit p) (ka : Option Addr) (kc : Nat) (ea : Option Addr) (ec : Nat) (w : World) (A B : Nat) (hB : B ≤ w.heap.size) (hK : KidsAt w A B ka p.ks.length kc p.ks) (hE : EntsAt w A B ea p.es.length ec p.es) :
    Calls Try.prog 30 #[.agg #[.int .i64 p.kind, .int .i64 p.tx, .int .i64 p.id, .int .i64 p.root, .int .i64 p.count, .slice ka p.ks.length kc, .slice ea p.es.length ec, .int .i64 p.next, .string p.data]] w fun e w' => ∃ v, e = .returned v ∧ w'.ownsRow w.heap.size 5 1 v (oldCodeOf p).length (u8s (oldCodeOf p)) ∧ Below w.heap.size w w' := by
  have hb0 : Below w.heap.size w (w.alloc (.cells #[.int .i64 p.kind, .int .i64 p.tx, .int .i64 p.id, .int .i64 p.root, .int .i64 p.count, .slice ka p.ks.length kc, .slice ea p.es.length ec, .int .i64 p.next, .string p.data] 28)) := (Below.refl _ _).alloc (Nat.le_refl _) _
  by_cases htx : p.tx = 0
  · have st : (p.tx != 0) = false := by simpa using htx
    have HT : Hid (p.tx = 0) := htx
    clear htx
    by_cases hok : bodyOk 1 998 p = true
    · go_enter Try.func30, Try.ntmps30
      go_wp2_with (go_at_call 39; refine (l2Body_any p hf ka kc ea ec 1 998 (by omega) _ A B (by simp; omega) (hK.below (hb0.mono hB)) (hE.below (hb0.mono hB))).mono ?_; rintro e w1 ⟨rfl, hb1⟩; have hB2 := hb0.trans (hb1.mono (by simp)); have HX1 := eb_call (heap_alloc_new w _) hb1; obtain ⟨c5, c6, c0, c2, c3, c4, c7, c8, c1⟩ := box_slice HX1)
      have hcnt := body_count hok
      have hkw : IntKind.u8.wrap p.kind = p.kind := u8_in p.kind (body_kind hok)
      have hlen := bodyB_len true hok
      go_region_held3 (fun w' => w'.cell? ⟨w.heap.size, 0, none⟩ = some (.int .i64 p.kind) ∧ w'.cell? ⟨w.heap.size, 1, none⟩ = some (.int .i64 p.tx) ∧ w'.cell? ⟨w.heap.size, 2, none⟩ = some (.int .i64 p.id) ∧ w'.cell? ⟨w.heap.size, 3, none⟩ = some (.int .i64 p.root) ∧ w'.cell? ⟨w.heap.size, 4, none⟩ = some (.int .i64 p.count) ∧ w'.cell? ⟨w.heap.size, 5, none⟩ = some (.slice ka p.ks.length kc) ∧ w'.cell? ⟨w.heap.size, 6, none⟩ = some (.slice ea p.es.length ec) ∧ w'.cell? ⟨w.heap.size, 7, none⟩ = some (.int .i64 p.next) ∧ w'.cell? ⟨w.heap.size, 8, none⟩ = some (.string p.data)) (go_keep)
        (first
          | (refine step_ab rfl _ _ rfl w.heap.size _ 3 [79, p.kind, ((p.ks.length + p.es.length : Nat) : Int)] (by simp [Act.eval]) hLrow aw m4 cw (bodyB true p) _ _ (by simp [Act.eval]) hBW (by have := hBW.1; omega) hB5.size ?_; intro v5 w5 hO5 hg5; have HX5 := eb_grown HX4 (by decide) hLrow hg5; have hB6 := hB5.grown hg5 hB5.size (fun g e => (hLrow.lt g e).1); obtain ⟨k5, k6, k0, k2, k3, k4, k7, k8, k1⟩ := box_slice HX5)
          | (have hL3' := hL3; go_at_call 43; refine (l2WriteBody_any true p hf 1 998 hok ka kc ea ec w3 A B (Nat.le_trans hB hB4.size) (hK.below (hB4.mono hB)) (hE.below (hB4.mono hB))).mono ?_; rintro e w4 ⟨v4, m4, rfl, hO4, hb4⟩; obtain ⟨aw, cw, rfl⟩ := own_shape hO4; have hBW0 := bytesAt_row hO4 (bodyB_byte true hok); have hBW := hBW0; have hLrow := owns_below hL3 hb4; have HX4 := eb_call HX3 hb4; have hB5 := hB4.trans (hb4.mono hB4.size); obtain ⟨k5, k6, k0, k2, k3, k4, k7, k8, k1⟩ := box_slice HX4)
          | (go_at_call 43; refine (l2WriteBody_any true p hf 1 998 hok ka kc ea ec w3 A B (Nat.le_trans hB hB4.size) (hK.below (hB4.mono hB)) (hE.below (hB4.mono hB))).mono ?_; rintro e w4 ⟨v4, m4, rfl, hO4, hb4⟩; obtain ⟨aw, cw, rfl⟩ := own_shape hO4; have hBW0 := bytesAt_row hO4 (bodyB_byte true hok); have hBW := hBW0.below ((Below.refl w4.heap.size w4).alloc (Nat.le_refl _) (.cells #[.int .u8 79, .int .u8 p.kind, .int .u8 ((p.ks.length + p.es.length : Nat) : Int)] 5)); have hB5' := hB4.trans (hb4.mono hB4.size); have hLrow := World.ownsRow_lit (base := w.heap.size) (e := 5) (size := 1) w4 #[.int .u8 79, .int .u8 p.kind, .int .u8 ((p.ks.length + p.es.length : Nat) : Int)] 3 hB5'.size (by unfold maxLen; omega) rfl; have HX4' := eb_call HX3 hb4; have HX4 := eb_call HX4' ((Below.refl w4.heap.size w4).alloc (Nat.le_refl _) (.cells #[.int .u8 79, .int .u8 p.kind, .int .u8 ((p.ks.length + p.es.length : Nat) : Int)] 5)); have hB5 := hB5'.alloc hB5'.size (.cells #[.int .u8 79, .int .u8 p.kind, .int .u8 ((p.ks.length + p.es.length : Nat) : Int)] 5); obtain ⟨k5, k6, k0, k2, k3, k4, k7, k8, k1⟩ := box_slice HX4')
          | (have hB4a := hB4.alloc hB4.size (.cells #[.int .u8 79, .int .u8 p.kind, .int .u8 ((p.ks.length + p.es.length : Nat) : Int)] 5); go_at_call 43; refine (l2WriteBody_any true p hf 1 998 hok ka kc ea ec (w3.alloc (.cells #[.int .u8 79, .int .u8 p.kind, .int .u8 ((p.ks.length + p.es.length : Nat) : Int)] 5)) A B (Nat.le_trans hB hB4a.size) (hK.below (hB4a.mono hB)) (hE.below (hB4a.mono hB))).mono ?_; rintro e w4 ⟨v4, m4, rfl, hO4, hb4⟩; obtain ⟨aw, cw, rfl⟩ := own_shape hO4; have hBW0 := bytesAt_row hO4 (bodyB_byte true hok); have hBW := hBW0; have hLrow := owns_below (World.ownsRow_lit (base := w.heap.size) (e := 5) (size := 1) w3 #[.int .u8 79, .int .u8 p.kind, .int .u8 ((p.ks.length + p.es.length : Nat) : Int)] 3 hB4.size (by unfold maxLen; omega) rfl) hb4; have HX4 := eb_call (eb_call HX3 ((Below.refl w3.heap.size w3).alloc (Nat.le_refl _) (.cells #[.int .u8 79, .int .u8 p.kind, .int .u8 ((p.ks.length + p.es.length : Nat) : Int)] 5))) hb4; have hB5 := hB4a.trans (hb4.mono hB4a.size); obtain ⟨k5, k6, k0, k2, k3, k4, k7, k8, k1⟩ := box_slice HX4)
          | (go_at_call 50; refine (l2Old_any w2).mono ?_; rintro e w3 ⟨rfl, hb3⟩; have HX3 := eb_call HX2 hb3; have hB4 := hB3.trans (hb3.mono hB3.size); obtain ⟨k5, k6, k0, k2, k3, k4, k7, k8, k1⟩ := box_slice HX3)
          | (go_at_call 50; refine (l2Old_any (w2.alloc (.cells #[.int .u8 79, .int .u8 p.kind, .int .u8 ((p.ks.length + p.es.length : Nat) : Int)] 5))).mono ?_; rintro e w3 ⟨rfl, hb3⟩; have HX3 := eb_call (eb_call HX2 ((Below.refl w2.heap.size w2).alloc (Nat.le_refl _) (.cells #[.int .u8 79, .int .u8 p.kind, .int .u8 ((p.ks.length + p.es.length : Nat) : Int)] 5))) hb3; have hL3 := owns_below (World.ownsRow_lit (base := w.heap.size) (e := 5) (size := 1) w2 #[.int .u8 79, .int .u8 p.kind, .int .u8 ((p.ks.length + p.es.length : Nat) : Int)] 3 hB3.size (by unfold maxLen; omega) rfl) hb3; have hB4 := (hB3.alloc hB3.size (.cells #[.int .u8 79, .int .u8 p.kind, .int .u8 ((p.ks.length + p.es.length : Nat) : Int)] 5)).trans (hb3.mono (hB3.alloc hB3.size (.cells #[.int .u8 79, .int .u8 p.kind, .int .u8 ((p.ks.length + p.es.length : Nat) : Int)] 5)).size); obtain ⟨k5, k6, k0, k2, k3, k4, k7, k8, k1⟩ := box_slice HX3)
          | (go_at_call 41; refine (l2Count_any p ka p.ks.length kc ea p.es.length ec hcnt w1.drew).mono ?_; rintro e w2 ⟨rfl, hb2⟩; have HX2 := eb_call (w' := w1.drew) HX1 hb2; have hB3 := hB2.drew.trans (hb2.mono hB2.size); obtain ⟨k5, k6, k0, k2, k3, k4, k7, k8, k1⟩ := box_slice HX2))
      all_goals
        have hm4 : m4 = (bodyB true p).length := hBW.1.symm
        have hl5 : ([79, p.kind, ((p.ks.length + p.es.length : Nat) : Int)] ++ bodyB true p).length = 3 + m4 := by simp; omega
        have hby : ∀ x ∈ [79, p.kind, ((p.ks.length + p.es.length : Nat) : Int)] ++ bodyB true p, 0 ≤ x ∧ x ≤ 255 := bytes_app (by have := body_kind hok; intro x hx; simp at hx; omega) (bodyB_byte true hok)
        have HP : Hid (oldCodeOf p = padB 127 ([79, p.kind, ((p.ks.length + p.es.length : Nat) : Int)] ++ bodyB true p) ++ [sumI (padB 127 ([79, p.kind, ((p.ks.length + p.es.length : Nat) : Int)] ++ bodyB true p)) % 256]) := by
          show _ = _
          rw [oldCodeOf, if_pos ⟨HT.out, hok⟩]; rfl
        have hm100 : m4 ≤ 104 := by omega
        generalize [79, p.kind, ((p.ks.length + p.es.length : Nat) : Int)] ++ bodyB true p = l0 at hO5 hl5 hby HP
        have HO5 : Hid (w5.ownsRow w.heap.size 5 1 v5 (3 + m4) (u8s l0)) := hO5
        have HB6 : Hid (Below w.heap.size w w5) := hB6
        clear hlen hcnt hkw hBW hBW0 hLrow HX4 HX5 HX3 HX2 hO4 hg5 hB5 hB4 hB3 hb2 hb3 hb4 hm4 hB6 hO5 k0 k1 k2 k3 k4 k5 k6 k7 k8 c0 c1 c2 c3 c4 c5 c6 c7 c8 hok hK hE
        go_wp2_with (go_at_call 42; refine (l2Zeros_any v5 (3 + m4) 127 w.heap.size l0 hl5 (by omega) (by omega) w5 HO5.out HB6.out.size).mono ?_; rintro e w6 ⟨v6, rfl, hO6, hb6⟩; obtain ⟨z6, c6, rfl⟩ := own_shape hO6)
        have HPL : Hid (padB 127 l0 = l0 ++ List.replicate (127 - (3 + m4)) 0) := by show padB 127 l0 = _; rw [padB, hl5]
        have hlen6 : (l0 ++ List.replicate (127 - (3 + m4)) (0 : Int)).length = 127 := by simp; omega
        have hby6 : ∀ x ∈ l0 ++ List.replicate (127 - (3 + m4)) (0 : Int), 0 ≤ x ∧ x ≤ 255 := bytes_app hby (by intro x hx; have := List.eq_of_mem_replicate hx; omega)
        have HB7 : Hid (Below w.heap.size w w6) := HB6.out.trans hb6
        generalize l0 ++ List.replicate (127 - (3 + m4)) (0 : Int) = l1 at hO6 HPL hlen6 hby6
        rw [HPL.out] at HP
        have hBA := bytesAt_row hO6 hby6
        have HO6 : Hid (w6.ownsRow w.heap.size 5 1 (.slice z6 127 c6) 127 (u8s l1)) := hO6
        clear hO6 hb6 HO5 HB6 hby hl5 HPL
        have HLL : Hid (l1.length = 127) := hlen6
        clear hlen6
        go_loopw [4, 5] (fun s i wr => ∃ k : Nat, k ≤ 127 ∧ i = .int .i64 k ∧ wr = w6 ∧ s = .int .u8 (sumI (l1.take k) % 256)) (fun _ i _ => 127 - (intOf i).toNat)
        case atStart => exact ⟨0, by omega, rfl, rfl, rfl⟩
        case round =>
          obtain ⟨k, hk, rfl, rfl, rfl⟩ := hrel
          by_cases hlt : k < 127
          · obtain ⟨b, off, rfl, hb, hcb⟩ := hBA.2.2.2.2.1 (by omega)
            have e1 := hcb k hlt
            have hx := getD_byteB hby6 k
            have HS : Hid (sumI (l1.take (k + 1)) = sumI (l1.take k) + l1.getD k 0) := sumI_take (by have := HLL.out; omega)
            generalize l1.getD k 0 = x at e1 hx HS
            generalize sumI (l1.take k) = s at HS
            clear hBA hcb
            go_wp2
            go_roundw
            case rel => exact ⟨k + 1, by omega, by go_num, trivial, by rw [HS.out]; go_num⟩
            case measure => simp [intOf]; omega
          · obtain rfl : k = 127 := by omega
            have HT2 : Hid (l1.take 127 = l1) := List.take_of_length_le (by have := HLL.out; omega)
            rw [HT2.out]
            have hsx : 0 ≤ sumI l1 % 256 ∧ sumI l1 % 256 ≤ 255 := by omega
            generalize sumI l1 % 256 = s at hsx HP
            have hB8 := bytesAt_one wr s hsx
            have hO8 := HO6.out.alloc (.cells #[.int .u8 s] 5)
            have hsz8 := HB7.out.size
            clear hBA
            go_wp2_with (at_builtin; refine wpList_ab rfl _ _ rfl w.heap.size _ 127 l1 rfl hO8 _ 1 1 [s] _ _ rfl hB8 (by omega) (by simp; omega) ?_; intro v9 w9 hO9 hg9)
            go_ret
            refine ⟨_, rfl, ?_, (HB7.out.alloc hsz8 _).grown hg9 (by simp; omega) (fun g e => (hO8.lt g e).1)⟩
            rw [HP.out, List.length_append, HLL.out]
            exact hO9
    · have hok' : bodyOk 1 998 p = false := by simpa using hok
      go_enter Try.func30, Try.ntmps30
      go_wp2_with (go_at_call 39; refine (l2Body_any p hf ka kc ea ec 1 998 (by omega) _ A B (by simp; omega) (hK.below (hb0.mono hB)) (hE.below (hb0.mono hB))).mono ?_; rintro e w1 ⟨rfl, hb1⟩; have hB2 := hb0.trans (hb1.mono (by simp)); have HX1 := eb_call (heap_alloc_new w _) hb1; obtain ⟨c5, c6, c0, c2, c3, c4, c7, c8, c1⟩ := box_slice HX1)
      go_ret
      refine ⟨_, rfl, ?_, hB2.alloc hB2.size _⟩
      rw [oldCodeOf, if_neg (by simp [hok'])]
      exact World.ownsRow_made w1 #[] 0 hB2.size (by unfold maxLen; omega) (by simp)
  · have st : (p.tx != 0) = true := by simpa using htx
    have HT : Hid (¬ p.tx = 0) := htx
    clear htx
    go_enter Try.func30, Try.ntmps30
    go_wp2
    go_ret
    refine ⟨_, rfl, ?_, hb0.alloc (by simp) _⟩
    rw [oldCodeOf, if_neg (fun h => HT.out h.1)]
    have h := World.ownsRow_made (base := w.heap.size) (e := 5) (size := 1) (w.alloc (.cells #[.int .i64 p.kind, .int .i64 p.tx, .int .i64 p.id, .int .i64 p.root, .int .i64 p.count, .slice ka p.ks.length kc, .slice ea p.es.length ec, .int .i64 p.next, .string p.data] 28)) #[] 0 (by simp) (by unfold maxLen; omega) (by simp)
    simpa [u8s] using h
end Go.Proofs.Ytcmhobbpeaeebaa
namespace Go.Proofs.Ytcmhobbpeaeebaa
open Go.RowKit
set_option linter.unusedVariables false
set_option maxRecDepth 100000

theorem leB_take (x : Int) {n i : Nat} (h : i < n) : (leB n x).take (i + 1) = (leB n x).take i ++ [shr8 i x % 256] := by
  rw [List.take_add_one, leB_get x n i h]; rfl

set_option maxHeartbeats 800000 in
theorem putLow_any (C G k pf gf : Nat) (old : Bool) (L : List Int) (x : Int) (hx : I64 x) (n : Nat) (hn : n ≤ 8) (w : World) (h : Cur w C G old pf gf k L) (hk : k + n ≤ 128) :
    Calls Try.prog 79 #[.pointer (some ⟨C, 0, none⟩), .int .i64 x, .int .i64 n] w fun e w' => e = .returned (.tuple #[]) ∧ Wrote w w' C G old pf gf k L (leB n x) := by
  go_enter Try.func79, Try.ntmps79
  go_wp2_with fail
  go_loopw [1, 7] (fun xv iv wr => ∃ i : Nat, i ≤ n ∧ iv = .int .i64 i ∧ xv = .int .i64 (shr8 i x) ∧ Hid (Wrote w wr C G old pf gf k L ((leB n x).take i))) (fun _ iv _ => n - (intOf iv).toNat)
  case atStart => exact ⟨0, Nat.zero_le _, rfl, rfl, by show Wrote _ _ _ _ _ _ _ _ _ _; simpa using wrote_nil h⟩
  case round =>
    obtain ⟨i, hi, rfl, rfl, HW⟩ := hrel
    by_cases hlt : i < n
    · have HS : Hid ((leB n x).take (i + 1) = (leB n x).take i ++ [shr8 i x % 256]) := leB_take x hlt
      have HY : Hid (shr8 (i + 1) x = shr8 i x / 256) := rfl
      have hr := shr8_range hx i
      unfold I64 at hr
      have hc := HW.out.1
      have hll : ((leB n x).take i).length = i := by simp [leB_len]; omega
      rw [hll] at hc
      generalize shr8 i x = y at *
      go_wp2_with fail
      refine (putByte_any C G (k + i) pf gf old _ (y % 256) wr hc (by omega)).mono ?_
      rintro e w1 ⟨rfl, hw1⟩
      have R : Hid (Wrote w w1 C G old pf gf k L ((leB n x).take (i + 1))) := by
        show Wrote _ _ _ _ _ _ _ _ _ _
        rw [HS.out]
        exact HW.out.trans (by rw [hll, h.len]; omega) (by rw [hll]; exact hw1)
      clear hw1 hc HW
      go_wp2
      go_roundw
      case rel => exact ⟨i + 1, by omega, by go_num, by rw [HY.out], R⟩
      case measure => simp [intOf]; omega
    · go_wp2
      go_end0
      have := HW.out
      rw [List.take_of_length_le (by rw [leB_len]; omega)] at this
      exact ⟨rfl, this⟩
theorem putLow_num (C G gf : Nat) : PutNum C G false 79 gf := fun k L x n w hx hn h hk => putLow_any C G k _ gf false L x hx n hn w h hk
end Go.Proofs.Ytcmhobbpeaeebaa
namespace Go.Proofs.Ytcmhobbpeaeebaa
namespace New
open Go.RowKit
/-- The cursor's way of writing numbers. -/
theorem Put (C G : Nat) : ∀ (k : Nat) (L : List Int) (x : Int) (n : Nat) (w : World), I64 x → n ≤ 8 → Cur w C G false 79 80 k L → k + n ≤ 128 →
    Calls Try.prog 79 #[.pointer (some ⟨C, 0, none⟩), .int .i64 x, .int .i64 n] w fun e w' => e = .returned (.tuple #[]) ∧ Wrote w w' C G false 79 80 k L (numB false n x) :=
  fun k L x n w hx hn h hk => putLow_any C G k _ _ false L x hx n hn w h hk
end New
end Go.Proofs.Ytcmhobbpeaeebaa
namespace Go.Proofs.Ytcmhobbpeaeebaa
namespace New
open Go.RowKit
set_option linter.unusedVariables false
set_option maxRecDepth 100000

set_option maxHeartbeats 800000 in
theorem putSmall_any (C G k : Nat) (L : List Int) (x : Int) (hx : I64 x) (w : World) (h : Cur w C G false 79 80 k L) (hk : k + 4 ≤ 128) :
    Calls Try.prog 124 #[.pointer (some ⟨C, 0, none⟩), .int .i64 x] w fun e w' => e = .returned (.tuple #[]) ∧ Wrote w w' C G false 79 80 k L (numB false (smallN false) x) := by
  obtain ⟨e0, e1, e2, e3, e4⟩ := h.cells
  have hsm := smallN_le false
  go_enter Try.func124, Try.ntmps124
  go_wp2_with fail
  go_region_held3 (fun w' => w'.cell? ⟨C, 3, none⟩ = some (.func (.func 79) #[.pointer (some ⟨C, 0, none⟩)] #[])) (go_keep)
    (first
      | (go_at_call 125; refine (smallWidth_any C G k 79 80 false L w.drew h.drew).mono ?_; rintro e w1 ⟨rfl, rfl⟩)
      | (go_at_call 79; refine (Put C G k L x (smallN false) w.drew hx (by omega) h.drew (by omega)).mono ?_; rintro e w2 ⟨rfl, hW⟩; obtain ⟨_, _, _, q3, _⟩ := hW.1.cells))
  go_wp2
  go_end0
  exact ⟨rfl, hW.1, (Fr.of_below (Below.refl _ _).drew).trans hW.2⟩
end New
end Go.Proofs.Ytcmhobbpeaeebaa
namespace Go.Proofs.Ytcmhobbpeaeebaa
namespace New
open Go.RowKit
set_option linter.unusedVariables false
set_option maxRecDepth 100000

theorem numB_one (old : Bool) (x : Int) (h : 0 ≤ x ∧ x ≤ 255) : numB old 1 x = [x] := by
  have : x % 256 = x := by omega
  cases old <;> simp [numB, beB, leB, this]

set_option maxHeartbeats 800000 in
theorem putText_any (C G k : Nat) (L : List Int) (s : ByteArray) (w : World) (h : Cur w C G false 79 80 k L) (hk : k + s.size + 1 < 128) :
    Calls Try.prog 133 #[.pointer (some ⟨C, 0, none⟩), .string s] w fun e w' => e = .returned (.tuple #[]) ∧ Wrote w w' C G false 79 80 k L (textB s) := by
  obtain ⟨e0, e1, e2, e3, e4⟩ := h.cells
  go_enter Try.func133, Try.ntmps133
  go_wp2_with fail
  refine (Put C G k L (s.size : Int) 1 w (by unfold I64; omega) (by omega) h (by omega)).mono ?_
  rintro e w1 ⟨rfl, hW1⟩
  rw [numB_one _ _ (by omega)] at hW1
  clear e0 e1 e2 e3 e4
  go_wp2_with fail
  refine (putLetters_any C G (k + 1) _ _ _ (lay L k [(s.size : Int)]) s w1 hW1.1 (by omega) (by omega)).mono ?_
  rintro e w2 ⟨rfl, hW2⟩
  have hl := h.len
  have R : Hid (Wrote w w2 C G false 79 80 k L (textB s)) := hW1.trans (by simp [hl]; omega) hW2
  clear hW1 hW2 h
  go_wp2
  go_end0
  exact ⟨rfl, R.out⟩

theorem Wrote.skip {w w' : World} {C G k pf gf : Nat} {old : Bool} {L bs : List Int} (h : Wrote w w' C G old pf gf k L bs) (z : Nat) (hz : (L.drop (k + bs.length)).take z = List.replicate z 0) : Wrote w (w'.setCell ⟨C, 1, none⟩ (.int .i64 ((k + bs.length + z : Nat) : Int))) C G old pf gf k L (bs ++ List.replicate z 0) := by
  refine ⟨?_, fr_setB h.2 (.inl rfl) _⟩
  have key : L.drop (k + bs.length) = List.replicate z 0 ++ L.drop (k + bs.length + z) := by
    rw [← hz]
    have := (List.take_append_drop z (L.drop (k + bs.length))).symm
    rw [List.drop_drop] at this
    exact this
  have e : lay L k (bs ++ List.replicate z 0) = lay L k bs := by
    unfold lay
    rw [key, List.length_append, List.length_replicate, ← Nat.add_assoc]
    simp only [List.append_assoc]
  rw [e, List.length_append, List.length_replicate, ← Nat.add_assoc]
  exact h.1.move _

set_option maxHeartbeats 800000 in
theorem putKey_any (C G k : Nat) (L : List Int) (s : ByteArray) (w : World) (h : Cur w C G false 79 80 k L) (hs : s.size ≤ 8) (hk : k + 10 < 128) (hz : (L.drop (k + (s.size + 1))).take (8 - s.size) = List.replicate (8 - s.size) 0) :
    Calls Try.prog 140 #[.pointer (some ⟨C, 0, none⟩), .string s] w fun e w' => e = .returned (.tuple #[]) ∧ Wrote w w' C G false 79 80 k L (textB s ++ (if false then List.replicate (8 - s.size) 0 else [])) := by
  go_enter Try.func140, Try.ntmps140
  go_wp2_with fail
  refine (putText_any C G k L s w h (by omega)).mono ?_
  rintro e w1 ⟨rfl, hW1⟩
  obtain ⟨e0, e1, e2, e3, e4⟩ := hW1.1.cells
  have hfC : ∀ o, w1.frozen? ⟨C, o, none⟩ = false := by intro o; simp [World.frozen?, hW1.1.box]
  have HL : Hid ((textB s).length = s.size + 1) := textB_len s
  have HW : Hid (Wrote w w1 C G false 79 80 k L (textB s)) := hW1
  rw [HL.out] at e1
  clear hW1
  go_wp2
  go_end0
  refine ⟨rfl, ?_⟩
  first
    | (have R := Wrote.skip HW.out (8 - s.size) (by rw [HL.out]; exact hz)
       rw [HL.out, show ((k + (s.size + 1) + (8 - s.size) : Nat) : Int) = (k : Int) + ((s.size : Int) + 1) + (8 - (s.size : Int)) by omega] at R
       exact R)
    | (have R := HW.out
       simpa using R)
set_option maxHeartbeats 800000 in
theorem sumBytes_any (a : Option Addr) (n c : Nat) (bs : List Int) (w : World) (A B : Nat) (h : BytesAt w A B a n c bs) (hn : n ≤ 128) :
    Calls Try.prog 71 #[.slice a n c] w fun e w' => e = .returned (.int .i64 (sumI bs)) ∧ w' = w := by
  obtain ⟨hl, hnc, hcm, hw, hcell, _⟩ := h
  have HL : Hid (bs.length = n) := hl
  clear hl
  go_enter Try.func71, Try.ntmps71
  go_wp2_with fail
  go_loopw [3, 8] (fun sv iv wr => ∃ i : Nat, i ≤ n ∧ iv = .int .i64 i ∧ wr = w ∧ ∃ y : Int, sv = .int .i64 y ∧ (0 ≤ y ∧ y ≤ 255 * i) ∧ Hid (y = sumI (bs.take i))) (fun _ iv _ => n - (intOf iv).toNat)
  case atStart => exact ⟨0, Nat.zero_le _, rfl, rfl, 0, rfl, by simp, rfl⟩
  case round =>
    obtain ⟨i, hi, rfl, rfl, y, rfl, hy, HY⟩ := hrel
    by_cases hlt : i < n
    · obtain ⟨b, off, rfl, hb, hcb⟩ := hcell (by omega)
      have e1 := hcb i hlt
      have hx := getD_byteB hw i
      have HS : Hid (y + bs.getD i 0 = sumI (bs.take (i + 1))) := by show _ = _; rw [sumI_take (by have := HL.out; omega), ← HY.out]
      generalize bs.getD i 0 = x at e1 hx HS
      clear hcell hcb
      go_wp2
      go_roundw
      case rel => exact ⟨i + 1, by omega, by go_num, trivial, y + x, by go_num, by omega, HS⟩
      case measure => simp [intOf]; omega
    · have HE : Hid (y = sumI bs) := by show _ = _; rw [HY.out, List.take_of_length_le (by have := HL.out; omega)]
      go_wp2
      go_ret
      rw [← HE.out]
      exact ⟨rfl, rfl⟩
end New
end Go.Proofs.Ytcmhobbpeaeebaa
namespace Go.Proofs.Ytcmhobbpeaeebaa
namespace New
open Go.RowKit
set_option linter.unusedVariables false
set_option maxRecDepth 100000

/-- A block that is neither the cursor's nor its bytes' stays. -/
theorem wrote_box {w w' : World} {C G k pf gf M : Nat} {old : Bool} {L bs : List Int} {o : Obj} (h : Wrote w w' C G old pf gf k L bs) (hM : w.heap[M]? = some o) (h1 : M ≠ C) (h2 : M ≠ G) : w'.heap[M]? = some o :=
  (h.2.block M (Array.getElem?_eq_some_iff.1 hM).1 (fun e => by rcases e with e | e <;> contradiction)).trans hM

set_option maxHeartbeats 800000 in
theorem metaWrite_any (C G k M : Nat) (L : List Int) (p : Pg) (hi : I64 p.id) (hr : I64 p.root) (hc : I64 p.count) (w : World) (h : Cur w C G false 79 80 k L) (hk : k + 20 < 128) (hM : w.heap[M]? = some (.cells #[.int .i64 p.id, .int .i64 p.root, .int .i64 p.count] 136)) (h1 : M ≠ C) (h2 : M ≠ G) :
    Calls Try.prog 122 #[.pointer (some ⟨M, 0, none⟩), .pointer (some ⟨C, 0, none⟩)] w fun e w' => e = .returned (.tuple #[]) ∧ Wrote w w' C G false 79 80 k L (metaB false p) := by
  obtain ⟨e0, e1, e2, e3, e4⟩ := h.cells
  obtain ⟨m0, m1, m2⟩ := box_form hM
  have hl := h.len
  go_enter Try.func122, Try.ntmps122
  go_wp2_with fail
  go_region_held3 (fun w' => w'.cell? ⟨C, 3, none⟩ = some (.func (.func 79) #[.pointer (some ⟨C, 0, none⟩)] #[]) ∧ w'.cell? ⟨M, 0, none⟩ = some (.int .i64 p.id) ∧ w'.cell? ⟨M, 1, none⟩ = some (.int .i64 p.root) ∧ w'.cell? ⟨M, 2, none⟩ = some (.int .i64 p.count)) (go_keep)
    (first | (go_at_call 79; refine (Put C G k L p.id 4 w.drew hi (by omega) h.drew (by omega)).mono ?_; rintro e w1 ⟨rfl, hV1⟩; have hM1 := wrote_box hV1 (w := w.drew) hM h1 h2; obtain ⟨_, _, _, e3', _⟩ := hV1.1.cells; obtain ⟨m0', m1', m2'⟩ := box_form hM1))
  have hW1 : Wrote w w1 C G false 79 80 k L (numB false 4 p.id) := ⟨hV1.1, (Fr.of_below (Below.refl _ _).drew).trans hV1.2⟩
  have l1 : (numB false 4 p.id).length = 4 := numB_len _ _ _
  clear hV1
  go_wp2_with fail
  refine (putSmall_any C G (k + (numB false 4 p.id).length) _ p.root hr w1 hW1.1 (by omega)).mono ?_
  rintro e w2 ⟨rfl, hV2⟩
  have hM2 := wrote_box hV2 hM1 h1 h2
  have hW2 := hW1.trans (by omega) hV2
  have l2 : (numB false 4 p.id ++ numB false (smallN false) p.root).length = 8 := by rw [List.length_append, l1, numB_len]; rfl
  obtain ⟨_, _, _, e3'', _⟩ := hW2.1.cells
  obtain ⟨m0'', m1'', m2''⟩ := box_form hM2
  clear hV2
  go_wp2_with fail
  go_region_held3 (fun w' => w'.cell? ⟨C, 3, none⟩ = some (.func (.func 79) #[.pointer (some ⟨C, 0, none⟩)] #[]) ∧ w'.cell? ⟨M, 0, none⟩ = some (.int .i64 p.id) ∧ w'.cell? ⟨M, 1, none⟩ = some (.int .i64 p.root) ∧ w'.cell? ⟨M, 2, none⟩ = some (.int .i64 p.count)) (go_keep)
    (first | (go_at_call 79; refine (Put C G (k + (numB false 4 p.id ++ numB false (smallN false) p.root).length) _ p.count 4 w2.drew hc (by omega) hW2.1.drew (by omega)).mono ?_; rintro e w3 ⟨rfl, hV3⟩; have hM3 := wrote_box hV3 (w := w2.drew) hM2 h1 h2; obtain ⟨_, _, _, e3', _⟩ := hV3.1.cells; obtain ⟨m0', m1', m2'⟩ := box_form hM3))
  have hW3 := hW2.trans (by omega) ⟨hV3.1, (Fr.of_below (Below.refl _ w2).drew).trans hV3.2⟩
  have l3 : (numB false 4 p.id ++ numB false (smallN false) p.root ++ numB false 4 p.count).length = 12 := by rw [List.length_append, l2, numB_len]
  clear hV3
  go_wp2_with fail
  refine (putLetters_any C G (k + (numB false 4 p.id ++ numB false (smallN false) p.root ++ numB false 4 p.count).length) _ _ _ _ ⟨#[67, 79, 87, 50]⟩ w3 hW3.1 (by rw [l3]; show _ + 4 ≤ 128; omega) (by omega)).mono ?_
  rintro e w4 ⟨rfl, hV4⟩
  have R : Hid (Wrote w w4 C G false 79 80 k L (metaB false p)) := by
    have e : metaB false p = (numB false 4 p.id ++ numB false (smallN false) p.root ++ numB false 4 p.count) ++ strB ⟨#[67, 79, 87, 50]⟩ := by
      rw [show strB ⟨#[67, 79, 87, 50]⟩ = [67, 79, 87, 50] by decide]; rfl
    show Wrote _ _ _ _ _ _ _ _ _ _
    rw [e]
    exact hW3.trans (by omega) hV4
  clear hW1 hW2 hW3 hV4 h
  go_wp2
  go_end0
  exact ⟨rfl, R.out⟩
end New
end Go.Proofs.Ytcmhobbpeaeebaa
namespace Go.Proofs.Ytcmhobbpeaeebaa
namespace New
open Go.RowKit
set_option linter.unusedVariables false
set_option maxRecDepth 100000

theorem Wrote.next {w w1 w2 : World} {C G k pf gf : Nat} {old : Bool} {L ds bs : List Int} (hW : Wrote w w1 C G old pf gf k L ds) (hl : L.length = 128) (hm : k + ds.length ≤ 128) (hV : Wrote w1.drew w2 C G old pf gf (k + ds.length) (lay L k ds) bs) : Wrote w w2 C G old pf gf k L (ds ++ bs) :=
  Wrote.trans hW (by omega) ⟨hV.1, (Fr.of_below (Below.refl _ _).drew).trans hV.2⟩

set_option maxHeartbeats 800000 in
theorem overWrite_any (C G k M : Nat) (L : List Int) (next : Int) (data : ByteArray) (hn : I64 next) (hd : data.size ≤ 96) (w : World) (h : Cur w C G false 79 80 k L) (hk : k ≤ 8) (hM : w.heap[M]? = some (.cells #[.int .i64 next, .string data] 145)) (h1 : M ≠ C) (h2 : M ≠ G) :
    Calls Try.prog 145 #[.pointer (some ⟨M, 0, none⟩), .pointer (some ⟨C, 0, none⟩)] w fun e w' => e = .returned (.tuple #[]) ∧ Wrote w w' C G false 79 80 k L (numB false (smallN false) next ++ textB data) := by
  have m0 : w.cell? ⟨M, 0, none⟩ = some (.int .i64 next) := by simp [World.cell?, hM]
  have m1 : w.cell? ⟨M, 1, none⟩ = some (.string data) := by simp [World.cell?, hM]
  have hl := h.len
  have hsm := numB_small false next
  go_enter Try.func145, Try.ntmps145
  go_wp2_with fail
  refine (putSmall_any C G k L next hn w h (by omega)).mono ?_
  rintro e w1 ⟨rfl, hW1⟩
  have hM1 := wrote_box hW1 hM h1 h2
  have m0 : w1.cell? ⟨M, 0, none⟩ = some (.int .i64 next) := by simp [World.cell?, hM1]
  have m1 : w1.cell? ⟨M, 1, none⟩ = some (.string data) := by simp [World.cell?, hM1]
  go_wp2_with fail
  refine (putText_any C G (k + (numB false (smallN false) next).length) _ data w1 hW1.1 (by omega)).mono ?_
  rintro e w2 ⟨rfl, hW2⟩
  have R : Hid (Wrote w w2 C G false 79 80 k L (numB false (smallN false) next ++ textB data)) := hW1.trans (by omega) hW2
  clear hW1 hW2
  go_wp2
  go_end0
  exact ⟨rfl, R.out⟩

theorem Wrote.call {w w1 w2 : World} {C G k pf gf : Nat} {old : Bool} {L ds : List Int} (hW : Wrote w w1 C G old pf gf k L ds) (hb : Below w1.heap.size w1 w2) : Wrote w w2 C G old pf gf k L ds :=
  ⟨⟨(hb.block C (Array.getElem?_eq_some_iff.1 hW.1.box).1).trans hW.1.box, owns_below hW.1.row hb, hW.1.len⟩, hW.2.trans (Fr.of_below hb)⟩
theorem Wrote.lt {w w1 : World} {C G k pf gf : Nat} {old : Bool} {L ds : List Int} (hW : Wrote w w1 C G old pf gf k L ds) : C < w1.heap.size ∧ G < w1.heap.size := ⟨(Array.getElem?_eq_some_iff.1 hW.1.box).1, (hW.1.row.lt G rfl).2⟩
theorem kidsB_len' (hi : Bool) (ks : List PK) (n : Nat) (hs : ∀ i, i < n → 0 < i → (ks.getD i dK).1.size ≤ 8) : (kidsB hi (smallN hi) ks n).length ≤ n * 13 := by
  have := kidsB_len hi (smallN hi) ks n hs
  have := Nat.mul_le_mul_left n (show 9 + smallN hi ≤ 13 by have := smallN_le hi; omega)
  omega

set_option maxHeartbeats 1600000 in
theorem branchWrite_any (C G k M : Nat) (L : List Int) (ka : Option Addr) (n kc : Nat) (ks : List PK) (w : World) (A B : Nat) (h : Cur w C G false 79 80 k L) (hk : k ≤ 8) (hM : w.heap[M]? = some (.cells #[.slice ka n kc] 139)) (h1 : M ≠ C) (h2 : M ≠ G) (hK : KidsAt w A B ka n kc ks) (hB : B ≤ w.heap.size) (hC : B ≤ C) (hG : B ≤ G) (hn : n ≤ 4) (hs : ∀ i, i < n → 0 < i → (ks.getD i dK).1.size ≤ 8) :
    Calls Try.prog 130 #[.pointer (some ⟨M, 0, none⟩), .pointer (some ⟨C, 0, none⟩)] w fun e w' => e = .returned (.tuple #[]) ∧ Wrote w w' C G false 79 80 k L (kidsB false (smallN false) ks n) := by
  have m0 : w.cell? ⟨M, 0, none⟩ = some (.slice ka n kc) := by simp [World.cell?, hM]
  have hl := h.len
  go_enter Try.func130, Try.ntmps130
  go_wp2_with fail
  go_loopw [11] (fun iv wr => ∃ i : Nat, i ≤ n ∧ iv = .int .i64 i ∧ Hid (Wrote w wr C G false 79 80 k L (kidsB false (smallN false) ks i))) (fun iv _ => n - (intOf iv).toNat)
  case atStart => exact ⟨0, Nat.zero_le _, rfl, wrote_nil h⟩
  case round =>
    obtain ⟨i, hi, rfl, HW⟩ := hrel
    by_cases hlt : i < n
    · obtain ⟨b, off, rfl, hb, hfit, q0, q1⟩ := KidsAt.at (hK.fr HW.out.2 hB (fun g e => by rcases e with e | e <;> omega)) hlt
      have hs' := hs i hlt
      have hlen := kidsB_len' false ks i (fun j h1 h2 => hs j (by omega) h2)
      have HK : Hid (kidsB false (smallN false) ks (i + 1) = kidsB false (smallN false) ks i ++ kidB false (smallN false) i (ks.getD i dK)) := rfl
      generalize ks.getD i dK = kd at q0 q1 hfit hs' HK
      generalize kidsB false (smallN false) ks i = l at HW HK hlen
      have hpg : I64 kd.2 := hfit.2
      obtain ⟨hCl, hGl⟩ := Wrote.lt HW.out
      have HW0 := Wrote.call HW.out ((Below.refl _ wr).alloc (Nat.le_refl _) (.cells #[.string kd.1, .int .i64 kd.2] 100))
      have HE0 : (wr.alloc (.cells #[.string kd.1, .int .i64 kd.2] 100)).heap[wr.heap.size]? = some (.cells #[.string kd.1, .int .i64 kd.2] 100) := heap_alloc_new wr _
      have hnC : wr.heap.size ≠ C := by omega
      have hnG : wr.heap.size ≠ G := by omega
      clear hK hs
      by_cases h0 : 0 < i
      · have hsz := hs' h0
        have s4 : decide ((0 : Int) < (i : Int)) = true := by simp; omega
        clear hs'
        go_wp2_with fail
        generalize wr.alloc (.cells #[.string kd.1, .int .i64 kd.2] 100) = W0 at HW0 HE0 ⊢
        generalize wr.heap.size = E at HE0 hnC hnG ⊢
        refine (putText_any C G (k + l.length) _ kd.1 W0 HW0.1 (by omega)).mono ?_
        rintro e w1 ⟨rfl, hV1⟩
        have HE1 := wrote_box hV1 HE0 hnC hnG
        have r0 : w1.cell? ⟨E, 0, none⟩ = some (.string kd.1) := by simp [World.cell?, HE1]
        have r1 : w1.cell? ⟨E, 1, none⟩ = some (.int .i64 kd.2) := by simp [World.cell?, HE1]
        have HW1 := HW0.trans (by omega) hV1
        have hl1 : (l ++ textB kd.1).length ≤ i * 13 + 9 := by simp [textB_len]; omega
        go_wp2_with fail
        refine (putSmall_any C G (k + (l ++ textB kd.1).length) _ kd.2 hpg w1 HW1.1 (by omega)).mono ?_
        rintro e w2 ⟨rfl, hV2⟩
        have R : Hid (Wrote w w2 C G false 79 80 k L (kidsB false (smallN false) ks (i + 1))) := by
          show Wrote _ _ _ _ _ _ _ _ _ _
          rw [HK.out, kidB, if_pos h0, ← List.append_assoc]
          exact HW1.trans (by omega) hV2
        clear HW HW0 HW1 hV1 hV2 HE0 HE1
        go_wp2
        go_roundw
        case rel => exact ⟨i + 1, by omega, by go_num, R⟩
        case measure => simp [intOf]; omega
      · have s4 : decide ((0 : Int) < (i : Int)) = false := by simp; omega
        clear hs'
        go_wp2_with fail
        generalize wr.alloc (.cells #[.string kd.1, .int .i64 kd.2] 100) = W0 at HW0 HE0 ⊢
        refine (putSmall_any C G (k + l.length) _ kd.2 hpg W0 HW0.1 (by omega)).mono ?_
        rintro e w2 ⟨rfl, hV2⟩
        have R : Hid (Wrote w w2 C G false 79 80 k L (kidsB false (smallN false) ks (i + 1))) := by
          show Wrote _ _ _ _ _ _ _ _ _ _
          rw [HK.out, kidB, if_neg h0, List.nil_append]
          exact HW0.trans (by omega) hV2
        clear HW HW0 hV2 HE0
        go_wp2
        go_roundw
        case rel => exact ⟨i + 1, by omega, by go_num, R⟩
        case measure => simp [intOf]; omega
    · obtain rfl : i = n := by omega
      go_wp2
      go_end0
      exact ⟨rfl, HW.out⟩
end New
end Go.Proofs.Ytcmhobbpeaeebaa
namespace Go.Proofs.Ytcmhobbpeaeebaa
namespace New
open Go.RowKit
set_option linter.unusedVariables false
set_option maxRecDepth 100000

theorem lay_drop {L : List Int} {k m : Nat} {bs : List Int} (h : k + bs.length ≤ L.length) : (lay L k bs).drop (k + bs.length + m) = L.drop (k + bs.length + m) := by
  unfold lay
  have h1 : (L.take k ++ bs).length = k + bs.length := by simp; omega
  rw [List.drop_append, h1, List.drop_eq_nil_of_le (by rw [h1]; omega), List.nil_append, List.drop_drop]
  congr 1
  omega
theorem zeros_at {L : List Int} {k j z : Nat} (hl : L.length = 128) (hZ : L.drop k = List.replicate (128 - k) 0) (hj : k ≤ j) (hz : j + z ≤ 128) : (L.drop j).take z = List.replicate z 0 := by
  have : L.drop j = List.replicate (128 - j) 0 := by
    rw [show j = k + (j - k) by omega, ← List.drop_drop, hZ, List.drop_replicate]
    congr 1
    omega
  rw [this, List.take_replicate, Nat.min_eq_left (by omega)]
theorem entsB_len' (hi : Bool) (es : List PE) (n : Nat) (hs : ∀ i, i < n → (es.getD i dE).1.size ≤ 8 ∧ (es.getD i dE).2.1.size ≤ 8) : (entsB hi (smallN hi) es n).length ≤ n * 19 := entsB_len hi (smallN hi) es (smallN_le hi) n hs

set_option maxHeartbeats 1600000 in
theorem leafWrite_any (C G k M : Nat) (L : List Int) (ea : Option Addr) (n ec : Nat) (es : List PE) (w : World) (A B : Nat) (h : Cur w C G false 79 80 k L) (hZ : L.drop k = List.replicate (128 - k) 0) (hk : k ≤ 8) (hM : w.heap[M]? = some (.cells #[.slice ea n ec] 142)) (h1 : M ≠ C) (h2 : M ≠ G) (hE : EntsAt w A B ea n ec es) (hB : B ≤ w.heap.size) (hC : B ≤ C) (hG : B ≤ G) (hn : n ≤ 4) (hs : ∀ i, i < n → (es.getD i dE).1.size ≤ 8 ∧ (es.getD i dE).2.1.size ≤ 8) :
    Calls Try.prog 138 #[.pointer (some ⟨M, 0, none⟩), .pointer (some ⟨C, 0, none⟩)] w fun e w' => e = .returned (.tuple #[]) ∧ Wrote w w' C G false 79 80 k L (entsB false (smallN false) es n) := by
  have m0 : w.cell? ⟨M, 0, none⟩ = some (.slice ea n ec) := by simp [World.cell?, hM]
  have hl := h.len
  go_enter Try.func138, Try.ntmps138
  go_wp2_with fail
  go_loopw [11] (fun iv wr => ∃ i : Nat, i ≤ n ∧ iv = .int .i64 i ∧ Hid (Wrote w wr C G false 79 80 k L (entsB false (smallN false) es i))) (fun iv _ => n - (intOf iv).toNat)
  case atStart => exact ⟨0, Nat.zero_le _, rfl, wrote_nil h⟩
  case round =>
    obtain ⟨i, hi, rfl, HW⟩ := hrel
    by_cases hlt : i < n
    · obtain ⟨b, off, rfl, hb, hfit, q0, q1, q2, q3⟩ := EntsAt.at (hE.fr HW.out.2 hB (fun g e => by rcases e with e | e <;> omega)) hlt
      have hs' := hs i hlt
      have hlen := entsB_len' false es i (fun j h1 => hs j (by omega))
      have HK : Hid (entsB false (smallN false) es (i + 1) = entsB false (smallN false) es i ++ entB false (smallN false) (es.getD i dE)) := rfl
      generalize es.getD i dE = kd at q0 q1 q2 q3 hfit hs' HK
      generalize entsB false (smallN false) es i = l at HW HK hlen
      have hv1 : I64 kd.2.2.1 := hfit.2.2.1
      have hv2 : I64 kd.2.2.2 := hfit.2.2.2
      obtain ⟨hCl, hGl⟩ := Wrote.lt HW.out
      have HW0 := Wrote.call HW.out ((Below.refl _ wr).alloc (Nat.le_refl _) (.cells #[.string kd.1, .string kd.2.1, .int .i64 kd.2.2.1, .int .i64 kd.2.2.2] 102))
      have HE0 : (wr.alloc (.cells #[.string kd.1, .string kd.2.1, .int .i64 kd.2.2.1, .int .i64 kd.2.2.2] 102)).heap[wr.heap.size]? = some (.cells #[.string kd.1, .string kd.2.1, .int .i64 kd.2.2.1, .int .i64 kd.2.2.2] 102) := heap_alloc_new wr _
      have hnC : wr.heap.size ≠ C := by omega
      have hnG : wr.heap.size ≠ G := by omega
      have hz : ((lay L k l).drop (k + l.length + (kd.1.size + 1))).take (8 - kd.1.size) = List.replicate (8 - kd.1.size) 0 := by
        rw [lay_drop (by omega)]
        exact zeros_at hl hZ (by omega) (by omega)
      clear hE hs
      go_wp2_with fail
      generalize wr.alloc (.cells #[.string kd.1, .string kd.2.1, .int .i64 kd.2.2.1, .int .i64 kd.2.2.2] 102) = W0 at HW0 HE0 ⊢
      generalize wr.heap.size = E at HE0 hnC hnG ⊢
      refine (putKey_any C G (k + l.length) _ kd.1 W0 HW0.1 hs'.1 (by omega) hz).mono ?_
      rintro e w1 ⟨rfl, hV1⟩
      have HE1 := wrote_box hV1 HE0 hnC hnG
      obtain ⟨r0, r1, r2, r3⟩ := box_four HE1
      have HW1 := HW0.trans (by omega) hV1
      have hlk : (textB kd.1 ++ (if false then List.replicate (8 - kd.1.size) 0 else [])).length ≤ 9 := by simp [textB_len]; omega
      have HK1 : Hid (entsB false (smallN false) es (i + 1) = (l ++ (textB kd.1 ++ (if false then List.replicate (8 - kd.1.size) 0 else []))) ++ (if kd.2.2.1 = 0 then 0 :: textB kd.2.1 else 1 :: (numB false (smallN false) kd.2.2.1 ++ numB false (smallN false) kd.2.2.2))) := by
        show _ = _
        rw [HK.out, entB]
        simp only [List.append_assoc]
      have hl1 : (l ++ (textB kd.1 ++ (if false then List.replicate (8 - kd.1.size) 0 else []))).length ≤ i * 19 + 9 := by rw [List.length_append]; omega
      generalize l ++ (textB kd.1 ++ (if false then List.replicate (8 - kd.1.size) 0 else [])) = l1 at HW1 HK1 hl1
      obtain ⟨_, _, _, e3, _⟩ := HW1.1.cells
      clear HK hz hlk hV1 HW0 HE0 HW
      by_cases ho : kd.2.2.1 = 0
      · have so : (kd.2.2.1 == 0) = true := by simpa using ho
        have HO : Hid (kd.2.2.1 = 0) := ho
        clear ho
        go_wp2_with fail
        refine (Put C G (k + l1.length) _ 0 1 w1 (by unfold I64; omega) (by omega) HW1.1 (by omega)).mono ?_
        rintro e w2 ⟨rfl, hV2⟩
        rw [numB_one _ _ (by omega)] at hV2
        have HE2 := wrote_box hV2 HE1 hnC hnG
        obtain ⟨r0, r1, r2, r3⟩ := box_four HE2
        have HW2 := HW1.trans (by omega) hV2
        have hl2 : (l1 ++ [0]).length ≤ i * 19 + 10 := by simp; omega
        go_wp2_with fail
        refine (putText_any C G (k + (l1 ++ [0]).length) _ kd.2.1 w2 HW2.1 (by omega)).mono ?_
        rintro e w3 ⟨rfl, hV3⟩
        have R : Hid (Wrote w w3 C G false 79 80 k L (entsB false (smallN false) es (i + 1))) := by
          show Wrote _ _ _ _ _ _ _ _ _ _
          rw [HK1.out, if_pos HO.out, show (0 : Int) :: textB kd.2.1 = [0] ++ textB kd.2.1 from rfl, ← List.append_assoc]
          exact HW2.trans (by omega) hV3
        clear HW1 HW2 hV2 hV3 HE1 HE2
        go_wp2
        go_roundw
        case rel => exact ⟨i + 1, by omega, by go_num, R⟩
        case measure => simp [intOf]; omega
      · have so : (kd.2.2.1 == 0) = false := by simpa using ho
        have HO : Hid (¬ kd.2.2.1 = 0) := ho
        clear ho
        go_wp2_with fail
        refine (Put C G (k + l1.length) _ 1 1 w1 (by unfold I64; omega) (by omega) HW1.1 (by omega)).mono ?_
        rintro e w2 ⟨rfl, hV2⟩
        rw [numB_one _ _ (by omega)] at hV2
        have HE2 := wrote_box hV2 HE1 hnC hnG
        obtain ⟨r0, r1, r2, r3⟩ := box_four HE2
        have HW2 := HW1.trans (by omega) hV2
        have hl2 : (l1 ++ [1]).length ≤ i * 19 + 10 := by simp; omega
        go_wp2_with fail
        refine (putSmall_any C G (k + (l1 ++ [1]).length) _ kd.2.2.1 hv1 w2 HW2.1 (by omega)).mono ?_
        rintro e w3 ⟨rfl, hV3⟩
        have HE3 := wrote_box hV3 HE2 hnC hnG
        obtain ⟨r0, r1, r2, r3⟩ := box_four HE3
        have HW3 := HW2.trans (by omega) hV3
        have hl3 : (l1 ++ [1] ++ numB false (smallN false) kd.2.2.1).length ≤ i * 19 + 14 := by have := numB_small false kd.2.2.1; rw [List.length_append]; omega
        go_wp2_with fail
        refine (putSmall_any C G (k + (l1 ++ [1] ++ numB false (smallN false) kd.2.2.1).length) _ kd.2.2.2 hv2 w3 HW3.1 (by omega)).mono ?_
        rintro e w4 ⟨rfl, hV4⟩
        have R : Hid (Wrote w w4 C G false 79 80 k L (entsB false (smallN false) es (i + 1))) := by
          show Wrote _ _ _ _ _ _ _ _ _ _
          rw [HK1.out, if_neg HO.out, show (1 : Int) :: (numB false (smallN false) kd.2.2.1 ++ numB false (smallN false) kd.2.2.2) = [1] ++ (numB false (smallN false) kd.2.2.1 ++ numB false (smallN false) kd.2.2.2) from rfl, ← List.append_assoc, ← List.append_assoc]
          exact HW3.trans (by omega) hV4
        clear HW1 HW2 HW3 hV2 hV3 hV4 HE1 HE2 HE3
        go_wp2
        go_roundw
        case rel => exact ⟨i + 1, by omega, by go_num, R⟩
        case measure => simp [intOf]; omega
    · obtain rfl : i = n := by omega
      go_wp2
      go_end0
      exact ⟨rfl, HW.out⟩
end New
end Go.Proofs.Ytcmhobbpeaeebaa
