import Derived.Test.YtpiipnfhinbimacKE
import Derived.Test.YtpiipnfhinbimacPgO
import Derived.Test.YtpiipnfhinbimacJV
import Derived.Test.YtpiipnfhinbimacJW
import Derived.Test.YtpiipnfhinbimacKH
namespace Go.Proofs.Ytpiipnfhinbimac
open Go.RowKit
set_option linter.unusedVariables false
set_option maxRecDepth 100000

theorem xor8_range (a b : Int) : 0 ≤ bits .xor .u8 a b ∧ bits .xor .u8 a b ≤ 255 := by
  unfold bits
  simp only [IntKind.wrap_u8]
  omega
theorem u8s_set (bs : List Int) (j : Nat) (y : Int) : (u8s bs).set j (.int .u8 y) = u8s (bs.set j y) := by simp [u8s, List.map_set]
theorem set_byte {bs : List Int} (h : ∀ x ∈ bs, 0 ≤ x ∧ x ≤ 255) (j : Nat) {y : Int} (hy : 0 ≤ y ∧ y ≤ 255) : ∀ x ∈ bs.set j y, 0 ≤ x ∧ x ≤ 255 := by
  intro x hx
  rcases List.mem_or_eq_of_mem_set hx with hx | rfl
  · exact h x hx
  · exact hy
/-- Bytes are told, from T on; nothing below S is written. -/
structure TRes (S T : Nat) (w : World) (e : Ending) (w' : World) : Prop where
  out : ∃ (a' : Option Addr) (n' c' : Nat) (bs' : List Int), e = .returned (.slice a' n' c') ∧ BytesAt w' T w'.heap.size a' n' c' bs' ∧ Below S w w'
set_option maxHeartbeats 3200000 in
theorem l2Turn_any (C A B : Nat) (w : World) (h : DCur w C A B) (old : Bool) (S T : Nat) (hS : S ≤ C) (hT : C < T) (hTw : T ≤ w.heap.size) (a : Option Addr) (n c : Nat) (bs : List Int) (hO : w.ownsRow T 5 1 (.slice a n c) n (u8s bs)) (hb : ∀ x ∈ bs, 0 ≤ x ∧ x ≤ 255) :
    Calls Try.prog 105 #[.pointer (some ⟨C, 0, none⟩), .slice a n c, .bool old] w fun e w' => TRes S T w e w' := by
  go_enter Try.func105, Try.ntmps105
  by_cases hn : n = 128
  · subst hn
    go_wp2_with fail
    refine (l1Below_any C A B w h 128 (by omega) (by omega)).mono ?_
    rintro e w1 ⟨k, rfl, hk, hD1, hF1⟩
    have hO1 := owns_fr hO hF1 (fun g e e' => by have := (hO.lt g e).1; omega)
    have b1 : Below S w w1 := hF1.below (by omega) (fun g e => by omega)
    go_wp2_with fail
    refine (l1Once_any C A B w1 hD1 2 (by omega) (by omega)).mono ?_
    rintro e w2 ⟨b, rfl, hD2, hF2⟩
    have hO2 := owns_fr hO1 hF2 (fun g e e' => by have := (hO1.lt g e).1; omega)
    have b2 : Below S w w2 := b1.trans (hF2.below (by have := b1.size; omega) (fun g e => by omega))
    clear hD1 hF1 hO1 b1 hF2 hO h
    have hk128 : k < 128 := by omega
    clear hk
    cases b
    · go_wp2_with fail
      refine (l1Below_any C A B w2 hD2 255 (by omega) (by omega)).mono ?_
      rintro e w3 ⟨x, rfl, hx, hD3, hF3⟩
      have hO3 := owns_fr hO2 hF3 (fun g e e' => by have := (hO2.lt g e).1; omega)
      have b3 : Below S w w3 := b2.trans (hF3.below (by have := b2.size; omega) (fun g e => by omega))
      clear hD2 hF3 hO2 b2
      obtain ⟨g, rfl⟩ := owns_someD hO3 (by omega)
      have hf := hO3.frozenAt k
      have hbl : bs.length = 128 := by have := hO3.1; simpa [u8s] using this
      have e1 : w3.cell? ⟨g, k, none⟩ = some (.int .u8 (bs.getD k 0)) := by
        rw [hO3.cellAt k (by omega)]
        simp [u8s, List.getD, hbl, hk128]
      generalize bs.getD k 0 = y0 at e1
      go_wp2_with fail
      have hy := xor8_range y0 (1 + (x : Int))
      generalize bits .xor .u8 y0 (1 + (x : Int)) = y at hy ⊢
      obtain ⟨R1, R2⟩ := hO3.stored k (.int .u8 y)
      rw [u8s_set] at R1
      have hb4 := set_byte hb k hy
      have hgT : T ≤ g := (hO3.lt g rfl).1
      have hF4 := setD_fr w3 g k (.int .u8 y)
      have hD4 := hD3.frg hF4 (fun g e => by omega)
      have b4 : Below S w (w3.setCell ⟨g, k, none⟩ (.int .u8 y)) := b3.trans (hF4.below (by have := b3.size; omega) (fun g e => by omega))
      have hbl4 : (bs.set k y).length = 128 := by simpa using hbl
      clear hf e1 hO3 b3 hD3 R2 hF4 hb hbl
      generalize w3.setCell ⟨g, k, none⟩ (.int .u8 y) = w4 at R1 hD4 b4 ⊢
      generalize bs.set k y = bs4 at R1 hb4 hbl4
      refine (l1Once_any C A B w4 hD4 2 (by omega) (by omega)).mono ?_
      rintro e w5 ⟨b, rfl, hD5, hF5⟩
      have hO5 := owns_fr R1 hF5 (fun g e e' => by have := (R1.lt g e).1; omega)
      have b5 : Below S w w5 := b4.trans (hF5.below (by have := b4.size; omega) (fun g e => by omega))
      clear hD4 hF5 R1 b4
      have hB5 := bytesAt_row hO5 hb4
      have hcc : 128 ≤ c := hB5.2.1
      have hcm : c ≤ maxLen := hB5.2.2.1
      unfold maxLen at hcm
      cases b
      · cases old
        · have hb6 : Below w5.heap.size w5 (w5.alloc (.cells #[] 5)) := (Below.refl _ _).alloc (Nat.le_refl _) _
          have hR6 : (w5.alloc (.cells #[] 5)).ownsRow w5.heap.size 5 1 (.slice (some ⟨w5.heap.size, 0, none⟩) 0 0) 0 (u8s []) := by
            have := World.ownsRow_made w5 #[] (base := w5.heap.size) (e := 5) (size := 1) 0 (by simp) (by unfold maxLen; omega) (by simp)
            simpa [u8s] using this
          have hS120 : BytesAt w5 T w5.heap.size (some ⟨g, 0, none⟩) 120 c (bs4.take 120) := by have := bytesAt_sub hB5 0 120 (by omega) (by omega); simpa using this
          have hS4 : BytesAt w5 T w5.heap.size (some ⟨g, 0, none⟩) 4 c (bs4.take 4) := by have := bytesAt_sub hB5 0 4 (by omega) (by omega); simpa using this
          clear hB5 hO5
          have h120 : (120 : Nat) ≤ c := by omega
          have h4c : (4 : Nat) ≤ c := by omega
          go_wp2_with (at_builtin; refine wpList_ab rfl _ _ rfl w5.heap.size _ 0 [] rfl hR6 (some ⟨g, 0, none⟩) 120 c (bs4.take 120) _ _ rfl (hS120.below hb6) (by omega) hb6.size ?_; intro v7 w7 hO7' hg7; have hO7 : w7.ownsRow w5.heap.size 5 1 v7 120 (u8s (bs4.take 120)) := hO7'; obtain ⟨a7, c7, rfl⟩ := own_shape hO7; have hb7 := hb6.grown hg7 hb6.size (fun g e => (hR6.lt g e).1); clear hO7' hg7)
          have hl7 : ∀ x ∈ bs4.take 120, 0 ≤ x ∧ x ≤ 255 := fun x hx => hb4 x (List.mem_of_mem_take hx)
          have hB7 := bytesAt_row hO7 hl7
          have b7 := b5.trans (hb7.mono (by have := b5.size; omega))
          have hS47 := hS4.below hb7
          have hs7 := hb7.size
          clear hR6 hb6 hS120 hS4
          generalize bs4.take 120 = l7 at hO7 hl7 hB7
          refine (specCrc0 a7 120 c7 l7 w7 _ _ hB7).mono ?_
          rintro e w7' ⟨rfl, rfl⟩
          have hcr := crcOf_range l7
          generalize crcOf l7 = z at hcr ⊢
          go_wp2_with fail
          refine (l2Put_any false z (by unfold I64; omega) 4 (by omega) w7').mono ?_
          rintro e w8 ⟨a8, c8, rfl, hO8, hB8, hb8⟩
          have hO78 := owns_below hO7 hb8
          have b8 := b7.trans (hb8.mono (by have := b7.size; omega))
          have hS48 := hS47.below (hb8.mono (by omega))
          have hs8 := hb8.size
          clear hO7 hB7 b7 hS47 hb8 hO8
          have hl8 := numB_byte false 4 z
          generalize numB false 4 z = l8 at hB8 hl8
          go_wp2_with (at_builtin; first
            | (refine wpList_ab rfl _ _ rfl w5.heap.size _ 124 (l7 ++ l8) rfl hO9 (some ⟨g, 0, none⟩) 4 c (bs4.take 4) _ _ rfl (hS48.below (hb9.mono (by omega))) (by omega) (by omega) ?_; intro v10 w10 hO10' hg10; have hO10 : w10.ownsRow w5.heap.size 5 1 v10 128 (u8s (l7 ++ l8 ++ bs4.take 4)) := hO10'; obtain ⟨a10, c10, rfl⟩ := own_shape hO10; clear hO10')
            | (refine wpList_ab rfl _ _ rfl w5.heap.size _ 120 l7 rfl hO78 a8 4 c8 l8 _ _ rfl hB8 (by omega) (by omega) ?_; intro v9 w9 hO9' hg9; have hO9 : w9.ownsRow w5.heap.size 5 1 v9 124 (u8s (l7 ++ l8)) := hO9'; obtain ⟨a9, c9, rfl⟩ := own_shape hO9; have hb9 : Below w5.heap.size w8 w9 := (Below.refl _ _).grown hg9 (by omega) (fun g e => (hO78.lt g e).1); have hs9 := hb9.size; clear hO9' hg9))
          have hB10 := bytesAt_row (own_lowerD hO10 (show T ≤ w5.heap.size by have := b5.size; omega)) (bytes_app (bytes_app hl7 hl8) (fun x hx => hb4 x (List.mem_of_mem_take hx)))
          have b9 := b8.trans (hb9.mono (by have := b5.size; omega))
          have b10 := b9.grown hg10 (by have := b9.size; omega) (fun g e => by have := (hO9.lt g e).1; have := b5.size; omega)
          go_ret
          exact ⟨⟨_, _, _, _, rfl, hB10, b10⟩⟩
        · clear hB5
          go_wp2_with fail
          go_loop [9, 10] (fun s i => ∃ (j : Nat) (y : Int), j ≤ 127 ∧ i = .int .i64 j ∧ s = .int .u8 y ∧ 0 ≤ y ∧ y ≤ 255) (fun _ i => 127 - (intOf i).toNat)
          case atStart => exact ⟨0, 0, by omega, rfl, rfl, by omega, by omega⟩
          case round =>
            obtain ⟨j, z, hj, rfl, rfl, hz0, hz1⟩ := hrel
            by_cases hlt : j < 127
            · have e1 : w5.cell? ⟨g, j, none⟩ = some (.int .u8 (bs4.getD j 0)) := by
                rw [hO5.cellAt j (by omega)]
                simp [u8s, List.getD, hbl4, show j < 128 by omega]
              have hq := getD_byteD hb4 j
              generalize bs4.getD j 0 = q at e1 hq
              go_wp2
              go_round
              case rel => exact ⟨j + 1, _, by omega, by go_num, rfl, by omega, by omega⟩
              case measure => simp [intOf]; omega
            · obtain rfl : j = 127 := by omega
              have e1 : w5.cell? ⟨g, 127, none⟩ = some (.int .u8 (bs4.getD 127 0)) := by
                rw [hO5.cellAt 127 (by omega)]
                simp [u8s, List.getD, hbl4]
              have hf := hO5.frozenAt 127
              obtain ⟨R1, R2⟩ := hO5.stored 127 (.int .u8 z)
              rw [u8s_set] at R1
              have hB9 := bytesAt_row R1 (set_byte hb4 127 ⟨hz0, hz1⟩)
              have b9 : Below S w (w5.setCell ⟨g, 127, none⟩ (.int .u8 z)) := b5.trans ((setD_fr w5 g 127 (.int .u8 z)).below (by have := b5.size; omega) (fun g e => by omega))
              clear R1 R2 hO5
              go_wp2
              go_ret
              exact ⟨⟨_, _, _, _, rfl, hB9, b9⟩⟩
      · have hB := bytesAt_row hO5 hb4
        go_wp2
        go_ret
        exact ⟨⟨_, _, _, _, rfl, hB, b5⟩⟩
    · go_wp2_with fail
      refine (l1Below_any C A B w2 hD2 40 (by omega) (by omega)).mono ?_
      rintro e w20 ⟨k2, rfl, hk2, hD20, hF20⟩
      have hO20 := owns_fr hO2 hF20 (fun g e e' => by have := (hO2.lt g e).1; omega)
      have b20 : Below S w w20 := b2.trans (hF20.below (by have := b2.size; omega) (fun g e => by omega))
      clear hD2 hF20 hO2 b2 hk128
      have hk128 : k2 < 128 := by omega
      clear hk2
      go_wp2_with fail
      refine (l1Below_any C A B w20 hD20 255 (by omega) (by omega)).mono ?_
      rintro e w3 ⟨x, rfl, hx, hD3, hF3⟩
      have hO3 := owns_fr hO20 hF3 (fun g e e' => by have := (hO20.lt g e).1; omega)
      have b3 : Below S w w3 := b20.trans (hF3.below (by have := b20.size; omega) (fun g e => by omega))
      clear hD20 hF3 hO20 b20
      obtain ⟨g, rfl⟩ := owns_someD hO3 (by omega)
      have hf := hO3.frozenAt k2
      have hbl : bs.length = 128 := by have := hO3.1; simpa [u8s] using this
      have e1 : w3.cell? ⟨g, k2, none⟩ = some (.int .u8 (bs.getD k2 0)) := by
        rw [hO3.cellAt k2 (by omega)]
        simp [u8s, List.getD, hbl, hk128]
      generalize bs.getD k2 0 = y0 at e1
      go_wp2_with fail
      have hy := xor8_range y0 (1 + (x : Int))
      generalize bits .xor .u8 y0 (1 + (x : Int)) = y at hy ⊢
      obtain ⟨R1, R2⟩ := hO3.stored k2 (.int .u8 y)
      rw [u8s_set] at R1
      have hb4 := set_byte hb k2 hy
      have hgT : T ≤ g := (hO3.lt g rfl).1
      have hF4 := setD_fr w3 g k2 (.int .u8 y)
      have hD4 := hD3.frg hF4 (fun g e => by omega)
      have b4 : Below S w (w3.setCell ⟨g, k2, none⟩ (.int .u8 y)) := b3.trans (hF4.below (by have := b3.size; omega) (fun g e => by omega))
      have hbl4 : (bs.set k2 y).length = 128 := by simpa using hbl
      clear hf e1 hO3 b3 hD3 R2 hF4 hb hbl
      generalize w3.setCell ⟨g, k2, none⟩ (.int .u8 y) = w4 at R1 hD4 b4 ⊢
      generalize bs.set k2 y = bs4 at R1 hb4 hbl4
      refine (l1Once_any C A B w4 hD4 2 (by omega) (by omega)).mono ?_
      rintro e w5 ⟨b, rfl, hD5, hF5⟩
      have hO5 := owns_fr R1 hF5 (fun g e e' => by have := (R1.lt g e).1; omega)
      have b5 : Below S w w5 := b4.trans (hF5.below (by have := b4.size; omega) (fun g e => by omega))
      clear hD4 hF5 R1 b4
      have hB5 := bytesAt_row hO5 hb4
      have hcc : 128 ≤ c := hB5.2.1
      have hcm : c ≤ maxLen := hB5.2.2.1
      unfold maxLen at hcm
      cases b
      · cases old
        · have hb6 : Below w5.heap.size w5 (w5.alloc (.cells #[] 5)) := (Below.refl _ _).alloc (Nat.le_refl _) _
          have hR6 : (w5.alloc (.cells #[] 5)).ownsRow w5.heap.size 5 1 (.slice (some ⟨w5.heap.size, 0, none⟩) 0 0) 0 (u8s []) := by
            have := World.ownsRow_made w5 #[] (base := w5.heap.size) (e := 5) (size := 1) 0 (by simp) (by unfold maxLen; omega) (by simp)
            simpa [u8s] using this
          have hS120 : BytesAt w5 T w5.heap.size (some ⟨g, 0, none⟩) 120 c (bs4.take 120) := by have := bytesAt_sub hB5 0 120 (by omega) (by omega); simpa using this
          have hS4 : BytesAt w5 T w5.heap.size (some ⟨g, 0, none⟩) 4 c (bs4.take 4) := by have := bytesAt_sub hB5 0 4 (by omega) (by omega); simpa using this
          clear hB5 hO5
          have h120 : (120 : Nat) ≤ c := by omega
          have h4c : (4 : Nat) ≤ c := by omega
          go_wp2_with (at_builtin; refine wpList_ab rfl _ _ rfl w5.heap.size _ 0 [] rfl hR6 (some ⟨g, 0, none⟩) 120 c (bs4.take 120) _ _ rfl (hS120.below hb6) (by omega) hb6.size ?_; intro v7 w7 hO7' hg7; have hO7 : w7.ownsRow w5.heap.size 5 1 v7 120 (u8s (bs4.take 120)) := hO7'; obtain ⟨a7, c7, rfl⟩ := own_shape hO7; have hb7 := hb6.grown hg7 hb6.size (fun g e => (hR6.lt g e).1); clear hO7' hg7)
          have hl7 : ∀ x ∈ bs4.take 120, 0 ≤ x ∧ x ≤ 255 := fun x hx => hb4 x (List.mem_of_mem_take hx)
          have hB7 := bytesAt_row hO7 hl7
          have b7 := b5.trans (hb7.mono (by have := b5.size; omega))
          have hS47 := hS4.below hb7
          have hs7 := hb7.size
          clear hR6 hb6 hS120 hS4
          generalize bs4.take 120 = l7 at hO7 hl7 hB7
          refine (specCrc0 a7 120 c7 l7 w7 _ _ hB7).mono ?_
          rintro e w7' ⟨rfl, rfl⟩
          have hcr := crcOf_range l7
          generalize crcOf l7 = z at hcr ⊢
          go_wp2_with fail
          refine (l2Put_any false z (by unfold I64; omega) 4 (by omega) w7').mono ?_
          rintro e w8 ⟨a8, c8, rfl, hO8, hB8, hb8⟩
          have hO78 := owns_below hO7 hb8
          have b8 := b7.trans (hb8.mono (by have := b7.size; omega))
          have hS48 := hS47.below (hb8.mono (by omega))
          have hs8 := hb8.size
          clear hO7 hB7 b7 hS47 hb8 hO8
          have hl8 := numB_byte false 4 z
          generalize numB false 4 z = l8 at hB8 hl8
          go_wp2_with (at_builtin; first
            | (refine wpList_ab rfl _ _ rfl w5.heap.size _ 124 (l7 ++ l8) rfl hO9 (some ⟨g, 0, none⟩) 4 c (bs4.take 4) _ _ rfl (hS48.below (hb9.mono (by omega))) (by omega) (by omega) ?_; intro v10 w10 hO10' hg10; have hO10 : w10.ownsRow w5.heap.size 5 1 v10 128 (u8s (l7 ++ l8 ++ bs4.take 4)) := hO10'; obtain ⟨a10, c10, rfl⟩ := own_shape hO10; clear hO10')
            | (refine wpList_ab rfl _ _ rfl w5.heap.size _ 120 l7 rfl hO78 a8 4 c8 l8 _ _ rfl hB8 (by omega) (by omega) ?_; intro v9 w9 hO9' hg9; have hO9 : w9.ownsRow w5.heap.size 5 1 v9 124 (u8s (l7 ++ l8)) := hO9'; obtain ⟨a9, c9, rfl⟩ := own_shape hO9; have hb9 : Below w5.heap.size w8 w9 := (Below.refl _ _).grown hg9 (by omega) (fun g e => (hO78.lt g e).1); have hs9 := hb9.size; clear hO9' hg9))
          have hB10 := bytesAt_row (own_lowerD hO10 (show T ≤ w5.heap.size by have := b5.size; omega)) (bytes_app (bytes_app hl7 hl8) (fun x hx => hb4 x (List.mem_of_mem_take hx)))
          have b9 := b8.trans (hb9.mono (by have := b5.size; omega))
          have b10 := b9.grown hg10 (by have := b9.size; omega) (fun g e => by have := (hO9.lt g e).1; have := b5.size; omega)
          go_ret
          exact ⟨⟨_, _, _, _, rfl, hB10, b10⟩⟩
        · clear hB5
          go_wp2_with fail
          go_loop [9, 10] (fun s i => ∃ (j : Nat) (y : Int), j ≤ 127 ∧ i = .int .i64 j ∧ s = .int .u8 y ∧ 0 ≤ y ∧ y ≤ 255) (fun _ i => 127 - (intOf i).toNat)
          case atStart => exact ⟨0, 0, by omega, rfl, rfl, by omega, by omega⟩
          case round =>
            obtain ⟨j, z, hj, rfl, rfl, hz0, hz1⟩ := hrel
            by_cases hlt : j < 127
            · have e1 : w5.cell? ⟨g, j, none⟩ = some (.int .u8 (bs4.getD j 0)) := by
                rw [hO5.cellAt j (by omega)]
                simp [u8s, List.getD, hbl4, show j < 128 by omega]
              have hq := getD_byteD hb4 j
              generalize bs4.getD j 0 = q at e1 hq
              go_wp2
              go_round
              case rel => exact ⟨j + 1, _, by omega, by go_num, rfl, by omega, by omega⟩
              case measure => simp [intOf]; omega
            · obtain rfl : j = 127 := by omega
              have e1 : w5.cell? ⟨g, 127, none⟩ = some (.int .u8 (bs4.getD 127 0)) := by
                rw [hO5.cellAt 127 (by omega)]
                simp [u8s, List.getD, hbl4]
              have hf := hO5.frozenAt 127
              obtain ⟨R1, R2⟩ := hO5.stored 127 (.int .u8 z)
              rw [u8s_set] at R1
              have hB9 := bytesAt_row R1 (set_byte hb4 127 ⟨hz0, hz1⟩)
              have b9 : Below S w (w5.setCell ⟨g, 127, none⟩ (.int .u8 z)) := b5.trans ((setD_fr w5 g 127 (.int .u8 z)).below (by have := b5.size; omega) (fun g e => by omega))
              clear R1 R2 hO5
              go_wp2
              go_ret
              exact ⟨⟨_, _, _, _, rfl, hB9, b9⟩⟩
      · have hB := bytesAt_row hO5 hb4
        go_wp2
        go_ret
        exact ⟨⟨_, _, _, _, rfl, hB, b5⟩⟩
  · have hB := bytesAt_row hO hb
    go_wp2
    go_ret
    exact ⟨⟨_, _, _, _, rfl, hB, Below.refl _ _⟩⟩
end Go.Proofs.Ytpiipnfhinbimac
namespace Go.Proofs.Ytpiipnfhinbimac
open Go.RowKit
set_option linter.unusedVariables false
set_option maxRecDepth 100000

set_option maxHeartbeats 1600000 in
theorem drawEncodeOld_any (a : Option Addr) (n c : Nat) (bs : List Int) (w : World) (A B : Nat) (hB : B ≤ w.heap.size) (h : BytesAt w A B a n c bs) :
    Calls Try.prog 37 #[.slice a n c] w fun e w' => ∃ v, e = .returned v ∧ DPg w' w.heap.size 21 (fun p => -1 ≤ p.tx) v ∧ Below w.heap.size w w' := by
  go_enter Try.func37, Try.ntmps37
  go_wp2_with fail
  have HR0 := heap_alloc_new w (.cells #[.int .i64 0, .int .i64 0, .int .i64 0, .int .i64 0, .int .i64 0, .slice none 0 0, .slice none 0 0, .int .i64 0, .string ⟨#[]⟩] 35)
  have hb0 : Below w.heap.size w (w.alloc (.cells #[.int .i64 0, .int .i64 0, .int .i64 0, .int .i64 0, .int .i64 0, .slice none 0 0, .slice none 0 0, .int .i64 0, .string ⟨#[]⟩] 35)) := (Below.refl _ _).alloc (Nat.le_refl _) _
  have h0 := h.below (hb0.mono hB)
  generalize w.alloc (.cells #[.int .i64 0, .int .i64 0, .int .i64 0, .int .i64 0, .int .i64 0, .slice none 0 0, .slice none 0 0, .int .i64 0, .string ⟨#[]⟩] 35) = w0 at HR0 hb0 h0 ⊢
  have hR0 : w.heap.size < w0.heap.size := (Array.getElem?_eq_some_iff.1 HR0).1
  refine (l1New_any a n c bs w0 A B (Nat.le_trans hB hb0.size) h0).mono ?_
  rintro e w2 ⟨C, rfl, hC, hD2, hb1⟩
  have HR2 := (hb1.block _ hR0).trans HR0
  have b2 := hb0.trans (hb1.mono hb0.size)
  clear HR0 hb0 h0 hb1 h
  have hRC : w.heap.size < C := by omega
  clear hC
  go_wp2_with fail
  have hC2 := hD2.lt
  refine (l2DrawPage_any C A B w2 hD2 1 998 0 (by omega) (by omega) (by omega)).mono ?_
  rintro e w3 ⟨v, rfl, hv, hD3, hF3⟩
  have HR3 := (hF3.block _ (Array.getElem?_eq_some_iff.1 HR2).1 (by omega)).trans HR2
  have b3 := b2.trans (hF3.below b2.size (fun g e => by omega))
  have hs23 := hF3.size
  have hv' := hv
  obtain ⟨p, ka, kc, ea, ec, rfl, hf, hk, he, hkf, hef, hO, hP, hap, hlo⟩ := hv'
  clear hO hP hap hlo hf hkf hef HR2 b2 hD2 hF3 hk he
  go_wp2_with fail
  have HP4 := heap_alloc_new w3 (.cells #[.int .i64 p.kind, .int .i64 p.tx, .int .i64 p.id, .int .i64 p.root, .int .i64 p.count, .slice ka p.ks.length kc, .slice ea p.es.length ec, .int .i64 p.next, .string p.data] 35)
  have hal : Below w3.heap.size w3 (w3.alloc (.cells #[.int .i64 p.kind, .int .i64 p.tx, .int .i64 p.id, .int .i64 p.root, .int .i64 p.count, .slice ka p.ks.length kc, .slice ea p.es.length ec, .int .i64 p.next, .string p.data] 35)) := (Below.refl _ _).alloc (Nat.le_refl _) _
  generalize w3.alloc (.cells #[.int .i64 p.kind, .int .i64 p.tx, .int .i64 p.id, .int .i64 p.root, .int .i64 p.count, .slice ka p.ks.length kc, .slice ea p.es.length ec, .int .i64 p.next, .string p.data] 35) = w4 at HP4 hal ⊢
  have HR4 := (hal.block _ (Array.getElem?_eq_some_iff.1 HR3).1).trans HR3
  have b4 := b3.trans (hal.mono b3.size)
  have hD4 := hD3.below hal
  have hv4 := hv.below hal
  have hs34 := hal.size
  have hRP : w.heap.size < w3.heap.size := (Array.getElem?_eq_some_iff.1 HR3).1
  have hCP : C < w3.heap.size := hD3.lt
  clear HR3 b3 hD3 hv hal
  generalize w3.heap.size = P at HP4 hRP hCP hs34 hs23 ⊢
  refine (l1Once_any C A B w4 hD4 5 (by omega) (by omega)).mono ?_
  rintro e w5 ⟨b, rfl, hD5, hF5⟩
  have HR5 := (hF5.block _ (Array.getElem?_eq_some_iff.1 HR4).1 (by omega)).trans HR4
  have HP5 := (hF5.block _ (Array.getElem?_eq_some_iff.1 HP4).1 (by omega)).trans HP4
  have b5 := b4.trans (hF5.below b4.size (fun g e => by omega))
  have hs45 := hF5.size
  have hv5 := hv4.fr hF5 (fun g e => by omega)
  clear HR4 HP4 b4 hD4 hF5 hv4
  obtain ⟨p0, p1, p2, p3, p4, p5, p6, p7, p8⟩ := box_page HP5
  cases b
  · obtain ⟨r0, r1, r2, r3, r4, r5, r6, r7, r8⟩ := box_page HR5
    have ff := box_thaw HR5
    have HB := put9D_box HR5 (.int .i64 p.kind) (.int .i64 p.tx) (.int .i64 p.id) (.int .i64 p.root) (.int .i64 p.count) (.slice ka p.ks.length kc) (.slice ea p.es.length ec) (.int .i64 p.next) (.string p.data)
    have hz := put9D_fr w5 w.heap.size (.int .i64 p.kind) (.int .i64 p.tx) (.int .i64 p.id) (.int .i64 p.root) (.int .i64 p.count) (.slice ka p.ks.length kc) (.slice ea p.es.length ec) (.int .i64 p.next) (.string p.data)
    have hbZ := b5.trans (hz.below b5.size (fun g e => by omega))
    have hvZ := (hv5.fr hz (fun g e => by omega)).weak (show w.heap.size ≤ w2.heap.size by omega) (show 20 ≤ 21 by omega) (fun p hp => by show (-1 : Int) ≤ p.tx; have := hp.1; omega)
    have HV : Hid _ := hvZ
    clear hvZ hv5 hz
    go_wp2
    show bodyPost _ _ _ _ _ (put9D w5 w.heap.size (.int .i64 p.kind) (.int .i64 p.tx) (.int .i64 p.id) (.int .i64 p.root) (.int .i64 p.count) (.slice ka p.ks.length kc) (.slice ea p.es.length ec) (.int .i64 p.next) (.string p.data))
    clear r0 r1 r2 r3 r4 r5 r6 r7 r8
    obtain ⟨r0, r1, r2, r3, r4, r5, r6, r7, r8⟩ := box_page HB
    refine bodyPost_ret (v := .agg #[.int .i64 p.kind, .int .i64 p.tx, .int .i64 p.id, .int .i64 p.root, .int .i64 p.count, .slice ka p.ks.length kc, .slice ea p.es.length ec, .int .i64 p.next, .string p.data]) (by simp [results, Try.results37, go_sem, r0, r1, r2, r3, r4, r5, r6, r7, r8]) rfl ?_
    exact ⟨_, rfl, HV.out, hbZ⟩
  · go_wp2_with fail
    refine (l2SpoilPage_any C A B w5 hD5 (w.heap.size + 1) w2.heap.size (by omega) hC2 (by omega) _ (hv5.weak (Nat.le_refl _) (Nat.le_refl _) (fun p hp => by show (0 : Int) ≤ p.tx; have := hp.1; omega))).mono ?_
    rintro e w6 ⟨v, rfl, hv6, hb6⟩
    have HR6 := (hb6.block _ (by omega)).trans HR5
    have b6 := b5.trans (hb6.mono (by omega))
    have hv6' := hv6
    clear p0 p1 p2 p3 p4 p5 p6 p7 p8 HP5 HR5 hD5 hv5 hb6 b5
    obtain ⟨p, ka, kc, ea, ec, rfl, hf, hk, he, hkf, hef, hO, hP, hap, hlo⟩ := hv6'
    clear hO hP hap hlo hf hkf hef hk he
    obtain ⟨r0, r1, r2, r3, r4, r5, r6, r7, r8⟩ := box_page HR6
    have ff := box_thaw HR6
    have HB := put9D_box HR6 (.int .i64 p.kind) (.int .i64 p.tx) (.int .i64 p.id) (.int .i64 p.root) (.int .i64 p.count) (.slice ka p.ks.length kc) (.slice ea p.es.length ec) (.int .i64 p.next) (.string p.data)
    have hz := put9D_fr w6 w.heap.size (.int .i64 p.kind) (.int .i64 p.tx) (.int .i64 p.id) (.int .i64 p.root) (.int .i64 p.count) (.slice ka p.ks.length kc) (.slice ea p.es.length ec) (.int .i64 p.next) (.string p.data)
    have hbZ := b6.trans (hz.below b6.size (fun g e => by omega))
    have hvZ := (hv6.fr hz (fun g e => by omega)).weak (show w.heap.size ≤ w2.heap.size by omega) (Nat.le_refl _) (fun p hp => hp)
    have HV : Hid _ := hvZ
    clear hvZ hv6 hz
    go_wp2
    show bodyPost _ _ _ _ _ (put9D w6 w.heap.size (.int .i64 p.kind) (.int .i64 p.tx) (.int .i64 p.id) (.int .i64 p.root) (.int .i64 p.count) (.slice ka p.ks.length kc) (.slice ea p.es.length ec) (.int .i64 p.next) (.string p.data))
    clear r0 r1 r2 r3 r4 r5 r6 r7 r8
    obtain ⟨r0, r1, r2, r3, r4, r5, r6, r7, r8⟩ := box_page HB
    refine bodyPost_ret (v := .agg #[.int .i64 p.kind, .int .i64 p.tx, .int .i64 p.id, .int .i64 p.root, .int .i64 p.count, .slice ka p.ks.length kc, .slice ea p.es.length ec, .int .i64 p.next, .string p.data]) (by simp [results, Try.results37, go_sem, r0, r1, r2, r3, r4, r5, r6, r7, r8]) rfl ?_
    exact ⟨_, rfl, HV.out, hbZ⟩
end Go.Proofs.Ytpiipnfhinbimac
namespace Go.Proofs.Ytpiipnfhinbimac
open Go.RowKit
set_option linter.unusedVariables false
set_option maxRecDepth 100000

theorem DPg.rows {w : World} {T m : Nat} {Φ : Pg → Prop} {v : Value} (h : DPg w T m Φ v) : ∃ (p : Pg) (ka : Option Addr) (kc : Nat) (ea : Option Addr) (ec : Nat), v = .agg #[.int .i64 p.kind, .int .i64 p.tx, .int .i64 p.id, .int .i64 p.root, .int .i64 p.count, .slice ka p.ks.length kc, .slice ea p.es.length ec, .int .i64 p.next, .string p.data] ∧ PgFit p ∧ KidsAt w T w.heap.size ka p.ks.length kc p.ks ∧ EntsAt w T w.heap.size ea p.es.length ec p.es ∧ Φ p := by
  obtain ⟨p, ka, kc, ea, ec, rfl, hf, hk, he, hkf, hef, hO, hP, hap, hlo⟩ := h
  have gk : ∀ i, i < p.ks.length → kidFit (p.ks.getD i dK) := fun i hi => by rw [show p.ks.getD i dK = p.ks[i] by simp [List.getD, hi]]; exact hkf _ (List.getElem_mem hi)
  have ge : ∀ i, i < p.es.length → entFit (p.es.getD i dE) := fun i hi => by rw [show p.es.getD i dE = p.es[i] by simp [List.getD, hi]]; exact hef _ (List.getElem_mem hi)
  obtain ⟨_, _, e2, hK2⟩ := RowsAt.of_owns kc2 hO rfl gk
  cases e2
  obtain ⟨_, _, e2, hE2⟩ := RowsAt.of_owns ec4 hP rfl ge
  cases e2
  exact ⟨p, ka, kc, ea, ec, rfl, hf, hK2, hE2, hlo⟩
theorem BytesAt.low {w : World} {A A' B B' : Nat} {a : Option Addr} {n c : Nat} {bs : List Int} (h : BytesAt w A B a n c bs) (hA : A' ≤ A) (hB : B ≤ B') : BytesAt w A' B' a n c bs := by
  obtain ⟨h1, h2, h3, h4, h5, h6⟩ := h
  refine ⟨h1, h2, h3, h4, fun hn => ?_, h6⟩
  obtain ⟨b, off, e, hb, hc⟩ := h5 hn
  exact ⟨b, off, e, ⟨by omega, by omega⟩, hc⟩
theorem TRes.up {S T S' T' : Nat} {w w0 w' : World} {e : Ending} (h : TRes S T w e w') (hS : S' ≤ S) (hT : T' ≤ T) (hb : Below S' w0 w) : TRes S' T' w0 e w' := by
  obtain ⟨a, n, c, bs, e1, hB, hb2⟩ := h.out
  exact ⟨⟨a, n, c, bs, e1, hB.low hT (Nat.le_refl _), hb.trans (hb2.mono hS)⟩⟩
theorem TRes.of {S T : Nat} {w w' : World} {a : Option Addr} {n c : Nat} {bs : List Int} (hO : w'.ownsRow T 5 1 (.slice a n c) n (u8s bs)) (hb : ∀ x ∈ bs, 0 ≤ x ∧ x ≤ 255) (hS : S ≤ T) (hbel : Below S w w') : TRes S S w (.returned (.slice a n c)) w' :=
  ⟨⟨a, n, c, bs, rfl, (bytesAt_row hO hb).low hS (Nat.le_refl _), hbel⟩⟩
theorem lit0 (w : World) : BytesAt (w.alloc (.cells #[.int .u8 0] 5)) w.heap.size (w.heap.size + 1) (some ⟨w.heap.size, 0, none⟩) 1 1 [0] := by
  refine ⟨rfl, Nat.le_refl _, by unfold maxLen; omega, (by intro x hx; simp at hx; omega), fun _ => ⟨w.heap.size, 0, rfl, ⟨Nat.le_refl _, Nat.lt_succ_self _⟩, fun i hi => ?_⟩, (by intro h; cases h)⟩
  obtain rfl : i = 0 := by omega
  have h1 := heap_alloc_new w (.cells #[.int .u8 0] 5)
  simp only [World.cell?, h1]
  rfl
theorem oldCode_full {p : Pg} (h : p.tx = 0) (hok : bodyOk 1 998 p = true) : (oldCodeOf p).length = 128 := by
  have hl := bodyB_len true hok
  rw [oldCodeOf, if_pos ⟨h, hok⟩]
  simp [oldCode, padB]
  omega
set_option maxHeartbeats 1600000 in
theorem drawDecodePage_any (a : Option Addr) (n c : Nat) (bs : List Int) (w : World) (A B : Nat) (hB : B ≤ w.heap.size) (h : BytesAt w A B a n c bs) :
    Calls Try.prog 41 #[.slice a n c] w fun e w' => TRes w.heap.size w.heap.size w e w' := by
  go_enter Try.func41, Try.ntmps41
  go_wp2_with fail
  refine (l1New_any a n c bs w A B hB h).mono ?_
  rintro e w1 ⟨C, rfl, hC, hD1, b1⟩
  clear h
  go_wp2_with fail
  refine (l2DrawTx_any C A B w1 hD1).mono ?_
  rintro e w2 ⟨tx, rfl, htx, hD2, hF2⟩
  have b2 := b1.trans (hF2.below b1.size (fun g e => by omega))
  clear b1 hD1 hF2
  go_wp2_with fail
  have hC2 := hD2.lt
  refine (l2DrawPage_any C A B w2 hD2 2 999 tx (by omega) (by omega) htx).mono ?_
  rintro e w3 ⟨v, rfl, hv, hD3, hF3⟩
  have b3 := b2.trans (hF3.below b2.size (fun g e => by omega))
  have hs23 := hF3.size
  have hs2 := b2.size
  obtain ⟨p, ka, kc, ea, ec, rfl, hf, hK, hE, hgood⟩ := hv.rows
  have HG : Hid (p.tx = _ ∧ bodyOk _ _ p = true) := hgood
  clear hv hF3 hD2 b2 hgood
  go_wp2_with fail
  refine (specEncodePage_any p hf hf.tx ka kc ea ec w3 _ w3.heap.size (Nat.le_refl _) hK hE).mono ?_
  rintro e w4 ⟨v4, rfl, hO4, hb4⟩
  have b4 := b3.trans (hb4.mono b3.size)
  have hD4 := hD3.below hb4
  have hs34 := hb4.size
  have hC3 := hD3.lt
  clear hK hE b3 hD3 hb4
  obtain ⟨a4, c4, rfl⟩ := own_shape hO4
  have hby := codeN_byte p
  have hlen := codeN_len p
  clear HG
  generalize newCodeOf p = l at hO4 hby hlen ⊢
  obtain ⟨m, hm⟩ : ∃ m, l.length = m := ⟨_, rfl⟩
  rw [hm] at hO4 hlen ⊢
  have HM : Hid (l.length = m) := hm
  clear hm
  go_wp2_with fail
  refine (l1Below_any C A B w4 hD4 4 (by omega) (by omega)).mono ?_
  rintro e w5 ⟨k, rfl, hk, hD5, hF5⟩
  have hO5 := owns_fr hO4 hF5 (fun g e e' => by have := (hO4.lt g e).1; omega)
  have b5 := b4.trans (hF5.below b4.size (fun g e => by omega))
  have hs45 := hF5.size
  clear hO4 b4 hD4 hF5
  by_cases hk0 : k = 0
  · subst hk0
    go_wp2_with fail
    refine (l2Turn_any C A B w5 hD5 false w.heap.size w3.heap.size hC hC3 (by omega) a4 m c4 l hO5 hby).mono ?_
    rintro e w6 hT
    have hT2 := hT.up (Nat.le_refl _) (show w.heap.size ≤ w3.heap.size by omega) b5
    obtain ⟨a6, n6, c6, bs6, rfl, hB6, hb6⟩ := hT2.out
    go_wp2
    go_ret
    exact hT2
  · have n0 : ((k : Int) == 0) = false := by simp; omega
    by_cases hk1 : k = 1
    · subst hk1
      go_wp2_with fail
      refine (l1Once_any C A B w5 hD5 6 (by omega) (by omega)).mono ?_
      rintro e w6 ⟨b, rfl, hD6, hF6⟩
      have hO6 := owns_fr hO5 hF6 (fun g e e' => by have := (hO5.lt g e).1; omega)
      have b6 := b5.trans (hF6.below b5.size (fun g e => by omega))
      have hs56 := hF6.size
      clear hO5 b5 hD5 hF6
      cases b
      · have hR := TRes.of (S := w.heap.size) hO6 hby (by omega) b6
        have HR : Hid _ := hR
        clear hR hO6
        go_wp2
        go_ret
        exact HR.out
      · have hal := lit0 w6
        have hb7 : Below w6.heap.size w6 (w6.alloc (.cells #[.int .u8 0] 5)) := (Below.refl _ _).alloc (Nat.le_refl _) _
        have hO7 := owns_below hO6 hb7
        go_wp2_with (at_builtin; refine wpList_ab rfl _ _ rfl w3.heap.size _ m l rfl hO7 (some ⟨w6.heap.size, 0, none⟩) 1 1 [0] _ _ rfl hal (by omega) (by have := hb7.size; omega) ?_; intro v8 w8 hO8 hg8; obtain ⟨a8, c8, rfl⟩ := own_shape hO8)
        have b7 := b6.trans (hb7.mono b6.size)
        have b8 := b7.grown hg8 b7.size (fun g e => by have := (hO7.lt g e).1; omega)
        go_ret
        exact TRes.of hO8 (bytes_app hby (by intro x hx; simp at hx; omega)) (by omega) b8
    · have n1 : ((k : Int) == 1) = false := by simp; omega
      have hR := TRes.of (S := w.heap.size) hO5 hby (by omega) b5
      have HR : Hid _ := hR
      clear hR hO5
      go_wp2_with fail
      go_wp2
      go_ret
      exact HR.out
set_option maxHeartbeats 1600000 in
theorem drawDecodeOld_any (a : Option Addr) (n c : Nat) (bs : List Int) (w : World) (A B : Nat) (hB : B ≤ w.heap.size) (h : BytesAt w A B a n c bs) :
    Calls Try.prog 42 #[.slice a n c] w fun e w' => TRes w.heap.size w.heap.size w e w' := by
  go_enter Try.func42, Try.ntmps42
  go_wp2_with fail
  refine (l1New_any a n c bs w A B hB h).mono ?_
  rintro e w1 ⟨C, rfl, hC, hD1, b1⟩
  clear h
  have b2 := b1
  have hD2 := hD1
  clear b1 hD1
  go_wp2_with fail
  have hC2 := hD2.lt
  refine (l2DrawPage_any C A B w1 hD2 1 998 0 (by omega) (by omega) (by omega)).mono ?_
  rintro e w3 ⟨v, rfl, hv, hD3, hF3⟩
  have b3 := b2.trans (hF3.below b2.size (fun g e => by omega))
  have hs23 := hF3.size
  have hs2 := b2.size
  obtain ⟨p, ka, kc, ea, ec, rfl, hf, hK, hE, hgood⟩ := hv.rows
  have HG : Hid (p.tx = _ ∧ bodyOk _ _ p = true) := hgood
  clear hv hF3 hD2 b2 hgood
  go_wp2_with fail
  refine (specEncodeOld_any p hf ka kc ea ec w3 _ w3.heap.size (Nat.le_refl _) hK hE).mono ?_
  rintro e w4 ⟨v4, rfl, hO4, hb4⟩
  have b4 := b3.trans (hb4.mono b3.size)
  have hD4 := hD3.below hb4
  have hs34 := hb4.size
  have hC3 := hD3.lt
  clear hK hE b3 hD3 hb4
  obtain ⟨a4, c4, rfl⟩ := own_shape hO4
  have hby := code_byte p
  have hlen := code_len p
  have hfull := oldCode_full HG.out.1 HG.out.2
  clear HG
  generalize oldCodeOf p = l at hO4 hby hlen hfull ⊢
  rw [hfull] at hO4 ⊢
  go_wp2_with fail
  refine (l1Below_any C A B w4 hD4 4 (by omega) (by omega)).mono ?_
  rintro e w5 ⟨k, rfl, hk, hD5, hF5⟩
  have hO5 := owns_fr hO4 hF5 (fun g e e' => by have := (hO4.lt g e).1; omega)
  have b5 := b4.trans (hF5.below b4.size (fun g e => by omega))
  have hs45 := hF5.size
  clear hO4 b4 hD4 hF5
  by_cases hk0 : k = 0
  · subst hk0
    go_wp2_with fail
    refine (l2Turn_any C A B w5 hD5 true w.heap.size w3.heap.size hC hC3 (by omega) a4 128 c4 l hO5 hby).mono ?_
    rintro e w6 hT
    have hT2 := hT.up (Nat.le_refl _) (show w.heap.size ≤ w3.heap.size by omega) b5
    obtain ⟨a6, n6, c6, bs6, rfl, hB6, hb6⟩ := hT2.out
    go_wp2
    go_ret
    exact hT2
  · have n0 : ((k : Int) == 0) = false := by simp; omega
    by_cases hk1 : k = 1
    · subst hk1
      go_wp2_with fail
      refine (l1Once_any C A B w5 hD5 6 (by omega) (by omega)).mono ?_
      rintro e w6 ⟨b, rfl, hD6, hF6⟩
      have hO6 := owns_fr hO5 hF6 (fun g e e' => by have := (hO5.lt g e).1; omega)
      have b6 := b5.trans (hF6.below b5.size (fun g e => by omega))
      have hs56 := hF6.size
      clear hO5 b5 hD5 hF6
      cases b
      · have hR := TRes.of (S := w.heap.size) hO6 hby (by omega) b6
        have HR : Hid _ := hR
        clear hR hO6
        go_wp2
        go_ret
        exact HR.out
      · obtain ⟨g, rfl⟩ := owns_someD hO6 (by omega)
        have hB6 := bytesAt_row hO6 hby
        have hcc : 128 ≤ c4 := hB6.2.1
        have hB7 := (bytesAt_sub hB6 1 127 (by omega) (by omega)).low (show w.heap.size ≤ w3.heap.size by omega) (Nat.le_refl _)
        have hR : TRes w.heap.size w.heap.size w (.returned (.slice (some ⟨g, 1, none⟩) 127 (c4 - 1))) w6 := ⟨⟨_, _, _, _, rfl, hB7, b6⟩⟩
        have HR : Hid _ := hR
        have hc1 : ¬ c4 = 1 := by omega
        clear hR hO6 hB6 hB7
        go_wp2
        go_ret
        exact HR.out
    · have n1 : ((k : Int) == 1) = false := by simp; omega
      have hR := TRes.of (S := w.heap.size) hO5 hby (by omega) b5
      have HR : Hid _ := hR
      clear hR hO5
      go_wp2_with fail
      go_wp2
      go_ret
      exact HR.out
end Go.Proofs.Ytpiipnfhinbimac
