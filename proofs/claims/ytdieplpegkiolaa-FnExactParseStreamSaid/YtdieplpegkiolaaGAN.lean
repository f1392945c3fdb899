import Derived.Test.YtdieplpegkiolaaGAM
namespace Go.Proofs.Ytdieplpegkiolaa
namespace New
open Go.RowKit
set_option linter.unusedVariables false
set_option maxRecDepth 100000

/-- A block that is neither the cursor's nor its bytes' stays. -/
theorem wrote_box {w w' : World} {C G k pf gf M : Nat} {old : Bool} {L bs : List Int} {o : Obj} (h : Wrote w w' C G old pf gf k L bs) (hM : w.heap[M]? = some o) (h1 : M ≠ C) (h2 : M ≠ G) : w'.heap[M]? = some o :=
  (h.2.block M (Array.getElem?_eq_some_iff.1 hM).1 (fun e => by rcases e with e | e <;> contradiction)).trans hM

set_option maxHeartbeats 800000 in
theorem metaWrite_any (C G k M : Nat) (L : List Int) (p : Pg) (hi : I64 p.id) (hr : I64 p.root) (hc : I64 p.count) (w : World) (h : Cur w C G false 53 54 k L) (hk : k + 20 < 128) (hM : w.heap[M]? = some (.cells #[.int .i64 p.id, .int .i64 p.root, .int .i64 p.count] 115)) (h1 : M ≠ C) (h2 : M ≠ G) :
    Calls Try.prog 88 #[.pointer (some ⟨M, 0, none⟩), .pointer (some ⟨C, 0, none⟩)] w fun e w' => e = .returned (.tuple #[]) ∧ Wrote w w' C G false 53 54 k L (metaB false p) := by
  obtain ⟨e0, e1, e2, e3, e4⟩ := h.cells
  obtain ⟨m0, m1, m2⟩ := box_form hM
  have hl := h.len
  go_enter Try.func88, Try.ntmps88
  go_wp2_with fail
  go_region_held3 (fun w' => w'.cell? ⟨C, 3, none⟩ = some (.func (.func 53) #[.pointer (some ⟨C, 0, none⟩)] #[]) ∧ w'.cell? ⟨M, 0, none⟩ = some (.int .i64 p.id) ∧ w'.cell? ⟨M, 1, none⟩ = some (.int .i64 p.root) ∧ w'.cell? ⟨M, 2, none⟩ = some (.int .i64 p.count)) (go_keep)
    (first | (go_at_call 53; refine (Put C G k L p.id 4 w.drew hi (by omega) h.drew (by omega)).mono ?_; rintro e w1 ⟨rfl, hV1⟩; have hM1 := wrote_box hV1 (w := w.drew) hM h1 h2; obtain ⟨_, _, _, e3', _⟩ := hV1.1.cells; obtain ⟨m0', m1', m2'⟩ := box_form hM1))
  have hW1 : Wrote w w1 C G false 53 54 k L (numB false 4 p.id) := ⟨hV1.1, (Fr.of_below (Below.refl _ _).drew).trans hV1.2⟩
  have l1 : (numB false 4 p.id).length = 4 := numB_len _ _ _
  clear hV1
  go_wp2_with fail
  refine (putSmall_any C G (k + (numB false 4 p.id).length) _ p.root hr w1 hW1.1 (by omega)).mono ?_
  rintro e w2 ⟨rfl, hV2⟩
  have hM2 := wrote_box hV2 hM1 h1 h2
  have hW2 := hW1.trans (by omega) hV2
  have l2 : (numB false 4 p.id ++ numB false (smallN false) p.root).length = 8 := by rw [List.length_append, l1, numB_len]; rfl
  obtain ⟨_, _, _, e3'', _⟩ := hW2.1.cells
  obtain ⟨m0'', m1'', m2''⟩ := box_form hM2
  clear hV2
  go_wp2_with fail
  go_region_held3 (fun w' => w'.cell? ⟨C, 3, none⟩ = some (.func (.func 53) #[.pointer (some ⟨C, 0, none⟩)] #[]) ∧ w'.cell? ⟨M, 0, none⟩ = some (.int .i64 p.id) ∧ w'.cell? ⟨M, 1, none⟩ = some (.int .i64 p.root) ∧ w'.cell? ⟨M, 2, none⟩ = some (.int .i64 p.count)) (go_keep)
    (first | (go_at_call 53; refine (Put C G (k + (numB false 4 p.id ++ numB false (smallN false) p.root).length) _ p.count 4 w2.drew hc (by omega) hW2.1.drew (by omega)).mono ?_; rintro e w3 ⟨rfl, hV3⟩; have hM3 := wrote_box hV3 (w := w2.drew) hM2 h1 h2; obtain ⟨_, _, _, e3', _⟩ := hV3.1.cells; obtain ⟨m0', m1', m2'⟩ := box_form hM3))
  have hW3 := hW2.trans (by omega) ⟨hV3.1, (Fr.of_below (Below.refl _ w2).drew).trans hV3.2⟩
  have l3 : (numB false 4 p.id ++ numB false (smallN false) p.root ++ numB false 4 p.count).length = 12 := by rw [List.length_append, l2, numB_len]
  clear hV3
  go_wp2_with fail
  refine (putLetters_any C G (k + (numB false 4 p.id ++ numB false (smallN false) p.root ++ numB false 4 p.count).length) _ _ _ _ ⟨#[67, 79, 87, 50]⟩ w3 hW3.1 (by rw [l3]; show _ + 4 ≤ 128; omega) (by omega)).mono ?_
  rintro e w4 ⟨rfl, hV4⟩
  have R : Hid (Wrote w w4 C G false 53 54 k L (metaB false p)) := by
    have e : metaB false p = (numB false 4 p.id ++ numB false (smallN false) p.root ++ numB false 4 p.count) ++ strB ⟨#[67, 79, 87, 50]⟩ := by
      rw [show strB ⟨#[67, 79, 87, 50]⟩ = [67, 79, 87, 50] by decide]; rfl
    show Wrote _ _ _ _ _ _ _ _ _ _
    rw [e]
    exact hW3.trans (by omega) hV4
  clear hW1 hW2 hW3 hV4 h
  go_wp2
  go_end0
  exact ⟨rfl, R.out⟩
end New
end Go.Proofs.Ytdieplpegkiolaa
namespace Go.Proofs.Ytdieplpegkiolaa
namespace New
open Go.RowKit
set_option linter.unusedVariables false
set_option maxRecDepth 100000

theorem Wrote.next {w w1 w2 : World} {C G k pf gf : Nat} {old : Bool} {L ds bs : List Int} (hW : Wrote w w1 C G old pf gf k L ds) (hl : L.length = 128) (hm : k + ds.length ≤ 128) (hV : Wrote w1.drew w2 C G old pf gf (k + ds.length) (lay L k ds) bs) : Wrote w w2 C G old pf gf k L (ds ++ bs) :=
  Wrote.trans hW (by omega) ⟨hV.1, (Fr.of_below (Below.refl _ _).drew).trans hV.2⟩

set_option maxHeartbeats 800000 in
theorem overWrite_any (C G k M : Nat) (L : List Int) (next : Int) (data : ByteArray) (hn : I64 next) (hd : data.size ≤ 96) (w : World) (h : Cur w C G false 53 54 k L) (hk : k ≤ 8) (hM : w.heap[M]? = some (.cells #[.int .i64 next, .string data] 124)) (h1 : M ≠ C) (h2 : M ≠ G) :
    Calls Try.prog 112 #[.pointer (some ⟨M, 0, none⟩), .pointer (some ⟨C, 0, none⟩)] w fun e w' => e = .returned (.tuple #[]) ∧ Wrote w w' C G false 53 54 k L (numB false (smallN false) next ++ textB data) := by
  have m0 : w.cell? ⟨M, 0, none⟩ = some (.int .i64 next) := by simp [World.cell?, hM]
  have m1 : w.cell? ⟨M, 1, none⟩ = some (.string data) := by simp [World.cell?, hM]
  have hl := h.len
  have hsm := numB_small false next
  go_enter Try.func112, Try.ntmps112
  go_wp2_with fail
  refine (putSmall_any C G k L next hn w h (by omega)).mono ?_
  rintro e w1 ⟨rfl, hW1⟩
  have hM1 := wrote_box hW1 hM h1 h2
  have m0 : w1.cell? ⟨M, 0, none⟩ = some (.int .i64 next) := by simp [World.cell?, hM1]
  have m1 : w1.cell? ⟨M, 1, none⟩ = some (.string data) := by simp [World.cell?, hM1]
  go_wp2_with fail
  refine (putText_any C G (k + (numB false (smallN false) next).length) _ data w1 hW1.1 (by omega)).mono ?_
  rintro e w2 ⟨rfl, hW2⟩
  have R : Hid (Wrote w w2 C G false 53 54 k L (numB false (smallN false) next ++ textB data)) := hW1.trans (by omega) hW2
  clear hW1 hW2
  go_wp2
  go_end0
  exact ⟨rfl, R.out⟩

theorem Wrote.call {w w1 w2 : World} {C G k pf gf : Nat} {old : Bool} {L ds : List Int} (hW : Wrote w w1 C G old pf gf k L ds) (hb : Below w1.heap.size w1 w2) : Wrote w w2 C G old pf gf k L ds :=
  ⟨⟨(hb.block C (Array.getElem?_eq_some_iff.1 hW.1.box).1).trans hW.1.box, owns_below hW.1.row hb, hW.1.len⟩, hW.2.trans (Fr.of_below hb)⟩
theorem Wrote.lt {w w1 : World} {C G k pf gf : Nat} {old : Bool} {L ds : List Int} (hW : Wrote w w1 C G old pf gf k L ds) : C < w1.heap.size ∧ G < w1.heap.size := ⟨(Array.getElem?_eq_some_iff.1 hW.1.box).1, (hW.1.row.lt G rfl).2⟩
theorem kidsB_len' (hi : Bool) (ks : List PK) (n : Nat) (hs : ∀ i, i < n → 0 < i → (ks.getD i dK).1.size ≤ 8) : (kidsB hi (smallN hi) ks n).length ≤ n * 13 := by
  have := kidsB_len hi (smallN hi) ks n hs
  have := Nat.mul_le_mul_left n (show 9 + smallN hi ≤ 13 by have := smallN_le hi; omega)
  omega

set_option maxHeartbeats 1600000 in
theorem branchWrite_any (C G k M : Nat) (L : List Int) (ka : Option Addr) (n kc : Nat) (ks : List PK) (w : World) (A B : Nat) (h : Cur w C G false 53 54 k L) (hk : k ≤ 8) (hM : w.heap[M]? = some (.cells #[.slice ka n kc] 118)) (h1 : M ≠ C) (h2 : M ≠ G) (hK : KidsAt w A B ka n kc ks) (hB : B ≤ w.heap.size) (hC : B ≤ C) (hG : B ≤ G) (hn : n ≤ 4) (hs : ∀ i, i < n → 0 < i → (ks.getD i dK).1.size ≤ 8) :
    Calls Try.prog 97 #[.pointer (some ⟨M, 0, none⟩), .pointer (some ⟨C, 0, none⟩)] w fun e w' => e = .returned (.tuple #[]) ∧ Wrote w w' C G false 53 54 k L (kidsB false (smallN false) ks n) := by
  have m0 : w.cell? ⟨M, 0, none⟩ = some (.slice ka n kc) := by simp [World.cell?, hM]
  have hl := h.len
  go_enter Try.func97, Try.ntmps97
  go_wp2_with fail
  go_loopw [11] (fun iv wr => ∃ i : Nat, i ≤ n ∧ iv = .int .i64 i ∧ Hid (Wrote w wr C G false 53 54 k L (kidsB false (smallN false) ks i))) (fun iv _ => n - (intOf iv).toNat)
  case atStart => exact ⟨0, Nat.zero_le _, rfl, wrote_nil h⟩
  case round =>
    obtain ⟨i, hi, rfl, HW⟩ := hrel
    by_cases hlt : i < n
    · obtain ⟨b, off, rfl, hb, hfit, q0, q1⟩ := KidsAt.at (hK.fr HW.out.2 hB (fun g e => by rcases e with e | e <;> omega)) hlt
      have hs' := hs i hlt
      have hlen := kidsB_len' false ks i (fun j h1 h2 => hs j (by omega) h2)
      have HK : Hid (kidsB false (smallN false) ks (i + 1) = kidsB false (smallN false) ks i ++ kidB false (smallN false) i (ks.getD i dK)) := rfl
      generalize ks.getD i dK = kd at q0 q1 hfit hs' HK
      generalize kidsB false (smallN false) ks i = l at HW HK hlen
      have hpg : I64 kd.2 := hfit.2
      obtain ⟨hCl, hGl⟩ := Wrote.lt HW.out
      have HW0 := Wrote.call HW.out ((Below.refl _ wr).alloc (Nat.le_refl _) (.cells #[.string kd.1, .int .i64 kd.2] 91))
      have HE0 : (wr.alloc (.cells #[.string kd.1, .int .i64 kd.2] 91)).heap[wr.heap.size]? = some (.cells #[.string kd.1, .int .i64 kd.2] 91) := heap_alloc_new wr _
      have hnC : wr.heap.size ≠ C := by omega
      have hnG : wr.heap.size ≠ G := by omega
      clear hK hs
      by_cases h0 : 0 < i
      · have hsz := hs' h0
        have s4 : decide ((0 : Int) < (i : Int)) = true := by simp; omega
        clear hs'
        go_wp2_with fail
        generalize wr.alloc (.cells #[.string kd.1, .int .i64 kd.2] 91) = W0 at HW0 HE0 ⊢
        generalize wr.heap.size = E at HE0 hnC hnG ⊢
        refine (putText_any C G (k + l.length) _ kd.1 W0 HW0.1 (by omega)).mono ?_
        rintro e w1 ⟨rfl, hV1⟩
        have HE1 := wrote_box hV1 HE0 hnC hnG
        have r0 : w1.cell? ⟨E, 0, none⟩ = some (.string kd.1) := by simp [World.cell?, HE1]
        have r1 : w1.cell? ⟨E, 1, none⟩ = some (.int .i64 kd.2) := by simp [World.cell?, HE1]
        have HW1 := HW0.trans (by omega) hV1
        have hl1 : (l ++ textB kd.1).length ≤ i * 13 + 9 := by simp [textB_len]; omega
        go_wp2_with fail
        refine (putSmall_any C G (k + (l ++ textB kd.1).length) _ kd.2 hpg w1 HW1.1 (by omega)).mono ?_
        rintro e w2 ⟨rfl, hV2⟩
        have R : Hid (Wrote w w2 C G false 53 54 k L (kidsB false (smallN false) ks (i + 1))) := by
          show Wrote _ _ _ _ _ _ _ _ _ _
          rw [HK.out, kidB, if_pos h0, ← List.append_assoc]
          exact HW1.trans (by omega) hV2
        clear HW HW0 HW1 hV1 hV2 HE0 HE1
        go_wp2
        go_roundw
        case rel => exact ⟨i + 1, by omega, by go_num, R⟩
        case measure => simp [intOf]; omega
      · have s4 : decide ((0 : Int) < (i : Int)) = false := by simp; omega
        clear hs'
        go_wp2_with fail
        generalize wr.alloc (.cells #[.string kd.1, .int .i64 kd.2] 91) = W0 at HW0 HE0 ⊢
        refine (putSmall_any C G (k + l.length) _ kd.2 hpg W0 HW0.1 (by omega)).mono ?_
        rintro e w2 ⟨rfl, hV2⟩
        have R : Hid (Wrote w w2 C G false 53 54 k L (kidsB false (smallN false) ks (i + 1))) := by
          show Wrote _ _ _ _ _ _ _ _ _ _
          rw [HK.out, kidB, if_neg h0, List.nil_append]
          exact HW0.trans (by omega) hV2
        clear HW HW0 hV2 HE0
        go_wp2
        go_roundw
        case rel => exact ⟨i + 1, by omega, by go_num, R⟩
        case measure => simp [intOf]; omega
    · obtain rfl : i = n := by omega
      go_wp2
      go_end0
      exact ⟨rfl, HW.out⟩
end New
end Go.Proofs.Ytdieplpegkiolaa
namespace Go.Proofs.Ytdieplpegkiolaa
namespace New
open Go.RowKit
set_option linter.unusedVariables false
set_option maxRecDepth 100000

theorem lay_drop {L : List Int} {k m : Nat} {bs : List Int} (h : k + bs.length ≤ L.length) : (lay L k bs).drop (k + bs.length + m) = L.drop (k + bs.length + m) := by
  unfold lay
  have h1 : (L.take k ++ bs).length = k + bs.length := by simp; omega
  rw [List.drop_append, h1, List.drop_eq_nil_of_le (by rw [h1]; omega), List.nil_append, List.drop_drop]
  congr 1
  omega
theorem zeros_at {L : List Int} {k j z : Nat} (hl : L.length = 128) (hZ : L.drop k = List.replicate (128 - k) 0) (hj : k ≤ j) (hz : j + z ≤ 128) : (L.drop j).take z = List.replicate z 0 := by
  have : L.drop j = List.replicate (128 - j) 0 := by
    rw [show j = k + (j - k) by omega, ← List.drop_drop, hZ, List.drop_replicate]
    congr 1
    omega
  rw [this, List.take_replicate, Nat.min_eq_left (by omega)]
theorem entsB_len' (hi : Bool) (es : List PE) (n : Nat) (hs : ∀ i, i < n → (es.getD i dE).1.size ≤ 8 ∧ (es.getD i dE).2.1.size ≤ 8) : (entsB hi (smallN hi) es n).length ≤ n * 19 := entsB_len hi (smallN hi) es (smallN_le hi) n hs

set_option maxHeartbeats 1600000 in
theorem leafWrite_any (C G k M : Nat) (L : List Int) (ea : Option Addr) (n ec : Nat) (es : List PE) (w : World) (A B : Nat) (h : Cur w C G false 53 54 k L) (hZ : L.drop k = List.replicate (128 - k) 0) (hk : k ≤ 8) (hM : w.heap[M]? = some (.cells #[.slice ea n ec] 121)) (h1 : M ≠ C) (h2 : M ≠ G) (hE : EntsAt w A B ea n ec es) (hB : B ≤ w.heap.size) (hC : B ≤ C) (hG : B ≤ G) (hn : n ≤ 4) (hs : ∀ i, i < n → (es.getD i dE).1.size ≤ 8 ∧ (es.getD i dE).2.1.size ≤ 8) :
    Calls Try.prog 105 #[.pointer (some ⟨M, 0, none⟩), .pointer (some ⟨C, 0, none⟩)] w fun e w' => e = .returned (.tuple #[]) ∧ Wrote w w' C G false 53 54 k L (entsB false (smallN false) es n) := by
  have m0 : w.cell? ⟨M, 0, none⟩ = some (.slice ea n ec) := by simp [World.cell?, hM]
  have hl := h.len
  go_enter Try.func105, Try.ntmps105
  go_wp2_with fail
  go_loopw [11] (fun iv wr => ∃ i : Nat, i ≤ n ∧ iv = .int .i64 i ∧ Hid (Wrote w wr C G false 53 54 k L (entsB false (smallN false) es i))) (fun iv _ => n - (intOf iv).toNat)
  case atStart => exact ⟨0, Nat.zero_le _, rfl, wrote_nil h⟩
  case round =>
    obtain ⟨i, hi, rfl, HW⟩ := hrel
    by_cases hlt : i < n
    · obtain ⟨b, off, rfl, hb, hfit, q0, q1, q2, q3⟩ := EntsAt.at (hE.fr HW.out.2 hB (fun g e => by rcases e with e | e <;> omega)) hlt
      have hs' := hs i hlt
      have hlen := entsB_len' false es i (fun j h1 => hs j (by omega))
      have HK : Hid (entsB false (smallN false) es (i + 1) = entsB false (smallN false) es i ++ entB false (smallN false) (es.getD i dE)) := rfl
      generalize es.getD i dE = kd at q0 q1 q2 q3 hfit hs' HK
      generalize entsB false (smallN false) es i = l at HW HK hlen
      have hv1 : I64 kd.2.2.1 := hfit.2.2.1
      have hv2 : I64 kd.2.2.2 := hfit.2.2.2
      obtain ⟨hCl, hGl⟩ := Wrote.lt HW.out
      have HW0 := Wrote.call HW.out ((Below.refl _ wr).alloc (Nat.le_refl _) (.cells #[.string kd.1, .string kd.2.1, .int .i64 kd.2.2.1, .int .i64 kd.2.2.2] 93))
      have HE0 : (wr.alloc (.cells #[.string kd.1, .string kd.2.1, .int .i64 kd.2.2.1, .int .i64 kd.2.2.2] 93)).heap[wr.heap.size]? = some (.cells #[.string kd.1, .string kd.2.1, .int .i64 kd.2.2.1, .int .i64 kd.2.2.2] 93) := heap_alloc_new wr _
      have hnC : wr.heap.size ≠ C := by omega
      have hnG : wr.heap.size ≠ G := by omega
      have hz : ((lay L k l).drop (k + l.length + (kd.1.size + 1))).take (8 - kd.1.size) = List.replicate (8 - kd.1.size) 0 := by
        rw [lay_drop (by omega)]
        exact zeros_at hl hZ (by omega) (by omega)
      clear hE hs
      go_wp2_with fail
      generalize wr.alloc (.cells #[.string kd.1, .string kd.2.1, .int .i64 kd.2.2.1, .int .i64 kd.2.2.2] 93) = W0 at HW0 HE0 ⊢
      generalize wr.heap.size = E at HE0 hnC hnG ⊢
      refine (putKey_any C G (k + l.length) _ kd.1 W0 HW0.1 hs'.1 (by omega) hz).mono ?_
      rintro e w1 ⟨rfl, hV1⟩
      have HE1 := wrote_box hV1 HE0 hnC hnG
      obtain ⟨r0, r1, r2, r3⟩ := box_four HE1
      have HW1 := HW0.trans (by omega) hV1
      have hlk : (textB kd.1 ++ (if false then List.replicate (8 - kd.1.size) 0 else [])).length ≤ 9 := by simp [textB_len]; omega
      have HK1 : Hid (entsB false (smallN false) es (i + 1) = (l ++ (textB kd.1 ++ (if false then List.replicate (8 - kd.1.size) 0 else []))) ++ (if kd.2.2.1 = 0 then 0 :: textB kd.2.1 else 1 :: (numB false (smallN false) kd.2.2.1 ++ numB false (smallN false) kd.2.2.2))) := by
        show _ = _
        rw [HK.out, entB]
        simp only [List.append_assoc]
      have hl1 : (l ++ (textB kd.1 ++ (if false then List.replicate (8 - kd.1.size) 0 else []))).length ≤ i * 19 + 9 := by rw [List.length_append]; omega
      generalize l ++ (textB kd.1 ++ (if false then List.replicate (8 - kd.1.size) 0 else [])) = l1 at HW1 HK1 hl1
      obtain ⟨_, _, _, e3, _⟩ := HW1.1.cells
      clear HK hz hlk hV1 HW0 HE0 HW
      by_cases ho : kd.2.2.1 = 0
      · have so : (kd.2.2.1 == 0) = true := by simpa using ho
        have HO : Hid (kd.2.2.1 = 0) := ho
        clear ho
        go_wp2_with fail
        refine (Put C G (k + l1.length) _ 0 1 w1 (by unfold I64; omega) (by omega) HW1.1 (by omega)).mono ?_
        rintro e w2 ⟨rfl, hV2⟩
        rw [numB_one _ _ (by omega)] at hV2
        have HE2 := wrote_box hV2 HE1 hnC hnG
        obtain ⟨r0, r1, r2, r3⟩ := box_four HE2
        have HW2 := HW1.trans (by omega) hV2
        have hl2 : (l1 ++ [0]).length ≤ i * 19 + 10 := by simp; omega
        go_wp2_with fail
        refine (putText_any C G (k + (l1 ++ [0]).length) _ kd.2.1 w2 HW2.1 (by omega)).mono ?_
        rintro e w3 ⟨rfl, hV3⟩
        have R : Hid (Wrote w w3 C G false 53 54 k L (entsB false (smallN false) es (i + 1))) := by
          show Wrote _ _ _ _ _ _ _ _ _ _
          rw [HK1.out, if_pos HO.out, show (0 : Int) :: textB kd.2.1 = [0] ++ textB kd.2.1 from rfl, ← List.append_assoc]
          exact HW2.trans (by omega) hV3
        clear HW1 HW2 hV2 hV3 HE1 HE2
        go_wp2
        go_roundw
        case rel => exact ⟨i + 1, by omega, by go_num, R⟩
        case measure => simp [intOf]; omega
      · have so : (kd.2.2.1 == 0) = false := by simpa using ho
        have HO : Hid (¬ kd.2.2.1 = 0) := ho
        clear ho
        go_wp2_with fail
        refine (Put C G (k + l1.length) _ 1 1 w1 (by unfold I64; omega) (by omega) HW1.1 (by omega)).mono ?_
        rintro e w2 ⟨rfl, hV2⟩
        rw [numB_one _ _ (by omega)] at hV2
        have HE2 := wrote_box hV2 HE1 hnC hnG
        obtain ⟨r0, r1, r2, r3⟩ := box_four HE2
        have HW2 := HW1.trans (by omega) hV2
        have hl2 : (l1 ++ [1]).length ≤ i * 19 + 10 := by simp; omega
        go_wp2_with fail
        refine (putSmall_any C G (k + (l1 ++ [1]).length) _ kd.2.2.1 hv1 w2 HW2.1 (by omega)).mono ?_
        rintro e w3 ⟨rfl, hV3⟩
        have HE3 := wrote_box hV3 HE2 hnC hnG
        obtain ⟨r0, r1, r2, r3⟩ := box_four HE3
        have HW3 := HW2.trans (by omega) hV3
        have hl3 : (l1 ++ [1] ++ numB false (smallN false) kd.2.2.1).length ≤ i * 19 + 14 := by have := numB_small false kd.2.2.1; rw [List.length_append]; omega
        go_wp2_with fail
        refine (putSmall_any C G (k + (l1 ++ [1] ++ numB false (smallN false) kd.2.2.1).length) _ kd.2.2.2 hv2 w3 HW3.1 (by omega)).mono ?_
        rintro e w4 ⟨rfl, hV4⟩
        have R : Hid (Wrote w w4 C G false 53 54 k L (entsB false (smallN false) es (i + 1))) := by
          show Wrote _ _ _ _ _ _ _ _ _ _
          rw [HK1.out, if_neg HO.out, show (1 : Int) :: (numB false (smallN false) kd.2.2.1 ++ numB false (smallN false) kd.2.2.2) = [1] ++ (numB false (smallN false) kd.2.2.1 ++ numB false (smallN false) kd.2.2.2) from rfl, ← List.append_assoc, ← List.append_assoc]
          exact HW3.trans (by omega) hV4
        clear HW1 HW2 HW3 hV2 hV3 hV4 HE1 HE2 HE3
        go_wp2
        go_roundw
        case rel => exact ⟨i + 1, by omega, by go_num, R⟩
        case measure => simp [intOf]; omega
    · obtain rfl : i = n := by omega
      go_wp2
      go_end0
      exact ⟨rfl, HW.out⟩
end New
end Go.Proofs.Ytdieplpegkiolaa
