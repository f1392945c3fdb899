import Derived.Test.YtcmhobbpeaeebaaGBC
namespace Go.Proofs.Ytcmhobbpeaeebaa
namespace New
open Go.RowKit
set_option linter.unusedVariables false
set_option maxRecDepth 100000

/-- A block that is neither the cursor's nor its bytes' stays. -/
theorem wrote_box {w w' : World} {C G k pf gf M : Nat} {old : Bool} {L bs : List Int} {o : Obj} (h : Wrote w w' C G old pf gf k L bs) (hM : w.heap[M]? = some o) (h1 : M ≠ C) (h2 : M ≠ G) : w'.heap[M]? = some o :=
  (h.2.block M (Array.getElem?_eq_some_iff.1 hM).1 (fun e => by rcases e with e | e <;> contradiction)).trans hM

set_option maxHeartbeats 800000 in
theorem metaWrite_any (C G k M : Nat) (L : List Int) (p : Pg) (hi : I64 p.id) (hr : I64 p.root) (hc : I64 p.count) (w : World) (h : Cur w C G false 79 80 k L) (hk : k + 20 < 128) (hM : w.heap[M]? = some (.cells #[.int .i64 p.id, .int .i64 p.root, .int .i64 p.count] 136)) (h1 : M ≠ C) (h2 : M ≠ G) :
    Calls Try.prog 122 #[.pointer (some ⟨M, 0, none⟩), .pointer (some ⟨C, 0, none⟩)] w fun e w' => e = .returned (.tuple #[]) ∧ Wrote w w' C G false 79 80 k L (metaB false p) := by
  obtain ⟨e0, e1, e2, e3, e4⟩ := h.cells
  obtain ⟨m0, m1, m2⟩ := box_form hM
  have hl := h.len
  go_enter Try.func122, Try.ntmps122
  go_wp2_with fail
  go_region_held3 (fun w' => w'.cell? ⟨C, 3, none⟩ = some (.func (.func 79) #[.pointer (some ⟨C, 0, none⟩)] #[]) ∧ w'.cell? ⟨M, 0, none⟩ = some (.int .i64 p.id) ∧ w'.cell? ⟨M, 1, none⟩ = some (.int .i64 p.root) ∧ w'.cell? ⟨M, 2, none⟩ = some (.int .i64 p.count)) (go_keep)
    (first | (go_at_call 79; refine (Put C G k L p.id 4 w.drew hi (by omega) h.drew (by omega)).mono ?_; rintro e w1 ⟨rfl, hV1⟩; have hM1 := wrote_box hV1 (w := w.drew) hM h1 h2; obtain ⟨_, _, _, e3', _⟩ := hV1.1.cells; obtain ⟨m0', m1', m2'⟩ := box_form hM1))
  have hW1 : Wrote w w1 C G false 79 80 k L (numB false 4 p.id) := ⟨hV1.1, (Fr.of_below (Below.refl _ _).drew).trans hV1.2⟩
  have l1 : (numB false 4 p.id).length = 4 := numB_len _ _ _
  clear hV1
  go_wp2_with fail
  refine (putSmall_any C G (k + (numB false 4 p.id).length) _ p.root hr w1 hW1.1 (by omega)).mono ?_
  rintro e w2 ⟨rfl, hV2⟩
  have hM2 := wrote_box hV2 hM1 h1 h2
  have hW2 := hW1.trans (by omega) hV2
  have l2 : (numB false 4 p.id ++ numB false (smallN false) p.root).length = 8 := by rw [List.length_append, l1, numB_len]; rfl
  obtain ⟨_, _, _, e3'', _⟩ := hW2.1.cells
  obtain ⟨m0'', m1'', m2''⟩ := box_form hM2
  clear hV2
  go_wp2_with fail
  go_region_held3 (fun w' => w'.cell? ⟨C, 3, none⟩ = some (.func (.func 79) #[.pointer (some ⟨C, 0, none⟩)] #[]) ∧ w'.cell? ⟨M, 0, none⟩ = some (.int .i64 p.id) ∧ w'.cell? ⟨M, 1, none⟩ = some (.int .i64 p.root) ∧ w'.cell? ⟨M, 2, none⟩ = some (.int .i64 p.count)) (go_keep)
    (first | (go_at_call 79; refine (Put C G (k + (numB false 4 p.id ++ numB false (smallN false) p.root).length) _ p.count 4 w2.drew hc (by omega) hW2.1.drew (by omega)).mono ?_; rintro e w3 ⟨rfl, hV3⟩; have hM3 := wrote_box hV3 (w := w2.drew) hM2 h1 h2; obtain ⟨_, _, _, e3', _⟩ := hV3.1.cells; obtain ⟨m0', m1', m2'⟩ := box_form hM3))
  have hW3 := hW2.trans (by omega) ⟨hV3.1, (Fr.of_below (Below.refl _ w2).drew).trans hV3.2⟩
  have l3 : (numB false 4 p.id ++ numB false (smallN false) p.root ++ numB false 4 p.count).length = 12 := by rw [List.length_append, l2, numB_len]
  clear hV3
  go_wp2_with fail
  refine (putLetters_any C G (k + (numB false 4 p.id ++ numB false (smallN false) p.root ++ numB false 4 p.count).length) _ _ _ _ ⟨#[67, 79, 87, 50]⟩ w3 hW3.1 (by rw [l3]; show _ + 4 ≤ 128; omega) (by omega)).mono ?_
  rintro e w4 ⟨rfl, hV4⟩
  have R : Hid (Wrote w w4 C G false 79 80 k L (metaB false p)) := by
    have e : metaB false p = (numB false 4 p.id ++ numB false (smallN false) p.root ++ numB false 4 p.count) ++ strB ⟨#[67, 79, 87, 50]⟩ := by
      rw [show strB ⟨#[67, 79, 87, 50]⟩ = [67, 79, 87, 50] by decide]; rfl
    show Wrote _ _ _ _ _ _ _ _ _ _
    rw [e]
    exact hW3.trans (by omega) hV4
  clear hW1 hW2 hW3 hV4 h
  go_wp2
  go_end0
  exact ⟨rfl, R.out⟩
end New
end Go.Proofs.Ytcmhobbpeaeebaa
namespace Go.Proofs.Ytcmhobbpeaeebaa
namespace New
open Go.RowKit
set_option linter.unusedVariables false
set_option maxRecDepth 100000

theorem Wrote.next {w w1 w2 : World} {C G k pf gf : Nat} {old : Bool} {L ds bs : List Int} (hW : Wrote w w1 C G old pf gf k L ds) (hl : L.length = 128) (hm : k + ds.length ≤ 128) (hV : Wrote w1.drew w2 C G old pf gf (k + ds.length) (lay L k ds) bs) : Wrote w w2 C G old pf gf k L (ds ++ bs) :=
  Wrote.trans hW (by omega) ⟨hV.1, (Fr.of_below (Below.refl _ _).drew).trans hV.2⟩

set_option maxHeartbeats 800000 in
theorem overWrite_any (C G k M : Nat) (L : List Int) (next : Int) (data : ByteArray) (hn : I64 next) (hd : data.size ≤ 96) (w : World) (h : Cur w C G false 79 80 k L) (hk : k ≤ 8) (hM : w.heap[M]? = some (.cells #[.int .i64 next, .string data] 145)) (h1 : M ≠ C) (h2 : M ≠ G) :
    Calls Try.prog 145 #[.pointer (some ⟨M, 0, none⟩), .pointer (some ⟨C, 0, none⟩)] w fun e w' => e = .returned (.tuple #[]) ∧ Wrote w w' C G false 79 80 k L (numB false (smallN false) next ++ textB data) := by
  have m0 : w.cell? ⟨M, 0, none⟩ = some (.int .i64 next) := by simp [World.cell?, hM]
  have m1 : w.cell? ⟨M, 1, none⟩ = some (.string data) := by simp [World.cell?, hM]
  have hl := h.len
  have hsm := numB_small false next
  go_enter Try.func145, Try.ntmps145
  go_wp2_with fail
  refine (putSmall_any C G k L next hn w h (by omega)).mono ?_
  rintro e w1 ⟨rfl, hW1⟩
  have hM1 := wrote_box hW1 hM h1 h2
  have m0 : w1.cell? ⟨M, 0, none⟩ = some (.int .i64 next) := by simp [World.cell?, hM1]
  have m1 : w1.cell? ⟨M, 1, none⟩ = some (.string data) := by simp [World.cell?, hM1]
  go_wp2_with fail
  refine (putText_any C G (k + (numB false (smallN false) next).length) _ data w1 hW1.1 (by omega)).mono ?_
  rintro e w2 ⟨rfl, hW2⟩
  have R : Hid (Wrote w w2 C G false 79 80 k L (numB false (smallN false) next ++ textB data)) := hW1.trans (by omega) hW2
  clear hW1 hW2
  go_wp2
  go_end0
  exact ⟨rfl, R.out⟩

theorem Wrote.call {w w1 w2 : World} {C G k pf gf : Nat} {old : Bool} {L ds : List Int} (hW : Wrote w w1 C G old pf gf k L ds) (hb : Below w1.heap.size w1 w2) : Wrote w w2 C G old pf gf k L ds :=
  ⟨⟨(hb.block C (Array.getElem?_eq_some_iff.1 hW.1.box).1).trans hW.1.box, owns_below hW.1.row hb, hW.1.len⟩, hW.2.trans (Fr.of_below hb)⟩
theorem Wrote.lt {w w1 : World} {C G k pf gf : Nat} {old : Bool} {L ds : List Int} (hW : Wrote w w1 C G old pf gf k L ds) : C < w1.heap.size ∧ G < w1.heap.size := ⟨(Array.getElem?_eq_some_iff.1 hW.1.box).1, (hW.1.row.lt G rfl).2⟩
theorem kidsB_len' (hi : Bool) (ks : List PK) (n : Nat) (hs : ∀ i, i < n → 0 < i → (ks.getD i dK).1.size ≤ 8) : (kidsB hi (smallN hi) ks n).length ≤ n * 13 := by
  have := kidsB_len hi (smallN hi) ks n hs
  have := Nat.mul_le_mul_left n (show 9 + smallN hi ≤ 13 by have := smallN_le hi; omega)
  omega

set_option maxHeartbeats 1600000 in
theorem branchWrite_any (C G k M : Nat) (L : List Int) (ka : Option Addr) (n kc : Nat) (ks : List PK) (w : World) (A B : Nat) (h : Cur w C G false 79 80 k L) (hk : k ≤ 8) (hM : w.heap[M]? = some (.cells #[.slice ka n kc] 139)) (h1 : M ≠ C) (h2 : M ≠ G) (hK : KidsAt w A B ka n kc ks) (hB : B ≤ w.heap.size) (hC : B ≤ C) (hG : B ≤ G) (hn : n ≤ 4) (hs : ∀ i, i < n → 0 < i → (ks.getD i dK).1.size ≤ 8) :
    Calls Try.prog 130 #[.pointer (some ⟨M, 0, none⟩), .pointer (some ⟨C, 0, none⟩)] w fun e w' => e = .returned (.tuple #[]) ∧ Wrote w w' C G false 79 80 k L (kidsB false (smallN false) ks n) := by
  have m0 : w.cell? ⟨M, 0, none⟩ = some (.slice ka n kc) := by simp [World.cell?, hM]
  have hl := h.len
  go_enter Try.func130, Try.ntmps130
  go_wp2_with fail
  go_loopw [11] (fun iv wr => ∃ i : Nat, i ≤ n ∧ iv = .int .i64 i ∧ Hid (Wrote w wr C G false 79 80 k L (kidsB false (smallN false) ks i))) (fun iv _ => n - (intOf iv).toNat)
  case atStart => exact ⟨0, Nat.zero_le _, rfl, wrote_nil h⟩
  case round =>
    obtain ⟨i, hi, rfl, HW⟩ := hrel
    by_cases hlt : i < n
    · obtain ⟨b, off, rfl, hb, hfit, q0, q1⟩ := KidsAt.at (hK.fr HW.out.2 hB (fun g e => by rcases e with e | e <;> omega)) hlt
      have hs' := hs i hlt
      have hlen := kidsB_len' false ks i (fun j h1 h2 => hs j (by omega) h2)
      have HK : Hid (kidsB false (smallN false) ks (i + 1) = kidsB false (smallN false) ks i ++ kidB false (smallN false) i (ks.getD i dK)) := rfl
      generalize ks.getD i dK = kd at q0 q1 hfit hs' HK
      generalize kidsB false (smallN false) ks i = l at HW HK hlen
      have hpg : I64 kd.2 := hfit.2
      obtain ⟨hCl, hGl⟩ := Wrote.lt HW.out
      have HW0 := Wrote.call HW.out ((Below.refl _ wr).alloc (Nat.le_refl _) (.cells #[.string kd.1, .int .i64 kd.2] 100))
      have HE0 : (wr.alloc (.cells #[.string kd.1, .int .i64 kd.2] 100)).heap[wr.heap.size]? = some (.cells #[.string kd.1, .int .i64 kd.2] 100) := heap_alloc_new wr _
      have hnC : wr.heap.size ≠ C := by omega
      have hnG : wr.heap.size ≠ G := by omega
      clear hK hs
      by_cases h0 : 0 < i
      · have hsz := hs' h0
        have s4 : decide ((0 : Int) < (i : Int)) = true := by simp; omega
        clear hs'
        go_wp2_with fail
        generalize wr.alloc (.cells #[.string kd.1, .int .i64 kd.2] 100) = W0 at HW0 HE0 ⊢
        generalize wr.heap.size = E at HE0 hnC hnG ⊢
        refine (putText_any C G (k + l.length) _ kd.1 W0 HW0.1 (by omega)).mono ?_
        rintro e w1 ⟨rfl, hV1⟩
        have HE1 := wrote_box hV1 HE0 hnC hnG
        have r0 : w1.cell? ⟨E, 0, none⟩ = some (.string kd.1) := by simp [World.cell?, HE1]
        have r1 : w1.cell? ⟨E, 1, none⟩ = some (.int .i64 kd.2) := by simp [World.cell?, HE1]
        have HW1 := HW0.trans (by omega) hV1
        have hl1 : (l ++ textB kd.1).length ≤ i * 13 + 9 := by simp [textB_len]; omega
        go_wp2_with fail
        refine (putSmall_any C G (k + (l ++ textB kd.1).length) _ kd.2 hpg w1 HW1.1 (by omega)).mono ?_
        rintro e w2 ⟨rfl, hV2⟩
        have R : Hid (Wrote w w2 C G false 79 80 k L (kidsB false (smallN false) ks (i + 1))) := by
          show Wrote _ _ _ _ _ _ _ _ _ _
          rw [HK.out, kidB, if_pos h0, ← List.append_assoc]
          exact HW1.trans (by omega) hV2
        clear HW HW0 HW1 hV1 hV2 HE0 HE1
        go_wp2
        go_roundw
        case rel => exact ⟨i + 1, by omega, by go_num, R⟩
        case measure => simp [intOf]; omega
      · have s4 : decide ((0 : Int) < (i : Int)) = false := by simp; omega
        clear hs'
        go_wp2_with fail
        generalize wr.alloc (.cells #[.string kd.1, .int .i64 kd.2] 100) = W0 at HW0 HE0 ⊢
        refine (putSmall_any C G (k + l.length) _ kd.2 hpg W0 HW0.1 (by omega)).mono ?_
        rintro e w2 ⟨rfl, hV2⟩
        have R : Hid (Wrote w w2 C G false 79 80 k L (kidsB false (smallN false) ks (i + 1))) := by
          show Wrote _ _ _ _ _ _ _ _ _ _
          rw [HK.out, kidB, if_neg h0, List.nil_append]
          exact HW0.trans (by omega) hV2
        clear HW HW0 hV2 HE0
        go_wp2
        go_roundw
        case rel => exact ⟨i + 1, by omega, by go_num, R⟩
        case measure => simp [intOf]; omega
    · obtain rfl : i = n := by omega
      go_wp2
      go_end0
      exact ⟨rfl, HW.out⟩
end New
end Go.Proofs.Ytcmhobbpeaeebaa
