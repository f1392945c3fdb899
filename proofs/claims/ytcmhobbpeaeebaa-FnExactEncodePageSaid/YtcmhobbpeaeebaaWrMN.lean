import Derived.Test.YtcmhobbpeaeebaaCxN
namespace Go.Proofs.Ytcmhobbpeaeebaa
namespace New
open Go.RowKit
set_option linter.unusedVariables false
set_option maxRecDepth 100000

/-- A block that is neither the cursor's nor its bytes' stays. -/
theorem wrote_box {w w' : World} {C G k pf gf M : Nat} {old : Bool} {L bs : List Int} {o : Obj} (h : Wrote w w' C G old pf gf k L bs) (hM : w.heap[M]? = some o) (h1 : M ≠ C) (h2 : M ≠ G) : w'.heap[M]? = some o :=
  (h.2.block M (Array.getElem?_eq_some_iff.1 hM).1 (fun e => by rcases e with e | e <;> contradiction)).trans hM

set_option maxHeartbeats 800000 in
theorem metaWrite_any (C G k M : Nat) (L : List Int) (p : Pg) (hi : I64 p.id) (hr : I64 p.root) (hc : I64 p.count) (w : World) (h : Cur w C G false 79 80 k L) (hk : k + 20 < 128) (hM : w.heap[M]? = some (.cells #[.int .i64 p.id, .int .i64 p.root, .int .i64 p.count] 136)) (h1 : M ≠ C) (h2 : M ≠ G) :
    Calls Try.prog 122 #[.pointer (some ⟨M, 0, none⟩), .pointer (some ⟨C, 0, none⟩)] w fun e w' => e = .returned (.tuple #[]) ∧ Wrote w w' C G false 79 80 k L (metaB false p) := by
  obtain ⟨e0, e1, e2, e3, e4⟩ := h.cells
  obtain ⟨m0, m1, m2⟩ := box_form hM
  have hl := h.len
  go_enter Try.func122, Try.ntmps122
  go_wp2_with fail
  go_region_held3 (fun w' => w'.cell? ⟨C, 3, none⟩ = some (.func (.func 79) #[.pointer (some ⟨C, 0, none⟩)] #[]) ∧ w'.cell? ⟨M, 0, none⟩ = some (.int .i64 p.id) ∧ w'.cell? ⟨M, 1, none⟩ = some (.int .i64 p.root) ∧ w'.cell? ⟨M, 2, none⟩ = some (.int .i64 p.count)) (go_keep)
    (first | (go_at_call 79; refine (Put C G k L p.id 4 w.drew hi (by omega) h.drew (by omega)).mono ?_; rintro e w1 ⟨rfl, hV1⟩; have hM1 := wrote_box hV1 (w := w.drew) hM h1 h2; obtain ⟨_, _, _, e3', _⟩ := hV1.1.cells; obtain ⟨m0', m1', m2'⟩ := box_form hM1))
  have hW1 : Wrote w w1 C G false 79 80 k L (numB false 4 p.id) := ⟨hV1.1, (Fr.of_below (Below.refl _ _).drew).trans hV1.2⟩
  have l1 : (numB false 4 p.id).length = 4 := numB_len _ _ _
  clear hV1
  go_wp2_with fail
  refine (putSmall_any C G (k + (numB false 4 p.id).length) _ p.root hr w1 hW1.1 (by omega)).mono ?_
  rintro e w2 ⟨rfl, hV2⟩
  have hM2 := wrote_box hV2 hM1 h1 h2
  have hW2 := hW1.trans (by omega) hV2
  have l2 : (numB false 4 p.id ++ numB false (smallN false) p.root).length = 8 := by rw [List.length_append, l1, numB_len]; rfl
  obtain ⟨_, _, _, e3'', _⟩ := hW2.1.cells
  obtain ⟨m0'', m1'', m2''⟩ := box_form hM2
  clear hV2
  go_wp2_with fail
  go_region_held3 (fun w' => w'.cell? ⟨C, 3, none⟩ = some (.func (.func 79) #[.pointer (some ⟨C, 0, none⟩)] #[]) ∧ w'.cell? ⟨M, 0, none⟩ = some (.int .i64 p.id) ∧ w'.cell? ⟨M, 1, none⟩ = some (.int .i64 p.root) ∧ w'.cell? ⟨M, 2, none⟩ = some (.int .i64 p.count)) (go_keep)
    (first | (go_at_call 79; refine (Put C G (k + (numB false 4 p.id ++ numB false (smallN false) p.root).length) _ p.count 4 w2.drew hc (by omega) hW2.1.drew (by omega)).mono ?_; rintro e w3 ⟨rfl, hV3⟩; have hM3 := wrote_box hV3 (w := w2.drew) hM2 h1 h2; obtain ⟨_, _, _, e3', _⟩ := hV3.1.cells; obtain ⟨m0', m1', m2'⟩ := box_form hM3))
  have hW3 := hW2.trans (by omega) ⟨hV3.1, (Fr.of_below (Below.refl _ w2).drew).trans hV3.2⟩
  have l3 : (numB false 4 p.id ++ numB false (smallN false) p.root ++ numB false 4 p.count).length = 12 := by rw [List.length_append, l2, numB_len]
  clear hV3
  go_wp2_with fail
  refine (putLetters_any C G (k + (numB false 4 p.id ++ numB false (smallN false) p.root ++ numB false 4 p.count).length) _ _ _ _ ⟨#[67, 79, 87, 50]⟩ w3 hW3.1 (by rw [l3]; show _ + 4 ≤ 128; omega) (by omega)).mono ?_
  rintro e w4 ⟨rfl, hV4⟩
  have R : Hid (Wrote w w4 C G false 79 80 k L (metaB false p)) := by
    have e : metaB false p = (numB false 4 p.id ++ numB false (smallN false) p.root ++ numB false 4 p.count) ++ strB ⟨#[67, 79, 87, 50]⟩ := by
      rw [show strB ⟨#[67, 79, 87, 50]⟩ = [67, 79, 87, 50] by decide]; rfl
    show Wrote _ _ _ _ _ _ _ _ _ _
    rw [e]
    exact hW3.trans (by omega) hV4
  clear hW1 hW2 hW3 hV4 h
  go_wp2
  go_end0
  exact ⟨rfl, R.out⟩
end New
end Go.Proofs.Ytcmhobbpeaeebaa
