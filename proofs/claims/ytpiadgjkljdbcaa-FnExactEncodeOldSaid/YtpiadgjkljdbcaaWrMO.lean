import Derived.Test.YtpiadgjkljdbcaaCxO
namespace Go.Proofs.Ytpiadgjkljdbcaa
namespace Old
open Go.RowKit
set_option linter.unusedVariables false
set_option maxRecDepth 100000

/-- A block that is neither the cursor's nor its bytes' stays. -/
theorem wrote_box {w w' : World} {C G k pf gf M : Nat} {old : Bool} {L bs : List Int} {o : Obj} (h : Wrote w w' C G old pf gf k L bs) (hM : w.heap[M]? = some o) (h1 : M ≠ C) (h2 : M ≠ G) : w'.heap[M]? = some o :=
  (h.2.block M (Array.getElem?_eq_some_iff.1 hM).1 (fun e => by rcases e with e | e <;> contradiction)).trans hM

set_option maxHeartbeats 800000 in
theorem metaWrite_any (C G k M : Nat) (L : List Int) (p : Pg) (hi : I64 p.id) (hr : I64 p.root) (hc : I64 p.count) (w : World) (h : Cur w C G true 104 105 k L) (hk : k + 20 < 128) (hM : w.heap[M]? = some (.cells #[.int .i64 p.id, .int .i64 p.root, .int .i64 p.count] 182)) (h1 : M ≠ C) (h2 : M ≠ G) :
    Calls Try.prog 140 #[.pointer (some ⟨M, 0, none⟩), .pointer (some ⟨C, 0, none⟩)] w fun e w' => e = .returned (.tuple #[]) ∧ Wrote w w' C G true 104 105 k L (metaB true p) := by
  obtain ⟨e0, e1, e2, e3, e4⟩ := h.cells
  obtain ⟨m0, m1, m2⟩ := box_form hM
  go_enter Try.func140, Try.ntmps140
  go_wp2_with fail
  have hl := h.len
  refine (putSmall_any C G k L p.root hr w h (by omega)).mono ?_
  rintro e w1 ⟨rfl, hW1⟩
  have hM1 := wrote_box hW1 hM h1 h2
  have l1 : (numB true (smallN true) p.root).length = 2 := by rw [numB_len]; rfl
  obtain ⟨e0, e1, e2, e3, e4⟩ := hW1.1.cells
  obtain ⟨m0, m1, m2⟩ := box_form hM1
  have hc1 := hW1.1
  rw [l1] at hc1 e1
  go_wp2_with fail
  go_region_held3 (fun w' => w'.cell? ⟨C, 3, none⟩ = some (.func (.func 104) #[.pointer (some ⟨C, 0, none⟩)] #[]) ∧ w'.cell? ⟨M, 0, none⟩ = some (.int .i64 p.id) ∧ w'.cell? ⟨M, 1, none⟩ = some (.int .i64 p.root) ∧ w'.cell? ⟨M, 2, none⟩ = some (.int .i64 p.count)) (go_keep)
    (first | (go_at_call 104; refine (Put C G (k + 2) _ p.count 4 w1.drew hc (by omega) hc1.drew (by omega)).mono ?_; rintro e w2 ⟨rfl, hV2⟩; have hM2 := wrote_box hV2 (w := w1.drew) hM1 h1 h2; obtain ⟨_, _, _, e3, _⟩ := hV2.1.cells; obtain ⟨m0, m1, m2⟩ := box_form hM2))
  have hW2 : Wrote w w2 C G true 104 105 k L (numB true (smallN true) p.root ++ numB true 4 p.count) := hW1.trans (by rw [l1, hl]; omega) ⟨by rw [l1]; exact hV2.1, (Fr.of_below (Below.refl _ _).drew).trans hV2.2⟩
  have l2 : (numB true 4 p.count).length = 4 := numB_len _ _ _
  have hc2 := hV2.1
  rw [l2] at hc2
  have hM2' := hM2
  go_wp2_with fail
  go_region_held3 (fun w' => w'.cell? ⟨C, 3, none⟩ = some (.func (.func 104) #[.pointer (some ⟨C, 0, none⟩)] #[]) ∧ w'.cell? ⟨M, 0, none⟩ = some (.int .i64 p.id) ∧ w'.cell? ⟨M, 1, none⟩ = some (.int .i64 p.root) ∧ w'.cell? ⟨M, 2, none⟩ = some (.int .i64 p.count)) (go_keep)
    (first | (go_at_call 104; refine (Put C G (k + 2 + 4) _ p.id 4 w2.drew hi (by omega) hc2.drew (by omega)).mono ?_; rintro e w3 ⟨rfl, hV3⟩; have hM3 := wrote_box hV3 (w := w2.drew) hM2 h1 h2; obtain ⟨_, _, _, e3, _⟩ := hV3.1.cells; obtain ⟨m0, m1, m2⟩ := box_form hM3))
  have R : Hid (Wrote w w3 C G true 104 105 k L (metaB true p)) := by
    have e : metaB true p = (numB true (smallN true) p.root ++ numB true 4 p.count) ++ numB true 4 p.id := rfl
    show Wrote _ _ _ _ _ _ _ _ _ _
    rw [e]
    have l12 : (numB true (smallN true) p.root ++ numB true 4 p.count).length = 6 := by rw [List.length_append, l1, l2]
    refine hW2.trans (by rw [l12, hl]; omega) ⟨?_, (Fr.of_below (Below.refl _ _).drew).trans hV3.2⟩
    rw [l12]
    have := hV3.1
    rw [show lay (lay L k (numB true (smallN true) p.root)) (k + 2) (numB true 4 p.count) = lay L k (numB true (smallN true) p.root ++ numB true 4 p.count) by rw [← lay_lay (by rw [l1, hl]; omega), l1]] at this
    exact this
  clear hW1 hW2 hV2 hV3 hc1 hc2 h
  go_wp2
  exact bodyPost_ret (v := .tuple #[]) (by simp [results, Try.results140]) rfl ⟨rfl, R.out⟩
end Old
end Go.Proofs.Ytpiadgjkljdbcaa
