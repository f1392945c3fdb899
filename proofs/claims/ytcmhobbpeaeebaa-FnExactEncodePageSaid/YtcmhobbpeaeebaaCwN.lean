import Derived.Test.YtcmhobbpeaeebaaCv
import Derived.Test.YtcmhobbpeaeebaaCuXN
namespace Go.Proofs.Ytcmhobbpeaeebaa
namespace New
open Go.RowKit
set_option linter.unusedVariables false
set_option maxRecDepth 100000

set_option maxHeartbeats 800000 in
theorem putSmall_any (C G k : Nat) (L : List Int) (x : Int) (hx : I64 x) (w : World) (h : Cur w C G false 79 80 k L) (hk : k + 4 ≤ 128) :
    Calls Try.prog 124 #[.pointer (some ⟨C, 0, none⟩), .int .i64 x] w fun e w' => e = .returned (.tuple #[]) ∧ Wrote w w' C G false 79 80 k L (numB false (smallN false) x) := by
  obtain ⟨e0, e1, e2, e3, e4⟩ := h.cells
  have hsm := smallN_le false
  go_enter Try.func124, Try.ntmps124
  go_wp2_with fail
  go_region_held3 (fun w' => w'.cell? ⟨C, 3, none⟩ = some (.func (.func 79) #[.pointer (some ⟨C, 0, none⟩)] #[])) (go_keep)
    (first
      | (go_at_call 125; refine (smallWidth_any C G k 79 80 false L w.drew h.drew).mono ?_; rintro e w1 ⟨rfl, rfl⟩)
      | (go_at_call 79; refine (Put C G k L x (smallN false) w.drew hx (by omega) h.drew (by omega)).mono ?_; rintro e w2 ⟨rfl, hW⟩; obtain ⟨_, _, _, q3, _⟩ := hW.1.cells))
  go_wp2
  go_end0
  exact ⟨rfl, hW.1, (Fr.of_below (Below.refl _ _).drew).trans hW.2⟩
end New
end Go.Proofs.Ytcmhobbpeaeebaa
