import Derived.Test.YtpiadgjkljdbcaaCrc
import Derived.Test.YtpiadgjkljdbcaaByt
namespace Go.Proofs.Ytpiadgjkljdbcaa
open Go.RowKit
set_option linter.unusedVariables false
set_option maxRecDepth 100000

set_option maxHeartbeats 800000 in
theorem law_Crc (c : Int) (hc : 0 ≤ c ∧ c < 4294967296) (a : Option Addr) (n cc : Nat) (bs : List Int) (w : World) (h : BytesAt w 0 w.heap.size a n cc bs) :
    Calls Try.prog 3 #[.int .u32 c, .slice a n cc] w fun e w' => e = .returned (.bool true) ∧ Below w.heap.size w w' := by
  have hcm := h.2.2.1
  have hnc := h.2.1
  unfold maxLen at hcm
  go_enter Try.func3, Try.ntmps3
  by_cases hn : n ≤ 1048576
  · go_wp2_with fail
    refine (toByteS_any _ _ _ bs _ 0 _ (Nat.le_refl _) h hn).mono ?_
    rintro e w1 ⟨g, hg, rfl, hby, hb1⟩
    go_wp2_with fail
    refine (specCrc_any c hc _ _ _ bs _ _ _ hby).mono ?_
    rintro e w2 ⟨rfl, rfl⟩
    generalize hx : bits .xor .u32 IntKind.u32.max (crcList (bits .xor .u32 IntKind.u32.max c) bs) = x
    have HX : Hid (bits .xor .u32 IntKind.u32.max (crcList (bits .xor .u32 IntKind.u32.max c) bs) = x) := hx
    clear hx hby
    have h1 := h.below hb1
    have hz1 := hb1.size
    go_wp2_with fail
    refine (toByteS_any _ _ _ bs _ 0 _ hz1 h1 hn).mono ?_
    rintro e w3 ⟨g3, hg3, rfl, hby3, hb3⟩
    have h3 := h1.below (hb3.mono hz1)
    have hz3 := hb3.size
    have hb13 := hb1.trans (hb3.mono hz1)
    go_wp2_with fail
    refine (implCrc_any c hc _ _ _ bs _ _ _ hby3).mono ?_
    rintro e w4 ⟨rfl, rfl⟩
    rw [HX.out]
    go_wp2_with fail
    have hz4 := hb13.size
    refine (toByteS_any _ _ _ bs _ 0 _ hz4 h3 hn).mono ?_
    rintro e w5 ⟨g5, hg5, rfl, hby5, hb5⟩
    have h5 := hby3.below hb5
    have hb15 := hb13.trans (hb5.mono hz4)
    go_wp2_with fail
    refine (eqByteS_same _ _ _ _ _ bs _ _ _ _ _ h5 hby5).mono ?_
    rintro e w6 ⟨rfl, m, rfl⟩
    go_wp2
    go_ret
    exact ⟨rfl, hb15.trans ⟨rfl, rfl, rfl, Nat.le_refl _, fun _ _ => rfl⟩⟩
  · go_wp2
    go_ret
    exact ⟨rfl, Below.refl _ _⟩
end Go.Proofs.Ytpiadgjkljdbcaa
