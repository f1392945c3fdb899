import Derived.Test.YtpmagndofiaooaaTmf
namespace Go.Proofs.Ytpmagndofiaooaa
open Go.RowKit
set_option linter.unusedVariables false
set_option linter.unusedSimpArgs false
set_option maxRecDepth 100000

set_option maxHeartbeats 4000000 in
theorem heldTNodeS_own (a : Option Addr) (n c k base : Nat) (ns : List ND) (us : Nat → Nat → Value) (w : World) (h : OwnT w base (.slice a n c) (mkNs k ns) us) (hn : n = ns.length) (hk : kT k ns ≤ 1000000000) :
    Calls Try.prog 42 #[.slice a n c, .int .i64 k] w fun e w' => e = .returned (.int .i64 ((kT k ns : Nat) : Int)) ∧ Below w.heap.size w w' := by
  have hnb : n ≤ 1000000000 := by have := kT_le k ns; omega
  replace hn : Hid (n = ns.length) := hn
  have HO : Hid (∀ W, Below w.heap.size w W → OwnT W base (.slice a n c) (mkNs k ns) us) := fun W hW => h.below hW
  clear h
  go_enter Try.func42, Try.ntmps42
  go_wp2_with fail
  go_loopw [1, 5] (fun kv i wr => ∃ (j : Nat), j ≤ n ∧ i = .int .i64 j ∧ kv = .int .i64 ((kT k (ns.take j) : Nat) : Int) ∧ Below w.heap.size w wr) (fun _ i _ => n - (intOf i).toNat)
  case atStart => exact ⟨0, Nat.zero_le _, rfl, by simp [kT], Below.refl _ _⟩
  case round =>
    obtain ⟨j, hj, rfl, rfl, B0⟩ := hrel
    by_cases hlt : j < n
    · have hjf : j < ns.length := by have := hn.out; omega
      have hjm : j < (mkNs k ns).length := by rw [mkNs_length]; exact hjf
      obtain ⟨g, rfl⟩ : ∃ g, a = some ⟨g, 0, none⟩ := by
        rcases (HO.out wr B0).row.2 with ⟨h0, h1⟩ | ⟨g, cap, cur, h0, _⟩
        · rw [mkNs_length] at h1; have := hn.out; omega
        · injection h0 with h1; exact ⟨g, h1⟩
      have hget := mkNs_get k ns j hjf dN
      have HK : Hid (kT k (ns.take (j + 1)) = kT k (ns.take j) + ndLen ns[j]) := kT_take k ns j hjf
      have hKle := kT_take_le k ns (j + 1)
      obtain ⟨nd, hnd⟩ : ∃ nd, nd = ns[j] := ⟨_, rfl⟩
      rw [← hnd] at hget HK
      obtain ⟨kk, hkk⟩ : ∃ kk, kk = kT k (ns.take j) := ⟨_, rfl⟩
      rw [← hkk] at hget HK ⊢
      have hkb : kk + 2 + (nd.l 0).length + (nd.l 1).length + (nd.l 2).length + (nd.l 3).length ≤ 1000000000 := by have h1 := HK.out; unfold ndLen at h1; omega
      have HG : Hid ((mkNs k ns).getD j dN = mkN kk nd) := hget
      clear hnd hkk hKle hget
      have HC : Hid (∀ W, Below w.heap.size w W → g < W.heap.size ∧ (∀ r, r < 6 → W.cell? ⟨g, j * 6 + r, none⟩ = (hdC (mkN kk nd) (us j))[r]?) ∧ ∀ r, r < 4 → W.ownsRow base (ety r) 1 (us j r) ((mkN kk nd).l r).length ((mkN kk nd).l r)) := fun W hW => by
        have h1 := HO.out W hW
        refine ⟨(h1.row.lt g rfl).2, fun r hr => ?_, fun r hr => ?_⟩
        · rw [h1.cell hjm hr, HG.out]
        · have := h1.data j hjm r hr
          rwa [HG.out] at this
      have HL0 : Hid (∀ W, Below w.heap.size w W → W.ownsRow base 9 1 (us j 0) (nd.l 0).length (rowsOf strCells (mkSs (kk + 2) (nd.l 0).length))) := fun W hW => by
        have := (HC.out W hW).2.2 0 (by omega)
        have e : ((mkN kk nd).l 0) = rowsOf strCells (mkSs (kk + 2) (nd.l 0).length) := rfl
        rw [e, rows_len1 sc1, mkSs_len] at this
        exact this
      obtain ⟨a0, c0, hs0⟩ := ownT_shape (HL0.out wr B0)
      have HL1 : Hid (∀ W, Below w.heap.size w W → W.ownsRow base 9 1 (us j 1) (nd.l 1).length (rowsOf strCells (mkSs (kk + 2 + (nd.l 0).length) (nd.l 1).length))) := fun W hW => by
        have := (HC.out W hW).2.2 1 (by omega)
        have e : ((mkN kk nd).l 1) = rowsOf strCells (mkSs (kk + 2 + (nd.l 0).length) (nd.l 1).length) := rfl
        rw [e, rows_len1 sc1, mkSs_len] at this
        exact this
      obtain ⟨a1, c1, hs1⟩ := ownT_shape (HL1.out wr B0)
      have HL2 : Hid (∀ W, Below w.heap.size w W → W.ownsRow base 2 1 (us j 2) (nd.l 2).length (rowsOf intCells (mkIs (kk + 2 + (nd.l 0).length + (nd.l 1).length) (nd.l 2).length))) := fun W hW => by
        have := (HC.out W hW).2.2 2 (by omega)
        have e : ((mkN kk nd).l 2) = rowsOf intCells (mkIs (kk + 2 + (nd.l 0).length + (nd.l 1).length) (nd.l 2).length) := rfl
        rw [e, rows_len1 ic1, mkIs_len] at this
        exact this
      obtain ⟨a2, c2, hs2⟩ := ownT_shape (HL2.out wr B0)
      have HL3 : Hid (∀ W, Below w.heap.size w W → W.ownsRow base 2 1 (us j 3) (nd.l 3).length (rowsOf intCells (mkIs (kk + 2 + (nd.l 0).length + (nd.l 1).length + (nd.l 2).length) (nd.l 3).length))) := fun W hW => by
        have := (HC.out W hW).2.2 3 (by omega)
        have e : ((mkN kk nd).l 3) = rowsOf intCells (mkIs (kk + 2 + (nd.l 0).length + (nd.l 1).length + (nd.l 2).length) (nd.l 3).length) := rfl
        rw [e, rows_len1 ic1, mkIs_len] at this
        exact this
      obtain ⟨a3, c3, hs3⟩ := ownT_shape (HL3.out wr B0)
      have C0 : Hid (∀ W, Below w.heap.size w W → g < W.heap.size ∧ W.cell? ⟨g, j * 6, none⟩ = some (.bool (((kk : Int) % 3) == 0)) ∧ W.cell? ⟨g, j * 6 + 1, none⟩ = some (.int .i64 ((kk : Int) + 1))) := fun W hW => ⟨(HC.out W hW).1, (HC.out W hW).2.1 0 (by omega), (HC.out W hW).2.1 1 (by omega)⟩
      have C1 : Hid (∀ W, Below w.heap.size w W → W.cell? ⟨g, j * 6 + 2, none⟩ = some (.slice a0 (nd.l 0).length c0) ∧ W.cell? ⟨g, j * 6 + 3, none⟩ = some (.slice a1 (nd.l 1).length c1) ∧ W.cell? ⟨g, j * 6 + 4, none⟩ = some (.slice a2 (nd.l 2).length c2) ∧ W.cell? ⟨g, j * 6 + 5, none⟩ = some (.slice a3 (nd.l 3).length c3)) := fun W hW => by
        have h2 := (HC.out W hW).2.1
        refine ⟨(h2 2 (by omega)).trans ?_, (h2 3 (by omega)).trans ?_, (h2 4 (by omega)).trans ?_, (h2 5 (by omega)).trans ?_⟩
        · show some (us j 0) = _; rw [hs0]
        · show some (us j 1) = _; rw [hs1]
        · show some (us j 2) = _; rw [hs2]
        · show some (us j 3) = _; rw [hs3]
      rw [hs0] at HL0
      rw [hs1] at HL1
      rw [hs2] at HL2
      rw [hs3] at HL3
      clear HC hs0 hs1 hs2 hs3 HG
      obtain ⟨n0, hn0⟩ : ∃ x, x = (nd.l 0).length := ⟨_, rfl⟩
      obtain ⟨n1, hn1⟩ : ∃ x, x = (nd.l 1).length := ⟨_, rfl⟩
      obtain ⟨n2, hn2⟩ : ∃ x, x = (nd.l 2).length := ⟨_, rfl⟩
      obtain ⟨n3, hn3⟩ : ∃ x, x = (nd.l 3).length := ⟨_, rfl⟩
      have HKE : Hid (kT k (ns.take (j + 1)) = kk + 2 + n0 + n1 + n2 + n3) := by show _ = _; rw [HK.out, ndLen, hn0, hn1, hn2, hn3]; omega
      rw [← hn0, ← hn1, ← hn2, ← hn3] at hkb C1
      rw [← hn0] at HL0
      rw [← hn0, ← hn1] at HL1
      rw [← hn0, ← hn1, ← hn2] at HL2
      rw [← hn0, ← hn1, ← hn2, ← hn3] at HL3
      clear hn0 hn1 hn2 hn3 HK
      obtain ⟨gl, x0, x1⟩ := C0.out wr B0
      obtain ⟨bb, hbb⟩ : ∃ b, b = (((kk : Int) % 3) == 0) := ⟨_, rfl⟩
      rw [← hbb] at x0
      have hb1 : (bb != (((kk : Int) % 3) == 0)) = false := by rw [hbb]; simp
      have hp1 : (((kk : Int) + 1) != ((kk : Int) + 1)) = false := by simp
      obtain ⟨x2, x3, x4, x5⟩ := C1.out wr B0
      have BW0 := B0
      obtain ⟨k0, hk0⟩ : ∃ k0, k0 = kk + 2 := ⟨_, rfl⟩
      rw [← hk0] at HL0 HL1 HL2 HL3 HKE
      go_upto_region 10 with fail
      rw [show (kk : Int) + 1 + 1 = (k0 : Int) by omega]
      have hkb0 : k0 + n0 + n1 + n2 + n3 ≤ 1000000000 := by omega
      clear hk0 x0 x1 hb1 hp1 hbb hkb C0
      have hc0 := heldStringS_own a0 n0 c0 k0 base wr (by have := HL0.out wr B0; exact this) (by omega)
      have hd0 : decide (((k0 + n0 : Nat) : Int) < 0) = false := by simp; omega
      go_wp2_with fail
      refine hc0.mono ?_
      rintro e w1 ⟨rfl, hbl0⟩
      have B1 : Below w.heap.size w w1 := B0.trans (hbl0.mono B0.size)
      have gl0 : g < w1.heap.size := Nat.lt_of_lt_of_le gl hbl0.size
      obtain ⟨k1, hk1⟩ : ∃ x, x = k0 + n0 := ⟨_, rfl⟩
      rw [← hk1] at HL1 HL2 HL3 HKE hd0 ⊢
      have hkb1 : k1 + n1 + n2 + n3 ≤ 1000000000 := by omega
      clear hk1 hc0 hbl0 x2 x3 x4 x5
      obtain ⟨x2, x3, x4, x5⟩ := C1.out w1 B1
      have hc1 := heldStringS_own a1 n1 c1 k1 base w1 (by have := HL1.out w1 B1; exact this) (by omega)
      have hd1 : decide (((k1 + n1 : Nat) : Int) < 0) = false := by simp; omega
      go_wp2_with fail
      refine hc1.mono ?_
      rintro e w2 ⟨rfl, hbl1⟩
      have B2 : Below w.heap.size w w2 := B1.trans (hbl1.mono B1.size)
      have gl1 : g < w2.heap.size := Nat.lt_of_lt_of_le gl0 hbl1.size
      obtain ⟨k2, hk2⟩ : ∃ x, x = k1 + n1 := ⟨_, rfl⟩
      rw [← hk2] at HL2 HL3 HKE hd1 ⊢
      have hkb2 : k2 + n2 + n3 ≤ 1000000000 := by omega
      clear hk2 hc1 hbl1 x2 x3 x4 x5
      obtain ⟨x2, x3, x4, x5⟩ := C1.out w2 B2
      have hc2 := heldInt64S_own a2 n2 c2 k2 base w2 (by have := HL2.out w2 B2; exact this) (by omega)
      have hd2 : decide (((k2 + n2 : Nat) : Int) < 0) = false := by simp; omega
      go_wp2_with fail
      refine hc2.mono ?_
      rintro e w3 ⟨rfl, hbl2⟩
      have B3 : Below w.heap.size w w3 := B2.trans (hbl2.mono B2.size)
      have gl2 : g < w3.heap.size := Nat.lt_of_lt_of_le gl1 hbl2.size
      obtain ⟨k3, hk3⟩ : ∃ x, x = k2 + n2 := ⟨_, rfl⟩
      rw [← hk3] at HL3 HKE hd2 ⊢
      have hkb3 : k3 + n3 ≤ 1000000000 := by omega
      clear hk3 hc2 hbl2 x2 x3 x4 x5
      obtain ⟨x2, x3, x4, x5⟩ := C1.out w3 B3
      have hc3 := heldInt64S_own a3 n3 c3 k3 base w3 (by have := HL3.out w3 B3; exact this) (by omega)
      have hd3 : decide (((k3 + n3 : Nat) : Int) < 0) = false := by simp; omega
      go_wp2_with fail
      refine hc3.mono ?_
      rintro e w4 ⟨rfl, hbl3⟩
      have B4 : Below w.heap.size w w4 := B3.trans (hbl3.mono B3.size)
      have gl3 : g < w4.heap.size := Nat.lt_of_lt_of_le gl2 hbl3.size
      obtain ⟨k4, hk4⟩ : ∃ x, x = k3 + n3 := ⟨_, rfl⟩
      rw [← hk4] at HKE hd3 ⊢
      have hkb4 : k4 ≤ 1000000000 := by omega
      clear hk4 hc3 hbl3 x2 x3 x4 x5
      obtain ⟨x2, x3, x4, x5⟩ := C1.out w4 B4
      go_wp2_with fail
      go_roundw
      case rel => exact ⟨j + 1, by omega, by go_num, by rw [HKE.out], B4⟩
      case measure => simp [intOf]; omega
    · have hj2 : ns.take j = ns := List.take_of_length_le (by have := hn.out; omega)
      rw [hj2]
      clear hj2
      go_wp2_with fail
      go_ret
      exact ⟨rfl, B0⟩
set_option maxHeartbeats 1000000 in
theorem markTree_own (a : Option Addr) (n c k base : Nat) (ns : List ND) (us : Nat → Nat → Value) (w : World) (h : OwnT w base (.slice a n c) ns us) (hn : n = ns.length) (hk : kT k ns ≤ 1000000000) :
    Calls Try.prog 14 #[.agg #[.slice a n c], .int .i64 k] w fun e w' => e = .returned (.int .i64 ((kT k ns : Nat) : Int)) ∧ OwnT w' base (.slice a n c) (mkNs k ns) us ∧ Fr (BlkT (.slice a n c) ns.length us) w w' := by
  have hb1 : Below w.heap.size w (w.alloc (.cells #[.slice a n c] 26)) := (Below.refl _ _).alloc (Nat.le_refl _) _
  replace hn : Hid (n = ns.length) := hn
  go_enter Try.func14, Try.ntmps14
  go_wp2_with fail
  generalize w.alloc (.cells #[.slice a n c] 26) = W1 at hb1 ⊢
  refine (markTNodeS_own a n c k base ns us W1 (h.below hb1) hn.out hk).mono ?_
  rintro e w3 ⟨rfl, hO, hF⟩
  have HR : Hid (OwnT w3 base (.slice a n c) (mkNs k ns) us ∧ Fr (BlkT (.slice a n c) ns.length us) w w3) := ⟨hO, (Fr.of_below hb1).trans hF⟩
  clear hO hF hb1 h
  go_wp2_with fail
  go_ret
  exact ⟨rfl, HR.out.1, HR.out.2⟩
set_option maxHeartbeats 1000000 in
theorem heldTree_own (a : Option Addr) (n c k base : Nat) (ns : List ND) (us : Nat → Nat → Value) (w : World) (h : OwnT w base (.slice a n c) (mkNs k ns) us) (hn : n = ns.length) (hk : kT k ns ≤ 1000000000) :
    Calls Try.prog 15 #[.agg #[.slice a n c], .int .i64 k] w fun e w' => e = .returned (.int .i64 ((kT k ns : Nat) : Int)) ∧ Below w.heap.size w w' := by
  have hb1 : Below w.heap.size w (w.alloc (.cells #[.slice a n c] 26)) := (Below.refl _ _).alloc (Nat.le_refl _) _
  have hd : decide (((kT k ns : Nat) : Int) < 0) = false := by simp
  replace hn : Hid (n = ns.length) := hn
  go_enter Try.func15, Try.ntmps15
  go_wp2_with fail
  generalize w.alloc (.cells #[.slice a n c] 26) = W1 at hb1 ⊢
  refine (heldTNodeS_own a n c k base ns us W1 (h.below hb1) hn.out hk).mono ?_
  rintro e w3 ⟨rfl, hb3⟩
  have HR := hb1.trans (hb3.mono hb1.size)
  clear hb3 hb1 h
  go_wp2_with fail
  go_ret
  exact ⟨rfl, HR⟩
end Go.Proofs.Ytpmagndofiaooaa
