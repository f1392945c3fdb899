import Derived.Test.YtpmagndofiaooaaTme
namespace Go.Proofs.Ytpmagndofiaooaa
open Go.RowKit
set_option linter.unusedVariables false
set_option linter.unusedSimpArgs false
set_option maxRecDepth 100000

theorem rows_len1 {α : Type} {cs : α → List Value} (hc : ∀ x, (cs x).length = 1) (zs : List α) : (rowsOf cs zs).length = zs.length := by rw [rowsOf_length hc]; omega
set_option maxHeartbeats 4000000 in
theorem markTNodeS_own (a : Option Addr) (n c k base : Nat) (ns : List ND) (us : Nat → Nat → Value) (w : World) (h : OwnT w base (.slice a n c) ns us) (hn : n = ns.length) (hk : kT k ns ≤ 1000000000) :
    Calls Try.prog 41 #[.slice a n c, .int .i64 k] w fun e w' => e = .returned (.int .i64 ((kT k ns : Nat) : Int)) ∧ OwnT w' base (.slice a n c) (mkNs k ns) us ∧ Fr (BlkT (.slice a n c) ns.length us) w w' := by
  have hnb : n ≤ 1000000000 := by have := kT_le k ns; omega
  replace hn : Hid (n = ns.length) := hn
  go_enter Try.func41, Try.ntmps41
  go_wp2_with fail
  go_loopw [1, 5] (fun kv i wr => ∃ (j : Nat), j ≤ n ∧ i = .int .i64 j ∧ kv = .int .i64 ((kT k (ns.take j) : Nat) : Int) ∧ Hid (OwnT wr base (.slice a n c) (stT k ns j) us ∧ Fr (BlkT (.slice a n c) ns.length us) w wr)) (fun _ i _ => n - (intOf i).toNat)
  case atStart => exact ⟨0, Nat.zero_le _, rfl, by simp [kT], by simpa [stT, mkNs] using h, Fr.refl _ _⟩
  case round =>
    clear h
    obtain ⟨j, hj, rfl, rfl, HX⟩ := hrel
    by_cases hlt : j < n
    · obtain ⟨g, rfl⟩ : ∃ g, a = some ⟨g, 0, none⟩ := by
        rcases HX.out.1.row.2 with ⟨h0, h1⟩ | ⟨g, cap, cur, h0, _⟩
        · have := hn.out; rw [stT_length _ _ _ (by omega)] at h1; omega
        · injection h0 with h1; exact ⟨g, h1⟩
      have hjf : j < ns.length := by have := hn.out; omega
      have hsl := stT_length k ns j (by omega)
      have hjs : j < (stT k ns j).length := by omega
      have HSU : Hid (stT k ns (j + 1) = (stT k ns j).set j (mkN (kT k (ns.take j)) ns[j])) := stT_succ k ns j hjf
      have hget := stT_get k ns j hjf dN
      have HK : Hid (kT k (ns.take (j + 1)) = kT k (ns.take j) + ndLen ns[j]) := kT_take k ns j hjf
      have hKle := kT_take_le k ns (j + 1)
      obtain ⟨nd, hnd⟩ : ∃ nd, nd = ns[j] := ⟨_, rfl⟩
      rw [← hnd] at HSU hget HK
      obtain ⟨kk, hkk⟩ : ∃ kk, kk = kT k (ns.take j) := ⟨_, rfl⟩
      rw [← hkk] at HSU HK ⊢
      have hkb : kk + 2 + (nd.l 0).length + (nd.l 1).length + (nd.l 2).length + (nd.l 3).length ≤ 1000000000 := by have h1 := HK.out; unfold ndLen at h1; omega
      clear hnd hkk hKle hsl
      have hh := HX.out.1.head (j := j) hjs (((kk : Int) % 3) == 0) ((kk : Int) + 1)
      rw [hget] at hh
      have hf0 := HX.out.1.thaw (j * 6)
      have hf1 := HX.out.1.thaw (j * 6 + 1)
      have hu0 := HX.out.1.cell (i := j) (j := 0) hjs (by omega)
      have hu1 := HX.out.1.cell (i := j) (j := 1) hjs (by omega)
      rw [hget] at hu0 hu1
      replace hu0 : wr.cell? ⟨g, j * 6, none⟩ = some (.bool nd.leaf) := hu0
      replace hu1 : wr.cell? ⟨g, j * 6 + 1, none⟩ = some (.int .i64 nd.page) := hu1
      have hgl : g < wr.heap.size := (HX.out.1.row.lt g rfl).2
      have O0 : Hid (OwnT ((wr.setCell ⟨g, j * 6, none⟩ (.bool (((kk : Int) % 3) == 0))).setCell ⟨g, j * 6 + 1, none⟩ (.int .i64 ((kk : Int) + 1))) base (.slice (some ⟨g, 0, none⟩) n c) ((stT k ns j).set j ⟨((kk : Int) % 3) == 0, (kk : Int) + 1, nd.l⟩) us) := hh.1
      have FR0 : Hid (Fr (BlkT (.slice (some ⟨g, 0, none⟩) n c) ns.length us) w ((wr.setCell ⟨g, j * 6, none⟩ (.bool (((kk : Int) % 3) == 0))).setCell ⟨g, j * 6 + 1, none⟩ (.int .i64 ((kk : Int) + 1)))) := HX.out.2.trans (hh.2.weak (fun b e => .inl (by rw [e]; rfl)))
      clear hh HX hget
      go_upto_region 8 with fail
      generalize ((wr.setCell ⟨g, j * 6, none⟩ (.bool (((kk : Int) % 3) == 0))).setCell ⟨g, j * 6 + 1, none⟩ (.int .i64 ((kk : Int) + 1))) = W0 at O0 FR0 ⊢
      clear hf0 hf1 hu0 hu1 hgl
      obtain ⟨k0, hk0⟩ : ∃ k0, k0 = kk + 2 := ⟨_, rfl⟩
      have HK0 : Hid (k0 = kk + 2) := hk0
      have hkb0 : k0 + (nd.l 0).length + (nd.l 1).length + (nd.l 2).length + (nd.l 3).length ≤ 1000000000 := by omega
      have hcast : (kk : Int) + 1 + 1 = (k0 : Int) := by omega
      rw [hcast]
      clear hcast hk0
      have hL0 : W0.ownsRow base 9 1 (us j 0) (nd.l 0).length (nd.l 0) := O0.out.list hjs 0 (by omega)
      obtain ⟨a0, c0, hs0⟩ := ownT_shape hL0
      have x0 : W0.cell? ⟨g, j * 6 + 2, none⟩ = some (.slice a0 (nd.l 0).length c0) := by
        have := O0.out.cell (i := j) (j := 2) (by simpa using hjs) (by omega)
        rw [this, getD_setN _ _ _ _ _ hjs, if_pos rfl]
        show some (us j 0) = _
        rw [hs0]
      have gl0 : g < W0.heap.size := (O0.out.row.lt g rfl).2
      have hc0 := markStringS_own a0 (nd.l 0).length c0 k0 base (nd.l 0) W0 (by rw [hs0] at hL0; exact hL0) (by omega)
      obtain ⟨n0, hn0⟩ : ∃ n0, n0 = (nd.l 0).length := ⟨_, rfl⟩
      have HN0 : Hid (n0 = (nd.l 0).length) := hn0
      rw [← hn0] at x0 hc0
      clear hn0
      go_wp2_with fail
      refine hc0.mono ?_
      rintro e W1 ⟨rfl, hr0, hf0⟩
      have O1 : Hid (OwnT W1 base (.slice (some ⟨g, 0, none⟩) n c) ((stT k ns j).set j (⟨((kk : Int) % 3) == 0, (kk : Int) + 1, fun r => if r = 0 then rowsOf strCells (mkSs k0 n0) else nd.l r⟩ : ND)) us) := O0.out.over' hjs (q := 0) (zs := rowsOf strCells (mkSs k0 n0)) (by omega) (by rw [rows_len1 sc1, mkSs_len]; exact HN0.out) (by rw [rows_len1 sc1, mkSs_len, hs0, ← HN0.out]; exact hr0) (by rw [hs0, ← HN0.out]; exact hf0)
      have FR1 : Hid (Fr (BlkT (.slice (some ⟨g, 0, none⟩) n c) ns.length us) w W1) := FR0.out.trans (hf0.weak (fun b hb => .inr ⟨j, 0, hjf, by omega, by rw [hs0, ← HN0.out]; exact hb.symm⟩))
      obtain ⟨k1, hk1⟩ : ∃ k1, k1 = k0 + n0 := ⟨_, rfl⟩
      have HK1 : Hid (k1 = k0 + n0) := hk1
      have hkb1 : k1 + (nd.l 1).length + (nd.l 2).length + (nd.l 3).length ≤ 1000000000 := by have := HN0.out; omega
      rw [← hk1]
      clear hL0 hk1 hc0 hr0 hf0 O0 FR0 x0 gl0
      have hL1 : W1.ownsRow base 9 1 (us j 1) (nd.l 1).length (nd.l 1) := O1.out.list hjs 1 (by omega)
      obtain ⟨a1, c1, hs1⟩ := ownT_shape hL1
      have x1 : W1.cell? ⟨g, j * 6 + 3, none⟩ = some (.slice a1 (nd.l 1).length c1) := by
        have := O1.out.cell (i := j) (j := 3) (by simpa using hjs) (by omega)
        rw [this, getD_setN _ _ _ _ _ hjs, if_pos rfl]
        show some (us j 1) = _
        rw [hs1]
      have gl1 : g < W1.heap.size := (O1.out.row.lt g rfl).2
      have hc1 := markStringS_own a1 (nd.l 1).length c1 k1 base (nd.l 1) W1 (by rw [hs1] at hL1; exact hL1) (by omega)
      obtain ⟨n1, hn1⟩ : ∃ n1, n1 = (nd.l 1).length := ⟨_, rfl⟩
      have HN1 : Hid (n1 = (nd.l 1).length) := hn1
      rw [← hn1] at x1 hc1
      clear hn1
      go_wp2_with fail
      refine hc1.mono ?_
      rintro e W2 ⟨rfl, hr1, hf1⟩
      have O2 : Hid (OwnT W2 base (.slice (some ⟨g, 0, none⟩) n c) ((stT k ns j).set j (⟨((kk : Int) % 3) == 0, (kk : Int) + 1, fun r => if r = 1 then rowsOf strCells (mkSs k1 n1) else (if r = 0 then rowsOf strCells (mkSs k0 n0) else nd.l r)⟩ : ND)) us) := O1.out.over' hjs (q := 1) (zs := rowsOf strCells (mkSs k1 n1)) (by omega) (by rw [rows_len1 sc1, mkSs_len]; exact HN1.out) (by rw [rows_len1 sc1, mkSs_len, hs1, ← HN1.out]; exact hr1) (by rw [hs1, ← HN1.out]; exact hf1)
      have FR2 : Hid (Fr (BlkT (.slice (some ⟨g, 0, none⟩) n c) ns.length us) w W2) := FR1.out.trans (hf1.weak (fun b hb => .inr ⟨j, 1, hjf, by omega, by rw [hs1, ← HN1.out]; exact hb.symm⟩))
      obtain ⟨k2, hk2⟩ : ∃ k2, k2 = k1 + n1 := ⟨_, rfl⟩
      have HK2 : Hid (k2 = k1 + n1) := hk2
      have hkb2 : k2 + (nd.l 2).length + (nd.l 3).length ≤ 1000000000 := by have := HN1.out; omega
      rw [← hk2]
      clear hL1 hk2 hc1 hr1 hf1 O1 FR1 x1 gl1
      have hL2 : W2.ownsRow base 2 1 (us j 2) (nd.l 2).length (nd.l 2) := O2.out.list hjs 2 (by omega)
      obtain ⟨a2, c2, hs2⟩ := ownT_shape hL2
      have x2 : W2.cell? ⟨g, j * 6 + 4, none⟩ = some (.slice a2 (nd.l 2).length c2) := by
        have := O2.out.cell (i := j) (j := 4) (by simpa using hjs) (by omega)
        rw [this, getD_setN _ _ _ _ _ hjs, if_pos rfl]
        show some (us j 2) = _
        rw [hs2]
      have gl2 : g < W2.heap.size := (O2.out.row.lt g rfl).2
      have hc2 := markInt64S_own a2 (nd.l 2).length c2 k2 base (nd.l 2) W2 (by rw [hs2] at hL2; exact hL2) (by omega)
      obtain ⟨n2, hn2⟩ : ∃ n2, n2 = (nd.l 2).length := ⟨_, rfl⟩
      have HN2 : Hid (n2 = (nd.l 2).length) := hn2
      rw [← hn2] at x2 hc2
      clear hn2
      go_wp2_with fail
      refine hc2.mono ?_
      rintro e W3 ⟨rfl, hr2, hf2⟩
      have O3 : Hid (OwnT W3 base (.slice (some ⟨g, 0, none⟩) n c) ((stT k ns j).set j (⟨((kk : Int) % 3) == 0, (kk : Int) + 1, fun r => if r = 2 then rowsOf intCells (mkIs k2 n2) else (if r = 1 then rowsOf strCells (mkSs k1 n1) else (if r = 0 then rowsOf strCells (mkSs k0 n0) else nd.l r))⟩ : ND)) us) := O2.out.over' hjs (q := 2) (zs := rowsOf intCells (mkIs k2 n2)) (by omega) (by rw [rows_len1 ic1, mkIs_len]; exact HN2.out) (by rw [rows_len1 ic1, mkIs_len, hs2, ← HN2.out]; exact hr2) (by rw [hs2, ← HN2.out]; exact hf2)
      have FR3 : Hid (Fr (BlkT (.slice (some ⟨g, 0, none⟩) n c) ns.length us) w W3) := FR2.out.trans (hf2.weak (fun b hb => .inr ⟨j, 2, hjf, by omega, by rw [hs2, ← HN2.out]; exact hb.symm⟩))
      obtain ⟨k3, hk3⟩ : ∃ k3, k3 = k2 + n2 := ⟨_, rfl⟩
      have HK3 : Hid (k3 = k2 + n2) := hk3
      have hkb3 : k3 + (nd.l 3).length ≤ 1000000000 := by have := HN2.out; omega
      rw [← hk3]
      clear hL2 hk3 hc2 hr2 hf2 O2 FR2 x2 gl2
      have hL3 : W3.ownsRow base 2 1 (us j 3) (nd.l 3).length (nd.l 3) := O3.out.list hjs 3 (by omega)
      obtain ⟨a3, c3, hs3⟩ := ownT_shape hL3
      have x3 : W3.cell? ⟨g, j * 6 + 5, none⟩ = some (.slice a3 (nd.l 3).length c3) := by
        have := O3.out.cell (i := j) (j := 5) (by simpa using hjs) (by omega)
        rw [this, getD_setN _ _ _ _ _ hjs, if_pos rfl]
        show some (us j 3) = _
        rw [hs3]
      have gl3 : g < W3.heap.size := (O3.out.row.lt g rfl).2
      have hc3 := markInt64S_own a3 (nd.l 3).length c3 k3 base (nd.l 3) W3 (by rw [hs3] at hL3; exact hL3) (by omega)
      obtain ⟨n3, hn3⟩ : ∃ n3, n3 = (nd.l 3).length := ⟨_, rfl⟩
      have HN3 : Hid (n3 = (nd.l 3).length) := hn3
      rw [← hn3] at x3 hc3
      clear hn3
      go_wp2_with fail
      refine hc3.mono ?_
      rintro e W4 ⟨rfl, hr3, hf3⟩
      have O4 : Hid (OwnT W4 base (.slice (some ⟨g, 0, none⟩) n c) ((stT k ns j).set j (⟨((kk : Int) % 3) == 0, (kk : Int) + 1, fun r => if r = 3 then rowsOf intCells (mkIs k3 n3) else (if r = 2 then rowsOf intCells (mkIs k2 n2) else (if r = 1 then rowsOf strCells (mkSs k1 n1) else (if r = 0 then rowsOf strCells (mkSs k0 n0) else nd.l r)))⟩ : ND)) us) := O3.out.over' hjs (q := 3) (zs := rowsOf intCells (mkIs k3 n3)) (by omega) (by rw [rows_len1 ic1, mkIs_len]; exact HN3.out) (by rw [rows_len1 ic1, mkIs_len, hs3, ← HN3.out]; exact hr3) (by rw [hs3, ← HN3.out]; exact hf3)
      have FR4 : Hid (Fr (BlkT (.slice (some ⟨g, 0, none⟩) n c) ns.length us) w W4) := FR3.out.trans (hf3.weak (fun b hb => .inr ⟨j, 3, hjf, by omega, by rw [hs3, ← HN3.out]; exact hb.symm⟩))
      obtain ⟨k4, hk4⟩ : ∃ k4, k4 = k3 + n3 := ⟨_, rfl⟩
      have HK4 : Hid (k4 = k3 + n3) := hk4
      have hkb4 : k4 + 0 ≤ 1000000000 := by have := HN3.out; omega
      rw [← hk4]
      clear hL3 hk4 hc3 hr3 hf3 O3 FR3 x3 gl3
      have HE : Hid (stT k ns (j + 1) = (stT k ns j).set j (⟨((kk : Int) % 3) == 0, (kk : Int) + 1, fun r => if r = 3 then rowsOf intCells (mkIs k3 n3) else (if r = 2 then rowsOf intCells (mkIs k2 n2) else (if r = 1 then rowsOf strCells (mkSs k1 n1) else (if r = 0 then rowsOf strCells (mkSs k0 n0) else nd.l r)))⟩ : ND)) := by
        show _ = _
        rw [HSU.out]
        congr 1
        unfold mkN
        congr 1
        funext r
        rw [HK3.out, HK2.out, HK1.out, HK0.out, HN0.out, HN1.out, HN2.out, HN3.out]
        by_cases r0 : r = 0
        · subst r0; rfl
        · by_cases r1 : r = 1
          · subst r1; rfl
          · by_cases r2 : r = 2
            · subst r2; rfl
            · by_cases r3 : r = 3
              · subst r3; rfl
              · simp [r0, r1, r2, r3]
      have HR : Hid (OwnT W4 base (.slice (some ⟨g, 0, none⟩) n c) (stT k ns (j + 1)) us ∧ Fr (BlkT (.slice (some ⟨g, 0, none⟩) n c) ns.length us) w W4) := by
        rw [HE.out]
        exact ⟨O4.out, FR4.out⟩
      have HKE : Hid (kT k (ns.take (j + 1)) = k4) := by
        show _ = _
        have h1 := HK.out; have h2 := HK0.out; have h3 := HK1.out; have h4 := HK2.out; have h5 := HK3.out; have h6 := HK4.out; have h7 := HN0.out; have h8 := HN1.out; have h9 := HN2.out; have h10 := HN3.out
        unfold ndLen at h1
        omega
      clear O4 FR4 HE HSU
      go_wp2_with fail
      go_roundw
      case rel => exact ⟨j + 1, by omega, by go_num, by rw [HKE.out], HR⟩
      case measure => simp [intOf]; omega
    · have hj2 : ns.take j = ns := List.take_of_length_le (by have := hn.out; omega)
      have hj3 : stT k ns j = mkNs k ns := by
        unfold stT
        rw [hj2, List.drop_eq_nil_of_le (by have := hn.out; omega), List.append_nil]
      rw [hj3] at HX
      rw [hj2]
      clear hj2 hj3
      go_wp2_with fail
      go_ret
      exact ⟨rfl, HX.out.1, HX.out.2⟩
end Go.Proofs.Ytpmagndofiaooaa
