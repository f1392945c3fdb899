import Derived.Test.YtpmagndofiaooaaTfd
import Derived.Test.YtpmagndofiaooaaTsa
namespace Go.Proofs.Ytpmagndofiaooaa
open Go.RowKit
set_option linter.unusedVariables false
set_option linter.unusedSimpArgs false
set_option maxRecDepth 100000

theorem look_first {key : ByteArray} {zs : List (ByteArray × ByteArray × Int)} {j : Nat} (h : ∀ k, k < j → (zs.getD k (ByteArray.empty, ByteArray.empty, 0)).1 ≠ key) (hj : j < zs.length) (hk : (zs.getD j (ByteArray.empty, ByteArray.empty, 0)).1 = key) : lookT key zs = some (zs.getD j (ByteArray.empty, ByteArray.empty, 0)) := by
  have he : zs.getD j (ByteArray.empty, ByteArray.empty, 0) = zs[j] := by simp [List.getD, hj]
  rw [he] at hk ⊢
  unfold lookT
  rw [List.find?_eq_some_iff_getElem]
  refine ⟨by simpa using hk, j, hj, rfl, fun k hkj => ?_⟩
  have := h k hkj
  simp only [List.getD, List.getElem?_eq_getElem (show k < zs.length by omega), Option.getD_some] at this
  simpa using this
set_option maxHeartbeats 4000000 in
theorem specGet_any (ts : List TN) (key : ByteArray) (a : Option Addr) (n c A B : Nat) (w : World) (hB : B ≤ w.heap.size) (hT : NodesAt w A B a n c ts) :
    Calls Try.prog 20 #[.agg #[.slice a n c], .string key] w fun e w' => ∃ s, specGet ts key s ∧ GetAns s w e w' := by
  obtain ⟨N, hN⟩ : ∃ N, w.heap.size = N := ⟨_, rfl⟩
  have b0 := (Below.refl w.heap.size w).alloc (Nat.le_refl _) (.cells #[.slice a n c] 26)
  have b1 := (Below.refl (w.alloc (.cells #[.slice a n c] 26)).heap.size _).alloc (Nat.le_refl _) (.cells #[.bool false, .string ⟨#[]⟩] 43)
  have k1 := heap_alloc_new (w.alloc (.cells #[.slice a n c] 26)) (.cells #[.bool false, .string ⟨#[]⟩] 43)
  have z0 : (w.alloc (.cells #[.slice a n c] 26)).heap.size = N + 1 := by simp [hN]
  have z1 : ((w.alloc (.cells #[.slice a n c] 26)).alloc (.cells #[.bool false, .string ⟨#[]⟩] 43)).heap.size = N + 2 := by simp [hN]
  have kt := (b1.block N (by omega)).trans (hN ▸ heap_alloc_new w (.cells #[.slice a n c] 26))
  rw [z0] at k1
  have bw := b0.trans (b1.mono (by omega))
  have hT1 := hT.below (bw.mono hB)
  have x0 := cell_one_at kt
  clear hT b0 b1
  go_enter Try.func20, Try.ntmps20
  go_upto_region 1 with fail
  generalize (w.alloc (.cells #[.slice a n c] 26)).alloc (.cells #[.bool false, .string ⟨#[]⟩] 43) = W1 at *
  have l1 : N < W1.heap.size := by omega
  have hsp := specValidT_any ts a n c A B W1 (by omega) hT1
  go_wp2_with fail
  refine hsp.mono ?_
  rintro e w2 ⟨r, rfl, hr, hb2⟩
  have bw2 := bw.trans (hb2.mono (by omega))
  have k2 := (hb2.block (N + 1) (by omega)).trans k1
  have kt2 := (hb2.block N l1).trans kt
  have hT2 := hT1.below (hb2.mono (by omega))
  have s2 := hb2.size
  clear hsp x0 k1 kt hT1 hb2
  have HFIN : Hid (∀ W : World, Below w2.heap.size w2 W → ∀ sb sy, (put2G W (N + 1) (.bool sb) (.string sy)).heap[N + 1]? = some (.cells #[.bool sb, .string sy] 43) ∧ Below w.heap.size w (put2G W (N + 1) (.bool sb) (.string sy)) ∧ W.heap[N + 1]? = some (.cells #[.bool false, .string ⟨#[]⟩] 43)) := fun W hW sb sy => by
    have kW := (hW.block (N + 1) (by omega)).trans k2
    exact ⟨put2G_box kW _ _, (bw2.trans (hW.mono bw2.size)).trans ((put2G_fr W (N + 1) _ _).below (by have := hW.size; have := bw2.size; omega) (fun g e => by omega)), kW⟩
  cases r
  · have HNO : Hid (¬ SpecOk ts) := fun h => by simpa using hr.2 h
    obtain ⟨hbox, hbel, kW⟩ := HFIN.out w2 (Below.refl _ _) false ⟨#[]⟩
    obtain ⟨p0, p1⟩ := box_twoG kW
    have ff := thawT kW
    have l2 := (Array.getElem?_eq_some_iff.1 kW).1
    clear hr
    go_wp2_with fail
    show bodyPost _ _ _ _ _ (put2G w2 (N + 1) (.bool false) (.string ⟨#[]⟩))
    obtain ⟨v0, v1⟩ := box_twoG hbox
    refine bodyPost_ret (v := .agg #[.bool false, .string ⟨#[]⟩]) (by simp [results, Try.results20, go_sem, v0, v1]) rfl ?_
    exact ⟨none, ⟨fun _ => rfl, fun h => absurd h HNO.out⟩, rfl, hbel⟩
  · have HOK : Hid (SpecOk ts) := hr.1 rfl
    clear hr
    have x0 := cell_one_at kt2
    have l2 : N < w2.heap.size := by omega
    have hn3 : ts.length ≤ 1000 := HOK.out.1.2
    have hdeep := l3Deep_any ts hn3 a n c A B w2 (by omega) hT2
    go_upto_region 4 with (go_at_call 44; refine hdeep.mono ?_; rintro e w3 ⟨ka, kn, kc, va, vn, vc, oa, on, oc, ya, yc, css, rfl, hX3, hb3⟩)
    clear hdeep x0 kt2 hT2
    obtain ⟨t, ht⟩ : ∃ t, (rd ts (ts.length + 1) 0).1 = t := ⟨_, rfl⟩
    have HT : Hid ((rd ts (ts.length + 1) 0).1 = t) := ht
    rw [ht] at hX3 ⊢
    clear ht
    generalize (!(rd ts (ts.length + 1) 0).2.2 && decide ((rd ts (ts.length + 1) 0).2.1 = n)) = okb
    obtain ⟨_, t', hrd, hg, hky, _, hnd, _⟩ := HOK.out
    have e' : t' = t := by have := HT.out; rw [hrd] at this; exact this
    subst e'
    obtain ⟨hsh, _, _⟩ := rd_some ts _ _ _ _ hrd
    have hsl := slots_len t' ⟨true, hg⟩
    have hpr := l3Pairs_any w3.heap.size t' hsh ⟨true, hg⟩ (by omega)
    have HM : Hid (t'.slots.length ≤ 4000) := by show _ ≤ _; omega
    obtain ⟨M, hM⟩ : ∃ M, w3.heap.size = M := ⟨_, rfl⟩
    have ab := (Below.refl w3.heap.size w3).alloc (Nat.le_refl _) (.cells #[.bool t'.leaf, .int .i64 t'.page, .slice ka kn kc, .slice va vn vc, .slice oa on oc, .slice ya t'.kids.length yc] 61)
    have kM := heap_alloc_new w3 (.cells #[.bool t'.leaf, .int .i64 t'.page, .slice ka kn kc, .slice va vn vc, .slice oa on oc, .slice ya t'.kids.length yc] 61)
    rw [hM] at kM hpr
    have hs3 := hb3.size
    have hX4 : NodeX (w3.alloc (.cells #[.bool t'.leaf, .int .i64 t'.page, .slice ka kn kc, .slice va vn vc, .slice oa on oc, .slice ya t'.kids.length yc] 61)) 0 M (fun b => b < M) t' ka kn kc va vn vc oa on oc ya yc css :=
      hX3.wide (fun k h1 h2 => ab.block k (by omega)) (fun b hb => ab.block b hb.2) (fun b hb => by omega) (Nat.zero_le _) (by omega)
    have b24 : Below w2.heap.size w2 (w3.alloc (.cells #[.bool t'.leaf, .int .i64 t'.page, .slice ka kn kc, .slice va vn vc, .slice oa on oc, .slice ya t'.kids.length yc] 61)) := hb3.trans (ab.mono hs3)
    have hpc := hpr _ ka kn kc va vn vc oa on oc ya yc css (by rw [← hM]; exact ab.size) hX4
    obtain ⟨q0, q1, q2, q3, q4, q5⟩ := box6 kM
    have lM := (Array.getElem?_eq_some_iff.1 kM).1
    obtain ⟨S, hS⟩ : ∃ S, t'.slots = S := ⟨_, rfl⟩
    have HS : Hid (t'.slots = S) := hS
    unfold PairsAns at hpc
    rw [hS] at hpc HM
    clear hpr hX3 hX4 hsl hS hg hky hsh hrd hnd hn3
    generalize (w3.alloc (.cells #[.bool t'.leaf, .int .i64 t'.page, .slice ka kn kc, .slice va vn vc, .slice oa on oc, .slice ya t'.kids.length yc] 61)) = W4 at *
    go_wp2_with fail
    refine hpc.mono ?_
    rintro e w5 ⟨gp, cp, rfl, hownP, hb5⟩
    have B5 : Hid (Below w2.heap.size w2 w5) := b24.trans (hb5.mono b24.size)
    obtain ⟨sl, hsl⟩ : ∃ sl, S.length = sl := ⟨_, rfl⟩
    have HSL : Hid (S.length = sl) := hsl
    have HGP : Hid (∀ j, j < sl → w5.cell? ⟨gp, j * 2, none⟩ = some (.string (S.getD j (ByteArray.empty, ByteArray.empty, 0)).1) ∧ w5.cell? ⟨gp, j * 2 + 1, none⟩ = some (.string (S.getD j (ByteArray.empty, ByteArray.empty, 0)).2.1)) := fun j hj => by
      have hc : ∀ r, r < 2 → w5.cell? ⟨gp, j * 2 + r, none⟩ = (prCells (S.getD j (ByteArray.empty, ByteArray.empty, 0)))[r]? := fun r hr => by
        rw [hownP.cellAt (j * 2 + r) (by omega)]
        exact rowsOf_get pr2 _ S j r (by omega) hr
      exact ⟨by simpa [prCells] using hc 0 (by omega), by simpa [prCells] using hc 1 (by omega)⟩
    have lgp : gp < w5.heap.size := (hownP.lt gp rfl).2
    rw [hsl] at HM ⊢
    have hsl4 : sl ≤ 4000 := HM.out
    clear hpc q0 q1 q2 q3 q4 q5 hownP hb5 b24 ab kM hb3 hsl
    go_wp2_with fail
    go_loopw [8] (fun i wr => ∃ j : Nat, j ≤ sl ∧ i = .int .i64 j ∧ Hid (∀ k, k < j → (S.getD k (ByteArray.empty, ByteArray.empty, 0)).1 ≠ key) ∧ wr = w5) (fun i _ => sl - (intOf i).toNat)
    case atStart => exact ⟨0, Nat.zero_le _, rfl, fun k hk => by omega, rfl⟩
    case round =>
      obtain ⟨j, hj, rfl, HI, rfl⟩ := hrel
      by_cases hlt : j < sl
      · obtain ⟨c0, c1⟩ := HGP.out j hlt
        by_cases tk : (S.getD j (ByteArray.empty, ByteArray.empty, 0)).1 = key
        · have HY : Hid (lookT key S = some (S.getD j (ByteArray.empty, ByteArray.empty, 0))) := look_first HI.out (by have := HSL.out; omega) tk
          rw [tk] at c0
          have hte : (key.toList == key.toList) = true := by simp
          generalize S.getD j (ByteArray.empty, ByteArray.empty, 0) = s at *
          obtain ⟨sk, sv, so⟩ := s
          simp only at c1 tk
          obtain ⟨hbox, hbel, kW⟩ := HFIN.out wr B5.out true sv
          obtain ⟨p0, p1⟩ := box_twoG kW
          have ff := thawT kW
          have l5 := (Array.getElem?_eq_some_iff.1 kW).1
          clear tk HI
          go_wp2_with fail
          show bodyPost _ _ _ _ _ (put2G wr (N + 1) (.bool true) (.string sv))
          obtain ⟨v0, v1⟩ := box_twoG hbox
          refine bodyPost_ret (v := .agg #[.bool true, .string sv]) (by simp [results, Try.results20, go_sem, v0, v1]) rfl ?_
          exact ⟨some (sk, sv, so), ⟨fun h => absurd HOK.out h, fun _ => by rw [HT.out, HS.out, HY.out]⟩, rfl, hbel⟩
        · have hte := listG_ne tk
          have HI2 : Hid (∀ k, k < j + 1 → (S.getD k (ByteArray.empty, ByteArray.empty, 0)).1 ≠ key) := fun k hk => by
            by_cases hkj : k = j
            · rw [hkj]; exact tk
            · exact HI.out k (by omega)
          generalize (S.getD j (ByteArray.empty, ByteArray.empty, 0)).1 = sk at c0 hte tk
          clear tk HI c1
          go_wp2_with fail
          go_roundw
          case rel => exact ⟨j + 1, by omega, by go_num, HI2, trivial⟩
          case measure => simp [intOf]; omega
      · have HNO : Hid (lookT key S = none) := look_none (fun s hs => by
          obtain ⟨k, hk, e⟩ := List.mem_iff_getElem.1 hs
          have := HI.out k (by have := HSL.out; omega)
          simpa [List.getD, hk, e] using this)
        obtain ⟨hbox, hbel, kW⟩ := HFIN.out wr B5.out false ⟨#[]⟩
        obtain ⟨p0, p1⟩ := box_twoG kW
        have ff := thawT kW
        have l5 := (Array.getElem?_eq_some_iff.1 kW).1
        clear HI
        go_wp2_with fail
        show bodyPost _ _ _ _ _ (put2G wr (N + 1) (.bool false) (.string ⟨#[]⟩))
        obtain ⟨v0, v1⟩ := box_twoG hbox
        refine bodyPost_ret (v := .agg #[.bool false, .string ⟨#[]⟩]) (by simp [results, Try.results20, go_sem, v0, v1]) rfl ?_
        exact ⟨none, ⟨fun h => absurd HOK.out h, fun _ => by rw [HT.out, HS.out, HNO.out]⟩, rfl, hbel⟩
end Go.Proofs.Ytpmagndofiaooaa
