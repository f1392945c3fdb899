import Derived.Test.YtpiipnfhinbimaaDq
namespace Go.Proofs.Ytpiipnfhinbimaa
open Go.RowKit
set_option linter.unusedVariables false
set_option maxRecDepth 100000

theorem fit_nat (x : Nat) (h : x ≤ 4294967296) : I64 (x : Int) := by unfold I64; omega
theorem box_four' {w : World} {N : Nat} {v0 v1 v2 v3 : Value} {t : TypeId} (h : w.heap[N]? = some (.cells #[v0, v1, v2, v3] t)) : w.cell? ⟨N, 0, none⟩ = some v0 ∧ w.cell? ⟨N, 1, none⟩ = some v1 ∧ w.cell? ⟨N, 2, none⟩ = some v2 ∧ w.cell? ⟨N, 3, none⟩ = some v3 := by
  simp [World.cell?, h]
def put4D (w : World) (K : Nat) (u0 u1 u2 u3 : Value) : World := (((w.setCell ⟨K, 0, none⟩ u0).setCell ⟨K, 1, none⟩ u1).setCell ⟨K, 2, none⟩ u2).setCell ⟨K, 3, none⟩ u3
theorem setD_fr (w : World) (N i : Nat) (u : Value) : Fr (fun x => x = N) w (w.setCell ⟨N, i, none⟩ u) := ⟨rfl, rfl, rfl, by simp [World.setCell], fun k _ hk => Below.heap_setCell w ⟨N, i, none⟩ u k hk⟩
theorem put4D_fr (w : World) (K : Nat) (u0 u1 u2 u3 : Value) : Fr (fun x => x = K) w (put4D w K u0 u1 u2 u3) := (((setD_fr _ _ _ _).trans (setD_fr _ _ _ _)).trans (setD_fr _ _ _ _)).trans (setD_fr _ _ _ _)
theorem put4D_box {w : World} {N t : Nat} {v0 v1 v2 v3 : Value} (h : w.heap[N]? = some (.cells #[v0, v1, v2, v3] t)) (u0 u1 u2 u3 : Value) : (put4D w N u0 u1 u2 u3).heap[N]? = some (.cells #[u0, u1, u2, u3] t) := by
  simp [put4D, World.setCell, Array.getElem?_modify, h]
set_option maxHeartbeats 1600000 in
theorem l2DrawEnt_any (C A B : Nat) (w : World) (h : DCur w C A B) (key : ByteArray) (hk : key.size ≤ 8) (low last : Nat) (hl : low ≤ 1000) (hl2 : last ≤ 1000) :
    Calls Try.prog 96 #[.pointer (some ⟨C, 0, none⟩), .string key, .int .i64 low, .int .i64 last] w fun e w' => ∃ p : PE, e = .returned (.agg #[.string p.1, .string p.2.1, .int .i64 p.2.2.1, .int .i64 p.2.2.2]) ∧ entFit p ∧ DCur w' C A B ∧ Fr (fun g => g = C) w w' := by
  have hCw := h.lt
  go_enter Try.func96, Try.ntmps96
  go_wp2_with fail
  have hb0 : Below w.heap.size w (w.alloc (.cells #[.string ⟨#[]⟩, .string ⟨#[]⟩, .int .i64 0, .int .i64 0] 163)) := (Below.refl _ _).alloc (Nat.le_refl _) _
  have HR0 := heap_alloc_new w (.cells #[.string ⟨#[]⟩, .string ⟨#[]⟩, .int .i64 0, .int .i64 0] 163)
  have hD0 := h.below hb0
  have hF0 : Fr (fun g => g = C) w (w.alloc (.cells #[.string ⟨#[]⟩, .string ⟨#[]⟩, .int .i64 0, .int .i64 0] 163)) := Fr.of_below hb0
  generalize w.alloc (.cells #[.string ⟨#[]⟩, .string ⟨#[]⟩, .int .i64 0, .int .i64 0] 163) = W0 at hb0 HR0 hD0 hF0 ⊢
  refine (l1Once_any C A B W0 hD0 3 (by omega) (by omega)).mono ?_
  rintro e w1 ⟨b, rfl, hD1, hF1⟩
  have HR1 := (hF1.block w.heap.size (Array.getElem?_eq_some_iff.1 HR0).1 (by omega)).trans HR0
  have hFw1 := hF0.trans hF1
  clear hb0 HR0 hD0 hF0 hF1 h
  cases b
  · go_wp2_with fail
    refine (l1Below_any C A B w1 hD1 9 (by omega) (by omega)).mono ?_
    rintro e w2 ⟨n, rfl, hn, hD2, hF2⟩
    have HR2 := (hF2.block w.heap.size (Array.getElem?_eq_some_iff.1 HR1).1 (by omega)).trans HR1
    have hFw2 := hFw1.trans hF2
    go_wp2_with fail
    refine (l1Many_any _ (by decide) n (by omega) w2).mono ?_
    rintro e w3 ⟨v, rfl, hv, hb3⟩
    have hD3 := hD2.below hb3
    have HR3 := (hb3.block w.heap.size (Array.getElem?_eq_some_iff.1 HR2).1).trans HR2
    have hFw3 := hFw2.trans (Fr.of_below hb3)
    have hv8 : v.size ≤ 8 := by rw [hv]; simp [ByteArray.size]; omega
    clear HR1 HR2 hFw1 hFw2 hD1 hD2 hF2 hb3
    obtain ⟨r0, r1, r2, r3⟩ := box_four' HR3
    have ff := box_thaw HR3
    have hDD := hD3
    have hFF := hFw3
    have HB := put4D_box HR3 (.string key) (.string v) (.int .i64 0) (.int .i64 (n : Int))
    have hDZ : DCur (put4D w3 w.heap.size (.string key) (.string v) (.int .i64 0) (.int .i64 (n : Int))) C A B := hDD.frg (put4D_fr w3 w.heap.size (.string key) (.string v) (.int .i64 0) (.int .i64 (n : Int))) (fun g e => by omega)
    have hFZ : Fr (fun g => g = C) w (put4D w3 w.heap.size (.string key) (.string v) (.int .i64 0) (.int .i64 (n : Int))) := hFF.up2 (put4D_fr w3 w.heap.size (.string key) (.string v) (.int .i64 0) (.int .i64 (n : Int))) (fun g e => by omega)
    go_wp2
    show bodyPost _ _ _ _ _ (put4D w3 w.heap.size (.string key) (.string v) (.int .i64 0) (.int .i64 (n : Int)))
    clear r0 r1 r2 r3
    obtain ⟨r0, r1, r2, r3⟩ := box_four' HB
    refine bodyPost_ret (v := .agg #[.string key, .string v, .int .i64 0, .int .i64 (n : Int)]) (by simp [results, Try.results96, go_sem, r0, r1, r2, r3]) rfl ?_
    exact ⟨(key, v, 0, (n : Int)), rfl, ⟨by unfold maxLen; show key.size ≤ _; omega, by unfold maxLen; show v.size ≤ _; omega, fit_nat 0 (by omega), fit_nat n (by omega)⟩, hDZ, hFZ⟩
  · go_wp2_with fail
    refine (l2DrawNum_any C A B w1 hD1 low last hl hl2).mono ?_
    rintro e w2 ⟨x, rfl, hx, hD2, hF2⟩
    have HR2 := (hF2.block w.heap.size (Array.getElem?_eq_some_iff.1 HR1).1 (by omega)).trans HR1
    have hFw2 := hFw1.trans hF2
    go_wp2_with fail
    refine (l1Below_any C A B w2 hD2 30 (by omega) (by omega)).mono ?_
    rintro e w3 ⟨y, rfl, hy, hD3, hF3⟩
    have HR3 := (hF3.block w.heap.size (Array.getElem?_eq_some_iff.1 HR2).1 (by omega)).trans HR2
    have hFw3 := hFw2.trans hF3
    go_wp2_with fail
    have hal : Below w3.heap.size w3 (w3.alloc (.cells #[.string key, .string ⟨#[]⟩, .int .i64 (x : Int), .int .i64 (9 + (y : Int))] 163)) := (Below.refl _ _).alloc (Nat.le_refl _) _
    have HE4 := heap_alloc_new w3 (.cells #[.string key, .string ⟨#[]⟩, .int .i64 (x : Int), .int .i64 (9 + (y : Int))] 163)
    generalize w3.alloc (.cells #[.string key, .string ⟨#[]⟩, .int .i64 (x : Int), .int .i64 (9 + (y : Int))] 163) = w4 at hal HE4 ⊢
    have hD4 := hD3.below hal
    have HR4 := (hal.block w.heap.size (Array.getElem?_eq_some_iff.1 HR3).1).trans HR3
    have hFw4 := hFw3.trans (Fr.of_below hal)
    have hE3 : w.heap.size < w3.heap.size := (Array.getElem?_eq_some_iff.1 HR3).1
    clear HR1 HR2 HR3 hFw1 hFw2 hFw3 hD1 hD2 hD3 hF2 hF3 hal
    generalize w3.heap.size = E at HE4 hE3 ⊢
    refine (l1Once_any C A B w4 hD4 5 (by omega) (by omega)).mono ?_
    rintro e w5 ⟨b, rfl, hD5, hF5⟩
    have HR5 := (hF5.block w.heap.size (Array.getElem?_eq_some_iff.1 HR4).1 (by omega)).trans HR4
    have HE5 := (hF5.block E (Array.getElem?_eq_some_iff.1 HE4).1 (by omega)).trans HE4
    have hFw5 := hFw4.trans hF5
    clear HR4 HE4 hFw4 hD4 hF5
    cases b
    · obtain ⟨s0, s1, s2, s3⟩ := box_four' HE5
      obtain ⟨r0, r1, r2, r3⟩ := box_four' HR5
      have ff := box_thaw HR5
      have hDD := hD5
      have hFF := hFw5
      have HB := put4D_box HR5 (.string key) (.string ⟨#[]⟩) (.int .i64 (x : Int)) (.int .i64 (9 + (y : Int)))
      have hDZ : DCur (put4D w5 w.heap.size (.string key) (.string ⟨#[]⟩) (.int .i64 (x : Int)) (.int .i64 (9 + (y : Int)))) C A B := hDD.frg (put4D_fr w5 w.heap.size (.string key) (.string ⟨#[]⟩) (.int .i64 (x : Int)) (.int .i64 (9 + (y : Int)))) (fun g e => by omega)
      have hFZ : Fr (fun g => g = C) w (put4D w5 w.heap.size (.string key) (.string ⟨#[]⟩) (.int .i64 (x : Int)) (.int .i64 (9 + (y : Int)))) := hFF.up2 (put4D_fr w5 w.heap.size (.string key) (.string ⟨#[]⟩) (.int .i64 (x : Int)) (.int .i64 (9 + (y : Int)))) (fun g e => by omega)
      go_wp2
      show bodyPost _ _ _ _ _ (put4D w5 w.heap.size (.string key) (.string ⟨#[]⟩) (.int .i64 (x : Int)) (.int .i64 (9 + (y : Int))))
      clear r0 r1 r2 r3
      obtain ⟨r0, r1, r2, r3⟩ := box_four' HB
      refine bodyPost_ret (v := .agg #[.string key, .string ⟨#[]⟩, .int .i64 (x : Int), .int .i64 (9 + (y : Int))]) (by simp [results, Try.results96, go_sem, r0, r1, r2, r3]) rfl ?_
      exact ⟨(key, ⟨#[]⟩, (x : Int), (9 + (y : Int))), rfl, ⟨by unfold maxLen; show key.size ≤ _; omega, Nat.zero_le _, fit_nat x (by omega), by show I64 (9 + (y : Int)); unfold I64; omega⟩, hDZ, hFZ⟩
    · have fe := box_thaw HE5
      obtain ⟨s0, s1, s2, s3⟩ := box_four' HE5
      have HE6 : (w5.setCell ⟨E, 3, none⟩ (.int .i64 400)).heap[E]? = some (.cells #[.string key, .string ⟨#[]⟩, .int .i64 (x : Int), .int .i64 400] 163) := by simp [World.setCell, Array.getElem?_modify, HE5]
      have hF6 := setD_fr w5 E 3 (.int .i64 400)
      have HR6 := (hF6.block w.heap.size (Array.getElem?_eq_some_iff.1 HR5).1 (by omega)).trans HR5
      have hD6 := hD5.frg hF6 (fun g e => by omega)
      have hFw6 := hFw5.up2 hF6 (fun g e => by omega)
      obtain ⟨t0, t1, t2, t3⟩ := box_four' HE6
      obtain ⟨r0, r1, r2, r3⟩ := box_four' HR6
      have ff := box_thaw HR6
      have hDD := hD6
      have hFF := hFw6
      have HB := put4D_box HR6 (.string key) (.string ⟨#[]⟩) (.int .i64 (x : Int)) (.int .i64 400)
      have hDZ : DCur (put4D (w5.setCell ⟨E, 3, none⟩ (.int .i64 400)) w.heap.size (.string key) (.string ⟨#[]⟩) (.int .i64 (x : Int)) (.int .i64 400)) C A B := hDD.frg (put4D_fr (w5.setCell ⟨E, 3, none⟩ (.int .i64 400)) w.heap.size (.string key) (.string ⟨#[]⟩) (.int .i64 (x : Int)) (.int .i64 400)) (fun g e => by omega)
      have hFZ : Fr (fun g => g = C) w (put4D (w5.setCell ⟨E, 3, none⟩ (.int .i64 400)) w.heap.size (.string key) (.string ⟨#[]⟩) (.int .i64 (x : Int)) (.int .i64 400)) := hFF.up2 (put4D_fr (w5.setCell ⟨E, 3, none⟩ (.int .i64 400)) w.heap.size (.string key) (.string ⟨#[]⟩) (.int .i64 (x : Int)) (.int .i64 400)) (fun g e => by omega)
      go_wp2
      show bodyPost _ _ _ _ _ (put4D (w5.setCell ⟨E, 3, none⟩ (.int .i64 400)) w.heap.size (.string key) (.string ⟨#[]⟩) (.int .i64 (x : Int)) (.int .i64 400))
      clear r0 r1 r2 r3
      obtain ⟨r0, r1, r2, r3⟩ := box_four' HB
      refine bodyPost_ret (v := .agg #[.string key, .string ⟨#[]⟩, .int .i64 (x : Int), .int .i64 400]) (by simp [results, Try.results96, go_sem, r0, r1, r2, r3]) rfl ?_
      exact ⟨(key, ⟨#[]⟩, (x : Int), 400), rfl, ⟨by unfold maxLen; show key.size ≤ _; omega, Nat.zero_le _, fit_nat x (by omega), fit_nat 400 (by omega)⟩, hDZ, hFZ⟩
end Go.Proofs.Ytpiipnfhinbimaa
