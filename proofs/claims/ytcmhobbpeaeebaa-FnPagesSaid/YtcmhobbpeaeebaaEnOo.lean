import Derived.Test.YtcmhobbpeaeebaaGAN
namespace Go.Proofs.Ytcmhobbpeaeebaa
namespace Old
open Go.RowKit
set_option linter.unusedVariables false
set_option maxRecDepth 100000

set_option maxHeartbeats 3200000 in
theorem encOld_over (tx id root count : Int) (ka : Option Addr) (n kc : Nat) (ks : List PK) (ea : Option Addr) (m ec : Nat) (es : List PE) (next : Int) (data : ByteArray) (w : World) (A B : Nat) (hB : B ≤ w.heap.size) (hK : KidsAt w A B ka n kc ks) (hE : EntsAt w A B ea m ec es)
    (hnx : I64 next) (hd96 : data.size ≤ 96) (hcond : (decide (id = 0 ∧ root = 0 ∧ count = 0) && decide (n = 0) && decide (m = 0)) = true) (htx : tx = 0) (hval : (decide (1 ≤ data.size) && decide (data.size ≤ 96) && (decide (next = 0) || (inB 1 998 next && decide (data.size = 96)))) = true) :
    Calls Try.prog 29 #[.agg #[.int .i64 4, .int .i64 tx, .int .i64 id, .int .i64 root, .int .i64 count, .slice ka n kc, .slice ea m ec, .int .i64 next, .string data]] w fun e w' => ∃ v, e = .returned v ∧ w'.ownsRow w.heap.size 5 1 v 128 (u8s (sealO (headO 4 0 ((numB true (smallN true) next ++ textB data))))) ∧ Below w.heap.size w w' := by
  have hb0 : Below w.heap.size w (w.alloc (.cells #[.int .i64 4, .int .i64 tx, .int .i64 id, .int .i64 root, .int .i64 count, .slice ka n kc, .slice ea m ec, .int .i64 next, .string data] 28)) := (Below.refl _ _).alloc (Nat.le_refl _) _
  have HX0 : (w.alloc (.cells #[.int .i64 4, .int .i64 tx, .int .i64 id, .int .i64 root, .int .i64 count, .slice ka n kc, .slice ea m ec, .int .i64 next, .string data] 28)).heap[w.heap.size]? = _ := heap_alloc_new w _
  have st : (tx != 0) = false := by simpa using htx
  have hmv := fun a w => meth_over_valid a w
  have hav := fun a w => ahead_over_valid a w
  have hac := fun a w => ahead_over_count a w
  have haw := fun a w => ahead_over_write a w
  have hmc := fun a w => meth_over_count a w
  have hmw := fun a w => meth_over_write a w
  clear htx
  go_enter Try.func29, Try.ntmps29
  go_wp2_with fail
  generalize w.alloc (.cells #[.int .i64 4, .int .i64 tx, .int .i64 id, .int .i64 root, .int .i64 count, .slice ka n kc, .slice ea m ec, .int .i64 next, .string data] 28) = W0 at hb0 HX0 ⊢
  have HB := bodyOf_over tx id root count ka n kc ks ea m ec es next data W0 A B (Nat.le_trans hB hb0.size) (hK.below (hb0.mono hB)) (hE.below (hb0.mono hB))
  rw [hcond] at HB
  refine HB.mono ?_
  rintro e w1 ⟨M, rfl, hMl, hM, hb1⟩
  have hb2 := hb0.trans (hb1.mono hb0.size)
  have HX1 := eb_call HX0 hb1
  have hMw : w.heap.size ≤ M := Nat.le_trans hb0.size hMl
  obtain ⟨c5, c6, c0, c2, c3, c4, c7, c8, c1⟩ := box_slice HX1
  clear HB hb1 hb0 HX0 hMl
  simp only [cond_true]
  go_wp2_with fail
  go_region_held3 (fun w' => w'.cell? ⟨w.heap.size, 1, none⟩ = some (.int .i64 tx)) (go_keep)
    (first
      | (go_at_call 144; have HV := overValid_any M next data (by unfold maxLen; omega) 1 998 w2 hM2; rw [hval] at HV; refine HV.mono ?_; rintro e w3 ⟨rfl, hb5⟩; have hb6 := hb4.trans (hb5.mono hb4.size); have HX3 := eb_call HX2 hb5; have hM3 := eb_call hM2 hb5; obtain ⟨_, _, _, _, _, _, _, _, d1⟩ := box_slice HX3)
      | (go_at_call 69; refine (oldPages_any w1.drew).mono ?_; rintro e w2 ⟨rfl, hb3⟩; have hb4 := hb2.drew.trans (hb3.mono hb2.size); have HX2 := eb_call (w' := w1.drew) HX1 hb3; have hM2 := eb_call (w' := w1.drew) hM hb3; obtain ⟨_, _, _, _, _, _, _, _, d1⟩ := box_slice HX2))
  all_goals
    clear hb2 hb3 hb4 hb5 HX1 HX2 hM hM2 hmv hav c5 c6 c0 c2 c3 c4 c7 c8 c1
    obtain ⟨i0, hi0, hz0, hz1, hz2⟩ := info_parts info_u8
    have hs3 := hb6.size
    go_wp2_with (at_make; refine wpList_make_full _ rfl _ _ 22 rfl w.heap.size 5 i0 (.int .u8 0) 1 Try.underlying22 hi0 hz0 hz1 .i64 .i64 128 128 128 rfl rfl rfl rfl (by rw [hz2]; omega) (by unfold maxLen; omega) hs3 ?_; intro w4 hown hgr)
    rw [made128] at hown
    have hN3 : w.heap.size < w3.heap.size := (Array.getElem?_eq_some_iff.1 HX3).1
    have hb7 := hb6.grown hgr hs3 (by simp)
    have HX4 := (hgr.block _ hN3 (by simp)).trans HX3
    have hM3l := (Array.getElem?_eq_some_iff.1 hM3).1
    have hM4 := (hgr.block M hM3l (by simp)).trans hM3
    have hGl := (hown.lt w3.heap.size rfl).2
    have hMG : M ≠ w3.heap.size := by omega
    generalize w3.heap.size = G at hown hMG hN3 hs3 hGl ⊢
    clear hb6 HX3 hM3 hgr hz0 hz1 hz2 hi0 d1
    refine (oldCursor_any G (List.replicate 128 0) (by simp) w4 (owns_base hown (Nat.zero_le _))).mono ?_
    rintro e w5 ⟨rfl, hC5, hb8⟩
    have hb9 := hb7.trans (hb8.mono hb7.size)
    have HX5 := eb_call HX4 hb8
    have hM5 := eb_call hM4 hb8
    have hM4l := (Array.getElem?_eq_some_iff.1 hM4).1
    have hMC : M ≠ w4.heap.size := by omega
    have hs4 := hb7.size
    have hNG : w.heap.size ≠ G := by omega
    have hNC : w.heap.size ≠ w4.heap.size := by have := (Array.getElem?_eq_some_iff.1 HX4).1; omega
    have hCG : G < w4.heap.size := hGl
    clear hb7 hb8 HX4 hM4
    generalize w4.heap.size = C at hC5 hMC hs4 hNC hCG ⊢
    go_wp2_with fail
    refine (putLetters_any C G 0 _ _ _ (List.replicate 128 0) ⟨#[79]⟩ w5 hC5 (by decide) (by omega)).mono ?_
    rintro e w6 ⟨rfl, hW1⟩
    rw [str_O] at hW1
    have HX6 := wrote_box hW1 HX5 hNC hNG
    have hM6 := wrote_box hW1 hM5 hMC hMG
    obtain ⟨c5, c6, c0, c2, c3, c4, c7, c8, c1⟩ := box_slice HX6
    obtain ⟨_, _, _, e3, _⟩ := hW1.1.cells
    clear HX5 hM5
    go_wp2_with fail
    go_region_held3 (fun w' => w'.cell? ⟨C, 3, none⟩ = some (.func (.func 85) #[.pointer (some ⟨C, 0, none⟩)] #[]) ∧ w'.cell? ⟨w.heap.size, 0, none⟩ = some (.int .i64 4)) (go_keep)
      (first | (go_at_call 85; refine (Put C G (0 + [79].length) _ 4 1 w6.drew (by unfold I64; omega) (by omega) hW1.1.drew (by simp)).mono ?_; rintro e w7 ⟨rfl, hV2⟩; have HX7 := wrote_box (w := w6.drew) hV2 HX6 hNC hNG; have hM7 := wrote_box (w := w6.drew) hV2 hM6 hMC hMG; obtain ⟨_, _, k0, _⟩ := box_slice HX7; obtain ⟨_, _, _, q3, _⟩ := hV2.1.cells))
    rw [numB_one _ _ (by omega)] at hV2
    have hW2 := Wrote.next hW1 (by simp) (by simp) hV2
    obtain ⟨_, _, _, e3, _⟩ := hW2.1.cells
    clear hW1 hV2 HX6 hM6 c5 c6 c0 c2 c3 c4 c7 c8 c1
    go_wp2_with fail
    go_region_held3 (fun w' => w'.cell? ⟨C, 3, none⟩ = some (.func (.func 85) #[.pointer (some ⟨C, 0, none⟩)] #[])) (go_keep)
      (first
        | (go_at_call 141; refine (overCount_any M w7.drew).mono ?_; rintro e w8 ⟨rfl, rfl⟩)
        | (go_at_call 85; refine (Put C G (0 + ([79] ++ [4]).length) _ 0 1 w7.drew (by unfold I64; omega) (by omega) hW2.1.drew (by simp)).mono ?_; rintro e w8 ⟨rfl, hV3⟩; have HX8 := wrote_box (w := w7.drew) hV3 HX7 hNC hNG; have hM8 := wrote_box (w := w7.drew) hV3 hM7 hMC hMG; obtain ⟨_, _, _, q3, _⟩ := hV3.1.cells))
    all_goals
      rw [numB_one _ _ (by omega)] at hV3
      have hW3 := Wrote.next hW2 (by simp) (by simp) hV3
      clear hW2 hV3 HX7 hM7
      go_wp2_with fail
      refine (overWrite_any C G (0 + ([79] ++ [4] ++ [0]).length) M _ next data hnx hd96 w8 hW3.1 (by simp) hM8 hMC hMG).mono ?_
      rintro e w9 ⟨rfl, hV4⟩
      have hW4 := hW3.trans (by simp) hV4
      have hlb : ((numB true (smallN true) next ++ textB data)).length ≤ 104 := by have := numB_small true next; rw [List.length_append, textB_len]; omega
      have hbb : ∀ x ∈ (numB true (smallN true) next ++ textB data), 0 ≤ x ∧ x ≤ 255 := bytes_app (numB_byte _ _ _) (textB_byte (by omega))
      have hall : ∀ x ∈ [79] ++ [4] ++ [0] ++ (numB true (smallN true) next ++ textB data), 0 ≤ x ∧ x ≤ 255 := bytes_app (by intro x hx; simp at hx; omega) hbb
      have hll : ([79] ++ [4] ++ [0] ++ (numB true (smallN true) next ++ textB data)).length ≤ 107 := by rw [List.length_append]; have hlb2 := hlb; simp only [List.length_append, List.length_cons, List.length_nil] at hlb2 ⊢; omega
      have HW4 : Hid (Wrote w5 w9 C G true 85 86 0 (List.replicate 128 0) ([79] ++ [4] ++ [0] ++ (numB true (smallN true) next ++ textB data))) := hW4
      clear hW3 hW4 hV4
      have HLB : Hid (headO 4 0 ((numB true (smallN true) next ++ textB data)) = [79] ++ [4] ++ [0] ++ (numB true (smallN true) next ++ textB data)) := rfl
      generalize [79] ++ [4] ++ [0] ++ (numB true (smallN true) next ++ textB data) = l0 at HW4 hall hll HLB
      obtain ⟨e0, e1, e2, e3, e4⟩ := HW4.out.1.cells
      have hfC : ∀ o, w9.frozen? ⟨C, o, none⟩ = false := by intro o; simp [World.frozen?, HW4.out.1.box]
      have hcur := HW4.out.1
      rw [lay_zero (by omega)] at hcur
      have hcur2 := hcur.move 127
      have hbel9 : Below w.heap.size w (w9.setCell ⟨C, 1, none⟩ (.int .i64 127)) := (hb9.trans (HW4.out.2.below hb9.size (fun g e => by rcases e with e | e <;> omega))).setCell (by show w.heap.size ≤ C; omega) _
      clear hcur
      go_wp2_with fail
      generalize w9.setCell ⟨C, 1, none⟩ (.int .i64 127) = W9 at hcur2 hbel9 ⊢
      obtain ⟨z0, z1, z2, z3, z4⟩ := hcur2.cells
      have hby := bytes127 hcur2.drew (padB_byte (n := 128) hall)
      rw [pad_take (by omega)] at hby
      have hsr := sum_range (padB_byte (n := 127) hall) (padB_len (n := 127) (bs := l0) (by omega))
      clear e0 e1 e2 e3 e4 hfC
      go_region_held3 (fun w' => w'.cell? ⟨C, 3, none⟩ = some (.func (.func 85) #[.pointer (some ⟨C, 0, none⟩)] #[]) ∧ w'.cell? ⟨C, 0, none⟩ = some (.slice (some ⟨G, 0, none⟩) 128 128)) (go_keep)
        (first
          | (go_at_call 71; refine (sumBytes_any _ 127 128 (padB 127 l0) W9.drew _ _ hby (by omega)).mono ?_; rintro e w10 ⟨rfl, rfl⟩)
          | (go_at_call 85; refine (Put C G 127 _ (sumI (padB 127 l0)) 1 W9.drew (by unfold I64; omega) (by omega) hcur2.drew (by omega)).mono ?_; rintro e w10 ⟨rfl, hV5⟩; obtain ⟨q0, _, _, q3, _⟩ := hV5.1.cells))
      have hfin := hV5.1.row
      rw [show numB true 1 (sumI (padB 127 l0)) = [sumI (padB 127 l0) % 256] from rfl, pad_lay _ (by omega)] at hfin
      have R : Hid (w10.ownsRow w.heap.size 5 1 (.slice (some ⟨G, 0, none⟩) 128 128) 128 (u8s (padB 127 l0 ++ [sumI (padB 127 l0) % 256]))) := owns_raise hfin hs3
      have RB : Hid (Below w.heap.size w w10) := hbel9.drew.trans (hV5.2.below hbel9.size (fun g e => by rcases e with e | e <;> omega))
      clear hV5 hfin hcur2 hbel9 hby
      go_wp2
      go_ret
      refine ⟨_, rfl, ?_, RB.out⟩
      rw [HLB.out]
      exact R.out
end Old
end Go.Proofs.Ytcmhobbpeaeebaa
