import Derived.Test.YtcmhobbpeaeebaaGBH
namespace Go.Proofs.Ytcmhobbpeaeebaa
namespace New
open Go.RowKit
set_option linter.unusedVariables false
set_option maxRecDepth 100000

set_option maxHeartbeats 3200000 in
theorem encNew_meta (tx id root count : Int) (hi : I64 id) (hr : I64 root) (hc : I64 count) (ka : Option Addr) (n kc : Nat) (ks : List PK) (ea : Option Addr) (m ec : Nat) (es : List PE) (next : Int) (data : ByteArray) (w : World) (A B : Nat) (hB : B ≤ w.heap.size) (hK : KidsAt w A B ka n kc ks) (hE : EntsAt w A B ea m ec es)
    (hcond : (decide (n = 0) && decide (m = 0) && decide (next = 0) && data.toList.isEmpty) = true) (htI : I64 tx) (htx : inB 1 2000000000 tx = true) (hval : (inB 1 2000000000 id && inB 2 999 root && inB 0 2000000000 count) = true) :
    Calls Try.prog 22 #[.agg #[.int .i64 1, .int .i64 tx, .int .i64 id, .int .i64 root, .int .i64 count, .slice ka n kc, .slice ea m ec, .int .i64 next, .string data]] w fun e w' => ∃ v, e = .returned v ∧ w'.ownsRow w.heap.size 5 1 v 128 (u8s (sealN tx (headN tx 1 0 (metaB false ⟨1, tx, id, root, count, ks, es, next, data⟩)))) ∧ Below w.heap.size w w' := by
  have hb0 : Below w.heap.size w (w.alloc (.cells #[.int .i64 1, .int .i64 tx, .int .i64 id, .int .i64 root, .int .i64 count, .slice ka n kc, .slice ea m ec, .int .i64 next, .string data] 28)) := (Below.refl _ _).alloc (Nat.le_refl _) _
  have HX0 : (w.alloc (.cells #[.int .i64 1, .int .i64 tx, .int .i64 id, .int .i64 root, .int .i64 count, .slice ka n kc, .slice ea m ec, .int .i64 next, .string data] 28)).heap[w.heap.size]? = _ := heap_alloc_new w _
  have hmv := fun a w => meth_meta_valid a w
  have hav := fun a w => ahead_meta_valid a w
  have hac := fun a w => ahead_meta_count a w
  have haw := fun a w => ahead_meta_write a w
  have hmc := fun a w => meth_meta_count a w
  have hmw := fun a w => meth_meta_write a w
  go_enter Try.func22, Try.ntmps22
  go_wp2_with fail
  generalize w.alloc (.cells #[.int .i64 1, .int .i64 tx, .int .i64 id, .int .i64 root, .int .i64 count, .slice ka n kc, .slice ea m ec, .int .i64 next, .string data] 28) = W0 at hb0 HX0 ⊢
  have HB := bodyOf_meta tx id root count ka n kc ks ea m ec es next data W0 A B (Nat.le_trans hB hb0.size) (hK.below (hb0.mono hB)) (hE.below (hb0.mono hB))
  rw [hcond] at HB
  refine HB.mono ?_
  rintro e w1 ⟨M, rfl, hMl, hM, hb1⟩
  have hb2 := hb0.trans (hb1.mono hb0.size)
  have HX1 := eb_call HX0 hb1
  have hMw : w.heap.size ≤ M := Nat.le_trans hb0.size hMl
  obtain ⟨c5, c6, c0, c2, c3, c4, c7, c8, c1⟩ := box_slice HX1
  clear HB hb1 hb0 HX0 hMl
  simp only [cond_true]
  go_wp2_with fail
  go_region_held3 (fun w' => w'.cell? ⟨w.heap.size, 1, none⟩ = some (.int .i64 tx)) (go_keep)
    (first
      | (go_at_call 121; have HV := metaValid_any M id root count 2 999 w2 hM2; rw [hval] at HV; refine HV.mono ?_; rintro e w3 ⟨rfl, hb5⟩; have hb6 := hb4.trans (hb5.mono hb4.size); have HX3 := eb_call HX2 hb5; have hM3 := eb_call hM2 hb5; obtain ⟨_, _, _, _, _, _, _, _, d1⟩ := box_slice HX3)
      | (go_at_call 61; refine (newPages_any w1.drew).mono ?_; rintro e w2 ⟨rfl, hb3⟩; have hb4 := hb2.drew.trans (hb3.mono hb2.size); have HX2 := eb_call (w' := w1.drew) HX1 hb3; have hM2 := eb_call (w' := w1.drew) hM hb3; obtain ⟨_, _, _, _, _, _, _, _, d1⟩ := box_slice HX2)
      | (go_at_call 60; have HI := isStamp_any tx w1.drew; rw [htx] at HI; refine HI.mono ?_; rintro e w1' ⟨rfl, rfl⟩))
  all_goals
    clear hb2 hb3 hb4 hb5 HX1 HX2 hM hM2 hmv hav c5 c6 c0 c2 c3 c4 c7 c8 c1
    obtain ⟨i0, hi0, hz0, hz1, hz2⟩ := info_parts info_u8
    have hs3 := hb6.size
    go_wp2_with (at_make; refine wpList_make_full _ rfl _ _ 22 rfl w.heap.size 5 i0 (.int .u8 0) 1 Try.underlying22 hi0 hz0 hz1 .i64 .i64 128 128 128 rfl rfl rfl rfl (by rw [hz2]; omega) (by unfold maxLen; omega) hs3 ?_; intro w4 hown hgr)
    rw [made128] at hown
    have hN3 : w.heap.size < w3.heap.size := (Array.getElem?_eq_some_iff.1 HX3).1
    have hb7 := hb6.grown hgr hs3 (by simp)
    have HX4 := (hgr.block _ hN3 (by simp)).trans HX3
    have hM3l := (Array.getElem?_eq_some_iff.1 hM3).1
    have hM4 := (hgr.block M hM3l (by simp)).trans hM3
    have hGl := (hown.lt w3.heap.size rfl).2
    have hMG : M ≠ w3.heap.size := by omega
    generalize w3.heap.size = G at hown hMG hN3 hs3 hGl ⊢
    clear hb6 HX3 hM3 hgr hz0 hz1 hz2 hi0 d1
    refine (newCursor_any G (List.replicate 128 0) (by simp) w4 (owns_base hown (Nat.zero_le _))).mono ?_
    rintro e w5 ⟨rfl, hC5, hb8⟩
    have hb9 := hb7.trans (hb8.mono hb7.size)
    have HX5 := eb_call HX4 hb8
    have hM5 := eb_call hM4 hb8
    have hM4l := (Array.getElem?_eq_some_iff.1 hM4).1
    have hMC : M ≠ w4.heap.size := by omega
    have hs4 := hb7.size
    have hNG : w.heap.size ≠ G := by omega
    have hNC : w.heap.size ≠ w4.heap.size := by have := (Array.getElem?_eq_some_iff.1 HX4).1; omega
    have hCG : G < w4.heap.size := hGl
    clear hb7 hb8 HX4 hM4
    generalize w4.heap.size = C at hC5 hMC hs4 hNC hCG ⊢
    obtain ⟨_, _, _, _, _, _, _, _, c1⟩ := box_slice HX5
    obtain ⟨_, _, _, e3, _⟩ := hC5.cells
    go_wp2_with fail
    go_region_held3 (fun w' => w'.cell? ⟨C, 3, none⟩ = some (.func (.func 79) #[.pointer (some ⟨C, 0, none⟩)] #[]) ∧ w'.cell? ⟨w.heap.size, 1, none⟩ = some (.int .i64 tx)) (go_keep)
      (first | (go_at_call 79; refine (Put C G 0 _ tx 4 w5.drew htI (by omega) hC5.drew (by omega)).mono ?_; rintro e w6 ⟨rfl, hV1⟩; have HX6 := wrote_box (w := w5.drew) hV1 HX5 hNC hNG; have hM6 := wrote_box (w := w5.drew) hV1 hM5 hMC hMG; obtain ⟨_, _, _, _, _, _, _, _, k1⟩ := box_slice HX6; obtain ⟨_, _, _, q3, _⟩ := hV1.1.cells))
    rw [show numB false 4 tx = leB 4 tx from rfl] at hV1
    have hW1 := Wrote.start hV1
    clear hV1 HX5 hM5 c1 e3
    have hlt : (leB 4 tx).length = 4 := leB_len 4 tx
    have hbt : ∀ y ∈ leB 4 tx, 0 ≤ y ∧ y ≤ 255 := leB_byte 4 tx
    have HLT : Hid (headN tx 1 0 (metaB false ⟨1, tx, id, root, count, ks, es, next, data⟩) = leB 4 tx ++ [1] ++ [0] ++ [0, 0] ++ metaB false ⟨1, tx, id, root, count, ks, es, next, data⟩) := rfl
    have HSL : Hid (∀ l : List Int, sealN tx l = padB 120 l ++ (leB 4 (crcOf (padB 120 l)) ++ leB 4 tx)) := fun l => by simp [sealN]
    generalize hT : leB 4 tx = T at hW1 hlt hbt HLT HSL
    have HT : Hid (leB 4 tx = T) := hT
    clear hT
    obtain ⟨_, _, c0, _⟩ := box_slice HX6
    obtain ⟨_, _, _, e3, _⟩ := hW1.1.cells
    go_wp2_with fail
    go_region_held3 (fun w' => w'.cell? ⟨C, 3, none⟩ = some (.func (.func 79) #[.pointer (some ⟨C, 0, none⟩)] #[]) ∧ w'.cell? ⟨w.heap.size, 0, none⟩ = some (.int .i64 1)) (go_keep)
      (first | (go_at_call 79; refine (Put C G (0 + T.length) _ 1 1 w6.drew (by unfold I64; omega) (by omega) hW1.1.drew (by simp [hlt])).mono ?_; rintro e w7 ⟨rfl, hV2⟩; have HX7 := wrote_box (w := w6.drew) hV2 HX6 hNC hNG; have hM7 := wrote_box (w := w6.drew) hV2 hM6 hMC hMG; obtain ⟨_, _, k0, _⟩ := box_slice HX7; obtain ⟨_, _, _, q3, _⟩ := hV2.1.cells))
    rw [numB_one _ _ (by omega)] at hV2
    have hW2 := Wrote.next hW1 (by simp) (by simp [hlt]) hV2
    obtain ⟨_, _, _, e3, _⟩ := hW2.1.cells
    clear hW1 hV2 HX6 hM6 c0
    go_wp2_with fail
    go_region_held3 (fun w' => w'.cell? ⟨C, 3, none⟩ = some (.func (.func 79) #[.pointer (some ⟨C, 0, none⟩)] #[])) (go_keep)
      (first
        | (go_at_call 118; refine (metaCount_any M w7.drew).mono ?_; rintro e w8 ⟨rfl, rfl⟩)
        | (go_at_call 79; refine (Put C G (0 + (T ++ [1]).length) _ 0 1 w7.drew (by unfold I64; omega) (by omega) hW2.1.drew (by simp [hlt])).mono ?_; rintro e w8 ⟨rfl, hV3⟩; have HX8 := wrote_box (w := w7.drew) hV3 HX7 hNC hNG; have hM8 := wrote_box (w := w7.drew) hV3 hM7 hMC hMG; obtain ⟨_, _, _, q3, _⟩ := hV3.1.cells))
    all_goals
      rw [numB_one _ _ (by omega)] at hV3
      have hW3 := Wrote.next hW2 (by simp) (by simp [hlt]) hV3
      obtain ⟨_, _, _, e3, _⟩ := hW3.1.cells
      clear hW2 hV3 HX7 hM7
      go_wp2_with fail
      refine (Put C G (0 + (T ++ [1] ++ [0]).length) _ 0 2 w8 (by unfold I64; omega) (by omega) hW3.1 (by simp [hlt])).mono ?_
      rintro e w8b ⟨rfl, hV3b⟩
      have HX8b := wrote_box hV3b HX8 hNC hNG
      have hM8b := wrote_box hV3b hM8 hMC hMG
      rw [num2_zero] at hV3b
      have hW3b := hW3.trans (by simp [hlt]) hV3b
      clear hW3 hV3b HX8 hM8 e3
      go_wp2_with fail
      refine (metaWrite_any C G (0 + (T ++ [1] ++ [0] ++ [0, 0]).length) M _ ⟨1, tx, id, root, count, ks, es, next, data⟩ hi hr hc w8b hW3b.1 (by simp [hlt]) hM8b hMC hMG).mono ?_
      rintro e w9 ⟨rfl, hV4⟩
      have HX9 := wrote_box hV4 HX8b hNC hNG
      have hW4 := hW3b.trans (by simp [hlt]) hV4
      have hlb : (metaB false ⟨1, tx, id, root, count, ks, es, next, data⟩).length ≤ 104 := by simp [metaB, leB_len]
      have hbb : ∀ x ∈ metaB false ⟨1, tx, id, root, count, ks, es, next, data⟩, 0 ≤ x ∧ x ≤ 255 := bytes_app (bytes_app (bytes_app (leB_byte _ _) (leB_byte _ _)) (leB_byte _ _)) (by intro x hx; simp at hx; omega)
      have hall : ∀ x ∈ T ++ [1] ++ [0] ++ [0, 0] ++ metaB false ⟨1, tx, id, root, count, ks, es, next, data⟩, 0 ≤ x ∧ x ≤ 255 := bytes_app (bytes_app (bytes_app (bytes_app hbt (by intro x hx; simp at hx; omega)) (by intro x hx; simp at hx; omega)) (by intro x hx; simp at hx; omega)) hbb
      have hll : (T ++ [1] ++ [0] ++ [0, 0] ++ metaB false ⟨1, tx, id, root, count, ks, es, next, data⟩).length ≤ 112 := by simp only [List.length_append, List.length_cons, List.length_nil, hlt]; omega
      have HW4 : Hid (Wrote w5 w9 C G false 79 80 0 (List.replicate 128 0) (T ++ [1] ++ [0] ++ [0, 0] ++ metaB false ⟨1, tx, id, root, count, ks, es, next, data⟩)) := hW4
      clear hW3b hW4 hV4 HX8b
      generalize T ++ [1] ++ [0] ++ [0, 0] ++ metaB false ⟨1, tx, id, root, count, ks, es, next, data⟩ = l0 at HW4 hall hll HLT
      obtain ⟨e0, e1, e2, e3, e4⟩ := HW4.out.1.cells
      have hfC : ∀ o, w9.frozen? ⟨C, o, none⟩ = false := by intro o; simp [World.frozen?, HW4.out.1.box]
      have hcur := HW4.out.1
      rw [lay_zero (by omega)] at hcur
      have hcur2 := hcur.move 120
      have HXC : (w9.setCell ⟨C, 1, none⟩ (.int .i64 120)).heap[w.heap.size]? = w9.heap[w.heap.size]? := Below.heap_setCell w9 ⟨C, 1, none⟩ _ w.heap.size hNC
      rw [HX9] at HXC
      have hbel9 : Below w.heap.size w (w9.setCell ⟨C, 1, none⟩ (.int .i64 120)) := (hb9.trans (HW4.out.2.below hb9.size (fun g e => by rcases e with e | e <;> omega))).setCell (by show w.heap.size ≤ C; omega) _
      clear hcur
      go_wp2_with fail
      generalize w9.setCell ⟨C, 1, none⟩ (.int .i64 120) = W9 at hcur2 hbel9 HXC ⊢
      obtain ⟨z0, z1, z2, z3, z4⟩ := hcur2.cells
      have hby := bytes120 hcur2.drew (padB_byte (n := 128) hall)
      rw [pad_take (by omega)] at hby
      have hcr := crcOf_range (padB 120 l0)
      have HQ : Hid (sealN tx l0 = padB 120 l0 ++ (leB 4 (crcOf (padB 120 l0)) ++ T)) := HSL.out l0
      generalize hcq : crcOf (padB 120 l0) = q at hcr HQ
      have hcw : IntKind.i64.wrap q = q := by rw [IntKind.wrap_i64]; omega
      have hci : I64 q := by unfold I64; omega
      clear e0 e1 e2 e3 e4 hfC HX9 HSL
      go_region_held3 (fun w' => w'.cell? ⟨C, 3, none⟩ = some (.func (.func 79) #[.pointer (some ⟨C, 0, none⟩)] #[]) ∧ w'.cell? ⟨C, 0, none⟩ = some (.slice (some ⟨G, 0, none⟩) 128 128)) (go_keep)
        (first
          | (go_at_call 62; have HQC := implCrc0 _ 120 128 (padB 120 l0) W9.drew _ _ hby; rw [hcq] at HQC; refine HQC.mono ?_; rintro e w10 ⟨rfl, rfl⟩)
          | (go_at_call 79; refine (Put C G 120 _ q 4 W9.drew hci (by omega) hcur2.drew (by omega)).mono ?_; rintro e w10 ⟨rfl, hV5⟩; obtain ⟨q0, _, _, q3, _⟩ := hV5.1.cells))
      all_goals
        have hW5 := Wrote.redraw hV5
        have HX10 := wrote_box hW5 HXC hNC hNG
        obtain ⟨_, _, _, _, _, _, _, _, c1⟩ := box_slice HX10
        obtain ⟨_, _, _, e3, _⟩ := hW5.1.cells
        clear hV5 hby HXC z0 z1 z2 z3 z4 hcur2
        rw [show numB false 4 q = leB 4 q from rfl] at hW5
        have hlq : (leB 4 q).length = 4 := leB_len 4 q
        have hlp : (padB 128 l0).length = 128 := padB_len (by omega)
        go_wp2_with fail
        go_region_held3 (fun w' => w'.cell? ⟨C, 3, none⟩ = some (.func (.func 79) #[.pointer (some ⟨C, 0, none⟩)] #[]) ∧ w'.cell? ⟨w.heap.size, 1, none⟩ = some (.int .i64 tx)) (go_keep)
          (first | (go_at_call 79; refine (Put C G (120 + (leB 4 q).length) _ tx 4 w10.drew htI (by omega) hW5.1.drew (by omega)).mono ?_; rintro e w11 ⟨rfl, hV6⟩; have HX11 := wrote_box (w := w10.drew) hV6 HX10 hNC hNG; obtain ⟨_, _, _, _, _, _, _, _, k1⟩ := box_slice HX11; obtain ⟨q0, _, _, q3, _⟩ := hV6.1.cells))
        have hW6 := Wrote.next hW5 hlp (by omega) hV6
        have hfin := hW6.1.row
        rw [pad_lay (by omega) (by rw [List.length_append, hlq, numB_len])] at hfin
        have R : Hid (w11.ownsRow w.heap.size 5 1 (.slice (some ⟨G, 0, none⟩) 128 128) 128 (u8s (padB 120 l0 ++ (leB 4 q ++ numB false 4 tx)))) := owns_raise hfin hs3
        have RB : Hid (Below w.heap.size w w11) := hbel9.trans (hW6.2.below hbel9.size (fun g e => by rcases e with e | e <;> omega))
        obtain ⟨e0, _⟩ := hW6.1.cells
        clear hW6 hV6 hW5 hfin hbel9 HX10 HX11
        go_wp2
        go_ret
        refine ⟨_, rfl, ?_, RB.out⟩
        rw [HLT.out, HQ.out, ← HT.out]
        exact R.out
end New
end Go.Proofs.Ytcmhobbpeaeebaa
