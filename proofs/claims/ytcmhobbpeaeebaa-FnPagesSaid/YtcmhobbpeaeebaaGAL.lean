import Derived.Test.YtcmhobbpeaeebaaGAH
import Derived.Test.YtcmhobbpeaeebaaGAK
namespace Go.Proofs.Ytcmhobbpeaeebaa
namespace New
open Go.RowKit
set_option linter.unusedVariables false
set_option maxRecDepth 100000

set_option maxHeartbeats 3200000 in
theorem encNew_leaf (tx id root count : Int) (ka : Option Addr) (n kc : Nat) (ks : List PK) (ea : Option Addr) (m ec : Nat) (es : List PE) (next : Int) (data : ByteArray) (w : World) (A B : Nat) (hB : B ≤ w.heap.size) (hK : KidsAt w A B ka n kc ks) (hE : EntsAt w A B ea m ec es)
    (hm4 : m ≤ 4) (hsz : ∀ i, i < m → (es.getD i dE).1.size ≤ 8 ∧ (es.getD i dE).2.1.size ≤ 8) (hcond : (decide (id = 0 ∧ root = 0 ∧ count = 0) && decide (n = 0) && decide (next = 0) && data.toList.isEmpty) = true) (htI : I64 tx) (htx : inB 1 2000000000 tx = true) (hval : (decide (m ≤ 4) && entsOk 2 999 es) = true) :
    Calls Try.prog 22 #[.agg #[.int .i64 3, .int .i64 tx, .int .i64 id, .int .i64 root, .int .i64 count, .slice ka n kc, .slice ea m ec, .int .i64 next, .string data]] w fun e w' => ∃ v, e = .returned v ∧ w'.ownsRow w.heap.size 5 1 v 128 (u8s (sealN tx (headN tx 3 (m : Int) (entsB false (smallN false) es m)))) ∧ Below w.heap.size w w' := by
  have hb0 : Below w.heap.size w (w.alloc (.cells #[.int .i64 3, .int .i64 tx, .int .i64 id, .int .i64 root, .int .i64 count, .slice ka n kc, .slice ea m ec, .int .i64 next, .string data] 28)) := (Below.refl _ _).alloc (Nat.le_refl _) _
  have HX0 : (w.alloc (.cells #[.int .i64 3, .int .i64 tx, .int .i64 id, .int .i64 root, .int .i64 count, .slice ka n kc, .slice ea m ec, .int .i64 next, .string data] 28)).heap[w.heap.size]? = _ := heap_alloc_new w _
  have hmv := fun a w => meth_leaf_valid a w
  have hav := fun a w => ahead_leaf_valid a w
  have hac := fun a w => ahead_leaf_count a w
  have haw := fun a w => ahead_leaf_write a w
  have hmc := fun a w => meth_leaf_count a w
  have hmw := fun a w => meth_leaf_write a w
  go_enter Try.func22, Try.ntmps22
  go_wp2_with fail
  generalize w.alloc (.cells #[.int .i64 3, .int .i64 tx, .int .i64 id, .int .i64 root, .int .i64 count, .slice ka n kc, .slice ea m ec, .int .i64 next, .string data] 28) = W0 at hb0 HX0 ⊢
  have HB := bodyOf_leaf tx id root count ka n kc ks ea m ec es next data W0 A B (Nat.le_trans hB hb0.size) (hK.below (hb0.mono hB)) (hE.below (hb0.mono hB))
  rw [hcond] at HB
  refine HB.mono ?_
  rintro e w1 ⟨M, rfl, hMl, hM, hb1⟩
  have hb2 := hb0.trans (hb1.mono hb0.size)
  have HX1 := eb_call HX0 hb1
  have hMw : w.heap.size ≤ M := Nat.le_trans hb0.size hMl
  obtain ⟨c5, c6, c0, c2, c3, c4, c7, c8, c1⟩ := box_slice HX1
  clear HB hb1 hb0 HX0 hMl
  simp only [cond_true]
  go_wp2_with fail
  go_region_held3 (fun w' => w'.cell? ⟨w.heap.size, 1, none⟩ = some (.int .i64 tx)) (go_keep)
    (first
      | (go_at_call 137; have HV := leafValid_any M ea m ec es 2 999 (by omega) w2 A B (Nat.le_trans hB hb4.size) (hE.below (hb4.mono hB)) hM2; rw [hval] at HV; refine HV.mono ?_; rintro e w3 ⟨rfl, hb5⟩; have hb6 := hb4.trans (hb5.mono hb4.size); have HX3 := eb_call HX2 hb5; have hM3 := eb_call hM2 hb5; obtain ⟨_, _, _, _, _, _, _, _, d1⟩ := box_slice HX3)
      | (go_at_call 61; refine (newPages_any w1.drew).mono ?_; rintro e w2 ⟨rfl, hb3⟩; have hb4 := hb2.drew.trans (hb3.mono hb2.size); have HX2 := eb_call (w' := w1.drew) HX1 hb3; have hM2 := eb_call (w' := w1.drew) hM hb3; obtain ⟨_, _, _, _, _, _, _, _, d1⟩ := box_slice HX2)
      | (go_at_call 60; have HI := isStamp_any tx w1.drew; rw [htx] at HI; refine HI.mono ?_; rintro e w1' ⟨rfl, rfl⟩))
  all_goals
    clear hb2 hb3 hb4 hb5 HX1 HX2 hM hM2 hmv hav c5 c6 c0 c2 c3 c4 c7 c8 c1
    obtain ⟨i0, hi0, hz0, hz1, hz2⟩ := info_parts info_u8
    have hs3 := hb6.size
    go_wp2_with (at_make; refine wpList_make_full _ rfl _ _ 22 rfl w.heap.size 5 i0 (.int .u8 0) 1 Try.underlying22 hi0 hz0 hz1 .i64 .i64 128 128 128 rfl rfl rfl rfl (by rw [hz2]; omega) (by unfold maxLen; omega) hs3 ?_; intro w4 hown hgr)
    rw [made128] at hown
    have hN3 : w.heap.size < w3.heap.size := (Array.getElem?_eq_some_iff.1 HX3).1
    have hb7 := hb6.grown hgr hs3 (by simp)
    have HX4 := (hgr.block _ hN3 (by simp)).trans HX3
    have hM3l := (Array.getElem?_eq_some_iff.1 hM3).1
    have hM4 := (hgr.block M hM3l (by simp)).trans hM3
    have hGl := (hown.lt w3.heap.size rfl).2
    have hMG : M ≠ w3.heap.size := by omega
    generalize w3.heap.size = G at hown hMG hN3 hs3 hGl ⊢
    clear hb6 HX3 hM3 hgr hz0 hz1 hz2 hi0 d1
    refine (newCursor_any G (List.replicate 128 0) (by simp) w4 (owns_base hown (Nat.zero_le _))).mono ?_
    rintro e w5 ⟨rfl, hC5, hb8⟩
    have hb9 := hb7.trans (hb8.mono hb7.size)
    have HX5 := eb_call HX4 hb8
    have hM5 := eb_call hM4 hb8
    have hM4l := (Array.getElem?_eq_some_iff.1 hM4).1
    have hMC : M ≠ w4.heap.size := by omega
    have hs4 := hb7.size
    have hNG : w.heap.size ≠ G := by omega
    have hNC : w.heap.size ≠ w4.heap.size := by have := (Array.getElem?_eq_some_iff.1 HX4).1; omega
    have hCG : G < w4.heap.size := hGl
    clear hb7 hb8 HX4 hM4
    generalize w4.heap.size = C at hC5 hMC hs4 hNC hCG ⊢
    obtain ⟨_, _, _, _, _, _, _, _, c1⟩ := box_slice HX5
    obtain ⟨_, _, _, e3, _⟩ := hC5.cells
    go_wp2_with fail
    go_region_held3 (fun w' => w'.cell? ⟨C, 3, none⟩ = some (.func (.func 79) #[.pointer (some ⟨C, 0, none⟩)] #[]) ∧ w'.cell? ⟨w.heap.size, 1, none⟩ = some (.int .i64 tx)) (go_keep)
      (first | (go_at_call 79; refine (Put C G 0 _ tx 4 w5.drew htI (by omega) hC5.drew (by omega)).mono ?_; rintro e w6 ⟨rfl, hV1⟩; have HX6 := wrote_box (w := w5.drew) hV1 HX5 hNC hNG; have hM6 := wrote_box (w := w5.drew) hV1 hM5 hMC hMG; obtain ⟨_, _, _, _, _, _, _, _, k1⟩ := box_slice HX6; obtain ⟨_, _, _, q3, _⟩ := hV1.1.cells))
    rw [show numB false 4 tx = leB 4 tx from rfl] at hV1
    have hW1 := Wrote.start hV1
    clear hV1 HX5 hM5 c1 e3
    have hlt : (leB 4 tx).length = 4 := leB_len 4 tx
    have hbt : ∀ y ∈ leB 4 tx, 0 ≤ y ∧ y ≤ 255 := leB_byte 4 tx
    have HLT : Hid (headN tx 3 (m : Int) (entsB false (smallN false) es m) = leB 4 tx ++ [3] ++ [(m : Int)] ++ [0, 0] ++ entsB false (smallN false) es m) := rfl
    have HSL : Hid (∀ l : List Int, sealN tx l = padB 120 l ++ (leB 4 (crcOf (padB 120 l)) ++ leB 4 tx)) := fun l => by simp [sealN]
    generalize hT : leB 4 tx = T at hW1 hlt hbt HLT HSL
    have HT : Hid (leB 4 tx = T) := hT
    clear hT
    obtain ⟨_, _, c0, _⟩ := box_slice HX6
    obtain ⟨_, _, _, e3, _⟩ := hW1.1.cells
    go_wp2_with fail
    go_region_held3 (fun w' => w'.cell? ⟨C, 3, none⟩ = some (.func (.func 79) #[.pointer (some ⟨C, 0, none⟩)] #[]) ∧ w'.cell? ⟨w.heap.size, 0, none⟩ = some (.int .i64 3)) (go_keep)
      (first | (go_at_call 79; refine (Put C G (0 + T.length) _ 3 1 w6.drew (by unfold I64; omega) (by omega) hW1.1.drew (by simp [hlt])).mono ?_; rintro e w7 ⟨rfl, hV2⟩; have HX7 := wrote_box (w := w6.drew) hV2 HX6 hNC hNG; have hM7 := wrote_box (w := w6.drew) hV2 hM6 hMC hMG; obtain ⟨_, _, k0, _⟩ := box_slice HX7; obtain ⟨_, _, _, q3, _⟩ := hV2.1.cells))
    rw [numB_one _ _ (by omega)] at hV2
    have hW2 := Wrote.next hW1 (by simp) (by simp [hlt]) hV2
    obtain ⟨_, _, _, e3, _⟩ := hW2.1.cells
    clear hW1 hV2 HX6 hM6 c0
    go_wp2_with fail
    go_region_held3 (fun w' => w'.cell? ⟨C, 3, none⟩ = some (.func (.func 79) #[.pointer (some ⟨C, 0, none⟩)] #[])) (go_keep)
      (first
        | (go_at_call 134; refine (leafCount_any M ea m ec w7.drew hM7).mono ?_; rintro e w8 ⟨rfl, rfl⟩)
        | (go_at_call 79; refine (Put C G (0 + (T ++ [3]).length) _ (m : Int) 1 w7.drew (by unfold I64; omega) (by omega) hW2.1.drew (by simp [hlt])).mono ?_; rintro e w8 ⟨rfl, hV3⟩; have HX8 := wrote_box (w := w7.drew) hV3 HX7 hNC hNG; have hM8 := wrote_box (w := w7.drew) hV3 hM7 hMC hMG; obtain ⟨_, _, _, q3, _⟩ := hV3.1.cells))
    all_goals
      rw [numB_one _ _ (by omega)] at hV3
      have hW3 := Wrote.next hW2 (by simp) (by simp [hlt]) hV3
      obtain ⟨_, _, _, e3, _⟩ := hW3.1.cells
      clear hW2 hV3 HX7 hM7
      go_wp2_with fail
      refine (Put C G (0 + (T ++ [3] ++ [(m : Int)]).length) _ 0 2 w8 (by unfold I64; omega) (by omega) hW3.1 (by simp [hlt])).mono ?_
      rintro e w8b ⟨rfl, hV3b⟩
      have HX8b := wrote_box hV3b HX8 hNC hNG
      have hM8b := wrote_box hV3b hM8 hMC hMG
      rw [num2_zero] at hV3b
      have hW3b := hW3.trans (by simp [hlt]) hV3b
      clear hW3 hV3b HX8 hM8 e3
      go_wp2_with fail
      have hb10 : Below w.heap.size w w8b := hb9.trans (hW3b.2.below hb9.size (fun g e => by rcases e with e | e <;> omega))
      have hZ3 : (lay (List.replicate 128 0) 0 (T ++ [3] ++ [(m : Int)] ++ [0, 0])).drop (0 + (T ++ [3] ++ [(m : Int)] ++ [0, 0]).length) = List.replicate (128 - (0 + (T ++ [3] ++ [(m : Int)] ++ [0, 0]).length)) 0 := by
        have := lay_drop (L := List.replicate 128 0) (k := 0) (m := 0) (bs := T ++ [3] ++ [(m : Int)] ++ [0, 0]) (by simp [hlt])
        simp only [Nat.add_zero] at this
        rw [this, List.drop_replicate]
      refine (leafWrite_any C G (0 + (T ++ [3] ++ [(m : Int)] ++ [0, 0]).length) M _ ea m ec es w8b A B hW3b.1 hZ3 (by simp [hlt]) hM8b hMC hMG (hE.below (hb10.mono hB)) (Nat.le_trans hB hb10.size) (by omega) (by omega) hm4 hsz).mono ?_
      rintro e w9 ⟨rfl, hV4⟩
      have HX9 := wrote_box hV4 HX8b hNC hNG
      have hW4 := hW3b.trans (by simp [hlt]) hV4
      have hlb : (entsB false (smallN false) es m).length ≤ 104 := by have := entsB_len' false es m hsz; omega
      have hbb : ∀ x ∈ entsB false (smallN false) es m, 0 ≤ x ∧ x ≤ 255 := entsB_byte false (smallN false) es m hsz
      have hall : ∀ x ∈ T ++ [3] ++ [(m : Int)] ++ [0, 0] ++ entsB false (smallN false) es m, 0 ≤ x ∧ x ≤ 255 := bytes_app (bytes_app (bytes_app (bytes_app hbt (by intro x hx; simp at hx; omega)) (by intro x hx; simp at hx; omega)) (by intro x hx; simp at hx; omega)) hbb
      have hll : (T ++ [3] ++ [(m : Int)] ++ [0, 0] ++ entsB false (smallN false) es m).length ≤ 112 := by simp only [List.length_append, List.length_cons, List.length_nil, hlt]; omega
      have HW4 : Hid (Wrote w5 w9 C G false 79 80 0 (List.replicate 128 0) (T ++ [3] ++ [(m : Int)] ++ [0, 0] ++ entsB false (smallN false) es m)) := hW4
      clear hW3b hW4 hV4 HX8b
      generalize T ++ [3] ++ [(m : Int)] ++ [0, 0] ++ entsB false (smallN false) es m = l0 at HW4 hall hll HLT
      obtain ⟨e0, e1, e2, e3, e4⟩ := HW4.out.1.cells
      have hfC : ∀ o, w9.frozen? ⟨C, o, none⟩ = false := by intro o; simp [World.frozen?, HW4.out.1.box]
      have hcur := HW4.out.1
      rw [lay_zero (by omega)] at hcur
      have hcur2 := hcur.move 120
      have HXC : (w9.setCell ⟨C, 1, none⟩ (.int .i64 120)).heap[w.heap.size]? = w9.heap[w.heap.size]? := Below.heap_setCell w9 ⟨C, 1, none⟩ _ w.heap.size hNC
      rw [HX9] at HXC
      have hbel9 : Below w.heap.size w (w9.setCell ⟨C, 1, none⟩ (.int .i64 120)) := (hb9.trans (HW4.out.2.below hb9.size (fun g e => by rcases e with e | e <;> omega))).setCell (by show w.heap.size ≤ C; omega) _
      clear hcur
      go_wp2_with fail
      generalize w9.setCell ⟨C, 1, none⟩ (.int .i64 120) = W9 at hcur2 hbel9 HXC ⊢
      obtain ⟨z0, z1, z2, z3, z4⟩ := hcur2.cells
      have hby := bytes120 hcur2.drew (padB_byte (n := 128) hall)
      rw [pad_take (by omega)] at hby
      have hcr := crcOf_range (padB 120 l0)
      have HQ : Hid (sealN tx l0 = padB 120 l0 ++ (leB 4 (crcOf (padB 120 l0)) ++ T)) := HSL.out l0
      generalize hcq : crcOf (padB 120 l0) = q at hcr HQ
      have hcw : IntKind.i64.wrap q = q := by rw [IntKind.wrap_i64]; omega
      have hci : I64 q := by unfold I64; omega
      clear e0 e1 e2 e3 e4 hfC HX9 HSL
      go_region_held3 (fun w' => w'.cell? ⟨C, 3, none⟩ = some (.func (.func 79) #[.pointer (some ⟨C, 0, none⟩)] #[]) ∧ w'.cell? ⟨C, 0, none⟩ = some (.slice (some ⟨G, 0, none⟩) 128 128)) (go_keep)
        (first
          | (go_at_call 62; have HQC := implCrc0 _ 120 128 (padB 120 l0) W9.drew _ _ hby; rw [hcq] at HQC; refine HQC.mono ?_; rintro e w10 ⟨rfl, rfl⟩)
          | (go_at_call 79; refine (Put C G 120 _ q 4 W9.drew hci (by omega) hcur2.drew (by omega)).mono ?_; rintro e w10 ⟨rfl, hV5⟩; obtain ⟨q0, _, _, q3, _⟩ := hV5.1.cells))
      all_goals
        have hW5 := Wrote.redraw hV5
        have HX10 := wrote_box hW5 HXC hNC hNG
        obtain ⟨_, _, _, _, _, _, _, _, c1⟩ := box_slice HX10
        obtain ⟨_, _, _, e3, _⟩ := hW5.1.cells
        clear hV5 hby HXC z0 z1 z2 z3 z4 hcur2
        rw [show numB false 4 q = leB 4 q from rfl] at hW5
        have hlq : (leB 4 q).length = 4 := leB_len 4 q
        have hlp : (padB 128 l0).length = 128 := padB_len (by omega)
        go_wp2_with fail
        go_region_held3 (fun w' => w'.cell? ⟨C, 3, none⟩ = some (.func (.func 79) #[.pointer (some ⟨C, 0, none⟩)] #[]) ∧ w'.cell? ⟨w.heap.size, 1, none⟩ = some (.int .i64 tx)) (go_keep)
          (first | (go_at_call 79; refine (Put C G (120 + (leB 4 q).length) _ tx 4 w10.drew htI (by omega) hW5.1.drew (by omega)).mono ?_; rintro e w11 ⟨rfl, hV6⟩; have HX11 := wrote_box (w := w10.drew) hV6 HX10 hNC hNG; obtain ⟨_, _, _, _, _, _, _, _, k1⟩ := box_slice HX11; obtain ⟨q0, _, _, q3, _⟩ := hV6.1.cells))
        have hW6 := Wrote.next hW5 hlp (by omega) hV6
        have hfin := hW6.1.row
        rw [pad_lay (by omega) (by rw [List.length_append, hlq, numB_len])] at hfin
        have R : Hid (w11.ownsRow w.heap.size 5 1 (.slice (some ⟨G, 0, none⟩) 128 128) 128 (u8s (padB 120 l0 ++ (leB 4 q ++ numB false 4 tx)))) := owns_raise hfin hs3
        have RB : Hid (Below w.heap.size w w11) := hbel9.trans (hW6.2.below hbel9.size (fun g e => by rcases e with e | e <;> omega))
        obtain ⟨e0, _⟩ := hW6.1.cells
        clear hW6 hV6 hW5 hfin hbel9 HX10 HX11
        go_wp2
        go_ret
        refine ⟨_, rfl, ?_, RB.out⟩
        rw [HLT.out, HQ.out, ← HT.out]
        exact R.out
end New
end Go.Proofs.Ytcmhobbpeaeebaa
namespace Go.Proofs.Ytcmhobbpeaeebaa
namespace New
open Go.RowKit
set_option linter.unusedVariables false
set_option maxRecDepth 100000

set_option maxHeartbeats 3200000 in
theorem encNew_over (tx id root count : Int) (ka : Option Addr) (n kc : Nat) (ks : List PK) (ea : Option Addr) (m ec : Nat) (es : List PE) (next : Int) (data : ByteArray) (w : World) (A B : Nat) (hB : B ≤ w.heap.size) (hK : KidsAt w A B ka n kc ks) (hE : EntsAt w A B ea m ec es)
    (hnx : I64 next) (hd96 : data.size ≤ 96) (hcond : (decide (id = 0 ∧ root = 0 ∧ count = 0) && decide (n = 0) && decide (m = 0)) = true) (htI : I64 tx) (htx : inB 1 2000000000 tx = true) (hval : (decide (1 ≤ data.size) && decide (data.size ≤ 96) && (decide (next = 0) || (inB 2 999 next && decide (data.size = 96)))) = true) :
    Calls Try.prog 22 #[.agg #[.int .i64 4, .int .i64 tx, .int .i64 id, .int .i64 root, .int .i64 count, .slice ka n kc, .slice ea m ec, .int .i64 next, .string data]] w fun e w' => ∃ v, e = .returned v ∧ w'.ownsRow w.heap.size 5 1 v 128 (u8s (sealN tx (headN tx 4 0 ((numB false (smallN false) next ++ textB data))))) ∧ Below w.heap.size w w' := by
  have hb0 : Below w.heap.size w (w.alloc (.cells #[.int .i64 4, .int .i64 tx, .int .i64 id, .int .i64 root, .int .i64 count, .slice ka n kc, .slice ea m ec, .int .i64 next, .string data] 28)) := (Below.refl _ _).alloc (Nat.le_refl _) _
  have HX0 : (w.alloc (.cells #[.int .i64 4, .int .i64 tx, .int .i64 id, .int .i64 root, .int .i64 count, .slice ka n kc, .slice ea m ec, .int .i64 next, .string data] 28)).heap[w.heap.size]? = _ := heap_alloc_new w _
  have hmv := fun a w => meth_over_valid a w
  have hav := fun a w => ahead_over_valid a w
  have hac := fun a w => ahead_over_count a w
  have haw := fun a w => ahead_over_write a w
  have hmc := fun a w => meth_over_count a w
  have hmw := fun a w => meth_over_write a w
  go_enter Try.func22, Try.ntmps22
  go_wp2_with fail
  generalize w.alloc (.cells #[.int .i64 4, .int .i64 tx, .int .i64 id, .int .i64 root, .int .i64 count, .slice ka n kc, .slice ea m ec, .int .i64 next, .string data] 28) = W0 at hb0 HX0 ⊢
  have HB := bodyOf_over tx id root count ka n kc ks ea m ec es next data W0 A B (Nat.le_trans hB hb0.size) (hK.below (hb0.mono hB)) (hE.below (hb0.mono hB))
  rw [hcond] at HB
  refine HB.mono ?_
  rintro e w1 ⟨M, rfl, hMl, hM, hb1⟩
  have hb2 := hb0.trans (hb1.mono hb0.size)
  have HX1 := eb_call HX0 hb1
  have hMw : w.heap.size ≤ M := Nat.le_trans hb0.size hMl
  obtain ⟨c5, c6, c0, c2, c3, c4, c7, c8, c1⟩ := box_slice HX1
  clear HB hb1 hb0 HX0 hMl
  simp only [cond_true]
  go_wp2_with fail
  go_region_held3 (fun w' => w'.cell? ⟨w.heap.size, 1, none⟩ = some (.int .i64 tx)) (go_keep)
    (first
      | (go_at_call 144; have HV := overValid_any M next data (by unfold maxLen; omega) 2 999 w2 hM2; rw [hval] at HV; refine HV.mono ?_; rintro e w3 ⟨rfl, hb5⟩; have hb6 := hb4.trans (hb5.mono hb4.size); have HX3 := eb_call HX2 hb5; have hM3 := eb_call hM2 hb5; obtain ⟨_, _, _, _, _, _, _, _, d1⟩ := box_slice HX3)
      | (go_at_call 61; refine (newPages_any w1.drew).mono ?_; rintro e w2 ⟨rfl, hb3⟩; have hb4 := hb2.drew.trans (hb3.mono hb2.size); have HX2 := eb_call (w' := w1.drew) HX1 hb3; have hM2 := eb_call (w' := w1.drew) hM hb3; obtain ⟨_, _, _, _, _, _, _, _, d1⟩ := box_slice HX2)
      | (go_at_call 60; have HI := isStamp_any tx w1.drew; rw [htx] at HI; refine HI.mono ?_; rintro e w1' ⟨rfl, rfl⟩))
  all_goals
    clear hb2 hb3 hb4 hb5 HX1 HX2 hM hM2 hmv hav c5 c6 c0 c2 c3 c4 c7 c8 c1
    obtain ⟨i0, hi0, hz0, hz1, hz2⟩ := info_parts info_u8
    have hs3 := hb6.size
    go_wp2_with (at_make; refine wpList_make_full _ rfl _ _ 22 rfl w.heap.size 5 i0 (.int .u8 0) 1 Try.underlying22 hi0 hz0 hz1 .i64 .i64 128 128 128 rfl rfl rfl rfl (by rw [hz2]; omega) (by unfold maxLen; omega) hs3 ?_; intro w4 hown hgr)
    rw [made128] at hown
    have hN3 : w.heap.size < w3.heap.size := (Array.getElem?_eq_some_iff.1 HX3).1
    have hb7 := hb6.grown hgr hs3 (by simp)
    have HX4 := (hgr.block _ hN3 (by simp)).trans HX3
    have hM3l := (Array.getElem?_eq_some_iff.1 hM3).1
    have hM4 := (hgr.block M hM3l (by simp)).trans hM3
    have hGl := (hown.lt w3.heap.size rfl).2
    have hMG : M ≠ w3.heap.size := by omega
    generalize w3.heap.size = G at hown hMG hN3 hs3 hGl ⊢
    clear hb6 HX3 hM3 hgr hz0 hz1 hz2 hi0 d1
    refine (newCursor_any G (List.replicate 128 0) (by simp) w4 (owns_base hown (Nat.zero_le _))).mono ?_
    rintro e w5 ⟨rfl, hC5, hb8⟩
    have hb9 := hb7.trans (hb8.mono hb7.size)
    have HX5 := eb_call HX4 hb8
    have hM5 := eb_call hM4 hb8
    have hM4l := (Array.getElem?_eq_some_iff.1 hM4).1
    have hMC : M ≠ w4.heap.size := by omega
    have hs4 := hb7.size
    have hNG : w.heap.size ≠ G := by omega
    have hNC : w.heap.size ≠ w4.heap.size := by have := (Array.getElem?_eq_some_iff.1 HX4).1; omega
    have hCG : G < w4.heap.size := hGl
    clear hb7 hb8 HX4 hM4
    generalize w4.heap.size = C at hC5 hMC hs4 hNC hCG ⊢
    obtain ⟨_, _, _, _, _, _, _, _, c1⟩ := box_slice HX5
    obtain ⟨_, _, _, e3, _⟩ := hC5.cells
    go_wp2_with fail
    go_region_held3 (fun w' => w'.cell? ⟨C, 3, none⟩ = some (.func (.func 79) #[.pointer (some ⟨C, 0, none⟩)] #[]) ∧ w'.cell? ⟨w.heap.size, 1, none⟩ = some (.int .i64 tx)) (go_keep)
      (first | (go_at_call 79; refine (Put C G 0 _ tx 4 w5.drew htI (by omega) hC5.drew (by omega)).mono ?_; rintro e w6 ⟨rfl, hV1⟩; have HX6 := wrote_box (w := w5.drew) hV1 HX5 hNC hNG; have hM6 := wrote_box (w := w5.drew) hV1 hM5 hMC hMG; obtain ⟨_, _, _, _, _, _, _, _, k1⟩ := box_slice HX6; obtain ⟨_, _, _, q3, _⟩ := hV1.1.cells))
    rw [show numB false 4 tx = leB 4 tx from rfl] at hV1
    have hW1 := Wrote.start hV1
    clear hV1 HX5 hM5 c1 e3
    have hlt : (leB 4 tx).length = 4 := leB_len 4 tx
    have hbt : ∀ y ∈ leB 4 tx, 0 ≤ y ∧ y ≤ 255 := leB_byte 4 tx
    have HLT : Hid (headN tx 4 0 ((numB false (smallN false) next ++ textB data)) = leB 4 tx ++ [4] ++ [0] ++ [0, 0] ++ (numB false (smallN false) next ++ textB data)) := rfl
    have HSL : Hid (∀ l : List Int, sealN tx l = padB 120 l ++ (leB 4 (crcOf (padB 120 l)) ++ leB 4 tx)) := fun l => by simp [sealN]
    generalize hT : leB 4 tx = T at hW1 hlt hbt HLT HSL
    have HT : Hid (leB 4 tx = T) := hT
    clear hT
    obtain ⟨_, _, c0, _⟩ := box_slice HX6
    obtain ⟨_, _, _, e3, _⟩ := hW1.1.cells
    go_wp2_with fail
    go_region_held3 (fun w' => w'.cell? ⟨C, 3, none⟩ = some (.func (.func 79) #[.pointer (some ⟨C, 0, none⟩)] #[]) ∧ w'.cell? ⟨w.heap.size, 0, none⟩ = some (.int .i64 4)) (go_keep)
      (first | (go_at_call 79; refine (Put C G (0 + T.length) _ 4 1 w6.drew (by unfold I64; omega) (by omega) hW1.1.drew (by simp [hlt])).mono ?_; rintro e w7 ⟨rfl, hV2⟩; have HX7 := wrote_box (w := w6.drew) hV2 HX6 hNC hNG; have hM7 := wrote_box (w := w6.drew) hV2 hM6 hMC hMG; obtain ⟨_, _, k0, _⟩ := box_slice HX7; obtain ⟨_, _, _, q3, _⟩ := hV2.1.cells))
    rw [numB_one _ _ (by omega)] at hV2
    have hW2 := Wrote.next hW1 (by simp) (by simp [hlt]) hV2
    obtain ⟨_, _, _, e3, _⟩ := hW2.1.cells
    clear hW1 hV2 HX6 hM6 c0
    go_wp2_with fail
    go_region_held3 (fun w' => w'.cell? ⟨C, 3, none⟩ = some (.func (.func 79) #[.pointer (some ⟨C, 0, none⟩)] #[])) (go_keep)
      (first
        | (go_at_call 141; refine (overCount_any M w7.drew).mono ?_; rintro e w8 ⟨rfl, rfl⟩)
        | (go_at_call 79; refine (Put C G (0 + (T ++ [4]).length) _ 0 1 w7.drew (by unfold I64; omega) (by omega) hW2.1.drew (by simp [hlt])).mono ?_; rintro e w8 ⟨rfl, hV3⟩; have HX8 := wrote_box (w := w7.drew) hV3 HX7 hNC hNG; have hM8 := wrote_box (w := w7.drew) hV3 hM7 hMC hMG; obtain ⟨_, _, _, q3, _⟩ := hV3.1.cells))
    all_goals
      rw [numB_one _ _ (by omega)] at hV3
      have hW3 := Wrote.next hW2 (by simp) (by simp [hlt]) hV3
      obtain ⟨_, _, _, e3, _⟩ := hW3.1.cells
      clear hW2 hV3 HX7 hM7
      go_wp2_with fail
      refine (Put C G (0 + (T ++ [4] ++ [0]).length) _ 0 2 w8 (by unfold I64; omega) (by omega) hW3.1 (by simp [hlt])).mono ?_
      rintro e w8b ⟨rfl, hV3b⟩
      have HX8b := wrote_box hV3b HX8 hNC hNG
      have hM8b := wrote_box hV3b hM8 hMC hMG
      rw [num2_zero] at hV3b
      have hW3b := hW3.trans (by simp [hlt]) hV3b
      clear hW3 hV3b HX8 hM8 e3
      go_wp2_with fail
      refine (overWrite_any C G (0 + (T ++ [4] ++ [0] ++ [0, 0]).length) M _ next data hnx hd96 w8b hW3b.1 (by simp [hlt]) hM8b hMC hMG).mono ?_
      rintro e w9 ⟨rfl, hV4⟩
      have HX9 := wrote_box hV4 HX8b hNC hNG
      have hW4 := hW3b.trans (by simp [hlt]) hV4
      have hlb : ((numB false (smallN false) next ++ textB data)).length ≤ 104 := by have := numB_small false next; rw [List.length_append, textB_len]; omega
      have hbb : ∀ x ∈ (numB false (smallN false) next ++ textB data), 0 ≤ x ∧ x ≤ 255 := bytes_app (numB_byte _ _ _) (textB_byte (by omega))
      have hall : ∀ x ∈ T ++ [4] ++ [0] ++ [0, 0] ++ (numB false (smallN false) next ++ textB data), 0 ≤ x ∧ x ≤ 255 := bytes_app (bytes_app (bytes_app (bytes_app hbt (by intro x hx; simp at hx; omega)) (by intro x hx; simp at hx; omega)) (by intro x hx; simp at hx; omega)) hbb
      have hll : (T ++ [4] ++ [0] ++ [0, 0] ++ (numB false (smallN false) next ++ textB data)).length ≤ 112 := by simp only [List.length_append, List.length_cons, List.length_nil, hlt] at hlb ⊢; omega
      have HW4 : Hid (Wrote w5 w9 C G false 79 80 0 (List.replicate 128 0) (T ++ [4] ++ [0] ++ [0, 0] ++ (numB false (smallN false) next ++ textB data))) := hW4
      clear hW3b hW4 hV4 HX8b
      generalize T ++ [4] ++ [0] ++ [0, 0] ++ (numB false (smallN false) next ++ textB data) = l0 at HW4 hall hll HLT
      obtain ⟨e0, e1, e2, e3, e4⟩ := HW4.out.1.cells
      have hfC : ∀ o, w9.frozen? ⟨C, o, none⟩ = false := by intro o; simp [World.frozen?, HW4.out.1.box]
      have hcur := HW4.out.1
      rw [lay_zero (by omega)] at hcur
      have hcur2 := hcur.move 120
      have HXC : (w9.setCell ⟨C, 1, none⟩ (.int .i64 120)).heap[w.heap.size]? = w9.heap[w.heap.size]? := Below.heap_setCell w9 ⟨C, 1, none⟩ _ w.heap.size hNC
      rw [HX9] at HXC
      have hbel9 : Below w.heap.size w (w9.setCell ⟨C, 1, none⟩ (.int .i64 120)) := (hb9.trans (HW4.out.2.below hb9.size (fun g e => by rcases e with e | e <;> omega))).setCell (by show w.heap.size ≤ C; omega) _
      clear hcur
      go_wp2_with fail
      generalize w9.setCell ⟨C, 1, none⟩ (.int .i64 120) = W9 at hcur2 hbel9 HXC ⊢
      obtain ⟨z0, z1, z2, z3, z4⟩ := hcur2.cells
      have hby := bytes120 hcur2.drew (padB_byte (n := 128) hall)
      rw [pad_take (by omega)] at hby
      have hcr := crcOf_range (padB 120 l0)
      have HQ : Hid (sealN tx l0 = padB 120 l0 ++ (leB 4 (crcOf (padB 120 l0)) ++ T)) := HSL.out l0
      generalize hcq : crcOf (padB 120 l0) = q at hcr HQ
      have hcw : IntKind.i64.wrap q = q := by rw [IntKind.wrap_i64]; omega
      have hci : I64 q := by unfold I64; omega
      clear e0 e1 e2 e3 e4 hfC HX9 HSL
      go_region_held3 (fun w' => w'.cell? ⟨C, 3, none⟩ = some (.func (.func 79) #[.pointer (some ⟨C, 0, none⟩)] #[]) ∧ w'.cell? ⟨C, 0, none⟩ = some (.slice (some ⟨G, 0, none⟩) 128 128)) (go_keep)
        (first
          | (go_at_call 62; have HQC := implCrc0 _ 120 128 (padB 120 l0) W9.drew _ _ hby; rw [hcq] at HQC; refine HQC.mono ?_; rintro e w10 ⟨rfl, rfl⟩)
          | (go_at_call 79; refine (Put C G 120 _ q 4 W9.drew hci (by omega) hcur2.drew (by omega)).mono ?_; rintro e w10 ⟨rfl, hV5⟩; obtain ⟨q0, _, _, q3, _⟩ := hV5.1.cells))
      all_goals
        have hW5 := Wrote.redraw hV5
        have HX10 := wrote_box hW5 HXC hNC hNG
        obtain ⟨_, _, _, _, _, _, _, _, c1⟩ := box_slice HX10
        obtain ⟨_, _, _, e3, _⟩ := hW5.1.cells
        clear hV5 hby HXC z0 z1 z2 z3 z4 hcur2
        rw [show numB false 4 q = leB 4 q from rfl] at hW5
        have hlq : (leB 4 q).length = 4 := leB_len 4 q
        have hlp : (padB 128 l0).length = 128 := padB_len (by omega)
        go_wp2_with fail
        go_region_held3 (fun w' => w'.cell? ⟨C, 3, none⟩ = some (.func (.func 79) #[.pointer (some ⟨C, 0, none⟩)] #[]) ∧ w'.cell? ⟨w.heap.size, 1, none⟩ = some (.int .i64 tx)) (go_keep)
          (first | (go_at_call 79; refine (Put C G (120 + (leB 4 q).length) _ tx 4 w10.drew htI (by omega) hW5.1.drew (by omega)).mono ?_; rintro e w11 ⟨rfl, hV6⟩; have HX11 := wrote_box (w := w10.drew) hV6 HX10 hNC hNG; obtain ⟨_, _, _, _, _, _, _, _, k1⟩ := box_slice HX11; obtain ⟨q0, _, _, q3, _⟩ := hV6.1.cells))
        have hW6 := Wrote.next hW5 hlp (by omega) hV6
        have hfin := hW6.1.row
        rw [pad_lay (by omega) (by rw [List.length_append, hlq, numB_len])] at hfin
        have R : Hid (w11.ownsRow w.heap.size 5 1 (.slice (some ⟨G, 0, none⟩) 128 128) 128 (u8s (padB 120 l0 ++ (leB 4 q ++ numB false 4 tx)))) := owns_raise hfin hs3
        have RB : Hid (Below w.heap.size w w11) := hbel9.trans (hW6.2.below hbel9.size (fun g e => by rcases e with e | e <;> omega))
        obtain ⟨e0, _⟩ := hW6.1.cells
        clear hW6 hV6 hW5 hfin hbel9 HX10 HX11
        go_wp2
        go_ret
        refine ⟨_, rfl, ?_, RB.out⟩
        rw [HLT.out, HQ.out, ← HT.out]
        exact R.out
end New
end Go.Proofs.Ytcmhobbpeaeebaa
namespace Go.Proofs.Ytcmhobbpeaeebaa
namespace New
open Go.RowKit
set_option linter.unusedVariables false
set_option maxRecDepth 100000

set_option maxHeartbeats 3200000 in
theorem encBad_meta (tx id root count : Int) (ka : Option Addr) (n kc : Nat) (ks : List PK) (ea : Option Addr) (m ec : Nat) (es : List PE) (next : Int) (data : ByteArray) (w : World) (A B : Nat) (hB : B ≤ w.heap.size) (hK : KidsAt w A B ka n kc ks) (hE : EntsAt w A B ea m ec es)
    (hcond : (decide (n = 0) && decide (m = 0) && decide (next = 0) && data.toList.isEmpty) = true) (htx : inB 1 2000000000 tx = true) (hval : (inB 1 2000000000 id && inB 2 999 root && inB 0 2000000000 count) = false) :
    Calls Try.prog 22 #[.agg #[.int .i64 1, .int .i64 tx, .int .i64 id, .int .i64 root, .int .i64 count, .slice ka n kc, .slice ea m ec, .int .i64 next, .string data]] w fun e w' => e = .returned (.slice none 0 0) ∧ Below w.heap.size w w' := by
  have hb0 : Below w.heap.size w (w.alloc (.cells #[.int .i64 1, .int .i64 tx, .int .i64 id, .int .i64 root, .int .i64 count, .slice ka n kc, .slice ea m ec, .int .i64 next, .string data] 28)) := (Below.refl _ _).alloc (Nat.le_refl _) _
  have HX0 : (w.alloc (.cells #[.int .i64 1, .int .i64 tx, .int .i64 id, .int .i64 root, .int .i64 count, .slice ka n kc, .slice ea m ec, .int .i64 next, .string data] 28)).heap[w.heap.size]? = _ := heap_alloc_new w _
  have hmv := fun a w => meth_meta_valid a w
  have hav := fun a w => ahead_meta_valid a w
  have hac := fun a w => ahead_meta_count a w
  have haw := fun a w => ahead_meta_write a w
  have hmc := fun a w => meth_meta_count a w
  have hmw := fun a w => meth_meta_write a w
  go_enter Try.func22, Try.ntmps22
  go_wp2_with fail
  generalize w.alloc (.cells #[.int .i64 1, .int .i64 tx, .int .i64 id, .int .i64 root, .int .i64 count, .slice ka n kc, .slice ea m ec, .int .i64 next, .string data] 28) = W0 at hb0 HX0 ⊢
  have HB := bodyOf_meta tx id root count ka n kc ks ea m ec es next data W0 A B (Nat.le_trans hB hb0.size) (hK.below (hb0.mono hB)) (hE.below (hb0.mono hB))
  rw [hcond] at HB
  refine HB.mono ?_
  rintro e w1 ⟨M, rfl, hMl, hM, hb1⟩
  have hb2 := hb0.trans (hb1.mono hb0.size)
  have HX1 := eb_call HX0 hb1
  have hMw : w.heap.size ≤ M := Nat.le_trans hb0.size hMl
  obtain ⟨c5, c6, c0, c2, c3, c4, c7, c8, c1⟩ := box_slice HX1
  clear HB hb1 hb0 HX0 hMl
  simp only [cond_true]
  go_wp2_with fail
  go_region_held3 (fun w' => w'.cell? ⟨w.heap.size, 1, none⟩ = some (.int .i64 tx)) (go_keep)
    (first
      | (go_at_call 121; have HV := metaValid_any M id root count 2 999 w2 hM2; rw [hval] at HV; refine HV.mono ?_; rintro e w3 ⟨rfl, hb5⟩; have hb6 := hb4.trans (hb5.mono hb4.size); have HX3 := eb_call HX2 hb5; have hM3 := eb_call hM2 hb5; obtain ⟨_, _, _, _, _, _, _, _, d1⟩ := box_slice HX3)
      | (go_at_call 61; refine (newPages_any w1.drew).mono ?_; rintro e w2 ⟨rfl, hb3⟩; have hb4 := hb2.drew.trans (hb3.mono hb2.size); have HX2 := eb_call (w' := w1.drew) HX1 hb3; have hM2 := eb_call (w' := w1.drew) hM hb3; obtain ⟨_, _, _, _, _, _, _, _, d1⟩ := box_slice HX2)
      | (go_at_call 60; have HI := isStamp_any tx w1.drew; rw [htx] at HI; refine HI.mono ?_; rintro e w1' ⟨rfl, rfl⟩))
  all_goals
    clear hb2 hb3 hb4 hb5 HX1 HX2 hM hM2 hmv hav c5 c6 c0 c2 c3 c4 c7 c8 c1
    go_wp2
    go_ret
    exact ⟨rfl, hb6⟩
set_option maxHeartbeats 3200000 in
theorem encBad_branch (tx id root count : Int) (ka : Option Addr) (n kc : Nat) (ks : List PK) (ea : Option Addr) (m ec : Nat) (es : List PE) (next : Int) (data : ByteArray) (w : World) (A B : Nat) (hB : B ≤ w.heap.size) (hK : KidsAt w A B ka n kc ks) (hE : EntsAt w A B ea m ec es)
    (hcond : (decide (id = 0 ∧ root = 0 ∧ count = 0) && decide (m = 0) && decide (next = 0) && data.toList.isEmpty) = true) (htx : inB 1 2000000000 tx = true) (hval : (decide (2 ≤ n) && decide (n ≤ 4) && (ks.getD 0 dK).1.toList.isEmpty && kidsOk 2 999 ks) = false) :
    Calls Try.prog 22 #[.agg #[.int .i64 2, .int .i64 tx, .int .i64 id, .int .i64 root, .int .i64 count, .slice ka n kc, .slice ea m ec, .int .i64 next, .string data]] w fun e w' => e = .returned (.slice none 0 0) ∧ Below w.heap.size w w' := by
  have hb0 : Below w.heap.size w (w.alloc (.cells #[.int .i64 2, .int .i64 tx, .int .i64 id, .int .i64 root, .int .i64 count, .slice ka n kc, .slice ea m ec, .int .i64 next, .string data] 28)) := (Below.refl _ _).alloc (Nat.le_refl _) _
  have HX0 : (w.alloc (.cells #[.int .i64 2, .int .i64 tx, .int .i64 id, .int .i64 root, .int .i64 count, .slice ka n kc, .slice ea m ec, .int .i64 next, .string data] 28)).heap[w.heap.size]? = _ := heap_alloc_new w _
  have hmv := fun a w => meth_branch_valid a w
  have hav := fun a w => ahead_branch_valid a w
  have hac := fun a w => ahead_branch_count a w
  have haw := fun a w => ahead_branch_write a w
  have hmc := fun a w => meth_branch_count a w
  have hmw := fun a w => meth_branch_write a w
  go_enter Try.func22, Try.ntmps22
  go_wp2_with fail
  generalize w.alloc (.cells #[.int .i64 2, .int .i64 tx, .int .i64 id, .int .i64 root, .int .i64 count, .slice ka n kc, .slice ea m ec, .int .i64 next, .string data] 28) = W0 at hb0 HX0 ⊢
  have HB := bodyOf_branch tx id root count ka n kc ks ea m ec es next data W0 A B (Nat.le_trans hB hb0.size) (hK.below (hb0.mono hB)) (hE.below (hb0.mono hB))
  rw [hcond] at HB
  refine HB.mono ?_
  rintro e w1 ⟨M, rfl, hMl, hM, hb1⟩
  have hb2 := hb0.trans (hb1.mono hb0.size)
  have HX1 := eb_call HX0 hb1
  have hMw : w.heap.size ≤ M := Nat.le_trans hb0.size hMl
  obtain ⟨c5, c6, c0, c2, c3, c4, c7, c8, c1⟩ := box_slice HX1
  clear HB hb1 hb0 HX0 hMl
  simp only [cond_true]
  go_wp2_with fail
  go_region_held3 (fun w' => w'.cell? ⟨w.heap.size, 1, none⟩ = some (.int .i64 tx)) (go_keep)
    (first
      | (go_at_call 129; have HV := branchValid_any M ka n kc ks 2 999 w2 A B (Nat.le_trans hB hb4.size) (hK.below (hb4.mono hB)) hM2; rw [hval] at HV; refine HV.mono ?_; rintro e w3 ⟨rfl, hb5⟩; have hb6 := hb4.trans (hb5.mono hb4.size); have HX3 := eb_call HX2 hb5; have hM3 := eb_call hM2 hb5; obtain ⟨_, _, _, _, _, _, _, _, d1⟩ := box_slice HX3)
      | (go_at_call 61; refine (newPages_any w1.drew).mono ?_; rintro e w2 ⟨rfl, hb3⟩; have hb4 := hb2.drew.trans (hb3.mono hb2.size); have HX2 := eb_call (w' := w1.drew) HX1 hb3; have hM2 := eb_call (w' := w1.drew) hM hb3; obtain ⟨_, _, _, _, _, _, _, _, d1⟩ := box_slice HX2)
      | (go_at_call 60; have HI := isStamp_any tx w1.drew; rw [htx] at HI; refine HI.mono ?_; rintro e w1' ⟨rfl, rfl⟩))
  all_goals
    clear hb2 hb3 hb4 hb5 HX1 HX2 hM hM2 hmv hav c5 c6 c0 c2 c3 c4 c7 c8 c1
    go_wp2
    go_ret
    exact ⟨rfl, hb6⟩
set_option maxHeartbeats 3200000 in
theorem encBad_leaf (tx id root count : Int) (ka : Option Addr) (n kc : Nat) (ks : List PK) (ea : Option Addr) (m ec : Nat) (es : List PE) (next : Int) (data : ByteArray) (w : World) (A B : Nat) (hB : B ≤ w.heap.size) (hK : KidsAt w A B ka n kc ks) (hE : EntsAt w A B ea m ec es)
    (hcond : (decide (id = 0 ∧ root = 0 ∧ count = 0) && decide (n = 0) && decide (next = 0) && data.toList.isEmpty) = true) (htx : inB 1 2000000000 tx = true) (hval : (decide (m ≤ 4) && entsOk 2 999 es) = false) :
    Calls Try.prog 22 #[.agg #[.int .i64 3, .int .i64 tx, .int .i64 id, .int .i64 root, .int .i64 count, .slice ka n kc, .slice ea m ec, .int .i64 next, .string data]] w fun e w' => e = .returned (.slice none 0 0) ∧ Below w.heap.size w w' := by
  have hb0 : Below w.heap.size w (w.alloc (.cells #[.int .i64 3, .int .i64 tx, .int .i64 id, .int .i64 root, .int .i64 count, .slice ka n kc, .slice ea m ec, .int .i64 next, .string data] 28)) := (Below.refl _ _).alloc (Nat.le_refl _) _
  have HX0 : (w.alloc (.cells #[.int .i64 3, .int .i64 tx, .int .i64 id, .int .i64 root, .int .i64 count, .slice ka n kc, .slice ea m ec, .int .i64 next, .string data] 28)).heap[w.heap.size]? = _ := heap_alloc_new w _
  have hmv := fun a w => meth_leaf_valid a w
  have hav := fun a w => ahead_leaf_valid a w
  have hac := fun a w => ahead_leaf_count a w
  have haw := fun a w => ahead_leaf_write a w
  have hmc := fun a w => meth_leaf_count a w
  have hmw := fun a w => meth_leaf_write a w
  go_enter Try.func22, Try.ntmps22
  go_wp2_with fail
  generalize w.alloc (.cells #[.int .i64 3, .int .i64 tx, .int .i64 id, .int .i64 root, .int .i64 count, .slice ka n kc, .slice ea m ec, .int .i64 next, .string data] 28) = W0 at hb0 HX0 ⊢
  have HB := bodyOf_leaf tx id root count ka n kc ks ea m ec es next data W0 A B (Nat.le_trans hB hb0.size) (hK.below (hb0.mono hB)) (hE.below (hb0.mono hB))
  rw [hcond] at HB
  refine HB.mono ?_
  rintro e w1 ⟨M, rfl, hMl, hM, hb1⟩
  have hb2 := hb0.trans (hb1.mono hb0.size)
  have HX1 := eb_call HX0 hb1
  have hMw : w.heap.size ≤ M := Nat.le_trans hb0.size hMl
  obtain ⟨c5, c6, c0, c2, c3, c4, c7, c8, c1⟩ := box_slice HX1
  clear HB hb1 hb0 HX0 hMl
  simp only [cond_true]
  go_wp2_with fail
  go_region_held3 (fun w' => w'.cell? ⟨w.heap.size, 1, none⟩ = some (.int .i64 tx)) (go_keep)
    (first
      | (go_at_call 137; have HV := leafValid_any M ea m ec es 2 999 (by omega) w2 A B (Nat.le_trans hB hb4.size) (hE.below (hb4.mono hB)) hM2; rw [hval] at HV; refine HV.mono ?_; rintro e w3 ⟨rfl, hb5⟩; have hb6 := hb4.trans (hb5.mono hb4.size); have HX3 := eb_call HX2 hb5; have hM3 := eb_call hM2 hb5; obtain ⟨_, _, _, _, _, _, _, _, d1⟩ := box_slice HX3)
      | (go_at_call 61; refine (newPages_any w1.drew).mono ?_; rintro e w2 ⟨rfl, hb3⟩; have hb4 := hb2.drew.trans (hb3.mono hb2.size); have HX2 := eb_call (w' := w1.drew) HX1 hb3; have hM2 := eb_call (w' := w1.drew) hM hb3; obtain ⟨_, _, _, _, _, _, _, _, d1⟩ := box_slice HX2)
      | (go_at_call 60; have HI := isStamp_any tx w1.drew; rw [htx] at HI; refine HI.mono ?_; rintro e w1' ⟨rfl, rfl⟩))
  all_goals
    clear hb2 hb3 hb4 hb5 HX1 HX2 hM hM2 hmv hav c5 c6 c0 c2 c3 c4 c7 c8 c1
    go_wp2
    go_ret
    exact ⟨rfl, hb6⟩
set_option maxHeartbeats 3200000 in
theorem encBad_over (tx id root count : Int) (ka : Option Addr) (n kc : Nat) (ks : List PK) (ea : Option Addr) (m ec : Nat) (es : List PE) (next : Int) (data : ByteArray) (w : World) (A B : Nat) (hB : B ≤ w.heap.size) (hK : KidsAt w A B ka n kc ks) (hE : EntsAt w A B ea m ec es)
    (hdl : data.size ≤ maxLen) (hcond : (decide (id = 0 ∧ root = 0 ∧ count = 0) && decide (n = 0) && decide (m = 0)) = true) (htx : inB 1 2000000000 tx = true) (hval : (decide (1 ≤ data.size) && decide (data.size ≤ 96) && (decide (next = 0) || (inB 2 999 next && decide (data.size = 96)))) = false) :
    Calls Try.prog 22 #[.agg #[.int .i64 4, .int .i64 tx, .int .i64 id, .int .i64 root, .int .i64 count, .slice ka n kc, .slice ea m ec, .int .i64 next, .string data]] w fun e w' => e = .returned (.slice none 0 0) ∧ Below w.heap.size w w' := by
  have hb0 : Below w.heap.size w (w.alloc (.cells #[.int .i64 4, .int .i64 tx, .int .i64 id, .int .i64 root, .int .i64 count, .slice ka n kc, .slice ea m ec, .int .i64 next, .string data] 28)) := (Below.refl _ _).alloc (Nat.le_refl _) _
  have HX0 : (w.alloc (.cells #[.int .i64 4, .int .i64 tx, .int .i64 id, .int .i64 root, .int .i64 count, .slice ka n kc, .slice ea m ec, .int .i64 next, .string data] 28)).heap[w.heap.size]? = _ := heap_alloc_new w _
  have hmv := fun a w => meth_over_valid a w
  have hav := fun a w => ahead_over_valid a w
  have hac := fun a w => ahead_over_count a w
  have haw := fun a w => ahead_over_write a w
  have hmc := fun a w => meth_over_count a w
  have hmw := fun a w => meth_over_write a w
  go_enter Try.func22, Try.ntmps22
  go_wp2_with fail
  generalize w.alloc (.cells #[.int .i64 4, .int .i64 tx, .int .i64 id, .int .i64 root, .int .i64 count, .slice ka n kc, .slice ea m ec, .int .i64 next, .string data] 28) = W0 at hb0 HX0 ⊢
  have HB := bodyOf_over tx id root count ka n kc ks ea m ec es next data W0 A B (Nat.le_trans hB hb0.size) (hK.below (hb0.mono hB)) (hE.below (hb0.mono hB))
  rw [hcond] at HB
  refine HB.mono ?_
  rintro e w1 ⟨M, rfl, hMl, hM, hb1⟩
  have hb2 := hb0.trans (hb1.mono hb0.size)
  have HX1 := eb_call HX0 hb1
  have hMw : w.heap.size ≤ M := Nat.le_trans hb0.size hMl
  obtain ⟨c5, c6, c0, c2, c3, c4, c7, c8, c1⟩ := box_slice HX1
  clear HB hb1 hb0 HX0 hMl
  simp only [cond_true]
  go_wp2_with fail
  go_region_held3 (fun w' => w'.cell? ⟨w.heap.size, 1, none⟩ = some (.int .i64 tx)) (go_keep)
    (first
      | (go_at_call 144; have HV := overValid_any M next data hdl 2 999 w2 hM2; rw [hval] at HV; refine HV.mono ?_; rintro e w3 ⟨rfl, hb5⟩; have hb6 := hb4.trans (hb5.mono hb4.size); have HX3 := eb_call HX2 hb5; have hM3 := eb_call hM2 hb5; obtain ⟨_, _, _, _, _, _, _, _, d1⟩ := box_slice HX3)
      | (go_at_call 61; refine (newPages_any w1.drew).mono ?_; rintro e w2 ⟨rfl, hb3⟩; have hb4 := hb2.drew.trans (hb3.mono hb2.size); have HX2 := eb_call (w' := w1.drew) HX1 hb3; have hM2 := eb_call (w' := w1.drew) hM hb3; obtain ⟨_, _, _, _, _, _, _, _, d1⟩ := box_slice HX2)
      | (go_at_call 60; have HI := isStamp_any tx w1.drew; rw [htx] at HI; refine HI.mono ?_; rintro e w1' ⟨rfl, rfl⟩))
  all_goals
    clear hb2 hb3 hb4 hb5 HX1 HX2 hM hM2 hmv hav c5 c6 c0 c2 c3 c4 c7 c8 c1
    go_wp2
    go_ret
    exact ⟨rfl, hb6⟩
end New
end Go.Proofs.Ytcmhobbpeaeebaa
namespace Go.Proofs.Ytcmhobbpeaeebaa
namespace New
open Go.RowKit
set_option linter.unusedVariables false
set_option maxRecDepth 100000

set_option maxHeartbeats 1600000 in
theorem bodyOf_nil (kind tx id root count : Int) (hk1 : kind ≠ 1) (hk2 : kind ≠ 2) (hk3 : kind ≠ 3) (hk4 : kind ≠ 4) (ka : Option Addr) (n kc : Nat) (ea : Option Addr) (m ec : Nat) (next : Int) (data : ByteArray) (w : World) :
    Calls Try.prog 59 #[.agg #[.int .i64 kind, .int .i64 tx, .int .i64 id, .int .i64 root, .int .i64 count, .slice ka n kc, .slice ea m ec, .int .i64 next, .string data]] w fun e w' => e = .returned .nilIface ∧ Below w.heap.size w w' := by
  have hb0 : Below w.heap.size w (w.alloc (.cells #[.int .i64 kind, .int .i64 tx, .int .i64 id, .int .i64 root, .int .i64 count, .slice ka n kc, .slice ea m ec, .int .i64 next, .string data] 28)) := (Below.refl _ _).alloc (Nat.le_refl _) _
  go_enter Try.func59, Try.ntmps59
  go_wp2_with fail
  generalize w.alloc (.cells #[.int .i64 kind, .int .i64 tx, .int .i64 id, .int .i64 root, .int .i64 count, .slice ka n kc, .slice ea m ec, .int .i64 next, .string data] 28) = W0 at hb0 ⊢
  refine (kindBody_nil kind tx id root count hk1 hk2 hk3 hk4 ka n kc ea m ec next data W0).mono ?_
  rintro e w1 ⟨rfl, hb1⟩
  have hb2 := hb0.trans (hb1.mono hb0.size)
  clear hb0 hb1
  go_wp2
  go_ret
  exact ⟨rfl, hb2⟩
set_option maxHeartbeats 1600000 in
theorem encNew_nil (kind tx id root count : Int) (ka : Option Addr) (n kc : Nat) (ea : Option Addr) (m ec : Nat) (next : Int) (data : ByteArray) (w : World)
    (H : ∀ W0 : World, Below w.heap.size w W0 → Calls Try.prog 59 #[.agg #[.int .i64 kind, .int .i64 tx, .int .i64 id, .int .i64 root, .int .i64 count, .slice ka n kc, .slice ea m ec, .int .i64 next, .string data]] W0 fun e w' => e = .returned .nilIface ∧ Below W0.heap.size W0 w') :
    Calls Try.prog 22 #[.agg #[.int .i64 kind, .int .i64 tx, .int .i64 id, .int .i64 root, .int .i64 count, .slice ka n kc, .slice ea m ec, .int .i64 next, .string data]] w fun e w' => e = .returned (.slice none 0 0) ∧ Below w.heap.size w w' := by
  have hb0 : Below w.heap.size w (w.alloc (.cells #[.int .i64 kind, .int .i64 tx, .int .i64 id, .int .i64 root, .int .i64 count, .slice ka n kc, .slice ea m ec, .int .i64 next, .string data] 28)) := (Below.refl _ _).alloc (Nat.le_refl _) _
  go_enter Try.func22, Try.ntmps22
  go_wp2_with fail
  generalize w.alloc (.cells #[.int .i64 kind, .int .i64 tx, .int .i64 id, .int .i64 root, .int .i64 count, .slice ka n kc, .slice ea m ec, .int .i64 next, .string data] 28) = W0 at hb0 ⊢
  refine (H W0 hb0).mono ?_
  rintro e w1 ⟨rfl, hb1⟩
  have hb2 := hb0.trans (hb1.mono hb0.size)
  have hbq : ∀ q, Below w.heap.size w (w1.drewN q) := fun q => hb2.trans ⟨rfl, rfl, rfl, Nat.le_refl _, fun _ _ => rfl⟩
  clear hb0 hb1 H
  go_wp2_with fail
  go_quiet (fail)
  go_wp2
  go_ret
  exact ⟨rfl, hbq _⟩
set_option maxHeartbeats 1600000 in
theorem encNew_tx (T : TypeId) (kind tx id root count : Int) (htx : inB 1 2000000000 tx = false) (ka : Option Addr) (n kc : Nat) (ea : Option Addr) (m ec : Nat) (next : Int) (data : ByteArray) (w : World)
    (H : ∀ W0 : World, Below w.heap.size w W0 → Calls Try.prog 59 #[.agg #[.int .i64 kind, .int .i64 tx, .int .i64 id, .int .i64 root, .int .i64 count, .slice ka n kc, .slice ea m ec, .int .i64 next, .string data]] W0 fun e w' => ∃ M, e = .returned (.iface T (.pointer (some ⟨M, 0, none⟩))) ∧ Below W0.heap.size W0 w') :
    Calls Try.prog 22 #[.agg #[.int .i64 kind, .int .i64 tx, .int .i64 id, .int .i64 root, .int .i64 count, .slice ka n kc, .slice ea m ec, .int .i64 next, .string data]] w fun e w' => e = .returned (.slice none 0 0) ∧ Below w.heap.size w w' := by
  have hb0 : Below w.heap.size w (w.alloc (.cells #[.int .i64 kind, .int .i64 tx, .int .i64 id, .int .i64 root, .int .i64 count, .slice ka n kc, .slice ea m ec, .int .i64 next, .string data] 28)) := (Below.refl _ _).alloc (Nat.le_refl _) _
  have HX0 : (w.alloc (.cells #[.int .i64 kind, .int .i64 tx, .int .i64 id, .int .i64 root, .int .i64 count, .slice ka n kc, .slice ea m ec, .int .i64 next, .string data] 28)).heap[w.heap.size]? = _ := heap_alloc_new w _
  go_enter Try.func22, Try.ntmps22
  go_wp2_with fail
  generalize w.alloc (.cells #[.int .i64 kind, .int .i64 tx, .int .i64 id, .int .i64 root, .int .i64 count, .slice ka n kc, .slice ea m ec, .int .i64 next, .string data] 28) = W0 at hb0 HX0 ⊢
  refine (H W0 hb0).mono ?_
  rintro e w1 ⟨M, rfl, hb1⟩
  have hb2 := hb0.trans (hb1.mono hb0.size)
  have HX1 := eb_call HX0 hb1
  obtain ⟨c5, c6, c0, c2, c3, c4, c7, c8, c1⟩ := box_slice HX1
  have hbq : ∀ q, Below w.heap.size w (w1.drewN q) := fun q => hb2.trans ⟨rfl, rfl, rfl, Nat.le_refl _, fun _ _ => rfl⟩
  clear hb0 hb1 H HX0 HX1
  go_wp2_with fail
  first | (go_region_with (go_at_call 60; have HI := isStamp_any tx w1.drew; rw [htx] at HI; refine HI.mono ?_; rintro e w1' ⟨rfl, rfl⟩)) | fail
  all_goals
    go_wp2
    go_ret
    exact ⟨rfl, hb2.drew⟩
end New
end Go.Proofs.Ytcmhobbpeaeebaa
namespace Go.Proofs.Ytcmhobbpeaeebaa
namespace New
open Go.RowKit
set_option linter.unusedVariables false
set_option maxRecDepth 100000

def Enc (p : Pg) (ka : Option Addr) (kc : Nat) (ea : Option Addr) (ec : Nat) (w : World) : Prop :=
  Calls Try.prog 22 #[.agg #[.int .i64 p.kind, .int .i64 p.tx, .int .i64 p.id, .int .i64 p.root, .int .i64 p.count, .slice ka p.ks.length kc, .slice ea p.es.length ec, .int .i64 p.next, .string p.data]] w fun e w' => ∃ v, e = .returned v ∧ w'.ownsRow w.heap.size 5 1 v (newCodeOf p).length (u8s (newCodeOf p)) ∧ Below w.heap.size w w'
theorem enc_nil {p : Pg} {ka : Option Addr} {kc : Nat} {ea : Option Addr} {ec : Nat} {w : World} (h0 : ¬ (inB 1 2000000000 p.tx = true ∧ bodyOk 2 999 p = true))
    (h : Calls Try.prog 22 #[.agg #[.int .i64 p.kind, .int .i64 p.tx, .int .i64 p.id, .int .i64 p.root, .int .i64 p.count, .slice ka p.ks.length kc, .slice ea p.es.length ec, .int .i64 p.next, .string p.data]] w fun e w' => e = .returned (.slice none 0 0) ∧ Below w.heap.size w w') : Enc p ka kc ea ec w := by
  refine h.mono ?_
  rintro e w' ⟨rfl, hb⟩
  refine ⟨_, rfl, ?_, hb⟩
  rw [newCodeOf, if_neg h0]
  exact World.ownsRow_nil _ _ _ _
theorem seal_len (tx : Int) {l : List Int} (h : l.length ≤ 120) : (sealN tx l).length = 128 := by simp [sealN, padB, leB_len]; omega
theorem enc_good {p : Pg} {ka : Option Addr} {kc : Nat} {ea : Option Addr} {ec : Nat} {w : World} (htx : inB 1 2000000000 p.tx = true) (hok : bodyOk 2 999 p = true) (c : Int) (b : List Int) (hc : c = ((p.ks.length + p.es.length : Nat) : Int)) (hb : b = bodyB false p)
    (h : Calls Try.prog 22 #[.agg #[.int .i64 p.kind, .int .i64 p.tx, .int .i64 p.id, .int .i64 p.root, .int .i64 p.count, .slice ka p.ks.length kc, .slice ea p.es.length ec, .int .i64 p.next, .string p.data]] w fun e w' => ∃ v, e = .returned v ∧ w'.ownsRow w.heap.size 5 1 v 128 (u8s (sealN p.tx (headN p.tx p.kind c b))) ∧ Below w.heap.size w w') : Enc p ka kc ea ec w := by
  refine h.mono ?_
  rintro e w' ⟨v, rfl, ho, hbl⟩
  refine ⟨_, rfl, ?_, hbl⟩
  have e1 : newCodeOf p = sealN p.tx (headN p.tx p.kind c b) := by
    rw [newCodeOf, if_pos ⟨htx, hok⟩, headN_eq, hc, hb]
    rfl
  have hl := bodyB_len false hok
  rw [e1, seal_len _ (by simp [headN, hb, leB_len]; omega)]
  exact ho

theorem cond_of {b : Bool} {α : Type} (x y : α) (h : b = true) : cond b x y = x := by rw [h]; rfl
theorem cond_not {b : Bool} {α : Type} (x y : α) (h : b = false) : cond b x y = y := by rw [h]; rfl

theorem encodePage_any (p : Pg) (hf : PgFit p) (ka : Option Addr) (kc : Nat) (ea : Option Addr) (ec : Nat) (w : World) (A B : Nat) (hB : B ≤ w.heap.size) (hK : KidsAt w A B ka p.ks.length kc p.ks) (hE : EntsAt w A B ea p.es.length ec p.es) : Enc p ka kc ea ec w := by
  obtain ⟨kind, tx, id, root, count, ks, es, next, data⟩ := p
  have hfi := hf.id
  have ht := hf.tx
  have hfr := hf.root
  have hfc := hf.count
  have hfn := hf.next
  have hfd := hf.data
  simp only at hK hE hfi hfr hfc hfn hfd ht
  by_cases h1 : kind = 1
  · subst h1
    have hbo : bodyOk 2 999 ⟨1, tx, id, root, count, ks, es, next, data⟩ = ((inB 1 2000000000 id && inB 2 999 root && inB 0 2000000000 count) && (decide (ks.length = 0) && decide (es.length = 0) && decide (next = 0) && data.toList.isEmpty)) := by
      simp only [bodyOk, if_pos, metaOk, Bool.and_assoc]
    have HB := fun W0 (hb : Below w.heap.size w W0) => bodyOf_meta tx id root count ka ks.length kc ks ea es.length ec es next data W0 A B (Nat.le_trans hB hb.size) (hK.below (hb.mono hB)) (hE.below (hb.mono hB))
    by_cases hc : (decide (ks.length = 0) && decide (es.length = 0) && decide (next = 0) && data.toList.isEmpty) = true
    · by_cases htx : inB 1 2000000000 tx = true
      · by_cases hv : (inB 1 2000000000 id && inB 2 999 root && inB 0 2000000000 count) = true
        · refine enc_good htx (by rw [hbo, hv, hc]; rfl) 0 _ ?_ rfl (encNew_meta tx id root count hfi hfr hfc ka ks.length kc ks ea es.length ec es next data w A B hB hK hE hc ht htx hv)
          simp only [Bool.and_eq_true, decide_eq_true_eq] at hc
          simp [hc.1.1.1, hc.1.1.2]
        · have hv' : (inB 1 2000000000 id && inB 2 999 root && inB 0 2000000000 count) = false := by simpa using hv
          exact enc_nil (by rw [hbo, hv']; simp) (encBad_meta tx id root count ka ks.length kc ks ea es.length ec es next data w A B hB hK hE hc htx hv')
      · exact enc_nil (fun h => htx h.1) (encNew_tx 134 1 tx id root count (by simpa using htx) ka ks.length kc ea es.length ec next data w (fun W0 hb => (HB W0 hb).mono fun e w' ⟨M, he, _, _, hb'⟩ => ⟨M, by rw [he, cond_of _ _ hc], hb'⟩))
    · have hc' : (decide (ks.length = 0) && decide (es.length = 0) && decide (next = 0) && data.toList.isEmpty) = false := by simpa using hc
      exact enc_nil (by rw [hbo, hc']; simp) (encNew_nil 1 tx id root count ka ks.length kc ea es.length ec next data w (fun W0 hb => (HB W0 hb).mono fun e w' ⟨M, he, _, _, hb'⟩ => ⟨by rw [he, cond_not _ _ hc'], hb'⟩))
  by_cases h2 : kind = 2
  · subst h2
    have hbo : bodyOk 2 999 ⟨2, tx, id, root, count, ks, es, next, data⟩ = ((decide (id = 0 ∧ root = 0 ∧ count = 0) && decide (es.length = 0) && decide (next = 0) && data.toList.isEmpty) && (decide (2 ≤ ks.length) && decide (ks.length ≤ 4) && (ks.getD 0 dK).1.toList.isEmpty && kidsOk 2 999 ks)) := by
      simp [bodyOk, branchOk, noMeta, Bool.and_assoc]
    have HB := fun W0 (hb : Below w.heap.size w W0) => bodyOf_branch tx id root count ka ks.length kc ks ea es.length ec es next data W0 A B (Nat.le_trans hB hb.size) (hK.below (hb.mono hB)) (hE.below (hb.mono hB))
    by_cases hc : (decide (id = 0 ∧ root = 0 ∧ count = 0) && decide (es.length = 0) && decide (next = 0) && data.toList.isEmpty) = true
    · by_cases htx : inB 1 2000000000 tx = true
      · by_cases hv : (decide (2 ≤ ks.length) && decide (ks.length ≤ 4) && (ks.getD 0 dK).1.toList.isEmpty && kidsOk 2 999 ks) = true
        · have hok : bodyOk 2 999 ⟨2, tx, id, root, count, ks, es, next, data⟩ = true := by rw [hbo, hv, hc]; rfl
          have hsz := branch_sizes (low := 2) (last := 999) (p := ⟨2, tx, id, root, count, ks, es, next, data⟩) (by simpa [bodyOk] using hok)
          refine enc_good htx hok (ks.length : Int) _ ?_ rfl (encNew_branch tx id root count ka ks.length kc ks ea es.length ec es next data w A B hB hK hE hsz.1 hsz.2 hc ht htx hv)
          simp only [Bool.and_eq_true, decide_eq_true_eq] at hc
          simp [hc.1.1.2]
        · have hv' : (decide (2 ≤ ks.length) && decide (ks.length ≤ 4) && (ks.getD 0 dK).1.toList.isEmpty && kidsOk 2 999 ks) = false := by simpa using hv
          exact enc_nil (by rw [hbo, hv']; simp) (encBad_branch tx id root count ka ks.length kc ks ea es.length ec es next data w A B hB hK hE hc htx hv')
      · exact enc_nil (fun h => htx h.1) (encNew_tx 137 2 tx id root count (by simpa using htx) ka ks.length kc ea es.length ec next data w (fun W0 hb => (HB W0 hb).mono fun e w' ⟨M, he, _, _, hb'⟩ => ⟨M, by rw [he, cond_of _ _ hc], hb'⟩))
    · have hc' : (decide (id = 0 ∧ root = 0 ∧ count = 0) && decide (es.length = 0) && decide (next = 0) && data.toList.isEmpty) = false := by simpa using hc
      exact enc_nil (by rw [hbo, hc']; simp) (encNew_nil 2 tx id root count ka ks.length kc ea es.length ec next data w (fun W0 hb => (HB W0 hb).mono fun e w' ⟨M, he, _, _, hb'⟩ => ⟨by rw [he, cond_not _ _ hc'], hb'⟩))
  by_cases h3 : kind = 3
  · subst h3
    have hbo : bodyOk 2 999 ⟨3, tx, id, root, count, ks, es, next, data⟩ = ((decide (id = 0 ∧ root = 0 ∧ count = 0) && decide (ks.length = 0) && decide (next = 0) && data.toList.isEmpty) && (decide (es.length ≤ 4) && entsOk 2 999 es)) := by
      simp [bodyOk, leafOk, noMeta, Bool.and_assoc]
    have HB := fun W0 (hb : Below w.heap.size w W0) => bodyOf_leaf tx id root count ka ks.length kc ks ea es.length ec es next data W0 A B (Nat.le_trans hB hb.size) (hK.below (hb.mono hB)) (hE.below (hb.mono hB))
    by_cases hc : (decide (id = 0 ∧ root = 0 ∧ count = 0) && decide (ks.length = 0) && decide (next = 0) && data.toList.isEmpty) = true
    · by_cases htx : inB 1 2000000000 tx = true
      · by_cases hv : (decide (es.length ≤ 4) && entsOk 2 999 es) = true
        · have hok : bodyOk 2 999 ⟨3, tx, id, root, count, ks, es, next, data⟩ = true := by rw [hbo, hv, hc]; rfl
          have hsz := leaf_sizes (low := 2) (last := 999) (p := ⟨3, tx, id, root, count, ks, es, next, data⟩) (by simpa [bodyOk] using hok)
          refine enc_good htx hok (es.length : Int) _ ?_ rfl (encNew_leaf tx id root count ka ks.length kc ks ea es.length ec es next data w A B hB hK hE hsz.1 hsz.2 hc ht htx hv)
          simp only [Bool.and_eq_true, decide_eq_true_eq] at hc
          simp [hc.1.1.2]
        · have hv' : (decide (es.length ≤ 4) && entsOk 2 999 es) = false := by simpa using hv
          exact enc_nil (by rw [hbo, hv']; simp) (encBad_leaf tx id root count ka ks.length kc ks ea es.length ec es next data w A B hB hK hE hc htx hv')
      · exact enc_nil (fun h => htx h.1) (encNew_tx 140 3 tx id root count (by simpa using htx) ka ks.length kc ea es.length ec next data w (fun W0 hb => (HB W0 hb).mono fun e w' ⟨M, he, _, _, hb'⟩ => ⟨M, by rw [he, cond_of _ _ hc], hb'⟩))
    · have hc' : (decide (id = 0 ∧ root = 0 ∧ count = 0) && decide (ks.length = 0) && decide (next = 0) && data.toList.isEmpty) = false := by simpa using hc
      exact enc_nil (by rw [hbo, hc']; simp) (encNew_nil 3 tx id root count ka ks.length kc ea es.length ec next data w (fun W0 hb => (HB W0 hb).mono fun e w' ⟨M, he, _, _, hb'⟩ => ⟨by rw [he, cond_not _ _ hc'], hb'⟩))
  by_cases h4 : kind = 4
  · subst h4
    have hbo : bodyOk 2 999 ⟨4, tx, id, root, count, ks, es, next, data⟩ = ((decide (id = 0 ∧ root = 0 ∧ count = 0) && decide (ks.length = 0) && decide (es.length = 0)) && (decide (1 ≤ data.size) && decide (data.size ≤ 96) && (decide (next = 0) || (inB 2 999 next && decide (data.size = 96))))) := by
      simp [bodyOk, overOk, noMeta, Bool.and_assoc]
    have HB := fun W0 (hb : Below w.heap.size w W0) => bodyOf_over tx id root count ka ks.length kc ks ea es.length ec es next data W0 A B (Nat.le_trans hB hb.size) (hK.below (hb.mono hB)) (hE.below (hb.mono hB))
    by_cases hc : (decide (id = 0 ∧ root = 0 ∧ count = 0) && decide (ks.length = 0) && decide (es.length = 0)) = true
    · by_cases htx : inB 1 2000000000 tx = true
      · by_cases hv : (decide (1 ≤ data.size) && decide (data.size ≤ 96) && (decide (next = 0) || (inB 2 999 next && decide (data.size = 96)))) = true
        · have hok : bodyOk 2 999 ⟨4, tx, id, root, count, ks, es, next, data⟩ = true := by rw [hbo, hv, hc]; rfl
          have hsz := over_size (low := 2) (last := 999) (p := ⟨4, tx, id, root, count, ks, es, next, data⟩) (by simpa [bodyOk] using hok)
          refine enc_good htx hok 0 _ ?_ rfl (encNew_over tx id root count ka ks.length kc ks ea es.length ec es next data w A B hB hK hE hfn hsz hc ht htx hv)
          simp only [Bool.and_eq_true, decide_eq_true_eq] at hc
          simp [hc.1.2, hc.2]
        · have hv' : (decide (1 ≤ data.size) && decide (data.size ≤ 96) && (decide (next = 0) || (inB 2 999 next && decide (data.size = 96)))) = false := by simpa using hv
          exact enc_nil (by rw [hbo, hv']; simp) (encBad_over tx id root count ka ks.length kc ks ea es.length ec es next data w A B hB hK hE hfd hc htx hv')
      · exact enc_nil (fun h => htx h.1) (encNew_tx 143 4 tx id root count (by simpa using htx) ka ks.length kc ea es.length ec next data w (fun W0 hb => (HB W0 hb).mono fun e w' ⟨M, he, _, _, hb'⟩ => ⟨M, by rw [he, cond_of _ _ hc], hb'⟩))
    · have hc' : (decide (id = 0 ∧ root = 0 ∧ count = 0) && decide (ks.length = 0) && decide (es.length = 0)) = false := by simpa using hc
      exact enc_nil (by rw [hbo, hc']; simp) (encNew_nil 4 tx id root count ka ks.length kc ea es.length ec next data w (fun W0 hb => (HB W0 hb).mono fun e w' ⟨M, he, _, _, hb'⟩ => ⟨by rw [he, cond_not _ _ hc'], hb'⟩))
  · exact enc_nil (by simp [bodyOk, h1, h2, h3, h4]) (encNew_nil kind tx id root count ka ks.length kc ea es.length ec next data w (fun W0 hb => bodyOf_nil kind tx id root count h1 h2 h3 h4 ka ks.length kc ea es.length ec next data W0))
end New
end Go.Proofs.Ytcmhobbpeaeebaa
namespace Go.Proofs.Ytcmhobbpeaeebaa
open Go.RowKit
set_option linter.unusedVariables false
set_option maxRecDepth 100000

theorem codeN_len (p : Pg) : (newCodeOf p).length ≤ 128 := by
  unfold newCodeOf
  split
  · rename_i h
    have hl := bodyB_len false h.2
    rw [New.seal_len _ (by simp [newHead, leB_len]; omega)]
    omega
  · simp
theorem codeN_byte (p : Pg) : ∀ x ∈ newCodeOf p, 0 ≤ x ∧ x ≤ 255 := by
  unfold newCodeOf
  split
  · rename_i h
    have hk := body_kind h.2
    have hc := body_count h.2
    have hb : ∀ x ∈ newHead p, 0 ≤ x ∧ x ≤ 255 := bytes_app (bytes_app (leB_byte _ _) (by intro x hx; simp at hx; omega)) (bodyB_byte false h.2)
    exact bytes_app (bytes_app (New.padB_byte hb) (leB_byte _ _)) (leB_byte _ _)
  · intro x hx; cases hx

end Go.Proofs.Ytcmhobbpeaeebaa
