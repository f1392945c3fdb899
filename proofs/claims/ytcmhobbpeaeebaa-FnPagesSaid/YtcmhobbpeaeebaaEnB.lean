import Derived.Test.YtcmhobbpeaeebaaGAN
namespace Go.Proofs.Ytcmhobbpeaeebaa
namespace Old
open Go.RowKit
set_option linter.unusedVariables false
set_option maxRecDepth 100000

set_option maxHeartbeats 3200000 in
theorem encBad_meta (tx id root count : Int) (ka : Option Addr) (n kc : Nat) (ks : List PK) (ea : Option Addr) (m ec : Nat) (es : List PE) (next : Int) (data : ByteArray) (w : World) (A B : Nat) (hB : B ≤ w.heap.size) (hK : KidsAt w A B ka n kc ks) (hE : EntsAt w A B ea m ec es)
    (hcond : (decide (n = 0) && decide (m = 0) && decide (next = 0) && data.toList.isEmpty) = true) (htx : tx = 0) (hval : (inB 1 2000000000 id && inB 1 998 root && inB 0 2000000000 count) = false) :
    Calls Try.prog 29 #[.agg #[.int .i64 1, .int .i64 tx, .int .i64 id, .int .i64 root, .int .i64 count, .slice ka n kc, .slice ea m ec, .int .i64 next, .string data]] w fun e w' => e = .returned (.slice none 0 0) ∧ Below w.heap.size w w' := by
  have hb0 : Below w.heap.size w (w.alloc (.cells #[.int .i64 1, .int .i64 tx, .int .i64 id, .int .i64 root, .int .i64 count, .slice ka n kc, .slice ea m ec, .int .i64 next, .string data] 28)) := (Below.refl _ _).alloc (Nat.le_refl _) _
  have HX0 : (w.alloc (.cells #[.int .i64 1, .int .i64 tx, .int .i64 id, .int .i64 root, .int .i64 count, .slice ka n kc, .slice ea m ec, .int .i64 next, .string data] 28)).heap[w.heap.size]? = _ := heap_alloc_new w _
  have st : (tx != 0) = false := by simpa using htx
  have hmv := fun a w => meth_meta_valid a w
  have hav := fun a w => ahead_meta_valid a w
  have hac := fun a w => ahead_meta_count a w
  have haw := fun a w => ahead_meta_write a w
  have hmc := fun a w => meth_meta_count a w
  have hmw := fun a w => meth_meta_write a w
  clear htx
  go_enter Try.func29, Try.ntmps29
  go_wp2_with fail
  generalize w.alloc (.cells #[.int .i64 1, .int .i64 tx, .int .i64 id, .int .i64 root, .int .i64 count, .slice ka n kc, .slice ea m ec, .int .i64 next, .string data] 28) = W0 at hb0 HX0 ⊢
  have HB := bodyOf_meta tx id root count ka n kc ks ea m ec es next data W0 A B (Nat.le_trans hB hb0.size) (hK.below (hb0.mono hB)) (hE.below (hb0.mono hB))
  rw [hcond] at HB
  refine HB.mono ?_
  rintro e w1 ⟨M, rfl, hMl, hM, hb1⟩
  have hb2 := hb0.trans (hb1.mono hb0.size)
  have HX1 := eb_call HX0 hb1
  have hMw : w.heap.size ≤ M := Nat.le_trans hb0.size hMl
  obtain ⟨c5, c6, c0, c2, c3, c4, c7, c8, c1⟩ := box_slice HX1
  clear HB hb1 hb0 HX0 hMl
  simp only [cond_true]
  go_wp2_with fail
  go_region_held3 (fun w' => w'.cell? ⟨w.heap.size, 1, none⟩ = some (.int .i64 tx)) (go_keep)
    (first
      | (go_at_call 121; have HV := metaValid_any M id root count 1 998 w2 hM2; rw [hval] at HV; refine HV.mono ?_; rintro e w3 ⟨rfl, hb5⟩; have hb6 := hb4.trans (hb5.mono hb4.size); have HX3 := eb_call HX2 hb5; have hM3 := eb_call hM2 hb5; obtain ⟨_, _, _, _, _, _, _, _, d1⟩ := box_slice HX3)
      | (go_at_call 69; refine (oldPages_any w1.drew).mono ?_; rintro e w2 ⟨rfl, hb3⟩; have hb4 := hb2.drew.trans (hb3.mono hb2.size); have HX2 := eb_call (w' := w1.drew) HX1 hb3; have hM2 := eb_call (w' := w1.drew) hM hb3; obtain ⟨_, _, _, _, _, _, _, _, d1⟩ := box_slice HX2))
  all_goals
    clear hb2 hb3 hb4 hb5 HX1 HX2 hM hM2 hmv hav c5 c6 c0 c2 c3 c4 c7 c8 c1
    go_wp2
    go_ret
    exact ⟨rfl, hb6⟩
set_option maxHeartbeats 3200000 in
theorem encBad_branch (tx id root count : Int) (ka : Option Addr) (n kc : Nat) (ks : List PK) (ea : Option Addr) (m ec : Nat) (es : List PE) (next : Int) (data : ByteArray) (w : World) (A B : Nat) (hB : B ≤ w.heap.size) (hK : KidsAt w A B ka n kc ks) (hE : EntsAt w A B ea m ec es)
    (hcond : (decide (id = 0 ∧ root = 0 ∧ count = 0) && decide (m = 0) && decide (next = 0) && data.toList.isEmpty) = true) (htx : tx = 0) (hval : (decide (2 ≤ n) && decide (n ≤ 4) && (ks.getD 0 dK).1.toList.isEmpty && kidsOk 1 998 ks) = false) :
    Calls Try.prog 29 #[.agg #[.int .i64 2, .int .i64 tx, .int .i64 id, .int .i64 root, .int .i64 count, .slice ka n kc, .slice ea m ec, .int .i64 next, .string data]] w fun e w' => e = .returned (.slice none 0 0) ∧ Below w.heap.size w w' := by
  have hb0 : Below w.heap.size w (w.alloc (.cells #[.int .i64 2, .int .i64 tx, .int .i64 id, .int .i64 root, .int .i64 count, .slice ka n kc, .slice ea m ec, .int .i64 next, .string data] 28)) := (Below.refl _ _).alloc (Nat.le_refl _) _
  have HX0 : (w.alloc (.cells #[.int .i64 2, .int .i64 tx, .int .i64 id, .int .i64 root, .int .i64 count, .slice ka n kc, .slice ea m ec, .int .i64 next, .string data] 28)).heap[w.heap.size]? = _ := heap_alloc_new w _
  have st : (tx != 0) = false := by simpa using htx
  have hmv := fun a w => meth_branch_valid a w
  have hav := fun a w => ahead_branch_valid a w
  have hac := fun a w => ahead_branch_count a w
  have haw := fun a w => ahead_branch_write a w
  have hmc := fun a w => meth_branch_count a w
  have hmw := fun a w => meth_branch_write a w
  clear htx
  go_enter Try.func29, Try.ntmps29
  go_wp2_with fail
  generalize w.alloc (.cells #[.int .i64 2, .int .i64 tx, .int .i64 id, .int .i64 root, .int .i64 count, .slice ka n kc, .slice ea m ec, .int .i64 next, .string data] 28) = W0 at hb0 HX0 ⊢
  have HB := bodyOf_branch tx id root count ka n kc ks ea m ec es next data W0 A B (Nat.le_trans hB hb0.size) (hK.below (hb0.mono hB)) (hE.below (hb0.mono hB))
  rw [hcond] at HB
  refine HB.mono ?_
  rintro e w1 ⟨M, rfl, hMl, hM, hb1⟩
  have hb2 := hb0.trans (hb1.mono hb0.size)
  have HX1 := eb_call HX0 hb1
  have hMw : w.heap.size ≤ M := Nat.le_trans hb0.size hMl
  obtain ⟨c5, c6, c0, c2, c3, c4, c7, c8, c1⟩ := box_slice HX1
  clear HB hb1 hb0 HX0 hMl
  simp only [cond_true]
  go_wp2_with fail
  go_region_held3 (fun w' => w'.cell? ⟨w.heap.size, 1, none⟩ = some (.int .i64 tx)) (go_keep)
    (first
      | (go_at_call 129; have HV := branchValid_any M ka n kc ks 1 998 w2 A B (Nat.le_trans hB hb4.size) (hK.below (hb4.mono hB)) hM2; rw [hval] at HV; refine HV.mono ?_; rintro e w3 ⟨rfl, hb5⟩; have hb6 := hb4.trans (hb5.mono hb4.size); have HX3 := eb_call HX2 hb5; have hM3 := eb_call hM2 hb5; obtain ⟨_, _, _, _, _, _, _, _, d1⟩ := box_slice HX3)
      | (go_at_call 69; refine (oldPages_any w1.drew).mono ?_; rintro e w2 ⟨rfl, hb3⟩; have hb4 := hb2.drew.trans (hb3.mono hb2.size); have HX2 := eb_call (w' := w1.drew) HX1 hb3; have hM2 := eb_call (w' := w1.drew) hM hb3; obtain ⟨_, _, _, _, _, _, _, _, d1⟩ := box_slice HX2))
  all_goals
    clear hb2 hb3 hb4 hb5 HX1 HX2 hM hM2 hmv hav c5 c6 c0 c2 c3 c4 c7 c8 c1
    go_wp2
    go_ret
    exact ⟨rfl, hb6⟩
set_option maxHeartbeats 3200000 in
theorem encBad_leaf (tx id root count : Int) (ka : Option Addr) (n kc : Nat) (ks : List PK) (ea : Option Addr) (m ec : Nat) (es : List PE) (next : Int) (data : ByteArray) (w : World) (A B : Nat) (hB : B ≤ w.heap.size) (hK : KidsAt w A B ka n kc ks) (hE : EntsAt w A B ea m ec es)
    (hcond : (decide (id = 0 ∧ root = 0 ∧ count = 0) && decide (n = 0) && decide (next = 0) && data.toList.isEmpty) = true) (htx : tx = 0) (hval : (decide (m ≤ 4) && entsOk 1 998 es) = false) :
    Calls Try.prog 29 #[.agg #[.int .i64 3, .int .i64 tx, .int .i64 id, .int .i64 root, .int .i64 count, .slice ka n kc, .slice ea m ec, .int .i64 next, .string data]] w fun e w' => e = .returned (.slice none 0 0) ∧ Below w.heap.size w w' := by
  have hb0 : Below w.heap.size w (w.alloc (.cells #[.int .i64 3, .int .i64 tx, .int .i64 id, .int .i64 root, .int .i64 count, .slice ka n kc, .slice ea m ec, .int .i64 next, .string data] 28)) := (Below.refl _ _).alloc (Nat.le_refl _) _
  have HX0 : (w.alloc (.cells #[.int .i64 3, .int .i64 tx, .int .i64 id, .int .i64 root, .int .i64 count, .slice ka n kc, .slice ea m ec, .int .i64 next, .string data] 28)).heap[w.heap.size]? = _ := heap_alloc_new w _
  have st : (tx != 0) = false := by simpa using htx
  have hmv := fun a w => meth_leaf_valid a w
  have hav := fun a w => ahead_leaf_valid a w
  have hac := fun a w => ahead_leaf_count a w
  have haw := fun a w => ahead_leaf_write a w
  have hmc := fun a w => meth_leaf_count a w
  have hmw := fun a w => meth_leaf_write a w
  clear htx
  go_enter Try.func29, Try.ntmps29
  go_wp2_with fail
  generalize w.alloc (.cells #[.int .i64 3, .int .i64 tx, .int .i64 id, .int .i64 root, .int .i64 count, .slice ka n kc, .slice ea m ec, .int .i64 next, .string data] 28) = W0 at hb0 HX0 ⊢
  have HB := bodyOf_leaf tx id root count ka n kc ks ea m ec es next data W0 A B (Nat.le_trans hB hb0.size) (hK.below (hb0.mono hB)) (hE.below (hb0.mono hB))
  rw [hcond] at HB
  refine HB.mono ?_
  rintro e w1 ⟨M, rfl, hMl, hM, hb1⟩
  have hb2 := hb0.trans (hb1.mono hb0.size)
  have HX1 := eb_call HX0 hb1
  have hMw : w.heap.size ≤ M := Nat.le_trans hb0.size hMl
  obtain ⟨c5, c6, c0, c2, c3, c4, c7, c8, c1⟩ := box_slice HX1
  clear HB hb1 hb0 HX0 hMl
  simp only [cond_true]
  go_wp2_with fail
  go_region_held3 (fun w' => w'.cell? ⟨w.heap.size, 1, none⟩ = some (.int .i64 tx)) (go_keep)
    (first
      | (go_at_call 137; have HV := leafValid_any M ea m ec es 1 998 (by omega) w2 A B (Nat.le_trans hB hb4.size) (hE.below (hb4.mono hB)) hM2; rw [hval] at HV; refine HV.mono ?_; rintro e w3 ⟨rfl, hb5⟩; have hb6 := hb4.trans (hb5.mono hb4.size); have HX3 := eb_call HX2 hb5; have hM3 := eb_call hM2 hb5; obtain ⟨_, _, _, _, _, _, _, _, d1⟩ := box_slice HX3)
      | (go_at_call 69; refine (oldPages_any w1.drew).mono ?_; rintro e w2 ⟨rfl, hb3⟩; have hb4 := hb2.drew.trans (hb3.mono hb2.size); have HX2 := eb_call (w' := w1.drew) HX1 hb3; have hM2 := eb_call (w' := w1.drew) hM hb3; obtain ⟨_, _, _, _, _, _, _, _, d1⟩ := box_slice HX2))
  all_goals
    clear hb2 hb3 hb4 hb5 HX1 HX2 hM hM2 hmv hav c5 c6 c0 c2 c3 c4 c7 c8 c1
    go_wp2
    go_ret
    exact ⟨rfl, hb6⟩
set_option maxHeartbeats 3200000 in
theorem encBad_over (tx id root count : Int) (ka : Option Addr) (n kc : Nat) (ks : List PK) (ea : Option Addr) (m ec : Nat) (es : List PE) (next : Int) (data : ByteArray) (w : World) (A B : Nat) (hB : B ≤ w.heap.size) (hK : KidsAt w A B ka n kc ks) (hE : EntsAt w A B ea m ec es)
    (hdl : data.size ≤ maxLen) (hcond : (decide (id = 0 ∧ root = 0 ∧ count = 0) && decide (n = 0) && decide (m = 0)) = true) (htx : tx = 0) (hval : (decide (1 ≤ data.size) && decide (data.size ≤ 96) && (decide (next = 0) || (inB 1 998 next && decide (data.size = 96)))) = false) :
    Calls Try.prog 29 #[.agg #[.int .i64 4, .int .i64 tx, .int .i64 id, .int .i64 root, .int .i64 count, .slice ka n kc, .slice ea m ec, .int .i64 next, .string data]] w fun e w' => e = .returned (.slice none 0 0) ∧ Below w.heap.size w w' := by
  have hb0 : Below w.heap.size w (w.alloc (.cells #[.int .i64 4, .int .i64 tx, .int .i64 id, .int .i64 root, .int .i64 count, .slice ka n kc, .slice ea m ec, .int .i64 next, .string data] 28)) := (Below.refl _ _).alloc (Nat.le_refl _) _
  have HX0 : (w.alloc (.cells #[.int .i64 4, .int .i64 tx, .int .i64 id, .int .i64 root, .int .i64 count, .slice ka n kc, .slice ea m ec, .int .i64 next, .string data] 28)).heap[w.heap.size]? = _ := heap_alloc_new w _
  have st : (tx != 0) = false := by simpa using htx
  have hmv := fun a w => meth_over_valid a w
  have hav := fun a w => ahead_over_valid a w
  have hac := fun a w => ahead_over_count a w
  have haw := fun a w => ahead_over_write a w
  have hmc := fun a w => meth_over_count a w
  have hmw := fun a w => meth_over_write a w
  clear htx
  go_enter Try.func29, Try.ntmps29
  go_wp2_with fail
  generalize w.alloc (.cells #[.int .i64 4, .int .i64 tx, .int .i64 id, .int .i64 root, .int .i64 count, .slice ka n kc, .slice ea m ec, .int .i64 next, .string data] 28) = W0 at hb0 HX0 ⊢
  have HB := bodyOf_over tx id root count ka n kc ks ea m ec es next data W0 A B (Nat.le_trans hB hb0.size) (hK.below (hb0.mono hB)) (hE.below (hb0.mono hB))
  rw [hcond] at HB
  refine HB.mono ?_
  rintro e w1 ⟨M, rfl, hMl, hM, hb1⟩
  have hb2 := hb0.trans (hb1.mono hb0.size)
  have HX1 := eb_call HX0 hb1
  have hMw : w.heap.size ≤ M := Nat.le_trans hb0.size hMl
  obtain ⟨c5, c6, c0, c2, c3, c4, c7, c8, c1⟩ := box_slice HX1
  clear HB hb1 hb0 HX0 hMl
  simp only [cond_true]
  go_wp2_with fail
  go_region_held3 (fun w' => w'.cell? ⟨w.heap.size, 1, none⟩ = some (.int .i64 tx)) (go_keep)
    (first
      | (go_at_call 144; have HV := overValid_any M next data hdl 1 998 w2 hM2; rw [hval] at HV; refine HV.mono ?_; rintro e w3 ⟨rfl, hb5⟩; have hb6 := hb4.trans (hb5.mono hb4.size); have HX3 := eb_call HX2 hb5; have hM3 := eb_call hM2 hb5; obtain ⟨_, _, _, _, _, _, _, _, d1⟩ := box_slice HX3)
      | (go_at_call 69; refine (oldPages_any w1.drew).mono ?_; rintro e w2 ⟨rfl, hb3⟩; have hb4 := hb2.drew.trans (hb3.mono hb2.size); have HX2 := eb_call (w' := w1.drew) HX1 hb3; have hM2 := eb_call (w' := w1.drew) hM hb3; obtain ⟨_, _, _, _, _, _, _, _, d1⟩ := box_slice HX2))
  all_goals
    clear hb2 hb3 hb4 hb5 HX1 HX2 hM hM2 hmv hav c5 c6 c0 c2 c3 c4 c7 c8 c1
    go_wp2
    go_ret
    exact ⟨rfl, hb6⟩
end Old
end Go.Proofs.Ytcmhobbpeaeebaa
