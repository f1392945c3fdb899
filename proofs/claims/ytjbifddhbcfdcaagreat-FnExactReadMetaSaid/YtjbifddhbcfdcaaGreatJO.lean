import Derived.Test.YtjbifddhbcfdcaaGreatPgN
import Derived.Test.YtjbifddhbcfdcaaGreatEnP0
import Derived.Test.YtjbifddhbcfdcaaGreatEnPm
import Derived.Test.YtjbifddhbcfdcaaGreatEnPb
import Derived.Test.YtjbifddhbcfdcaaGreatEnPl
import Derived.Test.YtjbifddhbcfdcaaGreatEnPo
namespace Go.Proofs.YtjbifddhbcfdcaaGreat
namespace New
open Go.RowKit
set_option linter.unusedVariables false
set_option maxRecDepth 100000

set_option maxHeartbeats 3200000 in
theorem encBad_meta (tx id root count : Int) (ka : Option Addr) (n kc : Nat) (ks : List PK) (ea : Option Addr) (m ec : Nat) (es : List PE) (next : Int) (data : ByteArray) (w : World) (A B : Nat) (hB : B ≤ w.heap.size) (hK : KidsAt w A B ka n kc ks) (hE : EntsAt w A B ea m ec es)
    (hcond : (decide (n = 0) && decide (m = 0) && decide (next = 0) && data.toList.isEmpty) = true) (htx : inB 1 2000000000 tx = true) (hval : (inB 1 2000000000 id && inB 2 999 root && inB 0 2000000000 count) = false) :
    Calls Tryz.prog 55 #[.agg #[.int .i64 1, .int .i64 tx, .int .i64 id, .int .i64 root, .int .i64 count, .slice ka n kc, .slice ea m ec, .int .i64 next, .string data]] w fun e w' => e = .returned (.slice none 0 0) ∧ Below w.heap.size w w' := by
  have hb0 : Below w.heap.size w (w.alloc (.cells #[.int .i64 1, .int .i64 tx, .int .i64 id, .int .i64 root, .int .i64 count, .slice ka n kc, .slice ea m ec, .int .i64 next, .string data] 54)) := (Below.refl _ _).alloc (Nat.le_refl _) _
  have HX0 : (w.alloc (.cells #[.int .i64 1, .int .i64 tx, .int .i64 id, .int .i64 root, .int .i64 count, .slice ka n kc, .slice ea m ec, .int .i64 next, .string data] 54)).heap[w.heap.size]? = _ := heap_alloc_new w _
  have hmv := fun a w => meth_meta_valid a w
  have hav := fun a w => ahead_meta_valid a w
  have hac := fun a w => ahead_meta_count a w
  have haw := fun a w => ahead_meta_write a w
  have hmc := fun a w => meth_meta_count a w
  have hmw := fun a w => meth_meta_write a w
  go_enter Tryz.func55, Tryz.ntmps55
  go_wp2_with fail
  generalize w.alloc (.cells #[.int .i64 1, .int .i64 tx, .int .i64 id, .int .i64 root, .int .i64 count, .slice ka n kc, .slice ea m ec, .int .i64 next, .string data] 54) = W0 at hb0 HX0 ⊢
  have HB := bodyOf_meta tx id root count ka n kc ks ea m ec es next data W0 A B (Nat.le_trans hB hb0.size) (hK.below (hb0.mono hB)) (hE.below (hb0.mono hB))
  rw [hcond] at HB
  refine HB.mono ?_
  rintro e w1 ⟨M, rfl, hMl, hM, hb1⟩
  have hb2 := hb0.trans (hb1.mono hb0.size)
  have HX1 := eb_call HX0 hb1
  have hMw : w.heap.size ≤ M := Nat.le_trans hb0.size hMl
  obtain ⟨c5, c6, c0, c2, c3, c4, c7, c8, c1⟩ := box_slice HX1
  clear HB hb1 hb0 HX0 hMl
  simp only [cond_true]
  go_wp2_with fail
  go_region_held3 (fun w' => w'.cell? ⟨w.heap.size, 1, none⟩ = some (.int .i64 tx)) (go_keep)
    (first
      | (go_at_call 104; have HV := metaValid_any M id root count 2 999 w2 hM2; rw [hval] at HV; refine HV.mono ?_; rintro e w3 ⟨rfl, hb5⟩; have hb6 := hb4.trans (hb5.mono hb4.size); have HX3 := eb_call HX2 hb5; have hM3 := eb_call hM2 hb5; obtain ⟨_, _, _, _, _, _, _, _, d1⟩ := box_slice HX3)
      | (go_at_call 75; refine (newPages_any w1.drew).mono ?_; rintro e w2 ⟨rfl, hb3⟩; have hb4 := hb2.drew.trans (hb3.mono hb2.size); have HX2 := eb_call (w' := w1.drew) HX1 hb3; have hM2 := eb_call (w' := w1.drew) hM hb3; obtain ⟨_, _, _, _, _, _, _, _, d1⟩ := box_slice HX2)
      | (go_at_call 74; have HI := isStamp_any tx w1.drew; rw [htx] at HI; refine HI.mono ?_; rintro e w1' ⟨rfl, rfl⟩))
  all_goals
    clear hb2 hb3 hb4 hb5 HX1 HX2 hM hM2 hmv hav c5 c6 c0 c2 c3 c4 c7 c8 c1
    go_wp2
    go_ret
    exact ⟨rfl, hb6⟩
set_option maxHeartbeats 3200000 in
theorem encBad_branch (tx id root count : Int) (ka : Option Addr) (n kc : Nat) (ks : List PK) (ea : Option Addr) (m ec : Nat) (es : List PE) (next : Int) (data : ByteArray) (w : World) (A B : Nat) (hB : B ≤ w.heap.size) (hK : KidsAt w A B ka n kc ks) (hE : EntsAt w A B ea m ec es)
    (hcond : (decide (id = 0 ∧ root = 0 ∧ count = 0) && decide (m = 0) && decide (next = 0) && data.toList.isEmpty) = true) (htx : inB 1 2000000000 tx = true) (hval : (decide (2 ≤ n) && decide (n ≤ 4) && (ks.getD 0 dK).1.toList.isEmpty && kidsOk 2 999 ks) = false) :
    Calls Tryz.prog 55 #[.agg #[.int .i64 2, .int .i64 tx, .int .i64 id, .int .i64 root, .int .i64 count, .slice ka n kc, .slice ea m ec, .int .i64 next, .string data]] w fun e w' => e = .returned (.slice none 0 0) ∧ Below w.heap.size w w' := by
  have hb0 : Below w.heap.size w (w.alloc (.cells #[.int .i64 2, .int .i64 tx, .int .i64 id, .int .i64 root, .int .i64 count, .slice ka n kc, .slice ea m ec, .int .i64 next, .string data] 54)) := (Below.refl _ _).alloc (Nat.le_refl _) _
  have HX0 : (w.alloc (.cells #[.int .i64 2, .int .i64 tx, .int .i64 id, .int .i64 root, .int .i64 count, .slice ka n kc, .slice ea m ec, .int .i64 next, .string data] 54)).heap[w.heap.size]? = _ := heap_alloc_new w _
  have hmv := fun a w => meth_branch_valid a w
  have hav := fun a w => ahead_branch_valid a w
  have hac := fun a w => ahead_branch_count a w
  have haw := fun a w => ahead_branch_write a w
  have hmc := fun a w => meth_branch_count a w
  have hmw := fun a w => meth_branch_write a w
  go_enter Tryz.func55, Tryz.ntmps55
  go_wp2_with fail
  generalize w.alloc (.cells #[.int .i64 2, .int .i64 tx, .int .i64 id, .int .i64 root, .int .i64 count, .slice ka n kc, .slice ea m ec, .int .i64 next, .string data] 54) = W0 at hb0 HX0 ⊢
  have HB := bodyOf_branch tx id root count ka n kc ks ea m ec es next data W0 A B (Nat.le_trans hB hb0.size) (hK.below (hb0.mono hB)) (hE.below (hb0.mono hB))
  rw [hcond] at HB
  refine HB.mono ?_
  rintro e w1 ⟨M, rfl, hMl, hM, hb1⟩
  have hb2 := hb0.trans (hb1.mono hb0.size)
  have HX1 := eb_call HX0 hb1
  have hMw : w.heap.size ≤ M := Nat.le_trans hb0.size hMl
  obtain ⟨c5, c6, c0, c2, c3, c4, c7, c8, c1⟩ := box_slice HX1
  clear HB hb1 hb0 HX0 hMl
  simp only [cond_true]
  go_wp2_with fail
  go_region_held3 (fun w' => w'.cell? ⟨w.heap.size, 1, none⟩ = some (.int .i64 tx)) (go_keep)
    (first
      | (go_at_call 113; have HV := branchValid_any M ka n kc ks 2 999 w2 A B (Nat.le_trans hB hb4.size) (hK.below (hb4.mono hB)) hM2; rw [hval] at HV; refine HV.mono ?_; rintro e w3 ⟨rfl, hb5⟩; have hb6 := hb4.trans (hb5.mono hb4.size); have HX3 := eb_call HX2 hb5; have hM3 := eb_call hM2 hb5; obtain ⟨_, _, _, _, _, _, _, _, d1⟩ := box_slice HX3)
      | (go_at_call 75; refine (newPages_any w1.drew).mono ?_; rintro e w2 ⟨rfl, hb3⟩; have hb4 := hb2.drew.trans (hb3.mono hb2.size); have HX2 := eb_call (w' := w1.drew) HX1 hb3; have hM2 := eb_call (w' := w1.drew) hM hb3; obtain ⟨_, _, _, _, _, _, _, _, d1⟩ := box_slice HX2)
      | (go_at_call 74; have HI := isStamp_any tx w1.drew; rw [htx] at HI; refine HI.mono ?_; rintro e w1' ⟨rfl, rfl⟩))
  all_goals
    clear hb2 hb3 hb4 hb5 HX1 HX2 hM hM2 hmv hav c5 c6 c0 c2 c3 c4 c7 c8 c1
    go_wp2
    go_ret
    exact ⟨rfl, hb6⟩
set_option maxHeartbeats 3200000 in
theorem encBad_leaf (tx id root count : Int) (ka : Option Addr) (n kc : Nat) (ks : List PK) (ea : Option Addr) (m ec : Nat) (es : List PE) (next : Int) (data : ByteArray) (w : World) (A B : Nat) (hB : B ≤ w.heap.size) (hK : KidsAt w A B ka n kc ks) (hE : EntsAt w A B ea m ec es)
    (hcond : (decide (id = 0 ∧ root = 0 ∧ count = 0) && decide (n = 0) && decide (next = 0) && data.toList.isEmpty) = true) (htx : inB 1 2000000000 tx = true) (hval : (decide (m ≤ 4) && entsOk 2 999 es) = false) :
    Calls Tryz.prog 55 #[.agg #[.int .i64 3, .int .i64 tx, .int .i64 id, .int .i64 root, .int .i64 count, .slice ka n kc, .slice ea m ec, .int .i64 next, .string data]] w fun e w' => e = .returned (.slice none 0 0) ∧ Below w.heap.size w w' := by
  have hb0 : Below w.heap.size w (w.alloc (.cells #[.int .i64 3, .int .i64 tx, .int .i64 id, .int .i64 root, .int .i64 count, .slice ka n kc, .slice ea m ec, .int .i64 next, .string data] 54)) := (Below.refl _ _).alloc (Nat.le_refl _) _
  have HX0 : (w.alloc (.cells #[.int .i64 3, .int .i64 tx, .int .i64 id, .int .i64 root, .int .i64 count, .slice ka n kc, .slice ea m ec, .int .i64 next, .string data] 54)).heap[w.heap.size]? = _ := heap_alloc_new w _
  have hmv := fun a w => meth_leaf_valid a w
  have hav := fun a w => ahead_leaf_valid a w
  have hac := fun a w => ahead_leaf_count a w
  have haw := fun a w => ahead_leaf_write a w
  have hmc := fun a w => meth_leaf_count a w
  have hmw := fun a w => meth_leaf_write a w
  go_enter Tryz.func55, Tryz.ntmps55
  go_wp2_with fail
  generalize w.alloc (.cells #[.int .i64 3, .int .i64 tx, .int .i64 id, .int .i64 root, .int .i64 count, .slice ka n kc, .slice ea m ec, .int .i64 next, .string data] 54) = W0 at hb0 HX0 ⊢
  have HB := bodyOf_leaf tx id root count ka n kc ks ea m ec es next data W0 A B (Nat.le_trans hB hb0.size) (hK.below (hb0.mono hB)) (hE.below (hb0.mono hB))
  rw [hcond] at HB
  refine HB.mono ?_
  rintro e w1 ⟨M, rfl, hMl, hM, hb1⟩
  have hb2 := hb0.trans (hb1.mono hb0.size)
  have HX1 := eb_call HX0 hb1
  have hMw : w.heap.size ≤ M := Nat.le_trans hb0.size hMl
  obtain ⟨c5, c6, c0, c2, c3, c4, c7, c8, c1⟩ := box_slice HX1
  clear HB hb1 hb0 HX0 hMl
  simp only [cond_true]
  go_wp2_with fail
  go_region_held3 (fun w' => w'.cell? ⟨w.heap.size, 1, none⟩ = some (.int .i64 tx)) (go_keep)
    (first
      | (go_at_call 121; have HV := leafValid_any M ea m ec es 2 999 (by omega) w2 A B (Nat.le_trans hB hb4.size) (hE.below (hb4.mono hB)) hM2; rw [hval] at HV; refine HV.mono ?_; rintro e w3 ⟨rfl, hb5⟩; have hb6 := hb4.trans (hb5.mono hb4.size); have HX3 := eb_call HX2 hb5; have hM3 := eb_call hM2 hb5; obtain ⟨_, _, _, _, _, _, _, _, d1⟩ := box_slice HX3)
      | (go_at_call 75; refine (newPages_any w1.drew).mono ?_; rintro e w2 ⟨rfl, hb3⟩; have hb4 := hb2.drew.trans (hb3.mono hb2.size); have HX2 := eb_call (w' := w1.drew) HX1 hb3; have hM2 := eb_call (w' := w1.drew) hM hb3; obtain ⟨_, _, _, _, _, _, _, _, d1⟩ := box_slice HX2)
      | (go_at_call 74; have HI := isStamp_any tx w1.drew; rw [htx] at HI; refine HI.mono ?_; rintro e w1' ⟨rfl, rfl⟩))
  all_goals
    clear hb2 hb3 hb4 hb5 HX1 HX2 hM hM2 hmv hav c5 c6 c0 c2 c3 c4 c7 c8 c1
    go_wp2
    go_ret
    exact ⟨rfl, hb6⟩
set_option maxHeartbeats 3200000 in
theorem encBad_over (tx id root count : Int) (ka : Option Addr) (n kc : Nat) (ks : List PK) (ea : Option Addr) (m ec : Nat) (es : List PE) (next : Int) (data : ByteArray) (w : World) (A B : Nat) (hB : B ≤ w.heap.size) (hK : KidsAt w A B ka n kc ks) (hE : EntsAt w A B ea m ec es)
    (hdl : data.size ≤ maxLen) (hcond : (decide (id = 0 ∧ root = 0 ∧ count = 0) && decide (n = 0) && decide (m = 0)) = true) (htx : inB 1 2000000000 tx = true) (hval : (decide (1 ≤ data.size) && decide (data.size ≤ 96) && (decide (next = 0) || (inB 2 999 next && decide (data.size = 96)))) = false) :
    Calls Tryz.prog 55 #[.agg #[.int .i64 4, .int .i64 tx, .int .i64 id, .int .i64 root, .int .i64 count, .slice ka n kc, .slice ea m ec, .int .i64 next, .string data]] w fun e w' => e = .returned (.slice none 0 0) ∧ Below w.heap.size w w' := by
  have hb0 : Below w.heap.size w (w.alloc (.cells #[.int .i64 4, .int .i64 tx, .int .i64 id, .int .i64 root, .int .i64 count, .slice ka n kc, .slice ea m ec, .int .i64 next, .string data] 54)) := (Below.refl _ _).alloc (Nat.le_refl _) _
  have HX0 : (w.alloc (.cells #[.int .i64 4, .int .i64 tx, .int .i64 id, .int .i64 root, .int .i64 count, .slice ka n kc, .slice ea m ec, .int .i64 next, .string data] 54)).heap[w.heap.size]? = _ := heap_alloc_new w _
  have hmv := fun a w => meth_over_valid a w
  have hav := fun a w => ahead_over_valid a w
  have hac := fun a w => ahead_over_count a w
  have haw := fun a w => ahead_over_write a w
  have hmc := fun a w => meth_over_count a w
  have hmw := fun a w => meth_over_write a w
  go_enter Tryz.func55, Tryz.ntmps55
  go_wp2_with fail
  generalize w.alloc (.cells #[.int .i64 4, .int .i64 tx, .int .i64 id, .int .i64 root, .int .i64 count, .slice ka n kc, .slice ea m ec, .int .i64 next, .string data] 54) = W0 at hb0 HX0 ⊢
  have HB := bodyOf_over tx id root count ka n kc ks ea m ec es next data W0 A B (Nat.le_trans hB hb0.size) (hK.below (hb0.mono hB)) (hE.below (hb0.mono hB))
  rw [hcond] at HB
  refine HB.mono ?_
  rintro e w1 ⟨M, rfl, hMl, hM, hb1⟩
  have hb2 := hb0.trans (hb1.mono hb0.size)
  have HX1 := eb_call HX0 hb1
  have hMw : w.heap.size ≤ M := Nat.le_trans hb0.size hMl
  obtain ⟨c5, c6, c0, c2, c3, c4, c7, c8, c1⟩ := box_slice HX1
  clear HB hb1 hb0 HX0 hMl
  simp only [cond_true]
  go_wp2_with fail
  go_region_held3 (fun w' => w'.cell? ⟨w.heap.size, 1, none⟩ = some (.int .i64 tx)) (go_keep)
    (first
      | (go_at_call 128; have HV := overValid_any M next data hdl 2 999 w2 hM2; rw [hval] at HV; refine HV.mono ?_; rintro e w3 ⟨rfl, hb5⟩; have hb6 := hb4.trans (hb5.mono hb4.size); have HX3 := eb_call HX2 hb5; have hM3 := eb_call hM2 hb5; obtain ⟨_, _, _, _, _, _, _, _, d1⟩ := box_slice HX3)
      | (go_at_call 75; refine (newPages_any w1.drew).mono ?_; rintro e w2 ⟨rfl, hb3⟩; have hb4 := hb2.drew.trans (hb3.mono hb2.size); have HX2 := eb_call (w' := w1.drew) HX1 hb3; have hM2 := eb_call (w' := w1.drew) hM hb3; obtain ⟨_, _, _, _, _, _, _, _, d1⟩ := box_slice HX2)
      | (go_at_call 74; have HI := isStamp_any tx w1.drew; rw [htx] at HI; refine HI.mono ?_; rintro e w1' ⟨rfl, rfl⟩))
  all_goals
    clear hb2 hb3 hb4 hb5 HX1 HX2 hM hM2 hmv hav c5 c6 c0 c2 c3 c4 c7 c8 c1
    go_wp2
    go_ret
    exact ⟨rfl, hb6⟩
end New
end Go.Proofs.YtjbifddhbcfdcaaGreat
namespace Go.Proofs.YtjbifddhbcfdcaaGreat
namespace New
open Go.RowKit
set_option linter.unusedVariables false
set_option maxRecDepth 100000

set_option maxHeartbeats 1600000 in
theorem bodyOf_nil (kind tx id root count : Int) (hk1 : kind ≠ 1) (hk2 : kind ≠ 2) (hk3 : kind ≠ 3) (hk4 : kind ≠ 4) (ka : Option Addr) (n kc : Nat) (ea : Option Addr) (m ec : Nat) (next : Int) (data : ByteArray) (w : World) :
    Calls Tryz.prog 73 #[.agg #[.int .i64 kind, .int .i64 tx, .int .i64 id, .int .i64 root, .int .i64 count, .slice ka n kc, .slice ea m ec, .int .i64 next, .string data]] w fun e w' => e = .returned .nilIface ∧ Below w.heap.size w w' := by
  have hb0 : Below w.heap.size w (w.alloc (.cells #[.int .i64 kind, .int .i64 tx, .int .i64 id, .int .i64 root, .int .i64 count, .slice ka n kc, .slice ea m ec, .int .i64 next, .string data] 54)) := (Below.refl _ _).alloc (Nat.le_refl _) _
  go_enter Tryz.func73, Tryz.ntmps73
  go_wp2_with fail
  generalize w.alloc (.cells #[.int .i64 kind, .int .i64 tx, .int .i64 id, .int .i64 root, .int .i64 count, .slice ka n kc, .slice ea m ec, .int .i64 next, .string data] 54) = W0 at hb0 ⊢
  refine (kindBody_nil kind tx id root count hk1 hk2 hk3 hk4 ka n kc ea m ec next data W0).mono ?_
  rintro e w1 ⟨rfl, hb1⟩
  have hb2 := hb0.trans (hb1.mono hb0.size)
  clear hb0 hb1
  go_wp2
  go_ret
  exact ⟨rfl, hb2⟩
set_option maxHeartbeats 1600000 in
theorem encNew_nil (kind tx id root count : Int) (ka : Option Addr) (n kc : Nat) (ea : Option Addr) (m ec : Nat) (next : Int) (data : ByteArray) (w : World)
    (H : ∀ W0 : World, Below w.heap.size w W0 → Calls Tryz.prog 73 #[.agg #[.int .i64 kind, .int .i64 tx, .int .i64 id, .int .i64 root, .int .i64 count, .slice ka n kc, .slice ea m ec, .int .i64 next, .string data]] W0 fun e w' => e = .returned .nilIface ∧ Below W0.heap.size W0 w') :
    Calls Tryz.prog 55 #[.agg #[.int .i64 kind, .int .i64 tx, .int .i64 id, .int .i64 root, .int .i64 count, .slice ka n kc, .slice ea m ec, .int .i64 next, .string data]] w fun e w' => e = .returned (.slice none 0 0) ∧ Below w.heap.size w w' := by
  have hb0 : Below w.heap.size w (w.alloc (.cells #[.int .i64 kind, .int .i64 tx, .int .i64 id, .int .i64 root, .int .i64 count, .slice ka n kc, .slice ea m ec, .int .i64 next, .string data] 54)) := (Below.refl _ _).alloc (Nat.le_refl _) _
  go_enter Tryz.func55, Tryz.ntmps55
  go_wp2_with fail
  generalize w.alloc (.cells #[.int .i64 kind, .int .i64 tx, .int .i64 id, .int .i64 root, .int .i64 count, .slice ka n kc, .slice ea m ec, .int .i64 next, .string data] 54) = W0 at hb0 ⊢
  refine (H W0 hb0).mono ?_
  rintro e w1 ⟨rfl, hb1⟩
  have hb2 := hb0.trans (hb1.mono hb0.size)
  have hbq : ∀ q, Below w.heap.size w (w1.drewN q) := fun q => hb2.trans ⟨rfl, rfl, rfl, Nat.le_refl _, fun _ _ => rfl⟩
  clear hb0 hb1 H
  go_wp2_with fail
  go_quiet (fail)
  go_wp2
  go_ret
  exact ⟨rfl, hbq _⟩
set_option maxHeartbeats 1600000 in
theorem encNew_tx (T : TypeId) (kind tx id root count : Int) (htx : inB 1 2000000000 tx = false) (ka : Option Addr) (n kc : Nat) (ea : Option Addr) (m ec : Nat) (next : Int) (data : ByteArray) (w : World)
    (H : ∀ W0 : World, Below w.heap.size w W0 → Calls Tryz.prog 73 #[.agg #[.int .i64 kind, .int .i64 tx, .int .i64 id, .int .i64 root, .int .i64 count, .slice ka n kc, .slice ea m ec, .int .i64 next, .string data]] W0 fun e w' => ∃ M, e = .returned (.iface T (.pointer (some ⟨M, 0, none⟩))) ∧ Below W0.heap.size W0 w') :
    Calls Tryz.prog 55 #[.agg #[.int .i64 kind, .int .i64 tx, .int .i64 id, .int .i64 root, .int .i64 count, .slice ka n kc, .slice ea m ec, .int .i64 next, .string data]] w fun e w' => e = .returned (.slice none 0 0) ∧ Below w.heap.size w w' := by
  have hb0 : Below w.heap.size w (w.alloc (.cells #[.int .i64 kind, .int .i64 tx, .int .i64 id, .int .i64 root, .int .i64 count, .slice ka n kc, .slice ea m ec, .int .i64 next, .string data] 54)) := (Below.refl _ _).alloc (Nat.le_refl _) _
  have HX0 : (w.alloc (.cells #[.int .i64 kind, .int .i64 tx, .int .i64 id, .int .i64 root, .int .i64 count, .slice ka n kc, .slice ea m ec, .int .i64 next, .string data] 54)).heap[w.heap.size]? = _ := heap_alloc_new w _
  go_enter Tryz.func55, Tryz.ntmps55
  go_wp2_with fail
  generalize w.alloc (.cells #[.int .i64 kind, .int .i64 tx, .int .i64 id, .int .i64 root, .int .i64 count, .slice ka n kc, .slice ea m ec, .int .i64 next, .string data] 54) = W0 at hb0 HX0 ⊢
  refine (H W0 hb0).mono ?_
  rintro e w1 ⟨M, rfl, hb1⟩
  have hb2 := hb0.trans (hb1.mono hb0.size)
  have HX1 := eb_call HX0 hb1
  obtain ⟨c5, c6, c0, c2, c3, c4, c7, c8, c1⟩ := box_slice HX1
  have hbq : ∀ q, Below w.heap.size w (w1.drewN q) := fun q => hb2.trans ⟨rfl, rfl, rfl, Nat.le_refl _, fun _ _ => rfl⟩
  clear hb0 hb1 H HX0 HX1
  go_wp2_with fail
  first | (go_region_with (go_at_call 74; have HI := isStamp_any tx w1.drew; rw [htx] at HI; refine HI.mono ?_; rintro e w1' ⟨rfl, rfl⟩)) | fail
  all_goals
    go_wp2
    go_ret
    exact ⟨rfl, hb2.drew⟩
end New
end Go.Proofs.YtjbifddhbcfdcaaGreat
namespace Go.Proofs.YtjbifddhbcfdcaaGreat
namespace New
open Go.RowKit
set_option linter.unusedVariables false
set_option maxRecDepth 100000

def Enc (p : Pg) (ka : Option Addr) (kc : Nat) (ea : Option Addr) (ec : Nat) (w : World) : Prop :=
  Calls Tryz.prog 55 #[.agg #[.int .i64 p.kind, .int .i64 p.tx, .int .i64 p.id, .int .i64 p.root, .int .i64 p.count, .slice ka p.ks.length kc, .slice ea p.es.length ec, .int .i64 p.next, .string p.data]] w fun e w' => ∃ v, e = .returned v ∧ w'.ownsRow w.heap.size 5 1 v (newCodeOf p).length (u8s (newCodeOf p)) ∧ Below w.heap.size w w'
theorem enc_nil {p : Pg} {ka : Option Addr} {kc : Nat} {ea : Option Addr} {ec : Nat} {w : World} (h0 : ¬ (inB 1 2000000000 p.tx = true ∧ bodyOk 2 999 p = true))
    (h : Calls Tryz.prog 55 #[.agg #[.int .i64 p.kind, .int .i64 p.tx, .int .i64 p.id, .int .i64 p.root, .int .i64 p.count, .slice ka p.ks.length kc, .slice ea p.es.length ec, .int .i64 p.next, .string p.data]] w fun e w' => e = .returned (.slice none 0 0) ∧ Below w.heap.size w w') : Enc p ka kc ea ec w := by
  refine h.mono ?_
  rintro e w' ⟨rfl, hb⟩
  refine ⟨_, rfl, ?_, hb⟩
  rw [newCodeOf, if_neg h0]
  exact World.ownsRow_nil _ _ _ _
theorem seal_len (tx : Int) {l : List Int} (h : l.length ≤ 120) : (sealN tx l).length = 128 := by simp [sealN, padB, leB_len]; omega
theorem enc_good {p : Pg} {ka : Option Addr} {kc : Nat} {ea : Option Addr} {ec : Nat} {w : World} (htx : inB 1 2000000000 p.tx = true) (hok : bodyOk 2 999 p = true) (c : Int) (b : List Int) (hc : c = ((p.ks.length + p.es.length : Nat) : Int)) (hb : b = bodyB false p)
    (h : Calls Tryz.prog 55 #[.agg #[.int .i64 p.kind, .int .i64 p.tx, .int .i64 p.id, .int .i64 p.root, .int .i64 p.count, .slice ka p.ks.length kc, .slice ea p.es.length ec, .int .i64 p.next, .string p.data]] w fun e w' => ∃ v, e = .returned v ∧ w'.ownsRow w.heap.size 5 1 v 128 (u8s (sealN p.tx (headN p.tx p.kind c b))) ∧ Below w.heap.size w w') : Enc p ka kc ea ec w := by
  refine h.mono ?_
  rintro e w' ⟨v, rfl, ho, hbl⟩
  refine ⟨_, rfl, ?_, hbl⟩
  have e1 : newCodeOf p = sealN p.tx (headN p.tx p.kind c b) := by
    rw [newCodeOf, if_pos ⟨htx, hok⟩, headN_eq, hc, hb]
    rfl
  have hl := bodyB_len false hok
  rw [e1, seal_len _ (by simp [headN, hb, leB_len]; omega)]
  exact ho

theorem cond_of {b : Bool} {α : Type} (x y : α) (h : b = true) : cond b x y = x := by rw [h]; rfl
theorem cond_not {b : Bool} {α : Type} (x y : α) (h : b = false) : cond b x y = y := by rw [h]; rfl

theorem encodePage_any (p : Pg) (hf : PgFit p) (ka : Option Addr) (kc : Nat) (ea : Option Addr) (ec : Nat) (w : World) (A B : Nat) (hB : B ≤ w.heap.size) (hK : KidsAt w A B ka p.ks.length kc p.ks) (hE : EntsAt w A B ea p.es.length ec p.es) : Enc p ka kc ea ec w := by
  obtain ⟨kind, tx, id, root, count, ks, es, next, data⟩ := p
  have hfi := hf.id
  have ht := hf.tx
  have hfr := hf.root
  have hfc := hf.count
  have hfn := hf.next
  have hfd := hf.data
  simp only at hK hE hfi hfr hfc hfn hfd ht
  by_cases h1 : kind = 1
  · subst h1
    have hbo : bodyOk 2 999 ⟨1, tx, id, root, count, ks, es, next, data⟩ = ((inB 1 2000000000 id && inB 2 999 root && inB 0 2000000000 count) && (decide (ks.length = 0) && decide (es.length = 0) && decide (next = 0) && data.toList.isEmpty)) := by
      simp only [bodyOk, if_pos, metaOk, Bool.and_assoc]
    have HB := fun W0 (hb : Below w.heap.size w W0) => bodyOf_meta tx id root count ka ks.length kc ks ea es.length ec es next data W0 A B (Nat.le_trans hB hb.size) (hK.below (hb.mono hB)) (hE.below (hb.mono hB))
    by_cases hc : (decide (ks.length = 0) && decide (es.length = 0) && decide (next = 0) && data.toList.isEmpty) = true
    · by_cases htx : inB 1 2000000000 tx = true
      · by_cases hv : (inB 1 2000000000 id && inB 2 999 root && inB 0 2000000000 count) = true
        · refine enc_good htx (by rw [hbo, hv, hc]; rfl) 0 _ ?_ rfl (encNew_meta tx id root count hfi hfr hfc ka ks.length kc ks ea es.length ec es next data w A B hB hK hE hc ht htx hv)
          simp only [Bool.and_eq_true, decide_eq_true_eq] at hc
          simp [hc.1.1.1, hc.1.1.2]
        · have hv' : (inB 1 2000000000 id && inB 2 999 root && inB 0 2000000000 count) = false := by simpa using hv
          exact enc_nil (by rw [hbo, hv']; simp) (encBad_meta tx id root count ka ks.length kc ks ea es.length ec es next data w A B hB hK hE hc htx hv')
      · exact enc_nil (fun h => htx h.1) (encNew_tx 150 1 tx id root count (by simpa using htx) ka ks.length kc ea es.length ec next data w (fun W0 hb => (HB W0 hb).mono fun e w' ⟨M, he, _, _, hb'⟩ => ⟨M, by rw [he, cond_of _ _ hc], hb'⟩))
    · have hc' : (decide (ks.length = 0) && decide (es.length = 0) && decide (next = 0) && data.toList.isEmpty) = false := by simpa using hc
      exact enc_nil (by rw [hbo, hc']; simp) (encNew_nil 1 tx id root count ka ks.length kc ea es.length ec next data w (fun W0 hb => (HB W0 hb).mono fun e w' ⟨M, he, _, _, hb'⟩ => ⟨by rw [he, cond_not _ _ hc'], hb'⟩))
  by_cases h2 : kind = 2
  · subst h2
    have hbo : bodyOk 2 999 ⟨2, tx, id, root, count, ks, es, next, data⟩ = ((decide (id = 0 ∧ root = 0 ∧ count = 0) && decide (es.length = 0) && decide (next = 0) && data.toList.isEmpty) && (decide (2 ≤ ks.length) && decide (ks.length ≤ 4) && (ks.getD 0 dK).1.toList.isEmpty && kidsOk 2 999 ks)) := by
      simp [bodyOk, branchOk, noMeta, Bool.and_assoc]
    have HB := fun W0 (hb : Below w.heap.size w W0) => bodyOf_branch tx id root count ka ks.length kc ks ea es.length ec es next data W0 A B (Nat.le_trans hB hb.size) (hK.below (hb.mono hB)) (hE.below (hb.mono hB))
    by_cases hc : (decide (id = 0 ∧ root = 0 ∧ count = 0) && decide (es.length = 0) && decide (next = 0) && data.toList.isEmpty) = true
    · by_cases htx : inB 1 2000000000 tx = true
      · by_cases hv : (decide (2 ≤ ks.length) && decide (ks.length ≤ 4) && (ks.getD 0 dK).1.toList.isEmpty && kidsOk 2 999 ks) = true
        · have hok : bodyOk 2 999 ⟨2, tx, id, root, count, ks, es, next, data⟩ = true := by rw [hbo, hv, hc]; rfl
          have hsz := branch_sizes (low := 2) (last := 999) (p := ⟨2, tx, id, root, count, ks, es, next, data⟩) (by simpa [bodyOk] using hok)
          refine enc_good htx hok (ks.length : Int) _ ?_ rfl (encNew_branch tx id root count ka ks.length kc ks ea es.length ec es next data w A B hB hK hE hsz.1 hsz.2 hc ht htx hv)
          simp only [Bool.and_eq_true, decide_eq_true_eq] at hc
          simp [hc.1.1.2]
        · have hv' : (decide (2 ≤ ks.length) && decide (ks.length ≤ 4) && (ks.getD 0 dK).1.toList.isEmpty && kidsOk 2 999 ks) = false := by simpa using hv
          exact enc_nil (by rw [hbo, hv']; simp) (encBad_branch tx id root count ka ks.length kc ks ea es.length ec es next data w A B hB hK hE hc htx hv')
      · exact enc_nil (fun h => htx h.1) (encNew_tx 153 2 tx id root count (by simpa using htx) ka ks.length kc ea es.length ec next data w (fun W0 hb => (HB W0 hb).mono fun e w' ⟨M, he, _, _, hb'⟩ => ⟨M, by rw [he, cond_of _ _ hc], hb'⟩))
    · have hc' : (decide (id = 0 ∧ root = 0 ∧ count = 0) && decide (es.length = 0) && decide (next = 0) && data.toList.isEmpty) = false := by simpa using hc
      exact enc_nil (by rw [hbo, hc']; simp) (encNew_nil 2 tx id root count ka ks.length kc ea es.length ec next data w (fun W0 hb => (HB W0 hb).mono fun e w' ⟨M, he, _, _, hb'⟩ => ⟨by rw [he, cond_not _ _ hc'], hb'⟩))
  by_cases h3 : kind = 3
  · subst h3
    have hbo : bodyOk 2 999 ⟨3, tx, id, root, count, ks, es, next, data⟩ = ((decide (id = 0 ∧ root = 0 ∧ count = 0) && decide (ks.length = 0) && decide (next = 0) && data.toList.isEmpty) && (decide (es.length ≤ 4) && entsOk 2 999 es)) := by
      simp [bodyOk, leafOk, noMeta, Bool.and_assoc]
    have HB := fun W0 (hb : Below w.heap.size w W0) => bodyOf_leaf tx id root count ka ks.length kc ks ea es.length ec es next data W0 A B (Nat.le_trans hB hb.size) (hK.below (hb.mono hB)) (hE.below (hb.mono hB))
    by_cases hc : (decide (id = 0 ∧ root = 0 ∧ count = 0) && decide (ks.length = 0) && decide (next = 0) && data.toList.isEmpty) = true
    · by_cases htx : inB 1 2000000000 tx = true
      · by_cases hv : (decide (es.length ≤ 4) && entsOk 2 999 es) = true
        · have hok : bodyOk 2 999 ⟨3, tx, id, root, count, ks, es, next, data⟩ = true := by rw [hbo, hv, hc]; rfl
          have hsz := leaf_sizes (low := 2) (last := 999) (p := ⟨3, tx, id, root, count, ks, es, next, data⟩) (by simpa [bodyOk] using hok)
          refine enc_good htx hok (es.length : Int) _ ?_ rfl (encNew_leaf tx id root count ka ks.length kc ks ea es.length ec es next data w A B hB hK hE hsz.1 hsz.2 hc ht htx hv)
          simp only [Bool.and_eq_true, decide_eq_true_eq] at hc
          simp [hc.1.1.2]
        · have hv' : (decide (es.length ≤ 4) && entsOk 2 999 es) = false := by simpa using hv
          exact enc_nil (by rw [hbo, hv']; simp) (encBad_leaf tx id root count ka ks.length kc ks ea es.length ec es next data w A B hB hK hE hc htx hv')
      · exact enc_nil (fun h => htx h.1) (encNew_tx 156 3 tx id root count (by simpa using htx) ka ks.length kc ea es.length ec next data w (fun W0 hb => (HB W0 hb).mono fun e w' ⟨M, he, _, _, hb'⟩ => ⟨M, by rw [he, cond_of _ _ hc], hb'⟩))
    · have hc' : (decide (id = 0 ∧ root = 0 ∧ count = 0) && decide (ks.length = 0) && decide (next = 0) && data.toList.isEmpty) = false := by simpa using hc
      exact enc_nil (by rw [hbo, hc']; simp) (encNew_nil 3 tx id root count ka ks.length kc ea es.length ec next data w (fun W0 hb => (HB W0 hb).mono fun e w' ⟨M, he, _, _, hb'⟩ => ⟨by rw [he, cond_not _ _ hc'], hb'⟩))
  by_cases h4 : kind = 4
  · subst h4
    have hbo : bodyOk 2 999 ⟨4, tx, id, root, count, ks, es, next, data⟩ = ((decide (id = 0 ∧ root = 0 ∧ count = 0) && decide (ks.length = 0) && decide (es.length = 0)) && (decide (1 ≤ data.size) && decide (data.size ≤ 96) && (decide (next = 0) || (inB 2 999 next && decide (data.size = 96))))) := by
      simp [bodyOk, overOk, noMeta, Bool.and_assoc]
    have HB := fun W0 (hb : Below w.heap.size w W0) => bodyOf_over tx id root count ka ks.length kc ks ea es.length ec es next data W0 A B (Nat.le_trans hB hb.size) (hK.below (hb.mono hB)) (hE.below (hb.mono hB))
    by_cases hc : (decide (id = 0 ∧ root = 0 ∧ count = 0) && decide (ks.length = 0) && decide (es.length = 0)) = true
    · by_cases htx : inB 1 2000000000 tx = true
      · by_cases hv : (decide (1 ≤ data.size) && decide (data.size ≤ 96) && (decide (next = 0) || (inB 2 999 next && decide (data.size = 96)))) = true
        · have hok : bodyOk 2 999 ⟨4, tx, id, root, count, ks, es, next, data⟩ = true := by rw [hbo, hv, hc]; rfl
          have hsz := over_size (low := 2) (last := 999) (p := ⟨4, tx, id, root, count, ks, es, next, data⟩) (by simpa [bodyOk] using hok)
          refine enc_good htx hok 0 _ ?_ rfl (encNew_over tx id root count ka ks.length kc ks ea es.length ec es next data w A B hB hK hE hfn hsz hc ht htx hv)
          simp only [Bool.and_eq_true, decide_eq_true_eq] at hc
          simp [hc.1.2, hc.2]
        · have hv' : (decide (1 ≤ data.size) && decide (data.size ≤ 96) && (decide (next = 0) || (inB 2 999 next && decide (data.size = 96)))) = false := by simpa using hv
          exact enc_nil (by rw [hbo, hv']; simp) (encBad_over tx id root count ka ks.length kc ks ea es.length ec es next data w A B hB hK hE hfd hc htx hv')
      · exact enc_nil (fun h => htx h.1) (encNew_tx 159 4 tx id root count (by simpa using htx) ka ks.length kc ea es.length ec next data w (fun W0 hb => (HB W0 hb).mono fun e w' ⟨M, he, _, _, hb'⟩ => ⟨M, by rw [he, cond_of _ _ hc], hb'⟩))
    · have hc' : (decide (id = 0 ∧ root = 0 ∧ count = 0) && decide (ks.length = 0) && decide (es.length = 0)) = false := by simpa using hc
      exact enc_nil (by rw [hbo, hc']; simp) (encNew_nil 4 tx id root count ka ks.length kc ea es.length ec next data w (fun W0 hb => (HB W0 hb).mono fun e w' ⟨M, he, _, _, hb'⟩ => ⟨by rw [he, cond_not _ _ hc'], hb'⟩))
  · exact enc_nil (by simp [bodyOk, h1, h2, h3, h4]) (encNew_nil kind tx id root count ka ks.length kc ea es.length ec next data w (fun W0 hb => bodyOf_nil kind tx id root count h1 h2 h3 h4 ka ks.length kc ea es.length ec next data W0))
end New
end Go.Proofs.YtjbifddhbcfdcaaGreat
namespace Go.Proofs.YtjbifddhbcfdcaaGreat
open Go.RowKit
set_option linter.unusedVariables false
set_option maxRecDepth 100000

theorem codeN_len (p : Pg) : (newCodeOf p).length ≤ 128 := by
  unfold newCodeOf
  split
  · rename_i h
    have hl := bodyB_len false h.2
    rw [New.seal_len _ (by simp [newHead, leB_len]; omega)]
    omega
  · simp
theorem codeN_byte (p : Pg) : ∀ x ∈ newCodeOf p, 0 ≤ x ∧ x ≤ 255 := by
  unfold newCodeOf
  split
  · rename_i h
    have hk := body_kind h.2
    have hc := body_count h.2
    have hb : ∀ x ∈ newHead p, 0 ≤ x ∧ x ≤ 255 := bytes_app (bytes_app (leB_byte _ _) (by intro x hx; simp at hx; omega)) (bodyB_byte false h.2)
    exact bytes_app (bytes_app (New.padB_byte hb) (leB_byte _ _)) (leB_byte _ _)
  · intro x hx; cases hx

end Go.Proofs.YtjbifddhbcfdcaaGreat
