import Derived.Test.YtcmhobbpeaeebaaGAJ
import Derived.Test.YtcmhobbpeaeebaaGAH
import Derived.Test.YtcmhobbpeaeebaaGAI
namespace Go.Proofs.Ytcmhobbpeaeebaa
open Go.RowKit
set_option linter.unusedVariables false
set_option maxRecDepth 100000

theorem meth_meta_page (a : Addr) (w : World) : (method 264 134 (.pointer (some a)) "loop.example/s02098/impl.page").run Try.prog w = .ok (119, .pointer (some a)) w := by kernel_rfl
theorem meth_meta_valid (a : Addr) (w : World) : (method 264 134 (.pointer (some a)) "loop.example/s02098/impl.valid").run Try.prog w = .ok (121, .pointer (some a)) w := by kernel_rfl
theorem meth_meta_count (a : Addr) (w : World) : (method 264 134 (.pointer (some a)) "loop.example/s02098/impl.count").run Try.prog w = .ok (118, .pointer (some a)) w := by kernel_rfl
theorem meth_meta_write (a : Addr) (w : World) : (method 264 134 (.pointer (some a)) "loop.example/s02098/impl.write").run Try.prog w = .ok (122, .pointer (some a)) w := by kernel_rfl
theorem meth_branch_page (a : Addr) (w : World) : (method 264 137 (.pointer (some a)) "loop.example/s02098/impl.page").run Try.prog w = .ok (127, .pointer (some a)) w := by kernel_rfl
theorem meth_branch_valid (a : Addr) (w : World) : (method 264 137 (.pointer (some a)) "loop.example/s02098/impl.valid").run Try.prog w = .ok (129, .pointer (some a)) w := by kernel_rfl
theorem meth_branch_count (a : Addr) (w : World) : (method 264 137 (.pointer (some a)) "loop.example/s02098/impl.count").run Try.prog w = .ok (126, .pointer (some a)) w := by kernel_rfl
theorem meth_branch_write (a : Addr) (w : World) : (method 264 137 (.pointer (some a)) "loop.example/s02098/impl.write").run Try.prog w = .ok (130, .pointer (some a)) w := by kernel_rfl
theorem meth_leaf_page (a : Addr) (w : World) : (method 264 140 (.pointer (some a)) "loop.example/s02098/impl.page").run Try.prog w = .ok (135, .pointer (some a)) w := by kernel_rfl
theorem meth_leaf_valid (a : Addr) (w : World) : (method 264 140 (.pointer (some a)) "loop.example/s02098/impl.valid").run Try.prog w = .ok (137, .pointer (some a)) w := by kernel_rfl
theorem meth_leaf_count (a : Addr) (w : World) : (method 264 140 (.pointer (some a)) "loop.example/s02098/impl.count").run Try.prog w = .ok (134, .pointer (some a)) w := by kernel_rfl
theorem meth_leaf_write (a : Addr) (w : World) : (method 264 140 (.pointer (some a)) "loop.example/s02098/impl.write").run Try.prog w = .ok (138, .pointer (some a)) w := by kernel_rfl
theorem meth_over_page (a : Addr) (w : World) : (method 264 143 (.pointer (some a)) "loop.example/s02098/impl.page").run Try.prog w = .ok (142, .pointer (some a)) w := by kernel_rfl
theorem meth_over_valid (a : Addr) (w : World) : (method 264 143 (.pointer (some a)) "loop.example/s02098/impl.valid").run Try.prog w = .ok (144, .pointer (some a)) w := by kernel_rfl
theorem meth_over_count (a : Addr) (w : World) : (method 264 143 (.pointer (some a)) "loop.example/s02098/impl.count").run Try.prog w = .ok (141, .pointer (some a)) w := by kernel_rfl
theorem meth_over_write (a : Addr) (w : World) : (method 264 143 (.pointer (some a)) "loop.example/s02098/impl.write").run Try.prog w = .ok (145, .pointer (some a)) w := by kernel_rfl
set_option maxHeartbeats 1600000 in
theorem bodyOf_meta (tx id root count : Int) (ka : Option Addr) (n kc : Nat) (ks : List PK) (ea : Option Addr) (m ec : Nat) (es : List PE) (next : Int) (data : ByteArray) (w : World) (A B : Nat) (hB : B ≤ w.heap.size) (hK : KidsAt w A B ka n kc ks) (hE : EntsAt w A B ea m ec es) :
    Calls Try.prog 59 #[.agg #[.int .i64 1, .int .i64 tx, .int .i64 id, .int .i64 root, .int .i64 count, .slice ka n kc, .slice ea m ec, .int .i64 next, .string data]] w fun e w' => ∃ M, e = .returned (cond (decide (n = 0) && decide (m = 0) && decide (next = 0) && data.toList.isEmpty) (.iface 134 (.pointer (some ⟨M, 0, none⟩))) .nilIface) ∧ w.heap.size ≤ M ∧ w'.heap[M]? = some (.cells #[.int .i64 id, .int .i64 root, .int .i64 count] 136) ∧ Below w.heap.size w w' := by
  have hb0 : Below w.heap.size w (w.alloc (.cells #[.int .i64 1, .int .i64 tx, .int .i64 id, .int .i64 root, .int .i64 count, .slice ka n kc, .slice ea m ec, .int .i64 next, .string data] 28)) := (Below.refl _ _).alloc (Nat.le_refl _) _
  have HX0 : (w.alloc (.cells #[.int .i64 1, .int .i64 tx, .int .i64 id, .int .i64 root, .int .i64 count, .slice ka n kc, .slice ea m ec, .int .i64 next, .string data] 28)).heap[w.heap.size]? = some (.cells #[.int .i64 1, .int .i64 tx, .int .i64 id, .int .i64 root, .int .i64 count, .slice ka n kc, .slice ea m ec, .int .i64 next, .string data] 28) := heap_alloc_new w _
  have hm := fun a w => meth_meta_page a w
  go_enter Try.func59, Try.ntmps59
  go_wp2_with fail
  generalize w.alloc (.cells #[.int .i64 1, .int .i64 tx, .int .i64 id, .int .i64 root, .int .i64 count, .slice ka n kc, .slice ea m ec, .int .i64 next, .string data] 28) = W0 at hb0 HX0 ⊢
  refine (kindBody_meta tx id root count ka n kc ea m ec next data W0).mono ?_
  rintro e w1 ⟨M, rfl, hMl, hM, hb1⟩
  have hb2 := hb0.trans (hb1.mono hb0.size)
  have HX1 := eb_call HX0 hb1
  obtain ⟨c5, c6, c0, c2, c3, c4, c7, c8, c1⟩ := box_slice HX1
  have hWM : w.heap.size ≤ M := Nat.le_trans hb0.size hMl
  clear hb0 HX0 hb1 hMl
  go_wp2_with fail
  refine (metaPage_any M id root count w1 hM).mono ?_
  rintro e w2 ⟨rfl, hb3⟩
  have hb4 := hb2.trans (hb3.mono hb2.size)
  have HX2 := eb_call HX1 hb3
  have hM2 := eb_call hM hb3
  obtain ⟨d5, d6, d0, d2, d3, d4, d7, d8, d1⟩ := box_slice HX2
  have hl2 : w.heap.size < w2.heap.size := (Array.getElem?_eq_some_iff.1 HX2).1
  clear hb2 hb3 HX1 hM c5 c6 c0 c2 c3 c4 c7 c8 c1 hm
  go_wp2_with fail
  have hb5 := hb4.alloc hb4.size (.cells #[.int .i64 1, .int .i64 tx, .int .i64 id, .int .i64 root, .int .i64 count, .slice none 0 0, .slice none 0 0, .int .i64 0, .string ByteArray.empty] 28)
  have hM3 := eb_call hM2 ((Below.refl _ w2).alloc (Nat.le_refl _) (.cells #[.int .i64 1, .int .i64 tx, .int .i64 id, .int .i64 root, .int .i64 count, .slice none 0 0, .slice none 0 0, .int .i64 0, .string ByteArray.empty] 28))
  generalize w2.alloc (.cells #[.int .i64 1, .int .i64 tx, .int .i64 id, .int .i64 root, .int .i64 count, .slice none 0 0, .slice none 0 0, .int .i64 0, .string ByteArray.empty] 28) = W3 at hb5 hM3 ⊢
  refine (same_meta tx id root count ka n kc ks ea m ec es next data W3 A B (Nat.le_trans hB hb5.size) (hK.below (hb5.mono hB)) (hE.below (hb5.mono hB))).mono ?_
  rintro e w4 ⟨rfl, hb6⟩
  have hb7 := hb5.trans (hb6.mono hb5.size)
  have hM4 := eb_call hM3 hb6
  clear hb4 hb5 hb6 hM2 hM3 d5 d6 d0 d2 d3 d4 d7 d8 d1 HX2 hl2
  generalize hcd : (decide (n = 0) && decide (m = 0) && decide (next = 0) && data.toList.isEmpty) = cd
  have HC : Hid ((decide (n = 0) && decide (m = 0) && decide (next = 0) && data.toList.isEmpty) = cd) := hcd
  clear hcd
  cases cd
  · go_wp2
    go_ret
    exact ⟨M, by rw [HC.out]; rfl, hWM, hM4, hb7⟩
  · go_wp2
    go_ret
    exact ⟨M, by rw [HC.out]; rfl, hWM, hM4, hb7⟩
set_option maxHeartbeats 1600000 in
theorem bodyOf_branch (tx id root count : Int) (ka : Option Addr) (n kc : Nat) (ks : List PK) (ea : Option Addr) (m ec : Nat) (es : List PE) (next : Int) (data : ByteArray) (w : World) (A B : Nat) (hB : B ≤ w.heap.size) (hK : KidsAt w A B ka n kc ks) (hE : EntsAt w A B ea m ec es) :
    Calls Try.prog 59 #[.agg #[.int .i64 2, .int .i64 tx, .int .i64 id, .int .i64 root, .int .i64 count, .slice ka n kc, .slice ea m ec, .int .i64 next, .string data]] w fun e w' => ∃ M, e = .returned (cond (decide (id = 0 ∧ root = 0 ∧ count = 0) && decide (m = 0) && decide (next = 0) && data.toList.isEmpty) (.iface 137 (.pointer (some ⟨M, 0, none⟩))) .nilIface) ∧ w.heap.size ≤ M ∧ w'.heap[M]? = some (.cells #[.slice ka n kc] 139) ∧ Below w.heap.size w w' := by
  have hb0 : Below w.heap.size w (w.alloc (.cells #[.int .i64 2, .int .i64 tx, .int .i64 id, .int .i64 root, .int .i64 count, .slice ka n kc, .slice ea m ec, .int .i64 next, .string data] 28)) := (Below.refl _ _).alloc (Nat.le_refl _) _
  have HX0 : (w.alloc (.cells #[.int .i64 2, .int .i64 tx, .int .i64 id, .int .i64 root, .int .i64 count, .slice ka n kc, .slice ea m ec, .int .i64 next, .string data] 28)).heap[w.heap.size]? = some (.cells #[.int .i64 2, .int .i64 tx, .int .i64 id, .int .i64 root, .int .i64 count, .slice ka n kc, .slice ea m ec, .int .i64 next, .string data] 28) := heap_alloc_new w _
  have hm := fun a w => meth_branch_page a w
  go_enter Try.func59, Try.ntmps59
  go_wp2_with fail
  generalize w.alloc (.cells #[.int .i64 2, .int .i64 tx, .int .i64 id, .int .i64 root, .int .i64 count, .slice ka n kc, .slice ea m ec, .int .i64 next, .string data] 28) = W0 at hb0 HX0 ⊢
  refine (kindBody_branch tx id root count ka n kc ea m ec next data W0).mono ?_
  rintro e w1 ⟨M, rfl, hMl, hM, hb1⟩
  have hb2 := hb0.trans (hb1.mono hb0.size)
  have HX1 := eb_call HX0 hb1
  obtain ⟨c5, c6, c0, c2, c3, c4, c7, c8, c1⟩ := box_slice HX1
  have hWM : w.heap.size ≤ M := Nat.le_trans hb0.size hMl
  clear hb0 HX0 hb1 hMl
  go_wp2_with fail
  refine (branchPage_any M ka n kc w1 hM).mono ?_
  rintro e w2 ⟨rfl, hb3⟩
  have hb4 := hb2.trans (hb3.mono hb2.size)
  have HX2 := eb_call HX1 hb3
  have hM2 := eb_call hM hb3
  obtain ⟨d5, d6, d0, d2, d3, d4, d7, d8, d1⟩ := box_slice HX2
  have hl2 : w.heap.size < w2.heap.size := (Array.getElem?_eq_some_iff.1 HX2).1
  clear hb2 hb3 HX1 hM c5 c6 c0 c2 c3 c4 c7 c8 c1 hm
  go_wp2_with fail
  have hb5 := hb4.alloc hb4.size (.cells #[.int .i64 2, .int .i64 tx, .int .i64 0, .int .i64 0, .int .i64 0, .slice ka n kc, .slice none 0 0, .int .i64 0, .string ByteArray.empty] 28)
  have hM3 := eb_call hM2 ((Below.refl _ w2).alloc (Nat.le_refl _) (.cells #[.int .i64 2, .int .i64 tx, .int .i64 0, .int .i64 0, .int .i64 0, .slice ka n kc, .slice none 0 0, .int .i64 0, .string ByteArray.empty] 28))
  generalize w2.alloc (.cells #[.int .i64 2, .int .i64 tx, .int .i64 0, .int .i64 0, .int .i64 0, .slice ka n kc, .slice none 0 0, .int .i64 0, .string ByteArray.empty] 28) = W3 at hb5 hM3 ⊢
  refine (same_branch tx id root count ka n kc ks ea m ec es next data W3 A B (Nat.le_trans hB hb5.size) (hK.below (hb5.mono hB)) (hE.below (hb5.mono hB))).mono ?_
  rintro e w4 ⟨rfl, hb6⟩
  have hb7 := hb5.trans (hb6.mono hb5.size)
  have hM4 := eb_call hM3 hb6
  clear hb4 hb5 hb6 hM2 hM3 d5 d6 d0 d2 d3 d4 d7 d8 d1 HX2 hl2
  generalize hcd : (decide (id = 0 ∧ root = 0 ∧ count = 0) && decide (m = 0) && decide (next = 0) && data.toList.isEmpty) = cd
  have HC : Hid ((decide (id = 0 ∧ root = 0 ∧ count = 0) && decide (m = 0) && decide (next = 0) && data.toList.isEmpty) = cd) := hcd
  clear hcd
  cases cd
  · go_wp2
    go_ret
    exact ⟨M, by rw [HC.out]; rfl, hWM, hM4, hb7⟩
  · go_wp2
    go_ret
    exact ⟨M, by rw [HC.out]; rfl, hWM, hM4, hb7⟩
set_option maxHeartbeats 1600000 in
theorem bodyOf_leaf (tx id root count : Int) (ka : Option Addr) (n kc : Nat) (ks : List PK) (ea : Option Addr) (m ec : Nat) (es : List PE) (next : Int) (data : ByteArray) (w : World) (A B : Nat) (hB : B ≤ w.heap.size) (hK : KidsAt w A B ka n kc ks) (hE : EntsAt w A B ea m ec es) :
    Calls Try.prog 59 #[.agg #[.int .i64 3, .int .i64 tx, .int .i64 id, .int .i64 root, .int .i64 count, .slice ka n kc, .slice ea m ec, .int .i64 next, .string data]] w fun e w' => ∃ M, e = .returned (cond (decide (id = 0 ∧ root = 0 ∧ count = 0) && decide (n = 0) && decide (next = 0) && data.toList.isEmpty) (.iface 140 (.pointer (some ⟨M, 0, none⟩))) .nilIface) ∧ w.heap.size ≤ M ∧ w'.heap[M]? = some (.cells #[.slice ea m ec] 142) ∧ Below w.heap.size w w' := by
  have hb0 : Below w.heap.size w (w.alloc (.cells #[.int .i64 3, .int .i64 tx, .int .i64 id, .int .i64 root, .int .i64 count, .slice ka n kc, .slice ea m ec, .int .i64 next, .string data] 28)) := (Below.refl _ _).alloc (Nat.le_refl _) _
  have HX0 : (w.alloc (.cells #[.int .i64 3, .int .i64 tx, .int .i64 id, .int .i64 root, .int .i64 count, .slice ka n kc, .slice ea m ec, .int .i64 next, .string data] 28)).heap[w.heap.size]? = some (.cells #[.int .i64 3, .int .i64 tx, .int .i64 id, .int .i64 root, .int .i64 count, .slice ka n kc, .slice ea m ec, .int .i64 next, .string data] 28) := heap_alloc_new w _
  have hm := fun a w => meth_leaf_page a w
  go_enter Try.func59, Try.ntmps59
  go_wp2_with fail
  generalize w.alloc (.cells #[.int .i64 3, .int .i64 tx, .int .i64 id, .int .i64 root, .int .i64 count, .slice ka n kc, .slice ea m ec, .int .i64 next, .string data] 28) = W0 at hb0 HX0 ⊢
  refine (kindBody_leaf tx id root count ka n kc ea m ec next data W0).mono ?_
  rintro e w1 ⟨M, rfl, hMl, hM, hb1⟩
  have hb2 := hb0.trans (hb1.mono hb0.size)
  have HX1 := eb_call HX0 hb1
  obtain ⟨c5, c6, c0, c2, c3, c4, c7, c8, c1⟩ := box_slice HX1
  have hWM : w.heap.size ≤ M := Nat.le_trans hb0.size hMl
  clear hb0 HX0 hb1 hMl
  go_wp2_with fail
  refine (leafPage_any M ea m ec w1 hM).mono ?_
  rintro e w2 ⟨rfl, hb3⟩
  have hb4 := hb2.trans (hb3.mono hb2.size)
  have HX2 := eb_call HX1 hb3
  have hM2 := eb_call hM hb3
  obtain ⟨d5, d6, d0, d2, d3, d4, d7, d8, d1⟩ := box_slice HX2
  have hl2 : w.heap.size < w2.heap.size := (Array.getElem?_eq_some_iff.1 HX2).1
  clear hb2 hb3 HX1 hM c5 c6 c0 c2 c3 c4 c7 c8 c1 hm
  go_wp2_with fail
  have hb5 := hb4.alloc hb4.size (.cells #[.int .i64 3, .int .i64 tx, .int .i64 0, .int .i64 0, .int .i64 0, .slice none 0 0, .slice ea m ec, .int .i64 0, .string ByteArray.empty] 28)
  have hM3 := eb_call hM2 ((Below.refl _ w2).alloc (Nat.le_refl _) (.cells #[.int .i64 3, .int .i64 tx, .int .i64 0, .int .i64 0, .int .i64 0, .slice none 0 0, .slice ea m ec, .int .i64 0, .string ByteArray.empty] 28))
  generalize w2.alloc (.cells #[.int .i64 3, .int .i64 tx, .int .i64 0, .int .i64 0, .int .i64 0, .slice none 0 0, .slice ea m ec, .int .i64 0, .string ByteArray.empty] 28) = W3 at hb5 hM3 ⊢
  refine (same_leaf tx id root count ka n kc ks ea m ec es next data W3 A B (Nat.le_trans hB hb5.size) (hK.below (hb5.mono hB)) (hE.below (hb5.mono hB))).mono ?_
  rintro e w4 ⟨rfl, hb6⟩
  have hb7 := hb5.trans (hb6.mono hb5.size)
  have hM4 := eb_call hM3 hb6
  clear hb4 hb5 hb6 hM2 hM3 d5 d6 d0 d2 d3 d4 d7 d8 d1 HX2 hl2
  generalize hcd : (decide (id = 0 ∧ root = 0 ∧ count = 0) && decide (n = 0) && decide (next = 0) && data.toList.isEmpty) = cd
  have HC : Hid ((decide (id = 0 ∧ root = 0 ∧ count = 0) && decide (n = 0) && decide (next = 0) && data.toList.isEmpty) = cd) := hcd
  clear hcd
  cases cd
  · go_wp2
    go_ret
    exact ⟨M, by rw [HC.out]; rfl, hWM, hM4, hb7⟩
  · go_wp2
    go_ret
    exact ⟨M, by rw [HC.out]; rfl, hWM, hM4, hb7⟩
set_option maxHeartbeats 1600000 in
theorem bodyOf_over (tx id root count : Int) (ka : Option Addr) (n kc : Nat) (ks : List PK) (ea : Option Addr) (m ec : Nat) (es : List PE) (next : Int) (data : ByteArray) (w : World) (A B : Nat) (hB : B ≤ w.heap.size) (hK : KidsAt w A B ka n kc ks) (hE : EntsAt w A B ea m ec es) :
    Calls Try.prog 59 #[.agg #[.int .i64 4, .int .i64 tx, .int .i64 id, .int .i64 root, .int .i64 count, .slice ka n kc, .slice ea m ec, .int .i64 next, .string data]] w fun e w' => ∃ M, e = .returned (cond (decide (id = 0 ∧ root = 0 ∧ count = 0) && decide (n = 0) && decide (m = 0)) (.iface 143 (.pointer (some ⟨M, 0, none⟩))) .nilIface) ∧ w.heap.size ≤ M ∧ w'.heap[M]? = some (.cells #[.int .i64 next, .string data] 145) ∧ Below w.heap.size w w' := by
  have hb0 : Below w.heap.size w (w.alloc (.cells #[.int .i64 4, .int .i64 tx, .int .i64 id, .int .i64 root, .int .i64 count, .slice ka n kc, .slice ea m ec, .int .i64 next, .string data] 28)) := (Below.refl _ _).alloc (Nat.le_refl _) _
  have HX0 : (w.alloc (.cells #[.int .i64 4, .int .i64 tx, .int .i64 id, .int .i64 root, .int .i64 count, .slice ka n kc, .slice ea m ec, .int .i64 next, .string data] 28)).heap[w.heap.size]? = some (.cells #[.int .i64 4, .int .i64 tx, .int .i64 id, .int .i64 root, .int .i64 count, .slice ka n kc, .slice ea m ec, .int .i64 next, .string data] 28) := heap_alloc_new w _
  have hm := fun a w => meth_over_page a w
  go_enter Try.func59, Try.ntmps59
  go_wp2_with fail
  generalize w.alloc (.cells #[.int .i64 4, .int .i64 tx, .int .i64 id, .int .i64 root, .int .i64 count, .slice ka n kc, .slice ea m ec, .int .i64 next, .string data] 28) = W0 at hb0 HX0 ⊢
  refine (kindBody_over tx id root count ka n kc ea m ec next data W0).mono ?_
  rintro e w1 ⟨M, rfl, hMl, hM, hb1⟩
  have hb2 := hb0.trans (hb1.mono hb0.size)
  have HX1 := eb_call HX0 hb1
  obtain ⟨c5, c6, c0, c2, c3, c4, c7, c8, c1⟩ := box_slice HX1
  have hWM : w.heap.size ≤ M := Nat.le_trans hb0.size hMl
  clear hb0 HX0 hb1 hMl
  go_wp2_with fail
  refine (overPage_any M next data w1 hM).mono ?_
  rintro e w2 ⟨rfl, hb3⟩
  have hb4 := hb2.trans (hb3.mono hb2.size)
  have HX2 := eb_call HX1 hb3
  have hM2 := eb_call hM hb3
  obtain ⟨d5, d6, d0, d2, d3, d4, d7, d8, d1⟩ := box_slice HX2
  have hl2 : w.heap.size < w2.heap.size := (Array.getElem?_eq_some_iff.1 HX2).1
  clear hb2 hb3 HX1 hM c5 c6 c0 c2 c3 c4 c7 c8 c1 hm
  go_wp2_with fail
  have hb5 := hb4.alloc hb4.size (.cells #[.int .i64 4, .int .i64 tx, .int .i64 0, .int .i64 0, .int .i64 0, .slice none 0 0, .slice none 0 0, .int .i64 next, .string data] 28)
  have hM3 := eb_call hM2 ((Below.refl _ w2).alloc (Nat.le_refl _) (.cells #[.int .i64 4, .int .i64 tx, .int .i64 0, .int .i64 0, .int .i64 0, .slice none 0 0, .slice none 0 0, .int .i64 next, .string data] 28))
  generalize w2.alloc (.cells #[.int .i64 4, .int .i64 tx, .int .i64 0, .int .i64 0, .int .i64 0, .slice none 0 0, .slice none 0 0, .int .i64 next, .string data] 28) = W3 at hb5 hM3 ⊢
  refine (same_over tx id root count ka n kc ks ea m ec es next data W3 A B (Nat.le_trans hB hb5.size) (hK.below (hb5.mono hB)) (hE.below (hb5.mono hB))).mono ?_
  rintro e w4 ⟨rfl, hb6⟩
  have hb7 := hb5.trans (hb6.mono hb5.size)
  have hM4 := eb_call hM3 hb6
  clear hb4 hb5 hb6 hM2 hM3 d5 d6 d0 d2 d3 d4 d7 d8 d1 HX2 hl2
  generalize hcd : (decide (id = 0 ∧ root = 0 ∧ count = 0) && decide (n = 0) && decide (m = 0)) = cd
  have HC : Hid ((decide (id = 0 ∧ root = 0 ∧ count = 0) && decide (n = 0) && decide (m = 0)) = cd) := hcd
  clear hcd
  cases cd
  · go_wp2
    go_ret
    exact ⟨M, by rw [HC.out]; rfl, hWM, hM4, hb7⟩
  · go_wp2
    go_ret
    exact ⟨M, by rw [HC.out]; rfl, hWM, hM4, hb7⟩
end Go.Proofs.Ytcmhobbpeaeebaa
namespace Go.Proofs.Ytcmhobbpeaeebaa
namespace New
open Go.RowKit
set_option linter.unusedVariables false
set_option maxRecDepth 100000

theorem newPages_any (w : World) : Calls Try.prog 61 #[] w fun e w' => e = .returned (.agg #[.int .i64 2, .int .i64 999]) ∧ Below w.heap.size w w' := by
  go_enter Try.func61, Try.ntmps61
  go_wp2
  exact bodyPost_ret (v := .agg #[.int .i64 2, .int .i64 999]) (by simp [results, Try.results61, go_sem]) rfl ⟨rfl, by first | exact Below.refl _ _ | exact (Below.refl _ _).alloc (Nat.le_refl _) _⟩
set_option maxHeartbeats 400000 in
theorem isStamp_any (x : Int) (w : World) : Calls Try.prog 60 #[.int .i64 x] w fun e w' => e = .returned (.bool (inB 1 2000000000 x)) ∧ w' = w := by
  by_cases h1 : 1 ≤ x
  · go_enter Try.func60, Try.ntmps60
    go_wp2
    go_ret
    exact ⟨by simp [inB, h1], rfl⟩
  · have hd : decide (1 ≤ x) = false := by simp; omega
    go_enter Try.func60, Try.ntmps60
    go_wp2
    go_ret
    exact ⟨by simp [inB]; omega, rfl⟩
theorem newCursor_any (G : Nat) (L : List Int) (hl : L.length = 128) (w : World) (hr : w.ownsRow 0 5 1 (.slice (some ⟨G, 0, none⟩) 128 128) 128 (u8s L)) :
    Calls Try.prog 46 #[.slice (some ⟨G, 0, none⟩) 128 128] w fun e w' => e = .returned (.pointer (some ⟨w.heap.size, 0, none⟩)) ∧ Cur w' w.heap.size G false 79 80 0 L ∧ Below w.heap.size w w' := by
  go_enter Try.func46, Try.ntmps46
  go_wp2
  go_ret
  exact ⟨rfl, ⟨heap_alloc_new w _, hr.alloc _, hl⟩, (Below.refl _ _).alloc (Nat.le_refl _) _⟩
theorem implCrc0 (a : Option Addr) (n cc : Nat) (bs : List Int) (w : World) (A B : Nat) (h : BytesAt w A B a n cc bs) :
    Calls Try.prog 62 #[.int .u32 0, .slice a n cc] w fun e w' => e = .returned (.int .u32 (crcOf bs)) ∧ w' = w := implCrc_any 0 (by omega) a n cc bs w A B h

theorem lay_zero {n : Nat} {bs : List Int} (h : bs.length ≤ n) : lay (List.replicate n 0) 0 bs = padB n bs := by
  simp [lay, padB]
theorem pad_take {bs : List Int} (h : bs.length ≤ 120) : (padB 128 bs).take 120 = padB 120 bs := by
  unfold padB
  rw [List.take_append, List.take_of_length_le h, List.take_replicate]
  congr 2
  omega
theorem pad_lay {bs s : List Int} (h : bs.length ≤ 120) (hs : s.length = 8) : lay (padB 128 bs) 120 s = padB 120 bs ++ s := by
  have hl : (padB 128 bs).length = 128 := by simp [padB]; omega
  unfold lay
  rw [pad_take h, List.drop_eq_nil_of_le (by simp [hl, hs])]
  simp
theorem padB_len {n : Nat} {bs : List Int} (h : bs.length ≤ n) : (padB n bs).length = n := by simp [padB]; omega
theorem padB_byte {n : Nat} {bs : List Int} (h : ∀ x ∈ bs, 0 ≤ x ∧ x ≤ 255) : ∀ x ∈ padB n bs, 0 ≤ x ∧ x ≤ 255 := bytes_app h (by intro x hx; have := List.eq_of_mem_replicate hx; omega)
theorem owns_raise {w : World} {e size G n c N : Nat} {xs : List Value} (h : w.ownsRow 0 e size (.slice (some ⟨G, 0, none⟩) n c) n xs) (hN : N ≤ G) : w.ownsRow N e size (.slice (some ⟨G, 0, none⟩) n c) n xs := by
  refine ⟨h.1, ?_⟩
  rcases h.2 with ⟨h0, _⟩ | ⟨g, cap, cur, h0, _, rest⟩
  · cases h0
  · injection h0 with h1 _ h4
    injection h1 with h2
    injection h2 with h3
    subst h3 h4
    exact .inr ⟨G, c, cur, rfl, hN, rest⟩
/-- The head and the body of a new page's code. -/
def headN (tx k c : Int) (b : List Int) : List Int := leB 4 tx ++ [k] ++ [c] ++ [0, 0] ++ b
theorem headN_eq (tx k c : Int) (b : List Int) : headN tx k c b = leB 4 tx ++ [k, c, 0, 0] ++ b := by simp [headN]
theorem bytes120 {w : World} {C G k pf gf : Nat} {old : Bool} {L : List Int} (h : Cur w C G old pf gf k L) (hb : ∀ x ∈ L, 0 ≤ x ∧ x ≤ 255) : BytesAt w 0 w.heap.size (some ⟨G, 0, none⟩) 120 128 (L.take 120) := by
  have hl := h.len
  refine ⟨by simp [hl], by omega, by unfold maxLen; omega, fun x hx => hb x (List.mem_of_mem_take hx), fun _ => ⟨G, 0, rfl, ⟨Nat.zero_le _, (h.row.lt G rfl).2⟩, fun i hi => ?_⟩, fun h => by cases h⟩
  rw [Nat.zero_add, h.row.cellAt i (by omega)]
  simp [u8s, List.getD, hi, hl, show i < 128 by omega]
theorem Wrote.start {w w2 : World} {C G pf gf : Nat} {old : Bool} {L bs : List Int} (hV : Wrote w.drew w2 C G old pf gf 0 L bs) : Wrote w w2 C G old pf gf 0 L bs :=
  ⟨hV.1, (Fr.of_below (Below.refl _ _).drew).trans hV.2⟩
theorem Wrote.redraw {w w2 : World} {C G k pf gf : Nat} {old : Bool} {L bs : List Int} (hV : Wrote w.drew w2 C G old pf gf k L bs) : Wrote w w2 C G old pf gf k L bs :=
  ⟨hV.1, (Fr.of_below (Below.refl _ _).drew).trans hV.2⟩
theorem num2_zero : numB false 2 0 = [0, 0] := by decide
theorem made128 : (madeCells (Value.int .u8 0).cells (128 * 1)).toList = u8s (List.replicate 128 0) := by kernel_rfl
theorem ahead_meta_valid (a : Addr) (w : World) : (nilAhead 264 134 (.pointer (some a)) "loop.example/s02098/impl.valid").run Try.prog w = .ok (some false) w := by kernel_rfl
theorem ahead_meta_count (a : Addr) (w : World) : (nilAhead 264 134 (.pointer (some a)) "loop.example/s02098/impl.count").run Try.prog w = .ok (some false) w := by kernel_rfl
theorem ahead_meta_write (a : Addr) (w : World) : (nilAhead 264 134 (.pointer (some a)) "loop.example/s02098/impl.write").run Try.prog w = .ok (some false) w := by kernel_rfl
theorem ahead_branch_valid (a : Addr) (w : World) : (nilAhead 264 137 (.pointer (some a)) "loop.example/s02098/impl.valid").run Try.prog w = .ok (some false) w := by kernel_rfl
theorem ahead_branch_count (a : Addr) (w : World) : (nilAhead 264 137 (.pointer (some a)) "loop.example/s02098/impl.count").run Try.prog w = .ok (some false) w := by kernel_rfl
theorem ahead_branch_write (a : Addr) (w : World) : (nilAhead 264 137 (.pointer (some a)) "loop.example/s02098/impl.write").run Try.prog w = .ok (some false) w := by kernel_rfl
theorem ahead_leaf_valid (a : Addr) (w : World) : (nilAhead 264 140 (.pointer (some a)) "loop.example/s02098/impl.valid").run Try.prog w = .ok (some false) w := by kernel_rfl
theorem ahead_leaf_count (a : Addr) (w : World) : (nilAhead 264 140 (.pointer (some a)) "loop.example/s02098/impl.count").run Try.prog w = .ok (some false) w := by kernel_rfl
theorem ahead_leaf_write (a : Addr) (w : World) : (nilAhead 264 140 (.pointer (some a)) "loop.example/s02098/impl.write").run Try.prog w = .ok (some false) w := by kernel_rfl
theorem ahead_over_valid (a : Addr) (w : World) : (nilAhead 264 143 (.pointer (some a)) "loop.example/s02098/impl.valid").run Try.prog w = .ok (some false) w := by kernel_rfl
theorem ahead_over_count (a : Addr) (w : World) : (nilAhead 264 143 (.pointer (some a)) "loop.example/s02098/impl.count").run Try.prog w = .ok (some false) w := by kernel_rfl
theorem ahead_over_write (a : Addr) (w : World) : (nilAhead 264 143 (.pointer (some a)) "loop.example/s02098/impl.write").run Try.prog w = .ok (some false) w := by kernel_rfl
end New
end Go.Proofs.Ytcmhobbpeaeebaa
namespace Go.Proofs.Ytcmhobbpeaeebaa
namespace New
open Go.RowKit
set_option linter.unusedVariables false
set_option maxRecDepth 100000

set_option maxHeartbeats 3200000 in
theorem encNew_meta (tx id root count : Int) (hi : I64 id) (hr : I64 root) (hc : I64 count) (ka : Option Addr) (n kc : Nat) (ks : List PK) (ea : Option Addr) (m ec : Nat) (es : List PE) (next : Int) (data : ByteArray) (w : World) (A B : Nat) (hB : B ≤ w.heap.size) (hK : KidsAt w A B ka n kc ks) (hE : EntsAt w A B ea m ec es)
    (hcond : (decide (n = 0) && decide (m = 0) && decide (next = 0) && data.toList.isEmpty) = true) (htI : I64 tx) (htx : inB 1 2000000000 tx = true) (hval : (inB 1 2000000000 id && inB 2 999 root && inB 0 2000000000 count) = true) :
    Calls Try.prog 22 #[.agg #[.int .i64 1, .int .i64 tx, .int .i64 id, .int .i64 root, .int .i64 count, .slice ka n kc, .slice ea m ec, .int .i64 next, .string data]] w fun e w' => ∃ v, e = .returned v ∧ w'.ownsRow w.heap.size 5 1 v 128 (u8s (sealN tx (headN tx 1 0 (metaB false ⟨1, tx, id, root, count, ks, es, next, data⟩)))) ∧ Below w.heap.size w w' := by
  have hb0 : Below w.heap.size w (w.alloc (.cells #[.int .i64 1, .int .i64 tx, .int .i64 id, .int .i64 root, .int .i64 count, .slice ka n kc, .slice ea m ec, .int .i64 next, .string data] 28)) := (Below.refl _ _).alloc (Nat.le_refl _) _
  have HX0 : (w.alloc (.cells #[.int .i64 1, .int .i64 tx, .int .i64 id, .int .i64 root, .int .i64 count, .slice ka n kc, .slice ea m ec, .int .i64 next, .string data] 28)).heap[w.heap.size]? = _ := heap_alloc_new w _
  have hmv := fun a w => meth_meta_valid a w
  have hav := fun a w => ahead_meta_valid a w
  have hac := fun a w => ahead_meta_count a w
  have haw := fun a w => ahead_meta_write a w
  have hmc := fun a w => meth_meta_count a w
  have hmw := fun a w => meth_meta_write a w
  go_enter Try.func22, Try.ntmps22
  go_wp2_with fail
  generalize w.alloc (.cells #[.int .i64 1, .int .i64 tx, .int .i64 id, .int .i64 root, .int .i64 count, .slice ka n kc, .slice ea m ec, .int .i64 next, .string data] 28) = W0 at hb0 HX0 ⊢
  have HB := bodyOf_meta tx id root count ka n kc ks ea m ec es next data W0 A B (Nat.le_trans hB hb0.size) (hK.below (hb0.mono hB)) (hE.below (hb0.mono hB))
  rw [hcond] at HB
  refine HB.mono ?_
  rintro e w1 ⟨M, rfl, hMl, hM, hb1⟩
  have hb2 := hb0.trans (hb1.mono hb0.size)
  have HX1 := eb_call HX0 hb1
  have hMw : w.heap.size ≤ M := Nat.le_trans hb0.size hMl
  obtain ⟨c5, c6, c0, c2, c3, c4, c7, c8, c1⟩ := box_slice HX1
  clear HB hb1 hb0 HX0 hMl
  simp only [cond_true]
  go_wp2_with fail
  go_region_held3 (fun w' => w'.cell? ⟨w.heap.size, 1, none⟩ = some (.int .i64 tx)) (go_keep)
    (first
      | (go_at_call 121; have HV := metaValid_any M id root count 2 999 w2 hM2; rw [hval] at HV; refine HV.mono ?_; rintro e w3 ⟨rfl, hb5⟩; have hb6 := hb4.trans (hb5.mono hb4.size); have HX3 := eb_call HX2 hb5; have hM3 := eb_call hM2 hb5; obtain ⟨_, _, _, _, _, _, _, _, d1⟩ := box_slice HX3)
      | (go_at_call 61; refine (newPages_any w1.drew).mono ?_; rintro e w2 ⟨rfl, hb3⟩; have hb4 := hb2.drew.trans (hb3.mono hb2.size); have HX2 := eb_call (w' := w1.drew) HX1 hb3; have hM2 := eb_call (w' := w1.drew) hM hb3; obtain ⟨_, _, _, _, _, _, _, _, d1⟩ := box_slice HX2)
      | (go_at_call 60; have HI := isStamp_any tx w1.drew; rw [htx] at HI; refine HI.mono ?_; rintro e w1' ⟨rfl, rfl⟩))
  all_goals
    clear hb2 hb3 hb4 hb5 HX1 HX2 hM hM2 hmv hav c5 c6 c0 c2 c3 c4 c7 c8 c1
    obtain ⟨i0, hi0, hz0, hz1, hz2⟩ := info_parts info_u8
    have hs3 := hb6.size
    go_wp2_with (at_make; refine wpList_make_full _ rfl _ _ 22 rfl w.heap.size 5 i0 (.int .u8 0) 1 Try.underlying22 hi0 hz0 hz1 .i64 .i64 128 128 128 rfl rfl rfl rfl (by rw [hz2]; omega) (by unfold maxLen; omega) hs3 ?_; intro w4 hown hgr)
    rw [made128] at hown
    have hN3 : w.heap.size < w3.heap.size := (Array.getElem?_eq_some_iff.1 HX3).1
    have hb7 := hb6.grown hgr hs3 (by simp)
    have HX4 := (hgr.block _ hN3 (by simp)).trans HX3
    have hM3l := (Array.getElem?_eq_some_iff.1 hM3).1
    have hM4 := (hgr.block M hM3l (by simp)).trans hM3
    have hGl := (hown.lt w3.heap.size rfl).2
    have hMG : M ≠ w3.heap.size := by omega
    generalize w3.heap.size = G at hown hMG hN3 hs3 hGl ⊢
    clear hb6 HX3 hM3 hgr hz0 hz1 hz2 hi0 d1
    refine (newCursor_any G (List.replicate 128 0) (by simp) w4 (owns_base hown (Nat.zero_le _))).mono ?_
    rintro e w5 ⟨rfl, hC5, hb8⟩
    have hb9 := hb7.trans (hb8.mono hb7.size)
    have HX5 := eb_call HX4 hb8
    have hM5 := eb_call hM4 hb8
    have hM4l := (Array.getElem?_eq_some_iff.1 hM4).1
    have hMC : M ≠ w4.heap.size := by omega
    have hs4 := hb7.size
    have hNG : w.heap.size ≠ G := by omega
    have hNC : w.heap.size ≠ w4.heap.size := by have := (Array.getElem?_eq_some_iff.1 HX4).1; omega
    have hCG : G < w4.heap.size := hGl
    clear hb7 hb8 HX4 hM4
    generalize w4.heap.size = C at hC5 hMC hs4 hNC hCG ⊢
    obtain ⟨_, _, _, _, _, _, _, _, c1⟩ := box_slice HX5
    obtain ⟨_, _, _, e3, _⟩ := hC5.cells
    go_wp2_with fail
    go_region_held3 (fun w' => w'.cell? ⟨C, 3, none⟩ = some (.func (.func 79) #[.pointer (some ⟨C, 0, none⟩)] #[]) ∧ w'.cell? ⟨w.heap.size, 1, none⟩ = some (.int .i64 tx)) (go_keep)
      (first | (go_at_call 79; refine (Put C G 0 _ tx 4 w5.drew htI (by omega) hC5.drew (by omega)).mono ?_; rintro e w6 ⟨rfl, hV1⟩; have HX6 := wrote_box (w := w5.drew) hV1 HX5 hNC hNG; have hM6 := wrote_box (w := w5.drew) hV1 hM5 hMC hMG; obtain ⟨_, _, _, _, _, _, _, _, k1⟩ := box_slice HX6; obtain ⟨_, _, _, q3, _⟩ := hV1.1.cells))
    rw [show numB false 4 tx = leB 4 tx from rfl] at hV1
    have hW1 := Wrote.start hV1
    clear hV1 HX5 hM5 c1 e3
    have hlt : (leB 4 tx).length = 4 := leB_len 4 tx
    have hbt : ∀ y ∈ leB 4 tx, 0 ≤ y ∧ y ≤ 255 := leB_byte 4 tx
    have HLT : Hid (headN tx 1 0 (metaB false ⟨1, tx, id, root, count, ks, es, next, data⟩) = leB 4 tx ++ [1] ++ [0] ++ [0, 0] ++ metaB false ⟨1, tx, id, root, count, ks, es, next, data⟩) := rfl
    have HSL : Hid (∀ l : List Int, sealN tx l = padB 120 l ++ (leB 4 (crcOf (padB 120 l)) ++ leB 4 tx)) := fun l => by simp [sealN]
    generalize hT : leB 4 tx = T at hW1 hlt hbt HLT HSL
    have HT : Hid (leB 4 tx = T) := hT
    clear hT
    obtain ⟨_, _, c0, _⟩ := box_slice HX6
    obtain ⟨_, _, _, e3, _⟩ := hW1.1.cells
    go_wp2_with fail
    go_region_held3 (fun w' => w'.cell? ⟨C, 3, none⟩ = some (.func (.func 79) #[.pointer (some ⟨C, 0, none⟩)] #[]) ∧ w'.cell? ⟨w.heap.size, 0, none⟩ = some (.int .i64 1)) (go_keep)
      (first | (go_at_call 79; refine (Put C G (0 + T.length) _ 1 1 w6.drew (by unfold I64; omega) (by omega) hW1.1.drew (by simp [hlt])).mono ?_; rintro e w7 ⟨rfl, hV2⟩; have HX7 := wrote_box (w := w6.drew) hV2 HX6 hNC hNG; have hM7 := wrote_box (w := w6.drew) hV2 hM6 hMC hMG; obtain ⟨_, _, k0, _⟩ := box_slice HX7; obtain ⟨_, _, _, q3, _⟩ := hV2.1.cells))
    rw [numB_one _ _ (by omega)] at hV2
    have hW2 := Wrote.next hW1 (by simp) (by simp [hlt]) hV2
    obtain ⟨_, _, _, e3, _⟩ := hW2.1.cells
    clear hW1 hV2 HX6 hM6 c0
    go_wp2_with fail
    go_region_held3 (fun w' => w'.cell? ⟨C, 3, none⟩ = some (.func (.func 79) #[.pointer (some ⟨C, 0, none⟩)] #[])) (go_keep)
      (first
        | (go_at_call 118; refine (metaCount_any M w7.drew).mono ?_; rintro e w8 ⟨rfl, rfl⟩)
        | (go_at_call 79; refine (Put C G (0 + (T ++ [1]).length) _ 0 1 w7.drew (by unfold I64; omega) (by omega) hW2.1.drew (by simp [hlt])).mono ?_; rintro e w8 ⟨rfl, hV3⟩; have HX8 := wrote_box (w := w7.drew) hV3 HX7 hNC hNG; have hM8 := wrote_box (w := w7.drew) hV3 hM7 hMC hMG; obtain ⟨_, _, _, q3, _⟩ := hV3.1.cells))
    all_goals
      rw [numB_one _ _ (by omega)] at hV3
      have hW3 := Wrote.next hW2 (by simp) (by simp [hlt]) hV3
      obtain ⟨_, _, _, e3, _⟩ := hW3.1.cells
      clear hW2 hV3 HX7 hM7
      go_wp2_with fail
      refine (Put C G (0 + (T ++ [1] ++ [0]).length) _ 0 2 w8 (by unfold I64; omega) (by omega) hW3.1 (by simp [hlt])).mono ?_
      rintro e w8b ⟨rfl, hV3b⟩
      have HX8b := wrote_box hV3b HX8 hNC hNG
      have hM8b := wrote_box hV3b hM8 hMC hMG
      rw [num2_zero] at hV3b
      have hW3b := hW3.trans (by simp [hlt]) hV3b
      clear hW3 hV3b HX8 hM8 e3
      go_wp2_with fail
      refine (metaWrite_any C G (0 + (T ++ [1] ++ [0] ++ [0, 0]).length) M _ ⟨1, tx, id, root, count, ks, es, next, data⟩ hi hr hc w8b hW3b.1 (by simp [hlt]) hM8b hMC hMG).mono ?_
      rintro e w9 ⟨rfl, hV4⟩
      have HX9 := wrote_box hV4 HX8b hNC hNG
      have hW4 := hW3b.trans (by simp [hlt]) hV4
      have hlb : (metaB false ⟨1, tx, id, root, count, ks, es, next, data⟩).length ≤ 104 := by simp [metaB, leB_len]
      have hbb : ∀ x ∈ metaB false ⟨1, tx, id, root, count, ks, es, next, data⟩, 0 ≤ x ∧ x ≤ 255 := bytes_app (bytes_app (bytes_app (leB_byte _ _) (leB_byte _ _)) (leB_byte _ _)) (by intro x hx; simp at hx; omega)
      have hall : ∀ x ∈ T ++ [1] ++ [0] ++ [0, 0] ++ metaB false ⟨1, tx, id, root, count, ks, es, next, data⟩, 0 ≤ x ∧ x ≤ 255 := bytes_app (bytes_app (bytes_app (bytes_app hbt (by intro x hx; simp at hx; omega)) (by intro x hx; simp at hx; omega)) (by intro x hx; simp at hx; omega)) hbb
      have hll : (T ++ [1] ++ [0] ++ [0, 0] ++ metaB false ⟨1, tx, id, root, count, ks, es, next, data⟩).length ≤ 112 := by simp only [List.length_append, List.length_cons, List.length_nil, hlt]; omega
      have HW4 : Hid (Wrote w5 w9 C G false 79 80 0 (List.replicate 128 0) (T ++ [1] ++ [0] ++ [0, 0] ++ metaB false ⟨1, tx, id, root, count, ks, es, next, data⟩)) := hW4
      clear hW3b hW4 hV4 HX8b
      generalize T ++ [1] ++ [0] ++ [0, 0] ++ metaB false ⟨1, tx, id, root, count, ks, es, next, data⟩ = l0 at HW4 hall hll HLT
      obtain ⟨e0, e1, e2, e3, e4⟩ := HW4.out.1.cells
      have hfC : ∀ o, w9.frozen? ⟨C, o, none⟩ = false := by intro o; simp [World.frozen?, HW4.out.1.box]
      have hcur := HW4.out.1
      rw [lay_zero (by omega)] at hcur
      have hcur2 := hcur.move 120
      have HXC : (w9.setCell ⟨C, 1, none⟩ (.int .i64 120)).heap[w.heap.size]? = w9.heap[w.heap.size]? := Below.heap_setCell w9 ⟨C, 1, none⟩ _ w.heap.size hNC
      rw [HX9] at HXC
      have hbel9 : Below w.heap.size w (w9.setCell ⟨C, 1, none⟩ (.int .i64 120)) := (hb9.trans (HW4.out.2.below hb9.size (fun g e => by rcases e with e | e <;> omega))).setCell (by show w.heap.size ≤ C; omega) _
      clear hcur
      go_wp2_with fail
      generalize w9.setCell ⟨C, 1, none⟩ (.int .i64 120) = W9 at hcur2 hbel9 HXC ⊢
      obtain ⟨z0, z1, z2, z3, z4⟩ := hcur2.cells
      have hby := bytes120 hcur2.drew (padB_byte (n := 128) hall)
      rw [pad_take (by omega)] at hby
      have hcr := crcOf_range (padB 120 l0)
      have HQ : Hid (sealN tx l0 = padB 120 l0 ++ (leB 4 (crcOf (padB 120 l0)) ++ T)) := HSL.out l0
      generalize hcq : crcOf (padB 120 l0) = q at hcr HQ
      have hcw : IntKind.i64.wrap q = q := by rw [IntKind.wrap_i64]; omega
      have hci : I64 q := by unfold I64; omega
      clear e0 e1 e2 e3 e4 hfC HX9 HSL
      go_region_held3 (fun w' => w'.cell? ⟨C, 3, none⟩ = some (.func (.func 79) #[.pointer (some ⟨C, 0, none⟩)] #[]) ∧ w'.cell? ⟨C, 0, none⟩ = some (.slice (some ⟨G, 0, none⟩) 128 128)) (go_keep)
        (first
          | (go_at_call 62; have HQC := implCrc0 _ 120 128 (padB 120 l0) W9.drew _ _ hby; rw [hcq] at HQC; refine HQC.mono ?_; rintro e w10 ⟨rfl, rfl⟩)
          | (go_at_call 79; refine (Put C G 120 _ q 4 W9.drew hci (by omega) hcur2.drew (by omega)).mono ?_; rintro e w10 ⟨rfl, hV5⟩; obtain ⟨q0, _, _, q3, _⟩ := hV5.1.cells))
      all_goals
        have hW5 := Wrote.redraw hV5
        have HX10 := wrote_box hW5 HXC hNC hNG
        obtain ⟨_, _, _, _, _, _, _, _, c1⟩ := box_slice HX10
        obtain ⟨_, _, _, e3, _⟩ := hW5.1.cells
        clear hV5 hby HXC z0 z1 z2 z3 z4 hcur2
        rw [show numB false 4 q = leB 4 q from rfl] at hW5
        have hlq : (leB 4 q).length = 4 := leB_len 4 q
        have hlp : (padB 128 l0).length = 128 := padB_len (by omega)
        go_wp2_with fail
        go_region_held3 (fun w' => w'.cell? ⟨C, 3, none⟩ = some (.func (.func 79) #[.pointer (some ⟨C, 0, none⟩)] #[]) ∧ w'.cell? ⟨w.heap.size, 1, none⟩ = some (.int .i64 tx)) (go_keep)
          (first | (go_at_call 79; refine (Put C G (120 + (leB 4 q).length) _ tx 4 w10.drew htI (by omega) hW5.1.drew (by omega)).mono ?_; rintro e w11 ⟨rfl, hV6⟩; have HX11 := wrote_box (w := w10.drew) hV6 HX10 hNC hNG; obtain ⟨_, _, _, _, _, _, _, _, k1⟩ := box_slice HX11; obtain ⟨q0, _, _, q3, _⟩ := hV6.1.cells))
        have hW6 := Wrote.next hW5 hlp (by omega) hV6
        have hfin := hW6.1.row
        rw [pad_lay (by omega) (by rw [List.length_append, hlq, numB_len])] at hfin
        have R : Hid (w11.ownsRow w.heap.size 5 1 (.slice (some ⟨G, 0, none⟩) 128 128) 128 (u8s (padB 120 l0 ++ (leB 4 q ++ numB false 4 tx)))) := owns_raise hfin hs3
        have RB : Hid (Below w.heap.size w w11) := hbel9.trans (hW6.2.below hbel9.size (fun g e => by rcases e with e | e <;> omega))
        obtain ⟨e0, _⟩ := hW6.1.cells
        clear hW6 hV6 hW5 hfin hbel9 HX10 HX11
        go_wp2
        go_ret
        refine ⟨_, rfl, ?_, RB.out⟩
        rw [HLT.out, HQ.out, ← HT.out]
        exact R.out
end New
end Go.Proofs.Ytcmhobbpeaeebaa
namespace Go.Proofs.Ytcmhobbpeaeebaa
namespace New
open Go.RowKit
set_option linter.unusedVariables false
set_option maxRecDepth 100000

set_option maxHeartbeats 3200000 in
theorem encNew_branch (tx id root count : Int) (ka : Option Addr) (n kc : Nat) (ks : List PK) (ea : Option Addr) (m ec : Nat) (es : List PE) (next : Int) (data : ByteArray) (w : World) (A B : Nat) (hB : B ≤ w.heap.size) (hK : KidsAt w A B ka n kc ks) (hE : EntsAt w A B ea m ec es)
    (hn4 : n ≤ 4) (hsz : ∀ i, i < n → 0 < i → (ks.getD i dK).1.size ≤ 8) (hcond : (decide (id = 0 ∧ root = 0 ∧ count = 0) && decide (m = 0) && decide (next = 0) && data.toList.isEmpty) = true) (htI : I64 tx) (htx : inB 1 2000000000 tx = true) (hval : (decide (2 ≤ n) && decide (n ≤ 4) && (ks.getD 0 dK).1.toList.isEmpty && kidsOk 2 999 ks) = true) :
    Calls Try.prog 22 #[.agg #[.int .i64 2, .int .i64 tx, .int .i64 id, .int .i64 root, .int .i64 count, .slice ka n kc, .slice ea m ec, .int .i64 next, .string data]] w fun e w' => ∃ v, e = .returned v ∧ w'.ownsRow w.heap.size 5 1 v 128 (u8s (sealN tx (headN tx 2 (n : Int) (kidsB false (smallN false) ks n)))) ∧ Below w.heap.size w w' := by
  have hb0 : Below w.heap.size w (w.alloc (.cells #[.int .i64 2, .int .i64 tx, .int .i64 id, .int .i64 root, .int .i64 count, .slice ka n kc, .slice ea m ec, .int .i64 next, .string data] 28)) := (Below.refl _ _).alloc (Nat.le_refl _) _
  have HX0 : (w.alloc (.cells #[.int .i64 2, .int .i64 tx, .int .i64 id, .int .i64 root, .int .i64 count, .slice ka n kc, .slice ea m ec, .int .i64 next, .string data] 28)).heap[w.heap.size]? = _ := heap_alloc_new w _
  have hmv := fun a w => meth_branch_valid a w
  have hav := fun a w => ahead_branch_valid a w
  have hac := fun a w => ahead_branch_count a w
  have haw := fun a w => ahead_branch_write a w
  have hmc := fun a w => meth_branch_count a w
  have hmw := fun a w => meth_branch_write a w
  go_enter Try.func22, Try.ntmps22
  go_wp2_with fail
  generalize w.alloc (.cells #[.int .i64 2, .int .i64 tx, .int .i64 id, .int .i64 root, .int .i64 count, .slice ka n kc, .slice ea m ec, .int .i64 next, .string data] 28) = W0 at hb0 HX0 ⊢
  have HB := bodyOf_branch tx id root count ka n kc ks ea m ec es next data W0 A B (Nat.le_trans hB hb0.size) (hK.below (hb0.mono hB)) (hE.below (hb0.mono hB))
  rw [hcond] at HB
  refine HB.mono ?_
  rintro e w1 ⟨M, rfl, hMl, hM, hb1⟩
  have hb2 := hb0.trans (hb1.mono hb0.size)
  have HX1 := eb_call HX0 hb1
  have hMw : w.heap.size ≤ M := Nat.le_trans hb0.size hMl
  obtain ⟨c5, c6, c0, c2, c3, c4, c7, c8, c1⟩ := box_slice HX1
  clear HB hb1 hb0 HX0 hMl
  simp only [cond_true]
  go_wp2_with fail
  go_region_held3 (fun w' => w'.cell? ⟨w.heap.size, 1, none⟩ = some (.int .i64 tx)) (go_keep)
    (first
      | (go_at_call 129; have HV := branchValid_any M ka n kc ks 2 999 w2 A B (Nat.le_trans hB hb4.size) (hK.below (hb4.mono hB)) hM2; rw [hval] at HV; refine HV.mono ?_; rintro e w3 ⟨rfl, hb5⟩; have hb6 := hb4.trans (hb5.mono hb4.size); have HX3 := eb_call HX2 hb5; have hM3 := eb_call hM2 hb5; obtain ⟨_, _, _, _, _, _, _, _, d1⟩ := box_slice HX3)
      | (go_at_call 61; refine (newPages_any w1.drew).mono ?_; rintro e w2 ⟨rfl, hb3⟩; have hb4 := hb2.drew.trans (hb3.mono hb2.size); have HX2 := eb_call (w' := w1.drew) HX1 hb3; have hM2 := eb_call (w' := w1.drew) hM hb3; obtain ⟨_, _, _, _, _, _, _, _, d1⟩ := box_slice HX2)
      | (go_at_call 60; have HI := isStamp_any tx w1.drew; rw [htx] at HI; refine HI.mono ?_; rintro e w1' ⟨rfl, rfl⟩))
  all_goals
    clear hb2 hb3 hb4 hb5 HX1 HX2 hM hM2 hmv hav c5 c6 c0 c2 c3 c4 c7 c8 c1
    obtain ⟨i0, hi0, hz0, hz1, hz2⟩ := info_parts info_u8
    have hs3 := hb6.size
    go_wp2_with (at_make; refine wpList_make_full _ rfl _ _ 22 rfl w.heap.size 5 i0 (.int .u8 0) 1 Try.underlying22 hi0 hz0 hz1 .i64 .i64 128 128 128 rfl rfl rfl rfl (by rw [hz2]; omega) (by unfold maxLen; omega) hs3 ?_; intro w4 hown hgr)
    rw [made128] at hown
    have hN3 : w.heap.size < w3.heap.size := (Array.getElem?_eq_some_iff.1 HX3).1
    have hb7 := hb6.grown hgr hs3 (by simp)
    have HX4 := (hgr.block _ hN3 (by simp)).trans HX3
    have hM3l := (Array.getElem?_eq_some_iff.1 hM3).1
    have hM4 := (hgr.block M hM3l (by simp)).trans hM3
    have hGl := (hown.lt w3.heap.size rfl).2
    have hMG : M ≠ w3.heap.size := by omega
    generalize w3.heap.size = G at hown hMG hN3 hs3 hGl ⊢
    clear hb6 HX3 hM3 hgr hz0 hz1 hz2 hi0 d1
    refine (newCursor_any G (List.replicate 128 0) (by simp) w4 (owns_base hown (Nat.zero_le _))).mono ?_
    rintro e w5 ⟨rfl, hC5, hb8⟩
    have hb9 := hb7.trans (hb8.mono hb7.size)
    have HX5 := eb_call HX4 hb8
    have hM5 := eb_call hM4 hb8
    have hM4l := (Array.getElem?_eq_some_iff.1 hM4).1
    have hMC : M ≠ w4.heap.size := by omega
    have hs4 := hb7.size
    have hNG : w.heap.size ≠ G := by omega
    have hNC : w.heap.size ≠ w4.heap.size := by have := (Array.getElem?_eq_some_iff.1 HX4).1; omega
    have hCG : G < w4.heap.size := hGl
    clear hb7 hb8 HX4 hM4
    generalize w4.heap.size = C at hC5 hMC hs4 hNC hCG ⊢
    obtain ⟨_, _, _, _, _, _, _, _, c1⟩ := box_slice HX5
    obtain ⟨_, _, _, e3, _⟩ := hC5.cells
    go_wp2_with fail
    go_region_held3 (fun w' => w'.cell? ⟨C, 3, none⟩ = some (.func (.func 79) #[.pointer (some ⟨C, 0, none⟩)] #[]) ∧ w'.cell? ⟨w.heap.size, 1, none⟩ = some (.int .i64 tx)) (go_keep)
      (first | (go_at_call 79; refine (Put C G 0 _ tx 4 w5.drew htI (by omega) hC5.drew (by omega)).mono ?_; rintro e w6 ⟨rfl, hV1⟩; have HX6 := wrote_box (w := w5.drew) hV1 HX5 hNC hNG; have hM6 := wrote_box (w := w5.drew) hV1 hM5 hMC hMG; obtain ⟨_, _, _, _, _, _, _, _, k1⟩ := box_slice HX6; obtain ⟨_, _, _, q3, _⟩ := hV1.1.cells))
    rw [show numB false 4 tx = leB 4 tx from rfl] at hV1
    have hW1 := Wrote.start hV1
    clear hV1 HX5 hM5 c1 e3
    have hlt : (leB 4 tx).length = 4 := leB_len 4 tx
    have hbt : ∀ y ∈ leB 4 tx, 0 ≤ y ∧ y ≤ 255 := leB_byte 4 tx
    have HLT : Hid (headN tx 2 (n : Int) (kidsB false (smallN false) ks n) = leB 4 tx ++ [2] ++ [(n : Int)] ++ [0, 0] ++ kidsB false (smallN false) ks n) := rfl
    have HSL : Hid (∀ l : List Int, sealN tx l = padB 120 l ++ (leB 4 (crcOf (padB 120 l)) ++ leB 4 tx)) := fun l => by simp [sealN]
    generalize hT : leB 4 tx = T at hW1 hlt hbt HLT HSL
    have HT : Hid (leB 4 tx = T) := hT
    clear hT
    obtain ⟨_, _, c0, _⟩ := box_slice HX6
    obtain ⟨_, _, _, e3, _⟩ := hW1.1.cells
    go_wp2_with fail
    go_region_held3 (fun w' => w'.cell? ⟨C, 3, none⟩ = some (.func (.func 79) #[.pointer (some ⟨C, 0, none⟩)] #[]) ∧ w'.cell? ⟨w.heap.size, 0, none⟩ = some (.int .i64 2)) (go_keep)
      (first | (go_at_call 79; refine (Put C G (0 + T.length) _ 2 1 w6.drew (by unfold I64; omega) (by omega) hW1.1.drew (by simp [hlt])).mono ?_; rintro e w7 ⟨rfl, hV2⟩; have HX7 := wrote_box (w := w6.drew) hV2 HX6 hNC hNG; have hM7 := wrote_box (w := w6.drew) hV2 hM6 hMC hMG; obtain ⟨_, _, k0, _⟩ := box_slice HX7; obtain ⟨_, _, _, q3, _⟩ := hV2.1.cells))
    rw [numB_one _ _ (by omega)] at hV2
    have hW2 := Wrote.next hW1 (by simp) (by simp [hlt]) hV2
    obtain ⟨_, _, _, e3, _⟩ := hW2.1.cells
    clear hW1 hV2 HX6 hM6 c0
    go_wp2_with fail
    go_region_held3 (fun w' => w'.cell? ⟨C, 3, none⟩ = some (.func (.func 79) #[.pointer (some ⟨C, 0, none⟩)] #[])) (go_keep)
      (first
        | (go_at_call 126; refine (branchCount_any M ka n kc w7.drew hM7).mono ?_; rintro e w8 ⟨rfl, rfl⟩)
        | (go_at_call 79; refine (Put C G (0 + (T ++ [2]).length) _ (n : Int) 1 w7.drew (by unfold I64; omega) (by omega) hW2.1.drew (by simp [hlt])).mono ?_; rintro e w8 ⟨rfl, hV3⟩; have HX8 := wrote_box (w := w7.drew) hV3 HX7 hNC hNG; have hM8 := wrote_box (w := w7.drew) hV3 hM7 hMC hMG; obtain ⟨_, _, _, q3, _⟩ := hV3.1.cells))
    all_goals
      rw [numB_one _ _ (by omega)] at hV3
      have hW3 := Wrote.next hW2 (by simp) (by simp [hlt]) hV3
      obtain ⟨_, _, _, e3, _⟩ := hW3.1.cells
      clear hW2 hV3 HX7 hM7
      go_wp2_with fail
      refine (Put C G (0 + (T ++ [2] ++ [(n : Int)]).length) _ 0 2 w8 (by unfold I64; omega) (by omega) hW3.1 (by simp [hlt])).mono ?_
      rintro e w8b ⟨rfl, hV3b⟩
      have HX8b := wrote_box hV3b HX8 hNC hNG
      have hM8b := wrote_box hV3b hM8 hMC hMG
      rw [num2_zero] at hV3b
      have hW3b := hW3.trans (by simp [hlt]) hV3b
      clear hW3 hV3b HX8 hM8 e3
      go_wp2_with fail
      have hb10 : Below w.heap.size w w8b := hb9.trans (hW3b.2.below hb9.size (fun g e => by rcases e with e | e <;> omega))
      refine (branchWrite_any C G (0 + (T ++ [2] ++ [(n : Int)] ++ [0, 0]).length) M _ ka n kc ks w8b A B hW3b.1 (by simp [hlt]) hM8b hMC hMG (hK.below (hb10.mono hB)) (Nat.le_trans hB hb10.size) (by omega) (by omega) hn4 hsz).mono ?_
      rintro e w9 ⟨rfl, hV4⟩
      have HX9 := wrote_box hV4 HX8b hNC hNG
      have hW4 := hW3b.trans (by simp [hlt]) hV4
      have hlb : (kidsB false (smallN false) ks n).length ≤ 104 := by have := kidsB_len' false ks n hsz; omega
      have hbb : ∀ x ∈ kidsB false (smallN false) ks n, 0 ≤ x ∧ x ≤ 255 := kidsB_byte false (smallN false) ks n hsz
      have hall : ∀ x ∈ T ++ [2] ++ [(n : Int)] ++ [0, 0] ++ kidsB false (smallN false) ks n, 0 ≤ x ∧ x ≤ 255 := bytes_app (bytes_app (bytes_app (bytes_app hbt (by intro x hx; simp at hx; omega)) (by intro x hx; simp at hx; omega)) (by intro x hx; simp at hx; omega)) hbb
      have hll : (T ++ [2] ++ [(n : Int)] ++ [0, 0] ++ kidsB false (smallN false) ks n).length ≤ 112 := by simp only [List.length_append, List.length_cons, List.length_nil, hlt]; omega
      have HW4 : Hid (Wrote w5 w9 C G false 79 80 0 (List.replicate 128 0) (T ++ [2] ++ [(n : Int)] ++ [0, 0] ++ kidsB false (smallN false) ks n)) := hW4
      clear hW3b hW4 hV4 HX8b
      generalize T ++ [2] ++ [(n : Int)] ++ [0, 0] ++ kidsB false (smallN false) ks n = l0 at HW4 hall hll HLT
      obtain ⟨e0, e1, e2, e3, e4⟩ := HW4.out.1.cells
      have hfC : ∀ o, w9.frozen? ⟨C, o, none⟩ = false := by intro o; simp [World.frozen?, HW4.out.1.box]
      have hcur := HW4.out.1
      rw [lay_zero (by omega)] at hcur
      have hcur2 := hcur.move 120
      have HXC : (w9.setCell ⟨C, 1, none⟩ (.int .i64 120)).heap[w.heap.size]? = w9.heap[w.heap.size]? := Below.heap_setCell w9 ⟨C, 1, none⟩ _ w.heap.size hNC
      rw [HX9] at HXC
      have hbel9 : Below w.heap.size w (w9.setCell ⟨C, 1, none⟩ (.int .i64 120)) := (hb9.trans (HW4.out.2.below hb9.size (fun g e => by rcases e with e | e <;> omega))).setCell (by show w.heap.size ≤ C; omega) _
      clear hcur
      go_wp2_with fail
      generalize w9.setCell ⟨C, 1, none⟩ (.int .i64 120) = W9 at hcur2 hbel9 HXC ⊢
      obtain ⟨z0, z1, z2, z3, z4⟩ := hcur2.cells
      have hby := bytes120 hcur2.drew (padB_byte (n := 128) hall)
      rw [pad_take (by omega)] at hby
      have hcr := crcOf_range (padB 120 l0)
      have HQ : Hid (sealN tx l0 = padB 120 l0 ++ (leB 4 (crcOf (padB 120 l0)) ++ T)) := HSL.out l0
      generalize hcq : crcOf (padB 120 l0) = q at hcr HQ
      have hcw : IntKind.i64.wrap q = q := by rw [IntKind.wrap_i64]; omega
      have hci : I64 q := by unfold I64; omega
      clear e0 e1 e2 e3 e4 hfC HX9 HSL
      go_region_held3 (fun w' => w'.cell? ⟨C, 3, none⟩ = some (.func (.func 79) #[.pointer (some ⟨C, 0, none⟩)] #[]) ∧ w'.cell? ⟨C, 0, none⟩ = some (.slice (some ⟨G, 0, none⟩) 128 128)) (go_keep)
        (first
          | (go_at_call 62; have HQC := implCrc0 _ 120 128 (padB 120 l0) W9.drew _ _ hby; rw [hcq] at HQC; refine HQC.mono ?_; rintro e w10 ⟨rfl, rfl⟩)
          | (go_at_call 79; refine (Put C G 120 _ q 4 W9.drew hci (by omega) hcur2.drew (by omega)).mono ?_; rintro e w10 ⟨rfl, hV5⟩; obtain ⟨q0, _, _, q3, _⟩ := hV5.1.cells))
      all_goals
        have hW5 := Wrote.redraw hV5
        have HX10 := wrote_box hW5 HXC hNC hNG
        obtain ⟨_, _, _, _, _, _, _, _, c1⟩ := box_slice HX10
        obtain ⟨_, _, _, e3, _⟩ := hW5.1.cells
        clear hV5 hby HXC z0 z1 z2 z3 z4 hcur2
        rw [show numB false 4 q = leB 4 q from rfl] at hW5
        have hlq : (leB 4 q).length = 4 := leB_len 4 q
        have hlp : (padB 128 l0).length = 128 := padB_len (by omega)
        go_wp2_with fail
        go_region_held3 (fun w' => w'.cell? ⟨C, 3, none⟩ = some (.func (.func 79) #[.pointer (some ⟨C, 0, none⟩)] #[]) ∧ w'.cell? ⟨w.heap.size, 1, none⟩ = some (.int .i64 tx)) (go_keep)
          (first | (go_at_call 79; refine (Put C G (120 + (leB 4 q).length) _ tx 4 w10.drew htI (by omega) hW5.1.drew (by omega)).mono ?_; rintro e w11 ⟨rfl, hV6⟩; have HX11 := wrote_box (w := w10.drew) hV6 HX10 hNC hNG; obtain ⟨_, _, _, _, _, _, _, _, k1⟩ := box_slice HX11; obtain ⟨q0, _, _, q3, _⟩ := hV6.1.cells))
        have hW6 := Wrote.next hW5 hlp (by omega) hV6
        have hfin := hW6.1.row
        rw [pad_lay (by omega) (by rw [List.length_append, hlq, numB_len])] at hfin
        have R : Hid (w11.ownsRow w.heap.size 5 1 (.slice (some ⟨G, 0, none⟩) 128 128) 128 (u8s (padB 120 l0 ++ (leB 4 q ++ numB false 4 tx)))) := owns_raise hfin hs3
        have RB : Hid (Below w.heap.size w w11) := hbel9.trans (hW6.2.below hbel9.size (fun g e => by rcases e with e | e <;> omega))
        obtain ⟨e0, _⟩ := hW6.1.cells
        clear hW6 hV6 hW5 hfin hbel9 HX10 HX11
        go_wp2
        go_ret
        refine ⟨_, rfl, ?_, RB.out⟩
        rw [HLT.out, HQ.out, ← HT.out]
        exact R.out
end New
end Go.Proofs.Ytcmhobbpeaeebaa
