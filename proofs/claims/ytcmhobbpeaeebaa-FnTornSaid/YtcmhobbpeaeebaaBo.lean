import Derived.Test.YtcmhobbpeaeebaaSp
namespace Go.Proofs.Ytcmhobbpeaeebaa
open Go.RowKit
set_option linter.unusedVariables false
set_option maxRecDepth 100000

theorem meth_meta_page (a : Addr) (w : World) : (method 264 134 (.pointer (some a)) "loop.example/s02098/impl.page").run Try.prog w = .ok (119, .pointer (some a)) w := by kernel_rfl
theorem meth_meta_valid (a : Addr) (w : World) : (method 264 134 (.pointer (some a)) "loop.example/s02098/impl.valid").run Try.prog w = .ok (121, .pointer (some a)) w := by kernel_rfl
theorem meth_meta_count (a : Addr) (w : World) : (method 264 134 (.pointer (some a)) "loop.example/s02098/impl.count").run Try.prog w = .ok (118, .pointer (some a)) w := by kernel_rfl
theorem meth_meta_write (a : Addr) (w : World) : (method 264 134 (.pointer (some a)) "loop.example/s02098/impl.write").run Try.prog w = .ok (122, .pointer (some a)) w := by kernel_rfl
theorem meth_branch_page (a : Addr) (w : World) : (method 264 137 (.pointer (some a)) "loop.example/s02098/impl.page").run Try.prog w = .ok (127, .pointer (some a)) w := by kernel_rfl
theorem meth_branch_valid (a : Addr) (w : World) : (method 264 137 (.pointer (some a)) "loop.example/s02098/impl.valid").run Try.prog w = .ok (129, .pointer (some a)) w := by kernel_rfl
theorem meth_branch_count (a : Addr) (w : World) : (method 264 137 (.pointer (some a)) "loop.example/s02098/impl.count").run Try.prog w = .ok (126, .pointer (some a)) w := by kernel_rfl
theorem meth_branch_write (a : Addr) (w : World) : (method 264 137 (.pointer (some a)) "loop.example/s02098/impl.write").run Try.prog w = .ok (130, .pointer (some a)) w := by kernel_rfl
theorem meth_leaf_page (a : Addr) (w : World) : (method 264 140 (.pointer (some a)) "loop.example/s02098/impl.page").run Try.prog w = .ok (135, .pointer (some a)) w := by kernel_rfl
theorem meth_leaf_valid (a : Addr) (w : World) : (method 264 140 (.pointer (some a)) "loop.example/s02098/impl.valid").run Try.prog w = .ok (137, .pointer (some a)) w := by kernel_rfl
theorem meth_leaf_count (a : Addr) (w : World) : (method 264 140 (.pointer (some a)) "loop.example/s02098/impl.count").run Try.prog w = .ok (134, .pointer (some a)) w := by kernel_rfl
theorem meth_leaf_write (a : Addr) (w : World) : (method 264 140 (.pointer (some a)) "loop.example/s02098/impl.write").run Try.prog w = .ok (138, .pointer (some a)) w := by kernel_rfl
theorem meth_over_page (a : Addr) (w : World) : (method 264 143 (.pointer (some a)) "loop.example/s02098/impl.page").run Try.prog w = .ok (142, .pointer (some a)) w := by kernel_rfl
theorem meth_over_valid (a : Addr) (w : World) : (method 264 143 (.pointer (some a)) "loop.example/s02098/impl.valid").run Try.prog w = .ok (144, .pointer (some a)) w := by kernel_rfl
theorem meth_over_count (a : Addr) (w : World) : (method 264 143 (.pointer (some a)) "loop.example/s02098/impl.count").run Try.prog w = .ok (141, .pointer (some a)) w := by kernel_rfl
theorem meth_over_write (a : Addr) (w : World) : (method 264 143 (.pointer (some a)) "loop.example/s02098/impl.write").run Try.prog w = .ok (145, .pointer (some a)) w := by kernel_rfl
set_option maxHeartbeats 1600000 in
theorem bodyOf_meta (tx id root count : Int) (ka : Option Addr) (n kc : Nat) (ks : List PK) (ea : Option Addr) (m ec : Nat) (es : List PE) (next : Int) (data : ByteArray) (w : World) (A B : Nat) (hB : B ≤ w.heap.size) (hK : KidsAt w A B ka n kc ks) (hE : EntsAt w A B ea m ec es) :
    Calls Try.prog 59 #[.agg #[.int .i64 1, .int .i64 tx, .int .i64 id, .int .i64 root, .int .i64 count, .slice ka n kc, .slice ea m ec, .int .i64 next, .string data]] w fun e w' => ∃ M, e = .returned (cond (decide (n = 0) && decide (m = 0) && decide (next = 0) && data.toList.isEmpty) (.iface 134 (.pointer (some ⟨M, 0, none⟩))) .nilIface) ∧ w.heap.size ≤ M ∧ w'.heap[M]? = some (.cells #[.int .i64 id, .int .i64 root, .int .i64 count] 136) ∧ Below w.heap.size w w' := by
  have hb0 : Below w.heap.size w (w.alloc (.cells #[.int .i64 1, .int .i64 tx, .int .i64 id, .int .i64 root, .int .i64 count, .slice ka n kc, .slice ea m ec, .int .i64 next, .string data] 28)) := (Below.refl _ _).alloc (Nat.le_refl _) _
  have HX0 : (w.alloc (.cells #[.int .i64 1, .int .i64 tx, .int .i64 id, .int .i64 root, .int .i64 count, .slice ka n kc, .slice ea m ec, .int .i64 next, .string data] 28)).heap[w.heap.size]? = some (.cells #[.int .i64 1, .int .i64 tx, .int .i64 id, .int .i64 root, .int .i64 count, .slice ka n kc, .slice ea m ec, .int .i64 next, .string data] 28) := heap_alloc_new w _
  have hm := fun a w => meth_meta_page a w
  go_enter Try.func59, Try.ntmps59
  go_wp2_with fail
  generalize w.alloc (.cells #[.int .i64 1, .int .i64 tx, .int .i64 id, .int .i64 root, .int .i64 count, .slice ka n kc, .slice ea m ec, .int .i64 next, .string data] 28) = W0 at hb0 HX0 ⊢
  refine (kindBody_meta tx id root count ka n kc ea m ec next data W0).mono ?_
  rintro e w1 ⟨M, rfl, hMl, hM, hb1⟩
  have hb2 := hb0.trans (hb1.mono hb0.size)
  have HX1 := eb_call HX0 hb1
  obtain ⟨c5, c6, c0, c2, c3, c4, c7, c8, c1⟩ := box_slice HX1
  have hWM : w.heap.size ≤ M := Nat.le_trans hb0.size hMl
  clear hb0 HX0 hb1 hMl
  go_wp2_with fail
  refine (metaPage_any M id root count w1 hM).mono ?_
  rintro e w2 ⟨rfl, hb3⟩
  have hb4 := hb2.trans (hb3.mono hb2.size)
  have HX2 := eb_call HX1 hb3
  have hM2 := eb_call hM hb3
  obtain ⟨d5, d6, d0, d2, d3, d4, d7, d8, d1⟩ := box_slice HX2
  have hl2 : w.heap.size < w2.heap.size := (Array.getElem?_eq_some_iff.1 HX2).1
  clear hb2 hb3 HX1 hM c5 c6 c0 c2 c3 c4 c7 c8 c1 hm
  go_wp2_with fail
  have hb5 := hb4.alloc hb4.size (.cells #[.int .i64 1, .int .i64 tx, .int .i64 id, .int .i64 root, .int .i64 count, .slice none 0 0, .slice none 0 0, .int .i64 0, .string ByteArray.empty] 28)
  have hM3 := eb_call hM2 ((Below.refl _ w2).alloc (Nat.le_refl _) (.cells #[.int .i64 1, .int .i64 tx, .int .i64 id, .int .i64 root, .int .i64 count, .slice none 0 0, .slice none 0 0, .int .i64 0, .string ByteArray.empty] 28))
  generalize w2.alloc (.cells #[.int .i64 1, .int .i64 tx, .int .i64 id, .int .i64 root, .int .i64 count, .slice none 0 0, .slice none 0 0, .int .i64 0, .string ByteArray.empty] 28) = W3 at hb5 hM3 ⊢
  refine (same_meta tx id root count ka n kc ks ea m ec es next data W3 A B (Nat.le_trans hB hb5.size) (hK.below (hb5.mono hB)) (hE.below (hb5.mono hB))).mono ?_
  rintro e w4 ⟨rfl, hb6⟩
  have hb7 := hb5.trans (hb6.mono hb5.size)
  have hM4 := eb_call hM3 hb6
  clear hb4 hb5 hb6 hM2 hM3 d5 d6 d0 d2 d3 d4 d7 d8 d1 HX2 hl2
  generalize hcd : (decide (n = 0) && decide (m = 0) && decide (next = 0) && data.toList.isEmpty) = cd
  have HC : Hid ((decide (n = 0) && decide (m = 0) && decide (next = 0) && data.toList.isEmpty) = cd) := hcd
  clear hcd
  cases cd
  · go_wp2
    go_ret
    exact ⟨M, by rw [HC.out]; rfl, hWM, hM4, hb7⟩
  · go_wp2
    go_ret
    exact ⟨M, by rw [HC.out]; rfl, hWM, hM4, hb7⟩
set_option maxHeartbeats 1600000 in
theorem bodyOf_branch (tx id root count : Int) (ka : Option Addr) (n kc : Nat) (ks : List PK) (ea : Option Addr) (m ec : Nat) (es : List PE) (next : Int) (data : ByteArray) (w : World) (A B : Nat) (hB : B ≤ w.heap.size) (hK : KidsAt w A B ka n kc ks) (hE : EntsAt w A B ea m ec es) :
    Calls Try.prog 59 #[.agg #[.int .i64 2, .int .i64 tx, .int .i64 id, .int .i64 root, .int .i64 count, .slice ka n kc, .slice ea m ec, .int .i64 next, .string data]] w fun e w' => ∃ M, e = .returned (cond (decide (id = 0 ∧ root = 0 ∧ count = 0) && decide (m = 0) && decide (next = 0) && data.toList.isEmpty) (.iface 137 (.pointer (some ⟨M, 0, none⟩))) .nilIface) ∧ w.heap.size ≤ M ∧ w'.heap[M]? = some (.cells #[.slice ka n kc] 139) ∧ Below w.heap.size w w' := by
  have hb0 : Below w.heap.size w (w.alloc (.cells #[.int .i64 2, .int .i64 tx, .int .i64 id, .int .i64 root, .int .i64 count, .slice ka n kc, .slice ea m ec, .int .i64 next, .string data] 28)) := (Below.refl _ _).alloc (Nat.le_refl _) _
  have HX0 : (w.alloc (.cells #[.int .i64 2, .int .i64 tx, .int .i64 id, .int .i64 root, .int .i64 count, .slice ka n kc, .slice ea m ec, .int .i64 next, .string data] 28)).heap[w.heap.size]? = some (.cells #[.int .i64 2, .int .i64 tx, .int .i64 id, .int .i64 root, .int .i64 count, .slice ka n kc, .slice ea m ec, .int .i64 next, .string data] 28) := heap_alloc_new w _
  have hm := fun a w => meth_branch_page a w
  go_enter Try.func59, Try.ntmps59
  go_wp2_with fail
  generalize w.alloc (.cells #[.int .i64 2, .int .i64 tx, .int .i64 id, .int .i64 root, .int .i64 count, .slice ka n kc, .slice ea m ec, .int .i64 next, .string data] 28) = W0 at hb0 HX0 ⊢
  refine (kindBody_branch tx id root count ka n kc ea m ec next data W0).mono ?_
  rintro e w1 ⟨M, rfl, hMl, hM, hb1⟩
  have hb2 := hb0.trans (hb1.mono hb0.size)
  have HX1 := eb_call HX0 hb1
  obtain ⟨c5, c6, c0, c2, c3, c4, c7, c8, c1⟩ := box_slice HX1
  have hWM : w.heap.size ≤ M := Nat.le_trans hb0.size hMl
  clear hb0 HX0 hb1 hMl
  go_wp2_with fail
  refine (branchPage_any M ka n kc w1 hM).mono ?_
  rintro e w2 ⟨rfl, hb3⟩
  have hb4 := hb2.trans (hb3.mono hb2.size)
  have HX2 := eb_call HX1 hb3
  have hM2 := eb_call hM hb3
  obtain ⟨d5, d6, d0, d2, d3, d4, d7, d8, d1⟩ := box_slice HX2
  have hl2 : w.heap.size < w2.heap.size := (Array.getElem?_eq_some_iff.1 HX2).1
  clear hb2 hb3 HX1 hM c5 c6 c0 c2 c3 c4 c7 c8 c1 hm
  go_wp2_with fail
  have hb5 := hb4.alloc hb4.size (.cells #[.int .i64 2, .int .i64 tx, .int .i64 0, .int .i64 0, .int .i64 0, .slice ka n kc, .slice none 0 0, .int .i64 0, .string ByteArray.empty] 28)
  have hM3 := eb_call hM2 ((Below.refl _ w2).alloc (Nat.le_refl _) (.cells #[.int .i64 2, .int .i64 tx, .int .i64 0, .int .i64 0, .int .i64 0, .slice ka n kc, .slice none 0 0, .int .i64 0, .string ByteArray.empty] 28))
  generalize w2.alloc (.cells #[.int .i64 2, .int .i64 tx, .int .i64 0, .int .i64 0, .int .i64 0, .slice ka n kc, .slice none 0 0, .int .i64 0, .string ByteArray.empty] 28) = W3 at hb5 hM3 ⊢
  refine (same_branch tx id root count ka n kc ks ea m ec es next data W3 A B (Nat.le_trans hB hb5.size) (hK.below (hb5.mono hB)) (hE.below (hb5.mono hB))).mono ?_
  rintro e w4 ⟨rfl, hb6⟩
  have hb7 := hb5.trans (hb6.mono hb5.size)
  have hM4 := eb_call hM3 hb6
  clear hb4 hb5 hb6 hM2 hM3 d5 d6 d0 d2 d3 d4 d7 d8 d1 HX2 hl2
  generalize hcd : (decide (id = 0 ∧ root = 0 ∧ count = 0) && decide (m = 0) && decide (next = 0) && data.toList.isEmpty) = cd
  have HC : Hid ((decide (id = 0 ∧ root = 0 ∧ count = 0) && decide (m = 0) && decide (next = 0) && data.toList.isEmpty) = cd) := hcd
  clear hcd
  cases cd
  · go_wp2
    go_ret
    exact ⟨M, by rw [HC.out]; rfl, hWM, hM4, hb7⟩
  · go_wp2
    go_ret
    exact ⟨M, by rw [HC.out]; rfl, hWM, hM4, hb7⟩
set_option maxHeartbeats 1600000 in
theorem bodyOf_leaf (tx id root count : Int) (ka : Option Addr) (n kc : Nat) (ks : List PK) (ea : Option Addr) (m ec : Nat) (es : List PE) (next : Int) (data : ByteArray) (w : World) (A B : Nat) (hB : B ≤ w.heap.size) (hK : KidsAt w A B ka n kc ks) (hE : EntsAt w A B ea m ec es) :
    Calls Try.prog 59 #[.agg #[.int .i64 3, .int .i64 tx, .int .i64 id, .int .i64 root, .int .i64 count, .slice ka n kc, .slice ea m ec, .int .i64 next, .string data]] w fun e w' => ∃ M, e = .returned (cond (decide (id = 0 ∧ root = 0 ∧ count = 0) && decide (n = 0) && decide (next = 0) && data.toList.isEmpty) (.iface 140 (.pointer (some ⟨M, 0, none⟩))) .nilIface) ∧ w.heap.size ≤ M ∧ w'.heap[M]? = some (.cells #[.slice ea m ec] 142) ∧ Below w.heap.size w w' := by
  have hb0 : Below w.heap.size w (w.alloc (.cells #[.int .i64 3, .int .i64 tx, .int .i64 id, .int .i64 root, .int .i64 count, .slice ka n kc, .slice ea m ec, .int .i64 next, .string data] 28)) := (Below.refl _ _).alloc (Nat.le_refl _) _
  have HX0 : (w.alloc (.cells #[.int .i64 3, .int .i64 tx, .int .i64 id, .int .i64 root, .int .i64 count, .slice ka n kc, .slice ea m ec, .int .i64 next, .string data] 28)).heap[w.heap.size]? = some (.cells #[.int .i64 3, .int .i64 tx, .int .i64 id, .int .i64 root, .int .i64 count, .slice ka n kc, .slice ea m ec, .int .i64 next, .string data] 28) := heap_alloc_new w _
  have hm := fun a w => meth_leaf_page a w
  go_enter Try.func59, Try.ntmps59
  go_wp2_with fail
  generalize w.alloc (.cells #[.int .i64 3, .int .i64 tx, .int .i64 id, .int .i64 root, .int .i64 count, .slice ka n kc, .slice ea m ec, .int .i64 next, .string data] 28) = W0 at hb0 HX0 ⊢
  refine (kindBody_leaf tx id root count ka n kc ea m ec next data W0).mono ?_
  rintro e w1 ⟨M, rfl, hMl, hM, hb1⟩
  have hb2 := hb0.trans (hb1.mono hb0.size)
  have HX1 := eb_call HX0 hb1
  obtain ⟨c5, c6, c0, c2, c3, c4, c7, c8, c1⟩ := box_slice HX1
  have hWM : w.heap.size ≤ M := Nat.le_trans hb0.size hMl
  clear hb0 HX0 hb1 hMl
  go_wp2_with fail
  refine (leafPage_any M ea m ec w1 hM).mono ?_
  rintro e w2 ⟨rfl, hb3⟩
  have hb4 := hb2.trans (hb3.mono hb2.size)
  have HX2 := eb_call HX1 hb3
  have hM2 := eb_call hM hb3
  obtain ⟨d5, d6, d0, d2, d3, d4, d7, d8, d1⟩ := box_slice HX2
  have hl2 : w.heap.size < w2.heap.size := (Array.getElem?_eq_some_iff.1 HX2).1
  clear hb2 hb3 HX1 hM c5 c6 c0 c2 c3 c4 c7 c8 c1 hm
  go_wp2_with fail
  have hb5 := hb4.alloc hb4.size (.cells #[.int .i64 3, .int .i64 tx, .int .i64 0, .int .i64 0, .int .i64 0, .slice none 0 0, .slice ea m ec, .int .i64 0, .string ByteArray.empty] 28)
  have hM3 := eb_call hM2 ((Below.refl _ w2).alloc (Nat.le_refl _) (.cells #[.int .i64 3, .int .i64 tx, .int .i64 0, .int .i64 0, .int .i64 0, .slice none 0 0, .slice ea m ec, .int .i64 0, .string ByteArray.empty] 28))
  generalize w2.alloc (.cells #[.int .i64 3, .int .i64 tx, .int .i64 0, .int .i64 0, .int .i64 0, .slice none 0 0, .slice ea m ec, .int .i64 0, .string ByteArray.empty] 28) = W3 at hb5 hM3 ⊢
  refine (same_leaf tx id root count ka n kc ks ea m ec es next data W3 A B (Nat.le_trans hB hb5.size) (hK.below (hb5.mono hB)) (hE.below (hb5.mono hB))).mono ?_
  rintro e w4 ⟨rfl, hb6⟩
  have hb7 := hb5.trans (hb6.mono hb5.size)
  have hM4 := eb_call hM3 hb6
  clear hb4 hb5 hb6 hM2 hM3 d5 d6 d0 d2 d3 d4 d7 d8 d1 HX2 hl2
  generalize hcd : (decide (id = 0 ∧ root = 0 ∧ count = 0) && decide (n = 0) && decide (next = 0) && data.toList.isEmpty) = cd
  have HC : Hid ((decide (id = 0 ∧ root = 0 ∧ count = 0) && decide (n = 0) && decide (next = 0) && data.toList.isEmpty) = cd) := hcd
  clear hcd
  cases cd
  · go_wp2
    go_ret
    exact ⟨M, by rw [HC.out]; rfl, hWM, hM4, hb7⟩
  · go_wp2
    go_ret
    exact ⟨M, by rw [HC.out]; rfl, hWM, hM4, hb7⟩
set_option maxHeartbeats 1600000 in
theorem bodyOf_over (tx id root count : Int) (ka : Option Addr) (n kc : Nat) (ks : List PK) (ea : Option Addr) (m ec : Nat) (es : List PE) (next : Int) (data : ByteArray) (w : World) (A B : Nat) (hB : B ≤ w.heap.size) (hK : KidsAt w A B ka n kc ks) (hE : EntsAt w A B ea m ec es) :
    Calls Try.prog 59 #[.agg #[.int .i64 4, .int .i64 tx, .int .i64 id, .int .i64 root, .int .i64 count, .slice ka n kc, .slice ea m ec, .int .i64 next, .string data]] w fun e w' => ∃ M, e = .returned (cond (decide (id = 0 ∧ root = 0 ∧ count = 0) && decide (n = 0) && decide (m = 0)) (.iface 143 (.pointer (some ⟨M, 0, none⟩))) .nilIface) ∧ w.heap.size ≤ M ∧ w'.heap[M]? = some (.cells #[.int .i64 next, .string data] 145) ∧ Below w.heap.size w w' := by
  have hb0 : Below w.heap.size w (w.alloc (.cells #[.int .i64 4, .int .i64 tx, .int .i64 id, .int .i64 root, .int .i64 count, .slice ka n kc, .slice ea m ec, .int .i64 next, .string data] 28)) := (Below.refl _ _).alloc (Nat.le_refl _) _
  have HX0 : (w.alloc (.cells #[.int .i64 4, .int .i64 tx, .int .i64 id, .int .i64 root, .int .i64 count, .slice ka n kc, .slice ea m ec, .int .i64 next, .string data] 28)).heap[w.heap.size]? = some (.cells #[.int .i64 4, .int .i64 tx, .int .i64 id, .int .i64 root, .int .i64 count, .slice ka n kc, .slice ea m ec, .int .i64 next, .string data] 28) := heap_alloc_new w _
  have hm := fun a w => meth_over_page a w
  go_enter Try.func59, Try.ntmps59
  go_wp2_with fail
  generalize w.alloc (.cells #[.int .i64 4, .int .i64 tx, .int .i64 id, .int .i64 root, .int .i64 count, .slice ka n kc, .slice ea m ec, .int .i64 next, .string data] 28) = W0 at hb0 HX0 ⊢
  refine (kindBody_over tx id root count ka n kc ea m ec next data W0).mono ?_
  rintro e w1 ⟨M, rfl, hMl, hM, hb1⟩
  have hb2 := hb0.trans (hb1.mono hb0.size)
  have HX1 := eb_call HX0 hb1
  obtain ⟨c5, c6, c0, c2, c3, c4, c7, c8, c1⟩ := box_slice HX1
  have hWM : w.heap.size ≤ M := Nat.le_trans hb0.size hMl
  clear hb0 HX0 hb1 hMl
  go_wp2_with fail
  refine (overPage_any M next data w1 hM).mono ?_
  rintro e w2 ⟨rfl, hb3⟩
  have hb4 := hb2.trans (hb3.mono hb2.size)
  have HX2 := eb_call HX1 hb3
  have hM2 := eb_call hM hb3
  obtain ⟨d5, d6, d0, d2, d3, d4, d7, d8, d1⟩ := box_slice HX2
  have hl2 : w.heap.size < w2.heap.size := (Array.getElem?_eq_some_iff.1 HX2).1
  clear hb2 hb3 HX1 hM c5 c6 c0 c2 c3 c4 c7 c8 c1 hm
  go_wp2_with fail
  have hb5 := hb4.alloc hb4.size (.cells #[.int .i64 4, .int .i64 tx, .int .i64 0, .int .i64 0, .int .i64 0, .slice none 0 0, .slice none 0 0, .int .i64 next, .string data] 28)
  have hM3 := eb_call hM2 ((Below.refl _ w2).alloc (Nat.le_refl _) (.cells #[.int .i64 4, .int .i64 tx, .int .i64 0, .int .i64 0, .int .i64 0, .slice none 0 0, .slice none 0 0, .int .i64 next, .string data] 28))
  generalize w2.alloc (.cells #[.int .i64 4, .int .i64 tx, .int .i64 0, .int .i64 0, .int .i64 0, .slice none 0 0, .slice none 0 0, .int .i64 next, .string data] 28) = W3 at hb5 hM3 ⊢
  refine (same_over tx id root count ka n kc ks ea m ec es next data W3 A B (Nat.le_trans hB hb5.size) (hK.below (hb5.mono hB)) (hE.below (hb5.mono hB))).mono ?_
  rintro e w4 ⟨rfl, hb6⟩
  have hb7 := hb5.trans (hb6.mono hb5.size)
  have hM4 := eb_call hM3 hb6
  clear hb4 hb5 hb6 hM2 hM3 d5 d6 d0 d2 d3 d4 d7 d8 d1 HX2 hl2
  generalize hcd : (decide (id = 0 ∧ root = 0 ∧ count = 0) && decide (n = 0) && decide (m = 0)) = cd
  have HC : Hid ((decide (id = 0 ∧ root = 0 ∧ count = 0) && decide (n = 0) && decide (m = 0)) = cd) := hcd
  clear hcd
  cases cd
  · go_wp2
    go_ret
    exact ⟨M, by rw [HC.out]; rfl, hWM, hM4, hb7⟩
  · go_wp2
    go_ret
    exact ⟨M, by rw [HC.out]; rfl, hWM, hM4, hb7⟩
end Go.Proofs.Ytcmhobbpeaeebaa
