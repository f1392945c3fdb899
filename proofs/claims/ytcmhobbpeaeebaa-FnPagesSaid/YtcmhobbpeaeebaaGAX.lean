import Derived.Test.YtcmhobbpeaeebaaGAD
import Derived.Test.YtcmhobbpeaeebaaGAH
import Derived.Test.YtcmhobbpeaeebaaGAK
import Derived.Test.YtcmhobbpeaeebaaGAV
import Derived.Test.YtcmhobbpeaeebaaGAW
namespace Go.Proofs.Ytcmhobbpeaeebaa
namespace New
open Go.RowKit
set_option linter.unusedVariables false
set_option maxRecDepth 100000

theorem meth_meta_read (a : Addr) (w : World) : (method 264 134 (.pointer (some a)) "loop.example/s02098/impl.read").run Try.prog w = .ok (120, .pointer (some a)) w := by kernel_rfl
theorem ahead_meta_read (a : Addr) (w : World) : (nilAhead 264 134 (.pointer (some a)) "loop.example/s02098/impl.read").run Try.prog w = .ok (some false) w := by kernel_rfl
theorem ahead_meta_page (a : Addr) (w : World) : (nilAhead 264 134 (.pointer (some a)) "loop.example/s02098/impl.page").run Try.prog w = .ok (some false) w := by kernel_rfl
theorem meth_branch_read (a : Addr) (w : World) : (method 264 137 (.pointer (some a)) "loop.example/s02098/impl.read").run Try.prog w = .ok (128, .pointer (some a)) w := by kernel_rfl
theorem ahead_branch_read (a : Addr) (w : World) : (nilAhead 264 137 (.pointer (some a)) "loop.example/s02098/impl.read").run Try.prog w = .ok (some false) w := by kernel_rfl
theorem ahead_branch_page (a : Addr) (w : World) : (nilAhead 264 137 (.pointer (some a)) "loop.example/s02098/impl.page").run Try.prog w = .ok (some false) w := by kernel_rfl
theorem meth_leaf_read (a : Addr) (w : World) : (method 264 140 (.pointer (some a)) "loop.example/s02098/impl.read").run Try.prog w = .ok (136, .pointer (some a)) w := by kernel_rfl
theorem ahead_leaf_read (a : Addr) (w : World) : (nilAhead 264 140 (.pointer (some a)) "loop.example/s02098/impl.read").run Try.prog w = .ok (some false) w := by kernel_rfl
theorem ahead_leaf_page (a : Addr) (w : World) : (nilAhead 264 140 (.pointer (some a)) "loop.example/s02098/impl.page").run Try.prog w = .ok (some false) w := by kernel_rfl
theorem meth_over_read (a : Addr) (w : World) : (method 264 143 (.pointer (some a)) "loop.example/s02098/impl.read").run Try.prog w = .ok (143, .pointer (some a)) w := by kernel_rfl
theorem ahead_over_read (a : Addr) (w : World) : (nilAhead 264 143 (.pointer (some a)) "loop.example/s02098/impl.read").run Try.prog w = .ok (some false) w := by kernel_rfl
theorem ahead_over_page (a : Addr) (w : World) : (nilAhead 264 143 (.pointer (some a)) "loop.example/s02098/impl.page").run Try.prog w = .ok (some false) w := by kernel_rfl

/-- The page that is read at k (stamp 0). -/
def readP (bs : List Int) (k : Nat) (kind : Int) (n : Nat) : Pg :=
  if kind = 1 then ⟨1, 0, mId bs k, mRoot bs k, mCount bs k, [], [], 0, ⟨#[]⟩⟩
  else if kind = 2 then ⟨2, 0, 0, 0, 0, (kidsR bs k n).1, [], 0, ⟨#[]⟩⟩
  else if kind = 3 then ⟨3, 0, 0, 0, 0, [], (entsR bs k n).1, 0, ⟨#[]⟩⟩
  else if kind = 4 then ⟨4, 0, 0, 0, 0, [], [], oNext bs k, oData bs k⟩
  else ⟨0, 0, 0, 0, 0, [], [], 0, ⟨#[]⟩⟩
/-- A page as a value, its lists in memory of their own above S; one of them is nil. -/
def PgVal (w : World) (S : Nat) (p : Pg) (v : Value) : Prop :=
  ∃ vk ve, v = .agg #[.int .i64 p.kind, .int .i64 p.tx, .int .i64 p.id, .int .i64 p.root, .int .i64 p.count, vk, ve, .int .i64 p.next, .string p.data] ∧ w.ownsRow S 100 2 vk p.ks.length (rowsOf kidCells p.ks) ∧ w.ownsRow S 102 4 ve p.es.length (rowsOf entCells p.es) ∧ (vk = .slice none 0 0 ∨ ve = .slice none 0 0)
theorem Fr.up {S T : Nat → Prop} {a b : World} (h : Fr S a b) (hst : ∀ x, x < a.heap.size → S x → T x) : Fr T a b := ⟨h.1, h.2, h.3, h.4, fun k hk hT => h.block k hk (fun hs => hT (hst k hk hs))⟩
def put9 (w : World) (N : Nat) (u0 u1 u2 u3 u4 u5 u6 u7 u8 : Value) : World :=
  ((((((((w.setCell ⟨N, 0, none⟩ u0).setCell ⟨N, 1, none⟩ u1).setCell ⟨N, 2, none⟩ u2).setCell ⟨N, 3, none⟩ u3).setCell ⟨N, 4, none⟩ u4).setCell ⟨N, 5, none⟩ u5).setCell ⟨N, 6, none⟩ u6).setCell ⟨N, 7, none⟩ u7).setCell ⟨N, 8, none⟩ u8
theorem put9_box {w : World} {N t : Nat} {v0 v1 v2 v3 v4 v5 v6 v7 v8 : Value} (h : w.heap[N]? = some (.cells #[v0, v1, v2, v3, v4, v5, v6, v7, v8] t)) (u0 u1 u2 u3 u4 u5 u6 u7 u8 : Value) : (put9 w N u0 u1 u2 u3 u4 u5 u6 u7 u8).heap[N]? = some (.cells #[u0, u1, u2, u3, u4, u5, u6, u7, u8] t) := by
  simp [put9, World.setCell, Array.getElem?_modify, h]
theorem set_fr (w : World) (N i : Nat) (u : Value) : Fr (fun x => x = N) w (w.setCell ⟨N, i, none⟩ u) := ⟨rfl, rfl, rfl, by simp [World.setCell], fun k _ hk => Below.heap_setCell w ⟨N, i, none⟩ u k hk⟩
theorem put9_fr (w : World) (N : Nat) (u0 u1 u2 u3 u4 u5 u6 u7 u8 : Value) : Fr (fun x => x = N) w (put9 w N u0 u1 u2 u3 u4 u5 u6 u7 u8) :=
  ((((((((set_fr _ _ _ _).trans (set_fr _ _ _ _)).trans (set_fr _ _ _ _)).trans (set_fr _ _ _ _)).trans (set_fr _ _ _ _)).trans (set_fr _ _ _ _)).trans (set_fr _ _ _ _)).trans (set_fr _ _ _ _)).trans (set_fr _ _ _ _)
theorem kidsR_len (bs : List Int) (k : Nat) : ∀ n, (kidsR bs k n).1.length = n
  | 0 => rfl
  | n + 1 => by rw [kidsR]; simp [kidsR_len bs k n]
theorem entsR_len (bs : List Int) (k : Nat) : ∀ n, (entsR bs k n).1.length = n
  | 0 => rfl
  | n + 1 => by rw [entsR]; simp [entsR_len bs k n]
set_option maxHeartbeats 1600000 in
theorem readBody_meta (C g o c A B : Nat) (bs : List Int) (k : Nat) (n : Nat) (hn : n ≤ 255) (w : World) (h : RAt w C g o c A B bs k) :
    Calls Try.prog 47 #[.pointer (some ⟨C, 0, none⟩), .int .i64 1, .int .i64 n] w fun e w' => ∃ v, e = .returned v ∧ PgVal w' w.heap.size (readP bs k 1 n) v ∧ Fr (fun x => x = C) w w' := by
  have hCl := (Array.getElem?_eq_some_iff.1 h.cur.box).1
  have hmr := fun a w => meth_meta_read a w
  have har := fun a w => ahead_meta_read a w
  have hmp := fun a w => meth_meta_page a w
  have hap := fun a w => ahead_meta_page a w
  go_enter Try.func47, Try.ntmps47
  go_wp2_with fail
  have hb0 : Below w.heap.size w (w.alloc (.cells #[.int .i64 0, .int .i64 0, .int .i64 0, .int .i64 0, .int .i64 0, .slice none 0 0, .slice none 0 0, .int .i64 0, .string ⟨#[]⟩] 28)) := (Below.refl _ _).alloc (Nat.le_refl _) _
  have HP0 := heap_alloc_new w (.cells #[.int .i64 0, .int .i64 0, .int .i64 0, .int .i64 0, .int .i64 0, .slice none 0 0, .slice none 0 0, .int .i64 0, .string ⟨#[]⟩] 28)
  generalize w.alloc (.cells #[.int .i64 0, .int .i64 0, .int .i64 0, .int .i64 0, .int .i64 0, .slice none 0 0, .slice none 0 0, .int .i64 0, .string ⟨#[]⟩] 28) = W0 at hb0 HP0 ⊢
  have hN0 := (Array.getElem?_eq_some_iff.1 HP0).1
  refine (kindBody_meta 0 0 0 0 none 0 0 none 0 0 0 ⟨#[]⟩ W0).mono ?_
  rintro e w1 ⟨M, rfl, hMl, hM, hb1⟩
  have h1 := RAt.keepB (RAt.keepB h (Fr.of_below (S := fun _ => False) hb0) (fun h => h) (fun _ _ h => h)) (Fr.of_below (S := fun _ => False) hb1) (fun h => h) (fun _ _ h => h)
  have HP1 := (hb1.block w.heap.size hN0).trans HP0
  have hfr1 : Fr (fun x => x = C) w w1 := Fr.comp (Fr.of_below hb0) (Fr.of_below (S := fun _ => False) hb1) (fun _ _ h => h.elim)
  have hMC : M ≠ C := by omega
  have hBM : B ≤ M := by have := h.top; omega
  have hMP : w.heap.size ≠ M := by omega
  have hs1 := hfr1.size
  clear HP0 hb0 hb1
  go_wp2_with fail
  refine (metaRead_any C g o c A B bs k M n w1 h1 hMC hBM 0 0 0 hM).mono ?_
  rintro e w2 ⟨rfl, R2⟩
  have hPC : w.heap.size ≠ C := by omega
  have HP2 := (R2.fr.block w.heap.size (Array.getElem?_eq_some_iff.1 HP1).1 (by omega)).trans HP1
  have hfr2 : Fr (fun x => x = C) w w2 := Fr.comp hfr1 R2.fr (fun x hx e => by omega)
  have hN1 := (Array.getElem?_eq_some_iff.1 HP1).1
  clear HP1 hfr1 h1 hM
  go_wp2_with fail
  refine (metaPage_any M _ _ _ w2 R2.box).mono ?_
  rintro e w3 ⟨rfl, hb3⟩
  have HP3 := (hb3.block w.heap.size (Array.getElem?_eq_some_iff.1 HP2).1).trans HP2
  have hfr3 : Fr (fun x => x = C) w w3 := Fr.comp hfr2 (Fr.of_below (S := fun _ => False) hb3) (fun _ _ h => h.elim)
  have f3 := box_frozen HP3
  obtain ⟨c5, c6, c0, c2, c3, c4, c7, c8, c1⟩ := box_slice HP3
  
  have HB9 := put9_box HP3 (.int .i64 1) (.int .i64 0) (.int .i64 (mId bs k)) (.int .i64 (mRoot bs k)) (.int .i64 (mCount bs k)) (.slice none 0 0) (.slice none 0 0) (.int .i64 0) (.string ByteArray.empty)
  have hfr4 : Fr (fun x => x = C) w (put9 w3 w.heap.size (.int .i64 1) (.int .i64 0) (.int .i64 (mId bs k)) (.int .i64 (mRoot bs k)) (.int .i64 (mCount bs k)) (.slice none 0 0) (.slice none 0 0) (.int .i64 0) (.string ByteArray.empty)) := Fr.comp hfr3 (put9_fr w3 w.heap.size (.int .i64 1) (.int .i64 0) (.int .i64 (mId bs k)) (.int .i64 (mRoot bs k)) (.int .i64 (mCount bs k)) (.slice none 0 0) (.slice none 0 0) (.int .i64 0) (.string ByteArray.empty)) (fun x hx e => by omega)
  clear HP2 hfr2 R2
  go_wp2
  show bodyPost _ _ _ _ _ (put9 w3 w.heap.size (.int .i64 1) (.int .i64 0) (.int .i64 (mId bs k)) (.int .i64 (mRoot bs k)) (.int .i64 (mCount bs k)) (.slice none 0 0) (.slice none 0 0) (.int .i64 0) (.string ByteArray.empty))
  clear c0 c1 c2 c3 c4 c5 c6 c7 c8
  obtain ⟨c5, c6, c0, c2, c3, c4, c7, c8, c1⟩ := box_slice HB9
  refine bodyPost_ret (v := .agg #[.int .i64 1, .int .i64 0, .int .i64 (mId bs k), .int .i64 (mRoot bs k), .int .i64 (mCount bs k), .slice none 0 0, .slice none 0 0, .int .i64 0, .string ByteArray.empty]) (by simp [results, Try.results47, go_sem, c0, c1, c2, c3, c4, c5, c6, c7, c8]) rfl ⟨_, rfl, ?_, hfr4⟩
  exact ⟨_, _, rfl, World.ownsRow_nil _ _ _ _, World.ownsRow_nil _ _ _ _, .inl rfl⟩
set_option maxHeartbeats 1600000 in
theorem readBody_branch (C g o c A B : Nat) (bs : List Int) (k : Nat) (n : Nat) (hn : n ≤ 255) (w : World) (h : RAt w C g o c A B bs k) :
    Calls Try.prog 47 #[.pointer (some ⟨C, 0, none⟩), .int .i64 2, .int .i64 n] w fun e w' => ∃ v, e = .returned v ∧ PgVal w' w.heap.size (readP bs k 2 n) v ∧ Fr (fun x => x = C) w w' := by
  have hCl := (Array.getElem?_eq_some_iff.1 h.cur.box).1
  have hmr := fun a w => meth_branch_read a w
  have har := fun a w => ahead_branch_read a w
  have hmp := fun a w => meth_branch_page a w
  have hap := fun a w => ahead_branch_page a w
  go_enter Try.func47, Try.ntmps47
  go_wp2_with fail
  have hb0 : Below w.heap.size w (w.alloc (.cells #[.int .i64 0, .int .i64 0, .int .i64 0, .int .i64 0, .int .i64 0, .slice none 0 0, .slice none 0 0, .int .i64 0, .string ⟨#[]⟩] 28)) := (Below.refl _ _).alloc (Nat.le_refl _) _
  have HP0 := heap_alloc_new w (.cells #[.int .i64 0, .int .i64 0, .int .i64 0, .int .i64 0, .int .i64 0, .slice none 0 0, .slice none 0 0, .int .i64 0, .string ⟨#[]⟩] 28)
  generalize w.alloc (.cells #[.int .i64 0, .int .i64 0, .int .i64 0, .int .i64 0, .int .i64 0, .slice none 0 0, .slice none 0 0, .int .i64 0, .string ⟨#[]⟩] 28) = W0 at hb0 HP0 ⊢
  have hN0 := (Array.getElem?_eq_some_iff.1 HP0).1
  refine (kindBody_branch 0 0 0 0 none 0 0 none 0 0 0 ⟨#[]⟩ W0).mono ?_
  rintro e w1 ⟨M, rfl, hMl, hM, hb1⟩
  have h1 := RAt.keepB (RAt.keepB h (Fr.of_below (S := fun _ => False) hb0) (fun h => h) (fun _ _ h => h)) (Fr.of_below (S := fun _ => False) hb1) (fun h => h) (fun _ _ h => h)
  have HP1 := (hb1.block w.heap.size hN0).trans HP0
  have hfr1 : Fr (fun x => x = C) w w1 := Fr.comp (Fr.of_below hb0) (Fr.of_below (S := fun _ => False) hb1) (fun _ _ h => h.elim)
  have hMC : M ≠ C := by omega
  have hBM : B ≤ M := by have := h.top; omega
  have hMP : w.heap.size ≠ M := by omega
  have hs1 := hfr1.size
  clear HP0 hb0 hb1
  go_wp2_with fail
  refine (branchRead_any C g o c A B bs k M n hn w1 h1 hMC hBM hM).mono ?_
  rintro e w2 ⟨rfl, v2, hO2, R2⟩
  obtain ⟨va, vc, rfl⟩ := own_shape hO2
  have hPC : w.heap.size ≠ C := by omega
  have HP2 := (R2.fr.block w.heap.size (Array.getElem?_eq_some_iff.1 HP1).1 (by omega)).trans HP1
  have hfr2 : Fr (fun x => x = C) w w2 := Fr.comp hfr1 R2.fr (fun x hx e => by omega)
  have hN1 := (Array.getElem?_eq_some_iff.1 HP1).1
  clear HP1 hfr1 h1 hM
  go_wp2_with fail
  refine (branchPage_any M va n vc w2 R2.box).mono ?_
  rintro e w3 ⟨rfl, hb3⟩
  have HP3 := (hb3.block w.heap.size (Array.getElem?_eq_some_iff.1 HP2).1).trans HP2
  have hfr3 : Fr (fun x => x = C) w w3 := Fr.comp hfr2 (Fr.of_below (S := fun _ => False) hb3) (fun _ _ h => h.elim)
  have f3 := box_frozen HP3
  obtain ⟨c5, c6, c0, c2, c3, c4, c7, c8, c1⟩ := box_slice HP3
  have hO3 := owns_below hO2 hb3
  have hO4 := owns_base (base' := w.heap.size) (owns_fr hO3 (put9_fr w3 w.heap.size (.int .i64 2) (.int .i64 0) (.int .i64 0) (.int .i64 0) (.int .i64 0) (.slice va n vc) (.slice none 0 0) (.int .i64 0) (.string ByteArray.empty)) (fun g' e e' => by have := (hO3.lt g' e).1; omega)) hs1
  have HB9 := put9_box HP3 (.int .i64 2) (.int .i64 0) (.int .i64 0) (.int .i64 0) (.int .i64 0) (.slice va n vc) (.slice none 0 0) (.int .i64 0) (.string ByteArray.empty)
  have hfr4 : Fr (fun x => x = C) w (put9 w3 w.heap.size (.int .i64 2) (.int .i64 0) (.int .i64 0) (.int .i64 0) (.int .i64 0) (.slice va n vc) (.slice none 0 0) (.int .i64 0) (.string ByteArray.empty)) := Fr.comp hfr3 (put9_fr w3 w.heap.size (.int .i64 2) (.int .i64 0) (.int .i64 0) (.int .i64 0) (.int .i64 0) (.slice va n vc) (.slice none 0 0) (.int .i64 0) (.string ByteArray.empty)) (fun x hx e => by omega)
  clear HP2 hfr2 R2
  go_wp2
  show bodyPost _ _ _ _ _ (put9 w3 w.heap.size (.int .i64 2) (.int .i64 0) (.int .i64 0) (.int .i64 0) (.int .i64 0) (.slice va n vc) (.slice none 0 0) (.int .i64 0) (.string ByteArray.empty))
  clear c0 c1 c2 c3 c4 c5 c6 c7 c8
  obtain ⟨c5, c6, c0, c2, c3, c4, c7, c8, c1⟩ := box_slice HB9
  refine bodyPost_ret (v := .agg #[.int .i64 2, .int .i64 0, .int .i64 0, .int .i64 0, .int .i64 0, .slice va n vc, .slice none 0 0, .int .i64 0, .string ByteArray.empty]) (by simp [results, Try.results47, go_sem, c0, c1, c2, c3, c4, c5, c6, c7, c8]) rfl ⟨_, rfl, ?_, hfr4⟩
  have hkl : (kidsR bs k n).1.length = n := kidsR_len bs k n
  exact ⟨_, _, rfl, (by show World.ownsRow _ _ _ _ _ (kidsR bs k n).1.length (rowsOf kidCells (kidsR bs k n).1); rw [hkl]; exact hO4), World.ownsRow_nil _ _ _ _, .inr rfl⟩
set_option maxHeartbeats 1600000 in
theorem readBody_leaf (C g o c A B : Nat) (bs : List Int) (k : Nat) (n : Nat) (hn : n ≤ 255) (w : World) (h : RAt w C g o c A B bs k) :
    Calls Try.prog 47 #[.pointer (some ⟨C, 0, none⟩), .int .i64 3, .int .i64 n] w fun e w' => ∃ v, e = .returned v ∧ PgVal w' w.heap.size (readP bs k 3 n) v ∧ Fr (fun x => x = C) w w' := by
  have hCl := (Array.getElem?_eq_some_iff.1 h.cur.box).1
  have hmr := fun a w => meth_leaf_read a w
  have har := fun a w => ahead_leaf_read a w
  have hmp := fun a w => meth_leaf_page a w
  have hap := fun a w => ahead_leaf_page a w
  go_enter Try.func47, Try.ntmps47
  go_wp2_with fail
  have hb0 : Below w.heap.size w (w.alloc (.cells #[.int .i64 0, .int .i64 0, .int .i64 0, .int .i64 0, .int .i64 0, .slice none 0 0, .slice none 0 0, .int .i64 0, .string ⟨#[]⟩] 28)) := (Below.refl _ _).alloc (Nat.le_refl _) _
  have HP0 := heap_alloc_new w (.cells #[.int .i64 0, .int .i64 0, .int .i64 0, .int .i64 0, .int .i64 0, .slice none 0 0, .slice none 0 0, .int .i64 0, .string ⟨#[]⟩] 28)
  generalize w.alloc (.cells #[.int .i64 0, .int .i64 0, .int .i64 0, .int .i64 0, .int .i64 0, .slice none 0 0, .slice none 0 0, .int .i64 0, .string ⟨#[]⟩] 28) = W0 at hb0 HP0 ⊢
  have hN0 := (Array.getElem?_eq_some_iff.1 HP0).1
  refine (kindBody_leaf 0 0 0 0 none 0 0 none 0 0 0 ⟨#[]⟩ W0).mono ?_
  rintro e w1 ⟨M, rfl, hMl, hM, hb1⟩
  have h1 := RAt.keepB (RAt.keepB h (Fr.of_below (S := fun _ => False) hb0) (fun h => h) (fun _ _ h => h)) (Fr.of_below (S := fun _ => False) hb1) (fun h => h) (fun _ _ h => h)
  have HP1 := (hb1.block w.heap.size hN0).trans HP0
  have hfr1 : Fr (fun x => x = C) w w1 := Fr.comp (Fr.of_below hb0) (Fr.of_below (S := fun _ => False) hb1) (fun _ _ h => h.elim)
  have hMC : M ≠ C := by omega
  have hBM : B ≤ M := by have := h.top; omega
  have hMP : w.heap.size ≠ M := by omega
  have hs1 := hfr1.size
  clear HP0 hb0 hb1
  go_wp2_with fail
  refine (leafRead_any C g o c A B bs k M n hn w1 h1 hMC hBM hM).mono ?_
  rintro e w2 ⟨rfl, v2, hO2, R2⟩
  obtain ⟨va, vc, rfl⟩ := own_shape hO2
  have hPC : w.heap.size ≠ C := by omega
  have HP2 := (R2.fr.block w.heap.size (Array.getElem?_eq_some_iff.1 HP1).1 (by omega)).trans HP1
  have hfr2 : Fr (fun x => x = C) w w2 := Fr.comp hfr1 R2.fr (fun x hx e => by omega)
  have hN1 := (Array.getElem?_eq_some_iff.1 HP1).1
  clear HP1 hfr1 h1 hM
  go_wp2_with fail
  refine (leafPage_any M va n vc w2 R2.box).mono ?_
  rintro e w3 ⟨rfl, hb3⟩
  have HP3 := (hb3.block w.heap.size (Array.getElem?_eq_some_iff.1 HP2).1).trans HP2
  have hfr3 : Fr (fun x => x = C) w w3 := Fr.comp hfr2 (Fr.of_below (S := fun _ => False) hb3) (fun _ _ h => h.elim)
  have f3 := box_frozen HP3
  obtain ⟨c5, c6, c0, c2, c3, c4, c7, c8, c1⟩ := box_slice HP3
  have hO3 := owns_below hO2 hb3
  have hO4 := owns_base (base' := w.heap.size) (owns_fr hO3 (put9_fr w3 w.heap.size (.int .i64 3) (.int .i64 0) (.int .i64 0) (.int .i64 0) (.int .i64 0) (.slice none 0 0) (.slice va n vc) (.int .i64 0) (.string ByteArray.empty)) (fun g' e e' => by have := (hO3.lt g' e).1; omega)) hs1
  have HB9 := put9_box HP3 (.int .i64 3) (.int .i64 0) (.int .i64 0) (.int .i64 0) (.int .i64 0) (.slice none 0 0) (.slice va n vc) (.int .i64 0) (.string ByteArray.empty)
  have hfr4 : Fr (fun x => x = C) w (put9 w3 w.heap.size (.int .i64 3) (.int .i64 0) (.int .i64 0) (.int .i64 0) (.int .i64 0) (.slice none 0 0) (.slice va n vc) (.int .i64 0) (.string ByteArray.empty)) := Fr.comp hfr3 (put9_fr w3 w.heap.size (.int .i64 3) (.int .i64 0) (.int .i64 0) (.int .i64 0) (.int .i64 0) (.slice none 0 0) (.slice va n vc) (.int .i64 0) (.string ByteArray.empty)) (fun x hx e => by omega)
  clear HP2 hfr2 R2
  go_wp2
  show bodyPost _ _ _ _ _ (put9 w3 w.heap.size (.int .i64 3) (.int .i64 0) (.int .i64 0) (.int .i64 0) (.int .i64 0) (.slice none 0 0) (.slice va n vc) (.int .i64 0) (.string ByteArray.empty))
  clear c0 c1 c2 c3 c4 c5 c6 c7 c8
  obtain ⟨c5, c6, c0, c2, c3, c4, c7, c8, c1⟩ := box_slice HB9
  refine bodyPost_ret (v := .agg #[.int .i64 3, .int .i64 0, .int .i64 0, .int .i64 0, .int .i64 0, .slice none 0 0, .slice va n vc, .int .i64 0, .string ByteArray.empty]) (by simp [results, Try.results47, go_sem, c0, c1, c2, c3, c4, c5, c6, c7, c8]) rfl ⟨_, rfl, ?_, hfr4⟩
  have hkl : (entsR bs k n).1.length = n := entsR_len bs k n
  exact ⟨_, _, rfl, World.ownsRow_nil _ _ _ _, (by show World.ownsRow _ _ _ _ _ (entsR bs k n).1.length (rowsOf entCells (entsR bs k n).1); rw [hkl]; exact hO4), .inl rfl⟩
set_option maxHeartbeats 1600000 in
theorem readBody_over (C g o c A B : Nat) (bs : List Int) (k : Nat) (n : Nat) (hn : n ≤ 255) (w : World) (h : RAt w C g o c A B bs k) :
    Calls Try.prog 47 #[.pointer (some ⟨C, 0, none⟩), .int .i64 4, .int .i64 n] w fun e w' => ∃ v, e = .returned v ∧ PgVal w' w.heap.size (readP bs k 4 n) v ∧ Fr (fun x => x = C) w w' := by
  have hCl := (Array.getElem?_eq_some_iff.1 h.cur.box).1
  have hmr := fun a w => meth_over_read a w
  have har := fun a w => ahead_over_read a w
  have hmp := fun a w => meth_over_page a w
  have hap := fun a w => ahead_over_page a w
  go_enter Try.func47, Try.ntmps47
  go_wp2_with fail
  have hb0 : Below w.heap.size w (w.alloc (.cells #[.int .i64 0, .int .i64 0, .int .i64 0, .int .i64 0, .int .i64 0, .slice none 0 0, .slice none 0 0, .int .i64 0, .string ⟨#[]⟩] 28)) := (Below.refl _ _).alloc (Nat.le_refl _) _
  have HP0 := heap_alloc_new w (.cells #[.int .i64 0, .int .i64 0, .int .i64 0, .int .i64 0, .int .i64 0, .slice none 0 0, .slice none 0 0, .int .i64 0, .string ⟨#[]⟩] 28)
  generalize w.alloc (.cells #[.int .i64 0, .int .i64 0, .int .i64 0, .int .i64 0, .int .i64 0, .slice none 0 0, .slice none 0 0, .int .i64 0, .string ⟨#[]⟩] 28) = W0 at hb0 HP0 ⊢
  have hN0 := (Array.getElem?_eq_some_iff.1 HP0).1
  refine (kindBody_over 0 0 0 0 none 0 0 none 0 0 0 ⟨#[]⟩ W0).mono ?_
  rintro e w1 ⟨M, rfl, hMl, hM, hb1⟩
  have h1 := RAt.keepB (RAt.keepB h (Fr.of_below (S := fun _ => False) hb0) (fun h => h) (fun _ _ h => h)) (Fr.of_below (S := fun _ => False) hb1) (fun h => h) (fun _ _ h => h)
  have HP1 := (hb1.block w.heap.size hN0).trans HP0
  have hfr1 : Fr (fun x => x = C) w w1 := Fr.comp (Fr.of_below hb0) (Fr.of_below (S := fun _ => False) hb1) (fun _ _ h => h.elim)
  have hMC : M ≠ C := by omega
  have hBM : B ≤ M := by have := h.top; omega
  have hMP : w.heap.size ≠ M := by omega
  have hs1 := hfr1.size
  clear HP0 hb0 hb1
  go_wp2_with fail
  refine (overRead_any C g o c A B bs k M n w1 h1 hMC hBM 0 ⟨#[]⟩ hM).mono ?_
  rintro e w2 ⟨rfl, R2⟩
  have hPC : w.heap.size ≠ C := by omega
  have HP2 := (R2.fr.block w.heap.size (Array.getElem?_eq_some_iff.1 HP1).1 (by omega)).trans HP1
  have hfr2 : Fr (fun x => x = C) w w2 := Fr.comp hfr1 R2.fr (fun x hx e => by omega)
  have hN1 := (Array.getElem?_eq_some_iff.1 HP1).1
  clear HP1 hfr1 h1 hM
  go_wp2_with fail
  refine (overPage_any M _ _ w2 R2.box).mono ?_
  rintro e w3 ⟨rfl, hb3⟩
  have HP3 := (hb3.block w.heap.size (Array.getElem?_eq_some_iff.1 HP2).1).trans HP2
  have hfr3 : Fr (fun x => x = C) w w3 := Fr.comp hfr2 (Fr.of_below (S := fun _ => False) hb3) (fun _ _ h => h.elim)
  have f3 := box_frozen HP3
  obtain ⟨c5, c6, c0, c2, c3, c4, c7, c8, c1⟩ := box_slice HP3
  
  have HB9 := put9_box HP3 (.int .i64 4) (.int .i64 0) (.int .i64 0) (.int .i64 0) (.int .i64 0) (.slice none 0 0) (.slice none 0 0) (.int .i64 (oNext bs k)) (.string (oData bs k))
  have hfr4 : Fr (fun x => x = C) w (put9 w3 w.heap.size (.int .i64 4) (.int .i64 0) (.int .i64 0) (.int .i64 0) (.int .i64 0) (.slice none 0 0) (.slice none 0 0) (.int .i64 (oNext bs k)) (.string (oData bs k))) := Fr.comp hfr3 (put9_fr w3 w.heap.size (.int .i64 4) (.int .i64 0) (.int .i64 0) (.int .i64 0) (.int .i64 0) (.slice none 0 0) (.slice none 0 0) (.int .i64 (oNext bs k)) (.string (oData bs k))) (fun x hx e => by omega)
  clear HP2 hfr2 R2
  go_wp2
  show bodyPost _ _ _ _ _ (put9 w3 w.heap.size (.int .i64 4) (.int .i64 0) (.int .i64 0) (.int .i64 0) (.int .i64 0) (.slice none 0 0) (.slice none 0 0) (.int .i64 (oNext bs k)) (.string (oData bs k)))
  clear c0 c1 c2 c3 c4 c5 c6 c7 c8
  obtain ⟨c5, c6, c0, c2, c3, c4, c7, c8, c1⟩ := box_slice HB9
  refine bodyPost_ret (v := .agg #[.int .i64 4, .int .i64 0, .int .i64 0, .int .i64 0, .int .i64 0, .slice none 0 0, .slice none 0 0, .int .i64 (oNext bs k), .string (oData bs k)]) (by simp [results, Try.results47, go_sem, c0, c1, c2, c3, c4, c5, c6, c7, c8]) rfl ⟨_, rfl, ?_, hfr4⟩
  exact ⟨_, _, rfl, World.ownsRow_nil _ _ _ _, World.ownsRow_nil _ _ _ _, .inl rfl⟩
set_option maxHeartbeats 1600000 in
theorem readBody_none (C g o c A B : Nat) (bs : List Int) (k : Nat) (kind : Int) (hk1 : kind ≠ 1) (hk2 : kind ≠ 2) (hk3 : kind ≠ 3) (hk4 : kind ≠ 4) (n : Nat) (w : World) (h : RAt w C g o c A B bs k) :
    Calls Try.prog 47 #[.pointer (some ⟨C, 0, none⟩), .int .i64 kind, .int .i64 n] w fun e w' => ∃ v, e = .returned v ∧ PgVal w' w.heap.size (readP bs k kind n) v ∧ Fr (fun x => x = C) w w' := by
  have hCl := (Array.getElem?_eq_some_iff.1 h.cur.box).1
  go_enter Try.func47, Try.ntmps47
  go_wp2_with fail
  have hb0 : Below w.heap.size w (w.alloc (.cells #[.int .i64 0, .int .i64 0, .int .i64 0, .int .i64 0, .int .i64 0, .slice none 0 0, .slice none 0 0, .int .i64 0, .string ⟨#[]⟩] 28)) := (Below.refl _ _).alloc (Nat.le_refl _) _
  have HP0 := heap_alloc_new w (.cells #[.int .i64 0, .int .i64 0, .int .i64 0, .int .i64 0, .int .i64 0, .slice none 0 0, .slice none 0 0, .int .i64 0, .string ⟨#[]⟩] 28)
  generalize w.alloc (.cells #[.int .i64 0, .int .i64 0, .int .i64 0, .int .i64 0, .int .i64 0, .slice none 0 0, .slice none 0 0, .int .i64 0, .string ⟨#[]⟩] 28) = W0 at hb0 HP0 ⊢
  have hN0 := (Array.getElem?_eq_some_iff.1 HP0).1
  refine (kindBody_nil kind 0 0 0 0 hk1 hk2 hk3 hk4 none 0 0 none 0 0 0 ⟨#[]⟩ W0).mono ?_
  rintro e w3 ⟨rfl, hb1⟩
  have HP3 := (hb1.block w.heap.size hN0).trans HP0
  have hfr3 : Fr (fun x => x = C) w w3 := Fr.comp (Fr.of_below hb0) (Fr.of_below (S := fun _ => False) hb1) (fun _ _ h => h.elim)
  have f3 := box_frozen HP3
  obtain ⟨c5, c6, c0, c2, c3, c4, c7, c8, c1⟩ := box_slice HP3
  have HB9 := put9_box HP3 (.int .i64 0) (.int .i64 0) (.int .i64 0) (.int .i64 0) (.int .i64 0) (.slice none 0 0) (.slice none 0 0) (.int .i64 0) (.string ⟨#[]⟩)
  have hfr4 : Fr (fun x => x = C) w (put9 w3 w.heap.size (.int .i64 0) (.int .i64 0) (.int .i64 0) (.int .i64 0) (.int .i64 0) (.slice none 0 0) (.slice none 0 0) (.int .i64 0) (.string ⟨#[]⟩)) := Fr.comp hfr3 (put9_fr w3 w.heap.size _ _ _ _ _ _ _ _ _) (fun x hx e => by omega)
  clear HP0 hb0 hb1 hfr3
  go_wp2
  show bodyPost _ _ _ _ _ (put9 w3 w.heap.size (.int .i64 0) (.int .i64 0) (.int .i64 0) (.int .i64 0) (.int .i64 0) (.slice none 0 0) (.slice none 0 0) (.int .i64 0) (.string ⟨#[]⟩))
  clear c0 c1 c2 c3 c4 c5 c6 c7 c8
  obtain ⟨c5, c6, c0, c2, c3, c4, c7, c8, c1⟩ := box_slice HB9
  refine bodyPost_ret (v := .agg #[.int .i64 0, .int .i64 0, .int .i64 0, .int .i64 0, .int .i64 0, .slice none 0 0, .slice none 0 0, .int .i64 0, .string ⟨#[]⟩]) (by simp [results, Try.results47, go_sem, c0, c1, c2, c3, c4, c5, c6, c7, c8]) rfl ⟨_, rfl, ?_, hfr4⟩
  rw [readP, if_neg hk1, if_neg hk2, if_neg hk3, if_neg hk4]
  exact ⟨_, _, rfl, World.ownsRow_nil _ _ _ _, World.ownsRow_nil _ _ _ _, .inl rfl⟩
theorem readBody_any (C g o c A B : Nat) (bs : List Int) (k : Nat) (kind : Int) (n : Nat) (hn : n ≤ 255) (w : World) (h : RAt w C g o c A B bs k) :
    Calls Try.prog 47 #[.pointer (some ⟨C, 0, none⟩), .int .i64 kind, .int .i64 n] w fun e w' => ∃ v, e = .returned v ∧ PgVal w' w.heap.size (readP bs k kind n) v ∧ Fr (fun x => x = C) w w' := by
  by_cases h1 : kind = 1
  · subst h1; exact readBody_meta C g o c A B bs k n hn w h
  by_cases h2 : kind = 2
  · subst h2; exact readBody_branch C g o c A B bs k n hn w h
  by_cases h3 : kind = 3
  · subst h3; exact readBody_leaf C g o c A B bs k n hn w h
  by_cases h4 : kind = 4
  · subst h4; exact readBody_over C g o c A B bs k n hn w h
  exact readBody_none C g o c A B bs k kind h1 h2 h3 h4 n w h
end New
end Go.Proofs.Ytcmhobbpeaeebaa
namespace Go.Proofs.Ytcmhobbpeaeebaa
open Go.RowKit
set_option linter.unusedVariables false
set_option maxRecDepth 100000

theorem bytesAt_dropN {w : World} {A B m c n : Nat} {ad : Addr} {l : List Int} (h : BytesAt w A B (some ad) m c l) (hn : n ≤ m) : BytesAt w A B (some (ad.add n)) (m - n) (c - n) (l.drop n) := by
  obtain ⟨hl, hnc, hc, hw, hcell, hnil⟩ := h
  refine ⟨by simp; omega, by omega, by omega, fun x hx => hw x (List.mem_of_mem_drop hx), fun h0 => ?_, fun h => by cases h⟩
  obtain ⟨b, off, e1, e2, e3⟩ := hcell (by omega)
  cases e1
  refine ⟨b, off + n, by simp [Addr.add], e2, fun i hi => ?_⟩
  rw [Nat.add_assoc, e3 (n + i) (by omega)]
  simp [List.getD]
theorem bytesAt_takeN {w : World} {A B m c n : Nat} {a : Option Addr} {l : List Int} (h : BytesAt w A B a m c l) (hn : n ≤ m) : BytesAt w A B a n c (l.take n) := by
  obtain ⟨hl, hnc, hc, hw, hcell, hnil⟩ := h
  refine ⟨by simp; omega, by omega, by omega, fun x hx => hw x (List.mem_of_mem_take hx), fun h0 => ?_, hnil⟩
  obtain ⟨b, off, e1, e2, e3⟩ := hcell (by omega)
  refine ⟨b, off, e1, e2, fun i hi => ?_⟩
  rw [e3 i (by omega)]
  simp [List.getD, hi]
set_option maxHeartbeats 800000 in
theorem l2Take_good (n : Nat) (hn : n ≤ 255) (a : Option Addr) (m c : Nat) (l : List Int) (hk : n ≤ m) (w : World) (A B : Nat) (hB : BytesAt w A B a m c l) (hBw : B ≤ w.heap.size) :
    Calls Try.prog 83 #[.agg #[.slice a m c, .bool false], .int .i64 n] w fun e w' => ∃ a1 c1 a2 c2, e = .returned (.tuple #[.agg #[.slice a1 (m - n) c1, .bool false], .slice a2 n c2]) ∧ BytesAt w' A B a1 (m - n) c1 (l.drop n) ∧ BytesAt w' A B a2 n c2 (l.take n) ∧ Below w.heap.size w w' := by
  have hmc := hB.2.1
  have hcm := hB.2.2.1
  unfold maxLen at hcm
  have i1 : (0 : Int) ≤ (n : Int) := by omega
  have i2 : (n : Int) ≤ (m : Int) := by omega
  have i3 : (n : Int) ≤ (c : Int) := by omega
  have i4 : ¬ (m : Int) < (n : Int) := by omega
  rcases a with _ | ad
  · have hm0 : m = 0 := by
      by_cases h0 : m = 0
      · exact h0
      · obtain ⟨_, _, h1, _⟩ := hB.2.2.2.2.1 (by omega); cases h1
    have hc0 : c = 0 := hB.2.2.2.2.2 rfl
    subst hm0 hc0
    obtain rfl : n = 0 := by omega
    have hl0 : l = [] := List.eq_nil_of_length_eq_zero hB.1
    subst hl0
    have HB : Hid (∀ w', BytesAt w' A B none 0 0 []) := fun w' => ⟨rfl, Nat.le_refl _, Nat.zero_le _, (by intro x hx; cases hx), fun h => absurd h (Nat.lt_irrefl _), fun _ => rfl⟩
    clear hB
    go_enter Try.func83, Try.ntmps83
    go_wp2_with fail
    go_region_held3 (fun w' => w'.cell? ⟨w.heap.size, 0, none⟩ = some (.slice none 0 0)) (go_keep) (fail)
    all_goals
      go_wp2
      exact bodyPost_ret (v := .tuple #[.agg #[.slice none 0 0, .bool false], .slice none 0 0]) (by simp [results, Try.results83, go_sem]) rfl ⟨_, _, _, _, rfl, HB.out _, HB.out _, by repeat (first | exact Below.refl _ _ | refine Below.drew ?_ | refine Below.alloc ?_ (by simp) _)⟩
  · have HB1 := bytesAt_dropN hB hk
    have HB2 := bytesAt_takeN hB hk
    by_cases hcn : c = n
    · subst hcn
      obtain rfl : m = c := by omega
      have HB0 : Hid (∀ w', BytesAt w' A B (some ad) (m - m) 0 (l.drop m)) := fun w' => by rw [Nat.sub_self, List.drop_eq_nil_of_le (by have := hB.1; omega)]; exact bytesAt_none _ 0 (Nat.zero_le _)
      go_enter Try.func83, Try.ntmps83
      go_wp2_with fail
      go_region_held3 (fun w' => w'.cell? ⟨w.heap.size, 0, none⟩ = some (.slice (some ad) m m)) (go_keep) (fail)
      all_goals
        go_wp2
        have hbl : Below w.heap.size w (((w.alloc (.cells #[.slice (some ad) m m, .bool false] 119)).alloc (.cells #[.slice (some ad) 0 0, .bool false] 119)).drew) := by repeat (first | exact Below.refl _ _ | refine Below.drew ?_ | refine Below.alloc ?_ (by simp) _)
        exact bodyPost_ret (v := .tuple #[.agg #[.slice (some ad) 0 0, .bool false], .slice (some ad) m m]) (by simp [results, Try.results83, go_sem]) rfl ⟨some ad, 0, some ad, m, by rw [Nat.sub_self], HB0.out _, HB2.below (hbl.mono hBw), hbl⟩
    · go_enter Try.func83, Try.ntmps83
      go_wp2_with fail
      go_region_held3 (fun w' => w'.cell? ⟨w.heap.size, 0, none⟩ = some (.slice (some ad) m c)) (go_keep) (fail)
      all_goals
        go_wp2
        have hbl : Below w.heap.size w (((w.alloc (.cells #[.slice (some ad) m c, .bool false] 119)).alloc (.cells #[.slice (some (ad.add n)) (m - n) (c - n), .bool false] 119)).drew) := by repeat (first | exact Below.refl _ _ | refine Below.drew ?_ | refine Below.alloc ?_ (by simp) _)
        exact bodyPost_ret (v := .tuple #[.agg #[.slice (some (ad.add n)) (m - n) (c - n), .bool false], .slice (some ad) n c]) (by simp [results, Try.results83, go_sem]) rfl ⟨_, _, _, _, rfl, HB1.below (hbl.mono hBw), HB2.below (hbl.mono hBw), hbl⟩
theorem make_run (n : Nat) (hn : n ≤ 255) (w : World) : (Instr.makeSlice 22 (.int .i64 n) (.int .i64 n)).run Try.prog w = .ok (.slice (some ⟨w.heap.size, 0, none⟩) n n) (w.alloc (.cells (madeCells (Value.int .u8 0).cells (n * 1)) 5)) := by
  obtain ⟨i0, hi0, hz0, hz1, hz2⟩ := info_parts info_u8
  have := run_makeSlice (P := Try.prog) w 22 5 i0 (.int .u8 0) Try.underlying22 hi0 hz0 .i64 .i64 n n (by omega) (by omega) (by rw [hz1]; simp; omega) (by rw [hz2]; omega) (by omega)
  rw [hz1] at this
  simpa using this
theorem madeN (n : Nat) : madeCells (Value.int .u8 0).cells (n * 1) = (u8s (List.replicate n 0)).toArray := by
  apply Array.ext
  · simp [madeCells, u8s]
  · intro i h1 h2
    have e : i % 1 = 0 := Nat.mod_one i
    simp [madeCells, u8s, Value.cells, e]
theorem bytesAt_made (w : World) (n : Nat) (hn : n ≤ 255) : BytesAt (w.alloc (.cells (madeCells (Value.int .u8 0).cells (n * 1)) 5)) w.heap.size (w.heap.size + 1) (some ⟨w.heap.size, 0, none⟩) n n (List.replicate n 0) := by
  have hx := heap_alloc_new w (.cells (madeCells (Value.int .u8 0).cells (n * 1)) 5)
  refine ⟨by simp, Nat.le_refl _, by unfold maxLen; omega, fun x hx => by have := List.eq_of_mem_replicate hx; omega, fun _ => ⟨w.heap.size, 0, rfl, ⟨Nat.le_refl _, Nat.lt_succ_self _⟩, fun i hi => ?_⟩, fun h => by cases h⟩
  generalize w.alloc (.cells (madeCells (Value.int .u8 0).cells (n * 1)) 5) = w' at hx ⊢
  rw [madeN] at hx
  simp [World.cell?, hx, u8s, List.getD, hi]
theorem take_fin (w : World) (o1 o2 : Obj) (n : Nat) (hn : n ≤ 255) : BytesAt (((w.alloc o1).alloc o2).alloc (.cells (madeCells #[.int .u8 0] n) 5)).drew w.heap.size (((w.alloc o1).alloc o2).alloc (.cells (madeCells #[.int .u8 0] n) 5)).drew.heap.size (some ⟨w.heap.size + 1 + 1, 0, none⟩) n n (List.replicate n 0) := by
  have h := bytesAt_made ((w.alloc o1).alloc o2) n hn
  have hs : ((w.alloc o1).alloc o2).heap.size = w.heap.size + 1 + 1 := by simp
  have e : (Value.int IntKind.u8 0).cells = #[.int .u8 0] := rfl
  rw [Nat.mul_one, e, hs] at h
  obtain ⟨h1, h2, h3, h4, h5, h6⟩ := h
  refine ⟨h1, h2, h3, h4, fun h0 => ?_, h6⟩
  obtain ⟨b, off, e1, e2, e3⟩ := h5 h0
  refine ⟨b, off, e1, ⟨by omega, ?_⟩, e3⟩
  show b < (((w.alloc o1).alloc o2).alloc (.cells (madeCells #[.int .u8 0] n) 5)).heap.size
  simp
  omega
set_option maxHeartbeats 800000 in
theorem l2Take_bad (n : Nat) (hn : n ≤ 255) (a : Option Addr) (m c : Nat) (bad : Bool) (hbad : bad = true ∨ m < n) (w : World) :
    Calls Try.prog 83 #[.agg #[.slice a m c, .bool bad], .int .i64 n] w fun e w' => ∃ a' c', e = .returned (.tuple #[.agg #[.slice none 0 0, .bool true], .slice a' n c']) ∧ BytesAt w' w.heap.size w'.heap.size a' n c' (List.replicate n 0) ∧ Below w.heap.size w w' := by
  have hmk := fun W => make_run n hn W
  by_cases hb : bad = true
  · subst hb
    go_enter Try.func83, Try.ntmps83
    go_wp2_with fail
    go_region_held3 (fun _ => True) (trivial) (fail)
    all_goals
      go_wp2
      exact bodyPost_ret (v := .tuple #[.agg #[.slice none 0 0, .bool true], .slice (some ⟨w.heap.size + 1 + 1, 0, none⟩) n n]) (by simp [results, Try.results83, go_sem]) rfl ⟨_, _, rfl, take_fin w _ _ n hn, by repeat (first | exact Below.refl _ _ | refine Below.drew ?_ | refine Below.alloc ?_ (by simp; try omega) _)⟩
  · have hlt : m < n := hbad.resolve_left hb
    have hi : (m : Int) < (n : Int) := by omega
    obtain rfl : bad = false := by simpa using hb
    go_enter Try.func83, Try.ntmps83
    go_wp2_with fail
    go_region_held3 (fun _ => True) (trivial) (fail)
    all_goals
      go_wp2
      exact bodyPost_ret (v := .tuple #[.agg #[.slice none 0 0, .bool true], .slice (some ⟨w.heap.size + 1 + 1, 0, none⟩) n n]) (by simp [results, Try.results83, go_sem]) rfl ⟨_, _, rfl, take_fin w _ _ n hn, by repeat (first | exact Below.refl _ _ | refine Below.drew ?_ | refine Below.alloc ?_ (by simp; try omega) _)⟩
end Go.Proofs.Ytcmhobbpeaeebaa
namespace Go.Proofs.Ytcmhobbpeaeebaa
open Go.RowKit
set_option linter.unusedVariables false
set_option maxRecDepth 100000

theorem leN_drop {l : List Int} {j : Nat} (h : j < l.length) : leN (l.drop (l.length - (j + 1))) = l.getD (l.length - 1 - j) 0 + 256 * leN (l.drop (l.length - j)) := by
  have e : l.length - (j + 1) < l.length := by omega
  rw [List.drop_eq_getElem_cons e, leN]
  congr 2
  · simp [List.getD, show l.length - 1 - j < l.length by omega]; congr 1; omega
  · congr 2; omega
set_option maxHeartbeats 800000 in
theorem l2Get_high (a : Option Addr) (n c : Nat) (hn : n ≤ 4) (l : List Int) (w : World) (A B : Nat) (hB : BytesAt w A B a n c l) :
    Calls Try.prog 68 #[.slice a n c, .bool true] w fun e w' => e = .returned (.int .i64 (numOf true l)) ∧ w' = w := by
  have hby := hB.2.2.2.1
  have HL : Hid (l.length = n) := hB.1
  go_enter Try.func68, Try.ntmps68
  go_wp2_with fail
  go_loopw [5, 6] (fun x i wr => ∃ j : Nat, j ≤ n ∧ i = .int .i64 j ∧ wr = w ∧ x = .int .i64 (numOf true (l.take j))) (fun _ i _ => n - (intOf i).toNat)
  case atStart => exact ⟨0, by omega, rfl, rfl, rfl⟩
  case round =>
    obtain ⟨j, hj, rfl, rfl, rfl⟩ := hrel
    by_cases hlt : j < n
    · obtain ⟨b, off, rfl, hb, hcb⟩ := hB.2.2.2.2.1 (by omega)
      have e1 := hcb j hlt
      have hx := getD_byteB hby j
      have hr := numOf_range true (l := l.take j) (fun x hx => hby x (List.mem_of_mem_take hx))
      have hlj : (l.take j).length = j := by have := HL.out; simp; omega
      rw [hlj] at hr
      have hr3 : 0 ≤ numOf true (l.take j) ∧ numOf true (l.take j) < 16777216 := by
        refine ⟨hr.1, ?_⟩
        have h4 : j = 0 ∨ j = 1 ∨ j = 2 ∨ j = 3 := by omega
        rcases h4 with rfl | rfl | rfl | rfl <;> simp at hr ⊢ <;> omega
      have HS : Hid (numOf true (l.take (j + 1)) = 256 * numOf true (l.take j) + l.getD j 0) := beN_take (by have := HL.out; omega)
      generalize l.getD j 0 = x at e1 hx HS
      generalize numOf true (l.take j) = y at hr3 HS ⊢
      clear hB hcb hlj hr
      go_wp2
      go_roundw
      case rel => exact ⟨j + 1, by omega, by go_num, trivial, by rw [HS.out]⟩
      case measure => simp [intOf]; omega
    · go_wp2
      go_ret
      obtain rfl : j = n := by omega
      rw [List.take_of_length_le (by have := HL.out; omega)]
      exact ⟨rfl, rfl⟩
set_option maxHeartbeats 800000 in
theorem l2Get_low (a : Option Addr) (n c : Nat) (hn : n ≤ 4) (l : List Int) (w : World) (A B : Nat) (hB : BytesAt w A B a n c l) :
    Calls Try.prog 68 #[.slice a n c, .bool false] w fun e w' => e = .returned (.int .i64 (numOf false l)) ∧ w' = w := by
  have hby := hB.2.2.2.1
  have HL : Hid (l.length = n) := hB.1
  go_enter Try.func68, Try.ntmps68
  go_wp2_with fail
  go_loopw [5, 6] (fun x i wr => ∃ j : Nat, j ≤ n ∧ i = .int .i64 j ∧ wr = w ∧ x = .int .i64 (leN (l.drop (n - j)))) (fun _ i _ => n - (intOf i).toNat)
  case atStart => exact ⟨0, by omega, rfl, rfl, by rw [Nat.sub_zero, List.drop_eq_nil_of_le (by have := HL.out; omega)]; rfl⟩
  case round =>
    obtain ⟨j, hj, rfl, rfl, rfl⟩ := hrel
    by_cases hlt : j < n
    · obtain ⟨b, off, rfl, hb, hcb⟩ := hB.2.2.2.2.1 (by omega)
      have e1 := hcb (n - 1 - j) (by omega)
      have hx := getD_byteB hby (n - 1 - j)
      have hr := leN_range (l.drop (n - j)) (fun x hx => hby x (List.mem_of_mem_drop hx))
      have hlj : (l.drop (n - j)).length = j := by have := HL.out; simp; omega
      rw [hlj] at hr
      have hr3 : 0 ≤ leN (l.drop (n - j)) ∧ leN (l.drop (n - j)) < 16777216 := by
        refine ⟨hr.1, ?_⟩
        have h4 : j = 0 ∨ j = 1 ∨ j = 2 ∨ j = 3 := by omega
        rcases h4 with rfl | rfl | rfl | rfl <;> simp at hr ⊢ <;> omega
      have HS : Hid (leN (l.drop (n - (j + 1))) = l.getD (n - 1 - j) 0 + 256 * leN (l.drop (n - j))) := by
        have := HL.out
        have h5 := leN_drop (l := l) (j := j) (by omega)
        rw [this] at h5; exact h5
      generalize l.getD (n - 1 - j) 0 = x at e1 hx HS
      generalize leN (l.drop (n - j)) = y at hr3 HS ⊢
      clear hB hcb hlj hr
      have hix : (n : Int) - 1 - (j : Int) = ((n - 1 - j : Nat) : Int) := by omega
      go_wp2
      go_roundw
      case rel => exact ⟨j + 1, by omega, by go_num, trivial, by rw [HS.out, Int.add_comm]⟩
      case measure => simp [intOf]; omega
    · go_wp2
      go_ret
      obtain rfl : j = n := by omega
      rw [Nat.sub_self, List.drop_zero]
      exact ⟨rfl, rfl⟩
end Go.Proofs.Ytcmhobbpeaeebaa
namespace Go.Proofs.Ytcmhobbpeaeebaa
open Go.RowKit
set_option linter.unusedVariables false
set_option maxRecDepth 100000

/-- What is left of the bytes L at k; none: they ended too early. -/
def SrcAt (w : World) (A B : Nat) (L : List Int) (a : Option Addr) (n c : Nat) (bad : Bool) : Option Nat → Prop
  | some k => k ≤ L.length ∧ bad = false ∧ n = L.length - k ∧ BytesAt w A B a (L.length - k) c (L.drop k)
  | none => bad = true ∧ a = none ∧ n = 0 ∧ c = 0
def sTake (L : List Int) (s : Option Nat) (n : Nat) : Option Nat × List Int :=
  match s with
  | some k => if k + n ≤ L.length then (some (k + n), (L.drop k).take n) else (none, List.replicate n 0)
  | none => (none, List.replicate n 0)
theorem SrcAt.keep {w w' : World} {A B : Nat} {L : List Int} {a : Option Addr} {n c : Nat} {bad : Bool} {s : Option Nat} (h : SrcAt w A B L a n c bad s) (hb : Keeps A B w w') : SrcAt w' A B L a n c bad s := by
  cases s with
  | none => exact h
  | some k =>
    obtain ⟨h1, h0, h2, h3⟩ := h
    exact ⟨h1, h0, h2, h3.keep hb⟩
/-- Bytes that lie in A..B or above lo. -/
def XAt (w : World) (lo A B : Nat) (a : Option Addr) (n c : Nat) (l : List Int) : Prop := BytesAt w A B a n c l ∨ BytesAt w lo w.heap.size a n c l
theorem XAt.set {w : World} {lo A B : Nat} {a : Option Addr} {n c : Nat} {l : List Int} (h : XAt w lo A B a n c l) (p : Addr) (v : Value) (h1 : B ≤ p.block) (h2 : p.block < lo) : XAt (w.setCell p v) lo A B a n c l := by
  have hz : (w.setCell p v).heap.size = w.heap.size := by simp [World.setCell]
  rcases h with h | h
  · exact .inl (h.keep fun k k1 k2 => Below.heap_setCell w p v k (by omega))
  · right; rw [hz]; exact h.keep fun k k1 k2 => Below.heap_setCell w p v k (by omega)
theorem XAt.ex {w : World} {lo A B : Nat} {a : Option Addr} {n c : Nat} {l : List Int} (h : XAt w lo A B a n c l) : ∃ A' B', BytesAt w A' B' a n c l := h.elim (fun h => ⟨_, _, h⟩) (fun h => ⟨_, _, h⟩)
theorem XAt.byte {w : World} {lo A B : Nat} {a : Option Addr} {n c : Nat} {l : List Int} (h : XAt w lo A B a n c l) (hn : 0 < n) : ∃ b off, a = some ⟨b, off, none⟩ ∧ w.cell? ⟨b, off, none⟩ = some (.int .u8 (l.getD 0 0)) ∧ 0 ≤ l.getD 0 0 ∧ l.getD 0 0 ≤ 255 := by
  obtain ⟨A', B', h⟩ := h.ex
  obtain ⟨b, off, e1, e2, e3⟩ := h.2.2.2.2.1 hn
  have := getD_byteB h.2.2.2.1 0
  exact ⟨b, off, e1, by simpa using e3 0 hn, this.1, this.2⟩
theorem sTake_len (L : List Int) (s : Option Nat) (n : Nat) : (sTake L s n).2.length = n := by
  unfold sTake
  cases s with
  | none => simp
  | some k => dsimp only; split <;> simp; omega
theorem l2Take_any (L : List Int) (s : Option Nat) (n : Nat) (hn : n ≤ 255) (sa : Option Addr) (sn sc : Nat) (bad : Bool) (w : World) (A B : Nat) (hs : SrcAt w A B L sa sn sc bad s) (hBw : B ≤ w.heap.size) :
    Calls Try.prog 83 #[.agg #[.slice sa sn sc, .bool bad], .int .i64 n] w fun e w' => ∃ ta tn tc bad' a' c', e = .returned (.tuple #[.agg #[.slice ta tn tc, .bool bad'], .slice a' n c']) ∧ SrcAt w' A B L ta tn tc bad' (sTake L s n).1 ∧ XAt w' w.heap.size A B a' n c' (sTake L s n).2 ∧ Below w.heap.size w w' := by
  cases s with
  | none =>
    obtain ⟨rfl, rfl, rfl, rfl⟩ := hs
    refine (l2Take_bad n hn none 0 0 true (.inl rfl) w).mono ?_
    rintro e w' ⟨a', c', rfl, h1, h2⟩
    exact ⟨_, _, _, _, a', c', rfl, ⟨rfl, rfl, rfl, rfl⟩, .inr h1, h2⟩
  | some k =>
    obtain ⟨hk, rfl, rfl, hB⟩ := hs
    by_cases hkn : k + n ≤ L.length
    · refine (l2Take_good n hn sa (L.length - k) sc (L.drop k) (by omega) w A B hB hBw).mono ?_
      rintro e w' ⟨a1, c1, a2, c2, rfl, h1, h2, h3⟩
      have e1 : L.length - k - n = L.length - (k + n) := by omega
      rw [e1, List.drop_drop] at h1
      refine ⟨a1, _, c1, _, a2, c2, rfl, ?_, ?_, h3⟩
      · simp only [sTake, if_pos hkn]
        exact ⟨hkn, rfl, e1, h1⟩
      · simp only [sTake, if_pos hkn]
        exact .inl h2
    · refine (l2Take_bad n hn sa (L.length - k) sc false (.inr (by omega)) w).mono ?_
      rintro e w' ⟨a', c', rfl, h1, h2⟩
      refine ⟨_, _, _, _, a', c', rfl, ?_, ?_, h2⟩
      · simp only [sTake, if_neg hkn]; exact ⟨rfl, rfl, rfl, rfl⟩
      · simp only [sTake, if_neg hkn]; exact .inr h1
/-- Six blocks that are made one behind the other. -/
theorem six_new (w : World) (o0 o1 o2 o3 o4 o5 : Obj) : let W := (((((w.alloc o0).alloc o1).alloc o2).alloc o3).alloc o4).alloc o5
    W.heap[w.heap.size]? = some o0 ∧ W.heap[w.heap.size + 1]? = some o1 ∧ W.heap[w.heap.size + 2]? = some o2 ∧ W.heap[w.heap.size + 3]? = some o3 ∧ W.heap[w.heap.size + 4]? = some o4 ∧ Below w.heap.size w W := by
  intro W
  have s1 : (w.alloc o0).heap.size = w.heap.size + 1 := by simp
  have s2 : ((w.alloc o0).alloc o1).heap.size = w.heap.size + 2 := by simp
  have s3 : (((w.alloc o0).alloc o1).alloc o2).heap.size = w.heap.size + 3 := by simp
  have s4 : ((((w.alloc o0).alloc o1).alloc o2).alloc o3).heap.size = w.heap.size + 4 := by simp
  have s5 : (((((w.alloc o0).alloc o1).alloc o2).alloc o3).alloc o4).heap.size = w.heap.size + 5 := by simp
  have up : ∀ (v : World) (o : Obj) (k : Nat), k < v.heap.size → (v.alloc o).heap[k]? = v.heap[k]? := fun v o k hk => ((Below.refl _ _).alloc (Nat.le_refl _) _).block k hk
  have n0 := heap_alloc_new w o0
  have n1 := heap_alloc_new (w.alloc o0) o1
  have n2 := heap_alloc_new ((w.alloc o0).alloc o1) o2
  have n3 := heap_alloc_new (((w.alloc o0).alloc o1).alloc o2) o3
  have n4 := heap_alloc_new ((((w.alloc o0).alloc o1).alloc o2).alloc o3) o4
  rw [s1] at n1
  rw [s2] at n2
  rw [s3] at n3
  rw [s4] at n4
  refine ⟨?_, ?_, ?_, ?_, ?_, ?_⟩
  · rw [up _ _ _ (by rw [s5]; omega), up _ _ _ (by rw [s4]; omega), up _ _ _ (by rw [s3]; omega), up _ _ _ (by rw [s2]; omega), up _ _ _ (by rw [s1]; omega)]; exact n0
  · rw [up _ _ _ (by rw [s5]; omega), up _ _ _ (by rw [s4]; omega), up _ _ _ (by rw [s3]; omega), up _ _ _ (by rw [s2]; omega)]; exact n1
  · rw [up _ _ _ (by rw [s5]; omega), up _ _ _ (by rw [s4]; omega), up _ _ _ (by rw [s3]; omega)]; exact n2
  · rw [up _ _ _ (by rw [s5]; omega), up _ _ _ (by rw [s4]; omega)]; exact n3
  · rw [up _ _ _ (by rw [s5]; omega)]; exact n4
  · exact ((((((Below.refl _ _).alloc (Nat.le_refl _) _).alloc (by rw [s1]; omega) _).alloc (by rw [s2]; omega) _).alloc (by rw [s3]; omega) _).alloc (by rw [s4]; omega) _).alloc (by rw [s5]; omega) _
end Go.Proofs.Ytcmhobbpeaeebaa
