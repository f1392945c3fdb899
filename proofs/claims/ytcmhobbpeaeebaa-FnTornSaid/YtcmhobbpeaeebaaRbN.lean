import Derived.Test.YtcmhobbpeaeebaaGAK
import Derived.Test.YtcmhobbpeaeebaaBo
import Derived.Test.YtcmhobbpeaeebaaReN
import Derived.Test.YtcmhobbpeaeebaaRmN
namespace Go.Proofs.Ytcmhobbpeaeebaa
namespace New
open Go.RowKit
set_option linter.unusedVariables false
set_option maxRecDepth 100000

theorem meth_meta_read (a : Addr) (w : World) : (method 264 134 (.pointer (some a)) "loop.example/s02098/impl.read").run Try.prog w = .ok (120, .pointer (some a)) w := by kernel_rfl
theorem ahead_meta_read (a : Addr) (w : World) : (nilAhead 264 134 (.pointer (some a)) "loop.example/s02098/impl.read").run Try.prog w = .ok (some false) w := by kernel_rfl
theorem ahead_meta_page (a : Addr) (w : World) : (nilAhead 264 134 (.pointer (some a)) "loop.example/s02098/impl.page").run Try.prog w = .ok (some false) w := by kernel_rfl
theorem meth_branch_read (a : Addr) (w : World) : (method 264 137 (.pointer (some a)) "loop.example/s02098/impl.read").run Try.prog w = .ok (128, .pointer (some a)) w := by kernel_rfl
theorem ahead_branch_read (a : Addr) (w : World) : (nilAhead 264 137 (.pointer (some a)) "loop.example/s02098/impl.read").run Try.prog w = .ok (some false) w := by kernel_rfl
theorem ahead_branch_page (a : Addr) (w : World) : (nilAhead 264 137 (.pointer (some a)) "loop.example/s02098/impl.page").run Try.prog w = .ok (some false) w := by kernel_rfl
theorem meth_leaf_read (a : Addr) (w : World) : (method 264 140 (.pointer (some a)) "loop.example/s02098/impl.read").run Try.prog w = .ok (136, .pointer (some a)) w := by kernel_rfl
theorem ahead_leaf_read (a : Addr) (w : World) : (nilAhead 264 140 (.pointer (some a)) "loop.example/s02098/impl.read").run Try.prog w = .ok (some false) w := by kernel_rfl
theorem ahead_leaf_page (a : Addr) (w : World) : (nilAhead 264 140 (.pointer (some a)) "loop.example/s02098/impl.page").run Try.prog w = .ok (some false) w := by kernel_rfl
theorem meth_over_read (a : Addr) (w : World) : (method 264 143 (.pointer (some a)) "loop.example/s02098/impl.read").run Try.prog w = .ok (143, .pointer (some a)) w := by kernel_rfl
theorem ahead_over_read (a : Addr) (w : World) : (nilAhead 264 143 (.pointer (some a)) "loop.example/s02098/impl.read").run Try.prog w = .ok (some false) w := by kernel_rfl
theorem ahead_over_page (a : Addr) (w : World) : (nilAhead 264 143 (.pointer (some a)) "loop.example/s02098/impl.page").run Try.prog w = .ok (some false) w := by kernel_rfl

/-- The page that is read at k (stamp 0). -/
def readP (bs : List Int) (k : Nat) (kind : Int) (n : Nat) : Pg :=
  if kind = 1 then ⟨1, 0, mId bs k, mRoot bs k, mCount bs k, [], [], 0, ⟨#[]⟩⟩
  else if kind = 2 then ⟨2, 0, 0, 0, 0, (kidsR bs k n).1, [], 0, ⟨#[]⟩⟩
  else if kind = 3 then ⟨3, 0, 0, 0, 0, [], (entsR bs k n).1, 0, ⟨#[]⟩⟩
  else if kind = 4 then ⟨4, 0, 0, 0, 0, [], [], oNext bs k, oData bs k⟩
  else ⟨0, 0, 0, 0, 0, [], [], 0, ⟨#[]⟩⟩
/-- A page as a value, its lists in memory of their own above S; one of them is nil. -/
def PgVal (w : World) (S : Nat) (p : Pg) (v : Value) : Prop :=
  ∃ vk ve, v = .agg #[.int .i64 p.kind, .int .i64 p.tx, .int .i64 p.id, .int .i64 p.root, .int .i64 p.count, vk, ve, .int .i64 p.next, .string p.data] ∧ w.ownsRow S 100 2 vk p.ks.length (rowsOf kidCells p.ks) ∧ w.ownsRow S 102 4 ve p.es.length (rowsOf entCells p.es) ∧ (vk = .slice none 0 0 ∨ ve = .slice none 0 0)
theorem Fr.up {S T : Nat → Prop} {a b : World} (h : Fr S a b) (hst : ∀ x, x < a.heap.size → S x → T x) : Fr T a b := ⟨h.1, h.2, h.3, h.4, fun k hk hT => h.block k hk (fun hs => hT (hst k hk hs))⟩
def put9 (w : World) (N : Nat) (u0 u1 u2 u3 u4 u5 u6 u7 u8 : Value) : World :=
  ((((((((w.setCell ⟨N, 0, none⟩ u0).setCell ⟨N, 1, none⟩ u1).setCell ⟨N, 2, none⟩ u2).setCell ⟨N, 3, none⟩ u3).setCell ⟨N, 4, none⟩ u4).setCell ⟨N, 5, none⟩ u5).setCell ⟨N, 6, none⟩ u6).setCell ⟨N, 7, none⟩ u7).setCell ⟨N, 8, none⟩ u8
theorem put9_box {w : World} {N t : Nat} {v0 v1 v2 v3 v4 v5 v6 v7 v8 : Value} (h : w.heap[N]? = some (.cells #[v0, v1, v2, v3, v4, v5, v6, v7, v8] t)) (u0 u1 u2 u3 u4 u5 u6 u7 u8 : Value) : (put9 w N u0 u1 u2 u3 u4 u5 u6 u7 u8).heap[N]? = some (.cells #[u0, u1, u2, u3, u4, u5, u6, u7, u8] t) := by
  simp [put9, World.setCell, Array.getElem?_modify, h]
theorem set_fr (w : World) (N i : Nat) (u : Value) : Fr (fun x => x = N) w (w.setCell ⟨N, i, none⟩ u) := ⟨rfl, rfl, rfl, by simp [World.setCell], fun k _ hk => Below.heap_setCell w ⟨N, i, none⟩ u k hk⟩
theorem put9_fr (w : World) (N : Nat) (u0 u1 u2 u3 u4 u5 u6 u7 u8 : Value) : Fr (fun x => x = N) w (put9 w N u0 u1 u2 u3 u4 u5 u6 u7 u8) :=
  ((((((((set_fr _ _ _ _).trans (set_fr _ _ _ _)).trans (set_fr _ _ _ _)).trans (set_fr _ _ _ _)).trans (set_fr _ _ _ _)).trans (set_fr _ _ _ _)).trans (set_fr _ _ _ _)).trans (set_fr _ _ _ _)).trans (set_fr _ _ _ _)
theorem kidsR_len (bs : List Int) (k : Nat) : ∀ n, (kidsR bs k n).1.length = n
  | 0 => rfl
  | n + 1 => by rw [kidsR]; simp [kidsR_len bs k n]
theorem entsR_len (bs : List Int) (k : Nat) : ∀ n, (entsR bs k n).1.length = n
  | 0 => rfl
  | n + 1 => by rw [entsR]; simp [entsR_len bs k n]
set_option maxHeartbeats 1600000 in
theorem readBody_meta (C g o c A B : Nat) (bs : List Int) (k : Nat) (n : Nat) (hn : n ≤ 255) (w : World) (h : RAt w C g o c A B bs k) :
    Calls Try.prog 47 #[.pointer (some ⟨C, 0, none⟩), .int .i64 1, .int .i64 n] w fun e w' => ∃ v, e = .returned v ∧ PgVal w' w.heap.size (readP bs k 1 n) v ∧ Fr (fun x => x = C) w w' := by
  have hCl := (Array.getElem?_eq_some_iff.1 h.cur.box).1
  have hmr := fun a w => meth_meta_read a w
  have har := fun a w => ahead_meta_read a w
  have hmp := fun a w => meth_meta_page a w
  have hap := fun a w => ahead_meta_page a w
  go_enter Try.func47, Try.ntmps47
  go_wp2_with fail
  have hb0 : Below w.heap.size w (w.alloc (.cells #[.int .i64 0, .int .i64 0, .int .i64 0, .int .i64 0, .int .i64 0, .slice none 0 0, .slice none 0 0, .int .i64 0, .string ⟨#[]⟩] 28)) := (Below.refl _ _).alloc (Nat.le_refl _) _
  have HP0 := heap_alloc_new w (.cells #[.int .i64 0, .int .i64 0, .int .i64 0, .int .i64 0, .int .i64 0, .slice none 0 0, .slice none 0 0, .int .i64 0, .string ⟨#[]⟩] 28)
  generalize w.alloc (.cells #[.int .i64 0, .int .i64 0, .int .i64 0, .int .i64 0, .int .i64 0, .slice none 0 0, .slice none 0 0, .int .i64 0, .string ⟨#[]⟩] 28) = W0 at hb0 HP0 ⊢
  have hN0 := (Array.getElem?_eq_some_iff.1 HP0).1
  refine (kindBody_meta 0 0 0 0 none 0 0 none 0 0 0 ⟨#[]⟩ W0).mono ?_
  rintro e w1 ⟨M, rfl, hMl, hM, hb1⟩
  have h1 := RAt.keepB (RAt.keepB h (Fr.of_below (S := fun _ => False) hb0) (fun h => h) (fun _ _ h => h)) (Fr.of_below (S := fun _ => False) hb1) (fun h => h) (fun _ _ h => h)
  have HP1 := (hb1.block w.heap.size hN0).trans HP0
  have hfr1 : Fr (fun x => x = C) w w1 := Fr.comp (Fr.of_below hb0) (Fr.of_below (S := fun _ => False) hb1) (fun _ _ h => h.elim)
  have hMC : M ≠ C := by omega
  have hBM : B ≤ M := by have := h.top; omega
  have hMP : w.heap.size ≠ M := by omega
  have hs1 := hfr1.size
  clear HP0 hb0 hb1
  go_wp2_with fail
  refine (metaRead_any C g o c A B bs k M n w1 h1 hMC hBM 0 0 0 hM).mono ?_
  rintro e w2 ⟨rfl, R2⟩
  have hPC : w.heap.size ≠ C := by omega
  have HP2 := (R2.fr.block w.heap.size (Array.getElem?_eq_some_iff.1 HP1).1 (by omega)).trans HP1
  have hfr2 : Fr (fun x => x = C) w w2 := Fr.comp hfr1 R2.fr (fun x hx e => by omega)
  have hN1 := (Array.getElem?_eq_some_iff.1 HP1).1
  clear HP1 hfr1 h1 hM
  go_wp2_with fail
  refine (metaPage_any M _ _ _ w2 R2.box).mono ?_
  rintro e w3 ⟨rfl, hb3⟩
  have HP3 := (hb3.block w.heap.size (Array.getElem?_eq_some_iff.1 HP2).1).trans HP2
  have hfr3 : Fr (fun x => x = C) w w3 := Fr.comp hfr2 (Fr.of_below (S := fun _ => False) hb3) (fun _ _ h => h.elim)
  have f3 := box_frozen HP3
  obtain ⟨c5, c6, c0, c2, c3, c4, c7, c8, c1⟩ := box_slice HP3
  
  have HB9 := put9_box HP3 (.int .i64 1) (.int .i64 0) (.int .i64 (mId bs k)) (.int .i64 (mRoot bs k)) (.int .i64 (mCount bs k)) (.slice none 0 0) (.slice none 0 0) (.int .i64 0) (.string ByteArray.empty)
  have hfr4 : Fr (fun x => x = C) w (put9 w3 w.heap.size (.int .i64 1) (.int .i64 0) (.int .i64 (mId bs k)) (.int .i64 (mRoot bs k)) (.int .i64 (mCount bs k)) (.slice none 0 0) (.slice none 0 0) (.int .i64 0) (.string ByteArray.empty)) := Fr.comp hfr3 (put9_fr w3 w.heap.size (.int .i64 1) (.int .i64 0) (.int .i64 (mId bs k)) (.int .i64 (mRoot bs k)) (.int .i64 (mCount bs k)) (.slice none 0 0) (.slice none 0 0) (.int .i64 0) (.string ByteArray.empty)) (fun x hx e => by omega)
  clear HP2 hfr2 R2
  go_wp2
  show bodyPost _ _ _ _ _ (put9 w3 w.heap.size (.int .i64 1) (.int .i64 0) (.int .i64 (mId bs k)) (.int .i64 (mRoot bs k)) (.int .i64 (mCount bs k)) (.slice none 0 0) (.slice none 0 0) (.int .i64 0) (.string ByteArray.empty))
  clear c0 c1 c2 c3 c4 c5 c6 c7 c8
  obtain ⟨c5, c6, c0, c2, c3, c4, c7, c8, c1⟩ := box_slice HB9
  refine bodyPost_ret (v := .agg #[.int .i64 1, .int .i64 0, .int .i64 (mId bs k), .int .i64 (mRoot bs k), .int .i64 (mCount bs k), .slice none 0 0, .slice none 0 0, .int .i64 0, .string ByteArray.empty]) (by simp [results, Try.results47, go_sem, c0, c1, c2, c3, c4, c5, c6, c7, c8]) rfl ⟨_, rfl, ?_, hfr4⟩
  exact ⟨_, _, rfl, World.ownsRow_nil _ _ _ _, World.ownsRow_nil _ _ _ _, .inl rfl⟩
set_option maxHeartbeats 1600000 in
theorem readBody_branch (C g o c A B : Nat) (bs : List Int) (k : Nat) (n : Nat) (hn : n ≤ 255) (w : World) (h : RAt w C g o c A B bs k) :
    Calls Try.prog 47 #[.pointer (some ⟨C, 0, none⟩), .int .i64 2, .int .i64 n] w fun e w' => ∃ v, e = .returned v ∧ PgVal w' w.heap.size (readP bs k 2 n) v ∧ Fr (fun x => x = C) w w' := by
  have hCl := (Array.getElem?_eq_some_iff.1 h.cur.box).1
  have hmr := fun a w => meth_branch_read a w
  have har := fun a w => ahead_branch_read a w
  have hmp := fun a w => meth_branch_page a w
  have hap := fun a w => ahead_branch_page a w
  go_enter Try.func47, Try.ntmps47
  go_wp2_with fail
  have hb0 : Below w.heap.size w (w.alloc (.cells #[.int .i64 0, .int .i64 0, .int .i64 0, .int .i64 0, .int .i64 0, .slice none 0 0, .slice none 0 0, .int .i64 0, .string ⟨#[]⟩] 28)) := (Below.refl _ _).alloc (Nat.le_refl _) _
  have HP0 := heap_alloc_new w (.cells #[.int .i64 0, .int .i64 0, .int .i64 0, .int .i64 0, .int .i64 0, .slice none 0 0, .slice none 0 0, .int .i64 0, .string ⟨#[]⟩] 28)
  generalize w.alloc (.cells #[.int .i64 0, .int .i64 0, .int .i64 0, .int .i64 0, .int .i64 0, .slice none 0 0, .slice none 0 0, .int .i64 0, .string ⟨#[]⟩] 28) = W0 at hb0 HP0 ⊢
  have hN0 := (Array.getElem?_eq_some_iff.1 HP0).1
  refine (kindBody_branch 0 0 0 0 none 0 0 none 0 0 0 ⟨#[]⟩ W0).mono ?_
  rintro e w1 ⟨M, rfl, hMl, hM, hb1⟩
  have h1 := RAt.keepB (RAt.keepB h (Fr.of_below (S := fun _ => False) hb0) (fun h => h) (fun _ _ h => h)) (Fr.of_below (S := fun _ => False) hb1) (fun h => h) (fun _ _ h => h)
  have HP1 := (hb1.block w.heap.size hN0).trans HP0
  have hfr1 : Fr (fun x => x = C) w w1 := Fr.comp (Fr.of_below hb0) (Fr.of_below (S := fun _ => False) hb1) (fun _ _ h => h.elim)
  have hMC : M ≠ C := by omega
  have hBM : B ≤ M := by have := h.top; omega
  have hMP : w.heap.size ≠ M := by omega
  have hs1 := hfr1.size
  clear HP0 hb0 hb1
  go_wp2_with fail
  refine (branchRead_any C g o c A B bs k M n hn w1 h1 hMC hBM hM).mono ?_
  rintro e w2 ⟨rfl, v2, hO2, R2⟩
  obtain ⟨va, vc, rfl⟩ := own_shape hO2
  have hPC : w.heap.size ≠ C := by omega
  have HP2 := (R2.fr.block w.heap.size (Array.getElem?_eq_some_iff.1 HP1).1 (by omega)).trans HP1
  have hfr2 : Fr (fun x => x = C) w w2 := Fr.comp hfr1 R2.fr (fun x hx e => by omega)
  have hN1 := (Array.getElem?_eq_some_iff.1 HP1).1
  clear HP1 hfr1 h1 hM
  go_wp2_with fail
  refine (branchPage_any M va n vc w2 R2.box).mono ?_
  rintro e w3 ⟨rfl, hb3⟩
  have HP3 := (hb3.block w.heap.size (Array.getElem?_eq_some_iff.1 HP2).1).trans HP2
  have hfr3 : Fr (fun x => x = C) w w3 := Fr.comp hfr2 (Fr.of_below (S := fun _ => False) hb3) (fun _ _ h => h.elim)
  have f3 := box_frozen HP3
  obtain ⟨c5, c6, c0, c2, c3, c4, c7, c8, c1⟩ := box_slice HP3
  have hO3 := owns_below hO2 hb3
  have hO4 := owns_base (base' := w.heap.size) (owns_fr hO3 (put9_fr w3 w.heap.size (.int .i64 2) (.int .i64 0) (.int .i64 0) (.int .i64 0) (.int .i64 0) (.slice va n vc) (.slice none 0 0) (.int .i64 0) (.string ByteArray.empty)) (fun g' e e' => by have := (hO3.lt g' e).1; omega)) hs1
  have HB9 := put9_box HP3 (.int .i64 2) (.int .i64 0) (.int .i64 0) (.int .i64 0) (.int .i64 0) (.slice va n vc) (.slice none 0 0) (.int .i64 0) (.string ByteArray.empty)
  have hfr4 : Fr (fun x => x = C) w (put9 w3 w.heap.size (.int .i64 2) (.int .i64 0) (.int .i64 0) (.int .i64 0) (.int .i64 0) (.slice va n vc) (.slice none 0 0) (.int .i64 0) (.string ByteArray.empty)) := Fr.comp hfr3 (put9_fr w3 w.heap.size (.int .i64 2) (.int .i64 0) (.int .i64 0) (.int .i64 0) (.int .i64 0) (.slice va n vc) (.slice none 0 0) (.int .i64 0) (.string ByteArray.empty)) (fun x hx e => by omega)
  clear HP2 hfr2 R2
  go_wp2
  show bodyPost _ _ _ _ _ (put9 w3 w.heap.size (.int .i64 2) (.int .i64 0) (.int .i64 0) (.int .i64 0) (.int .i64 0) (.slice va n vc) (.slice none 0 0) (.int .i64 0) (.string ByteArray.empty))
  clear c0 c1 c2 c3 c4 c5 c6 c7 c8
  obtain ⟨c5, c6, c0, c2, c3, c4, c7, c8, c1⟩ := box_slice HB9
  refine bodyPost_ret (v := .agg #[.int .i64 2, .int .i64 0, .int .i64 0, .int .i64 0, .int .i64 0, .slice va n vc, .slice none 0 0, .int .i64 0, .string ByteArray.empty]) (by simp [results, Try.results47, go_sem, c0, c1, c2, c3, c4, c5, c6, c7, c8]) rfl ⟨_, rfl, ?_, hfr4⟩
  have hkl : (kidsR bs k n).1.length = n := kidsR_len bs k n
  exact ⟨_, _, rfl, (by show World.ownsRow _ _ _ _ _ (kidsR bs k n).1.length (rowsOf kidCells (kidsR bs k n).1); rw [hkl]; exact hO4), World.ownsRow_nil _ _ _ _, .inr rfl⟩
set_option maxHeartbeats 1600000 in
theorem readBody_leaf (C g o c A B : Nat) (bs : List Int) (k : Nat) (n : Nat) (hn : n ≤ 255) (w : World) (h : RAt w C g o c A B bs k) :
    Calls Try.prog 47 #[.pointer (some ⟨C, 0, none⟩), .int .i64 3, .int .i64 n] w fun e w' => ∃ v, e = .returned v ∧ PgVal w' w.heap.size (readP bs k 3 n) v ∧ Fr (fun x => x = C) w w' := by
  have hCl := (Array.getElem?_eq_some_iff.1 h.cur.box).1
  have hmr := fun a w => meth_leaf_read a w
  have har := fun a w => ahead_leaf_read a w
  have hmp := fun a w => meth_leaf_page a w
  have hap := fun a w => ahead_leaf_page a w
  go_enter Try.func47, Try.ntmps47
  go_wp2_with fail
  have hb0 : Below w.heap.size w (w.alloc (.cells #[.int .i64 0, .int .i64 0, .int .i64 0, .int .i64 0, .int .i64 0, .slice none 0 0, .slice none 0 0, .int .i64 0, .string ⟨#[]⟩] 28)) := (Below.refl _ _).alloc (Nat.le_refl _) _
  have HP0 := heap_alloc_new w (.cells #[.int .i64 0, .int .i64 0, .int .i64 0, .int .i64 0, .int .i64 0, .slice none 0 0, .slice none 0 0, .int .i64 0, .string ⟨#[]⟩] 28)
  generalize w.alloc (.cells #[.int .i64 0, .int .i64 0, .int .i64 0, .int .i64 0, .int .i64 0, .slice none 0 0, .slice none 0 0, .int .i64 0, .string ⟨#[]⟩] 28) = W0 at hb0 HP0 ⊢
  have hN0 := (Array.getElem?_eq_some_iff.1 HP0).1
  refine (kindBody_leaf 0 0 0 0 none 0 0 none 0 0 0 ⟨#[]⟩ W0).mono ?_
  rintro e w1 ⟨M, rfl, hMl, hM, hb1⟩
  have h1 := RAt.keepB (RAt.keepB h (Fr.of_below (S := fun _ => False) hb0) (fun h => h) (fun _ _ h => h)) (Fr.of_below (S := fun _ => False) hb1) (fun h => h) (fun _ _ h => h)
  have HP1 := (hb1.block w.heap.size hN0).trans HP0
  have hfr1 : Fr (fun x => x = C) w w1 := Fr.comp (Fr.of_below hb0) (Fr.of_below (S := fun _ => False) hb1) (fun _ _ h => h.elim)
  have hMC : M ≠ C := by omega
  have hBM : B ≤ M := by have := h.top; omega
  have hMP : w.heap.size ≠ M := by omega
  have hs1 := hfr1.size
  clear HP0 hb0 hb1
  go_wp2_with fail
  refine (leafRead_any C g o c A B bs k M n hn w1 h1 hMC hBM hM).mono ?_
  rintro e w2 ⟨rfl, v2, hO2, R2⟩
  obtain ⟨va, vc, rfl⟩ := own_shape hO2
  have hPC : w.heap.size ≠ C := by omega
  have HP2 := (R2.fr.block w.heap.size (Array.getElem?_eq_some_iff.1 HP1).1 (by omega)).trans HP1
  have hfr2 : Fr (fun x => x = C) w w2 := Fr.comp hfr1 R2.fr (fun x hx e => by omega)
  have hN1 := (Array.getElem?_eq_some_iff.1 HP1).1
  clear HP1 hfr1 h1 hM
  go_wp2_with fail
  refine (leafPage_any M va n vc w2 R2.box).mono ?_
  rintro e w3 ⟨rfl, hb3⟩
  have HP3 := (hb3.block w.heap.size (Array.getElem?_eq_some_iff.1 HP2).1).trans HP2
  have hfr3 : Fr (fun x => x = C) w w3 := Fr.comp hfr2 (Fr.of_below (S := fun _ => False) hb3) (fun _ _ h => h.elim)
  have f3 := box_frozen HP3
  obtain ⟨c5, c6, c0, c2, c3, c4, c7, c8, c1⟩ := box_slice HP3
  have hO3 := owns_below hO2 hb3
  have hO4 := owns_base (base' := w.heap.size) (owns_fr hO3 (put9_fr w3 w.heap.size (.int .i64 3) (.int .i64 0) (.int .i64 0) (.int .i64 0) (.int .i64 0) (.slice none 0 0) (.slice va n vc) (.int .i64 0) (.string ByteArray.empty)) (fun g' e e' => by have := (hO3.lt g' e).1; omega)) hs1
  have HB9 := put9_box HP3 (.int .i64 3) (.int .i64 0) (.int .i64 0) (.int .i64 0) (.int .i64 0) (.slice none 0 0) (.slice va n vc) (.int .i64 0) (.string ByteArray.empty)
  have hfr4 : Fr (fun x => x = C) w (put9 w3 w.heap.size (.int .i64 3) (.int .i64 0) (.int .i64 0) (.int .i64 0) (.int .i64 0) (.slice none 0 0) (.slice va n vc) (.int .i64 0) (.string ByteArray.empty)) := Fr.comp hfr3 (put9_fr w3 w.heap.size (.int .i64 3) (.int .i64 0) (.int .i64 0) (.int .i64 0) (.int .i64 0) (.slice none 0 0) (.slice va n vc) (.int .i64 0) (.string ByteArray.empty)) (fun x hx e => by omega)
  clear HP2 hfr2 R2
  go_wp2
  show bodyPost _ _ _ _ _ (put9 w3 w.heap.size (.int .i64 3) (.int .i64 0) (.int .i64 0) (.int .i64 0) (.int .i64 0) (.slice none 0 0) (.slice va n vc) (.int .i64 0) (.string ByteArray.empty))
  clear c0 c1 c2 c3 c4 c5 c6 c7 c8
  obtain ⟨c5, c6, c0, c2, c3, c4, c7, c8, c1⟩ := box_slice HB9
  refine bodyPost_ret (v := .agg #[.int .i64 3, .int .i64 0, .int .i64 0, .int .i64 0, .int .i64 0, .slice none 0 0, .slice va n vc, .int .i64 0, .string ByteArray.empty]) (by simp [results, Try.results47, go_sem, c0, c1, c2, c3, c4, c5, c6, c7, c8]) rfl ⟨_, rfl, ?_, hfr4⟩
  have hkl : (entsR bs k n).1.length = n := entsR_len bs k n
  exact ⟨_, _, rfl, World.ownsRow_nil _ _ _ _, (by show World.ownsRow _ _ _ _ _ (entsR bs k n).1.length (rowsOf entCells (entsR bs k n).1); rw [hkl]; exact hO4), .inl rfl⟩
set_option maxHeartbeats 1600000 in
theorem readBody_over (C g o c A B : Nat) (bs : List Int) (k : Nat) (n : Nat) (hn : n ≤ 255) (w : World) (h : RAt w C g o c A B bs k) :
    Calls Try.prog 47 #[.pointer (some ⟨C, 0, none⟩), .int .i64 4, .int .i64 n] w fun e w' => ∃ v, e = .returned v ∧ PgVal w' w.heap.size (readP bs k 4 n) v ∧ Fr (fun x => x = C) w w' := by
  have hCl := (Array.getElem?_eq_some_iff.1 h.cur.box).1
  have hmr := fun a w => meth_over_read a w
  have har := fun a w => ahead_over_read a w
  have hmp := fun a w => meth_over_page a w
  have hap := fun a w => ahead_over_page a w
  go_enter Try.func47, Try.ntmps47
  go_wp2_with fail
  have hb0 : Below w.heap.size w (w.alloc (.cells #[.int .i64 0, .int .i64 0, .int .i64 0, .int .i64 0, .int .i64 0, .slice none 0 0, .slice none 0 0, .int .i64 0, .string ⟨#[]⟩] 28)) := (Below.refl _ _).alloc (Nat.le_refl _) _
  have HP0 := heap_alloc_new w (.cells #[.int .i64 0, .int .i64 0, .int .i64 0, .int .i64 0, .int .i64 0, .slice none 0 0, .slice none 0 0, .int .i64 0, .string ⟨#[]⟩] 28)
  generalize w.alloc (.cells #[.int .i64 0, .int .i64 0, .int .i64 0, .int .i64 0, .int .i64 0, .slice none 0 0, .slice none 0 0, .int .i64 0, .string ⟨#[]⟩] 28) = W0 at hb0 HP0 ⊢
  have hN0 := (Array.getElem?_eq_some_iff.1 HP0).1
  refine (kindBody_over 0 0 0 0 none 0 0 none 0 0 0 ⟨#[]⟩ W0).mono ?_
  rintro e w1 ⟨M, rfl, hMl, hM, hb1⟩
  have h1 := RAt.keepB (RAt.keepB h (Fr.of_below (S := fun _ => False) hb0) (fun h => h) (fun _ _ h => h)) (Fr.of_below (S := fun _ => False) hb1) (fun h => h) (fun _ _ h => h)
  have HP1 := (hb1.block w.heap.size hN0).trans HP0
  have hfr1 : Fr (fun x => x = C) w w1 := Fr.comp (Fr.of_below hb0) (Fr.of_below (S := fun _ => False) hb1) (fun _ _ h => h.elim)
  have hMC : M ≠ C := by omega
  have hBM : B ≤ M := by have := h.top; omega
  have hMP : w.heap.size ≠ M := by omega
  have hs1 := hfr1.size
  clear HP0 hb0 hb1
  go_wp2_with fail
  refine (overRead_any C g o c A B bs k M n w1 h1 hMC hBM 0 ⟨#[]⟩ hM).mono ?_
  rintro e w2 ⟨rfl, R2⟩
  have hPC : w.heap.size ≠ C := by omega
  have HP2 := (R2.fr.block w.heap.size (Array.getElem?_eq_some_iff.1 HP1).1 (by omega)).trans HP1
  have hfr2 : Fr (fun x => x = C) w w2 := Fr.comp hfr1 R2.fr (fun x hx e => by omega)
  have hN1 := (Array.getElem?_eq_some_iff.1 HP1).1
  clear HP1 hfr1 h1 hM
  go_wp2_with fail
  refine (overPage_any M _ _ w2 R2.box).mono ?_
  rintro e w3 ⟨rfl, hb3⟩
  have HP3 := (hb3.block w.heap.size (Array.getElem?_eq_some_iff.1 HP2).1).trans HP2
  have hfr3 : Fr (fun x => x = C) w w3 := Fr.comp hfr2 (Fr.of_below (S := fun _ => False) hb3) (fun _ _ h => h.elim)
  have f3 := box_frozen HP3
  obtain ⟨c5, c6, c0, c2, c3, c4, c7, c8, c1⟩ := box_slice HP3
  
  have HB9 := put9_box HP3 (.int .i64 4) (.int .i64 0) (.int .i64 0) (.int .i64 0) (.int .i64 0) (.slice none 0 0) (.slice none 0 0) (.int .i64 (oNext bs k)) (.string (oData bs k))
  have hfr4 : Fr (fun x => x = C) w (put9 w3 w.heap.size (.int .i64 4) (.int .i64 0) (.int .i64 0) (.int .i64 0) (.int .i64 0) (.slice none 0 0) (.slice none 0 0) (.int .i64 (oNext bs k)) (.string (oData bs k))) := Fr.comp hfr3 (put9_fr w3 w.heap.size (.int .i64 4) (.int .i64 0) (.int .i64 0) (.int .i64 0) (.int .i64 0) (.slice none 0 0) (.slice none 0 0) (.int .i64 (oNext bs k)) (.string (oData bs k))) (fun x hx e => by omega)
  clear HP2 hfr2 R2
  go_wp2
  show bodyPost _ _ _ _ _ (put9 w3 w.heap.size (.int .i64 4) (.int .i64 0) (.int .i64 0) (.int .i64 0) (.int .i64 0) (.slice none 0 0) (.slice none 0 0) (.int .i64 (oNext bs k)) (.string (oData bs k)))
  clear c0 c1 c2 c3 c4 c5 c6 c7 c8
  obtain ⟨c5, c6, c0, c2, c3, c4, c7, c8, c1⟩ := box_slice HB9
  refine bodyPost_ret (v := .agg #[.int .i64 4, .int .i64 0, .int .i64 0, .int .i64 0, .int .i64 0, .slice none 0 0, .slice none 0 0, .int .i64 (oNext bs k), .string (oData bs k)]) (by simp [results, Try.results47, go_sem, c0, c1, c2, c3, c4, c5, c6, c7, c8]) rfl ⟨_, rfl, ?_, hfr4⟩
  exact ⟨_, _, rfl, World.ownsRow_nil _ _ _ _, World.ownsRow_nil _ _ _ _, .inl rfl⟩
set_option maxHeartbeats 1600000 in
theorem readBody_none (C g o c A B : Nat) (bs : List Int) (k : Nat) (kind : Int) (hk1 : kind ≠ 1) (hk2 : kind ≠ 2) (hk3 : kind ≠ 3) (hk4 : kind ≠ 4) (n : Nat) (w : World) (h : RAt w C g o c A B bs k) :
    Calls Try.prog 47 #[.pointer (some ⟨C, 0, none⟩), .int .i64 kind, .int .i64 n] w fun e w' => ∃ v, e = .returned v ∧ PgVal w' w.heap.size (readP bs k kind n) v ∧ Fr (fun x => x = C) w w' := by
  have hCl := (Array.getElem?_eq_some_iff.1 h.cur.box).1
  go_enter Try.func47, Try.ntmps47
  go_wp2_with fail
  have hb0 : Below w.heap.size w (w.alloc (.cells #[.int .i64 0, .int .i64 0, .int .i64 0, .int .i64 0, .int .i64 0, .slice none 0 0, .slice none 0 0, .int .i64 0, .string ⟨#[]⟩] 28)) := (Below.refl _ _).alloc (Nat.le_refl _) _
  have HP0 := heap_alloc_new w (.cells #[.int .i64 0, .int .i64 0, .int .i64 0, .int .i64 0, .int .i64 0, .slice none 0 0, .slice none 0 0, .int .i64 0, .string ⟨#[]⟩] 28)
  generalize w.alloc (.cells #[.int .i64 0, .int .i64 0, .int .i64 0, .int .i64 0, .int .i64 0, .slice none 0 0, .slice none 0 0, .int .i64 0, .string ⟨#[]⟩] 28) = W0 at hb0 HP0 ⊢
  have hN0 := (Array.getElem?_eq_some_iff.1 HP0).1
  refine (kindBody_nil kind 0 0 0 0 hk1 hk2 hk3 hk4 none 0 0 none 0 0 0 ⟨#[]⟩ W0).mono ?_
  rintro e w3 ⟨rfl, hb1⟩
  have HP3 := (hb1.block w.heap.size hN0).trans HP0
  have hfr3 : Fr (fun x => x = C) w w3 := Fr.comp (Fr.of_below hb0) (Fr.of_below (S := fun _ => False) hb1) (fun _ _ h => h.elim)
  have f3 := box_frozen HP3
  obtain ⟨c5, c6, c0, c2, c3, c4, c7, c8, c1⟩ := box_slice HP3
  have HB9 := put9_box HP3 (.int .i64 0) (.int .i64 0) (.int .i64 0) (.int .i64 0) (.int .i64 0) (.slice none 0 0) (.slice none 0 0) (.int .i64 0) (.string ⟨#[]⟩)
  have hfr4 : Fr (fun x => x = C) w (put9 w3 w.heap.size (.int .i64 0) (.int .i64 0) (.int .i64 0) (.int .i64 0) (.int .i64 0) (.slice none 0 0) (.slice none 0 0) (.int .i64 0) (.string ⟨#[]⟩)) := Fr.comp hfr3 (put9_fr w3 w.heap.size _ _ _ _ _ _ _ _ _) (fun x hx e => by omega)
  clear HP0 hb0 hb1 hfr3
  go_wp2
  show bodyPost _ _ _ _ _ (put9 w3 w.heap.size (.int .i64 0) (.int .i64 0) (.int .i64 0) (.int .i64 0) (.int .i64 0) (.slice none 0 0) (.slice none 0 0) (.int .i64 0) (.string ⟨#[]⟩))
  clear c0 c1 c2 c3 c4 c5 c6 c7 c8
  obtain ⟨c5, c6, c0, c2, c3, c4, c7, c8, c1⟩ := box_slice HB9
  refine bodyPost_ret (v := .agg #[.int .i64 0, .int .i64 0, .int .i64 0, .int .i64 0, .int .i64 0, .slice none 0 0, .slice none 0 0, .int .i64 0, .string ⟨#[]⟩]) (by simp [results, Try.results47, go_sem, c0, c1, c2, c3, c4, c5, c6, c7, c8]) rfl ⟨_, rfl, ?_, hfr4⟩
  rw [readP, if_neg hk1, if_neg hk2, if_neg hk3, if_neg hk4]
  exact ⟨_, _, rfl, World.ownsRow_nil _ _ _ _, World.ownsRow_nil _ _ _ _, .inl rfl⟩
theorem readBody_any (C g o c A B : Nat) (bs : List Int) (k : Nat) (kind : Int) (n : Nat) (hn : n ≤ 255) (w : World) (h : RAt w C g o c A B bs k) :
    Calls Try.prog 47 #[.pointer (some ⟨C, 0, none⟩), .int .i64 kind, .int .i64 n] w fun e w' => ∃ v, e = .returned v ∧ PgVal w' w.heap.size (readP bs k kind n) v ∧ Fr (fun x => x = C) w w' := by
  by_cases h1 : kind = 1
  · subst h1; exact readBody_meta C g o c A B bs k n hn w h
  by_cases h2 : kind = 2
  · subst h2; exact readBody_branch C g o c A B bs k n hn w h
  by_cases h3 : kind = 3
  · subst h3; exact readBody_leaf C g o c A B bs k n hn w h
  by_cases h4 : kind = 4
  · subst h4; exact readBody_over C g o c A B bs k n hn w h
  exact readBody_none C g o c A B bs k kind h1 h2 h3 h4 n w h
end New
end Go.Proofs.Ytcmhobbpeaeebaa
