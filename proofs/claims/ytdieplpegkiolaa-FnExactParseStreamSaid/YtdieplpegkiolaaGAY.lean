import Derived.Test.YtdieplpegkiolaaGAM
import Derived.Test.YtdieplpegkiolaaGAR
import Derived.Test.YtdieplpegkiolaaGAS
import Derived.Test.YtdieplpegkiolaaGAX
namespace Go.Proofs.Ytdieplpegkiolaa
namespace New
open Go.RowKit
set_option linter.unusedVariables false
set_option maxRecDepth 100000

theorem meth_meta_read (a : Addr) (w : World) : (method 247 113 (.pointer (some a)) "loop.example/s02098/impl.read").run Try.prog w = .ok (86, .pointer (some a)) w := by kernel_rfl
theorem ahead_meta_read (a : Addr) (w : World) : (nilAhead 247 113 (.pointer (some a)) "loop.example/s02098/impl.read").run Try.prog w = .ok (some false) w := by kernel_rfl
theorem ahead_meta_page (a : Addr) (w : World) : (nilAhead 247 113 (.pointer (some a)) "loop.example/s02098/impl.page").run Try.prog w = .ok (some false) w := by kernel_rfl
theorem meth_branch_read (a : Addr) (w : World) : (method 247 116 (.pointer (some a)) "loop.example/s02098/impl.read").run Try.prog w = .ok (95, .pointer (some a)) w := by kernel_rfl
theorem ahead_branch_read (a : Addr) (w : World) : (nilAhead 247 116 (.pointer (some a)) "loop.example/s02098/impl.read").run Try.prog w = .ok (some false) w := by kernel_rfl
theorem ahead_branch_page (a : Addr) (w : World) : (nilAhead 247 116 (.pointer (some a)) "loop.example/s02098/impl.page").run Try.prog w = .ok (some false) w := by kernel_rfl
theorem meth_leaf_read (a : Addr) (w : World) : (method 247 119 (.pointer (some a)) "loop.example/s02098/impl.read").run Try.prog w = .ok (103, .pointer (some a)) w := by kernel_rfl
theorem ahead_leaf_read (a : Addr) (w : World) : (nilAhead 247 119 (.pointer (some a)) "loop.example/s02098/impl.read").run Try.prog w = .ok (some false) w := by kernel_rfl
theorem ahead_leaf_page (a : Addr) (w : World) : (nilAhead 247 119 (.pointer (some a)) "loop.example/s02098/impl.page").run Try.prog w = .ok (some false) w := by kernel_rfl
theorem meth_over_read (a : Addr) (w : World) : (method 247 122 (.pointer (some a)) "loop.example/s02098/impl.read").run Try.prog w = .ok (110, .pointer (some a)) w := by kernel_rfl
theorem ahead_over_read (a : Addr) (w : World) : (nilAhead 247 122 (.pointer (some a)) "loop.example/s02098/impl.read").run Try.prog w = .ok (some false) w := by kernel_rfl
theorem ahead_over_page (a : Addr) (w : World) : (nilAhead 247 122 (.pointer (some a)) "loop.example/s02098/impl.page").run Try.prog w = .ok (some false) w := by kernel_rfl

/-- The page that is read at k (stamp 0). -/
def readP (bs : List Int) (k : Nat) (kind : Int) (n : Nat) : Pg :=
  if kind = 1 then ⟨1, 0, mId bs k, mRoot bs k, mCount bs k, [], [], 0, ⟨#[]⟩⟩
  else if kind = 2 then ⟨2, 0, 0, 0, 0, (kidsR bs k n).1, [], 0, ⟨#[]⟩⟩
  else if kind = 3 then ⟨3, 0, 0, 0, 0, [], (entsR bs k n).1, 0, ⟨#[]⟩⟩
  else if kind = 4 then ⟨4, 0, 0, 0, 0, [], [], oNext bs k, oData bs k⟩
  else ⟨0, 0, 0, 0, 0, [], [], 0, ⟨#[]⟩⟩
/-- A page as a value, its lists in memory of their own above S; one of them is nil. -/
def PgVal (w : World) (S : Nat) (p : Pg) (v : Value) : Prop :=
  ∃ vk ve, v = .agg #[.int .i64 p.kind, .int .i64 p.tx, .int .i64 p.id, .int .i64 p.root, .int .i64 p.count, vk, ve, .int .i64 p.next, .string p.data] ∧ w.ownsRow S 91 2 vk p.ks.length (rowsOf kidCells p.ks) ∧ w.ownsRow S 93 4 ve p.es.length (rowsOf entCells p.es) ∧ (vk = .slice none 0 0 ∨ ve = .slice none 0 0)
theorem Fr.up {S T : Nat → Prop} {a b : World} (h : Fr S a b) (hst : ∀ x, x < a.heap.size → S x → T x) : Fr T a b := ⟨h.1, h.2, h.3, h.4, fun k hk hT => h.block k hk (fun hs => hT (hst k hk hs))⟩
def put9 (w : World) (N : Nat) (u0 u1 u2 u3 u4 u5 u6 u7 u8 : Value) : World :=
  ((((((((w.setCell ⟨N, 0, none⟩ u0).setCell ⟨N, 1, none⟩ u1).setCell ⟨N, 2, none⟩ u2).setCell ⟨N, 3, none⟩ u3).setCell ⟨N, 4, none⟩ u4).setCell ⟨N, 5, none⟩ u5).setCell ⟨N, 6, none⟩ u6).setCell ⟨N, 7, none⟩ u7).setCell ⟨N, 8, none⟩ u8
theorem put9_box {w : World} {N t : Nat} {v0 v1 v2 v3 v4 v5 v6 v7 v8 : Value} (h : w.heap[N]? = some (.cells #[v0, v1, v2, v3, v4, v5, v6, v7, v8] t)) (u0 u1 u2 u3 u4 u5 u6 u7 u8 : Value) : (put9 w N u0 u1 u2 u3 u4 u5 u6 u7 u8).heap[N]? = some (.cells #[u0, u1, u2, u3, u4, u5, u6, u7, u8] t) := by
  simp [put9, World.setCell, Array.getElem?_modify, h]
theorem set_fr (w : World) (N i : Nat) (u : Value) : Fr (fun x => x = N) w (w.setCell ⟨N, i, none⟩ u) := ⟨rfl, rfl, rfl, by simp [World.setCell], fun k _ hk => Below.heap_setCell w ⟨N, i, none⟩ u k hk⟩
theorem put9_fr (w : World) (N : Nat) (u0 u1 u2 u3 u4 u5 u6 u7 u8 : Value) : Fr (fun x => x = N) w (put9 w N u0 u1 u2 u3 u4 u5 u6 u7 u8) :=
  ((((((((set_fr _ _ _ _).trans (set_fr _ _ _ _)).trans (set_fr _ _ _ _)).trans (set_fr _ _ _ _)).trans (set_fr _ _ _ _)).trans (set_fr _ _ _ _)).trans (set_fr _ _ _ _)).trans (set_fr _ _ _ _)).trans (set_fr _ _ _ _)
theorem kidsR_len (bs : List Int) (k : Nat) : ∀ n, (kidsR bs k n).1.length = n
  | 0 => rfl
  | n + 1 => by rw [kidsR]; simp [kidsR_len bs k n]
theorem entsR_len (bs : List Int) (k : Nat) : ∀ n, (entsR bs k n).1.length = n
  | 0 => rfl
  | n + 1 => by rw [entsR]; simp [entsR_len bs k n]
set_option maxHeartbeats 1600000 in
theorem readBody_meta (C g o c A B : Nat) (bs : List Int) (k : Nat) (n : Nat) (hn : n ≤ 255) (w : World) (h : RAt w C g o c A B bs k) :
    Calls Try.prog 59 #[.pointer (some ⟨C, 0, none⟩), .int .i64 1, .int .i64 n] w fun e w' => ∃ v, e = .returned v ∧ PgVal w' w.heap.size (readP bs k 1 n) v ∧ Fr (fun x => x = C) w w' := by
  have hCl := (Array.getElem?_eq_some_iff.1 h.cur.box).1
  have hmr := fun a w => meth_meta_read a w
  have har := fun a w => ahead_meta_read a w
  have hmp := fun a w => meth_meta_page a w
  have hap := fun a w => ahead_meta_page a w
  go_enter Try.func59, Try.ntmps59
  go_wp2_with fail
  have hb0 : Below w.heap.size w (w.alloc (.cells #[.int .i64 0, .int .i64 0, .int .i64 0, .int .i64 0, .int .i64 0, .slice none 0 0, .slice none 0 0, .int .i64 0, .string ⟨#[]⟩] 56)) := (Below.refl _ _).alloc (Nat.le_refl _) _
  have HP0 := heap_alloc_new w (.cells #[.int .i64 0, .int .i64 0, .int .i64 0, .int .i64 0, .int .i64 0, .slice none 0 0, .slice none 0 0, .int .i64 0, .string ⟨#[]⟩] 56)
  generalize w.alloc (.cells #[.int .i64 0, .int .i64 0, .int .i64 0, .int .i64 0, .int .i64 0, .slice none 0 0, .slice none 0 0, .int .i64 0, .string ⟨#[]⟩] 56) = W0 at hb0 HP0 ⊢
  have hN0 := (Array.getElem?_eq_some_iff.1 HP0).1
  refine (kindBody_meta 0 0 0 0 none 0 0 none 0 0 0 ⟨#[]⟩ W0).mono ?_
  rintro e w1 ⟨M, rfl, hMl, hM, hb1⟩
  have h1 := RAt.keepB (RAt.keepB h (Fr.of_below (S := fun _ => False) hb0) (fun h => h) (fun _ _ h => h)) (Fr.of_below (S := fun _ => False) hb1) (fun h => h) (fun _ _ h => h)
  have HP1 := (hb1.block w.heap.size hN0).trans HP0
  have hfr1 : Fr (fun x => x = C) w w1 := Fr.comp (Fr.of_below hb0) (Fr.of_below (S := fun _ => False) hb1) (fun _ _ h => h.elim)
  have hMC : M ≠ C := by omega
  have hBM : B ≤ M := by have := h.top; omega
  have hMP : w.heap.size ≠ M := by omega
  have hs1 := hfr1.size
  clear HP0 hb0 hb1
  go_wp2_with fail
  refine (metaRead_any C g o c A B bs k M n w1 h1 hMC hBM 0 0 0 hM).mono ?_
  rintro e w2 ⟨rfl, R2⟩
  have hPC : w.heap.size ≠ C := by omega
  have HP2 := (R2.fr.block w.heap.size (Array.getElem?_eq_some_iff.1 HP1).1 (by omega)).trans HP1
  have hfr2 : Fr (fun x => x = C) w w2 := Fr.comp hfr1 R2.fr (fun x hx e => by omega)
  have hN1 := (Array.getElem?_eq_some_iff.1 HP1).1
  clear HP1 hfr1 h1 hM
  go_wp2_with fail
  refine (metaPage_any M _ _ _ w2 R2.box).mono ?_
  rintro e w3 ⟨rfl, hb3⟩
  have HP3 := (hb3.block w.heap.size (Array.getElem?_eq_some_iff.1 HP2).1).trans HP2
  have hfr3 : Fr (fun x => x = C) w w3 := Fr.comp hfr2 (Fr.of_below (S := fun _ => False) hb3) (fun _ _ h => h.elim)
  have f3 := box_frozen HP3
  obtain ⟨c5, c6, c0, c2, c3, c4, c7, c8, c1⟩ := box_slice HP3
  
  have HB9 := put9_box HP3 (.int .i64 1) (.int .i64 0) (.int .i64 (mId bs k)) (.int .i64 (mRoot bs k)) (.int .i64 (mCount bs k)) (.slice none 0 0) (.slice none 0 0) (.int .i64 0) (.string ByteArray.empty)
  have hfr4 : Fr (fun x => x = C) w (put9 w3 w.heap.size (.int .i64 1) (.int .i64 0) (.int .i64 (mId bs k)) (.int .i64 (mRoot bs k)) (.int .i64 (mCount bs k)) (.slice none 0 0) (.slice none 0 0) (.int .i64 0) (.string ByteArray.empty)) := Fr.comp hfr3 (put9_fr w3 w.heap.size (.int .i64 1) (.int .i64 0) (.int .i64 (mId bs k)) (.int .i64 (mRoot bs k)) (.int .i64 (mCount bs k)) (.slice none 0 0) (.slice none 0 0) (.int .i64 0) (.string ByteArray.empty)) (fun x hx e => by omega)
  clear HP2 hfr2 R2
  go_wp2
  show bodyPost _ _ _ _ _ (put9 w3 w.heap.size (.int .i64 1) (.int .i64 0) (.int .i64 (mId bs k)) (.int .i64 (mRoot bs k)) (.int .i64 (mCount bs k)) (.slice none 0 0) (.slice none 0 0) (.int .i64 0) (.string ByteArray.empty))
  clear c0 c1 c2 c3 c4 c5 c6 c7 c8
  obtain ⟨c5, c6, c0, c2, c3, c4, c7, c8, c1⟩ := box_slice HB9
  refine bodyPost_ret (v := .agg #[.int .i64 1, .int .i64 0, .int .i64 (mId bs k), .int .i64 (mRoot bs k), .int .i64 (mCount bs k), .slice none 0 0, .slice none 0 0, .int .i64 0, .string ByteArray.empty]) (by simp [results, Try.results59, go_sem, c0, c1, c2, c3, c4, c5, c6, c7, c8]) rfl ⟨_, rfl, ?_, hfr4⟩
  exact ⟨_, _, rfl, World.ownsRow_nil _ _ _ _, World.ownsRow_nil _ _ _ _, .inl rfl⟩
set_option maxHeartbeats 1600000 in
theorem readBody_branch (C g o c A B : Nat) (bs : List Int) (k : Nat) (n : Nat) (hn : n ≤ 255) (w : World) (h : RAt w C g o c A B bs k) :
    Calls Try.prog 59 #[.pointer (some ⟨C, 0, none⟩), .int .i64 2, .int .i64 n] w fun e w' => ∃ v, e = .returned v ∧ PgVal w' w.heap.size (readP bs k 2 n) v ∧ Fr (fun x => x = C) w w' := by
  have hCl := (Array.getElem?_eq_some_iff.1 h.cur.box).1
  have hmr := fun a w => meth_branch_read a w
  have har := fun a w => ahead_branch_read a w
  have hmp := fun a w => meth_branch_page a w
  have hap := fun a w => ahead_branch_page a w
  go_enter Try.func59, Try.ntmps59
  go_wp2_with fail
  have hb0 : Below w.heap.size w (w.alloc (.cells #[.int .i64 0, .int .i64 0, .int .i64 0, .int .i64 0, .int .i64 0, .slice none 0 0, .slice none 0 0, .int .i64 0, .string ⟨#[]⟩] 56)) := (Below.refl _ _).alloc (Nat.le_refl _) _
  have HP0 := heap_alloc_new w (.cells #[.int .i64 0, .int .i64 0, .int .i64 0, .int .i64 0, .int .i64 0, .slice none 0 0, .slice none 0 0, .int .i64 0, .string ⟨#[]⟩] 56)
  generalize w.alloc (.cells #[.int .i64 0, .int .i64 0, .int .i64 0, .int .i64 0, .int .i64 0, .slice none 0 0, .slice none 0 0, .int .i64 0, .string ⟨#[]⟩] 56) = W0 at hb0 HP0 ⊢
  have hN0 := (Array.getElem?_eq_some_iff.1 HP0).1
  refine (kindBody_branch 0 0 0 0 none 0 0 none 0 0 0 ⟨#[]⟩ W0).mono ?_
  rintro e w1 ⟨M, rfl, hMl, hM, hb1⟩
  have h1 := RAt.keepB (RAt.keepB h (Fr.of_below (S := fun _ => False) hb0) (fun h => h) (fun _ _ h => h)) (Fr.of_below (S := fun _ => False) hb1) (fun h => h) (fun _ _ h => h)
  have HP1 := (hb1.block w.heap.size hN0).trans HP0
  have hfr1 : Fr (fun x => x = C) w w1 := Fr.comp (Fr.of_below hb0) (Fr.of_below (S := fun _ => False) hb1) (fun _ _ h => h.elim)
  have hMC : M ≠ C := by omega
  have hBM : B ≤ M := by have := h.top; omega
  have hMP : w.heap.size ≠ M := by omega
  have hs1 := hfr1.size
  clear HP0 hb0 hb1
  go_wp2_with fail
  refine (branchRead_any C g o c A B bs k M n hn w1 h1 hMC hBM hM).mono ?_
  rintro e w2 ⟨rfl, v2, hO2, R2⟩
  obtain ⟨va, vc, rfl⟩ := own_shape hO2
  have hPC : w.heap.size ≠ C := by omega
  have HP2 := (R2.fr.block w.heap.size (Array.getElem?_eq_some_iff.1 HP1).1 (by omega)).trans HP1
  have hfr2 : Fr (fun x => x = C) w w2 := Fr.comp hfr1 R2.fr (fun x hx e => by omega)
  have hN1 := (Array.getElem?_eq_some_iff.1 HP1).1
  clear HP1 hfr1 h1 hM
  go_wp2_with fail
  refine (branchPage_any M va n vc w2 R2.box).mono ?_
  rintro e w3 ⟨rfl, hb3⟩
  have HP3 := (hb3.block w.heap.size (Array.getElem?_eq_some_iff.1 HP2).1).trans HP2
  have hfr3 : Fr (fun x => x = C) w w3 := Fr.comp hfr2 (Fr.of_below (S := fun _ => False) hb3) (fun _ _ h => h.elim)
  have f3 := box_frozen HP3
  obtain ⟨c5, c6, c0, c2, c3, c4, c7, c8, c1⟩ := box_slice HP3
  have hO3 := owns_below hO2 hb3
  have hO4 := owns_base (base' := w.heap.size) (owns_fr hO3 (put9_fr w3 w.heap.size (.int .i64 2) (.int .i64 0) (.int .i64 0) (.int .i64 0) (.int .i64 0) (.slice va n vc) (.slice none 0 0) (.int .i64 0) (.string ByteArray.empty)) (fun g' e e' => by have := (hO3.lt g' e).1; omega)) hs1
  have HB9 := put9_box HP3 (.int .i64 2) (.int .i64 0) (.int .i64 0) (.int .i64 0) (.int .i64 0) (.slice va n vc) (.slice none 0 0) (.int .i64 0) (.string ByteArray.empty)
  have hfr4 : Fr (fun x => x = C) w (put9 w3 w.heap.size (.int .i64 2) (.int .i64 0) (.int .i64 0) (.int .i64 0) (.int .i64 0) (.slice va n vc) (.slice none 0 0) (.int .i64 0) (.string ByteArray.empty)) := Fr.comp hfr3 (put9_fr w3 w.heap.size (.int .i64 2) (.int .i64 0) (.int .i64 0) (.int .i64 0) (.int .i64 0) (.slice va n vc) (.slice none 0 0) (.int .i64 0) (.string ByteArray.empty)) (fun x hx e => by omega)
  clear HP2 hfr2 R2
  go_wp2
  show bodyPost _ _ _ _ _ (put9 w3 w.heap.size (.int .i64 2) (.int .i64 0) (.int .i64 0) (.int .i64 0) (.int .i64 0) (.slice va n vc) (.slice none 0 0) (.int .i64 0) (.string ByteArray.empty))
  clear c0 c1 c2 c3 c4 c5 c6 c7 c8
  obtain ⟨c5, c6, c0, c2, c3, c4, c7, c8, c1⟩ := box_slice HB9
  refine bodyPost_ret (v := .agg #[.int .i64 2, .int .i64 0, .int .i64 0, .int .i64 0, .int .i64 0, .slice va n vc, .slice none 0 0, .int .i64 0, .string ByteArray.empty]) (by simp [results, Try.results59, go_sem, c0, c1, c2, c3, c4, c5, c6, c7, c8]) rfl ⟨_, rfl, ?_, hfr4⟩
  have hkl : (kidsR bs k n).1.length = n := kidsR_len bs k n
  exact ⟨_, _, rfl, (by show World.ownsRow _ _ _ _ _ (kidsR bs k n).1.length (rowsOf kidCells (kidsR bs k n).1); rw [hkl]; exact hO4), World.ownsRow_nil _ _ _ _, .inr rfl⟩
set_option maxHeartbeats 1600000 in
theorem readBody_leaf (C g o c A B : Nat) (bs : List Int) (k : Nat) (n : Nat) (hn : n ≤ 255) (w : World) (h : RAt w C g o c A B bs k) :
    Calls Try.prog 59 #[.pointer (some ⟨C, 0, none⟩), .int .i64 3, .int .i64 n] w fun e w' => ∃ v, e = .returned v ∧ PgVal w' w.heap.size (readP bs k 3 n) v ∧ Fr (fun x => x = C) w w' := by
  have hCl := (Array.getElem?_eq_some_iff.1 h.cur.box).1
  have hmr := fun a w => meth_leaf_read a w
  have har := fun a w => ahead_leaf_read a w
  have hmp := fun a w => meth_leaf_page a w
  have hap := fun a w => ahead_leaf_page a w
  go_enter Try.func59, Try.ntmps59
  go_wp2_with fail
  have hb0 : Below w.heap.size w (w.alloc (.cells #[.int .i64 0, .int .i64 0, .int .i64 0, .int .i64 0, .int .i64 0, .slice none 0 0, .slice none 0 0, .int .i64 0, .string ⟨#[]⟩] 56)) := (Below.refl _ _).alloc (Nat.le_refl _) _
  have HP0 := heap_alloc_new w (.cells #[.int .i64 0, .int .i64 0, .int .i64 0, .int .i64 0, .int .i64 0, .slice none 0 0, .slice none 0 0, .int .i64 0, .string ⟨#[]⟩] 56)
  generalize w.alloc (.cells #[.int .i64 0, .int .i64 0, .int .i64 0, .int .i64 0, .int .i64 0, .slice none 0 0, .slice none 0 0, .int .i64 0, .string ⟨#[]⟩] 56) = W0 at hb0 HP0 ⊢
  have hN0 := (Array.getElem?_eq_some_iff.1 HP0).1
  refine (kindBody_leaf 0 0 0 0 none 0 0 none 0 0 0 ⟨#[]⟩ W0).mono ?_
  rintro e w1 ⟨M, rfl, hMl, hM, hb1⟩
  have h1 := RAt.keepB (RAt.keepB h (Fr.of_below (S := fun _ => False) hb0) (fun h => h) (fun _ _ h => h)) (Fr.of_below (S := fun _ => False) hb1) (fun h => h) (fun _ _ h => h)
  have HP1 := (hb1.block w.heap.size hN0).trans HP0
  have hfr1 : Fr (fun x => x = C) w w1 := Fr.comp (Fr.of_below hb0) (Fr.of_below (S := fun _ => False) hb1) (fun _ _ h => h.elim)
  have hMC : M ≠ C := by omega
  have hBM : B ≤ M := by have := h.top; omega
  have hMP : w.heap.size ≠ M := by omega
  have hs1 := hfr1.size
  clear HP0 hb0 hb1
  go_wp2_with fail
  refine (leafRead_any C g o c A B bs k M n hn w1 h1 hMC hBM hM).mono ?_
  rintro e w2 ⟨rfl, v2, hO2, R2⟩
  obtain ⟨va, vc, rfl⟩ := own_shape hO2
  have hPC : w.heap.size ≠ C := by omega
  have HP2 := (R2.fr.block w.heap.size (Array.getElem?_eq_some_iff.1 HP1).1 (by omega)).trans HP1
  have hfr2 : Fr (fun x => x = C) w w2 := Fr.comp hfr1 R2.fr (fun x hx e => by omega)
  have hN1 := (Array.getElem?_eq_some_iff.1 HP1).1
  clear HP1 hfr1 h1 hM
  go_wp2_with fail
  refine (leafPage_any M va n vc w2 R2.box).mono ?_
  rintro e w3 ⟨rfl, hb3⟩
  have HP3 := (hb3.block w.heap.size (Array.getElem?_eq_some_iff.1 HP2).1).trans HP2
  have hfr3 : Fr (fun x => x = C) w w3 := Fr.comp hfr2 (Fr.of_below (S := fun _ => False) hb3) (fun _ _ h => h.elim)
  have f3 := box_frozen HP3
  obtain ⟨c5, c6, c0, c2, c3, c4, c7, c8, c1⟩ := box_slice HP3
  have hO3 := owns_below hO2 hb3
  have hO4 := owns_base (base' := w.heap.size) (owns_fr hO3 (put9_fr w3 w.heap.size (.int .i64 3) (.int .i64 0) (.int .i64 0) (.int .i64 0) (.int .i64 0) (.slice none 0 0) (.slice va n vc) (.int .i64 0) (.string ByteArray.empty)) (fun g' e e' => by have := (hO3.lt g' e).1; omega)) hs1
  have HB9 := put9_box HP3 (.int .i64 3) (.int .i64 0) (.int .i64 0) (.int .i64 0) (.int .i64 0) (.slice none 0 0) (.slice va n vc) (.int .i64 0) (.string ByteArray.empty)
  have hfr4 : Fr (fun x => x = C) w (put9 w3 w.heap.size (.int .i64 3) (.int .i64 0) (.int .i64 0) (.int .i64 0) (.int .i64 0) (.slice none 0 0) (.slice va n vc) (.int .i64 0) (.string ByteArray.empty)) := Fr.comp hfr3 (put9_fr w3 w.heap.size (.int .i64 3) (.int .i64 0) (.int .i64 0) (.int .i64 0) (.int .i64 0) (.slice none 0 0) (.slice va n vc) (.int .i64 0) (.string ByteArray.empty)) (fun x hx e => by omega)
  clear HP2 hfr2 R2
  go_wp2
  show bodyPost _ _ _ _ _ (put9 w3 w.heap.size (.int .i64 3) (.int .i64 0) (.int .i64 0) (.int .i64 0) (.int .i64 0) (.slice none 0 0) (.slice va n vc) (.int .i64 0) (.string ByteArray.empty))
  clear c0 c1 c2 c3 c4 c5 c6 c7 c8
  obtain ⟨c5, c6, c0, c2, c3, c4, c7, c8, c1⟩ := box_slice HB9
  refine bodyPost_ret (v := .agg #[.int .i64 3, .int .i64 0, .int .i64 0, .int .i64 0, .int .i64 0, .slice none 0 0, .slice va n vc, .int .i64 0, .string ByteArray.empty]) (by simp [results, Try.results59, go_sem, c0, c1, c2, c3, c4, c5, c6, c7, c8]) rfl ⟨_, rfl, ?_, hfr4⟩
  have hkl : (entsR bs k n).1.length = n := entsR_len bs k n
  exact ⟨_, _, rfl, World.ownsRow_nil _ _ _ _, (by show World.ownsRow _ _ _ _ _ (entsR bs k n).1.length (rowsOf entCells (entsR bs k n).1); rw [hkl]; exact hO4), .inl rfl⟩
set_option maxHeartbeats 1600000 in
theorem readBody_over (C g o c A B : Nat) (bs : List Int) (k : Nat) (n : Nat) (hn : n ≤ 255) (w : World) (h : RAt w C g o c A B bs k) :
    Calls Try.prog 59 #[.pointer (some ⟨C, 0, none⟩), .int .i64 4, .int .i64 n] w fun e w' => ∃ v, e = .returned v ∧ PgVal w' w.heap.size (readP bs k 4 n) v ∧ Fr (fun x => x = C) w w' := by
  have hCl := (Array.getElem?_eq_some_iff.1 h.cur.box).1
  have hmr := fun a w => meth_over_read a w
  have har := fun a w => ahead_over_read a w
  have hmp := fun a w => meth_over_page a w
  have hap := fun a w => ahead_over_page a w
  go_enter Try.func59, Try.ntmps59
  go_wp2_with fail
  have hb0 : Below w.heap.size w (w.alloc (.cells #[.int .i64 0, .int .i64 0, .int .i64 0, .int .i64 0, .int .i64 0, .slice none 0 0, .slice none 0 0, .int .i64 0, .string ⟨#[]⟩] 56)) := (Below.refl _ _).alloc (Nat.le_refl _) _
  have HP0 := heap_alloc_new w (.cells #[.int .i64 0, .int .i64 0, .int .i64 0, .int .i64 0, .int .i64 0, .slice none 0 0, .slice none 0 0, .int .i64 0, .string ⟨#[]⟩] 56)
  generalize w.alloc (.cells #[.int .i64 0, .int .i64 0, .int .i64 0, .int .i64 0, .int .i64 0, .slice none 0 0, .slice none 0 0, .int .i64 0, .string ⟨#[]⟩] 56) = W0 at hb0 HP0 ⊢
  have hN0 := (Array.getElem?_eq_some_iff.1 HP0).1
  refine (kindBody_over 0 0 0 0 none 0 0 none 0 0 0 ⟨#[]⟩ W0).mono ?_
  rintro e w1 ⟨M, rfl, hMl, hM, hb1⟩
  have h1 := RAt.keepB (RAt.keepB h (Fr.of_below (S := fun _ => False) hb0) (fun h => h) (fun _ _ h => h)) (Fr.of_below (S := fun _ => False) hb1) (fun h => h) (fun _ _ h => h)
  have HP1 := (hb1.block w.heap.size hN0).trans HP0
  have hfr1 : Fr (fun x => x = C) w w1 := Fr.comp (Fr.of_below hb0) (Fr.of_below (S := fun _ => False) hb1) (fun _ _ h => h.elim)
  have hMC : M ≠ C := by omega
  have hBM : B ≤ M := by have := h.top; omega
  have hMP : w.heap.size ≠ M := by omega
  have hs1 := hfr1.size
  clear HP0 hb0 hb1
  go_wp2_with fail
  refine (overRead_any C g o c A B bs k M n w1 h1 hMC hBM 0 ⟨#[]⟩ hM).mono ?_
  rintro e w2 ⟨rfl, R2⟩
  have hPC : w.heap.size ≠ C := by omega
  have HP2 := (R2.fr.block w.heap.size (Array.getElem?_eq_some_iff.1 HP1).1 (by omega)).trans HP1
  have hfr2 : Fr (fun x => x = C) w w2 := Fr.comp hfr1 R2.fr (fun x hx e => by omega)
  have hN1 := (Array.getElem?_eq_some_iff.1 HP1).1
  clear HP1 hfr1 h1 hM
  go_wp2_with fail
  refine (overPage_any M _ _ w2 R2.box).mono ?_
  rintro e w3 ⟨rfl, hb3⟩
  have HP3 := (hb3.block w.heap.size (Array.getElem?_eq_some_iff.1 HP2).1).trans HP2
  have hfr3 : Fr (fun x => x = C) w w3 := Fr.comp hfr2 (Fr.of_below (S := fun _ => False) hb3) (fun _ _ h => h.elim)
  have f3 := box_frozen HP3
  obtain ⟨c5, c6, c0, c2, c3, c4, c7, c8, c1⟩ := box_slice HP3
  
  have HB9 := put9_box HP3 (.int .i64 4) (.int .i64 0) (.int .i64 0) (.int .i64 0) (.int .i64 0) (.slice none 0 0) (.slice none 0 0) (.int .i64 (oNext bs k)) (.string (oData bs k))
  have hfr4 : Fr (fun x => x = C) w (put9 w3 w.heap.size (.int .i64 4) (.int .i64 0) (.int .i64 0) (.int .i64 0) (.int .i64 0) (.slice none 0 0) (.slice none 0 0) (.int .i64 (oNext bs k)) (.string (oData bs k))) := Fr.comp hfr3 (put9_fr w3 w.heap.size (.int .i64 4) (.int .i64 0) (.int .i64 0) (.int .i64 0) (.int .i64 0) (.slice none 0 0) (.slice none 0 0) (.int .i64 (oNext bs k)) (.string (oData bs k))) (fun x hx e => by omega)
  clear HP2 hfr2 R2
  go_wp2
  show bodyPost _ _ _ _ _ (put9 w3 w.heap.size (.int .i64 4) (.int .i64 0) (.int .i64 0) (.int .i64 0) (.int .i64 0) (.slice none 0 0) (.slice none 0 0) (.int .i64 (oNext bs k)) (.string (oData bs k)))
  clear c0 c1 c2 c3 c4 c5 c6 c7 c8
  obtain ⟨c5, c6, c0, c2, c3, c4, c7, c8, c1⟩ := box_slice HB9
  refine bodyPost_ret (v := .agg #[.int .i64 4, .int .i64 0, .int .i64 0, .int .i64 0, .int .i64 0, .slice none 0 0, .slice none 0 0, .int .i64 (oNext bs k), .string (oData bs k)]) (by simp [results, Try.results59, go_sem, c0, c1, c2, c3, c4, c5, c6, c7, c8]) rfl ⟨_, rfl, ?_, hfr4⟩
  exact ⟨_, _, rfl, World.ownsRow_nil _ _ _ _, World.ownsRow_nil _ _ _ _, .inl rfl⟩
set_option maxHeartbeats 1600000 in
theorem readBody_none (C g o c A B : Nat) (bs : List Int) (k : Nat) (kind : Int) (hk1 : kind ≠ 1) (hk2 : kind ≠ 2) (hk3 : kind ≠ 3) (hk4 : kind ≠ 4) (n : Nat) (w : World) (h : RAt w C g o c A B bs k) :
    Calls Try.prog 59 #[.pointer (some ⟨C, 0, none⟩), .int .i64 kind, .int .i64 n] w fun e w' => ∃ v, e = .returned v ∧ PgVal w' w.heap.size (readP bs k kind n) v ∧ Fr (fun x => x = C) w w' := by
  have hCl := (Array.getElem?_eq_some_iff.1 h.cur.box).1
  go_enter Try.func59, Try.ntmps59
  go_wp2_with fail
  have hb0 : Below w.heap.size w (w.alloc (.cells #[.int .i64 0, .int .i64 0, .int .i64 0, .int .i64 0, .int .i64 0, .slice none 0 0, .slice none 0 0, .int .i64 0, .string ⟨#[]⟩] 56)) := (Below.refl _ _).alloc (Nat.le_refl _) _
  have HP0 := heap_alloc_new w (.cells #[.int .i64 0, .int .i64 0, .int .i64 0, .int .i64 0, .int .i64 0, .slice none 0 0, .slice none 0 0, .int .i64 0, .string ⟨#[]⟩] 56)
  generalize w.alloc (.cells #[.int .i64 0, .int .i64 0, .int .i64 0, .int .i64 0, .int .i64 0, .slice none 0 0, .slice none 0 0, .int .i64 0, .string ⟨#[]⟩] 56) = W0 at hb0 HP0 ⊢
  have hN0 := (Array.getElem?_eq_some_iff.1 HP0).1
  refine (kindBody_nil kind 0 0 0 0 hk1 hk2 hk3 hk4 none 0 0 none 0 0 0 ⟨#[]⟩ W0).mono ?_
  rintro e w3 ⟨rfl, hb1⟩
  have HP3 := (hb1.block w.heap.size hN0).trans HP0
  have hfr3 : Fr (fun x => x = C) w w3 := Fr.comp (Fr.of_below hb0) (Fr.of_below (S := fun _ => False) hb1) (fun _ _ h => h.elim)
  have f3 := box_frozen HP3
  obtain ⟨c5, c6, c0, c2, c3, c4, c7, c8, c1⟩ := box_slice HP3
  have HB9 := put9_box HP3 (.int .i64 0) (.int .i64 0) (.int .i64 0) (.int .i64 0) (.int .i64 0) (.slice none 0 0) (.slice none 0 0) (.int .i64 0) (.string ⟨#[]⟩)
  have hfr4 : Fr (fun x => x = C) w (put9 w3 w.heap.size (.int .i64 0) (.int .i64 0) (.int .i64 0) (.int .i64 0) (.int .i64 0) (.slice none 0 0) (.slice none 0 0) (.int .i64 0) (.string ⟨#[]⟩)) := Fr.comp hfr3 (put9_fr w3 w.heap.size _ _ _ _ _ _ _ _ _) (fun x hx e => by omega)
  clear HP0 hb0 hb1 hfr3
  go_wp2
  show bodyPost _ _ _ _ _ (put9 w3 w.heap.size (.int .i64 0) (.int .i64 0) (.int .i64 0) (.int .i64 0) (.int .i64 0) (.slice none 0 0) (.slice none 0 0) (.int .i64 0) (.string ⟨#[]⟩))
  clear c0 c1 c2 c3 c4 c5 c6 c7 c8
  obtain ⟨c5, c6, c0, c2, c3, c4, c7, c8, c1⟩ := box_slice HB9
  refine bodyPost_ret (v := .agg #[.int .i64 0, .int .i64 0, .int .i64 0, .int .i64 0, .int .i64 0, .slice none 0 0, .slice none 0 0, .int .i64 0, .string ⟨#[]⟩]) (by simp [results, Try.results59, go_sem, c0, c1, c2, c3, c4, c5, c6, c7, c8]) rfl ⟨_, rfl, ?_, hfr4⟩
  rw [readP, if_neg hk1, if_neg hk2, if_neg hk3, if_neg hk4]
  exact ⟨_, _, rfl, World.ownsRow_nil _ _ _ _, World.ownsRow_nil _ _ _ _, .inl rfl⟩
theorem readBody_any (C g o c A B : Nat) (bs : List Int) (k : Nat) (kind : Int) (n : Nat) (hn : n ≤ 255) (w : World) (h : RAt w C g o c A B bs k) :
    Calls Try.prog 59 #[.pointer (some ⟨C, 0, none⟩), .int .i64 kind, .int .i64 n] w fun e w' => ∃ v, e = .returned v ∧ PgVal w' w.heap.size (readP bs k kind n) v ∧ Fr (fun x => x = C) w w' := by
  by_cases h1 : kind = 1
  · subst h1; exact readBody_meta C g o c A B bs k n hn w h
  by_cases h2 : kind = 2
  · subst h2; exact readBody_branch C g o c A B bs k n hn w h
  by_cases h3 : kind = 3
  · subst h3; exact readBody_leaf C g o c A B bs k n hn w h
  by_cases h4 : kind = 4
  · subst h4; exact readBody_over C g o c A B bs k n hn w h
  exact readBody_none C g o c A B bs k kind h1 h2 h3 h4 n w h
end New
end Go.Proofs.Ytdieplpegkiolaa
namespace Go.Proofs.Ytdieplpegkiolaa
namespace New
open Go.RowKit
set_option linter.unusedVariables false
set_option maxRecDepth 100000

set_option maxHeartbeats 3200000 in
theorem encNew_meta (tx id root count : Int) (hi : I64 id) (hr : I64 root) (hc : I64 count) (ka : Option Addr) (n kc : Nat) (ks : List PK) (ea : Option Addr) (m ec : Nat) (es : List PE) (next : Int) (data : ByteArray) (w : World) (A B : Nat) (hB : B ≤ w.heap.size) (hK : KidsAt w A B ka n kc ks) (hE : EntsAt w A B ea m ec es)
    (hcond : (decide (n = 0) && decide (m = 0) && decide (next = 0) && data.toList.isEmpty) = true) (htI : I64 tx) (htx : inB 1 2000000000 tx = true) (hval : (inB 1 2000000000 id && inB 2 999 root && inB 0 2000000000 count) = true) :
    Calls Try.prog 61 #[.agg #[.int .i64 1, .int .i64 tx, .int .i64 id, .int .i64 root, .int .i64 count, .slice ka n kc, .slice ea m ec, .int .i64 next, .string data]] w fun e w' => ∃ v, e = .returned v ∧ w'.ownsRow w.heap.size 5 1 v 128 (u8s (sealN tx (headN tx 1 0 (metaB false ⟨1, tx, id, root, count, ks, es, next, data⟩)))) ∧ Below w.heap.size w w' := by
  have hb0 : Below w.heap.size w (w.alloc (.cells #[.int .i64 1, .int .i64 tx, .int .i64 id, .int .i64 root, .int .i64 count, .slice ka n kc, .slice ea m ec, .int .i64 next, .string data] 56)) := (Below.refl _ _).alloc (Nat.le_refl _) _
  have HX0 : (w.alloc (.cells #[.int .i64 1, .int .i64 tx, .int .i64 id, .int .i64 root, .int .i64 count, .slice ka n kc, .slice ea m ec, .int .i64 next, .string data] 56)).heap[w.heap.size]? = _ := heap_alloc_new w _
  have hmv := fun a w => meth_meta_valid a w
  have hav := fun a w => ahead_meta_valid a w
  have hac := fun a w => ahead_meta_count a w
  have haw := fun a w => ahead_meta_write a w
  have hmc := fun a w => meth_meta_count a w
  have hmw := fun a w => meth_meta_write a w
  go_enter Try.func61, Try.ntmps61
  go_wp2_with fail
  generalize w.alloc (.cells #[.int .i64 1, .int .i64 tx, .int .i64 id, .int .i64 root, .int .i64 count, .slice ka n kc, .slice ea m ec, .int .i64 next, .string data] 56) = W0 at hb0 HX0 ⊢
  have HB := bodyOf_meta tx id root count ka n kc ks ea m ec es next data W0 A B (Nat.le_trans hB hb0.size) (hK.below (hb0.mono hB)) (hE.below (hb0.mono hB))
  rw [hcond] at HB
  refine HB.mono ?_
  rintro e w1 ⟨M, rfl, hMl, hM, hb1⟩
  have hb2 := hb0.trans (hb1.mono hb0.size)
  have HX1 := eb_call HX0 hb1
  have hMw : w.heap.size ≤ M := Nat.le_trans hb0.size hMl
  obtain ⟨c5, c6, c0, c2, c3, c4, c7, c8, c1⟩ := box_slice HX1
  clear HB hb1 hb0 HX0 hMl
  simp only [cond_true]
  go_wp2_with fail
  go_region_held3 (fun w' => w'.cell? ⟨w.heap.size, 1, none⟩ = some (.int .i64 tx)) (go_keep)
    (first
      | (go_at_call 87; have HV := metaValid_any M id root count 2 999 w2 hM2; rw [hval] at HV; refine HV.mono ?_; rintro e w3 ⟨rfl, hb5⟩; have hb6 := hb4.trans (hb5.mono hb4.size); have HX3 := eb_call HX2 hb5; have hM3 := eb_call hM2 hb5; obtain ⟨_, _, _, _, _, _, _, _, d1⟩ := box_slice HX3)
      | (go_at_call 37; refine (newPages_any w1.drew).mono ?_; rintro e w2 ⟨rfl, hb3⟩; have hb4 := hb2.drew.trans (hb3.mono hb2.size); have HX2 := eb_call (w' := w1.drew) HX1 hb3; have hM2 := eb_call (w' := w1.drew) hM hb3; obtain ⟨_, _, _, _, _, _, _, _, d1⟩ := box_slice HX2)
      | (go_at_call 36; have HI := isStamp_any tx w1.drew; rw [htx] at HI; refine HI.mono ?_; rintro e w1' ⟨rfl, rfl⟩))
  all_goals
    clear hb2 hb3 hb4 hb5 HX1 HX2 hM hM2 hmv hav c5 c6 c0 c2 c3 c4 c7 c8 c1
    obtain ⟨i0, hi0, hz0, hz1, hz2⟩ := info_parts info_u8
    have hs3 := hb6.size
    go_wp2_with (at_make; refine wpList_make_full _ rfl _ _ 22 rfl w.heap.size 5 i0 (.int .u8 0) 1 Try.underlying22 hi0 hz0 hz1 .i64 .i64 128 128 128 rfl rfl rfl rfl (by rw [hz2]; omega) (by unfold maxLen; omega) hs3 ?_; intro w4 hown hgr)
    rw [made128] at hown
    have hN3 : w.heap.size < w3.heap.size := (Array.getElem?_eq_some_iff.1 HX3).1
    have hb7 := hb6.grown hgr hs3 (by simp)
    have HX4 := (hgr.block _ hN3 (by simp)).trans HX3
    have hM3l := (Array.getElem?_eq_some_iff.1 hM3).1
    have hM4 := (hgr.block M hM3l (by simp)).trans hM3
    have hGl := (hown.lt w3.heap.size rfl).2
    have hMG : M ≠ w3.heap.size := by omega
    generalize w3.heap.size = G at hown hMG hN3 hs3 hGl ⊢
    clear hb6 HX3 hM3 hgr hz0 hz1 hz2 hi0 d1
    refine (newCursor_any G (List.replicate 128 0) (by simp) w4 (owns_base hown (Nat.zero_le _))).mono ?_
    rintro e w5 ⟨rfl, hC5, hb8⟩
    have hb9 := hb7.trans (hb8.mono hb7.size)
    have HX5 := eb_call HX4 hb8
    have hM5 := eb_call hM4 hb8
    have hM4l := (Array.getElem?_eq_some_iff.1 hM4).1
    have hMC : M ≠ w4.heap.size := by omega
    have hs4 := hb7.size
    have hNG : w.heap.size ≠ G := by omega
    have hNC : w.heap.size ≠ w4.heap.size := by have := (Array.getElem?_eq_some_iff.1 HX4).1; omega
    have hCG : G < w4.heap.size := hGl
    clear hb7 hb8 HX4 hM4
    generalize w4.heap.size = C at hC5 hMC hs4 hNC hCG ⊢
    obtain ⟨_, _, _, _, _, _, _, _, c1⟩ := box_slice HX5
    obtain ⟨_, _, _, e3, _⟩ := hC5.cells
    go_wp2_with fail
    go_region_held3 (fun w' => w'.cell? ⟨C, 3, none⟩ = some (.func (.func 53) #[.pointer (some ⟨C, 0, none⟩)] #[]) ∧ w'.cell? ⟨w.heap.size, 1, none⟩ = some (.int .i64 tx)) (go_keep)
      (first | (go_at_call 53; refine (Put C G 0 _ tx 4 w5.drew htI (by omega) hC5.drew (by omega)).mono ?_; rintro e w6 ⟨rfl, hV1⟩; have HX6 := wrote_box (w := w5.drew) hV1 HX5 hNC hNG; have hM6 := wrote_box (w := w5.drew) hV1 hM5 hMC hMG; obtain ⟨_, _, _, _, _, _, _, _, k1⟩ := box_slice HX6; obtain ⟨_, _, _, q3, _⟩ := hV1.1.cells))
    rw [show numB false 4 tx = leB 4 tx from rfl] at hV1
    have hW1 := Wrote.start hV1
    clear hV1 HX5 hM5 c1 e3
    have hlt : (leB 4 tx).length = 4 := leB_len 4 tx
    have hbt : ∀ y ∈ leB 4 tx, 0 ≤ y ∧ y ≤ 255 := leB_byte 4 tx
    have HLT : Hid (headN tx 1 0 (metaB false ⟨1, tx, id, root, count, ks, es, next, data⟩) = leB 4 tx ++ [1] ++ [0] ++ [0, 0] ++ metaB false ⟨1, tx, id, root, count, ks, es, next, data⟩) := rfl
    have HSL : Hid (∀ l : List Int, sealN tx l = padB 120 l ++ (leB 4 (crcOf (padB 120 l)) ++ leB 4 tx)) := fun l => by simp [sealN]
    generalize hT : leB 4 tx = T at hW1 hlt hbt HLT HSL
    have HT : Hid (leB 4 tx = T) := hT
    clear hT
    obtain ⟨_, _, c0, _⟩ := box_slice HX6
    obtain ⟨_, _, _, e3, _⟩ := hW1.1.cells
    go_wp2_with fail
    go_region_held3 (fun w' => w'.cell? ⟨C, 3, none⟩ = some (.func (.func 53) #[.pointer (some ⟨C, 0, none⟩)] #[]) ∧ w'.cell? ⟨w.heap.size, 0, none⟩ = some (.int .i64 1)) (go_keep)
      (first | (go_at_call 53; refine (Put C G (0 + T.length) _ 1 1 w6.drew (by unfold I64; omega) (by omega) hW1.1.drew (by simp [hlt])).mono ?_; rintro e w7 ⟨rfl, hV2⟩; have HX7 := wrote_box (w := w6.drew) hV2 HX6 hNC hNG; have hM7 := wrote_box (w := w6.drew) hV2 hM6 hMC hMG; obtain ⟨_, _, k0, _⟩ := box_slice HX7; obtain ⟨_, _, _, q3, _⟩ := hV2.1.cells))
    rw [numB_one _ _ (by omega)] at hV2
    have hW2 := Wrote.next hW1 (by simp) (by simp [hlt]) hV2
    obtain ⟨_, _, _, e3, _⟩ := hW2.1.cells
    clear hW1 hV2 HX6 hM6 c0
    go_wp2_with fail
    go_region_held3 (fun w' => w'.cell? ⟨C, 3, none⟩ = some (.func (.func 53) #[.pointer (some ⟨C, 0, none⟩)] #[])) (go_keep)
      (first
        | (go_at_call 84; refine (metaCount_any M w7.drew).mono ?_; rintro e w8 ⟨rfl, rfl⟩)
        | (go_at_call 53; refine (Put C G (0 + (T ++ [1]).length) _ 0 1 w7.drew (by unfold I64; omega) (by omega) hW2.1.drew (by simp [hlt])).mono ?_; rintro e w8 ⟨rfl, hV3⟩; have HX8 := wrote_box (w := w7.drew) hV3 HX7 hNC hNG; have hM8 := wrote_box (w := w7.drew) hV3 hM7 hMC hMG; obtain ⟨_, _, _, q3, _⟩ := hV3.1.cells))
    all_goals
      rw [numB_one _ _ (by omega)] at hV3
      have hW3 := Wrote.next hW2 (by simp) (by simp [hlt]) hV3
      obtain ⟨_, _, _, e3, _⟩ := hW3.1.cells
      clear hW2 hV3 HX7 hM7
      go_wp2_with fail
      refine (Put C G (0 + (T ++ [1] ++ [0]).length) _ 0 2 w8 (by unfold I64; omega) (by omega) hW3.1 (by simp [hlt])).mono ?_
      rintro e w8b ⟨rfl, hV3b⟩
      have HX8b := wrote_box hV3b HX8 hNC hNG
      have hM8b := wrote_box hV3b hM8 hMC hMG
      rw [num2_zero] at hV3b
      have hW3b := hW3.trans (by simp [hlt]) hV3b
      clear hW3 hV3b HX8 hM8 e3
      go_wp2_with fail
      refine (metaWrite_any C G (0 + (T ++ [1] ++ [0] ++ [0, 0]).length) M _ ⟨1, tx, id, root, count, ks, es, next, data⟩ hi hr hc w8b hW3b.1 (by simp [hlt]) hM8b hMC hMG).mono ?_
      rintro e w9 ⟨rfl, hV4⟩
      have HX9 := wrote_box hV4 HX8b hNC hNG
      have hW4 := hW3b.trans (by simp [hlt]) hV4
      have hlb : (metaB false ⟨1, tx, id, root, count, ks, es, next, data⟩).length ≤ 104 := by simp [metaB, leB_len]
      have hbb : ∀ x ∈ metaB false ⟨1, tx, id, root, count, ks, es, next, data⟩, 0 ≤ x ∧ x ≤ 255 := bytes_app (bytes_app (bytes_app (leB_byte _ _) (leB_byte _ _)) (leB_byte _ _)) (by intro x hx; simp at hx; omega)
      have hall : ∀ x ∈ T ++ [1] ++ [0] ++ [0, 0] ++ metaB false ⟨1, tx, id, root, count, ks, es, next, data⟩, 0 ≤ x ∧ x ≤ 255 := bytes_app (bytes_app (bytes_app (bytes_app hbt (by intro x hx; simp at hx; omega)) (by intro x hx; simp at hx; omega)) (by intro x hx; simp at hx; omega)) hbb
      have hll : (T ++ [1] ++ [0] ++ [0, 0] ++ metaB false ⟨1, tx, id, root, count, ks, es, next, data⟩).length ≤ 112 := by simp only [List.length_append, List.length_cons, List.length_nil, hlt]; omega
      have HW4 : Hid (Wrote w5 w9 C G false 53 54 0 (List.replicate 128 0) (T ++ [1] ++ [0] ++ [0, 0] ++ metaB false ⟨1, tx, id, root, count, ks, es, next, data⟩)) := hW4
      clear hW3b hW4 hV4 HX8b
      generalize T ++ [1] ++ [0] ++ [0, 0] ++ metaB false ⟨1, tx, id, root, count, ks, es, next, data⟩ = l0 at HW4 hall hll HLT
      obtain ⟨e0, e1, e2, e3, e4⟩ := HW4.out.1.cells
      have hfC : ∀ o, w9.frozen? ⟨C, o, none⟩ = false := by intro o; simp [World.frozen?, HW4.out.1.box]
      have hcur := HW4.out.1
      rw [lay_zero (by omega)] at hcur
      have hcur2 := hcur.move 120
      have HXC : (w9.setCell ⟨C, 1, none⟩ (.int .i64 120)).heap[w.heap.size]? = w9.heap[w.heap.size]? := Below.heap_setCell w9 ⟨C, 1, none⟩ _ w.heap.size hNC
      rw [HX9] at HXC
      have hbel9 : Below w.heap.size w (w9.setCell ⟨C, 1, none⟩ (.int .i64 120)) := (hb9.trans (HW4.out.2.below hb9.size (fun g e => by rcases e with e | e <;> omega))).setCell (by show w.heap.size ≤ C; omega) _
      clear hcur
      go_wp2_with fail
      generalize w9.setCell ⟨C, 1, none⟩ (.int .i64 120) = W9 at hcur2 hbel9 HXC ⊢
      obtain ⟨z0, z1, z2, z3, z4⟩ := hcur2.cells
      have hby := bytes120 hcur2.drew (padB_byte (n := 128) hall)
      rw [pad_take (by omega)] at hby
      have hcr := crcOf_range (padB 120 l0)
      have HQ : Hid (sealN tx l0 = padB 120 l0 ++ (leB 4 (crcOf (padB 120 l0)) ++ T)) := HSL.out l0
      generalize hcq : crcOf (padB 120 l0) = q at hcr HQ
      have hcw : IntKind.i64.wrap q = q := by rw [IntKind.wrap_i64]; omega
      have hci : I64 q := by unfold I64; omega
      clear e0 e1 e2 e3 e4 hfC HX9 HSL
      go_region_held3 (fun w' => w'.cell? ⟨C, 3, none⟩ = some (.func (.func 53) #[.pointer (some ⟨C, 0, none⟩)] #[]) ∧ w'.cell? ⟨C, 0, none⟩ = some (.slice (some ⟨G, 0, none⟩) 128 128)) (go_keep)
        (first
          | (go_at_call 42; have HQC := implCrc0 _ 120 128 (padB 120 l0) W9.drew _ _ hby; rw [hcq] at HQC; refine HQC.mono ?_; rintro e w10 ⟨rfl, rfl⟩)
          | (go_at_call 53; refine (Put C G 120 _ q 4 W9.drew hci (by omega) hcur2.drew (by omega)).mono ?_; rintro e w10 ⟨rfl, hV5⟩; obtain ⟨q0, _, _, q3, _⟩ := hV5.1.cells))
      all_goals
        have hW5 := Wrote.redraw hV5
        have HX10 := wrote_box hW5 HXC hNC hNG
        obtain ⟨_, _, _, _, _, _, _, _, c1⟩ := box_slice HX10
        obtain ⟨_, _, _, e3, _⟩ := hW5.1.cells
        clear hV5 hby HXC z0 z1 z2 z3 z4 hcur2
        rw [show numB false 4 q = leB 4 q from rfl] at hW5
        have hlq : (leB 4 q).length = 4 := leB_len 4 q
        have hlp : (padB 128 l0).length = 128 := padB_len (by omega)
        go_wp2_with fail
        go_region_held3 (fun w' => w'.cell? ⟨C, 3, none⟩ = some (.func (.func 53) #[.pointer (some ⟨C, 0, none⟩)] #[]) ∧ w'.cell? ⟨w.heap.size, 1, none⟩ = some (.int .i64 tx)) (go_keep)
          (first | (go_at_call 53; refine (Put C G (120 + (leB 4 q).length) _ tx 4 w10.drew htI (by omega) hW5.1.drew (by omega)).mono ?_; rintro e w11 ⟨rfl, hV6⟩; have HX11 := wrote_box (w := w10.drew) hV6 HX10 hNC hNG; obtain ⟨_, _, _, _, _, _, _, _, k1⟩ := box_slice HX11; obtain ⟨q0, _, _, q3, _⟩ := hV6.1.cells))
        have hW6 := Wrote.next hW5 hlp (by omega) hV6
        have hfin := hW6.1.row
        rw [pad_lay (by omega) (by rw [List.length_append, hlq, numB_len])] at hfin
        have R : Hid (w11.ownsRow w.heap.size 5 1 (.slice (some ⟨G, 0, none⟩) 128 128) 128 (u8s (padB 120 l0 ++ (leB 4 q ++ numB false 4 tx)))) := owns_raise hfin hs3
        have RB : Hid (Below w.heap.size w w11) := hbel9.trans (hW6.2.below hbel9.size (fun g e => by rcases e with e | e <;> omega))
        obtain ⟨e0, _⟩ := hW6.1.cells
        clear hW6 hV6 hW5 hfin hbel9 HX10 HX11
        go_wp2
        go_ret
        refine ⟨_, rfl, ?_, RB.out⟩
        rw [HLT.out, HQ.out, ← HT.out]
        exact R.out
end New
end Go.Proofs.Ytdieplpegkiolaa
namespace Go.Proofs.Ytdieplpegkiolaa
namespace New
open Go.RowKit
set_option linter.unusedVariables false
set_option maxRecDepth 100000

set_option maxHeartbeats 3200000 in
theorem encNew_branch (tx id root count : Int) (ka : Option Addr) (n kc : Nat) (ks : List PK) (ea : Option Addr) (m ec : Nat) (es : List PE) (next : Int) (data : ByteArray) (w : World) (A B : Nat) (hB : B ≤ w.heap.size) (hK : KidsAt w A B ka n kc ks) (hE : EntsAt w A B ea m ec es)
    (hn4 : n ≤ 4) (hsz : ∀ i, i < n → 0 < i → (ks.getD i dK).1.size ≤ 8) (hcond : (decide (id = 0 ∧ root = 0 ∧ count = 0) && decide (m = 0) && decide (next = 0) && data.toList.isEmpty) = true) (htI : I64 tx) (htx : inB 1 2000000000 tx = true) (hval : (decide (2 ≤ n) && decide (n ≤ 4) && (ks.getD 0 dK).1.toList.isEmpty && kidsOk 2 999 ks) = true) :
    Calls Try.prog 61 #[.agg #[.int .i64 2, .int .i64 tx, .int .i64 id, .int .i64 root, .int .i64 count, .slice ka n kc, .slice ea m ec, .int .i64 next, .string data]] w fun e w' => ∃ v, e = .returned v ∧ w'.ownsRow w.heap.size 5 1 v 128 (u8s (sealN tx (headN tx 2 (n : Int) (kidsB false (smallN false) ks n)))) ∧ Below w.heap.size w w' := by
  have hb0 : Below w.heap.size w (w.alloc (.cells #[.int .i64 2, .int .i64 tx, .int .i64 id, .int .i64 root, .int .i64 count, .slice ka n kc, .slice ea m ec, .int .i64 next, .string data] 56)) := (Below.refl _ _).alloc (Nat.le_refl _) _
  have HX0 : (w.alloc (.cells #[.int .i64 2, .int .i64 tx, .int .i64 id, .int .i64 root, .int .i64 count, .slice ka n kc, .slice ea m ec, .int .i64 next, .string data] 56)).heap[w.heap.size]? = _ := heap_alloc_new w _
  have hmv := fun a w => meth_branch_valid a w
  have hav := fun a w => ahead_branch_valid a w
  have hac := fun a w => ahead_branch_count a w
  have haw := fun a w => ahead_branch_write a w
  have hmc := fun a w => meth_branch_count a w
  have hmw := fun a w => meth_branch_write a w
  go_enter Try.func61, Try.ntmps61
  go_wp2_with fail
  generalize w.alloc (.cells #[.int .i64 2, .int .i64 tx, .int .i64 id, .int .i64 root, .int .i64 count, .slice ka n kc, .slice ea m ec, .int .i64 next, .string data] 56) = W0 at hb0 HX0 ⊢
  have HB := bodyOf_branch tx id root count ka n kc ks ea m ec es next data W0 A B (Nat.le_trans hB hb0.size) (hK.below (hb0.mono hB)) (hE.below (hb0.mono hB))
  rw [hcond] at HB
  refine HB.mono ?_
  rintro e w1 ⟨M, rfl, hMl, hM, hb1⟩
  have hb2 := hb0.trans (hb1.mono hb0.size)
  have HX1 := eb_call HX0 hb1
  have hMw : w.heap.size ≤ M := Nat.le_trans hb0.size hMl
  obtain ⟨c5, c6, c0, c2, c3, c4, c7, c8, c1⟩ := box_slice HX1
  clear HB hb1 hb0 HX0 hMl
  simp only [cond_true]
  go_wp2_with fail
  go_region_held3 (fun w' => w'.cell? ⟨w.heap.size, 1, none⟩ = some (.int .i64 tx)) (go_keep)
    (first
      | (go_at_call 96; have HV := branchValid_any M ka n kc ks 2 999 w2 A B (Nat.le_trans hB hb4.size) (hK.below (hb4.mono hB)) hM2; rw [hval] at HV; refine HV.mono ?_; rintro e w3 ⟨rfl, hb5⟩; have hb6 := hb4.trans (hb5.mono hb4.size); have HX3 := eb_call HX2 hb5; have hM3 := eb_call hM2 hb5; obtain ⟨_, _, _, _, _, _, _, _, d1⟩ := box_slice HX3)
      | (go_at_call 37; refine (newPages_any w1.drew).mono ?_; rintro e w2 ⟨rfl, hb3⟩; have hb4 := hb2.drew.trans (hb3.mono hb2.size); have HX2 := eb_call (w' := w1.drew) HX1 hb3; have hM2 := eb_call (w' := w1.drew) hM hb3; obtain ⟨_, _, _, _, _, _, _, _, d1⟩ := box_slice HX2)
      | (go_at_call 36; have HI := isStamp_any tx w1.drew; rw [htx] at HI; refine HI.mono ?_; rintro e w1' ⟨rfl, rfl⟩))
  all_goals
    clear hb2 hb3 hb4 hb5 HX1 HX2 hM hM2 hmv hav c5 c6 c0 c2 c3 c4 c7 c8 c1
    obtain ⟨i0, hi0, hz0, hz1, hz2⟩ := info_parts info_u8
    have hs3 := hb6.size
    go_wp2_with (at_make; refine wpList_make_full _ rfl _ _ 22 rfl w.heap.size 5 i0 (.int .u8 0) 1 Try.underlying22 hi0 hz0 hz1 .i64 .i64 128 128 128 rfl rfl rfl rfl (by rw [hz2]; omega) (by unfold maxLen; omega) hs3 ?_; intro w4 hown hgr)
    rw [made128] at hown
    have hN3 : w.heap.size < w3.heap.size := (Array.getElem?_eq_some_iff.1 HX3).1
    have hb7 := hb6.grown hgr hs3 (by simp)
    have HX4 := (hgr.block _ hN3 (by simp)).trans HX3
    have hM3l := (Array.getElem?_eq_some_iff.1 hM3).1
    have hM4 := (hgr.block M hM3l (by simp)).trans hM3
    have hGl := (hown.lt w3.heap.size rfl).2
    have hMG : M ≠ w3.heap.size := by omega
    generalize w3.heap.size = G at hown hMG hN3 hs3 hGl ⊢
    clear hb6 HX3 hM3 hgr hz0 hz1 hz2 hi0 d1
    refine (newCursor_any G (List.replicate 128 0) (by simp) w4 (owns_base hown (Nat.zero_le _))).mono ?_
    rintro e w5 ⟨rfl, hC5, hb8⟩
    have hb9 := hb7.trans (hb8.mono hb7.size)
    have HX5 := eb_call HX4 hb8
    have hM5 := eb_call hM4 hb8
    have hM4l := (Array.getElem?_eq_some_iff.1 hM4).1
    have hMC : M ≠ w4.heap.size := by omega
    have hs4 := hb7.size
    have hNG : w.heap.size ≠ G := by omega
    have hNC : w.heap.size ≠ w4.heap.size := by have := (Array.getElem?_eq_some_iff.1 HX4).1; omega
    have hCG : G < w4.heap.size := hGl
    clear hb7 hb8 HX4 hM4
    generalize w4.heap.size = C at hC5 hMC hs4 hNC hCG ⊢
    obtain ⟨_, _, _, _, _, _, _, _, c1⟩ := box_slice HX5
    obtain ⟨_, _, _, e3, _⟩ := hC5.cells
    go_wp2_with fail
    go_region_held3 (fun w' => w'.cell? ⟨C, 3, none⟩ = some (.func (.func 53) #[.pointer (some ⟨C, 0, none⟩)] #[]) ∧ w'.cell? ⟨w.heap.size, 1, none⟩ = some (.int .i64 tx)) (go_keep)
      (first | (go_at_call 53; refine (Put C G 0 _ tx 4 w5.drew htI (by omega) hC5.drew (by omega)).mono ?_; rintro e w6 ⟨rfl, hV1⟩; have HX6 := wrote_box (w := w5.drew) hV1 HX5 hNC hNG; have hM6 := wrote_box (w := w5.drew) hV1 hM5 hMC hMG; obtain ⟨_, _, _, _, _, _, _, _, k1⟩ := box_slice HX6; obtain ⟨_, _, _, q3, _⟩ := hV1.1.cells))
    rw [show numB false 4 tx = leB 4 tx from rfl] at hV1
    have hW1 := Wrote.start hV1
    clear hV1 HX5 hM5 c1 e3
    have hlt : (leB 4 tx).length = 4 := leB_len 4 tx
    have hbt : ∀ y ∈ leB 4 tx, 0 ≤ y ∧ y ≤ 255 := leB_byte 4 tx
    have HLT : Hid (headN tx 2 (n : Int) (kidsB false (smallN false) ks n) = leB 4 tx ++ [2] ++ [(n : Int)] ++ [0, 0] ++ kidsB false (smallN false) ks n) := rfl
    have HSL : Hid (∀ l : List Int, sealN tx l = padB 120 l ++ (leB 4 (crcOf (padB 120 l)) ++ leB 4 tx)) := fun l => by simp [sealN]
    generalize hT : leB 4 tx = T at hW1 hlt hbt HLT HSL
    have HT : Hid (leB 4 tx = T) := hT
    clear hT
    obtain ⟨_, _, c0, _⟩ := box_slice HX6
    obtain ⟨_, _, _, e3, _⟩ := hW1.1.cells
    go_wp2_with fail
    go_region_held3 (fun w' => w'.cell? ⟨C, 3, none⟩ = some (.func (.func 53) #[.pointer (some ⟨C, 0, none⟩)] #[]) ∧ w'.cell? ⟨w.heap.size, 0, none⟩ = some (.int .i64 2)) (go_keep)
      (first | (go_at_call 53; refine (Put C G (0 + T.length) _ 2 1 w6.drew (by unfold I64; omega) (by omega) hW1.1.drew (by simp [hlt])).mono ?_; rintro e w7 ⟨rfl, hV2⟩; have HX7 := wrote_box (w := w6.drew) hV2 HX6 hNC hNG; have hM7 := wrote_box (w := w6.drew) hV2 hM6 hMC hMG; obtain ⟨_, _, k0, _⟩ := box_slice HX7; obtain ⟨_, _, _, q3, _⟩ := hV2.1.cells))
    rw [numB_one _ _ (by omega)] at hV2
    have hW2 := Wrote.next hW1 (by simp) (by simp [hlt]) hV2
    obtain ⟨_, _, _, e3, _⟩ := hW2.1.cells
    clear hW1 hV2 HX6 hM6 c0
    go_wp2_with fail
    go_region_held3 (fun w' => w'.cell? ⟨C, 3, none⟩ = some (.func (.func 53) #[.pointer (some ⟨C, 0, none⟩)] #[])) (go_keep)
      (first
        | (go_at_call 93; refine (branchCount_any M ka n kc w7.drew hM7).mono ?_; rintro e w8 ⟨rfl, rfl⟩)
        | (go_at_call 53; refine (Put C G (0 + (T ++ [2]).length) _ (n : Int) 1 w7.drew (by unfold I64; omega) (by omega) hW2.1.drew (by simp [hlt])).mono ?_; rintro e w8 ⟨rfl, hV3⟩; have HX8 := wrote_box (w := w7.drew) hV3 HX7 hNC hNG; have hM8 := wrote_box (w := w7.drew) hV3 hM7 hMC hMG; obtain ⟨_, _, _, q3, _⟩ := hV3.1.cells))
    all_goals
      rw [numB_one _ _ (by omega)] at hV3
      have hW3 := Wrote.next hW2 (by simp) (by simp [hlt]) hV3
      obtain ⟨_, _, _, e3, _⟩ := hW3.1.cells
      clear hW2 hV3 HX7 hM7
      go_wp2_with fail
      refine (Put C G (0 + (T ++ [2] ++ [(n : Int)]).length) _ 0 2 w8 (by unfold I64; omega) (by omega) hW3.1 (by simp [hlt])).mono ?_
      rintro e w8b ⟨rfl, hV3b⟩
      have HX8b := wrote_box hV3b HX8 hNC hNG
      have hM8b := wrote_box hV3b hM8 hMC hMG
      rw [num2_zero] at hV3b
      have hW3b := hW3.trans (by simp [hlt]) hV3b
      clear hW3 hV3b HX8 hM8 e3
      go_wp2_with fail
      have hb10 : Below w.heap.size w w8b := hb9.trans (hW3b.2.below hb9.size (fun g e => by rcases e with e | e <;> omega))
      refine (branchWrite_any C G (0 + (T ++ [2] ++ [(n : Int)] ++ [0, 0]).length) M _ ka n kc ks w8b A B hW3b.1 (by simp [hlt]) hM8b hMC hMG (hK.below (hb10.mono hB)) (Nat.le_trans hB hb10.size) (by omega) (by omega) hn4 hsz).mono ?_
      rintro e w9 ⟨rfl, hV4⟩
      have HX9 := wrote_box hV4 HX8b hNC hNG
      have hW4 := hW3b.trans (by simp [hlt]) hV4
      have hlb : (kidsB false (smallN false) ks n).length ≤ 104 := by have := kidsB_len' false ks n hsz; omega
      have hbb : ∀ x ∈ kidsB false (smallN false) ks n, 0 ≤ x ∧ x ≤ 255 := kidsB_byte false (smallN false) ks n hsz
      have hall : ∀ x ∈ T ++ [2] ++ [(n : Int)] ++ [0, 0] ++ kidsB false (smallN false) ks n, 0 ≤ x ∧ x ≤ 255 := bytes_app (bytes_app (bytes_app (bytes_app hbt (by intro x hx; simp at hx; omega)) (by intro x hx; simp at hx; omega)) (by intro x hx; simp at hx; omega)) hbb
      have hll : (T ++ [2] ++ [(n : Int)] ++ [0, 0] ++ kidsB false (smallN false) ks n).length ≤ 112 := by simp only [List.length_append, List.length_cons, List.length_nil, hlt]; omega
      have HW4 : Hid (Wrote w5 w9 C G false 53 54 0 (List.replicate 128 0) (T ++ [2] ++ [(n : Int)] ++ [0, 0] ++ kidsB false (smallN false) ks n)) := hW4
      clear hW3b hW4 hV4 HX8b
      generalize T ++ [2] ++ [(n : Int)] ++ [0, 0] ++ kidsB false (smallN false) ks n = l0 at HW4 hall hll HLT
      obtain ⟨e0, e1, e2, e3, e4⟩ := HW4.out.1.cells
      have hfC : ∀ o, w9.frozen? ⟨C, o, none⟩ = false := by intro o; simp [World.frozen?, HW4.out.1.box]
      have hcur := HW4.out.1
      rw [lay_zero (by omega)] at hcur
      have hcur2 := hcur.move 120
      have HXC : (w9.setCell ⟨C, 1, none⟩ (.int .i64 120)).heap[w.heap.size]? = w9.heap[w.heap.size]? := Below.heap_setCell w9 ⟨C, 1, none⟩ _ w.heap.size hNC
      rw [HX9] at HXC
      have hbel9 : Below w.heap.size w (w9.setCell ⟨C, 1, none⟩ (.int .i64 120)) := (hb9.trans (HW4.out.2.below hb9.size (fun g e => by rcases e with e | e <;> omega))).setCell (by show w.heap.size ≤ C; omega) _
      clear hcur
      go_wp2_with fail
      generalize w9.setCell ⟨C, 1, none⟩ (.int .i64 120) = W9 at hcur2 hbel9 HXC ⊢
      obtain ⟨z0, z1, z2, z3, z4⟩ := hcur2.cells
      have hby := bytes120 hcur2.drew (padB_byte (n := 128) hall)
      rw [pad_take (by omega)] at hby
      have hcr := crcOf_range (padB 120 l0)
      have HQ : Hid (sealN tx l0 = padB 120 l0 ++ (leB 4 (crcOf (padB 120 l0)) ++ T)) := HSL.out l0
      generalize hcq : crcOf (padB 120 l0) = q at hcr HQ
      have hcw : IntKind.i64.wrap q = q := by rw [IntKind.wrap_i64]; omega
      have hci : I64 q := by unfold I64; omega
      clear e0 e1 e2 e3 e4 hfC HX9 HSL
      go_region_held3 (fun w' => w'.cell? ⟨C, 3, none⟩ = some (.func (.func 53) #[.pointer (some ⟨C, 0, none⟩)] #[]) ∧ w'.cell? ⟨C, 0, none⟩ = some (.slice (some ⟨G, 0, none⟩) 128 128)) (go_keep)
        (first
          | (go_at_call 42; have HQC := implCrc0 _ 120 128 (padB 120 l0) W9.drew _ _ hby; rw [hcq] at HQC; refine HQC.mono ?_; rintro e w10 ⟨rfl, rfl⟩)
          | (go_at_call 53; refine (Put C G 120 _ q 4 W9.drew hci (by omega) hcur2.drew (by omega)).mono ?_; rintro e w10 ⟨rfl, hV5⟩; obtain ⟨q0, _, _, q3, _⟩ := hV5.1.cells))
      all_goals
        have hW5 := Wrote.redraw hV5
        have HX10 := wrote_box hW5 HXC hNC hNG
        obtain ⟨_, _, _, _, _, _, _, _, c1⟩ := box_slice HX10
        obtain ⟨_, _, _, e3, _⟩ := hW5.1.cells
        clear hV5 hby HXC z0 z1 z2 z3 z4 hcur2
        rw [show numB false 4 q = leB 4 q from rfl] at hW5
        have hlq : (leB 4 q).length = 4 := leB_len 4 q
        have hlp : (padB 128 l0).length = 128 := padB_len (by omega)
        go_wp2_with fail
        go_region_held3 (fun w' => w'.cell? ⟨C, 3, none⟩ = some (.func (.func 53) #[.pointer (some ⟨C, 0, none⟩)] #[]) ∧ w'.cell? ⟨w.heap.size, 1, none⟩ = some (.int .i64 tx)) (go_keep)
          (first | (go_at_call 53; refine (Put C G (120 + (leB 4 q).length) _ tx 4 w10.drew htI (by omega) hW5.1.drew (by omega)).mono ?_; rintro e w11 ⟨rfl, hV6⟩; have HX11 := wrote_box (w := w10.drew) hV6 HX10 hNC hNG; obtain ⟨_, _, _, _, _, _, _, _, k1⟩ := box_slice HX11; obtain ⟨q0, _, _, q3, _⟩ := hV6.1.cells))
        have hW6 := Wrote.next hW5 hlp (by omega) hV6
        have hfin := hW6.1.row
        rw [pad_lay (by omega) (by rw [List.length_append, hlq, numB_len])] at hfin
        have R : Hid (w11.ownsRow w.heap.size 5 1 (.slice (some ⟨G, 0, none⟩) 128 128) 128 (u8s (padB 120 l0 ++ (leB 4 q ++ numB false 4 tx)))) := owns_raise hfin hs3
        have RB : Hid (Below w.heap.size w w11) := hbel9.trans (hW6.2.below hbel9.size (fun g e => by rcases e with e | e <;> omega))
        obtain ⟨e0, _⟩ := hW6.1.cells
        clear hW6 hV6 hW5 hfin hbel9 HX10 HX11
        go_wp2
        go_ret
        refine ⟨_, rfl, ?_, RB.out⟩
        rw [HLT.out, HQ.out, ← HT.out]
        exact R.out
end New
end Go.Proofs.Ytdieplpegkiolaa
