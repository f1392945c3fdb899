import Derived.Test.YtcmhobbpeaeebaaGAD
import Derived.Test.YtcmhobbpeaeebaaGAK
import Derived.Test.YtcmhobbpeaeebaaGAX
import Derived.Test.YtcmhobbpeaeebaaGBC
import Derived.Test.YtcmhobbpeaeebaaReO
namespace Go.Proofs.Ytcmhobbpeaeebaa
namespace Old
open Go.RowKit
set_option linter.unusedVariables false
set_option maxRecDepth 100000

def mRoot (bs : List Int) (k : Nat) : Int := rN bs (k) (smallN true)
def mCount (bs : List Int) (k : Nat) : Int := rN bs (adv (k) (smallN true)) 4
def mId (bs : List Int) (k : Nat) : Int := rN bs (adv (adv (k) (smallN true)) 4) 4
def mEnd (bs : List Int) (k : Nat) : Nat := adv (adv (adv (k) (smallN true)) 4) 4
set_option maxHeartbeats 800000 in
theorem metaRead_any (C g o c A B : Nat) (bs : List Int) (k M : Nat) (count : Int) (w : World) (h : RAt w C g o c A B bs k) (hMC : M ≠ C) (hBM : B ≤ M) (a0 a1 a2 : Int) (hM : w.heap[M]? = some (.cells #[.int .i64 a0, .int .i64 a1, .int .i64 a2] 136)) :
    Calls Try.prog 120 #[.pointer (some ⟨M, 0, none⟩), .pointer (some ⟨C, 0, none⟩), .int .i64 count] w fun e w' => e = .returned (.tuple #[]) ∧ Rd w w' C g o c A B bs (mEnd bs k) M (.cells #[.int .i64 (mId bs k), .int .i64 (mRoot bs k), .int .i64 (mCount bs k)] 136) := by
  have R0 := Rd.start h hM
  obtain ⟨c0, c1, c2, c3, c4⟩ := h.cur.cells
  obtain ⟨x0, x1, x2⟩ := box_form hM
  go_enter Try.func120, Try.ntmps120
  go_wp2_with fail
  refine (getSmall_any C g o c A B bs (k) w R0.at').mono ?_
  rintro e w1 ⟨rfl, hM1⟩
  have Q1 := R0.mv hMC hM1 (adv_le _ _)
  obtain ⟨y0, y1, y2⟩ := box_form (w := w1) (N := M) (by simpa using Q1.box)
  have f1 := box_frozen Q1.box
  have R1 := Q1.put hMC hBM 1 (.int .i64 (rN bs (k) (smallN true)))
  obtain ⟨d0, d1, d2, d3, d4⟩ := Q1.at'.cur.cells
  clear R0 hM1 Q1 c0 c1 c2 c3 c4 x0 x1 x2 h
  go_wp2_with fail
  clear y0 y1 y2 f1 d0 d1 d2 d3 d4
  generalize w1.setCell ⟨M, 1, none⟩ (.int .i64 (rN bs (k) (smallN true))) = w2 at R1 ⊢
  refine (Get C g o c A B bs (adv (k) (smallN true)) 4 (by omega) w2 R1.at').mono ?_
  rintro e w3 ⟨rfl, hM2⟩
  have Q2 := R1.mv hMC hM2 (adv_le _ _)
  obtain ⟨y0, y1, y2⟩ := box_form (w := w3) (N := M) (by simpa using Q2.box)
  have f2 := box_frozen Q2.box
  have R2 := Q2.put hMC hBM 2 (.int .i64 (rN bs (adv (k) (smallN true)) 4))
  obtain ⟨d0, d1, d2, d3, d4⟩ := Q2.at'.cur.cells
  clear R1 hM2 Q2
  go_wp2_with fail
  clear y0 y1 y2 f2 d0 d1 d2 d3 d4
  generalize w3.setCell ⟨M, 2, none⟩ (.int .i64 (rN bs (adv (k) (smallN true)) 4)) = w4 at R2 ⊢
  refine (Get C g o c A B bs (adv (adv (k) (smallN true)) 4) 4 (by omega) w4 R2.at').mono ?_
  rintro e w5 ⟨rfl, hM3⟩
  have Q3 := R2.mv hMC hM3 (adv_le _ _)
  obtain ⟨y0, y1, y2⟩ := box_form (w := w5) (N := M) (by simpa using Q3.box)
  have f3 := box_frozen Q3.box
  have R3 := Q3.put hMC hBM 0 (.int .i64 (rN bs (adv (adv (k) (smallN true)) 4) 4))
  obtain ⟨d0, d1, d2, d3, d4⟩ := Q3.at'.cur.cells
  clear R2 hM3 Q3
  go_wp2
  refine bodyPost_ret (v := .tuple #[]) (by simp [results, Try.results120, go_sem]) rfl ?_
  exact ⟨rfl, by simpa [mId, mRoot, mCount, mEnd] using R3⟩
end Old
end Go.Proofs.Ytcmhobbpeaeebaa
namespace Go.Proofs.Ytcmhobbpeaeebaa
namespace Old
open Go.RowKit
set_option linter.unusedVariables false
set_option maxRecDepth 100000

theorem meth_meta_read (a : Addr) (w : World) : (method 264 134 (.pointer (some a)) "loop.example/s02098/impl.read").run Try.prog w = .ok (120, .pointer (some a)) w := by kernel_rfl
theorem ahead_meta_read (a : Addr) (w : World) : (nilAhead 264 134 (.pointer (some a)) "loop.example/s02098/impl.read").run Try.prog w = .ok (some false) w := by kernel_rfl
theorem ahead_meta_page (a : Addr) (w : World) : (nilAhead 264 134 (.pointer (some a)) "loop.example/s02098/impl.page").run Try.prog w = .ok (some false) w := by kernel_rfl
theorem meth_branch_read (a : Addr) (w : World) : (method 264 137 (.pointer (some a)) "loop.example/s02098/impl.read").run Try.prog w = .ok (128, .pointer (some a)) w := by kernel_rfl
theorem ahead_branch_read (a : Addr) (w : World) : (nilAhead 264 137 (.pointer (some a)) "loop.example/s02098/impl.read").run Try.prog w = .ok (some false) w := by kernel_rfl
theorem ahead_branch_page (a : Addr) (w : World) : (nilAhead 264 137 (.pointer (some a)) "loop.example/s02098/impl.page").run Try.prog w = .ok (some false) w := by kernel_rfl
theorem meth_leaf_read (a : Addr) (w : World) : (method 264 140 (.pointer (some a)) "loop.example/s02098/impl.read").run Try.prog w = .ok (136, .pointer (some a)) w := by kernel_rfl
theorem ahead_leaf_read (a : Addr) (w : World) : (nilAhead 264 140 (.pointer (some a)) "loop.example/s02098/impl.read").run Try.prog w = .ok (some false) w := by kernel_rfl
theorem ahead_leaf_page (a : Addr) (w : World) : (nilAhead 264 140 (.pointer (some a)) "loop.example/s02098/impl.page").run Try.prog w = .ok (some false) w := by kernel_rfl
theorem meth_over_read (a : Addr) (w : World) : (method 264 143 (.pointer (some a)) "loop.example/s02098/impl.read").run Try.prog w = .ok (143, .pointer (some a)) w := by kernel_rfl
theorem ahead_over_read (a : Addr) (w : World) : (nilAhead 264 143 (.pointer (some a)) "loop.example/s02098/impl.read").run Try.prog w = .ok (some false) w := by kernel_rfl
theorem ahead_over_page (a : Addr) (w : World) : (nilAhead 264 143 (.pointer (some a)) "loop.example/s02098/impl.page").run Try.prog w = .ok (some false) w := by kernel_rfl

/-- The page that is read at k (stamp 0). -/
def readP (bs : List Int) (k : Nat) (kind : Int) (n : Nat) : Pg :=
  if kind = 1 then ⟨1, 0, mId bs k, mRoot bs k, mCount bs k, [], [], 0, ⟨#[]⟩⟩
  else if kind = 2 then ⟨2, 0, 0, 0, 0, (kidsR bs k n).1, [], 0, ⟨#[]⟩⟩
  else if kind = 3 then ⟨3, 0, 0, 0, 0, [], (entsR bs k n).1, 0, ⟨#[]⟩⟩
  else if kind = 4 then ⟨4, 0, 0, 0, 0, [], [], oNext bs k, oData bs k⟩
  else ⟨0, 0, 0, 0, 0, [], [], 0, ⟨#[]⟩⟩
/-- A page as a value, its lists in memory of their own above S; one of them is nil. -/
def PgVal (w : World) (S : Nat) (p : Pg) (v : Value) : Prop :=
  ∃ vk ve, v = .agg #[.int .i64 p.kind, .int .i64 p.tx, .int .i64 p.id, .int .i64 p.root, .int .i64 p.count, vk, ve, .int .i64 p.next, .string p.data] ∧ w.ownsRow S 100 2 vk p.ks.length (rowsOf kidCells p.ks) ∧ w.ownsRow S 102 4 ve p.es.length (rowsOf entCells p.es) ∧ (vk = .slice none 0 0 ∨ ve = .slice none 0 0)
theorem Fr.up {S T : Nat → Prop} {a b : World} (h : Fr S a b) (hst : ∀ x, x < a.heap.size → S x → T x) : Fr T a b := ⟨h.1, h.2, h.3, h.4, fun k hk hT => h.block k hk (fun hs => hT (hst k hk hs))⟩
def put9 (w : World) (N : Nat) (u0 u1 u2 u3 u4 u5 u6 u7 u8 : Value) : World :=
  ((((((((w.setCell ⟨N, 0, none⟩ u0).setCell ⟨N, 1, none⟩ u1).setCell ⟨N, 2, none⟩ u2).setCell ⟨N, 3, none⟩ u3).setCell ⟨N, 4, none⟩ u4).setCell ⟨N, 5, none⟩ u5).setCell ⟨N, 6, none⟩ u6).setCell ⟨N, 7, none⟩ u7).setCell ⟨N, 8, none⟩ u8
theorem put9_box {w : World} {N t : Nat} {v0 v1 v2 v3 v4 v5 v6 v7 v8 : Value} (h : w.heap[N]? = some (.cells #[v0, v1, v2, v3, v4, v5, v6, v7, v8] t)) (u0 u1 u2 u3 u4 u5 u6 u7 u8 : Value) : (put9 w N u0 u1 u2 u3 u4 u5 u6 u7 u8).heap[N]? = some (.cells #[u0, u1, u2, u3, u4, u5, u6, u7, u8] t) := by
  simp [put9, World.setCell, Array.getElem?_modify, h]
theorem set_fr (w : World) (N i : Nat) (u : Value) : Fr (fun x => x = N) w (w.setCell ⟨N, i, none⟩ u) := ⟨rfl, rfl, rfl, by simp [World.setCell], fun k _ hk => Below.heap_setCell w ⟨N, i, none⟩ u k hk⟩
theorem put9_fr (w : World) (N : Nat) (u0 u1 u2 u3 u4 u5 u6 u7 u8 : Value) : Fr (fun x => x = N) w (put9 w N u0 u1 u2 u3 u4 u5 u6 u7 u8) :=
  ((((((((set_fr _ _ _ _).trans (set_fr _ _ _ _)).trans (set_fr _ _ _ _)).trans (set_fr _ _ _ _)).trans (set_fr _ _ _ _)).trans (set_fr _ _ _ _)).trans (set_fr _ _ _ _)).trans (set_fr _ _ _ _)).trans (set_fr _ _ _ _)
theorem kidsR_len (bs : List Int) (k : Nat) : ∀ n, (kidsR bs k n).1.length = n
  | 0 => rfl
  | n + 1 => by rw [kidsR]; simp [kidsR_len bs k n]
theorem entsR_len (bs : List Int) (k : Nat) : ∀ n, (entsR bs k n).1.length = n
  | 0 => rfl
  | n + 1 => by rw [entsR]; simp [entsR_len bs k n]
set_option maxHeartbeats 1600000 in
theorem readBody_meta (C g o c A B : Nat) (bs : List Int) (k : Nat) (n : Nat) (hn : n ≤ 255) (w : World) (h : RAt w C g o c A B bs k) :
    Calls Try.prog 47 #[.pointer (some ⟨C, 0, none⟩), .int .i64 1, .int .i64 n] w fun e w' => ∃ v, e = .returned v ∧ PgVal w' w.heap.size (readP bs k 1 n) v ∧ Fr (fun x => x = C) w w' := by
  have hCl := (Array.getElem?_eq_some_iff.1 h.cur.box).1
  have hmr := fun a w => meth_meta_read a w
  have har := fun a w => ahead_meta_read a w
  have hmp := fun a w => meth_meta_page a w
  have hap := fun a w => ahead_meta_page a w
  go_enter Try.func47, Try.ntmps47
  go_wp2_with fail
  have hb0 : Below w.heap.size w (w.alloc (.cells #[.int .i64 0, .int .i64 0, .int .i64 0, .int .i64 0, .int .i64 0, .slice none 0 0, .slice none 0 0, .int .i64 0, .string ⟨#[]⟩] 28)) := (Below.refl _ _).alloc (Nat.le_refl _) _
  have HP0 := heap_alloc_new w (.cells #[.int .i64 0, .int .i64 0, .int .i64 0, .int .i64 0, .int .i64 0, .slice none 0 0, .slice none 0 0, .int .i64 0, .string ⟨#[]⟩] 28)
  generalize w.alloc (.cells #[.int .i64 0, .int .i64 0, .int .i64 0, .int .i64 0, .int .i64 0, .slice none 0 0, .slice none 0 0, .int .i64 0, .string ⟨#[]⟩] 28) = W0 at hb0 HP0 ⊢
  have hN0 := (Array.getElem?_eq_some_iff.1 HP0).1
  refine (kindBody_meta 0 0 0 0 none 0 0 none 0 0 0 ⟨#[]⟩ W0).mono ?_
  rintro e w1 ⟨M, rfl, hMl, hM, hb1⟩
  have h1 := RAt.keepB (RAt.keepB h (Fr.of_below (S := fun _ => False) hb0) (fun h => h) (fun _ _ h => h)) (Fr.of_below (S := fun _ => False) hb1) (fun h => h) (fun _ _ h => h)
  have HP1 := (hb1.block w.heap.size hN0).trans HP0
  have hfr1 : Fr (fun x => x = C) w w1 := Fr.comp (Fr.of_below hb0) (Fr.of_below (S := fun _ => False) hb1) (fun _ _ h => h.elim)
  have hMC : M ≠ C := by omega
  have hBM : B ≤ M := by have := h.top; omega
  have hMP : w.heap.size ≠ M := by omega
  have hs1 := hfr1.size
  clear HP0 hb0 hb1
  go_wp2_with fail
  refine (metaRead_any C g o c A B bs k M n w1 h1 hMC hBM 0 0 0 hM).mono ?_
  rintro e w2 ⟨rfl, R2⟩
  have hPC : w.heap.size ≠ C := by omega
  have HP2 := (R2.fr.block w.heap.size (Array.getElem?_eq_some_iff.1 HP1).1 (by omega)).trans HP1
  have hfr2 : Fr (fun x => x = C) w w2 := Fr.comp hfr1 R2.fr (fun x hx e => by omega)
  have hN1 := (Array.getElem?_eq_some_iff.1 HP1).1
  clear HP1 hfr1 h1 hM
  go_wp2_with fail
  refine (metaPage_any M _ _ _ w2 R2.box).mono ?_
  rintro e w3 ⟨rfl, hb3⟩
  have HP3 := (hb3.block w.heap.size (Array.getElem?_eq_some_iff.1 HP2).1).trans HP2
  have hfr3 : Fr (fun x => x = C) w w3 := Fr.comp hfr2 (Fr.of_below (S := fun _ => False) hb3) (fun _ _ h => h.elim)
  have f3 := box_frozen HP3
  obtain ⟨c5, c6, c0, c2, c3, c4, c7, c8, c1⟩ := box_slice HP3
  
  have HB9 := put9_box HP3 (.int .i64 1) (.int .i64 0) (.int .i64 (mId bs k)) (.int .i64 (mRoot bs k)) (.int .i64 (mCount bs k)) (.slice none 0 0) (.slice none 0 0) (.int .i64 0) (.string ByteArray.empty)
  have hfr4 : Fr (fun x => x = C) w (put9 w3 w.heap.size (.int .i64 1) (.int .i64 0) (.int .i64 (mId bs k)) (.int .i64 (mRoot bs k)) (.int .i64 (mCount bs k)) (.slice none 0 0) (.slice none 0 0) (.int .i64 0) (.string ByteArray.empty)) := Fr.comp hfr3 (put9_fr w3 w.heap.size (.int .i64 1) (.int .i64 0) (.int .i64 (mId bs k)) (.int .i64 (mRoot bs k)) (.int .i64 (mCount bs k)) (.slice none 0 0) (.slice none 0 0) (.int .i64 0) (.string ByteArray.empty)) (fun x hx e => by omega)
  clear HP2 hfr2 R2
  go_wp2
  show bodyPost _ _ _ _ _ (put9 w3 w.heap.size (.int .i64 1) (.int .i64 0) (.int .i64 (mId bs k)) (.int .i64 (mRoot bs k)) (.int .i64 (mCount bs k)) (.slice none 0 0) (.slice none 0 0) (.int .i64 0) (.string ByteArray.empty))
  clear c0 c1 c2 c3 c4 c5 c6 c7 c8
  obtain ⟨c5, c6, c0, c2, c3, c4, c7, c8, c1⟩ := box_slice HB9
  refine bodyPost_ret (v := .agg #[.int .i64 1, .int .i64 0, .int .i64 (mId bs k), .int .i64 (mRoot bs k), .int .i64 (mCount bs k), .slice none 0 0, .slice none 0 0, .int .i64 0, .string ByteArray.empty]) (by simp [results, Try.results47, go_sem, c0, c1, c2, c3, c4, c5, c6, c7, c8]) rfl ⟨_, rfl, ?_, hfr4⟩
  exact ⟨_, _, rfl, World.ownsRow_nil _ _ _ _, World.ownsRow_nil _ _ _ _, .inl rfl⟩
set_option maxHeartbeats 1600000 in
theorem readBody_branch (C g o c A B : Nat) (bs : List Int) (k : Nat) (n : Nat) (hn : n ≤ 255) (w : World) (h : RAt w C g o c A B bs k) :
    Calls Try.prog 47 #[.pointer (some ⟨C, 0, none⟩), .int .i64 2, .int .i64 n] w fun e w' => ∃ v, e = .returned v ∧ PgVal w' w.heap.size (readP bs k 2 n) v ∧ Fr (fun x => x = C) w w' := by
  have hCl := (Array.getElem?_eq_some_iff.1 h.cur.box).1
  have hmr := fun a w => meth_branch_read a w
  have har := fun a w => ahead_branch_read a w
  have hmp := fun a w => meth_branch_page a w
  have hap := fun a w => ahead_branch_page a w
  go_enter Try.func47, Try.ntmps47
  go_wp2_with fail
  have hb0 : Below w.heap.size w (w.alloc (.cells #[.int .i64 0, .int .i64 0, .int .i64 0, .int .i64 0, .int .i64 0, .slice none 0 0, .slice none 0 0, .int .i64 0, .string ⟨#[]⟩] 28)) := (Below.refl _ _).alloc (Nat.le_refl _) _
  have HP0 := heap_alloc_new w (.cells #[.int .i64 0, .int .i64 0, .int .i64 0, .int .i64 0, .int .i64 0, .slice none 0 0, .slice none 0 0, .int .i64 0, .string ⟨#[]⟩] 28)
  generalize w.alloc (.cells #[.int .i64 0, .int .i64 0, .int .i64 0, .int .i64 0, .int .i64 0, .slice none 0 0, .slice none 0 0, .int .i64 0, .string ⟨#[]⟩] 28) = W0 at hb0 HP0 ⊢
  have hN0 := (Array.getElem?_eq_some_iff.1 HP0).1
  refine (kindBody_branch 0 0 0 0 none 0 0 none 0 0 0 ⟨#[]⟩ W0).mono ?_
  rintro e w1 ⟨M, rfl, hMl, hM, hb1⟩
  have h1 := RAt.keepB (RAt.keepB h (Fr.of_below (S := fun _ => False) hb0) (fun h => h) (fun _ _ h => h)) (Fr.of_below (S := fun _ => False) hb1) (fun h => h) (fun _ _ h => h)
  have HP1 := (hb1.block w.heap.size hN0).trans HP0
  have hfr1 : Fr (fun x => x = C) w w1 := Fr.comp (Fr.of_below hb0) (Fr.of_below (S := fun _ => False) hb1) (fun _ _ h => h.elim)
  have hMC : M ≠ C := by omega
  have hBM : B ≤ M := by have := h.top; omega
  have hMP : w.heap.size ≠ M := by omega
  have hs1 := hfr1.size
  clear HP0 hb0 hb1
  go_wp2_with fail
  refine (branchRead_any C g o c A B bs k M n hn w1 h1 hMC hBM hM).mono ?_
  rintro e w2 ⟨rfl, v2, hO2, R2⟩
  obtain ⟨va, vc, rfl⟩ := own_shape hO2
  have hPC : w.heap.size ≠ C := by omega
  have HP2 := (R2.fr.block w.heap.size (Array.getElem?_eq_some_iff.1 HP1).1 (by omega)).trans HP1
  have hfr2 : Fr (fun x => x = C) w w2 := Fr.comp hfr1 R2.fr (fun x hx e => by omega)
  have hN1 := (Array.getElem?_eq_some_iff.1 HP1).1
  clear HP1 hfr1 h1 hM
  go_wp2_with fail
  refine (branchPage_any M va n vc w2 R2.box).mono ?_
  rintro e w3 ⟨rfl, hb3⟩
  have HP3 := (hb3.block w.heap.size (Array.getElem?_eq_some_iff.1 HP2).1).trans HP2
  have hfr3 : Fr (fun x => x = C) w w3 := Fr.comp hfr2 (Fr.of_below (S := fun _ => False) hb3) (fun _ _ h => h.elim)
  have f3 := box_frozen HP3
  obtain ⟨c5, c6, c0, c2, c3, c4, c7, c8, c1⟩ := box_slice HP3
  have hO3 := owns_below hO2 hb3
  have hO4 := owns_base (base' := w.heap.size) (owns_fr hO3 (put9_fr w3 w.heap.size (.int .i64 2) (.int .i64 0) (.int .i64 0) (.int .i64 0) (.int .i64 0) (.slice va n vc) (.slice none 0 0) (.int .i64 0) (.string ByteArray.empty)) (fun g' e e' => by have := (hO3.lt g' e).1; omega)) hs1
  have HB9 := put9_box HP3 (.int .i64 2) (.int .i64 0) (.int .i64 0) (.int .i64 0) (.int .i64 0) (.slice va n vc) (.slice none 0 0) (.int .i64 0) (.string ByteArray.empty)
  have hfr4 : Fr (fun x => x = C) w (put9 w3 w.heap.size (.int .i64 2) (.int .i64 0) (.int .i64 0) (.int .i64 0) (.int .i64 0) (.slice va n vc) (.slice none 0 0) (.int .i64 0) (.string ByteArray.empty)) := Fr.comp hfr3 (put9_fr w3 w.heap.size (.int .i64 2) (.int .i64 0) (.int .i64 0) (.int .i64 0) (.int .i64 0) (.slice va n vc) (.slice none 0 0) (.int .i64 0) (.string ByteArray.empty)) (fun x hx e => by omega)
  clear HP2 hfr2 R2
  go_wp2
  show bodyPost _ _ _ _ _ (put9 w3 w.heap.size (.int .i64 2) (.int .i64 0) (.int .i64 0) (.int .i64 0) (.int .i64 0) (.slice va n vc) (.slice none 0 0) (.int .i64 0) (.string ByteArray.empty))
  clear c0 c1 c2 c3 c4 c5 c6 c7 c8
  obtain ⟨c5, c6, c0, c2, c3, c4, c7, c8, c1⟩ := box_slice HB9
  refine bodyPost_ret (v := .agg #[.int .i64 2, .int .i64 0, .int .i64 0, .int .i64 0, .int .i64 0, .slice va n vc, .slice none 0 0, .int .i64 0, .string ByteArray.empty]) (by simp [results, Try.results47, go_sem, c0, c1, c2, c3, c4, c5, c6, c7, c8]) rfl ⟨_, rfl, ?_, hfr4⟩
  have hkl : (kidsR bs k n).1.length = n := kidsR_len bs k n
  exact ⟨_, _, rfl, (by show World.ownsRow _ _ _ _ _ (kidsR bs k n).1.length (rowsOf kidCells (kidsR bs k n).1); rw [hkl]; exact hO4), World.ownsRow_nil _ _ _ _, .inr rfl⟩
set_option maxHeartbeats 1600000 in
theorem readBody_leaf (C g o c A B : Nat) (bs : List Int) (k : Nat) (n : Nat) (hn : n ≤ 255) (w : World) (h : RAt w C g o c A B bs k) :
    Calls Try.prog 47 #[.pointer (some ⟨C, 0, none⟩), .int .i64 3, .int .i64 n] w fun e w' => ∃ v, e = .returned v ∧ PgVal w' w.heap.size (readP bs k 3 n) v ∧ Fr (fun x => x = C) w w' := by
  have hCl := (Array.getElem?_eq_some_iff.1 h.cur.box).1
  have hmr := fun a w => meth_leaf_read a w
  have har := fun a w => ahead_leaf_read a w
  have hmp := fun a w => meth_leaf_page a w
  have hap := fun a w => ahead_leaf_page a w
  go_enter Try.func47, Try.ntmps47
  go_wp2_with fail
  have hb0 : Below w.heap.size w (w.alloc (.cells #[.int .i64 0, .int .i64 0, .int .i64 0, .int .i64 0, .int .i64 0, .slice none 0 0, .slice none 0 0, .int .i64 0, .string ⟨#[]⟩] 28)) := (Below.refl _ _).alloc (Nat.le_refl _) _
  have HP0 := heap_alloc_new w (.cells #[.int .i64 0, .int .i64 0, .int .i64 0, .int .i64 0, .int .i64 0, .slice none 0 0, .slice none 0 0, .int .i64 0, .string ⟨#[]⟩] 28)
  generalize w.alloc (.cells #[.int .i64 0, .int .i64 0, .int .i64 0, .int .i64 0, .int .i64 0, .slice none 0 0, .slice none 0 0, .int .i64 0, .string ⟨#[]⟩] 28) = W0 at hb0 HP0 ⊢
  have hN0 := (Array.getElem?_eq_some_iff.1 HP0).1
  refine (kindBody_leaf 0 0 0 0 none 0 0 none 0 0 0 ⟨#[]⟩ W0).mono ?_
  rintro e w1 ⟨M, rfl, hMl, hM, hb1⟩
  have h1 := RAt.keepB (RAt.keepB h (Fr.of_below (S := fun _ => False) hb0) (fun h => h) (fun _ _ h => h)) (Fr.of_below (S := fun _ => False) hb1) (fun h => h) (fun _ _ h => h)
  have HP1 := (hb1.block w.heap.size hN0).trans HP0
  have hfr1 : Fr (fun x => x = C) w w1 := Fr.comp (Fr.of_below hb0) (Fr.of_below (S := fun _ => False) hb1) (fun _ _ h => h.elim)
  have hMC : M ≠ C := by omega
  have hBM : B ≤ M := by have := h.top; omega
  have hMP : w.heap.size ≠ M := by omega
  have hs1 := hfr1.size
  clear HP0 hb0 hb1
  go_wp2_with fail
  refine (leafRead_any C g o c A B bs k M n hn w1 h1 hMC hBM hM).mono ?_
  rintro e w2 ⟨rfl, v2, hO2, R2⟩
  obtain ⟨va, vc, rfl⟩ := own_shape hO2
  have hPC : w.heap.size ≠ C := by omega
  have HP2 := (R2.fr.block w.heap.size (Array.getElem?_eq_some_iff.1 HP1).1 (by omega)).trans HP1
  have hfr2 : Fr (fun x => x = C) w w2 := Fr.comp hfr1 R2.fr (fun x hx e => by omega)
  have hN1 := (Array.getElem?_eq_some_iff.1 HP1).1
  clear HP1 hfr1 h1 hM
  go_wp2_with fail
  refine (leafPage_any M va n vc w2 R2.box).mono ?_
  rintro e w3 ⟨rfl, hb3⟩
  have HP3 := (hb3.block w.heap.size (Array.getElem?_eq_some_iff.1 HP2).1).trans HP2
  have hfr3 : Fr (fun x => x = C) w w3 := Fr.comp hfr2 (Fr.of_below (S := fun _ => False) hb3) (fun _ _ h => h.elim)
  have f3 := box_frozen HP3
  obtain ⟨c5, c6, c0, c2, c3, c4, c7, c8, c1⟩ := box_slice HP3
  have hO3 := owns_below hO2 hb3
  have hO4 := owns_base (base' := w.heap.size) (owns_fr hO3 (put9_fr w3 w.heap.size (.int .i64 3) (.int .i64 0) (.int .i64 0) (.int .i64 0) (.int .i64 0) (.slice none 0 0) (.slice va n vc) (.int .i64 0) (.string ByteArray.empty)) (fun g' e e' => by have := (hO3.lt g' e).1; omega)) hs1
  have HB9 := put9_box HP3 (.int .i64 3) (.int .i64 0) (.int .i64 0) (.int .i64 0) (.int .i64 0) (.slice none 0 0) (.slice va n vc) (.int .i64 0) (.string ByteArray.empty)
  have hfr4 : Fr (fun x => x = C) w (put9 w3 w.heap.size (.int .i64 3) (.int .i64 0) (.int .i64 0) (.int .i64 0) (.int .i64 0) (.slice none 0 0) (.slice va n vc) (.int .i64 0) (.string ByteArray.empty)) := Fr.comp hfr3 (put9_fr w3 w.heap.size (.int .i64 3) (.int .i64 0) (.int .i64 0) (.int .i64 0) (.int .i64 0) (.slice none 0 0) (.slice va n vc) (.int .i64 0) (.string ByteArray.empty)) (fun x hx e => by omega)
  clear HP2 hfr2 R2
  go_wp2
  show bodyPost _ _ _ _ _ (put9 w3 w.heap.size (.int .i64 3) (.int .i64 0) (.int .i64 0) (.int .i64 0) (.int .i64 0) (.slice none 0 0) (.slice va n vc) (.int .i64 0) (.string ByteArray.empty))
  clear c0 c1 c2 c3 c4 c5 c6 c7 c8
  obtain ⟨c5, c6, c0, c2, c3, c4, c7, c8, c1⟩ := box_slice HB9
  refine bodyPost_ret (v := .agg #[.int .i64 3, .int .i64 0, .int .i64 0, .int .i64 0, .int .i64 0, .slice none 0 0, .slice va n vc, .int .i64 0, .string ByteArray.empty]) (by simp [results, Try.results47, go_sem, c0, c1, c2, c3, c4, c5, c6, c7, c8]) rfl ⟨_, rfl, ?_, hfr4⟩
  have hkl : (entsR bs k n).1.length = n := entsR_len bs k n
  exact ⟨_, _, rfl, World.ownsRow_nil _ _ _ _, (by show World.ownsRow _ _ _ _ _ (entsR bs k n).1.length (rowsOf entCells (entsR bs k n).1); rw [hkl]; exact hO4), .inl rfl⟩
set_option maxHeartbeats 1600000 in
theorem readBody_over (C g o c A B : Nat) (bs : List Int) (k : Nat) (n : Nat) (hn : n ≤ 255) (w : World) (h : RAt w C g o c A B bs k) :
    Calls Try.prog 47 #[.pointer (some ⟨C, 0, none⟩), .int .i64 4, .int .i64 n] w fun e w' => ∃ v, e = .returned v ∧ PgVal w' w.heap.size (readP bs k 4 n) v ∧ Fr (fun x => x = C) w w' := by
  have hCl := (Array.getElem?_eq_some_iff.1 h.cur.box).1
  have hmr := fun a w => meth_over_read a w
  have har := fun a w => ahead_over_read a w
  have hmp := fun a w => meth_over_page a w
  have hap := fun a w => ahead_over_page a w
  go_enter Try.func47, Try.ntmps47
  go_wp2_with fail
  have hb0 : Below w.heap.size w (w.alloc (.cells #[.int .i64 0, .int .i64 0, .int .i64 0, .int .i64 0, .int .i64 0, .slice none 0 0, .slice none 0 0, .int .i64 0, .string ⟨#[]⟩] 28)) := (Below.refl _ _).alloc (Nat.le_refl _) _
  have HP0 := heap_alloc_new w (.cells #[.int .i64 0, .int .i64 0, .int .i64 0, .int .i64 0, .int .i64 0, .slice none 0 0, .slice none 0 0, .int .i64 0, .string ⟨#[]⟩] 28)
  generalize w.alloc (.cells #[.int .i64 0, .int .i64 0, .int .i64 0, .int .i64 0, .int .i64 0, .slice none 0 0, .slice none 0 0, .int .i64 0, .string ⟨#[]⟩] 28) = W0 at hb0 HP0 ⊢
  have hN0 := (Array.getElem?_eq_some_iff.1 HP0).1
  refine (kindBody_over 0 0 0 0 none 0 0 none 0 0 0 ⟨#[]⟩ W0).mono ?_
  rintro e w1 ⟨M, rfl, hMl, hM, hb1⟩
  have h1 := RAt.keepB (RAt.keepB h (Fr.of_below (S := fun _ => False) hb0) (fun h => h) (fun _ _ h => h)) (Fr.of_below (S := fun _ => False) hb1) (fun h => h) (fun _ _ h => h)
  have HP1 := (hb1.block w.heap.size hN0).trans HP0
  have hfr1 : Fr (fun x => x = C) w w1 := Fr.comp (Fr.of_below hb0) (Fr.of_below (S := fun _ => False) hb1) (fun _ _ h => h.elim)
  have hMC : M ≠ C := by omega
  have hBM : B ≤ M := by have := h.top; omega
  have hMP : w.heap.size ≠ M := by omega
  have hs1 := hfr1.size
  clear HP0 hb0 hb1
  go_wp2_with fail
  refine (overRead_any C g o c A B bs k M n w1 h1 hMC hBM 0 ⟨#[]⟩ hM).mono ?_
  rintro e w2 ⟨rfl, R2⟩
  have hPC : w.heap.size ≠ C := by omega
  have HP2 := (R2.fr.block w.heap.size (Array.getElem?_eq_some_iff.1 HP1).1 (by omega)).trans HP1
  have hfr2 : Fr (fun x => x = C) w w2 := Fr.comp hfr1 R2.fr (fun x hx e => by omega)
  have hN1 := (Array.getElem?_eq_some_iff.1 HP1).1
  clear HP1 hfr1 h1 hM
  go_wp2_with fail
  refine (overPage_any M _ _ w2 R2.box).mono ?_
  rintro e w3 ⟨rfl, hb3⟩
  have HP3 := (hb3.block w.heap.size (Array.getElem?_eq_some_iff.1 HP2).1).trans HP2
  have hfr3 : Fr (fun x => x = C) w w3 := Fr.comp hfr2 (Fr.of_below (S := fun _ => False) hb3) (fun _ _ h => h.elim)
  have f3 := box_frozen HP3
  obtain ⟨c5, c6, c0, c2, c3, c4, c7, c8, c1⟩ := box_slice HP3
  
  have HB9 := put9_box HP3 (.int .i64 4) (.int .i64 0) (.int .i64 0) (.int .i64 0) (.int .i64 0) (.slice none 0 0) (.slice none 0 0) (.int .i64 (oNext bs k)) (.string (oData bs k))
  have hfr4 : Fr (fun x => x = C) w (put9 w3 w.heap.size (.int .i64 4) (.int .i64 0) (.int .i64 0) (.int .i64 0) (.int .i64 0) (.slice none 0 0) (.slice none 0 0) (.int .i64 (oNext bs k)) (.string (oData bs k))) := Fr.comp hfr3 (put9_fr w3 w.heap.size (.int .i64 4) (.int .i64 0) (.int .i64 0) (.int .i64 0) (.int .i64 0) (.slice none 0 0) (.slice none 0 0) (.int .i64 (oNext bs k)) (.string (oData bs k))) (fun x hx e => by omega)
  clear HP2 hfr2 R2
  go_wp2
  show bodyPost _ _ _ _ _ (put9 w3 w.heap.size (.int .i64 4) (.int .i64 0) (.int .i64 0) (.int .i64 0) (.int .i64 0) (.slice none 0 0) (.slice none 0 0) (.int .i64 (oNext bs k)) (.string (oData bs k)))
  clear c0 c1 c2 c3 c4 c5 c6 c7 c8
  obtain ⟨c5, c6, c0, c2, c3, c4, c7, c8, c1⟩ := box_slice HB9
  refine bodyPost_ret (v := .agg #[.int .i64 4, .int .i64 0, .int .i64 0, .int .i64 0, .int .i64 0, .slice none 0 0, .slice none 0 0, .int .i64 (oNext bs k), .string (oData bs k)]) (by simp [results, Try.results47, go_sem, c0, c1, c2, c3, c4, c5, c6, c7, c8]) rfl ⟨_, rfl, ?_, hfr4⟩
  exact ⟨_, _, rfl, World.ownsRow_nil _ _ _ _, World.ownsRow_nil _ _ _ _, .inl rfl⟩
set_option maxHeartbeats 1600000 in
theorem readBody_none (C g o c A B : Nat) (bs : List Int) (k : Nat) (kind : Int) (hk1 : kind ≠ 1) (hk2 : kind ≠ 2) (hk3 : kind ≠ 3) (hk4 : kind ≠ 4) (n : Nat) (w : World) (h : RAt w C g o c A B bs k) :
    Calls Try.prog 47 #[.pointer (some ⟨C, 0, none⟩), .int .i64 kind, .int .i64 n] w fun e w' => ∃ v, e = .returned v ∧ PgVal w' w.heap.size (readP bs k kind n) v ∧ Fr (fun x => x = C) w w' := by
  have hCl := (Array.getElem?_eq_some_iff.1 h.cur.box).1
  go_enter Try.func47, Try.ntmps47
  go_wp2_with fail
  have hb0 : Below w.heap.size w (w.alloc (.cells #[.int .i64 0, .int .i64 0, .int .i64 0, .int .i64 0, .int .i64 0, .slice none 0 0, .slice none 0 0, .int .i64 0, .string ⟨#[]⟩] 28)) := (Below.refl _ _).alloc (Nat.le_refl _) _
  have HP0 := heap_alloc_new w (.cells #[.int .i64 0, .int .i64 0, .int .i64 0, .int .i64 0, .int .i64 0, .slice none 0 0, .slice none 0 0, .int .i64 0, .string ⟨#[]⟩] 28)
  generalize w.alloc (.cells #[.int .i64 0, .int .i64 0, .int .i64 0, .int .i64 0, .int .i64 0, .slice none 0 0, .slice none 0 0, .int .i64 0, .string ⟨#[]⟩] 28) = W0 at hb0 HP0 ⊢
  have hN0 := (Array.getElem?_eq_some_iff.1 HP0).1
  refine (kindBody_nil kind 0 0 0 0 hk1 hk2 hk3 hk4 none 0 0 none 0 0 0 ⟨#[]⟩ W0).mono ?_
  rintro e w3 ⟨rfl, hb1⟩
  have HP3 := (hb1.block w.heap.size hN0).trans HP0
  have hfr3 : Fr (fun x => x = C) w w3 := Fr.comp (Fr.of_below hb0) (Fr.of_below (S := fun _ => False) hb1) (fun _ _ h => h.elim)
  have f3 := box_frozen HP3
  obtain ⟨c5, c6, c0, c2, c3, c4, c7, c8, c1⟩ := box_slice HP3
  have HB9 := put9_box HP3 (.int .i64 0) (.int .i64 0) (.int .i64 0) (.int .i64 0) (.int .i64 0) (.slice none 0 0) (.slice none 0 0) (.int .i64 0) (.string ⟨#[]⟩)
  have hfr4 : Fr (fun x => x = C) w (put9 w3 w.heap.size (.int .i64 0) (.int .i64 0) (.int .i64 0) (.int .i64 0) (.int .i64 0) (.slice none 0 0) (.slice none 0 0) (.int .i64 0) (.string ⟨#[]⟩)) := Fr.comp hfr3 (put9_fr w3 w.heap.size _ _ _ _ _ _ _ _ _) (fun x hx e => by omega)
  clear HP0 hb0 hb1 hfr3
  go_wp2
  show bodyPost _ _ _ _ _ (put9 w3 w.heap.size (.int .i64 0) (.int .i64 0) (.int .i64 0) (.int .i64 0) (.int .i64 0) (.slice none 0 0) (.slice none 0 0) (.int .i64 0) (.string ⟨#[]⟩))
  clear c0 c1 c2 c3 c4 c5 c6 c7 c8
  obtain ⟨c5, c6, c0, c2, c3, c4, c7, c8, c1⟩ := box_slice HB9
  refine bodyPost_ret (v := .agg #[.int .i64 0, .int .i64 0, .int .i64 0, .int .i64 0, .int .i64 0, .slice none 0 0, .slice none 0 0, .int .i64 0, .string ⟨#[]⟩]) (by simp [results, Try.results47, go_sem, c0, c1, c2, c3, c4, c5, c6, c7, c8]) rfl ⟨_, rfl, ?_, hfr4⟩
  rw [readP, if_neg hk1, if_neg hk2, if_neg hk3, if_neg hk4]
  exact ⟨_, _, rfl, World.ownsRow_nil _ _ _ _, World.ownsRow_nil _ _ _ _, .inl rfl⟩
theorem readBody_any (C g o c A B : Nat) (bs : List Int) (k : Nat) (kind : Int) (n : Nat) (hn : n ≤ 255) (w : World) (h : RAt w C g o c A B bs k) :
    Calls Try.prog 47 #[.pointer (some ⟨C, 0, none⟩), .int .i64 kind, .int .i64 n] w fun e w' => ∃ v, e = .returned v ∧ PgVal w' w.heap.size (readP bs k kind n) v ∧ Fr (fun x => x = C) w w' := by
  by_cases h1 : kind = 1
  · subst h1; exact readBody_meta C g o c A B bs k n hn w h
  by_cases h2 : kind = 2
  · subst h2; exact readBody_branch C g o c A B bs k n hn w h
  by_cases h3 : kind = 3
  · subst h3; exact readBody_leaf C g o c A B bs k n hn w h
  by_cases h4 : kind = 4
  · subst h4; exact readBody_over C g o c A B bs k n hn w h
  exact readBody_none C g o c A B bs k kind h1 h2 h3 h4 n w h
end Old
end Go.Proofs.Ytcmhobbpeaeebaa
namespace Go.Proofs.Ytcmhobbpeaeebaa
namespace Old
open Go.RowKit
set_option linter.unusedVariables false
set_option maxRecDepth 100000

/-- An entry that the specification reads. -/
def sEnt (L : List Int) (s : Option Nat) : Option Nat × PE :=
  if 8 < ((sTake L s 1).2.getD 0 0).toNat then (none, dE)
  else if (sTake L (sTake L (sTake L s 1).1 (if true = true then 8 else ((sTake L s 1).2.getD 0 0).toNat)).1 1).2.getD 0 0 = 1 then
    ((sTake L (sTake L (sTake L (sTake L (sTake L s 1).1 (if true = true then 8 else ((sTake L s 1).2.getD 0 0).toNat)).1 1).1 (smallN true)).1 (smallN true)).1,
      (toB ((sTake L (sTake L s 1).1 (if true = true then 8 else ((sTake L s 1).2.getD 0 0).toNat)).2.take ((sTake L s 1).2.getD 0 0).toNat), ⟨#[]⟩,
        numOf true (sTake L (sTake L (sTake L (sTake L s 1).1 (if true = true then 8 else ((sTake L s 1).2.getD 0 0).toNat)).1 1).1 (smallN true)).2,
        numOf true (sTake L (sTake L (sTake L (sTake L (sTake L s 1).1 (if true = true then 8 else ((sTake L s 1).2.getD 0 0).toNat)).1 1).1 (smallN true)).1 (smallN true)).2))
  else
    ((sTake L (sTake L (sTake L (sTake L (sTake L s 1).1 (if true = true then 8 else ((sTake L s 1).2.getD 0 0).toNat)).1 1).1 1).1 ((sTake L (sTake L (sTake L (sTake L s 1).1 (if true = true then 8 else ((sTake L s 1).2.getD 0 0).toNat)).1 1).1 1).2.getD 0 0).toNat).1,
      (toB ((sTake L (sTake L s 1).1 (if true = true then 8 else ((sTake L s 1).2.getD 0 0).toNat)).2.take ((sTake L s 1).2.getD 0 0).toNat),
        toB (sTake L (sTake L (sTake L (sTake L (sTake L s 1).1 (if true = true then 8 else ((sTake L s 1).2.getD 0 0).toNat)).1 1).1 1).1 ((sTake L (sTake L (sTake L (sTake L s 1).1 (if true = true then 8 else ((sTake L s 1).2.getD 0 0).toNat)).1 1).1 1).2.getD 0 0).toNat).2, 0,
        (((sTake L (sTake L (sTake L (sTake L s 1).1 (if true = true then 8 else ((sTake L s 1).2.getD 0 0).toNat)).1 1).1 1).2.getD 0 0).toNat : Int)))
/-- The state inside l2ReadEnt. -/
structure ES (w : World) (L : List Int) (A B : Nat) (w' : World) (s : Option Nat) (sa : Option Addr) (sn sc : Nat) (bad : Bool) (e1 e2 : ByteArray) (e3 e4 : Int) : Prop where
  sb : w'.heap[w.heap.size]? = some (.cells #[.slice sa sn sc, .bool bad] 119)
  fb : w'.heap[w.heap.size + 1]? = some (.cells #[.bool true, .int .i64 (smallN true), .bool true] 63)
  r1 : w'.heap[w.heap.size + 1 + 1]? = some (.cells #[.slice none 0 0, .bool false] 119)
  r2 : w'.heap[w.heap.size + 1 + 1 + 1]? = some (.cells #[.string ⟨#[]⟩, .string ⟨#[]⟩, .int .i64 0, .int .i64 0] 102)
  eb : w'.heap[w.heap.size + 1 + 1 + 1 + 1]? = some (.cells #[.string e1, .string e2, .int .i64 e3, .int .i64 e4] 102)
  src : SrcAt w' A B L sa sn sc bad s
  bel : Below w.heap.size w w'
  low : B ≤ w.heap.size
section
variable {w w' w'' : World} {L : List Int} {A B : Nat} {s s' : Option Nat} {sa ta : Option Addr} {sn sc tn tc : Nat} {bad bad' : Bool} {e1 e2 : ByteArray} {e3 e4 : Int}
theorem ES.lt (h : ES w L A B w' s sa sn sc bad e1 e2 e3 e4) : w.heap.size + 4 < w'.heap.size := (Array.getElem?_eq_some_iff.1 h.eb).1
theorem ES.call (h : ES w L A B w' s sa sn sc bad e1 e2 e3 e4) (hb : Below w'.heap.size w' w'') : ES w L A B w'' s sa sn sc bad e1 e2 e3 e4 := by
  have hl := h.lt
  exact ⟨(hb.block _ (by omega)).trans h.sb, (hb.block _ (by omega)).trans h.fb, (hb.block _ (by omega)).trans h.r1, (hb.block _ (by omega)).trans h.r2, (hb.block _ (by omega)).trans h.eb, h.src.keep (.of_below (hb.mono (by have := h.low; omega))), h.bel.trans (hb.mono (by omega)), h.low⟩
theorem ES.sput (h : ES w L A B w' s sa sn sc bad e1 e2 e3 e4) (hs : SrcAt w' A B L ta tn tc bad' s') : ES w L A B ((w'.setCell ⟨w.heap.size, 0, none⟩ (.slice ta tn tc)).setCell ⟨w.heap.size, 1, none⟩ (.bool bad')) s' ta tn tc bad' e1 e2 e3 e4 := by
  have k : ∀ x, x ≠ w.heap.size → ((w'.setCell ⟨w.heap.size, 0, none⟩ (.slice ta tn tc)).setCell ⟨w.heap.size, 1, none⟩ (.bool bad')).heap[x]? = w'.heap[x]? := fun x hx => (Below.heap_setCell _ ⟨w.heap.size, 1, none⟩ _ x hx).trans (Below.heap_setCell _ ⟨w.heap.size, 0, none⟩ _ x hx)
  refine ⟨?_, (k _ (by omega)).trans h.fb, (k _ (by omega)).trans h.r1, (k _ (by omega)).trans h.r2, (k _ (by omega)).trans h.eb, hs.keep (fun x k1 k2 => k x (by have := h.low; omega)), (h.bel.setCell (p := ⟨w.heap.size, 0, none⟩) (Nat.le_refl _) _).setCell (p := ⟨w.heap.size, 1, none⟩) (Nat.le_refl _) _, h.low⟩
  simp [World.setCell, Array.getElem?_modify, h.sb]
theorem ES.eput (h : ES w L A B w' s sa sn sc bad e1 e2 e3 e4) (i : Nat) (v : Value) (f1 f2 : ByteArray) (f3 f4 : Int) (hf : (#[.string e1, .string e2, .int .i64 e3, .int .i64 e4] : Array Value).setIfInBounds i v = #[.string f1, .string f2, .int .i64 f3, .int .i64 f4]) : ES w L A B (w'.setCell ⟨w.heap.size + 1 + 1 + 1 + 1, i, none⟩ v) s sa sn sc bad f1 f2 f3 f4 := by
  have k : ∀ x, x ≠ w.heap.size + 1 + 1 + 1 + 1 → (w'.setCell ⟨w.heap.size + 1 + 1 + 1 + 1, i, none⟩ v).heap[x]? = w'.heap[x]? := fun x hx => Below.heap_setCell _ ⟨w.heap.size + 1 + 1 + 1 + 1, i, none⟩ _ x hx
  refine ⟨(k _ (by omega)).trans h.sb, (k _ (by omega)).trans h.fb, (k _ (by omega)).trans h.r1, (k _ (by omega)).trans h.r2, ?_, h.src.keep (fun x k1 k2 => k x (by have := h.low; omega)), h.bel.setCell (p := ⟨w.heap.size + 1 + 1 + 1 + 1, i, none⟩) (by show w.heap.size ≤ w.heap.size + 1 + 1 + 1 + 1; omega) _, h.low⟩
  rw [← hf]
  simp [World.setCell, Array.getElem?_modify, h.eb]
theorem ES.drew (h : ES w L A B w' s sa sn sc bad e1 e2 e3 e4) : ES w L A B w'.drew s sa sn sc bad e1 e2 e3 e4 := h.call (Below.refl _ _).drew
end
theorem drew_heap (w : World) (k : Nat) : w.drew.heap[k]? = w.heap[k]? := rfl
/-- The two results are stored. -/
def ret6 (w : World) (N : Nat) (v0 v1 u0 u1 u2 u3 : Value) : World :=
  (((((w.setCell ⟨N + 1 + 1, 0, none⟩ v0).setCell ⟨N + 1 + 1, 1, none⟩ v1).setCell ⟨N + 1 + 1 + 1, 0, none⟩ u0).setCell ⟨N + 1 + 1 + 1, 1, none⟩ u1).setCell ⟨N + 1 + 1 + 1, 2, none⟩ u2).setCell ⟨N + 1 + 1 + 1, 3, none⟩ u3
theorem ret6_other (w : World) (N : Nat) (v0 v1 u0 u1 u2 u3 : Value) (x : Nat) (h1 : x ≠ N + 1 + 1) (h2 : x ≠ N + 1 + 1 + 1) : (ret6 w N v0 v1 u0 u1 u2 u3).heap[x]? = w.heap[x]? := by
  unfold ret6
  rw [Below.heap_setCell _ ⟨N + 1 + 1 + 1, 3, none⟩ _ x h2, Below.heap_setCell _ ⟨N + 1 + 1 + 1, 2, none⟩ _ x h2, Below.heap_setCell _ ⟨N + 1 + 1 + 1, 1, none⟩ _ x h2, Below.heap_setCell _ ⟨N + 1 + 1 + 1, 0, none⟩ _ x h2, Below.heap_setCell _ ⟨N + 1 + 1, 1, none⟩ _ x h1, Below.heap_setCell _ ⟨N + 1 + 1, 0, none⟩ _ x h1]
theorem ret6_r1 {w : World} {N t : Nat} {a0 a1 : Value} (h : w.heap[N + 1 + 1]? = some (.cells #[a0, a1] t)) (v0 v1 u0 u1 u2 u3 : Value) : (ret6 w N v0 v1 u0 u1 u2 u3).heap[N + 1 + 1]? = some (.cells #[v0, v1] t) := by
  unfold ret6
  have hn : N + 1 + 1 ≠ N + 1 + 1 + 1 := by omega
  rw [Below.heap_setCell _ ⟨N + 1 + 1 + 1, 3, none⟩ _ _ hn, Below.heap_setCell _ ⟨N + 1 + 1 + 1, 2, none⟩ _ _ hn, Below.heap_setCell _ ⟨N + 1 + 1 + 1, 1, none⟩ _ _ hn, Below.heap_setCell _ ⟨N + 1 + 1 + 1, 0, none⟩ _ _ hn]
  simp [World.setCell, Array.getElem?_modify, h]
theorem ret6_r2 {w : World} {N t : Nat} {a0 a1 a2 a3 : Value} (h : w.heap[N + 1 + 1 + 1]? = some (.cells #[a0, a1, a2, a3] t)) (v0 v1 u0 u1 u2 u3 : Value) : (ret6 w N v0 v1 u0 u1 u2 u3).heap[N + 1 + 1 + 1]? = some (.cells #[u0, u1, u2, u3] t) := by
  have hn : N + 1 + 1 + 1 ≠ N + 1 + 1 := by omega
  have h' : ((w.setCell ⟨N + 1 + 1, 0, none⟩ v0).setCell ⟨N + 1 + 1, 1, none⟩ v1).heap[N + 1 + 1 + 1]? = some (.cells #[a0, a1, a2, a3] t) := (Below.heap_setCell _ ⟨N + 1 + 1, 1, none⟩ _ _ hn).trans ((Below.heap_setCell _ ⟨N + 1 + 1, 0, none⟩ _ _ hn).trans h)
  unfold ret6
  generalize (w.setCell ⟨N + 1 + 1, 0, none⟩ v0).setCell ⟨N + 1 + 1, 1, none⟩ v1 = w' at h'
  simp [World.setCell, Array.getElem?_modify, h']
theorem ret6_below {w w' : World} {N : Nat} (h : Below N w w') (v0 v1 u0 u1 u2 u3 : Value) : Below N w (ret6 w' N v0 v1 u0 u1 u2 u3) :=
  (((((h.setCell (p := ⟨N + 1 + 1, 0, none⟩) (by show N ≤ N + 1 + 1; omega) _).setCell (p := ⟨N + 1 + 1, 1, none⟩) (by show N ≤ N + 1 + 1; omega) _).setCell (p := ⟨N + 1 + 1 + 1, 0, none⟩) (by show N ≤ N + 1 + 1 + 1; omega) _).setCell (p := ⟨N + 1 + 1 + 1, 1, none⟩) (by show N ≤ N + 1 + 1 + 1; omega) _).setCell (p := ⟨N + 1 + 1 + 1, 2, none⟩) (by show N ≤ N + 1 + 1 + 1; omega) _).setCell (p := ⟨N + 1 + 1 + 1, 3, none⟩) (by show N ≤ N + 1 + 1 + 1; omega) _
set_option maxHeartbeats 3200000 in
theorem l2ReadEnt_any (L : List Int) (s : Option Nat) (sa : Option Addr) (sn sc : Nat) (bad : Bool) (w : World) (A B : Nat) (hs : SrcAt w A B L sa sn sc bad s) (hBw : B ≤ w.heap.size) :
    Calls Try.prog 84 #[.agg #[.slice sa sn sc, .bool bad], .agg #[.bool true, .int .i64 (smallN true), .bool true]] w fun e w' => ∃ ta tn tc bad', e = .returned (.tuple #[.agg #[.slice ta tn tc, .bool bad'], .agg #[.string (sEnt L s).2.1, .string (sEnt L s).2.2.1, .int .i64 (sEnt L s).2.2.2.1, .int .i64 (sEnt L s).2.2.2.2]]) ∧ SrcAt w' A B L ta tn tc bad' (sEnt L s).1 ∧ Below w.heap.size w w' := by
  go_enter Try.func84, Try.ntmps84
  go_wp2_with fail
  obtain ⟨z0, z1, z2, z3, z4, hb0⟩ := six_new w (.cells #[.slice sa sn sc, .bool bad] 119) (.cells #[.bool true, .int .i64 (smallN true), .bool true] 63) (.cells #[.slice none 0 0, .bool false] 119) (.cells #[.string ⟨#[]⟩, .string ⟨#[]⟩, .int .i64 0, .int .i64 0] 102) (.cells #[.string ⟨#[]⟩, .string ⟨#[]⟩, .int .i64 0, .int .i64 0] 102) (.cells #[] 5)
  generalize (((((w.alloc (.cells #[.slice sa sn sc, .bool bad] 119)).alloc (.cells #[.bool true, .int .i64 (smallN true), .bool true] 63)).alloc (.cells #[.slice none 0 0, .bool false] 119)).alloc (.cells #[.string ⟨#[]⟩, .string ⟨#[]⟩, .int .i64 0, .int .i64 0] 102)).alloc (.cells #[.string ⟨#[]⟩, .string ⟨#[]⟩, .int .i64 0, .int .i64 0] 102)).alloc (.cells #[] 5) = W at z0 z1 z2 z3 z4 hb0 ⊢
  have st : ES w L A B W s sa sn sc bad ⟨#[]⟩ ⟨#[]⟩ 0 0 := ⟨z0, z1, z2, z3, z4, hs.keep (.of_below (hb0.mono hBw)), hb0, hBw⟩
  clear z0 z1 z2 z3 z4 hb0
  refine (l2Take_any L s 1 (by omega) sa sn sc bad W A B st.src (by have := st.low; have := st.lt; omega)).mono ?_
  rintro e w1 ⟨ta, tn, tc, bad1, a1, c1, rfl, hs1, hx1, hb1⟩
  have st1 := st.call hb1
  have hl0 := st.lt
  obtain ⟨x0, x1⟩ := box_two2 st1.sb
  have f1 := box_frozen st1.sb
  have st2 := st1.sput hs1
  have hx2 := (hx1.set ⟨w.heap.size, 0, none⟩ (.slice ta tn tc) hBw (by show w.heap.size < _; omega)).set ⟨w.heap.size, 1, none⟩ (.bool bad1) hBw (by show w.heap.size < _; omega)
  obtain ⟨b1, o1, rfl, hc1, hc1a, hc1b⟩ := hx2.byte (by omega)
  obtain ⟨n, hn⟩ : ∃ n : Nat, (sTake L s 1).2.getD 0 0 = (n : Int) := ⟨((sTake L s 1).2.getD 0 0).toNat, by omega⟩
  have hn255 : n ≤ 255 := by omega
  have HN : Hid (((sTake L s 1).2.getD 0 0).toNat = n) := by show _ = _; rw [hn]; simp
  rw [hn] at hc1
  clear hn hc1a hc1b
  generalize hq1 : (sTake L s 1).1 = s1 at st2
  have HS1 : Hid ((sTake L s 1).1 = s1) := hq1
  clear st st1 hx1 hs1 hx2 hq1
  obtain ⟨g0, g1, g2⟩ := box_form st2.fb
  obtain ⟨h0, h1, h2, h3⟩ := box_four st2.eb
  obtain ⟨y0, y1⟩ := box_two2 st2.r1
  obtain ⟨k0, k1, k2, k3⟩ := box_four st2.r2
  obtain ⟨p0, p1⟩ := box_two2 st2.sb
  by_cases h8 : 8 < n
  · have i8 : (8 : Int) < (n : Int) := by omega
    have HE : Hid (sEnt L s = (none, dE)) := by show _ = _; rw [sEnt, HN.out, if_pos h8]
    have fr1 := box_frozen st2.r1
    have fr2 := box_frozen st2.r2
    go_wp2_with fail
    generalize (w1.setCell ⟨w.heap.size, 0, none⟩ (.slice ta tn tc)).setCell ⟨w.heap.size, 1, none⟩ (.bool bad1) = w2 at *
    go_region_held3 (fun w' => w'.cell? ⟨w.heap.size + 1 + 1 + 1 + 1, 0, none⟩ = some (.string ⟨#[]⟩) ∧ w'.cell? ⟨w.heap.size + 1 + 1 + 1 + 1, 1, none⟩ = some (.string ⟨#[]⟩) ∧ w'.cell? ⟨w.heap.size + 1 + 1 + 1 + 1, 2, none⟩ = some (.int .i64 0) ∧ w'.cell? ⟨w.heap.size + 1 + 1 + 1 + 1, 3, none⟩ = some (.int .i64 0)) (go_keep) (fail)
    all_goals
      go_wp2
      show bodyPost _ _ _ _ _ (ret6 w2 w.heap.size (.slice none 0 0) (.bool true) (.string ⟨#[]⟩) (.string ⟨#[]⟩) (.int .i64 0) (.int .i64 0)).drew
      obtain ⟨q0, q1⟩ := box_two2 (w := (ret6 w2 w.heap.size (.slice none 0 0) (.bool true) (.string ⟨#[]⟩) (.string ⟨#[]⟩) (.int .i64 0) (.int .i64 0)).drew) (N := w.heap.size + 1 + 1) ((drew_heap _ _).trans (ret6_r1 st2.r1 (.slice none 0 0) (.bool true) (.string ⟨#[]⟩) (.string ⟨#[]⟩) (.int .i64 0) (.int .i64 0)))
      obtain ⟨q2, q3, q4, q5⟩ := box_four (w := (ret6 w2 w.heap.size (.slice none 0 0) (.bool true) (.string ⟨#[]⟩) (.string ⟨#[]⟩) (.int .i64 0) (.int .i64 0)).drew) (N := w.heap.size + 1 + 1 + 1) ((drew_heap _ _).trans (ret6_r2 st2.r2 (.slice none 0 0) (.bool true) (.string ⟨#[]⟩) (.string ⟨#[]⟩) (.int .i64 0) (.int .i64 0)))
      refine bodyPost_ret (v := .tuple #[.agg #[.slice none 0 0, .bool true], .agg #[.string ⟨#[]⟩, .string ⟨#[]⟩, .int .i64 0, .int .i64 0]]) (by simp [results, Try.results84, go_sem, q0, q1, q2, q3, q4, q5]) rfl ?_
      rw [HE.out]
      exact ⟨_, _, _, _, rfl, ⟨rfl, rfl, rfl, rfl⟩, (ret6_below st2.bel (.slice none 0 0) (.bool true) (.string ⟨#[]⟩) (.string ⟨#[]⟩) (.int .i64 0) (.int .i64 0)).drew⟩
  · have i8 : ¬ (8 : Int) < (n : Int) := by omega
    go_wp2_with fail
    clear x0 x1 f1 g0 g1 g2 h0 h1 h2 h3 y0 y1 k0 k1 k2 k3 p0 p1 hc1
    generalize (w1.setCell ⟨w.heap.size, 0, none⟩ (.slice ta tn tc)).setCell ⟨w.heap.size, 1, none⟩ (.bool bad1) = w2 at st2 ⊢
    refine (l2Take_any L s1 8 (by omega) ta tn tc bad1 w2 A B st2.src (by have := st2.low; have := st2.lt; omega)).mono ?_
    rintro e v3 ⟨ta3, tn3, tc3, bad3, a3, c3, rfl, hs3, hx3, hb3⟩
    have su3 := st2.call hb3
    have hl3 := st2.lt
    obtain ⟨x0, x1⟩ := box_two2 su3.sb
    have fx := box_frozen su3.sb
    have st3 := su3.sput hs3
    have hy3 := (hx3.set ⟨w.heap.size, 0, none⟩ (.slice ta3 tn3 tc3) hBw (by show w.heap.size < _; omega)).set ⟨w.heap.size, 1, none⟩ (.bool bad3) hBw (by show w.heap.size < _; omega)
    have hlen3 := sTake_len L s1 8
    generalize hq : (sTake L s1 8).1 = s3 at st3
    have HS3 : Hid ((sTake L s1 8).1 = s3) := hq
    clear hq
    generalize hq : (sTake L s1 8).2 = l3 at hy3 hlen3
    have HL3 : Hid ((sTake L s1 8).2 = l3) := hq
    clear hq su3 hx3 hs3 hb3 st2
    obtain ⟨p0, p1⟩ := box_two2 st3.sb
    obtain ⟨g0, g1, g2⟩ := box_form st3.fb
    obtain ⟨h0, h1, h2, h3⟩ := box_four st3.eb
    have fe := box_frozen st3.eb
    obtain ⟨A3, B3, hB3⟩ := hy3.ex
    have hcn : n ≤ 8 := by omega
    have hcv := str_conv (bytesAt_takeN hB3 hcn)
    have hcc : 8 ≤ c3 := hB3.2.1
    have hcm := hB3.2.2.1
    unfold maxLen at hcm
    have hcc2 : (n : Int) ≤ (c3 : Int) := by omega
    have hcc3 : ¬ (c3 : Int) < (n : Int) := by omega
    generalize hq : toB (l3.take n) = key at hcv
    have HKEY : Hid (toB (l3.take n) = key) := hq
    clear hq
    go_wp2_with fail
    have st4 := st3.eput 0 (.string key) key ⟨#[]⟩ 0 0 rfl
    clear x0 x1 fx p0 p1 g0 g1 g2 h0 h1 h2 h3 fe
    clear st3 hy3 hB3 hcv
    generalize ((v3.setCell ⟨w.heap.size, 0, none⟩ (.slice ta3 tn3 tc3)).setCell ⟨w.heap.size, 1, none⟩ (.bool bad3)).setCell ⟨w.heap.size + 1 + 1 + 1 + 1, 0, none⟩ (.string key) = w4 at st4 ⊢
    refine (l2Take_any L s3 1 (by omega) ta3 tn3 tc3 bad3 w4 A B st4.src (by have := st4.low; have := st4.lt; omega)).mono ?_
    rintro e v5 ⟨ta5, tn5, tc5, bad5, a5, c5, rfl, hs5, hx5, hb5⟩
    have su5 := st4.call hb5
    have hl5 := st4.lt
    obtain ⟨x0, x1⟩ := box_two2 su5.sb
    have fx := box_frozen su5.sb
    have st5 := su5.sput hs5
    have hy5 := (hx5.set ⟨w.heap.size, 0, none⟩ (.slice ta5 tn5 tc5) hBw (by show w.heap.size < _; omega)).set ⟨w.heap.size, 1, none⟩ (.bool bad5) hBw (by show w.heap.size < _; omega)
    have hlen5 := sTake_len L s3 1
    generalize hq : (sTake L s3 1).1 = s5 at st5
    have HS5 : Hid ((sTake L s3 1).1 = s5) := hq
    clear hq
    generalize hq : (sTake L s3 1).2 = l5 at hy5 hlen5
    have HL5 : Hid ((sTake L s3 1).2 = l5) := hq
    clear hq su5 hx5 hs5 hb5 st4
    obtain ⟨p0, p1⟩ := box_two2 st5.sb
    obtain ⟨g0, g1, g2⟩ := box_form st5.fb
    obtain ⟨h0, h1, h2, h3⟩ := box_four st5.eb
    have fe := box_frozen st5.eb
    obtain ⟨b5, o5, rfl, hc5, hc5a, hc5b⟩ := hy5.byte (by omega)
    have HF : Hid (l5.getD 0 0 = l5.getD 0 0) := rfl
    generalize hq : l5.getD 0 0 = m at hc5 hc5a hc5b
    have HM : Hid (l5.getD 0 0 = m) := hq
    clear hq HF
    by_cases hm : m = 1
    · subst hm
      go_wp2_with fail
      clear x0 x1 fx p0 p1 g0 g1 g2 h0 h1 h2 h3 fe
      clear hc5 hc5a hc5b hy5
      generalize (v5.setCell ⟨w.heap.size, 0, none⟩ (.slice ta5 tn5 tc5)).setCell ⟨w.heap.size, 1, none⟩ (.bool bad5) = w6 at st5 ⊢
      refine (l2Take_any L s5 (smallN true) (by decide) ta5 tn5 tc5 bad5 w6 A B st5.src (by have := st5.low; have := st5.lt; omega)).mono ?_
      rintro e v7 ⟨ta7, tn7, tc7, bad7, a7, c7, rfl, hs7, hx7, hb7⟩
      have su7 := st5.call hb7
      have hl7 := st5.lt
      obtain ⟨x0, x1⟩ := box_two2 su7.sb
      have fx := box_frozen su7.sb
      have st7 := su7.sput hs7
      have hy7 := (hx7.set ⟨w.heap.size, 0, none⟩ (.slice ta7 tn7 tc7) hBw (by show w.heap.size < _; omega)).set ⟨w.heap.size, 1, none⟩ (.bool bad7) hBw (by show w.heap.size < _; omega)
      have hlen7 := sTake_len L s5 (smallN true)
      generalize hq : (sTake L s5 (smallN true)).1 = s7 at st7
      have HS7 : Hid ((sTake L s5 (smallN true)).1 = s7) := hq
      clear hq
      generalize hq : (sTake L s5 (smallN true)).2 = l7 at hy7 hlen7
      have HL7 : Hid ((sTake L s5 (smallN true)).2 = l7) := hq
      clear hq su7 hx7 hs7 hb7 st5
      obtain ⟨p0, p1⟩ := box_two2 st7.sb
      obtain ⟨g0, g1, g2⟩ := box_form st7.fb
      obtain ⟨h0, h1, h2, h3⟩ := box_four st7.eb
      have fe := box_frozen st7.eb
      obtain ⟨A7, B7, hB7⟩ := hy7.ex
      go_wp2_with fail
      generalize (v7.setCell ⟨w.heap.size, 0, none⟩ (.slice ta7 tn7 tc7)).setCell ⟨w.heap.size, 1, none⟩ (.bool bad7) = w8 at st7 hy7 hB7 p0 p1 g0 g1 g2 h0 h1 h2 h3 fe ⊢
      refine (l2Get_high a7 (smallN true) c7 (by decide) l7 w8 A7 B7 hB7).mono ?_
      rintro e w8' ⟨rfl, hw8⟩
      subst hw8
      have st8 := st7.eput 2 (.int .i64 (numOf true l7)) key ⟨#[]⟩ (numOf true l7) 0 rfl
      generalize hq : numOf true l7 = ov at st8 ⊢
      have HOV : Hid (numOf true l7 = ov) := hq
      clear hq st7 hB7 hy7
      go_wp2_with fail
      clear x0 x1 fx p0 p1 g0 g1 g2 h0 h1 h2 h3 fe
      generalize w8'.setCell ⟨w.heap.size + 1 + 1 + 1 + 1, 2, none⟩ (.int .i64 ov) = w9 at st8 ⊢
      refine (l2Take_any L s7 (smallN true) (by decide) ta7 tn7 tc7 bad7 w9 A B st8.src (by have := st8.low; have := st8.lt; omega)).mono ?_
      rintro e v9 ⟨ta9, tn9, tc9, bad9, a9, c9, rfl, hs9, hx9, hb9⟩
      have su9 := st8.call hb9
      have hl9 := st8.lt
      obtain ⟨x0, x1⟩ := box_two2 su9.sb
      have fx := box_frozen su9.sb
      have st9 := su9.sput hs9
      have hy9 := (hx9.set ⟨w.heap.size, 0, none⟩ (.slice ta9 tn9 tc9) hBw (by show w.heap.size < _; omega)).set ⟨w.heap.size, 1, none⟩ (.bool bad9) hBw (by show w.heap.size < _; omega)
      have hlen9 := sTake_len L s7 (smallN true)
      generalize hq : (sTake L s7 (smallN true)).1 = s9 at st9
      have HS9 : Hid ((sTake L s7 (smallN true)).1 = s9) := hq
      clear hq
      generalize hq : (sTake L s7 (smallN true)).2 = l9 at hy9 hlen9
      have HL9 : Hid ((sTake L s7 (smallN true)).2 = l9) := hq
      clear hq su9 hx9 hs9 hb9 st8
      obtain ⟨p0, p1⟩ := box_two2 st9.sb
      obtain ⟨g0, g1, g2⟩ := box_form st9.fb
      obtain ⟨h0, h1, h2, h3⟩ := box_four st9.eb
      have fe := box_frozen st9.eb
      obtain ⟨A9, B9, hB9⟩ := hy9.ex
      go_wp2_with fail
      generalize (v9.setCell ⟨w.heap.size, 0, none⟩ (.slice ta9 tn9 tc9)).setCell ⟨w.heap.size, 1, none⟩ (.bool bad9) = w10 at st9 hy9 hB9 p0 p1 g0 g1 g2 h0 h1 h2 h3 fe ⊢
      refine (l2Get_high a9 (smallN true) c9 (by decide) l9 w10 A9 B9 hB9).mono ?_
      rintro e w10' ⟨rfl, hw10⟩
      subst hw10
      have st10 := st9.eput 3 (.int .i64 (numOf true l9)) key ⟨#[]⟩ ov (numOf true l9) rfl
      generalize hq : numOf true l9 = sz at st10 ⊢
      have HSZ : Hid (numOf true l9 = sz) := hq
      clear hq st9 hB9 hy9
      go_wp2_with fail
      clear x0 x1 fx p0 p1 g0 g1 g2 h0 h1 h2 h3 fe
      generalize w10'.setCell ⟨w.heap.size + 1 + 1 + 1 + 1, 3, none⟩ (.int .i64 sz) = w11 at st10 ⊢
      obtain ⟨p0, p1⟩ := box_two2 st10.sb
      obtain ⟨h0, h1, h2, h3⟩ := box_four st10.eb
      have fr1 := box_frozen st10.r1
      have fr2 := box_frozen st10.r2
      obtain ⟨y0, y1⟩ := box_two2 st10.r1
      obtain ⟨k0, k1, k2, k3⟩ := box_four st10.r2
      have HE : Hid (sEnt L s = (s9, (key, ⟨#[]⟩, ov, sz))) := by
        show _ = _
        simp only [sEnt, HN.out, HS1.out, HS3.out, HL3.out, HS5.out, HL5.out, HM.out, HS7.out, HL7.out, HS9.out, HL9.out, HKEY.out, HOV.out, HSZ.out, if_neg h8, if_true]
      have ne1 : ¬ w.heap.size = w.heap.size + 1 + 1 := by omega
      have ne2 : ¬ w.heap.size = w.heap.size + 1 + 1 + 1 := by omega
      have ne3 : ¬ w.heap.size + 1 + 1 = w.heap.size := by omega
      have ne4 : ¬ w.heap.size + 1 + 1 + 1 = w.heap.size := by omega
      go_region_held3 (fun w' => w'.cell? ⟨w.heap.size, 0, none⟩ = some (.slice ta9 tn9 tc9) ∧ w'.cell? ⟨w.heap.size, 1, none⟩ = some (.bool bad9) ∧ w'.cell? ⟨w.heap.size + 1 + 1 + 1 + 1, 0, none⟩ = some (.string key) ∧ w'.cell? ⟨w.heap.size + 1 + 1 + 1 + 1, 1, none⟩ = some (.string ⟨#[]⟩) ∧ w'.cell? ⟨w.heap.size + 1 + 1 + 1 + 1, 2, none⟩ = some (.int .i64 ov) ∧ w'.cell? ⟨w.heap.size + 1 + 1 + 1 + 1, 3, none⟩ = some (.int .i64 sz)) (go_keep) (fail)
      all_goals
        go_wp2
        show bodyPost _ _ _ _ _ (ret6 w11 w.heap.size (.slice ta9 tn9 tc9) (.bool bad9) (.string key) (.string ⟨#[]⟩) (.int .i64 ov) (.int .i64 sz)).drew
        obtain ⟨q0, q1⟩ := box_two2 (w := (ret6 w11 w.heap.size (.slice ta9 tn9 tc9) (.bool bad9) (.string key) (.string ⟨#[]⟩) (.int .i64 ov) (.int .i64 sz)).drew) (N := w.heap.size + 1 + 1) ((drew_heap _ _).trans (ret6_r1 st10.r1 (.slice ta9 tn9 tc9) (.bool bad9) (.string key) (.string ⟨#[]⟩) (.int .i64 ov) (.int .i64 sz)))
        obtain ⟨q2, q3, q4, q5⟩ := box_four (w := (ret6 w11 w.heap.size (.slice ta9 tn9 tc9) (.bool bad9) (.string key) (.string ⟨#[]⟩) (.int .i64 ov) (.int .i64 sz)).drew) (N := w.heap.size + 1 + 1 + 1) ((drew_heap _ _).trans (ret6_r2 st10.r2 (.slice ta9 tn9 tc9) (.bool bad9) (.string key) (.string ⟨#[]⟩) (.int .i64 ov) (.int .i64 sz)))
        refine bodyPost_ret (v := .tuple #[.agg #[.slice ta9 tn9 tc9, .bool bad9], .agg #[.string key, .string ⟨#[]⟩, .int .i64 ov, .int .i64 sz]]) (by simp [results, Try.results84, go_sem, q0, q1, q2, q3, q4, q5]) rfl ?_
        rw [HE.out]
        exact ⟨_, _, _, _, rfl, st10.src.keep (fun x k1 k2 => (drew_heap _ _).trans (ret6_other _ _ _ _ _ _ _ _ x (by have := st10.low; omega) (by have := st10.low; omega))), (ret6_below st10.bel (.slice ta9 tn9 tc9) (.bool bad9) (.string key) (.string ⟨#[]⟩) (.int .i64 ov) (.int .i64 sz)).drew⟩
    · have hm1 : (m == 1) = false := by simpa using hm
      have hm2 : decide (m = 1) = false := by simpa using hm
      go_wp2_with fail
      clear x0 x1 fx p0 p1 g0 g1 g2 h0 h1 h2 h3 fe
      clear hc5 hc5a hc5b hy5
      generalize (v5.setCell ⟨w.heap.size, 0, none⟩ (.slice ta5 tn5 tc5)).setCell ⟨w.heap.size, 1, none⟩ (.bool bad5) = w6 at st5 ⊢
      refine (l2Take_any L s5 1 (by omega) ta5 tn5 tc5 bad5 w6 A B st5.src (by have := st5.low; have := st5.lt; omega)).mono ?_
      rintro e v7 ⟨ta7, tn7, tc7, bad7, a7, c7, rfl, hs7, hx7, hb7⟩
      have su7 := st5.call hb7
      have hl7 := st5.lt
      obtain ⟨x0, x1⟩ := box_two2 su7.sb
      have fx := box_frozen su7.sb
      have st7 := su7.sput hs7
      have hy7 := (hx7.set ⟨w.heap.size, 0, none⟩ (.slice ta7 tn7 tc7) hBw (by show w.heap.size < _; omega)).set ⟨w.heap.size, 1, none⟩ (.bool bad7) hBw (by show w.heap.size < _; omega)
      have hlen7 := sTake_len L s5 1
      generalize hq : (sTake L s5 1).1 = s7 at st7
      have HS7 : Hid ((sTake L s5 1).1 = s7) := hq
      clear hq
      generalize hq : (sTake L s5 1).2 = l7 at hy7 hlen7
      have HL7 : Hid ((sTake L s5 1).2 = l7) := hq
      clear hq su7 hx7 hs7 hb7 st5
      obtain ⟨p0, p1⟩ := box_two2 st7.sb
      obtain ⟨g0, g1, g2⟩ := box_form st7.fb
      obtain ⟨h0, h1, h2, h3⟩ := box_four st7.eb
      have fe := box_frozen st7.eb
      obtain ⟨b7, o7, rfl, hc7, hc7a, hc7b⟩ := hy7.byte (by omega)
      obtain ⟨n7, hn7⟩ : ∃ n7 : Nat, l7.getD 0 0 = (n7 : Int) := ⟨(l7.getD 0 0).toNat, by omega⟩
      have hn7l : n7 ≤ 255 := by omega
      have HN7 : Hid ((l7.getD 0 0).toNat = n7) := by show _ = _; rw [hn7]; simp
      rw [hn7] at hc7
      clear hn7 hc7a hc7b
      go_wp2_with fail
      clear x0 x1 fx g0 g1 g2 h0 h1 h2 h3 fe
      generalize (v7.setCell ⟨w.heap.size, 0, none⟩ (.slice ta7 tn7 tc7)).setCell ⟨w.heap.size, 1, none⟩ (.bool bad7) = w8 at st7 hc7 p0 p1 ⊢
      have hl9 := st7.lt
      have hw7 : IntKind.i64.wrap (n7 : Int) = (n7 : Int) := by rw [IntKind.wrap_i64]; omega
      go_region_with (go_at_call 83; refine (l2Take_any L s7 n7 hn7l ta7 tn7 tc7 bad7 w8.drew A B st7.drew.src (Nat.le_trans hBw st7.drew.bel.size)).mono ?_; rintro e v9 ⟨ta9, tn9, tc9, bad9, a9, c9, rfl, hs9, hx9, hb9⟩; have su9 := st7.drew.call hb9; obtain ⟨x0, x1⟩ := box_two2 su9.sb; have fx := box_frozen su9.sb)
      all_goals
        have st9 := su9.sput hs9
        have hy9 := (hx9.set ⟨w.heap.size, 0, none⟩ (.slice ta9 tn9 tc9) hBw (by show w.heap.size < w8.heap.size; omega)).set ⟨w.heap.size, 1, none⟩ (.bool bad9) hBw (by show w.heap.size < w8.heap.size; omega)
        generalize hq : (sTake L s7 n7).1 = s9 at st9
        have HS9 : Hid ((sTake L s7 n7).1 = s9) := hq
        clear hq
        have hlen9 := sTake_len L s7 n7
        generalize hq : (sTake L s7 n7).2 = l9 at hy9 hlen9
        have HL9 : Hid ((sTake L s7 n7).2 = l9) := hq
        clear hq su9 hx9 hs9 hb9 st7 p0 p1 hc7 hy7
        obtain ⟨p0, p1⟩ := box_two2 st9.sb
        obtain ⟨h0, h1, h2, h3⟩ := box_four st9.eb
        have fe := box_frozen st9.eb
        obtain ⟨A9, B9, hB9⟩ := hy9.ex
        have hcv9 := str_conv hB9
        generalize hq : toB l9 = val at hcv9
        have HV : Hid (toB l9 = val) := hq
        clear hq
        go_wp2_with fail
        have st10 := (st9.eput 1 (.string val) key val 0 0 rfl).eput 3 (.int .i64 (n7 : Int)) key val 0 (n7 : Int) rfl
        clear x0 x1 fx p0 p1 h0 h1 h2 h3 fe
        clear st9 hy9 hB9 hcv9
        generalize (((v9.setCell ⟨w.heap.size, 0, none⟩ (.slice ta9 tn9 tc9)).setCell ⟨w.heap.size, 1, none⟩ (.bool bad9)).setCell ⟨w.heap.size + 1 + 1 + 1 + 1, 1, none⟩ (.string val)).setCell ⟨w.heap.size + 1 + 1 + 1 + 1, 3, none⟩ (.int .i64 (n7 : Int)) = w11 at st10 ⊢
        obtain ⟨p0, p1⟩ := box_two2 st10.sb
        obtain ⟨h0, h1, h2, h3⟩ := box_four st10.eb
        have fr1 := box_frozen st10.r1
        have fr2 := box_frozen st10.r2
        obtain ⟨y0, y1⟩ := box_two2 st10.r1
        obtain ⟨k0, k1, k2, k3⟩ := box_four st10.r2
        have HE : Hid (sEnt L s = (s9, (key, val, 0, (n7 : Int)))) := by
          show _ = _
          simp only [sEnt, HN.out, HS1.out, HS3.out, HL3.out, HS5.out, HL5.out, HM.out, HS7.out, HL7.out, HN7.out, HS9.out, HL9.out, HKEY.out, HV.out, if_neg h8, if_neg hm, if_true]
        have ne1 : ¬ w.heap.size = w.heap.size + 1 + 1 := by omega
        have ne2 : ¬ w.heap.size = w.heap.size + 1 + 1 + 1 := by omega
        have ne3 : ¬ w.heap.size + 1 + 1 = w.heap.size := by omega
        have ne4 : ¬ w.heap.size + 1 + 1 + 1 = w.heap.size := by omega
        go_region_held3 (fun w' => w'.cell? ⟨w.heap.size, 0, none⟩ = some (.slice ta9 tn9 tc9) ∧ w'.cell? ⟨w.heap.size, 1, none⟩ = some (.bool bad9) ∧ w'.cell? ⟨w.heap.size + 1 + 1 + 1 + 1, 0, none⟩ = some (.string key) ∧ w'.cell? ⟨w.heap.size + 1 + 1 + 1 + 1, 1, none⟩ = some (.string val) ∧ w'.cell? ⟨w.heap.size + 1 + 1 + 1 + 1, 2, none⟩ = some (.int .i64 0) ∧ w'.cell? ⟨w.heap.size + 1 + 1 + 1 + 1, 3, none⟩ = some (.int .i64 (n7 : Int))) (go_keep) (fail)
        all_goals
          go_wp2
          show bodyPost _ _ _ _ _ (ret6 w11 w.heap.size (.slice ta9 tn9 tc9) (.bool bad9) (.string key) (.string val) (.int .i64 0) (.int .i64 (n7 : Int))).drew
          obtain ⟨q0, q1⟩ := box_two2 (w := (ret6 w11 w.heap.size (.slice ta9 tn9 tc9) (.bool bad9) (.string key) (.string val) (.int .i64 0) (.int .i64 (n7 : Int))).drew) (N := w.heap.size + 1 + 1) ((drew_heap _ _).trans (ret6_r1 st10.r1 (.slice ta9 tn9 tc9) (.bool bad9) (.string key) (.string val) (.int .i64 0) (.int .i64 (n7 : Int))))
          obtain ⟨q2, q3, q4, q5⟩ := box_four (w := (ret6 w11 w.heap.size (.slice ta9 tn9 tc9) (.bool bad9) (.string key) (.string val) (.int .i64 0) (.int .i64 (n7 : Int))).drew) (N := w.heap.size + 1 + 1 + 1) ((drew_heap _ _).trans (ret6_r2 st10.r2 (.slice ta9 tn9 tc9) (.bool bad9) (.string key) (.string val) (.int .i64 0) (.int .i64 (n7 : Int))))
          refine bodyPost_ret (v := .tuple #[.agg #[.slice ta9 tn9 tc9, .bool bad9], .agg #[.string key, .string val, .int .i64 0, .int .i64 (n7 : Int)]]) (by simp [results, Try.results84, go_sem, q0, q1, q2, q3, q4, q5]) rfl ?_
          rw [HE.out]
          exact ⟨_, _, _, _, rfl, st10.src.keep (fun x k1 k2 => (drew_heap _ _).trans (ret6_other _ _ _ _ _ _ _ _ x (by have := st10.low; omega) (by have := st10.low; omega))), (ret6_below st10.bel (.slice ta9 tn9 tc9) (.bool bad9) (.string key) (.string val) (.int .i64 0) (.int .i64 (n7 : Int))).drew⟩
end Old
end Go.Proofs.Ytcmhobbpeaeebaa
