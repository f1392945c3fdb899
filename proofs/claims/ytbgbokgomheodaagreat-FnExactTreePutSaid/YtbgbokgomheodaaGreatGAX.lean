import Derived.Test.YtbgbokgomheodaaGreatGAT
import Derived.Test.YtbgbokgomheodaaGreatGAW
namespace Go.Proofs.YtbgbokgomheodaaGreat
open Go.RowKit
set_option linter.unusedVariables false
set_option linter.unusedSimpArgs false
set_option maxRecDepth 100000
def innB (ks : List T) : T := ⟨false, 0, [], [], [], ks⟩
theorem emptyN (w : World) : (w.alloc (.cells #[] 56)).ownsRow w.heap.size 56 1 (.slice (some ⟨w.heap.size, 0, none⟩) 0 0) 0 [] := by
 have := World.ownsRow_made w #[] (base := w.heap.size) (e := 56) (size := 1) 0 (by simp) (by unfold maxLen; omega) (by simp)
 simpa using this
set_option maxHeartbeats 1000000 in
theorem cloneN_any (b off n c : Nat) (xs : List Value) (w : World) (hx : xs.length = n) (hn : 0 < n) (hm : n ≤ 1048576) (hb : b < w.heap.size) (h1 : ∀ u ∈ xs, u.oneCell' = true) (hc : ∀ j u, xs[j]? = some u → w.cell? ((⟨b, off, none⟩ : Addr).add j) = some u) :
  Calls Tryz.prog 54 #[.slice (some ⟨b, off, none⟩) n c] w fun e w' => ∃ g vc, e = .returned (.slice (some ⟨g, 0, none⟩) n vc) ∧ w'.ownsRow w.heap.size 56 1 (.slice (some ⟨g, 0, none⟩) n vc) n xs ∧ Below w.heap.size w w' := by
 have hq : ∀ (w : World) (a : Option Addr) (n c n' c' : Nat), (binOp .eql 65 (.slice a n c) (.slice none n' c')).run Tryz.prog w = .ok (.bool a.isNone) w := fun w a n c n' c' => Lib.run_eql_slice_nil w _ _ a n c n' c' Tryz.underlying65
 obtain ⟨i1, hi1, hy0, hy1, hy2⟩ := info_parts info_nodeU
 have hb2 : Below w.heap.size w (w.alloc (.cells #[] 56)) := (Below.refl _ _).alloc (Nat.le_refl _) _
 have hR2 := emptyN w
 have hc2 : ∀ j u, xs[j]? = some u → (w.alloc (.cells #[] 56)).cell? ((⟨b, off, none⟩ : Addr).add j) = some u := fun j u hj => (hb2.cell (p := (⟨b, off, none⟩ : Addr).add j) (by unfold Addr.add; split <;> exact hb)).trans (hc j u hj)
 go_enter Tryz.func54, Tryz.ntmps54
 go_wp2_with (at_builtin; refine wpList_append_ownD _ rfl _ _ 65 rfl w.heap.size 56 i1 _ 1 16 Tryz.underlying65 hi1 hy0 hy1 hy2 rfl (by decide) _ _ _ rfl hR2 ⟨b, off, none⟩ n c xs rfl (by omega) hc2 h1 (by unfold maxLen; omega) (by omega) hb2.size ?_; intro v' w5 hown' hgr' hat'; obtain ⟨n', rfl⟩ : ∃ n', n = n' + 1 := ⟨n - 1, by omega⟩; rw [Nat.zero_add, List.nil_append] at hown'; obtain ⟨g5, e5, rfl⟩ := rowSuccT hown')
 have hb3 := hb2.grown hgr' hb2.size (fun g e => (hR2.lt g e).1)
 go_ret
 exact ⟨g5, e5, rfl, hown', hb3⟩

def upT (ts : List T) : List T := (chunks ts).map innB
def topF : Nat → List T → List T
 | 0, ts => ts
 | f + 1, ts => if 1 < ts.length then topF f (upT ts) else ts
def lvlB (zs : List (ByteArray × ByteArray)) : List T := (chunks zs).map leafB
def rootT (zs : List (ByteArray × ByteArray)) : T := (topF zs.length (lvlB zs)).headD (leafB [])
def sumN (ts : List T) : Nat := (ts.map T.nodes).sum
structure LvOk (n : Nat) (ts : List T) : Prop where
 pos : 0 < ts.length
 le : ts.length ≤ n
 sum : sumN ts + ts.length ≤ 2 * n
 all : ∀ t ∈ ts, t.whole = true ∧ 0 < t.size
set_option maxHeartbeats 1000000 in
theorem told_any {t : T} {ty : TypeId} {v : Value} {P : Nat → Prop} (w : World) (hw : t.whole = true) (hG : GIs w P t (.iface ty v)) (hP : ∀ b, P b → b < w.heap.size) (hn : t.nodes ≤ 10000000) :
  Calls Tryz.prog 29 #[.iface ty v] w fun e w' => ∃ oa oc us, e = .returned (.agg #[.slice oa t.nodes oc]) ∧ OwnT w' w.heap.size (.slice oa t.nodes oc) ((t.flat 0).map TN.nd) us ∧ Below w.heap.size w w' := by
 obtain ⟨W, hW⟩ : ∃ W, W = w.alloc (.cells #[.slice none 0 0] 28) := ⟨_, rfl⟩
 have hb1 : Below w.heap.size w W := by rw [hW]; exact (Below.refl _ _).alloc (Nat.le_refl _) _
 have hs1 : W.heap.size = w.heap.size + 1 := by rw [hW]; simp
 have hx : W.heap[w.heap.size]? = some (.cells #[.slice none 0 0] 28) := by rw [hW]; exact heap_alloc_new w _
 have hG1 : GIs W (fun b => b < w.heap.size) t (.iface ty v) := GIs.keep (fun b hp => hb1.block b (hP b hp)) hP t _ hG
 obtain ⟨ha, f, r, hmt, hcf, hcall⟩ := GIs.tell (base := W.heap.size) (P := fun b => b < w.heap.size) (fun b hp => by have : b < w.heap.size := hp; omega) t ty v hw hG1
 have hcall2 := hcall W (Below.refl _ _) none 0 0 [] (fun _ _ => .slice none 0 0) (OwnT.nil _ _ _) rfl (by omega) (Nat.le_refl _)
 have hcf2 := hcf (.slice none 0 0)
 clear hcall hcf hG1 hG
 go_enter Tryz.func29, Tryz.ntmps29
 go_upto_region 1 with fail
 rw [← hW]
 have HS1 : Hid (W.heap.size = w.heap.size + 1) := hs1
 clear hW hs1
 go_wp2_with fail
 refine hcall2.mono ?_
 rintro ex w9 ⟨oa, oc, us, rfl, hO, hF⟩
 have hO1 : OwnT w9 (w.heap.size + 1) (.slice oa t.nodes oc) ((t.flat 0).map TN.nd) us := by rw [HS1.out, Nat.zero_add, List.nil_append] at hO; exact hO
 rw [Nat.zero_add]
 have hx9 := boxT_fr hx hF (by have := HS1.out; omega)
 have hl9 := (Array.getElem?_eq_some_iff.1 hx9).1
 have c9 : w9.cell? ⟨w.heap.size, 0, none⟩ = some (.slice none 0 0) := by simp [World.cell?, hx9]
 have z9 := box_fz hx9 0
 have hb9 : Below w.heap.size w w9 := hb1.trans (hF.below (by have := HS1.out; omega) (fun b e => by have := HS1.out; omega))
 have F10 := fr_setT w9 w.heap.size 0 (.slice oa t.nodes oc)
 have hO2 : OwnT (w9.setCell ⟨w.heap.size, 0, none⟩ (.slice oa t.nodes oc)) w.heap.size (.slice oa t.nodes oc) ((t.flat 0).map TN.nd) us := (hO1.fr F10 (fun g hg e => by have := (hO1.blk hg).1; omega)).lower (by omega)
 have hb10 : Below w.heap.size w (w9.setCell ⟨w.heap.size, 0, none⟩ (.slice oa t.nodes oc)) := hb9.trans (F10.below (by omega) (fun b e => by omega))
 have HOO : Hid (OwnT (w9.setCell ⟨w.heap.size, 0, none⟩ (.slice oa t.nodes oc)) w.heap.size (.slice oa t.nodes oc) ((t.flat 0).map TN.nd) us) := hO2
 have x10 : (w9.setCell ⟨w.heap.size, 0, none⟩ (.slice oa t.nodes oc)).cell? ⟨w.heap.size, 0, none⟩ = some (.slice oa t.nodes oc) := by simp [World.cell?, World.setCell, Array.getElem?_modify, hx9]
 clear hO hO1 hO2 hF hx F10 hx9
 go_wp2_with fail
 exact bodyPost_ret (v := .agg #[.slice oa t.nodes oc]) (by simp [results, Tryz.results29, go_sem, x10]) rfl ⟨oa, oc, us, rfl, HOO.out, hb10⟩
theorem emptyS (w : World) : (w.alloc (.cells #[] 61)).ownsRow w.heap.size 61 3 (.slice (some ⟨w.heap.size, 0, none⟩) 0 0) 0 [] := by
 have := World.ownsRow_made w #[] (base := w.heap.size) (e := 61) (size := 3) 0 (by simp) (by unfold maxLen; omega) (by simp)
 simpa using this
set_option maxHeartbeats 1000000 in
theorem cloneS_any (b off n c : Nat) (xs : List Value) (w : World) (hx : xs.length = n * 3) (hn : 0 < n) (hm : n ≤ 1048576) (hb : b < w.heap.size) (h1 : ∀ u ∈ xs, u.oneCell' = true) (hc : ∀ j u, xs[j]? = some u → w.cell? ((⟨b, off, none⟩ : Addr).add j) = some u) :
  Calls Tryz.prog 53 #[.slice (some ⟨b, off, none⟩) n c] w fun e w' => ∃ g vc, e = .returned (.slice (some ⟨g, 0, none⟩) n vc) ∧ w'.ownsRow w.heap.size 61 3 (.slice (some ⟨g, 0, none⟩) n vc) n xs ∧ Below w.heap.size w w' := by
 have hq : ∀ (w : World) (a : Option Addr) (n c n' c' : Nat), (binOp .eql 105 (.slice a n c) (.slice none n' c')).run Tryz.prog w = .ok (.bool a.isNone) w := fun w a n c n' c' => Lib.run_eql_slice_nil w _ _ a n c n' c' Tryz.underlying105
 obtain ⟨i1, hi1, hy0, hy1, hy2⟩ := info_parts info_slot
 have hb2 : Below w.heap.size w (w.alloc (.cells #[] 61)) := (Below.refl _ _).alloc (Nat.le_refl _) _
 have hR2 := emptyS w
 have hc2 : ∀ j u, xs[j]? = some u → (w.alloc (.cells #[] 61)).cell? ((⟨b, off, none⟩ : Addr).add j) = some u := fun j u hj => (hb2.cell (p := (⟨b, off, none⟩ : Addr).add j) (by unfold Addr.add; split <;> exact hb)).trans (hc j u hj)
 go_enter Tryz.func53, Tryz.ntmps53
 go_wp2_with (at_builtin; refine wpList_append_ownD _ rfl _ _ 105 rfl w.heap.size 61 i1 _ 3 40 Tryz.underlying105 hi1 hy0 hy1 hy2 rfl (by decide) _ _ _ rfl hR2 ⟨b, off, none⟩ n c xs rfl (by omega) hc2 h1 (by unfold maxLen; omega) (by omega) hb2.size ?_; intro v' w5 hown' hgr' hat'; obtain ⟨n', rfl⟩ : ∃ n', n = n' + 1 := ⟨n - 1, by omega⟩; rw [Nat.zero_add, List.nil_append] at hown'; obtain ⟨g5, e5, rfl⟩ := rowSuccT hown')
 have hb3 := hb2.grown hgr' hb2.size (fun g e => (hR2.lt g e).1)
 go_ret
 exact ⟨g5, e5, rfl, hown', hb3⟩
theorem own_some {g n c y : Nat} (h : (Value.slice (some ⟨g, 0, none⟩) n c).ownBlock = some y) : g = y := by simpa [Value.ownBlock] using h
theorem ta_ll (v : Value) (W : World) : (Instr.typeAssert (.iface 109 v) 56 109 true).run Tryz.prog W = .ok (.tuple #[v, .bool true]) W := by kernel_rfl
theorem ta_il (v : Value) (W : World) : (Instr.typeAssert (.iface 63 v) 56 109 true).run Tryz.prog W = .ok (.tuple #[.pointer none, .bool false]) W := by kernel_rfl
theorem ta_ii (v : Value) (W : World) : (Instr.typeAssert (.iface 63 v) 56 63 true).run Tryz.prog W = .ok (.tuple #[v, .bool true]) W := by kernel_rfl
def PartAns (w : World) (P : Nat → Prop) (t : T) (k : Nat) (u : Value) (e : Ending) (w' : World) : Prop := ∃ u2, e = .returned u2 ∧ (∃ P1 P2 : Nat → Prop, GM w' P1 (t.fore k) u ∧ GM w' P2 (t.rest k) u2 ∧ (∀ b, P1 b → ¬ P2 b) ∧ ∀ b, P1 b ∨ P2 b → (P b ∨ w.heap.size ≤ b) ∧ b < w'.heap.size) ∧ Fr P w w'
theorem owns_fore {w : World} {base e size b n c k : Nat} {xs : List Value} (h : w.ownsRow base e size (.slice (some ⟨b, 0, none⟩) n c) n xs) (hk : k ≤ n) : w.ownsRow base e size (.slice (some ⟨b, 0, none⟩) k c) k (xs.take (k * size)) := by
 have hxl := h.1
 have hks : k * size ≤ n * size := Nat.mul_le_mul_right size hk
 rcases h.2 with ⟨e, _⟩ | ⟨g, cap, cur, e, hb, hg, hnc, hcm, hcs, htk⟩
 ·cases e
 ·simp only [Value.slice.injEq, Option.some.injEq, Addr.mk.injEq] at e
  obtain ⟨⟨rfl, _⟩, _, rfl⟩ := e
  refine ⟨by rw [List.length_take]; omega, .inr ⟨b, c, cur, rfl, hb, hg, by omega, hcm, hcs, ?_⟩⟩
  rw [← htk, List.take_take, Nat.min_eq_left hks]
theorem zip_take3 (k : Nat) (a : List ByteArray) (b : List ByteArray) (c : List Int) : (a.take k).zip ((b.take k).zip (c.take k)) = (a.zip (b.zip c)).take k := by
 simp [List.zip, List.take_zipWith]
theorem zip_drop3 (k : Nat) (a : List ByteArray) (b : List ByteArray) (c : List Int) : (a.drop k).zip ((b.drop k).zip (c.drop k)) = (a.zip (b.zip c)).drop k := by
 simp [List.zip, List.drop_zipWith]
set_option maxHeartbeats 2000000 in
theorem partLeaf_any {w : World} {P : Nat → Prop} {t : T} {L : Nat} {a : Option Addr} {n c : Nat} (h : GML w P t L a n c) (hl : t.leaf = true) (k : Nat) (hk0 : 0 < k) (hkn : k < n) (hn : n ≤ 1000) (hP : ∀ b, P b → b < w.heap.size) :
  Calls Tryz.prog 28 #[.iface 109 (.pointer (some ⟨L, 0, none⟩)), .int .i64 k] w fun e w' => PartAns w P t k (.iface 109 (.pointer (some ⟨L, 0, none⟩))) e w' := by
 obtain ⟨N, hN⟩ : ∃ N, w.heap.size = N := ⟨_, rfl⟩
 obtain ⟨zs, hzs⟩ : ∃ zs, t.keys.zip (t.vals.zip t.over) = zs := ⟨_, rfl⟩
 have hrow0 := h.row
 rw [hzs] at hrow0
 have hzl : zs.length = n := by have := hrow0.1; rw [rowsOf_length sl3] at this; omega
 have hLN : L < N := by have := hP L h.at'; omega
 rcases hrow0.2 with ⟨_, e⟩ | ⟨b, cap, cur, e, _, hg, hnc, hcm, hcs, htk⟩
 ·omega
 simp only [Value.slice.injEq] at e
 obtain ⟨rfl, _, rfl⟩ := e
 obtain ⟨hPb, hbL⟩ := h.blk b rfl
 have hbN := hP b hPb
 have hPL := h.at'
 have hbox0 := h.box
 obtain ⟨pg, hpg⟩ : ∃ pg, t.page = pg := ⟨_, rfl⟩
 rw [hpg] at hbox0
 have hsoil := soil_any hbox0
 have HLEN : Hid (n = t.keys.length ∧ t.keys.zip (t.vals.zip t.over) = zs) := ⟨h.len, hzs⟩
 have hm1 : ∀ w, (nilAhead 273 109 (.pointer (some ⟨L, 0, none⟩)) "loop.example/s02098/impl.soil").run Tryz.prog w = .ok (some false) w := fun w => by kernel_rfl
 have hm2 : ∀ w, (method 273 109 (.pointer (some ⟨L, 0, none⟩)) "loop.example/s02098/impl.soil").run Tryz.prog w = .ok (103, .pointer (some ⟨L, 0, none⟩)) w := fun w => by kernel_rfl
 clear hzs
 have ta1 := ta_ll
 go_enter Tryz.func28, Tryz.ntmps28
 go_wp2_with fail
 refine hsoil.mono ?_
 rintro e W1 ⟨rfl, hW1⟩
 have f1 := fr_setT w L 0 (.int .i64 0)
 rw [← hW1] at f1
 have hbox1 : W1.heap[L]? = some (.cells #[.int .i64 0, .slice (some ⟨b, 0, none⟩) n c] 111) := by rw [hW1]; simpa using heap_setT hbox0 0 (.int .i64 0)
 have hrow1 := owns_fr hrow0 f1 (fun g hg e => by cases hg; exact hbL e)
 have s1 := f1.size
 have F1 : Fr (fun b => P b ∨ N ≤ b) w W1 := f1.weak (fun g e => .inl (by rw [e]; exact hPL))
 have hcl := cloneS_any b (k * 3) (n - k) (c - k) ((rowsOf slCells zs).drop (k * 3)) W1 (by rw [List.length_drop, hrow1.1]; omega) (by omega) (by omega) (by omega) (fun u hu => slots_one zs u (List.mem_of_mem_drop hu)) (fun j u hj => by
  rw [List.getElem?_drop] at hj
  have hjl := (List.getElem?_eq_some_iff.1 hj).1
  rw [hrow1.1] at hjl
  have e : (⟨b, k * 3, none⟩ : Addr).add j = ⟨b, k * 3 + j, none⟩ := by simp [Addr.add]
  rw [e, hrow1.cellAt (k * 3 + j) hjl]
  exact hj)
 obtain ⟨c0, c1⟩ := box_twoG hbox1
 have l1 : L < W1.heap.size := by omega
 have hck : ¬ (c = k) := by omega
 have hkn' : k ≤ n := by omega
 clear hsoil hW1 f1 hbox0 hrow0 hg htk hcs
 go_wp2_with fail
 refine hcl.mono ?_
 rintro e W2 ⟨g, vc, rfl, hr2, hb2⟩
 have hs2 := hb2.size
 have hgl := hr2.lt g rfl
 have ab := (Below.refl W2.heap.size W2).alloc (Nat.le_refl _) (.cells #[.int .i64 0, .slice (some ⟨g, 0, none⟩) (n - k) vc] 111)
 have kb := heap_alloc_new W2 (.cells #[.int .i64 0, .slice (some ⟨g, 0, none⟩) (n - k) vc] 111)
 have hbox3 := (ab.block L (by omega)).trans ((hb2.block L (by omega)).trans hbox1)
 have hrow3 := owns_below (owns_below hrow1 hb2) ab
 have hr3 := owns_below hr2 ab
 obtain ⟨M, hM⟩ : ∃ M, W2.heap.size = M := ⟨_, rfl⟩
 have hs3 : (W2.alloc (.cells #[.int .i64 0, .slice (some ⟨g, 0, none⟩) (n - k) vc] 111)).heap.size = M + 1 := by simp [hM]
 rw [hM] at kb
 have F3 : Fr (fun b => P b ∨ N ≤ b) w (W2.alloc (.cells #[.int .i64 0, .slice (some ⟨g, 0, none⟩) (n - k) vc] 111)) := (F1.trans (Fr.of_below hb2)).trans (Fr.of_below ab)
 go_upto_region 6 with fail
 generalize W2.alloc (.cells #[.int .i64 0, .slice (some ⟨g, 0, none⟩) (n - k) vc] 111) = W3 at *
 clear hcl c0 c1 hb2 ab hbox1 hrow1 hr2 F1
 obtain ⟨c0, c1⟩ := box_twoG hbox3
 have ff := thawT hbox3
 have l3 : L < W3.heap.size := by omega
 have HFIN : Hid (PartAns w P t k (.iface 109 (.pointer (some ⟨L, 0, none⟩))) (.returned (.iface 109 (.pointer (some ⟨M, 0, none⟩)))) (W3.setCell ⟨L, 1, none⟩ (.slice (some ⟨b, 0, none⟩) k c))) := by
  have hst := fr_setT W3 L 1 (.slice (some ⟨b, 0, none⟩) k c)
  have s5 : (W3.setCell ⟨L, 1, none⟩ (.slice (some ⟨b, 0, none⟩) k c)).heap.size = W3.heap.size := by simp [World.setCell]
  have hbox5 : (W3.setCell ⟨L, 1, none⟩ (.slice (some ⟨b, 0, none⟩) k c)).heap[L]? = some (.cells #[.int .i64 0, .slice (some ⟨b, 0, none⟩) k c] 111) := by simpa using heap_setT hbox3 1 (.slice (some ⟨b, 0, none⟩) k c)
  refine ⟨_, rfl, ⟨fun x => x = L ∨ x = b, fun x => x = M ∨ x = g, ?_, ?_, fun x h1 h2 => by omega, fun x hx => ?_⟩, ?_⟩
  ·refine GML.is (a := some ⟨b, 0, none⟩) (n := k) (c := c) ⟨.inl rfl, hbox5, ?_, fun y hy => by cases hy; exact ⟨.inr rfl, hbL⟩, by show k = (t.keys.take k).length; rw [List.length_take, ← HLEN.out.1]; omega⟩ hl
   show World.ownsRow _ 0 _ 3 _ k (rowsOf slCells ((t.keys.take k).zip ((t.vals.take k).zip (t.over.take k))))
   rw [zip_take3, HLEN.out.2, rowsOf_takeG sl3]
   exact owns_fr (owns_fore hrow3 (by omega)) hst (fun y hy e => by cases hy; exact hbL e)
  ·refine GML.is (a := some ⟨g, 0, none⟩) (n := n - k) (c := vc) ⟨.inl rfl, (hst.block M (by omega) (by omega)).trans kb, ?_, fun y hy => by cases hy; exact ⟨.inr rfl, by show g ≠ M; omega⟩, by show n - k = (t.keys.drop k).length; rw [List.length_drop, ← HLEN.out.1]⟩ hl
   show World.ownsRow _ 0 _ 3 _ (n - k) (rowsOf slCells ((t.keys.drop k).zip ((t.vals.drop k).zip (t.over.drop k))))
   rw [zip_drop3, HLEN.out.2, rowsOf_dropG sl3]
   exact owns_fr (owns_base hr3 (Nat.zero_le _)) hst (fun y hy e => by have := own_some hy; omega)
  ·rw [s5]
   rcases hx with (rfl | rfl) | (rfl | rfl)
   ·exact ⟨.inl hPL, by omega⟩
   ·exact ⟨.inl hPb, by omega⟩
   ·exact ⟨.inr (by omega), by omega⟩
   ·exact ⟨.inr (by omega), by omega⟩
  ·refine fr_tight ?_
   rw [hN]
   exact F3.trans (hst.weak (fun y e => .inl (by rw [e]; exact hPL)))
 clear hbox3 hrow3 hr3 kb F3 hgl
 go_wp2_with fail
 go_ret
 exact HFIN.out
set_option maxHeartbeats 2000000 in
theorem partInner_any {w : World} {P : Nat → Prop} {t : T} {L : Nat} {a : Option Addr} {n c : Nat} {ul : List Value} {Q : Nat → Nat → Prop} (h : GMI w P t L a n c ul Q) (hl : t.leaf = false) (k : Nat) (hk0 : 0 < k) (hkn : k < n) (hn : n ≤ 1000) (hP : ∀ b, P b → b < w.heap.size) (h1 : ∀ u ∈ ul, u.oneCell' = true) :
  Calls Tryz.prog 28 #[.iface 63 (.pointer (some ⟨L, 0, none⟩)), .int .i64 k] w fun e w' => PartAns w P t k (.iface 63 (.pointer (some ⟨L, 0, none⟩))) e w' := by
 obtain ⟨N, hN⟩ : ∃ N, w.heap.size = N := ⟨_, rfl⟩
 have hrow0 := h.row
 have hul : ul.length = n := by have := hrow0.1; omega
 have hLN : L < N := by have := hP L h.at'; omega
 rcases hrow0.2 with ⟨_, e⟩ | ⟨b, cap, cur, e, _, hg, hnc, hcm, hcs, htk⟩
 ·omega
 simp only [Value.slice.injEq] at e
 obtain ⟨rfl, _, rfl⟩ := e
 obtain ⟨hPb, hbL⟩ := h.blk b rfl
 have hbN := hP b hPb
 have hPL := h.at'
 have hbox0 := h.box
 obtain ⟨pg, hpg⟩ : ∃ pg, t.page = pg := ⟨_, rfl⟩
 rw [hpg] at hbox0
 have hsoil := soil_any hbox0
 have HH : Hid (GMI w P t L (some ⟨b, 0, none⟩) n c ul Q) := h
 have hm1 : ∀ w, (nilAhead 273 63 (.pointer (some ⟨L, 0, none⟩)) "loop.example/s02098/impl.soil").run Tryz.prog w = .ok (some false) w := fun w => by kernel_rfl
 have hm2 : ∀ w, (method 273 63 (.pointer (some ⟨L, 0, none⟩)) "loop.example/s02098/impl.soil").run Tryz.prog w = .ok (103, .pointer (some ⟨L, 0, none⟩)) w := fun w => by kernel_rfl
 clear h
 have ta1 := ta_il
 have ta2 := ta_ii
 go_enter Tryz.func28, Tryz.ntmps28
 go_wp2_with fail
 refine hsoil.mono ?_
 rintro e W1 ⟨rfl, hW1⟩
 have f1 := fr_setT w L 0 (.int .i64 0)
 rw [← hW1] at f1
 have hbox1 : W1.heap[L]? = some (.cells #[.int .i64 0, .slice (some ⟨b, 0, none⟩) n c] 69) := by rw [hW1]; simpa using heap_setT hbox0 0 (.int .i64 0)
 have hrow1 := owns_fr hrow0 f1 (fun g hg e => by cases hg; exact hbL e)
 have s1 := f1.size
 have F1 : Fr (fun b => b = L ∨ N ≤ b) w W1 := f1.weak (fun g e => .inl e)
 have hcl := cloneN_any b k (n - k) (c - k) (ul.drop k) W1 (by rw [List.length_drop, hul]) (by omega) (by omega) (by omega) (fun u hu => h1 u (List.mem_of_mem_drop hu)) (fun j u hj => by
  rw [List.getElem?_drop] at hj
  have hjl := (List.getElem?_eq_some_iff.1 hj).1
  have e : (⟨b, k, none⟩ : Addr).add j = ⟨b, k + j, none⟩ := by simp [Addr.add]
  rw [e, hrow1.cellAt (k + j) (by omega)]
  exact hj)
 obtain ⟨c0, c1⟩ := box_twoG hbox1
 have l1 : L < W1.heap.size := by omega
 have hck : ¬ (c = k) := by omega
 have hkn' : k ≤ n := by omega
 clear hsoil hW1 f1 hbox0 hrow0 hg htk hcs
 go_wp2_with fail
 refine hcl.mono ?_
 rintro e W2 ⟨g, vc, rfl, hr2, hb2⟩
 have hs2 := hb2.size
 have hgl := hr2.lt g rfl
 have ab := (Below.refl W2.heap.size W2).alloc (Nat.le_refl _) (.cells #[.int .i64 0, .slice (some ⟨g, 0, none⟩) (n - k) vc] 69)
 have kb := heap_alloc_new W2 (.cells #[.int .i64 0, .slice (some ⟨g, 0, none⟩) (n - k) vc] 69)
 have hbox3 := (ab.block L (by omega)).trans ((hb2.block L (by omega)).trans hbox1)
 have hrow3 := owns_below (owns_below hrow1 hb2) ab
 have hr3 := owns_below hr2 ab
 obtain ⟨M, hM⟩ : ∃ M, W2.heap.size = M := ⟨_, rfl⟩
 have hs3 : (W2.alloc (.cells #[.int .i64 0, .slice (some ⟨g, 0, none⟩) (n - k) vc] 69)).heap.size = M + 1 := by simp [hM]
 rw [hM] at kb
 have F3 : Fr (fun b => b = L ∨ N ≤ b) w (W2.alloc (.cells #[.int .i64 0, .slice (some ⟨g, 0, none⟩) (n - k) vc] 69)) := (F1.trans (Fr.of_below hb2)).trans (Fr.of_below ab)
 go_upto_region 11 with fail
 generalize W2.alloc (.cells #[.int .i64 0, .slice (some ⟨g, 0, none⟩) (n - k) vc] 69) = W3 at *
 clear hcl c0 c1 hb2 ab hbox1 hrow1 hr2 F1
 obtain ⟨c0, c1⟩ := box_twoG hbox3
 have ff := thawT hbox3
 have l3 : L < W3.heap.size := by omega
 have HFIN : Hid (PartAns w P t k (.iface 63 (.pointer (some ⟨L, 0, none⟩))) (.returned (.iface 63 (.pointer (some ⟨M, 0, none⟩)))) (W3.setCell ⟨L, 1, none⟩ (.slice (some ⟨b, 0, none⟩) k c))) := by
  have hst := fr_setT W3 L 1 (.slice (some ⟨b, 0, none⟩) k c)
  have s5 : (W3.setCell ⟨L, 1, none⟩ (.slice (some ⟨b, 0, none⟩) k c)).heap.size = W3.heap.size := by simp [World.setCell]
  have hbox5 : (W3.setCell ⟨L, 1, none⟩ (.slice (some ⟨b, 0, none⟩) k c)).heap[L]? = some (.cells #[.int .i64 0, .slice (some ⟨b, 0, none⟩) k c] 69) := by simpa using heap_setT hbox3 1 (.slice (some ⟨b, 0, none⟩) k c)
  have F5 : Fr (fun b => b = L ∨ N ≤ b) w (W3.setCell ⟨L, 1, none⟩ (.slice (some ⟨b, 0, none⟩) k c)) := F3.trans (hst.weak (fun y e => .inl e))
  have HG := HH.out
  have hQlt : ∀ i x, Q i x → x < N := fun i x hx => by have := hP x (HG.sub i x hx).1; omega
  have hkid : ∀ i z, t.kids[i]? = some z → GM (W3.setCell ⟨L, 1, none⟩ (.slice (some ⟨b, 0, none⟩) k c)) (Q i) z (ul.getD i .nilIface) := fun i z hz =>
   GM.keep z (Q i) (Q i) _ (fun x hx => F5.block x (by have := hQlt i x hx; omega) (fun e => by
    rcases e with e | e
    ·exact (HG.sub i x hx).2.1 e
    ·have := hQlt i x hx; omega)) (fun _ h => h) (HG.kid i z (List.mem_of_getElem? hz) hz)
  refine ⟨_, rfl, ⟨fun x => x = L ∨ x = b ∨ ∃ i, i < k ∧ Q i x, fun x => x = M ∨ x = g ∨ ∃ i, k ≤ i ∧ Q i x, ?_, ?_, fun x h1 h2 => ?_, fun x hx => ?_⟩, ?_⟩
  ·refine GMI.is (a := some ⟨b, 0, none⟩) (n := k) (c := c) (ul := ul.take k) (Q := fun i x => i < k ∧ Q i x) ⟨.inl rfl, hbox5, ?_, fun y hy => by cases hy; exact ⟨.inr (.inl rfl), hbL⟩, by show k = (t.kids.take k).length; rw [List.length_take, ← HG.len]; omega, fun i j x h1 h2 => HG.dis i j x h1.2 h2.2, fun i x hx => ⟨.inr (.inr ⟨i, hx⟩), (HG.sub i x hx.2).2.1, (HG.sub i x hx.2).2.2⟩, fun i z hm hi => ?_⟩ hl
   ·have := owns_fr (owns_fore hrow3 (k := k) (by omega)) hst (fun y hy e => by cases hy; exact hbL e)
    rw [Nat.mul_one] at this
    exact this
   ·have hik : i < k := by
     have := (List.getElem?_eq_some_iff.1 hi).1
     simp [T.fore] at this
     omega
    have hz : t.kids[i]? = some z := by simpa [T.fore, List.getElem?_take, hik] using hi
    have e : (ul.take k).getD i .nilIface = ul.getD i .nilIface := by simp [List.getD, List.getElem?_take, hik]
    rw [e]
    exact GM.keep z (Q i) _ _ (fun _ _ => rfl) (fun x hx => ⟨hik, hx⟩) (hkid i z hz)
  ·refine GMI.is (a := some ⟨g, 0, none⟩) (n := n - k) (c := vc) (ul := ul.drop k) (Q := fun i x => Q (k + i) x) ⟨.inl rfl, (hst.block M (by omega) (by omega)).trans kb, ?_, fun y hy => by cases hy; exact ⟨.inr (.inl rfl), by show g ≠ M; omega⟩, by show n - k = (t.kids.drop k).length; rw [List.length_drop, ← HG.len], fun i j x h1 h2 => by have := HG.dis _ _ x h1 h2; omega, fun i x hx => ⟨.inr (.inr ⟨k + i, by omega, hx⟩), by have := hQlt _ x hx; omega, fun e => by have := own_some e; have := hQlt _ _ hx; omega⟩, fun i z hm hi => ?_⟩ hl
   ·exact owns_fr (owns_base hr3 (Nat.zero_le _)) hst (fun y hy e => by have := own_some hy; omega)
   ·have hz : t.kids[k + i]? = some z := by simpa [T.rest, List.getElem?_drop] using hi
    have e : (ul.drop k).getD i .nilIface = ul.getD (k + i) .nilIface := by simp [List.getD, List.getElem?_drop]
    rw [e]
    exact hkid (k + i) z hz
  ·rcases h1 with rfl | rfl | ⟨i, hi, hq⟩
   ·rcases h2 with h2 | h2 | ⟨j, hj, hq2⟩
    ·omega
    ·omega
    ·exact (HG.sub j _ hq2).2.1 rfl
   ·rcases h2 with h2 | h2 | ⟨j, hj, hq2⟩
    ·omega
    ·omega
    ·exact (HG.sub j _ hq2).2.2 rfl
   ·have hx := hQlt i x hq
    rcases h2 with h2 | h2 | ⟨j, hj, hq2⟩
    ·omega
    ·omega
    ·have := HG.dis i j x hq hq2; omega
  ·rw [s5]
   rcases hx with (rfl | rfl | ⟨i, _, hq⟩) | (rfl | rfl | ⟨i, _, hq⟩)
   ·exact ⟨.inl hPL, by omega⟩
   ·exact ⟨.inl hPb, by omega⟩
   ·exact ⟨.inl (HG.sub i x hq).1, by have := hQlt i x hq; omega⟩
   ·exact ⟨.inr (by omega), by omega⟩
   ·exact ⟨.inr (by omega), by omega⟩
   ·exact ⟨.inl (HG.sub i x hq).1, by have := hQlt i x hq; omega⟩
  ·refine fr_tight ?_
   rw [hN]
   exact F5.weak (fun y e => by rcases e with e | e; exact .inl (by rw [e]; exact hPL); exact .inr e)
 clear hbox3 hrow3 hr3 kb F3 hgl
 go_wp2_with fail
 go_ret
 exact HFIN.out
theorem GMI.one {w : World} {P : Nat → Prop} {t : T} {L : Nat} {a : Option Addr} {n c : Nat} {ul : List Value} {Q : Nat → Nat → Prop} (h : GMI w P t L a n c ul Q) : ∀ u ∈ ul, u.oneCell' = true := by
 intro u hu
 obtain ⟨i, hi, rfl⟩ := List.mem_iff_getElem.1 hu
 have hul := h.row.1
 have hlen := h.len
 obtain ⟨k, hk⟩ : ∃ k, t.kids[i]? = some k := ⟨_, List.getElem?_eq_getElem (by omega)⟩
 have hg := h.kid i k (List.mem_of_getElem? hk) hk
 have e : ul.getD i .nilIface = ul[i] := by simp [List.getD, hi]
 rw [e] at hg
 obtain ⟨ty, v, e2⟩ := hg.shape
 rw [e2]
 rfl
theorem part_any {w : World} {P : Nat → Prop} {t : T} {u : Value} (h : GM w P t u) (k : Nat) (hk0 : 0 < k) (hkn : k < t.size) (hn : t.size ≤ 1000) (hP : ∀ b, P b → b < w.heap.size) : Calls Tryz.prog 28 #[u, .int .i64 k] w fun e w' => PartAns w P t k u e w' := by
 cases hl : t.leaf
 ·obtain ⟨L, a, n, c, ul, Q, rfl, q⟩ := h.inner hl
  have hs : t.size = n := by rw [q.len]; simp [T.size, hl]
  exact partInner_any q hl k hk0 (by omega) (by omega) hP q.one
 ·obtain ⟨L, a, n, c, rfl, q⟩ := h.leaf hl
  have hs : t.size = n := by rw [q.len]; simp [T.size, hl]
  exact partLeaf_any q hl k hk0 (by omega) (by omega) hP
theorem GM.size {w : World} {P : Nat → Prop} {t : T} {ty : TypeId} {v : Value} (h : GM w P t (.iface ty v)) : Obs w ty v "loop.example/s02098/impl.size" (.int .i64 t.size) := by
 cases hl : t.leaf
 ·obtain ⟨L, a, n, c, ul, Q, e, q⟩ := h.inner hl
  cases e
  have hs : t.size = n := by rw [q.len]; simp [T.size, hl]
  refine ⟨fun w => by kernel_rfl, 101, .pointer (some ⟨L, 0, none⟩), fun w => by kernel_rfl, fun w => by kernel_rfl, ?_⟩
  rw [hs]; exact innerSize_g q.box
 ·obtain ⟨L, a, n, c, e, q⟩ := h.leaf hl
  cases e
  have hs : t.size = n := by rw [q.len]; simp [T.size, hl]
  refine ⟨fun w => by kernel_rfl, 122, .pointer (some ⟨L, 0, none⟩), fun w => by kernel_rfl, fun w => by kernel_rfl, ?_⟩
  rw [hs]; exact leafSize_g q.see
def Wider (w w' : World) (P : Nat → Prop) : Nat → Prop := fun b => (P b ∨ w.heap.size ≤ b) ∧ b < w'.heap.size
theorem getD_set {ys : List T} {m i : Nat} {k z : T} (h : (ys.set m k)[i]? = some z) : (i = m ∧ z = k ∧ m < ys.length) ∨ (i ≠ m ∧ ys[i]? = some z) := by
 rw [List.getElem?_set] at h
 split at h
 ·rename_i e
  split at h
  ·rename_i h2
   simp at h
   exact .inl ⟨e.symm, h.symm, h2⟩
  ·cases h
 ·rename_i e
  exact .inr ⟨fun e2 => e e2.symm, h⟩
theorem GMI.swap {w w' : World} {P : Nat → Prop} {t : T} {L : Nat} {a : Option Addr} {n c : Nat} {ul : List Value} {Q : Nat → Nat → Prop} (h : GMI w P t L a n c ul Q) (hP : ∀ b, P b → b < w.heap.size) {m : Nat} (hm : m < n) {R : Nat → Prop} {k : T} (hf : Fr (Q m) w w') (hk : GM w' R k (ul.getD m .nilIface)) (hR : ∀ b, R b → (Q m b ∨ w.heap.size ≤ b) ∧ b < w'.heap.size) :
  GMI w' (Wider w w' P) { t with kids := t.kids.set m k } L a n c ul (fun i b => if i = m then R b else Q i b) := by
 have hsz := hf.size
 have hL := hP L h.at'
 have hQL : ¬ Q m L := fun e => (h.sub m L e).2.1 rfl
 refine ⟨⟨.inl h.at', by omega⟩, (hf.block L hL hQL).trans h.box, owns_fr h.row hf (fun g hg e => (h.sub m g e).2.2 hg), fun g hg => ⟨⟨.inl (h.blk g hg).1, by have := hP g (h.blk g hg).1; omega⟩, (h.blk g hg).2⟩, by simpa using h.len, fun i j b hi hj => ?_, fun i b hi => ?_, fun i z hz hi => ?_⟩
 ·skip
  split at hi <;> split at hj
  ·omega
  ·rename_i e1 e2
   rcases (hR b hi).1 with e | e
   ·have := h.dis m j b e hj; omega
   ·have := hP b (h.sub j b hj).1; omega
  ·rename_i e1 e2
   rcases (hR b hj).1 with e | e
   ·have := h.dis i m b hi e; omega
   ·have := hP b (h.sub i b hi).1; omega
  ·exact h.dis i j b hi hj
 ·skip
  split at hi
  ·have h9 := hR b hi
   rcases h9.1 with e | e
   ·exact ⟨⟨.inl (h.sub m b e).1, h9.2⟩, (h.sub m b e).2⟩
   ·exact ⟨⟨.inr e, h9.2⟩, by omega, fun e2 => by have := hP b (h.blk b e2).1; omega⟩
  ·exact ⟨⟨.inl (h.sub i b hi).1, by have := hP b (h.sub i b hi).1; omega⟩, (h.sub i b hi).2⟩
 ·rcases getD_set hi with ⟨rfl, rfl, _⟩ | ⟨hne, hz2⟩
  ·simp only [if_true]; exact hk
  ·simp only [if_neg hne]
   exact GM.keep z (Q i) (Q i) _ (fun b hb => hf.block b (hP b (h.sub i b hb).1) (fun e => hne (h.dis i m b hb e))) (fun _ hb => hb) (h.kid i z (List.mem_of_getElem? hz2) hz2)
theorem GMI.ins {w w4 : World} {P : Nat → Prop} {t : T} {L : Nat} {a a' : Option Addr} {n c c' j : Nat} {ul : List Value} {Q : Nat → Nat → Prop} (h : GMI w P t L a n c ul Q) (hP : ∀ b, P b → b < w.heap.size) (hj : j ≤ n) {R : Nat → Prop} {k : T} {u : Value} (hk : GM w R k u) (hRP : ∀ b, R b → P b) (hRQ : ∀ i b, R b → ¬ Q i b) (hRL : ¬ R L) (hRg : ∀ g, (Value.slice a n c).ownBlock = some g → ¬ R g)
  (g1 : w4.ownsRow 0 56 1 (.slice a' (n + 1) c') (n + 1) (ul.take j ++ [u] ++ ul.drop j)) (g2 : w.grownBy w4 (Value.slice a n c).ownBlock) (g3 : (Value.slice a' (n + 1) c').ownBlock = (Value.slice a n c).ownBlock ∨ ∀ g, (Value.slice a' (n + 1) c').ownBlock = some g → w.heap.size ≤ g) :
  GMI (w4.setCell ⟨L, 1, none⟩ (.slice a' (n + 1) c')) (Wider w w4 P) { t with kids := t.kids.take j ++ [k] ++ t.kids.drop j } L a' (n + 1) c' (ul.take j ++ [u] ++ ul.drop j) (fun i b => if i < j then Q i b else if i = j then R b else Q (i - 1) b) ∧ w4.heap[L]? = some (.cells #[.int .i64 t.page, .slice a n c] 69) := by
 have hul : ul.length = n := by have := h.row.1; omega
 have hlen := h.len
 have hL := hP L h.at'
 have hs4 := g2.size
 have hst := fr_setT w4 L 1 (.slice a' (n + 1) c')
 have hbox4 : w4.heap[L]? = some (.cells #[.int .i64 t.page, .slice a n c] 69) := (g2.block L hL (fun e => (h.blk L e.symm).2 rfl)).trans h.box
 have hkeep : ∀ b, P b → b ≠ L → (Value.slice a n c).ownBlock ≠ some b → (w4.setCell ⟨L, 1, none⟩ (.slice a' (n + 1) c')).heap[b]? = w.heap[b]? := fun b h1 h2 h3 => (hst.block b (by have := hP b h1; omega) h2).trans (g2.block b (hP b h1) (fun e => h3 e.symm))
 have hnew : ∀ b, P b → (Value.slice a n c).ownBlock ≠ some b → (Value.slice a' (n + 1) c').ownBlock ≠ some b := fun b h1 h2 e => by
  rcases g3 with e1 | e1
  ·rw [e1] at e; exact h2 e
  ·have := e1 b e; have := hP b h1; omega
 have hnL : ∀ g, (Value.slice a' (n + 1) c').ownBlock = some g → g ≠ L := fun g hg e => by
  rcases g3 with e1 | e1
  ·rw [e1] at hg; exact (h.blk g hg).2 e
  ·have := e1 g hg; omega
 have hRo : ∀ b, R b → (Value.slice a n c).ownBlock ≠ some b := fun b hb e => hRg b e hb
 refine ⟨⟨⟨.inl h.at', by omega⟩, ?_, ?_, fun g hg => ⟨⟨?_, (g1.lt g hg).2⟩, hnL g hg⟩, ?_, fun i i' b hi hi' => ?_, fun i b hi => ?_, fun i z hz hi => ?_⟩, hbox4⟩
 ·simpa using heap_setT hbox4 1 (.slice a' (n + 1) c')
 ·exact owns_fr g1 hst (fun g hg e => hnL g hg e)
 ·rcases g3 with e1 | e1
  ·rw [e1] at hg; exact .inl (h.blk g hg).1
  ·exact .inr (e1 g hg)
 ·simp only [List.length_append, List.length_take, List.length_drop, List.length_cons, List.length_nil]; omega
 ·skip
  split at hi <;> split at hi'
  ·exact h.dis i i' b hi hi'
  ·split at hi'
   ·exact absurd hi (hRQ i b hi')
   ·have := h.dis i (i' - 1) b hi hi'; omega
  ·split at hi
   ·exact absurd hi' (hRQ i' b hi)
   ·have := h.dis (i - 1) i' b hi hi'; omega
  ·split at hi <;> split at hi'
   ·omega
   ·exact absurd hi' (hRQ _ b hi)
   ·exact absurd hi (hRQ _ b hi')
   ·have := h.dis (i - 1) (i' - 1) b hi hi'; omega
 ·skip
  have hq : ∀ i, Q i b → Wider w w4 P b ∧ b ≠ L ∧ (Value.slice a' (n + 1) c').ownBlock ≠ some b := fun i hi => by
   have h9 := h.sub i b hi
   exact ⟨⟨.inl h9.1, by have := hP b h9.1; omega⟩, h9.2.1, hnew b h9.1 h9.2.2⟩
  split at hi
  ·exact hq i hi
  ·split at hi
   ·exact ⟨⟨.inl (hRP b hi), by have := hP b (hRP b hi); omega⟩, fun e => hRL (by rw [← e]; exact hi), hnew b (hRP b hi) (hRo b hi)⟩
   ·exact hq _ hi
 ·have hkq : ∀ i z, t.kids[i]? = some z → GM (w4.setCell ⟨L, 1, none⟩ (.slice a' (n + 1) c')) (Q i) z (ul.getD i .nilIface) := fun i z hz =>
   GM.keep z (Q i) (Q i) _ (fun b hb => hkeep b (h.sub i b hb).1 (h.sub i b hb).2.1 (h.sub i b hb).2.2) (fun _ hb => hb) (h.kid i z (List.mem_of_getElem? hz) hz)
  dsimp only at hi
  rw [List.append_assoc] at hi
  by_cases h1 : i < j
  ·rw [List.getElem?_append_left (by rw [List.length_take]; omega), List.getElem?_take, if_pos h1] at hi
   have e : (ul.take j ++ [u] ++ ul.drop j).getD i .nilIface = ul.getD i .nilIface := by
    simp only [List.getD, List.append_assoc]
    rw [List.getElem?_append_left (by rw [List.length_take]; omega), List.getElem?_take, if_pos h1]
   rw [e]
   simp only [if_pos h1]
   exact hkq i z hi
  ·rw [List.getElem?_append_right (by rw [List.length_take]; omega), List.length_take, show min j t.kids.length = j by omega] at hi
   by_cases h2 : i = j
   ·subst h2
    simp at hi
    subst hi
    have e : (ul.take i ++ [u] ++ ul.drop i).getD i .nilIface = u := by
     simp only [List.getD, List.append_assoc]
     rw [List.getElem?_append_right (by rw [List.length_take]; omega), List.length_take, show min i ul.length = i by omega, Nat.sub_self]
     rfl
    rw [e]
    simp only [Nat.lt_irrefl, if_false, if_true]
    exact GM.keep k R R u (fun b hb => hkeep b (hRP b hb) (fun e => hRL (by rw [← e]; exact hb)) (hRo b hb)) (fun _ h => h) hk
   ·obtain ⟨d, rfl⟩ : ∃ d, i = j + 1 + d := ⟨i - (j + 1), by omega⟩
    have hd : j + 1 + d - j = d + 1 := by omega
    rw [hd] at hi
    simp only [List.cons_append, List.nil_append, List.getElem?_cons_succ, List.getElem?_drop] at hi
    have e : (ul.take j ++ [u] ++ ul.drop j).getD (j + 1 + d) .nilIface = ul.getD (j + d) .nilIface := by
     simp only [List.getD, List.append_assoc]
     rw [List.getElem?_append_right (by rw [List.length_take]; omega), List.length_take, show min j ul.length = j by omega, hd]
     simp only [List.cons_append, List.nil_append, List.getElem?_cons_succ, List.getElem?_drop]
    rw [e]
    simp only [if_neg h1, if_neg h2, show j + 1 + d - 1 = j + d by omega]
    exact hkq (j + d) z hi
end Go.Proofs.YtbgbokgomheodaaGreat
