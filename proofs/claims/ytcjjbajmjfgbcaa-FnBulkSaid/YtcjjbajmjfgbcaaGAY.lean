import Derived.Test.YtcjjbajmjfgbcaaGAA
import Derived.Test.YtcjjbajmjfgbcaaTtd
namespace Go.Proofs.Ytcjjbajmjfgbcaa
open Go.RowKit
set_option linter.unusedVariables false
set_option linter.unusedSimpArgs false
set_option maxRecDepth 100000
def shareN (n : Nat) : Nat := if n = 5 then 3 else min n 4
theorem shareN_le {n : Nat} (h : 0 < n) : 0 < shareN n ∧ shareN n ≤ n ∧ shareN n ≤ 4 := by
 unfold shareN
 split <;> omega
def sharesF : Nat → Nat → List Int
 | 0, _ => []
 | f + 1, n => if n = 0 then [] else (shareN n : Int) :: sharesF f (n - shareN n)
def sharesL (n : Nat) : List Int := sharesF n n
theorem sharesF_more : ∀ (f f' n : Nat), n ≤ f → n ≤ f' → sharesF f n = sharesF f' n
 | 0, 0, n, _, _ => rfl
 | 0, f' + 1, n, h, _ => by
  have : n = 0 := by omega
  subst this; simp [sharesF]
 | f + 1, 0, n, _, h => by
  have : n = 0 := by omega
  subst this; simp [sharesF]
 | f + 1, f' + 1, n, h, h' => by
  simp only [sharesF]
  split
  ·rfl
  ·have := shareN_le (n := n) (by omega)
   rw [sharesF_more f f' _ (by omega) (by omega)]
theorem sharesL_zero : sharesL 0 = [] := rfl
theorem sharesL_step {n : Nat} (h : 0 < n) : sharesL n = (shareN n : Int) :: sharesL (n - shareN n) := by
 unfold sharesL
 have hs := shareN_le h
 obtain ⟨m, rfl⟩ : ∃ m, n = m + 1 := ⟨n - 1, by omega⟩
 rw [sharesF, if_neg (by omega), sharesF_more m (m + 1 - shareN (m + 1)) _ (by omega) (by omega)]
theorem sharesL_len (n : Nat) : (sharesL n).length ≤ n := by
 have : ∀ f n, (sharesF f n).length ≤ n := by
  intro f
  induction f with
  | zero => intro n; simp [sharesF]
  | succ f ih =>
   intro n
   rw [sharesF]
   split
   ·simp
   ·have := shareN_le (n := n) (by omega)
    have := ih (n - shareN n)
    simp; omega
 exact this n n
theorem info_int : (Try.prog.info? 3).map (fun i => (i.zero, i.size, i.bytes)) = some (some (.int .i64 0), 1, 8) := by kernel_rfl
set_option maxHeartbeats 1000000 in
theorem shares_any (n : Nat) (hn : n ≤ 10000000) (w : World) :
  Calls Try.prog 37 #[.int .i64 n] w fun e w' => ∃ a c, e = .returned (.slice a (sharesL n).length c) ∧ w'.ownsRow w.heap.size 3 1 (.slice a (sharesL n).length c) (sharesL n).length (rowsOf intCells (sharesL n)) ∧ Below w.heap.size w w' := by
 obtain ⟨i0, hi0, hz0, hz1, hz2⟩ := info_parts info_int
 obtain ⟨FIN, hF⟩ : ∃ F, F = sharesL n := ⟨_, rfl⟩
 rw [← hF]
 have HF : Hid ([] ++ sharesL n = FIN) := hF.symm
 clear hF
 go_enter Try.func37, Try.ntmps37
 go_wp2_with fail
 go_loopw [0, 3, 4] (fun cv o _ wr => ∃ (k : Nat) (xs : List Int) (a : Option Addr) (c : Nat), k + xs.length ≤ n ∧ cv = .int .i64 k ∧ o = .slice a xs.length c ∧ Hid (xs ++ sharesL k = FIN) ∧ Hid (wr.ownsRow w.heap.size 3 1 (.slice a xs.length c) xs.length (rowsOf intCells xs) ∧ Below w.heap.size w wr)) (fun cv _ _ _ => (intOf cv).toNat)
 case atStart => exact ⟨n, [], none, 0, by simp, rfl, rfl, HF, World.ownsRow_nil _ _ _ _, Below.refl _ _⟩
 case round =>
  clear HF
  obtain ⟨k, xs, a, c, hk, rfl, rfl, HX, HO⟩ := hrel
  by_cases h0 : 0 < k
  ·obtain ⟨hs1, hs2, hs3⟩ := shareN_le h0
   have hstep := sharesL_step h0
   obtain ⟨s, hs⟩ : ∃ s, s = shareN k := ⟨_, rfl⟩
   rw [← hs] at hs1 hs2 hs3 hstep
   have HX2 : Hid ((xs ++ [(s : Int)]) ++ sharesL (k - s) = FIN) := by
    show _ = _
    rw [← HX.out, hstep]; simp
   have hd0 : decide ((0 : Int) < (k : Int)) = true := by simp; omega
   have hrow := HO.out.1
   have hbel := HO.out.2
   obtain ⟨xl, hxl⟩ : ∃ xl, xl = xs.length := ⟨_, rfl⟩
   have HXL : Hid (xl = xs.length) := hxl
   rw [← hxl] at hrow hk ⊢
   clear HO HX hstep hxl
   have hcell := cell_one_new wr (.int .i64 (s : Int)) 3
   have hsz := hbel.size
   have HSH : Hid (s = shareN k) := hs
   clear hs
   by_cases h5 : k = 5
   ·have h5d : ((k : Int) == 5) = true := by simp; omega
    have hs3' : s = 3 := by rw [HSH.out, h5]; rfl
    subst hs3'
    clear h5
    go_wp2_with (at_builtin; refine wpList_append_ownD _ rfl _ _ 53 rfl w.heap.size 3 i0 _ 1 8 Try.underlying53 hi0 hz0 hz1 hz2 rfl (by decide) _ _ _ rfl (hrow.alloc _) ⟨wr.heap.size, 0, none⟩ 1 1 [.int .i64 3] rfl rfl hcell (by simp [Value.oneCell']) (by unfold maxLen; omega) (by omega) (by simp; omega) ?_; intro v' w5 hown' hgr' hat'; obtain ⟨g5, e5, rfl⟩ := rowSuccT hown')
    have HR : Hid (w5.ownsRow w.heap.size 3 1 (.slice (some ⟨g5, 0, none⟩) (xs ++ [((3 : Nat) : Int)]).length e5) (xs ++ [((3 : Nat) : Int)]).length (rowsOf intCells (xs ++ [((3 : Nat) : Int)])) ∧ Below w.heap.size w w5) := by
     refine ⟨?_, (hbel.alloc hsz _).grown hgr' (by simp; omega) (fun q e => (hrow.lt q e).1)⟩
     rw [List.length_append, ← HXL.out, show rowsOf intCells (xs ++ [((3 : Nat) : Int)]) = rowsOf intCells xs ++ [.int .i64 3] by simp [rowsOf, intCells]]
     exact hown'
    have HLL : Hid ((xs ++ [((3 : Nat) : Int)]).length = xl + 1) := by show _ = _; rw [List.length_append, ← HXL.out]; rfl
    clear hown' hgr' hat' hrow hbel hcell
    go_roundw
    case rel => exact ⟨k - 3, xs ++ [((3 : Nat) : Int)], some ⟨g5, 0, none⟩, e5, by rw [HLL.out]; omega, by go_num, by rw [HLL.out], HX2, HR⟩
    case measure => simp [intOf]; omega
   ·have h5d : ((k : Int) == 5) = false := by simp; omega
    by_cases h4 : k ≤ 4
    ·have hs4 : s = k := by rw [HSH.out]; unfold shareN; rw [if_neg h5]; omega
     subst hs4
     have hgt : ¬ (4 : Int) < (s : Int) := by omega
     clear h5
     go_wp2_with (at_builtin; refine wpList_append_ownD _ rfl _ _ 53 rfl w.heap.size 3 i0 _ 1 8 Try.underlying53 hi0 hz0 hz1 hz2 rfl (by decide) _ _ _ rfl (hrow.alloc _) ⟨wr.heap.size, 0, none⟩ 1 1 [.int .i64 (s : Int)] rfl rfl hcell (by simp [Value.oneCell']) (by unfold maxLen; omega) (by omega) (by simp; omega) ?_; intro v' w5 hown' hgr' hat'; obtain ⟨g5, e5, rfl⟩ := rowSuccT hown')
     have HR : Hid (w5.ownsRow w.heap.size 3 1 (.slice (some ⟨g5, 0, none⟩) (xs ++ [(s : Int)]).length e5) (xs ++ [(s : Int)]).length (rowsOf intCells (xs ++ [(s : Int)])) ∧ Below w.heap.size w w5) := by
      refine ⟨?_, (hbel.alloc hsz _).grown hgr' (by simp; omega) (fun q e => (hrow.lt q e).1)⟩
      rw [List.length_append, ← HXL.out, show rowsOf intCells (xs ++ [(s : Int)]) = rowsOf intCells xs ++ [.int .i64 (s : Int)] by simp [rowsOf, intCells]]
      exact hown'
     have HLL : Hid ((xs ++ [(s : Int)]).length = xl + 1) := by show _ = _; rw [List.length_append, ← HXL.out]; rfl
     clear hown' hgr' hat' hrow hbel hcell
     go_roundw
     case rel => exact ⟨s - s, xs ++ [(s : Int)], some ⟨g5, 0, none⟩, e5, by rw [HLL.out]; omega, by go_num, by rw [HLL.out], HX2, HR⟩
     case measure => simp [intOf]; omega
    ·have hs4 : s = 4 := by rw [HSH.out]; unfold shareN; rw [if_neg h5]; omega
     subst hs4
     have hgt : (4 : Int) < (k : Int) := by omega
     clear h5
     go_wp2_with (at_builtin; refine wpList_append_ownD _ rfl _ _ 53 rfl w.heap.size 3 i0 _ 1 8 Try.underlying53 hi0 hz0 hz1 hz2 rfl (by decide) _ _ _ rfl (hrow.alloc _) ⟨wr.heap.size, 0, none⟩ 1 1 [.int .i64 4] rfl rfl hcell (by simp [Value.oneCell']) (by unfold maxLen; omega) (by omega) (by simp; omega) ?_; intro v' w5 hown' hgr' hat'; obtain ⟨g5, e5, rfl⟩ := rowSuccT hown')
     have HR : Hid (w5.ownsRow w.heap.size 3 1 (.slice (some ⟨g5, 0, none⟩) (xs ++ [((4 : Nat) : Int)]).length e5) (xs ++ [((4 : Nat) : Int)]).length (rowsOf intCells (xs ++ [((4 : Nat) : Int)])) ∧ Below w.heap.size w w5) := by
      refine ⟨?_, (hbel.alloc hsz _).grown hgr' (by simp; omega) (fun q e => (hrow.lt q e).1)⟩
      rw [List.length_append, ← HXL.out, show rowsOf intCells (xs ++ [((4 : Nat) : Int)]) = rowsOf intCells xs ++ [.int .i64 4] by simp [rowsOf, intCells]]
      exact hown'
     have HLL : Hid ((xs ++ [((4 : Nat) : Int)]).length = xl + 1) := by show _ = _; rw [List.length_append, ← HXL.out]; rfl
     clear hown' hgr' hat' hrow hbel hcell
     go_roundw
     case rel => exact ⟨k - 4, xs ++ [((4 : Nat) : Int)], some ⟨g5, 0, none⟩, e5, by rw [HLL.out]; omega, by go_num, by rw [HLL.out], HX2, HR⟩
     case measure => simp [intOf]; omega
  ·obtain rfl : k = 0 := by omega
   have hxe : xs = FIN := by rw [← HX.out, sharesL_zero, List.append_nil]
   subst hxe
   clear HX
   go_wp2_with fail
   go_ret
   exact ⟨a, c, rfl, HO.out.1, HO.out.2⟩
def chunksF {α : Type} : Nat → List α → List (List α)
 | 0, _ => []
 | f + 1, l => if l = [] then [] else l.take (shareN l.length) :: chunksF f (l.drop (shareN l.length))
def chunks {α : Type} (l : List α) : List (List α) := chunksF l.length l
def leafB (zs : List (ByteArray × ByteArray)) : T := ⟨true, 0, zs.map (fun z => z.1), zs.map (fun z => z.2), zs.map (fun _ => 0), []⟩
def slB (zs : List (ByteArray × ByteArray)) : List (ByteArray × ByteArray × Int) := zs.map (fun z => (z.1, z.2, 0))
theorem slB_zip (zs : List (ByteArray × ByteArray)) : (leafB zs).keys.zip ((leafB zs).vals.zip (leafB zs).over) = slB zs := by
 unfold leafB slB
 induction zs with
 | nil => rfl
 | cons z r ih => simp only [List.map_cons, List.zip_cons_cons]; simp only at ih; rw [ih]
def PrAt (w : World) (B : Nat) (a : Option Addr) (n c : Nat) (zs : List (ByteArray × ByteArray)) : Prop := zs.length = n ∧ n ≤ c ∧ c ≤ maxLen ∧ (0 < n → ∃ b off, a = some ⟨b, off, none⟩ ∧ b < B ∧ ∀ i, i < n → w.cell? ⟨b, off + i * 2, none⟩ = some (.string (zs.getD i (ByteArray.empty, ByteArray.empty)).1) ∧ w.cell? ⟨b, off + i * 2 + 1, none⟩ = some (.string (zs.getD i (ByteArray.empty, ByteArray.empty)).2))
theorem PrAt.below {w w' : World} {B : Nat} {a : Option Addr} {n c : Nat} {zs : List (ByteArray × ByteArray)} (h : PrAt w B a n c zs) (hb : Below B w w') : PrAt w' B a n c zs := by
 obtain ⟨h1, h2, h3, h4⟩ := h
 refine ⟨h1, h2, h3, fun hn => ?_⟩
 obtain ⟨b, off, e, hlt, hc⟩ := h4 hn
 exact ⟨b, off, e, hlt, fun i hi => ⟨(hb.cell (p := ⟨b, off + i * 2, none⟩) hlt).trans (hc i hi).1, (hb.cell (p := ⟨b, off + i * 2 + 1, none⟩) hlt).trans (hc i hi).2⟩⟩
structure FlSt (W wr : World) (L j : Nat) (ha : Option Addr) (hc : Nat) (zs : List (ByteArray × ByteArray × Int)) : Prop where
 box : wr.heap[L]? = some (.cells #[.int .i64 0, .slice ha j hc] 78)
 row : wr.ownsRow (L + 1) 73 3 (.slice ha j hc) j (rowsOf slCells zs)
 len : zs.length = j
 bel : Below L W wr
theorem FlSt.below {W wr w2 : World} {L j : Nat} {ha : Option Addr} {hc : Nat} {zs : List (ByteArray × ByteArray × Int)} (h : FlSt W wr L j ha hc zs) (hb : Below wr.heap.size wr w2) : FlSt W w2 L j ha hc zs := by
 have hl := (Array.getElem?_eq_some_iff.1 h.box).1
 exact ⟨boxT_below h.box hb, owns_below h.row hb, h.len, h.bel.trans (hb.mono (by omega))⟩
theorem FlSt.app {W wr w2 : World} {L j g e : Nat} {ha : Option Addr} {hc : Nat} {zs : List (ByteArray × ByteArray × Int)} {z : ByteArray × ByteArray × Int} (h : FlSt W wr L j ha hc zs) (hr : w2.ownsRow (L + 1) 73 3 (.slice (some ⟨g, 0, none⟩) (j + 1) e) (j + 1) (rowsOf slCells zs ++ slCells z)) (hgr : wr.grownBy w2 (Value.slice ha j hc).ownBlock) :
  FlSt W (w2.setCell ⟨L, 1, none⟩ (.slice (some ⟨g, 0, none⟩) (j + 1) e)) L (j + 1) (some ⟨g, 0, none⟩) e (zs ++ [z]) := by
 have hf2 : Fr (fun b => (Value.slice ha j hc).ownBlock = some b) wr w2 := Fr.of_grown hgr (fun b e => e)
 have hf3 : Fr (fun b => b = L) w2 (w2.setCell ⟨L, 1, none⟩ (.slice (some ⟨g, 0, none⟩) (j + 1) e)) := fr_setT w2 L 1 _
 have hb2 := boxT_fr h.box hf2 (fun e => by have := (h.row.lt L e).1; omega)
 have hl := (Array.getElem?_eq_some_iff.1 h.box).1
 refine ⟨by simp [World.setCell, Array.getElem?_modify, hb2], ?_, by simp [h.len], ?_⟩
 ·rw [show rowsOf slCells (zs ++ [z]) = rowsOf slCells zs ++ slCells z by simp [rowsOf]]
  exact owns_fr hr hf3 (fun b hb e => by have := (hr.lt b hb).1; omega)
 ·refine h.bel.trans ?_
  refine ⟨hf3.os.trans hf2.os, hf3.tape.trans hf2.tape, hf3.output.trans hf2.output, Nat.le_trans hf2.size hf3.size, fun b hb => ?_⟩
  rw [hf3.block b (by have := hf2.size; omega) (by omega), hf2.block b (by omega) (fun e => by have := (h.row.lt b e).1; omega)]
theorem FlSt.leaf {W wr : World} {L : Nat} {ha : Option Addr} {hc : Nat} {zs : List (ByteArray × ByteArray)} {P : Nat → Prop} (h : FlSt W wr L zs.length ha hc (slB zs)) (hP : ∀ b, L ≤ b → b < wr.heap.size → P b) : GIs wr P (leafB zs) (.iface 74 (.pointer (some ⟨L, 0, none⟩))) := by
 have hl := (Array.getElem?_eq_some_iff.1 h.box).1
 refine GLeaf.is ⟨hP L (Nat.le_refl _) hl, h.box, ?_, by simp [leafB]⟩ rfl
 rw [slB_zip]
 rcases h.row.2 with ⟨e, e2⟩ | ⟨g, cap, cur, e, hg1, hg2, h1, h2, _⟩
 ·simp only [Value.slice.injEq] at e
  obtain ⟨rfl, _, rfl⟩ := e
  exact ⟨h.len, by omega, by unfold maxLen; omega, fun hn => absurd hn (by omega)⟩
 ·have e9 := e
  simp only [Value.slice.injEq] at e
  obtain ⟨rfl, _, rfl⟩ := e
  refine ⟨h.len, h1, h2, fun hn => ⟨g, rfl, hP g (by have := (h.row.lt g rfl).1; omega) (h.row.lt g rfl).2, fun r hr => ?_⟩⟩
  rw [h.row.cellAt r (by omega)]
theorem sl_snoc (zs : List (ByteArray × ByteArray)) (s j : Nat) (hj : j < s) (hs : s ≤ zs.length) : slB (zs.take (j + 1)) = slB (zs.take j) ++ [((zs.getD j (ByteArray.empty, ByteArray.empty)).1, (zs.getD j (ByteArray.empty, ByteArray.empty)).2, 0)] := by
 have hlt : j < zs.length := by omega
 unfold slB
 rw [List.take_succ_eq_append_getElem hlt, List.map_append]
 simp [List.getD, hlt]
theorem info_nodeU : (Try.prog.info? 51).map (fun i => (i.zero, i.size, i.bytes)) = some (some .nilIface, 1, 16) := by kernel_rfl
theorem info_slotU : (Try.prog.info? 73).map (fun i => (i.zero, i.size, i.bytes)) = some (some (.agg #[.string ByteArray.empty, .string ByteArray.empty, .int .i64 0]), 3, 40) := by kernel_rfl
structure LvSt (w0 wr : World) (lo m c : Nat) (a : Option Addr) (ts : List T) (us : List Value) : Prop where
 row : wr.ownsRow lo 51 1 (.slice a m c) m us
 len : ts.length = m
 node : ∀ (i : Nat) (t : T), ts[i]? = some t → ∃ u, us[i]? = some u ∧ GIs wr (fun b => lo ≤ b ∧ b < wr.heap.size ∧ (Value.slice a m c).ownBlock ≠ some b) t u
 bel : Below lo w0 wr
theorem LvSt.below {w0 wr w2 : World} {lo m c : Nat} {a : Option Addr} {ts : List T} {us : List Value} (h : LvSt w0 wr lo m c a ts us) (hlo : lo ≤ wr.heap.size) (hb : Below wr.heap.size wr w2) : LvSt w0 w2 lo m c a ts us := by
 refine ⟨owns_below h.row hb, h.len, fun i t hi => ?_, h.bel.trans (hb.mono hlo)⟩
 obtain ⟨u, e, hG⟩ := h.node i t hi
 exact ⟨u, e, GIs.keep (fun b hp => hb.block b hp.2.1) (fun b hp => ⟨hp.1, Nat.lt_of_lt_of_le hp.2.1 hb.size, hp.2.2⟩) t u hG⟩
theorem LvSt.push {w0 wr w2 w3 : World} {lo m c g e : Nat} {a : Option Addr} {ts : List T} {us : List Value} {t : T} {u : Value} (h : LvSt w0 wr lo m c a ts us) (hlo : lo ≤ wr.heap.size) (hb : Below wr.heap.size wr w2) (hG : GIs w2 (fun b => wr.heap.size ≤ b ∧ b < w2.heap.size) t u)
  (hr : w3.ownsRow lo 51 1 (.slice (some ⟨g, 0, none⟩) (m + 1) e) (m + 1) (us ++ [u])) (hgr : w2.grownBy w3 (Value.slice a m c).ownBlock) (hat : (Value.slice (some ⟨g, 0, none⟩) (m + 1) e).ownBlock = (Value.slice a m c).ownBlock ∨ ∀ b, (Value.slice (some ⟨g, 0, none⟩) (m + 1) e).ownBlock = some b → w2.heap.size ≤ b) :
  LvSt w0 w3 lo (m + 1) e (some ⟨g, 0, none⟩) (ts ++ [t]) (us ++ [u]) := by
 have h2 := h.below hlo hb
 have hf3 : Fr (fun b => (Value.slice a m c).ownBlock = some b) w2 w3 := Fr.of_grown hgr (fun b e => e)
 have hul : us.length = m := by have := h.row.1; omega
 have hnew : ∀ b, b < w2.heap.size → (Value.slice a m c).ownBlock ≠ some b → (Value.slice (some ⟨g, 0, none⟩) (m + 1) e).ownBlock ≠ some b := fun b hb2 hne => by
  rcases hat with e1 | e1
  ·rw [e1]; exact hne
  ·intro e2; have := e1 b e2; omega
 refine ⟨hr, by simp [h.len], fun i x hi => ?_, h2.bel.trans (hf3.below (Nat.le_trans hlo hb.size) (fun b e => (h2.row.lt b e).1))⟩
 by_cases hin : i < ts.length
 ·rw [List.getElem?_append_left hin] at hi
  obtain ⟨v, e1, hGv⟩ := h2.node i x hi
  refine ⟨v, by rw [List.getElem?_append_left (by rw [hul, ← h.len]; exact hin)]; exact e1, GIs.keep (fun b hp => hf3.block b hp.2.1 (fun e => hp.2.2 e)) (fun b hp => ⟨hp.1, Nat.lt_of_lt_of_le hp.2.1 hf3.size, hnew b hp.2.1 hp.2.2⟩) x v hGv⟩
 ·have hie : i = ts.length := by
   have := (List.getElem?_eq_some_iff.1 hi).1
   simp at this; omega
  subst hie
  rw [List.getElem?_append_right (Nat.le_refl _), Nat.sub_self] at hi
  simp at hi
  subst hi
  have hold : ∀ b, wr.heap.size ≤ b → (Value.slice a m c).ownBlock ≠ some b := fun b hb2 e => by have := (h.row.lt b e).2; omega
  refine ⟨u, by rw [List.getElem?_append_right (by rw [hul, h.len]; exact Nat.le_refl _), hul, h.len, Nat.sub_self]; rfl, GIs.keep (fun b hp => hf3.block b hp.2 (fun e => hold b hp.1 e)) (fun b hp => ⟨Nat.le_trans hlo hp.1, Nat.lt_of_lt_of_le hp.2 hf3.size, hnew b hp.2 (hold b hp.1)⟩) t u hG⟩
theorem chunksF_more {α : Type} : ∀ (f f' : Nat) (l : List α), l.length ≤ f → l.length ≤ f' → chunksF f l = chunksF f' l
 | 0, 0, l, _, _ => rfl
 | 0, f' + 1, l, h, _ => by
  have : l = [] := List.length_eq_zero_iff.1 (by omega)
  subst this; simp [chunksF]
 | f + 1, 0, l, _, h => by
  have : l = [] := List.length_eq_zero_iff.1 (by omega)
  subst this; simp [chunksF]
 | f + 1, f' + 1, l, h, h' => by
  simp only [chunksF]
  split
  ·rfl
  ·rename_i hne
   have hl : 0 < l.length := List.length_pos_iff.2 hne
   have := shareN_le hl
   rw [chunksF_more f f' _ (by rw [List.length_drop]; omega) (by rw [List.length_drop]; omega)]
theorem chunks_step {α : Type} {l : List α} (h : 0 < l.length) : chunks l = l.take (shareN l.length) :: chunks (l.drop (shareN l.length)) := by
 have hs := shareN_le h
 have hne : l ≠ [] := List.length_pos_iff.1 h
 unfold chunks
 obtain ⟨m, hm⟩ : ∃ m, l.length = m + 1 := ⟨l.length - 1, by omega⟩
 rw [hm, chunksF, if_neg hne, hm]
 rw [hm] at hs
 rw [chunksF_more m _ (l.drop (shareN (m + 1))) (by rw [List.length_drop]; omega) (Nat.le_refl _)]
theorem chunks_nil {α : Type} : chunks ([] : List α) = [] := rfl
theorem cell_three_newU (w : World) (a b c : Value) (t : TypeId) : ∀ j u, [a, b, c][j]? = some u → (w.alloc (.cells #[a, b, c] t)).cell? ((⟨w.heap.size, 0, none⟩ : Addr).add j) = some u := by
 intro j u h
 match j, h with
 | 0, h => simpa [Addr.add] using h
 | 1, h => simpa [Addr.add] using h
 | 2, h => simpa [Addr.add] using h
def ShAt (W : World) (sa : Option Addr) (xs : List Int) : Prop := ∀ k, k < xs.length → ∃ g, sa = some ⟨g, 0, none⟩ ∧ g < W.heap.size ∧ W.cell? ⟨g, k, none⟩ = some (.int .i64 (xs.getD k 0))
theorem ShAt.of {w : World} {base n c : Nat} {sa : Option Addr} {xs : List Int} (h : w.ownsRow base 3 1 (.slice sa n c) n (rowsOf intCells xs)) (hn : n = xs.length) : ShAt w sa xs := fun k hk => by
 rcases h.2 with ⟨e, e2⟩ | ⟨g, cap, cur, e, hg1, hg2, h1, h2, _⟩
 ·omega
 ·have e9 := e
  simp only [Value.slice.injEq] at e
  obtain ⟨rfl, _, rfl⟩ := e
  refine ⟨g, rfl, (h.lt g rfl).2, ?_⟩
  have e3 := rowsOf_get ic1 0 xs k 0 hk (by omega)
  rw [Nat.mul_one, Nat.add_zero] at e3
  rw [h.cellAt k (by omega), e3]
  rfl
theorem ShAt.below {w W : World} {sa : Option Addr} {xs : List Int} (h : ShAt w sa xs) (hb : Below w.heap.size w W) : ShAt W sa xs := fun k hk => by
 obtain ⟨g, e, hl, hc⟩ := h k hk
 exact ⟨g, e, Nat.lt_of_lt_of_le hl hb.size, (hb.cell (p := ⟨g, k, none⟩) hl).trans hc⟩
theorem LvSt.lower {w0 w1 wr : World} {lo m c : Nat} {a : Option Addr} {ts : List T} {us : List Value} (h : LvSt w1 wr lo m c a ts us) (hb : Below w0.heap.size w0 w1) (hlo : w0.heap.size ≤ lo) : LvSt w0 wr w0.heap.size m c a ts us :=
 ⟨own_lowerT h.row hlo, h.len, fun i t hi => by
  obtain ⟨u, e, hG⟩ := h.node i t hi
  exact ⟨u, e, GIs.keep (fun b hp => rfl) (fun b hp => ⟨Nat.le_trans hlo hp.1, hp.2⟩) t u hG⟩, hb.trans (h.bel.mono hlo)⟩
theorem LvSt.nil (w : World) : LvSt w w w.heap.size 0 0 none [] [] :=
 ⟨World.ownsRow_nil _ _ _ _, rfl, fun i t hi => by simp at hi, Below.refl _ _⟩
set_option maxHeartbeats 8000000 in
theorem bulkLeaves_any (a : Option Addr) (n c : Nat) (zs : List (ByteArray × ByteArray)) (w : World) (B : Nat) (hB : B ≤ w.heap.size) (hp : PrAt w B a n c zs) (hn : n ≤ 1048576) :
  Calls Try.prog 18 #[.slice a n c] w fun e w' => ∃ la lm lc us, e = .returned (.slice la lm lc) ∧ LvSt w w' w.heap.size lm lc la ((chunks zs).map leafB) us := by
 have HZ : Hid (zs.length = n) := hp.1
 have hcc := hp.2.1
 have hcm := hp.2.2.1
 unfold maxLen at hcm
 have HP : Hid (∀ W, Below w.heap.size w W → PrAt W B a n c zs) := fun W hW => hp.below (hW.mono hB)
 obtain ⟨i0, hi0, hz0, hz1, hz2⟩ := info_parts info_slotU
 obtain ⟨i1, hi1, hy0, hy1, hy2⟩ := info_parts info_nodeU
 clear hp
 go_enter Try.func18, Try.ntmps18
 go_wp2_with (first | (refine (shares_any n (by omega) _).mono ?_; rintro e w1 ⟨sa, sc, rfl, hrow, hbel⟩))
 have HB1 : Hid (Below w.heap.size w w1) := hbel
 have hsz1 := hbel.size
 have HS1 : Hid (ShAt w1 sa (sharesL n)) := ShAt.of hrow rfl
 have HSN : Hid ((sharesL n).length ≤ n) := sharesL_len n
 obtain ⟨sn, hsn⟩ : ∃ sn, sn = (sharesL n).length := ⟨_, rfl⟩
 rw [← hsn]
 have HN : Hid (sn = (sharesL n).length) := hsn
 have hsn2 : sn ≤ n := by rw [hsn]; exact HSN.out
 clear hrow hbel hsn HSN
 go_wp2_with fail
 go_loopw [3, 4, 6, 7, 9, 14] (fun lv av _ _ _ i wr => ∃ (k at' lc : Nat) (la : Option Addr) (us : List Value) (dn : List (List (ByteArray × ByteArray))), k ≤ sn ∧ at' ≤ n ∧ i = .int .i64 k ∧ av = .int .i64 at' ∧ lv = .slice la k lc ∧ Hid (dn ++ chunks (zs.drop at') = chunks zs ∧ (sharesL n).drop k = sharesL (n - at')) ∧ Hid (LvSt w1 wr w1.heap.size k lc la (dn.map leafB) us)) (fun _ _ _ _ _ i _ => sn - (intOf i).toNat)
 case atStart => exact ⟨0, 0, 0, none, [], [], Nat.zero_le _, Nat.zero_le _, rfl, rfl, rfl, ⟨rfl, rfl⟩, LvSt.nil w1⟩
 case round =>
  rename World => wo
  obtain ⟨k, at', lc, la, us, dn, hk, hat, rfl, rfl, rfl, HD, HL⟩ := hrel
  have hsz := HL.out.bel.size
  by_cases hlt : k < sn
  ·have hat2 : at' < n := by
    rcases Nat.lt_or_ge at' n with h | h
    ·exact h
    ·exfalso
     have e := HD.out.2
     rw [show n - at' = 0 by omega, sharesL_zero, List.drop_eq_nil_iff] at e
     have := HN.out; omega
   obtain ⟨s, hs⟩ : ∃ s, s = shareN (n - at') := ⟨_, rfl⟩
   have hsl := shareN_le (n := n - at') (by omega)
   rw [← hs] at hsl
   obtain ⟨hs1, hs2, hs3⟩ := hsl
   have hgd : (sharesL n).getD k 0 = (s : Int) := by
    have e := HD.out.2
    rw [sharesL_step (n := n - at') (by omega), ← hs] at e
    have e2 : ((sharesL n).drop k)[0]? = some (s : Int) := by rw [e]; rfl
    rw [List.getElem?_drop, Nat.add_zero] at e2
    simp [List.getD, e2]
   have HD2 : Hid ((dn ++ [(zs.drop at').take s]) ++ chunks (zs.drop (at' + s)) = chunks zs ∧ (sharesL n).drop (k + 1) = sharesL (n - (at' + s))) := by
    have hzl : (zs.drop at').length = n - at' := by rw [List.length_drop, HZ.out]
    constructor
    ·have e := HD.out.1
     rw [chunks_step (by omega), hzl, ← hs, List.drop_drop] at e
     rw [← e]; simp
    ·have e := HD.out.2
     rw [sharesL_step (n := n - at') (by omega), ← hs] at e
     rw [← List.drop_drop, e, Nat.sub_sub]; rfl
   have HCL : Hid (((zs.drop at').take s).length = s) := by
    show _ = _
    rw [List.length_take, List.length_drop, HZ.out]; omega
   obtain ⟨ch, hch⟩ : ∃ ch, ch = (zs.drop at').take s := ⟨_, rfl⟩
   rw [← hch] at HD2 HCL
   have HCH : Hid (∀ j, j < s → ch.getD j (ByteArray.empty, ByteArray.empty) = zs.getD (at' + j) (ByteArray.empty, ByteArray.empty)) := fun j hj => by
    rw [hch]
    simp [List.getD, List.getElem?_take, hj, List.getElem?_drop]
   obtain ⟨b, off, rfl, hbB, HPC⟩ : ∃ b off, a = some ⟨b, off, none⟩ ∧ b < B ∧ Hid (∀ W, Below wo.heap.size wo W → ∀ j, j < s → b < W.heap.size ∧ W.cell? ⟨b, off + at' * 2 + j * 2, none⟩ = some (.string (ch.getD j (ByteArray.empty, ByteArray.empty)).1) ∧ W.cell? ⟨b, off + at' * 2 + j * 2 + 1, none⟩ = some (.string (ch.getD j (ByteArray.empty, ByteArray.empty)).2)) := by
    have hb2 : Below w.heap.size w wo := HB1.out.trans (HL.out.bel.mono hsz1)
    obtain ⟨b, off, e, hbB, hc⟩ := (HP.out wo hb2).2.2.2 (by omega)
    refine ⟨b, off, e, hbB, fun W hW j hj => ?_⟩
    have hbw : b < wo.heap.size := by have := hb2.size; omega
    have := hc (at' + j) (by omega)
    rw [HCH.out j hj]
    rw [show off + (at' + j) * 2 = off + at' * 2 + j * 2 by omega] at this
    exact ⟨Nat.lt_of_lt_of_le hbw hW.size, (hW.cell (p := ⟨b, off + at' * 2 + j * 2, none⟩) hbw).trans this.1, (hW.cell (p := ⟨b, off + at' * 2 + j * 2 + 1, none⟩) hbw).trans this.2⟩
   obtain ⟨g, rfl, hgl, hgc⟩ := (HS1.out.below HL.out.bel) k (by have := HN.out; omega)
   rw [hgd] at hgc
   clear hgd hch hs
   have k1 := heap_alloc_new wo (.cells #[.int .i64 0, .slice none 0 0] 78)
   have HF0 : Hid (FlSt wo (wo.alloc (.cells #[.int .i64 0, .slice none 0 0] 78)) wo.heap.size 0 none 0 (slB [])) := ⟨k1, World.ownsRow_nil _ _ _ _, rfl, (Below.refl _ _).alloc (Nat.le_refl _) _⟩
   clear k1
   obtain ⟨L, hL⟩ : ∃ L, L = wo.heap.size := ⟨_, rfl⟩
   rw [← hL] at HF0
   have hWs : wo.heap.size < (wo.alloc (.cells #[.int .i64 0, .slice none 0 0] 78)).heap.size := by simp
   go_upto_region 7 with fail
   rw [← hL]
   have HLW : Hid (L = wo.heap.size) := hL
   generalize wo.alloc (.cells #[.int .i64 0, .slice none 0 0] 78) = W0 at HF0 hWs ⊢
   clear hL hgc hgl
   go_wp2_with fail
   rw [show at' + s - at' = s by omega]
   go_loopw [9, 27] (fun _ i wx => ∃ (j hc : Nat) (ha : Option Addr), j ≤ s ∧ i = .int .i64 j ∧ Hid (FlSt wo wx L j ha hc (slB (ch.take j)))) (fun _ i _ => s - (intOf i).toNat)
   case atStart => exact ⟨0, 0, none, Nat.zero_le _, rfl, HF0⟩
   case round =>
    clear HF0
    obtain ⟨j, hc, ha, hj, rfl, HF⟩ := hrel
    by_cases hjs : j < s
    ·obtain ⟨hbl, p0, p1⟩ := HPC.out wr (by have h9 := HF.out.bel; rw [HLW.out] at h9; exact h9) j hjs
     obtain ⟨z, hz⟩ : ∃ z, z = ch.getD j (ByteArray.empty, ByteArray.empty) := ⟨_, rfl⟩
     rw [← hz] at p0 p1
     have HTK : Hid (slB (ch.take (j + 1)) = slB (ch.take j) ++ [(z.1, z.2, 0)]) := by rw [hz]; exact sl_snoc ch s j hjs (by rw [HCL.out]; exact Nat.le_refl _)
     clear hz
     obtain ⟨ky, vl⟩ := z
     replace p0 : wr.cell? ⟨b, off + at' * 2 + j * 2, none⟩ = some (.string ky) := p0
     replace p1 : wr.cell? ⟨b, off + at' * 2 + j * 2 + 1, none⟩ = some (.string vl) := p1
     have hba : Below wr.heap.size wr (wr.alloc (.cells #[.string ky, .string vl] 37)) := (Below.refl _ _).alloc (Nat.le_refl _) _
     have SB := heap_alloc_new wr (.cells #[.string ky, .string vl] 37)
     have FA := HF.out.below hba
     have hLl := (Array.getElem?_eq_some_iff.1 HF.out.box).1
     have HNE : Hid (∀ b, (Value.slice ha j hc).ownBlock = some b → b ≠ L ∧ b ≠ wr.heap.size) := fun b e => by
      have := HF.out.row.lt b e
      constructor <;> omega
     obtain ⟨S, hS⟩ : ∃ S, S = wr.heap.size := ⟨_, rfl⟩
     rw [← hS] at SB HNE
     have hLS : L < S := by omega
     go_upto_region 10 with fail
     rw [← hS]
     clear hS HF
     generalize wr.alloc (.cells #[.string ky, .string vl] 37) = W1 at SB FA hba ⊢
     obtain ⟨V, hV⟩ : ∃ V, V = W1.drew := ⟨_, rfl⟩
     have HV : Hid (V = W1.drew) := hV
     have hVb : Below W1.heap.size W1 V := by rw [hV]; exact (Below.refl _ _).drew
     have FV := FA.below hVb
     have SBV := boxT_below SB hVb
     obtain ⟨sV0, sV1⟩ := box_twoG SBV
     obtain ⟨_, cV⟩ := box_twoG FV.box
     have SV := (Array.getElem?_eq_some_iff.1 SBV).1
     have LV := (Array.getElem?_eq_some_iff.1 FV.box).1
     clear hV hVb FA SB SBV hba hbl p0 p1
     refine wp_region_noPanic ?_
     refine wp_region_held_drew (S := (fun W : World => W.cell? ⟨S, 0, none⟩ = some (.string ky) ∧ W.cell? ⟨S, 1, none⟩ = some (.string vl))) (by kernel_rfl) (by rw [← HV.out]; exact ⟨sV0, sV1⟩) (fun hHeld => ?_)
     rw [← HV.out] at hHeld ⊢
     refine tkB (i := 0) (v := .pointer (some ⟨L, 0, none⟩)) .z (by kernel_rfl) (fun _ _ _ h => h) (Or.inl ⟨by rfl, ?_⟩) (by assumption) ?_
     ·intro wq hSw; (try dsimp only at hSw); go_simp
     try simp only [Act.put, q1, q2, q3]
     refine tkB (i := 1) (v := .pointer (some ⟨L, 0, none⟩)) (.s .z) (by kernel_rfl) (fun _ _ _ h => h) (Or.inl ⟨by rfl, ?_⟩) (by assumption) ?_
     ·intro wq hSw; (try dsimp only at hSw); go_simp
     try simp only [Act.put, q1, q2, q3]
     refine tkB (i := 2) (v := .pointer (some ⟨L, 0, none⟩)) (.s (.s .z)) (by kernel_rfl) (fun _ _ _ h => h) (Or.inl ⟨by rfl, ?_⟩) (by assumption) ?_
     ·intro wq hSw; (try dsimp only at hSw); go_simp; (try (intro hx; exfalso; omega))
     try simp only [Act.put, q1, q2, q3]
     refine tkB (i := 3) (v := .pointer (some ⟨L, 1, none⟩)) (.s (.s (.s .z))) (by kernel_rfl) (fun _ _ _ h => h) (Or.inl ⟨by rfl, ?_⟩) (by assumption) ?_
     ·intro wq hSw; (try dsimp only at hSw); go_simp
     try simp only [Act.put, q1, q2, q3]
     refine tkB (i := 5) (v := .pointer (some ⟨S, 0, none⟩)) (.f .z) (by kernel_rfl) (fun _ _ _ h => h) (Or.inl ⟨by rfl, ?_⟩) (by assumption) ?_
     ·intro wq hSw; (try dsimp only at hSw); go_simp
     try simp only [Act.put, q1, q2, q3]
     refine tkB (i := 7) (v := .pointer (some ⟨S, 1, none⟩)) (.f (.s (.s .z))) (by kernel_rfl) (fun _ _ _ h => h) (Or.inl ⟨by rfl, ?_⟩) (by assumption) ?_
     ·intro wq hSw; (try dsimp only at hSw); go_simp
     try simp only [Act.put, q1, q2, q3]
     refine tkB (i := 6) (v := .string ky) (.f (.s .z)) (by kernel_rfl) (fun _ _ _ h => h) (Or.inl ⟨by rfl, ?_⟩) (by assumption) ?_
     ·intro wq hSw; (try dsimp only at hSw); obtain ⟨q0, q1⟩ := hSw; go_simp
     try simp only [Act.put, q1, q2, q3]
     refine tkB (i := 8) (v := .string vl) (.f (.s (.s (.s .z)))) (by kernel_rfl) (fun _ _ _ h => h) (Or.inl ⟨by rfl, ?_⟩) (by assumption) ?_
     ·intro wq hSw; (try dsimp only at hSw); obtain ⟨q0, q1⟩ := hSw; go_simp
     try simp only [Act.put, q1, q2, q3]
     refine tkB (i := 9) (v := .agg #[.string ky, .string vl, .int .i64 0]) (.f (.s (.s (.s (.s .z))))) (by kernel_rfl) (fun _ _ _ h => h) (Or.inl ⟨by rfl, ?_⟩) (by assumption) ?_
     ·intro wq hSw; (try dsimp only at hSw); go_simp
     try simp only [Act.put, q1, q2, q3]
     refine wpAnyH_ready (rs := [4, 10]) (by kernel_rfl) (by simp) ?_
     refine rdA (.s (.s (.s (.s .z)))) (fun K hK => ?_) ?_
     rotate_left 1
     refine rdA (.t .z) (fun K hK => ?_) ?_
     rotate_left 1
     exact AllReadyH.nil
     ·go_simp
      refine hK.out _ _ (⟨sV0, sV1⟩) (fun hHeld => ?_)
      clear hK K
      try simp only [Act.put, q1, q2, q3]
      refine wpAnyH_ready (rs := [10]) (by kernel_rfl) (by simp) ?_
      refine rdA (.t .z) (fun K hK => ?_) AllReadyH.nil
      go_simp
      have hb6 : Below V.heap.size V (V.alloc (.cells #[.string ky, .string vl, .int .i64 0] 73)) := (Below.refl _ _).alloc (Nat.le_refl _) _
      have F6 := FV.below hb6
      have t0 : (V.alloc (.cells #[.string ky, .string vl, .int .i64 0] 73)).cell? ⟨S, 0, none⟩ = some (.string ky) := (hb6.cell (p := ⟨S, 0, none⟩) SV).trans sV0
      have t1 : (V.alloc (.cells #[.string ky, .string vl, .int .i64 0] 73)).cell? ⟨S, 1, none⟩ = some (.string vl) := (hb6.cell (p := ⟨S, 1, none⟩) SV).trans sV1
      have c6 : (V.alloc (.cells #[.string ky, .string vl, .int .i64 0] 73)).cell? ⟨L, 1, none⟩ = some (.slice ha j hc) := (hb6.cell (p := ⟨L, 1, none⟩) LV).trans cV
      have gl6 : L < (V.alloc (.cells #[.string ky, .string vl, .int .i64 0] 73)).heap.size := Nat.lt_of_lt_of_le LV hb6.size
      have gS6 : S < (V.alloc (.cells #[.string ky, .string vl, .int .i64 0] 73)).heap.size := Nat.lt_of_lt_of_le SV hb6.size
      refine hK.out _ _ (⟨t0, t1⟩) (fun hHeld => ?_)
      clear hK K
      try simp only [Act.put, q1, q2, q3]
      refine wpAnyH_ready (rs := [11]) (by kernel_rfl) (by simp) ?_
      refine rdA (.t (.s .z)) (fun K hK => ?_) AllReadyH.nil
      refine step_append_Y rfl _ _ 70 rfl (L + 1) 73 i0 _ 3 40 Try.underlying70 hi0 hz0 hz1 hz2 rfl (by decide) (.slice ha j hc) j (rowsOf slCells (slB (ch.take j))) (by simp [Act.eval]) F6.row ⟨V.heap.size, 0, none⟩ 1 1 [.string ky, .string vl, .int .i64 0] (by simp [Act.eval]) rfl (cell_three_newU _ _ _ _ _) (by simp [Value.oneCell']) (by unfold maxLen; omega) (by omega) (by omega) ?_
      intro u7 w7 hown7 hgr7 hat7
      obtain ⟨g7, e7, rfl⟩ := rowSuccT hown7
      have HFN : Hid (FlSt wo (w7.setCell ⟨L, 1, none⟩ (.slice (some ⟨g7, 0, none⟩) (j + 1) e7)) L (j + 1) (some ⟨g7, 0, none⟩) e7 (slB (ch.take (j + 1)))) := by rw [HTK.out]; exact F6.app (z := (ky, vl, 0)) hown7 hgr7
      have F7 : Fr (fun b => (Value.slice ha j hc).ownBlock = some b) (V.alloc (.cells #[.string ky, .string vl, .int .i64 0] 73)) w7 := Fr.of_grown hgr7 (fun b e => e)
      have hne : ∀ b, (Value.slice ha j hc).ownBlock = some b → b ≠ L ∧ b ≠ S := fun b e => HNE.out b e
      have cl7 : w7.cell? ⟨L, 1, none⟩ = some (.slice ha j hc) := (World.cell?_of_block (w := V.alloc (.cells #[.string ky, .string vl, .int .i64 0] 73)) (a := ⟨L, 1, none⟩) (F7.block L gl6 (fun e => (hne L e).1 rfl))).trans c6
      have fz7 : w7.frozen? ⟨L, 1, none⟩ = false := box_fz (boxT_fr F6.box F7 (fun e => (hne L e).1 rfl)) 1
      have x0 : w7.cell? ⟨S, 0, none⟩ = some (.string ky) := (World.cell?_of_block (w := V.alloc (.cells #[.string ky, .string vl, .int .i64 0] 73)) (a := ⟨S, 0, none⟩) (F7.block S gS6 (fun e => (hne S e).2 rfl))).trans t0
      have x1 : w7.cell? ⟨S, 1, none⟩ = some (.string vl) := (World.cell?_of_block (w := V.alloc (.cells #[.string ky, .string vl, .int .i64 0] 73)) (a := ⟨S, 1, none⟩) (F7.block S gS6 (fun e => (hne S e).2 rfl))).trans t1
      have gl7 : L < w7.heap.size := Nat.lt_of_lt_of_le gl6 F7.size
      have F8 := fr_setT w7 L 1 (.slice (some ⟨g7, 0, none⟩) (j + 1) e7)
      have y0 : (w7.setCell ⟨L, 1, none⟩ (.slice (some ⟨g7, 0, none⟩) (j + 1) e7)).cell? ⟨S, 0, none⟩ = some (.string ky) := (World.cell?_of_block (w := w7) (a := ⟨S, 0, none⟩) (F8.block S (Nat.lt_of_lt_of_le gS6 F7.size) (fun e => by omega))).trans x0
      have y1 : (w7.setCell ⟨L, 1, none⟩ (.slice (some ⟨g7, 0, none⟩) (j + 1) e7)).cell? ⟨S, 1, none⟩ = some (.string vl) := (World.cell?_of_block (w := w7) (a := ⟨S, 1, none⟩) (F8.block S (Nat.lt_of_lt_of_le gS6 F7.size) (fun e => by omega))).trans x1
      clear F8 hown7 hgr7 hat7 hne F7
      refine hK.out _ _ (⟨x0, x1⟩) (fun hHeld => ?_)
      clear hK K
      try simp only [Act.put, q1, q2, q3]
      refine tkB (i := 12) (v := .pointer (some ⟨L, 0, none⟩)) (.t (.s (.s .z))) (by kernel_rfl) (fun _ _ _ h => h) (Or.inl ⟨by rfl, ?_⟩) (by assumption) ?_
      ·intro wq hSw; (try dsimp only at hSw); go_simp; (try (intro hx; exfalso; omega))
      try simp only [Act.put, q1, q2, q3]
      refine tkB (i := 13) (v := .pointer (some ⟨L, 1, none⟩)) (.t (.s (.s (.s .z)))) (by kernel_rfl) (fun _ _ _ h => h) (Or.inl ⟨by rfl, ?_⟩) (by assumption) ?_
      ·intro wq hSw; (try dsimp only at hSw); go_simp
      try simp only [Act.put, q1, q2, q3]
      refine wpAnyH_ready (rs := [14]) (by kernel_rfl) (by simp) ?_
      refine rdA (.t (.s (.s (.s (.s .z))))) (fun K hK => ?_) AllReadyH.nil
      go_simp
      refine hK.out _ _ (⟨y0, y1⟩) (fun hHeld => ?_)
      clear hK K
      try simp only [Act.put, q1, q2, q3]
      refine wpAnyH_done (by kernel_rfl) ?_ _
      refine NoPanic.normal ?_
      clear hHeld cl7 fz7 x0 x1 y0 y1 gl7
      go_wp2_with fail
      go_roundw
      case rel => exact ⟨j + 1, e7, some ⟨g7, 0, none⟩, by omega, by go_num, HFN⟩
      case measure => simp [intOf]; omega
     ·go_simp
      have hb6 : Below V.heap.size V (V.alloc (.cells #[.string ky, .string vl, .int .i64 0] 73)) := (Below.refl _ _).alloc (Nat.le_refl _) _
      have F6 := FV.below hb6
      have t0 : (V.alloc (.cells #[.string ky, .string vl, .int .i64 0] 73)).cell? ⟨S, 0, none⟩ = some (.string ky) := (hb6.cell (p := ⟨S, 0, none⟩) SV).trans sV0
      have t1 : (V.alloc (.cells #[.string ky, .string vl, .int .i64 0] 73)).cell? ⟨S, 1, none⟩ = some (.string vl) := (hb6.cell (p := ⟨S, 1, none⟩) SV).trans sV1
      have c6 : (V.alloc (.cells #[.string ky, .string vl, .int .i64 0] 73)).cell? ⟨L, 1, none⟩ = some (.slice ha j hc) := (hb6.cell (p := ⟨L, 1, none⟩) LV).trans cV
      have gl6 : L < (V.alloc (.cells #[.string ky, .string vl, .int .i64 0] 73)).heap.size := Nat.lt_of_lt_of_le LV hb6.size
      have gS6 : S < (V.alloc (.cells #[.string ky, .string vl, .int .i64 0] 73)).heap.size := Nat.lt_of_lt_of_le SV hb6.size
      refine hK.out _ _ (⟨t0, t1⟩) (fun hHeld => ?_)
      clear hK K
      try simp only [Act.put, q1, q2, q3]
      refine wpAnyH_ready (rs := [4]) (by kernel_rfl) (by simp) ?_
      refine rdA (.s (.s (.s (.s .z)))) (fun K hK => ?_) AllReadyH.nil
      go_simp
      refine hK.out _ _ (⟨t0, t1⟩) (fun hHeld => ?_)
      clear hK K
      try simp only [Act.put, q1, q2, q3]
      refine wpAnyH_ready (rs := [11]) (by kernel_rfl) (by simp) ?_
      refine rdA (.t (.s .z)) (fun K hK => ?_) AllReadyH.nil
      refine step_append_Y rfl _ _ 70 rfl (L + 1) 73 i0 _ 3 40 Try.underlying70 hi0 hz0 hz1 hz2 rfl (by decide) (.slice ha j hc) j (rowsOf slCells (slB (ch.take j))) (by simp [Act.eval]) F6.row ⟨V.heap.size, 0, none⟩ 1 1 [.string ky, .string vl, .int .i64 0] (by simp [Act.eval]) rfl (cell_three_newU _ _ _ _ _) (by simp [Value.oneCell']) (by unfold maxLen; omega) (by omega) (by omega) ?_
      intro u7 w7 hown7 hgr7 hat7
      obtain ⟨g7, e7, rfl⟩ := rowSuccT hown7
      have HFN : Hid (FlSt wo (w7.setCell ⟨L, 1, none⟩ (.slice (some ⟨g7, 0, none⟩) (j + 1) e7)) L (j + 1) (some ⟨g7, 0, none⟩) e7 (slB (ch.take (j + 1)))) := by rw [HTK.out]; exact F6.app (z := (ky, vl, 0)) hown7 hgr7
      have F7 : Fr (fun b => (Value.slice ha j hc).ownBlock = some b) (V.alloc (.cells #[.string ky, .string vl, .int .i64 0] 73)) w7 := Fr.of_grown hgr7 (fun b e => e)
      have hne : ∀ b, (Value.slice ha j hc).ownBlock = some b → b ≠ L ∧ b ≠ S := fun b e => HNE.out b e
      have cl7 : w7.cell? ⟨L, 1, none⟩ = some (.slice ha j hc) := (World.cell?_of_block (w := V.alloc (.cells #[.string ky, .string vl, .int .i64 0] 73)) (a := ⟨L, 1, none⟩) (F7.block L gl6 (fun e => (hne L e).1 rfl))).trans c6
      have fz7 : w7.frozen? ⟨L, 1, none⟩ = false := box_fz (boxT_fr F6.box F7 (fun e => (hne L e).1 rfl)) 1
      have x0 : w7.cell? ⟨S, 0, none⟩ = some (.string ky) := (World.cell?_of_block (w := V.alloc (.cells #[.string ky, .string vl, .int .i64 0] 73)) (a := ⟨S, 0, none⟩) (F7.block S gS6 (fun e => (hne S e).2 rfl))).trans t0
      have x1 : w7.cell? ⟨S, 1, none⟩ = some (.string vl) := (World.cell?_of_block (w := V.alloc (.cells #[.string ky, .string vl, .int .i64 0] 73)) (a := ⟨S, 1, none⟩) (F7.block S gS6 (fun e => (hne S e).2 rfl))).trans t1
      have gl7 : L < w7.heap.size := Nat.lt_of_lt_of_le gl6 F7.size
      have F8 := fr_setT w7 L 1 (.slice (some ⟨g7, 0, none⟩) (j + 1) e7)
      have y0 : (w7.setCell ⟨L, 1, none⟩ (.slice (some ⟨g7, 0, none⟩) (j + 1) e7)).cell? ⟨S, 0, none⟩ = some (.string ky) := (World.cell?_of_block (w := w7) (a := ⟨S, 0, none⟩) (F8.block S (Nat.lt_of_lt_of_le gS6 F7.size) (fun e => by omega))).trans x0
      have y1 : (w7.setCell ⟨L, 1, none⟩ (.slice (some ⟨g7, 0, none⟩) (j + 1) e7)).cell? ⟨S, 1, none⟩ = some (.string vl) := (World.cell?_of_block (w := w7) (a := ⟨S, 1, none⟩) (F8.block S (Nat.lt_of_lt_of_le gS6 F7.size) (fun e => by omega))).trans x1
      clear F8 hown7 hgr7 hat7 hne F7
      refine hK.out _ _ (⟨x0, x1⟩) (fun hHeld => ?_)
      clear hK K
      try simp only [Act.put, q1, q2, q3]
      refine tkB (i := 12) (v := .pointer (some ⟨L, 0, none⟩)) (.t (.s (.s .z))) (by kernel_rfl) (fun _ _ _ h => h) (Or.inl ⟨by rfl, ?_⟩) (by assumption) ?_
      ·intro wq hSw; (try dsimp only at hSw); go_simp; (try (intro hx; exfalso; omega))
      try simp only [Act.put, q1, q2, q3]
      refine tkB (i := 13) (v := .pointer (some ⟨L, 1, none⟩)) (.t (.s (.s (.s .z)))) (by kernel_rfl) (fun _ _ _ h => h) (Or.inl ⟨by rfl, ?_⟩) (by assumption) ?_
      ·intro wq hSw; (try dsimp only at hSw); go_simp
      try simp only [Act.put, q1, q2, q3]
      refine wpAnyH_ready (rs := [14]) (by kernel_rfl) (by simp) ?_
      refine rdA (.t (.s (.s (.s (.s .z))))) (fun K hK => ?_) AllReadyH.nil
      go_simp
      refine hK.out _ _ (⟨y0, y1⟩) (fun hHeld => ?_)
      clear hK K
      try simp only [Act.put, q1, q2, q3]
      refine wpAnyH_done (by kernel_rfl) ?_ _
      refine NoPanic.normal ?_
      clear hHeld cl7 fz7 x0 x1 y0 y1 gl7
      go_wp2_with fail
      go_roundw
      case rel => exact ⟨j + 1, e7, some ⟨g7, 0, none⟩, by omega, by go_num, HFN⟩
      case measure => simp [intOf]; omega
    ·obtain rfl : j = s := by omega
     have hchl : ch.take j = ch := List.take_of_length_le (by rw [HCL.out]; exact Nat.le_refl _)
     have FC := HF.out
     rw [hchl] at FC
     have hFL := FC.len
     have hcl := HCL.out
     have hba : Below wr.heap.size wr (wr.alloc (.cells #[.iface 74 (.pointer (some ⟨L, 0, none⟩))] 51)) := (Below.refl _ _).alloc (Nat.le_refl _) _
     have FD := FC.below hba
     have hb2 : Below wo.heap.size wo (wr.alloc (.cells #[.iface 74 (.pointer (some ⟨L, 0, none⟩))] 51)) := FD.bel.mono (Nat.le_of_eq HLW.out.symm)
     have hLv := HL.out.below hsz hb2
     have hGL : GIs (wr.alloc (.cells #[.iface 74 (.pointer (some ⟨L, 0, none⟩))] 51)) (fun b => wo.heap.size ≤ b ∧ b < (wr.alloc (.cells #[.iface 74 (.pointer (some ⟨L, 0, none⟩))] 51)).heap.size) (leafB ch) (.iface 74 (.pointer (some ⟨L, 0, none⟩))) := by
      refine FlSt.leaf (zs := ch) (ha := ha) (hc := hc) (W := wo) ?_ (fun b h1 h2 => ⟨by rw [← HLW.out]; exact h1, h2⟩)
      rw [hcl]; exact FD
     have hcell := cell_one_new wr (.iface 74 (.pointer (some ⟨L, 0, none⟩))) 51
     have hrow := hLv.row
     have hszb : w1.heap.size ≤ (wr.alloc (.cells #[.iface 74 (.pointer (some ⟨L, 0, none⟩))] 51)).heap.size := Nat.le_trans hsz hb2.size
     have HB2 : Hid (Below wo.heap.size wo (wr.alloc (.cells #[.iface 74 (.pointer (some ⟨L, 0, none⟩))] 51))) := hb2
     have HGL : Hid (GIs (wr.alloc (.cells #[.iface 74 (.pointer (some ⟨L, 0, none⟩))] 51)) (fun b => wo.heap.size ≤ b ∧ b < (wr.alloc (.cells #[.iface 74 (.pointer (some ⟨L, 0, none⟩))] 51)).heap.size) (leafB ch) (.iface 74 (.pointer (some ⟨L, 0, none⟩)))) := hGL
     clear hchl FC hFL hcl hba FD hb2 hLv hGL HF
     go_wp2_with (at_builtin; refine wpList_append_ownD _ rfl _ _ 46 rfl w1.heap.size 51 i1 _ 1 16 Try.underlying46 hi1 hy0 hy1 hy2 rfl (by decide) _ _ _ rfl hrow ⟨wr.heap.size, 0, none⟩ 1 1 [.iface 74 (.pointer (some ⟨L, 0, none⟩))] rfl rfl hcell (by simp [Value.oneCell']) (by unfold maxLen; omega) (by omega) hszb ?_; intro v' w5 hown' hgr' hat'; obtain ⟨g5, e5, rfl⟩ := rowSuccT hown')
     have HNL : Hid (LvSt w1 w5 w1.heap.size (k + 1) e5 (some ⟨g5, 0, none⟩) ((dn ++ [ch]).map leafB) (us ++ [.iface 74 (.pointer (some ⟨L, 0, none⟩))])) := by
      rw [List.map_append]
      exact LvSt.push HL.out hsz HB2.out HGL.out hown' hgr' hat'
     clear hown' hgr' hat' hcell hrow HB2 HGL hszb
     go_roundw
     case rel => exact ⟨k + 1, at' + j, e5, some ⟨g5, 0, none⟩, us ++ [.iface 74 (.pointer (some ⟨L, 0, none⟩))], dn ++ [ch], by omega, by omega, by go_num, by go_num, rfl, HD2, HNL⟩
     case measure => simp [intOf]; omega
  ·have hke : k = sn := by omega
   have hfin : dn = chunks zs := by
    have e := HD.out.1
    have e2 := HD.out.2
    rw [List.drop_eq_nil_of_le (by have := HN.out; omega)] at e2
    have hz : n - at' = 0 := by
     rcases Nat.eq_zero_or_pos (n - at') with h | h
     ·exact h
     ·rw [sharesL_step h] at e2; cases e2
    rw [List.drop_eq_nil_of_le (by rw [HZ.out]; omega), chunks_nil, List.append_nil] at e
    exact e
   have HFI : Hid (dn = chunks zs) := hfin
   clear hfin hke
   go_wp2_with fail
   go_ret
   exact ⟨la, k, lc, us, rfl, by rw [← HFI.out]; exact HL.out.lower HB1.out hsz1⟩
end Go.Proofs.Ytcjjbajmjfgbcaa
