import Derived.Test.YtcjjbajmjfgbcaaGAY
import Derived.Test.YtcjjbajmjfgbcaaGAU
namespace Go.Proofs.Ytcjjbajmjfgbcaa
open Go.RowKit
set_option linter.unusedVariables false
set_option linter.unusedSimpArgs false
set_option maxRecDepth 100000
def innB (ks : List T) : T := ⟨false, 0, [], [], [], ks⟩
theorem emptyN (w : World) : (w.alloc (.cells #[] 51)).ownsRow w.heap.size 51 1 (.slice (some ⟨w.heap.size, 0, none⟩) 0 0) 0 [] := by
 have := World.ownsRow_made w #[] (base := w.heap.size) (e := 51) (size := 1) 0 (by simp) (by unfold maxLen; omega) (by simp)
 simpa using this
set_option maxHeartbeats 1000000 in
theorem cloneN_any (b off n c : Nat) (xs : List Value) (w : World) (hx : xs.length = n) (hn : 0 < n) (hm : n ≤ 1048576) (hb : b < w.heap.size) (h1 : ∀ u ∈ xs, u.oneCell' = true) (hc : ∀ j u, xs[j]? = some u → w.cell? ((⟨b, off, none⟩ : Addr).add j) = some u) :
  Calls Try.prog 38 #[.slice (some ⟨b, off, none⟩) n c] w fun e w' => ∃ g vc, e = .returned (.slice (some ⟨g, 0, none⟩) n vc) ∧ w'.ownsRow w.heap.size 51 1 (.slice (some ⟨g, 0, none⟩) n vc) n xs ∧ Below w.heap.size w w' := by
 have hq : ∀ (w : World) (a : Option Addr) (n c n' c' : Nat), (binOp .eql 46 (.slice a n c) (.slice none n' c')).run Try.prog w = .ok (.bool a.isNone) w := fun w a n c n' c' => Lib.run_eql_slice_nil w _ _ a n c n' c' Try.underlying46
 obtain ⟨i1, hi1, hy0, hy1, hy2⟩ := info_parts info_nodeU
 have hb2 : Below w.heap.size w (w.alloc (.cells #[] 51)) := (Below.refl _ _).alloc (Nat.le_refl _) _
 have hR2 := emptyN w
 have hc2 : ∀ j u, xs[j]? = some u → (w.alloc (.cells #[] 51)).cell? ((⟨b, off, none⟩ : Addr).add j) = some u := fun j u hj => (hb2.cell (p := (⟨b, off, none⟩ : Addr).add j) (by unfold Addr.add; split <;> exact hb)).trans (hc j u hj)
 go_enter Try.func38, Try.ntmps38
 go_wp2_with (at_builtin; refine wpList_append_ownD _ rfl _ _ 46 rfl w.heap.size 51 i1 _ 1 16 Try.underlying46 hi1 hy0 hy1 hy2 rfl (by decide) _ _ _ rfl hR2 ⟨b, off, none⟩ n c xs rfl (by omega) hc2 h1 (by unfold maxLen; omega) (by omega) hb2.size ?_; intro v' w5 hown' hgr' hat'; obtain ⟨n', rfl⟩ : ∃ n', n = n' + 1 := ⟨n - 1, by omega⟩; rw [Nat.zero_add, List.nil_append] at hown'; obtain ⟨g5, e5, rfl⟩ := rowSuccT hown')
 have hb3 := hb2.grown hgr' hb2.size (fun g e => (hR2.lt g e).1)
 go_ret
 exact ⟨g5, e5, rfl, hown', hb3⟩
theorem LvSt.push2 {w0 w2 w3 : World} {lo m c g e : Nat} {a : Option Addr} {ts : List T} {us : List Value} {t : T} {u : Value} (h : LvSt w0 w2 lo m c a ts us) (hlo : lo ≤ w2.heap.size) (hG : GIs w2 (fun b => lo ≤ b ∧ b < w2.heap.size ∧ (Value.slice a m c).ownBlock ≠ some b) t u)
  (hr : w3.ownsRow lo 51 1 (.slice (some ⟨g, 0, none⟩) (m + 1) e) (m + 1) (us ++ [u])) (hgr : w2.grownBy w3 (Value.slice a m c).ownBlock) (hat : (Value.slice (some ⟨g, 0, none⟩) (m + 1) e).ownBlock = (Value.slice a m c).ownBlock ∨ ∀ b, (Value.slice (some ⟨g, 0, none⟩) (m + 1) e).ownBlock = some b → w2.heap.size ≤ b) :
  LvSt w0 w3 lo (m + 1) e (some ⟨g, 0, none⟩) (ts ++ [t]) (us ++ [u]) := by
 have hf3 : Fr (fun b => (Value.slice a m c).ownBlock = some b) w2 w3 := Fr.of_grown hgr (fun b e => e)
 have hul : us.length = m := by have := h.row.1; omega
 have hnew : ∀ b, b < w2.heap.size → (Value.slice a m c).ownBlock ≠ some b → (Value.slice (some ⟨g, 0, none⟩) (m + 1) e).ownBlock ≠ some b := fun b hb2 hne => by
  rcases hat with e1 | e1
  ·rw [e1]; exact hne
  ·intro e2; have := e1 b e2; omega
 refine ⟨hr, by simp [h.len], fun i x hi => ?_, h.bel.trans (hf3.below hlo (fun b e => (h.row.lt b e).1))⟩
 by_cases hin : i < ts.length
 ·rw [List.getElem?_append_left hin] at hi
  obtain ⟨v, e1, hGv⟩ := h.node i x hi
  refine ⟨v, by rw [List.getElem?_append_left (by rw [hul, ← h.len]; exact hin)]; exact e1, GIs.keep (fun b hp => hf3.block b hp.2.1 (fun e => hp.2.2 e)) (fun b hp => ⟨hp.1, Nat.lt_of_lt_of_le hp.2.1 hf3.size, hnew b hp.2.1 hp.2.2⟩) x v hGv⟩
 ·have hie : i = ts.length := by
   have := (List.getElem?_eq_some_iff.1 hi).1
   simp at this; omega
  subst hie
  rw [List.getElem?_append_right (Nat.le_refl _), Nat.sub_self] at hi
  simp at hi
  subst hi
  refine ⟨u, by rw [List.getElem?_append_right (by rw [hul, h.len]; exact Nat.le_refl _), hul, h.len, Nat.sub_self]; rfl, GIs.keep (fun b hp => hf3.block b hp.2.1 (fun e => hp.2.2 e)) (fun b hp => ⟨hp.1, Nat.lt_of_lt_of_le hp.2.1 hf3.size, hnew b hp.2.1 hp.2.2⟩) t u hG⟩
theorem GIs.one {w : World} {P : Nat → Prop} {t : T} {u : Value} (h : GIs w P t u) : u.oneCell' = true := by
 cases hl : t.leaf
 ·obtain ⟨L, a, n, c, us, rfl, _⟩ := h.inner hl; rfl
 ·obtain ⟨L, a, n, c, rfl, _⟩ := h.leaf hl; rfl
theorem LvSt.inner {w0 w w3 w4 : World} {lo n c at' s g vc L : Nat} {a : Option Addr} {ts : List T} {us : List Value} {Q : Nat → Prop} (h : LvSt w0 w lo n c a ts us) (hr : w3.ownsRow w.heap.size 51 1 (.slice (some ⟨g, 0, none⟩) s vc) s ((us.drop at').take s)) (hs : 0 < s) (hat : at' + s ≤ n) (hb : Below w.heap.size w w4) (hb4 : Below w3.heap.size w3 w4)
  (hbox : w4.heap[L]? = some (.cells #[.int .i64 0, .slice (some ⟨g, 0, none⟩) s vc] 85)) (hQL : Q L) (hQ : ∀ b, lo ≤ b → b < w.heap.size → Q b) (hQg : Q g) : GIs w4 Q (innB ((ts.drop at').take s)) (.iface 82 (.pointer (some ⟨L, 0, none⟩))) := by
 have hr4 := owns_below hr hb4
 have hul : us.length = n := by have := h.row.1; omega
 have hlen : ((ts.drop at').take s).length = s := by rw [List.length_take, List.length_drop, h.len]; omega
 rcases hr4.2 with ⟨e, e2⟩ | ⟨g', cap, cur, e, hg1, hg2, h1, h2, _⟩
 ·omega
 ·simp only [Value.slice.injEq, Option.some.injEq, Addr.mk.injEq] at e
  obtain ⟨⟨rfl, _⟩, _, rfl⟩ := e
  refine GInner.is (us := fun i => us.getD (at' + i) undef) ⟨hQL, hbox, ⟨hlen.symm, h1, h2⟩, fun _ => ⟨g, rfl, hQg, fun i hi => ?_⟩, fun i k _ hi => ?_⟩ rfl
  ·rw [hr4.cellAt i (by omega), List.getElem?_take, if_pos hi, List.getElem?_drop]
   simp [List.getD, List.getElem?_eq_getElem (show at' + i < us.length by omega)]
  ·have hi2 : ((ts.drop at').take s)[i]? = some k := hi
   have his : i < s := by have := (List.getElem?_eq_some_iff.1 hi2).1; omega
   rw [List.getElem?_take, if_pos his, List.getElem?_drop] at hi2
   obtain ⟨u, eu, hG⟩ := h.node (at' + i) k hi2
   have : us.getD (at' + i) undef = u := by simp [List.getD, eu]
   show GIs w4 Q k (us.getD (at' + i) undef)
   rw [this]
   exact GIs.keep (fun b hp => hb.block b hp.2.1) (fun b hp => hQ b hp.1 hp.2.1) k u hG
set_option maxHeartbeats 8000000 in
theorem bulkInner_any (w0 : World) (lo : Nat) (a : Option Addr) (n c : Nat) (ts : List T) (vs : List Value) (w : World) (hlo : lo ≤ w.heap.size) (hp : LvSt w0 w lo n c a ts vs) (hn : n ≤ 1048576) (hcm : c ≤ 2 ^ 63 - 1) (hcc : n ≤ c) :
  Calls Try.prog 19 #[.slice a n c] w fun e w' => ∃ la lm lc us, e = .returned (.slice la lm lc) ∧ LvSt w0 w' lo lm lc la ((chunks ts).map innB) us ∧ w.heap.size ≤ w'.heap.size := by
 have HP : Hid (LvSt w0 w lo n c a ts vs) := hp
 obtain ⟨i1, hi1, hy0, hy1, hy2⟩ := info_parts info_nodeU
 have HVL : Hid (vs.length = n) := by have := hp.row.1; show vs.length = n; omega
 have HTL : Hid (ts.length = n) := hp.len
 have HV1 : Hid (∀ u ∈ vs, u.oneCell' = true) := fun u hu => by
  obtain ⟨i, hi, e⟩ := List.mem_iff_getElem.1 hu
  have hil : i < ts.length := by rw [HTL.out, ← HVL.out]; exact hi
  have hi2 : ts[i]? = some ts[i] := List.getElem?_eq_getElem hil
  obtain ⟨u2, e2, hG⟩ := hp.node i _ hi2
  rw [List.getElem?_eq_getElem hi, e] at e2
  obtain rfl := Option.some.inj e2
  exact hG.one
 have HROW : Hid (0 < n → ∃ b, a = some ⟨b, 0, none⟩ ∧ b < w.heap.size ∧ ∀ i, i < n → w.cell? ⟨b, i, none⟩ = vs[i]?) := fun h0 => by
  rcases hp.row.2 with ⟨e, e2⟩ | ⟨g', cap, cur, e, _⟩
  ·omega
  ·have e9 := e
   simp only [Value.slice.injEq] at e
   obtain ⟨rfl, _, rfl⟩ := e
   exact ⟨g', rfl, (hp.row.lt g' rfl).2, fun i hi => hp.row.cellAt i (by omega)⟩
 clear hp
 go_enter Try.func19, Try.ntmps19
 go_wp2_with (first | (refine (shares_any n (by omega) _).mono ?_; rintro e w1 ⟨sa, sc, rfl, hrow, hbel⟩))
 have HB1 : Hid (Below w.heap.size w w1) := hbel
 have hsz1 := hbel.size
 have HS1 : Hid (ShAt w1 sa (sharesL n)) := ShAt.of hrow rfl
 have HSN : Hid ((sharesL n).length ≤ n) := sharesL_len n
 obtain ⟨sn, hsn⟩ : ∃ sn, sn = (sharesL n).length := ⟨_, rfl⟩
 rw [← hsn]
 have HN : Hid (sn = (sharesL n).length) := hsn
 have hsn2 : sn ≤ n := by rw [hsn]; exact HSN.out
 clear hrow hbel hsn HSN
 go_wp2_with fail
 go_loopw [3, 4, 6, 11] (fun lv av _ i wr => ∃ (k at' lc : Nat) (la : Option Addr) (us : List Value) (dn : List (List T)), k ≤ sn ∧ at' ≤ n ∧ i = .int .i64 k ∧ av = .int .i64 at' ∧ lv = .slice la k lc ∧ Hid (dn ++ chunks (ts.drop at') = chunks ts ∧ (sharesL n).drop k = sharesL (n - at')) ∧ Hid (LvSt w0 wr lo k lc la (dn.map innB) us ∧ wr.ownsRow w1.heap.size 51 1 (.slice la k lc) k us ∧ Below w1.heap.size w1 wr)) (fun _ _ _ i _ => sn - (intOf i).toNat)
 case atStart => exact ⟨0, 0, 0, none, [], [], Nat.zero_le _, Nat.zero_le _, rfl, rfl, rfl, ⟨rfl, rfl⟩, ⟨World.ownsRow_nil _ _ _ _, rfl, fun i t hi => by simp at hi, HP.out.bel.trans (HB1.out.mono hlo)⟩, World.ownsRow_nil _ _ _ _, Below.refl _ _⟩
 case round =>
  obtain ⟨k, at', lc, la, us, dn, hk, hat, rfl, rfl, rfl, HD, HL⟩ := hrel
  have hsz := HL.out.2.2.size
  by_cases hlt : k < sn
  ·have hat2 : at' < n := by
    rcases Nat.lt_or_ge at' n with h | h
    ·exact h
    ·exfalso
     have e := HD.out.2
     rw [show n - at' = 0 by omega, sharesL_zero, List.drop_eq_nil_iff] at e
     have := HN.out; omega
   obtain ⟨s, hs⟩ : ∃ s, s = shareN (n - at') := ⟨_, rfl⟩
   have hsl := shareN_le (n := n - at') (by omega)
   rw [← hs] at hsl
   obtain ⟨hs1, hs2, hs3⟩ := hsl
   have hgd : (sharesL n).getD k 0 = (s : Int) := by
    have e := HD.out.2
    rw [sharesL_step (n := n - at') (by omega), ← hs] at e
    have e2 : ((sharesL n).drop k)[0]? = some (s : Int) := by rw [e]; rfl
    rw [List.getElem?_drop, Nat.add_zero] at e2
    simp [List.getD, e2]
   have HD2 : Hid ((dn ++ [(ts.drop at').take s]) ++ chunks (ts.drop (at' + s)) = chunks ts ∧ (sharesL n).drop (k + 1) = sharesL (n - (at' + s))) := by
    have hzl : (ts.drop at').length = n - at' := by rw [List.length_drop, HTL.out]
    constructor
    ·have e := HD.out.1
     rw [chunks_step (by omega), hzl, ← hs, List.drop_drop] at e
     rw [← e]; simp
    ·have e := HD.out.2
     rw [sharesL_step (n := n - at') (by omega), ← hs] at e
     rw [← List.drop_drop, e, Nat.sub_sub]; rfl
   obtain ⟨b, rfl, hbw, hcs⟩ := HROW.out (by omega)
   have hb2 : Below w.heap.size w wr := HB1.out.trans (HL.out.2.2.mono hsz1)
   have HCS : Hid (∀ j u, ((vs.drop at').take s)[j]? = some u → wr.cell? ((⟨b, at', none⟩ : Addr).add j) = some u) := fun j u hj => by
    have hjs : j < s := by
     have h9 := (List.getElem?_eq_some_iff.1 hj).1
     rw [List.length_take] at h9; omega
    rw [List.getElem?_take, if_pos hjs, List.getElem?_drop] at hj
    rw [Addr.add_lit]
    exact ((hb2.cell (p := ⟨b, at' + j, none⟩) hbw).trans (hcs (at' + j) (by omega))).trans hj
   have HXL : Hid (((vs.drop at').take s).length = s) := by
    show _ = _
    rw [List.length_take, List.length_drop, HVL.out]; omega
   have HX1 : Hid (∀ u ∈ (vs.drop at').take s, u.oneCell' = true) := fun u hu => HV1.out u (List.mem_of_mem_drop (List.mem_of_mem_take hu))
   obtain ⟨g, rfl, hgl, hgc⟩ := (HS1.out.below HL.out.2.2) k (by have := HN.out; omega)
   rw [hgd] at hgc
   have hbr : b < wr.heap.size := Nat.lt_of_lt_of_le hbw hb2.size
   have HB2 : Hid (Below w.heap.size w wr) := hb2
   clear hgd hs hcs hb2
   go_upto_region 6 with fail
   have hsub : at' + s - at' = s := by omega
   go_wp2_with (first | (go_at_call 38; (try rw [hsub]); refine (cloneN_any b at' s (c - at') ((vs.drop at').take s) wr HXL.out hs1 (by omega) hbr HX1.out HCS.out).mono ?_; rintro e w3 ⟨g3, vc, rfl, hr3, hb3⟩; have h34 : Below w3.heap.size w3 ((w3.alloc (.cells #[.int .i64 0, .slice (some ⟨g3, 0, none⟩) s vc] 85)).alloc (.cells #[(.iface 82 (.pointer (some ⟨w3.heap.size, 0, none⟩)))] 51)) := ((Below.refl _ _).alloc (Nat.le_refl _) _).alloc (by simp) _; have h35 : Below wr.heap.size wr ((w3.alloc (.cells #[.int .i64 0, .slice (some ⟨g3, 0, none⟩) s vc] 85)).alloc (.cells #[(.iface 82 (.pointer (some ⟨w3.heap.size, 0, none⟩)))] 51)) := hb3.trans (h34.mono hb3.size); have hbx : ((w3.alloc (.cells #[.int .i64 0, .slice (some ⟨g3, 0, none⟩) s vc] 85)).alloc (.cells #[(.iface 82 (.pointer (some ⟨w3.heap.size, 0, none⟩)))] 51)).heap[w3.heap.size]? = some (.cells #[.int .i64 0, .slice (some ⟨g3, 0, none⟩) s vc] 85) := (boxT_below (heap_alloc_new w3 (.cells #[.int .i64 0, .slice (some ⟨g3, 0, none⟩) s vc] 85)) ((Below.refl _ _).alloc (Nat.le_refl _) _)); have hrow := owns_below HL.out.2.1 h35; have hcell := cell_one_new (w3.alloc (.cells #[.int .i64 0, .slice (some ⟨g3, 0, none⟩) s vc] 85)) (.iface 82 (.pointer (some ⟨w3.heap.size, 0, none⟩))) 51; rw [show (w3.alloc (.cells #[.int .i64 0, .slice (some ⟨g3, 0, none⟩) s vc] 85)).heap.size = w3.heap.size + 1 from by simp] at hcell; have hszb : w1.heap.size ≤ ((w3.alloc (.cells #[.int .i64 0, .slice (some ⟨g3, 0, none⟩) s vc] 85)).alloc (.cells #[(.iface 82 (.pointer (some ⟨w3.heap.size, 0, none⟩)))] 51)).heap.size := Nat.le_trans hsz h35.size) | (at_builtin; refine wpList_append_ownD _ rfl _ _ 46 rfl w1.heap.size 51 i1 _ 1 16 Try.underlying46 hi1 hy0 hy1 hy2 rfl (by decide) _ _ _ rfl hrow ⟨w3.heap.size + 1, 0, none⟩ 1 1 [(.iface 82 (.pointer (some ⟨w3.heap.size, 0, none⟩)))] rfl rfl hcell (by simp [Value.oneCell']) (by unfold maxLen; omega) (by omega) hszb ?_; intro v' w5 hown' hgr' hat'; obtain ⟨g5, e5, rfl⟩ := rowSuccT hown'))
   have hx5 : w3.heap.size < ((w3.alloc (.cells #[.int .i64 0, .slice (some ⟨g3, 0, none⟩) s vc] 85)).alloc (.cells #[(.iface 82 (.pointer (some ⟨w3.heap.size, 0, none⟩)))] 51)).heap.size := by simp; omega
   have hob : ∀ b, (Value.slice la k lc).ownBlock = some b → w1.heap.size ≤ b ∧ b < wr.heap.size := fun b e => HL.out.2.1.lt b e
   have hg3 := hr3.lt g3 rfl
   have hs3' := hb3.size
   have HNL : LvSt w0 w5 lo (k + 1) e5 (some ⟨g5, 0, none⟩) ((dn ++ [(ts.drop at').take s]).map innB) (us ++ [(.iface 82 (.pointer (some ⟨w3.heap.size, 0, none⟩)))]) := by
    rw [List.map_append]
    refine LvSt.push2 (HL.out.1.below (by omega) h35) (by omega) ?_ (own_lowerT hown' (by omega)) hgr' hat'
    refine LvSt.inner HP.out (own_lowerT hr3 (by omega)) hs1 (by omega) (HB2.out.trans (h35.mono (by omega))) h34 hbx ⟨by omega, hx5, fun e => by have := hob _ e; omega⟩ (fun b h1 h2 => ⟨h1, by omega, fun e => by have := hob _ e; omega⟩) ⟨by omega, by omega, fun e => by have := hob _ e; omega⟩
   have HFR : Below w1.heap.size w1 w5 := by
    have hf3 : Fr (fun b => (Value.slice la k lc).ownBlock = some b) ((w3.alloc (.cells #[.int .i64 0, .slice (some ⟨g3, 0, none⟩) s vc] 85)).alloc (.cells #[(.iface 82 (.pointer (some ⟨w3.heap.size, 0, none⟩)))] 51)) w5 := Fr.of_grown hgr' (fun b e => e)
    exact (HL.out.2.2.trans (h35.mono (by omega))).trans (hf3.below (by omega) (fun b e => (hob b e).1))
   have HNX : Hid (LvSt w0 w5 lo (k + 1) e5 (some ⟨g5, 0, none⟩) ((dn ++ [(ts.drop at').take s]).map innB) (us ++ [(.iface 82 (.pointer (some ⟨w3.heap.size, 0, none⟩)))]) ∧ w5.ownsRow w1.heap.size 51 1 (.slice (some ⟨g5, 0, none⟩) (k + 1) e5) (k + 1) (us ++ [(.iface 82 (.pointer (some ⟨w3.heap.size, 0, none⟩)))]) ∧ Below w1.heap.size w1 w5) := ⟨HNL, hown', HFR⟩
   clear HNL HFR hown' hgr' hat' hob hcell hrow
   go_roundw
   case rel => exact ⟨k + 1, at' + s, e5, some ⟨g5, 0, none⟩, us ++ [(.iface 82 (.pointer (some ⟨w3.heap.size, 0, none⟩)))], dn ++ [(ts.drop at').take s], by omega, by omega, by go_num, by go_num, rfl, HD2, HNX⟩
   case measure => simp [intOf]; omega
  ·have hfin : dn = chunks ts := by
    have e := HD.out.1
    have e2 := HD.out.2
    rw [List.drop_eq_nil_of_le (by have := HN.out; omega)] at e2
    have hz : n - at' = 0 := by
     rcases Nat.eq_zero_or_pos (n - at') with h | h
     ·exact h
     ·rw [sharesL_step h] at e2; cases e2
    rw [List.drop_eq_nil_of_le (by rw [HTL.out]; omega), chunks_nil, List.append_nil] at e
    exact e
   have HFI : Hid (dn = chunks ts) := hfin
   clear hfin
   go_wp2_with fail
   go_ret
   exact ⟨la, k, lc, us, rfl, by rw [← HFI.out]; exact HL.out.1, Nat.le_trans hsz1 hsz⟩
theorem shareN_rest {n : Nat} (h : 2 ≤ n) : 2 ≤ shareN n ∧ (n - shareN n = 0 ∨ 2 ≤ n - shareN n) := by
 unfold shareN
 split <;> omega
theorem chunks_half {α : Type} : ∀ (k : Nat) (l : List α), l.length ≤ k → 2 ≤ l.length → (chunks l).length * 2 ≤ l.length
 | 0, l, h, h2 => by omega
 | k + 1, l, h, h2 => by
  obtain ⟨h3, h4⟩ := shareN_rest h2
  have hs := shareN_le (n := l.length) (by omega)
  rw [chunks_step (by omega), List.length_cons]
  rcases h4 with h5 | h5
  ·rw [List.drop_eq_nil_of_le (by omega), chunks_nil]; simp; omega
  ·have := chunks_half k (l.drop (shareN l.length)) (by rw [List.length_drop]; omega) (by rw [List.length_drop]; omega)
   rw [List.length_drop] at this
   omega
theorem chunks_pos {α : Type} {l : List α} (h : 0 < l.length) : 0 < (chunks l).length := by rw [chunks_step h]; simp
theorem chunks_le {α : Type} : ∀ (k : Nat) (l : List α), l.length ≤ k → (chunks l).length ≤ l.length
 | 0, l, h => by
  have : l = [] := List.length_eq_zero_iff.1 (by omega)
  subst this; simp [chunks_nil]
 | k + 1, l, h => by
  by_cases h0 : 0 < l.length
  ·have hs := shareN_le h0
   rw [chunks_step h0, List.length_cons]
   have := chunks_le k (l.drop (shareN l.length)) (by rw [List.length_drop]; omega)
   rw [List.length_drop] at this
   omega
  ·have : l = [] := List.length_eq_zero_iff.1 (by omega)
   subst this; simp [chunks_nil]
theorem chunks_mem {α : Type} : ∀ (k : Nat) (l : List α), l.length ≤ k → ∀ c ∈ chunks l, 0 < c.length ∧ c.length ≤ 4 ∧ ∀ x ∈ c, x ∈ l
 | 0, l, h, c, hc => by
  have : l = [] := List.length_eq_zero_iff.1 (by omega)
  subst this; simp [chunks_nil] at hc
 | k + 1, l, h, c, hc => by
  by_cases h0 : 0 < l.length
  ·have hs := shareN_le h0
   rw [chunks_step h0, List.mem_cons] at hc
   rcases hc with rfl | hc
   ·exact ⟨by rw [List.length_take]; omega, by rw [List.length_take]; omega, fun x hx => List.mem_of_mem_take hx⟩
   ·obtain ⟨h1, h2, h3⟩ := chunks_mem k (l.drop (shareN l.length)) (by rw [List.length_drop]; omega) c hc
    exact ⟨h1, h2, fun x hx => List.mem_of_mem_drop (h3 x hx)⟩
  ·have : l = [] := List.length_eq_zero_iff.1 (by omega)
   subst this; simp [chunks_nil] at hc
theorem chunks_flat {α : Type} : ∀ (k : Nat) (l : List α), l.length ≤ k → (chunks l).flatten = l
 | 0, l, h => by
  have : l = [] := List.length_eq_zero_iff.1 (by omega)
  subst this; simp [chunks_nil]
 | k + 1, l, h => by
  by_cases h0 : 0 < l.length
  ·have hs := shareN_le h0
   rw [chunks_step h0, List.flatten_cons, chunks_flat k _ (by rw [List.length_drop]; omega), List.take_append_drop]
  ·have : l = [] := List.length_eq_zero_iff.1 (by omega)
   subst this; simp [chunks_nil]
def upT (ts : List T) : List T := (chunks ts).map innB
def topF : Nat → List T → List T
 | 0, ts => ts
 | f + 1, ts => if 1 < ts.length then topF f (upT ts) else ts
def lvlB (zs : List (ByteArray × ByteArray)) : List T := (chunks zs).map leafB
def rootT (zs : List (ByteArray × ByteArray)) : T := (topF zs.length (lvlB zs)).headD (leafB [])
def sumN (ts : List T) : Nat := (ts.map T.nodes).sum
structure LvOk (n : Nat) (ts : List T) : Prop where
 pos : 0 < ts.length
 le : ts.length ≤ n
 sum : sumN ts + ts.length ≤ 2 * n
 all : ∀ t ∈ ts, t.whole = true ∧ 0 < t.size
theorem leafB_ok {c : List (ByteArray × ByteArray)} (h : c.length ≤ 4) : (leafB c).whole = true ∧ (leafB c).size = c.length ∧ (leafB c).nodes = 1 := by
 refine ⟨?_, ?_, ?_⟩
 ·rw [T.whole_eq]
  simp only [leafB, List.length_map, Bool.not_true, Bool.false_or, Bool.true_or, List.map_nil, List.all_nil, Bool.and_true, decide_true, Bool.true_and, List.isEmpty_nil]
  simp; omega
 ·simp [leafB, T.size]
 ·rw [T.nodes_eq]; rfl
theorem innB_ok {c : List T} (h : 0 < c.length) (hc : ∀ t ∈ c, t.whole = true ∧ 0 < t.size) : (innB c).whole = true ∧ 0 < (innB c).size ∧ (innB c).nodes = 1 + sumN c := by
 refine ⟨?_, ?_, ?_⟩
 ·rw [T.whole_eq]
  have h1 : c.isEmpty = false := by cases c with | nil => simp at h | cons => rfl
  have h2 : c.all (fun t => decide (0 < t.size)) = true := List.all_eq_true.2 (fun t ht => by simpa using (hc t ht).2)
  have h3 : (c.map T.whole).all id = true := List.all_eq_true.2 (fun b hb => by obtain ⟨t, ht, rfl⟩ := List.mem_map.1 hb; exact (hc t ht).1)
  show ((!(innB c).leaf || _) && ((innB c).leaf || (!c.isEmpty && c.all _)) && (c.map T.whole).all id) = true
  rw [h1, h2, h3]; rfl
 ·simpa [innB, T.size] using h
 ·rw [T.nodes_eq]; rfl
theorem sumN_map {α : Type} (f : α → T) (k : α → Nat) (l : List α) (h : ∀ x ∈ l, (f x).nodes = k x) : sumN (l.map f) = (l.map k).sum := by
 induction l with
 | nil => rfl
 | cons x r ih =>
  have := ih (fun y hy => h y (List.mem_cons_of_mem _ hy))
  unfold sumN at this ⊢
  simp only [List.map_cons, List.sum_cons, this, h x (List.mem_cons_self ..)]
theorem lvlB_ok {zs : List (ByteArray × ByteArray)} (h : 0 < zs.length) : LvOk zs.length (lvlB zs) := by
 have hl : (lvlB zs).length = (chunks zs).length := by simp [lvlB]
 have hle := chunks_le _ zs (Nat.le_refl _)
 have hm := chunks_mem _ zs (Nat.le_refl _)
 refine ⟨by rw [hl]; exact chunks_pos h, by omega, ?_, fun t ht => ?_⟩
 ·have e : sumN (lvlB zs) = (chunks zs).length := by
   unfold lvlB
   rw [sumN_map leafB (fun _ => 1) _ (fun c hc => (leafB_ok (hm c hc).2.1).2.2)]
   generalize chunks zs = q
   induction q with
   | nil => rfl
   | cons x r ih => simp only [List.map_cons, List.sum_cons, List.length_cons, ih]; omega
  omega
 ·obtain ⟨c, hc, rfl⟩ := List.mem_map.1 ht
  have := leafB_ok (hm c hc).2.1
  exact ⟨this.1, by rw [this.2.1]; exact (hm c hc).1⟩
theorem upT_ok {n : Nat} {ts : List T} (h : LvOk n ts) (h2 : 2 ≤ ts.length) : LvOk n (upT ts) ∧ (upT ts).length * 2 ≤ ts.length := by
 have hl : (upT ts).length = (chunks ts).length := by simp [upT]
 have hh := chunks_half _ ts (Nat.le_refl _) h2
 have hm := chunks_mem _ ts (Nat.le_refl _)
 have hi : ∀ c ∈ chunks ts, (innB c).whole = true ∧ 0 < (innB c).size ∧ (innB c).nodes = 1 + sumN c := fun c hc => innB_ok (hm c hc).1 (fun t ht => h.all t ((hm c hc).2.2 t ht))
 have e : sumN (upT ts) = (chunks ts).length + sumN ts := by
  unfold upT
  rw [sumN_map innB (fun c => 1 + sumN c) _ (fun c hc => (hi c hc).2.2)]
  have hf := chunks_flat _ ts (Nat.le_refl _)
  have : sumN ts = sumN (chunks ts).flatten := by rw [hf]
  rw [this]
  generalize chunks ts = q
  induction q with
  | nil => rfl
  | cons x r ih =>
   simp only [List.map_cons, List.sum_cons, List.length_cons, List.flatten_cons, ih]
   unfold sumN
   rw [List.map_append, List.sum_append]; omega
 have := h.le; have := h.sum
 refine ⟨⟨by rw [hl]; exact chunks_pos (by omega), by omega, by omega, fun t ht => ?_⟩, by omega⟩
 obtain ⟨c, hc, rfl⟩ := List.mem_map.1 ht
 exact ⟨(hi c hc).1, (hi c hc).2.1⟩
theorem topF_step {f : Nat} {ts : List T} (h : 1 < ts.length) (hf : ts.length ≤ f + 1) (h2 : (upT ts).length * 2 ≤ ts.length) : topF (f + 1) ts = topF f (upT ts) ∧ (upT ts).length ≤ f := by
 rw [topF, if_pos h]; exact ⟨rfl, by omega⟩
theorem topF_done (f : Nat) {ts : List T} (h : ts.length ≤ 1) : topF f ts = ts := by
 cases f with
 | zero => rfl
 | succ f => rw [topF, if_neg (by omega)]
set_option maxHeartbeats 1000000 in
theorem told_any {t : T} {ty : TypeId} {v : Value} {P : Nat → Prop} (w : World) (hw : t.whole = true) (hG : GIs w P t (.iface ty v)) (hP : ∀ b, P b → b < w.heap.size) (hn : t.nodes ≤ 10000000) :
  Calls Try.prog 20 #[.iface ty v] w fun e w' => ∃ oa oc us, e = .returned (.agg #[.slice oa t.nodes oc]) ∧ OwnT w' w.heap.size (.slice oa t.nodes oc) ((t.flat 0).map TN.nd) us ∧ Below w.heap.size w w' := by
 obtain ⟨W, hW⟩ : ∃ W, W = w.alloc (.cells #[.slice none 0 0] 27) := ⟨_, rfl⟩
 have hb1 : Below w.heap.size w W := by rw [hW]; exact (Below.refl _ _).alloc (Nat.le_refl _) _
 have hs1 : W.heap.size = w.heap.size + 1 := by rw [hW]; simp
 have hx : W.heap[w.heap.size]? = some (.cells #[.slice none 0 0] 27) := by rw [hW]; exact heap_alloc_new w _
 have hG1 : GIs W (fun b => b < w.heap.size) t (.iface ty v) := GIs.keep (fun b hp => hb1.block b (hP b hp)) hP t _ hG
 obtain ⟨ha, f, r, hmt, hcf, hcall⟩ := GIs.tell (base := W.heap.size) (P := fun b => b < w.heap.size) (fun b hp => by have : b < w.heap.size := hp; omega) t ty v hw hG1
 have hcall2 := hcall W (Below.refl _ _) none 0 0 [] (fun _ _ => .slice none 0 0) (OwnT.nil _ _ _) rfl (by omega) (Nat.le_refl _)
 have hcf2 := hcf (.slice none 0 0)
 clear hcall hcf hG1 hG
 go_enter Try.func20, Try.ntmps20
 go_upto_region 1 with fail
 rw [← hW]
 have HS1 : Hid (W.heap.size = w.heap.size + 1) := hs1
 clear hW hs1
 go_wp2_with fail
 refine hcall2.mono ?_
 rintro ex w9 ⟨oa, oc, us, rfl, hO, hF⟩
 have hO1 : OwnT w9 (w.heap.size + 1) (.slice oa t.nodes oc) ((t.flat 0).map TN.nd) us := by rw [HS1.out, Nat.zero_add, List.nil_append] at hO; exact hO
 rw [Nat.zero_add]
 have hx9 := boxT_fr hx hF (by have := HS1.out; omega)
 have hl9 := (Array.getElem?_eq_some_iff.1 hx9).1
 have c9 : w9.cell? ⟨w.heap.size, 0, none⟩ = some (.slice none 0 0) := by simp [World.cell?, hx9]
 have z9 := box_fz hx9 0
 have hb9 : Below w.heap.size w w9 := hb1.trans (hF.below (by have := HS1.out; omega) (fun b e => by have := HS1.out; omega))
 have F10 := fr_setT w9 w.heap.size 0 (.slice oa t.nodes oc)
 have hO2 : OwnT (w9.setCell ⟨w.heap.size, 0, none⟩ (.slice oa t.nodes oc)) w.heap.size (.slice oa t.nodes oc) ((t.flat 0).map TN.nd) us := (hO1.fr F10 (fun g hg e => by have := (hO1.blk hg).1; omega)).lower (by omega)
 have hb10 : Below w.heap.size w (w9.setCell ⟨w.heap.size, 0, none⟩ (.slice oa t.nodes oc)) := hb9.trans (F10.below (by omega) (fun b e => by omega))
 have HOO : Hid (OwnT (w9.setCell ⟨w.heap.size, 0, none⟩ (.slice oa t.nodes oc)) w.heap.size (.slice oa t.nodes oc) ((t.flat 0).map TN.nd) us) := hO2
 have x10 : (w9.setCell ⟨w.heap.size, 0, none⟩ (.slice oa t.nodes oc)).cell? ⟨w.heap.size, 0, none⟩ = some (.slice oa t.nodes oc) := by simp [World.cell?, World.setCell, Array.getElem?_modify, hx9]
 clear hO hO1 hO2 hF hx F10 hx9
 go_wp2_with fail
 exact bodyPost_ret (v := .agg #[.slice oa t.nodes oc]) (by simp [results, Try.results20, go_sem, x10]) rfl ⟨oa, oc, us, rfl, HOO.out, hb10⟩
theorem GIs.bare (w : World) (L : Nat) (h : w.heap[L]? = some (.cells #[.int .i64 0, .slice none 0 0] 78)) : GIs w (fun b => b < w.heap.size) (leafB []) (.iface 74 (.pointer (some ⟨L, 0, none⟩))) :=
 GLeaf.is ⟨(Array.getElem?_eq_some_iff.1 h).1, h, ⟨rfl, Nat.le_refl _, by unfold maxLen; omega, fun hn => absurd hn (by omega)⟩, rfl⟩ rfl
set_option maxHeartbeats 1000000 in
theorem implNewU_any (w : World) : Calls Try.prog 10 #[] w fun e w' => ∃ oa oc us, e = .returned (.agg #[.slice oa 1 oc]) ∧ OwnT w' w.heap.size (.slice oa 1 oc) [TN.nd ⟨true, 0, [], [], [], []⟩] us ∧ Below w.heap.size w w' := by
 obtain ⟨W, hW⟩ : ∃ W, W = (w.alloc (.cells #[.slice none 0 0] 27)).alloc (.cells #[.int .i64 0, .slice none 0 0] 78) := ⟨_, rfl⟩
 have hb1 : Below w.heap.size w W := by rw [hW]; exact ((Below.refl _ _).alloc (Nat.le_refl _) _).alloc (by simp) _
 have hL : W.heap[w.heap.size + 1]? = some (.cells #[.int .i64 0, .slice none 0 0] 78) := by
  rw [hW]
  have := heap_alloc_new (w.alloc (.cells #[.slice none 0 0] 27)) (.cells #[.int .i64 0, .slice none 0 0] 78)
  rwa [show (w.alloc (.cells #[.slice none 0 0] 27)).heap.size = w.heap.size + 1 by simp] at this
 have hx : W.heap[w.heap.size]? = some (.cells #[.slice none 0 0] 27) := by
  rw [hW]
  exact (((Below.refl (w.alloc (.cells #[.slice none 0 0] 27)).heap.size _).alloc (Nat.le_refl _) _).block w.heap.size (by simp)).trans (heap_alloc_new w _)
 have hok := leafB_ok (c := []) (by simp)
 have hT := told_any W hok.1 (GIs.bare W _ hL) (fun b h => h) (by rw [hok.2.2]; omega)
 rw [hok.2.2] at hT
 have hsW : w.heap.size < W.heap.size := (Array.getElem?_eq_some_iff.1 hx).1
 clear hL hok
 go_enter Try.func10, Try.ntmps10
 go_wp2_with fail
 rw [← hW]
 clear hW
 refine hT.mono ?_
 rintro ex w9 ⟨oa, oc, us, rfl, hO', hB⟩
 have hO : OwnT w9 W.heap.size (.slice oa 1 oc) [TN.nd ⟨true, 0, [], [], [], []⟩] us := by
  have e : (leafB []).flat 0 = [⟨true, 0, [], [], [], []⟩] := by rw [T.flat_eq]; rfl
  rw [e] at hO'; exact hO'
 clear hO'
 have hx9 := boxT_below hx hB
 have hl9 := (Array.getElem?_eq_some_iff.1 hx9).1
 have c9 : w9.cell? ⟨w.heap.size, 0, none⟩ = some (.slice none 0 0) := by simp [World.cell?, hx9]
 have z9 := box_fz hx9 0
 have F10 := fr_setT w9 w.heap.size 0 (.slice oa 1 oc)
 have hO2 : OwnT (w9.setCell ⟨w.heap.size, 0, none⟩ (.slice oa 1 oc)) w.heap.size (.slice oa 1 oc) [TN.nd ⟨true, 0, [], [], [], []⟩] us := (hO.fr F10 (fun g hg e => by have := (hO.blk hg).1; omega)).lower (by omega)
 have hb10 : Below w.heap.size w (w9.setCell ⟨w.heap.size, 0, none⟩ (.slice oa 1 oc)) := (hb1.trans (hB.mono hb1.size)).trans (F10.below (by omega) (fun b e => by omega))
 have x10 : (w9.setCell ⟨w.heap.size, 0, none⟩ (.slice oa 1 oc)).cell? ⟨w.heap.size, 0, none⟩ = some (.slice oa 1 oc) := by simp [World.cell?, World.setCell, Array.getElem?_modify, hx9]
 have HOO : Hid (OwnT (w9.setCell ⟨w.heap.size, 0, none⟩ (.slice oa 1 oc)) w.heap.size (.slice oa 1 oc) [TN.nd ⟨true, 0, [], [], [], []⟩] us) := hO2
 clear hO hO2 hB hx F10 hx9
 go_wp2_with fail
 exact bodyPost_ret (v := .agg #[.slice oa 1 oc]) (by simp [results, Try.results10, go_sem, x10]) rfl ⟨oa, oc, us, rfl, HOO.out, hb10⟩
theorem isKeyU_any (s : ByteArray) (w : World) : Calls Try.prog 17 #[.string s] w fun e w' => e = .returned (.bool (kyB s)) ∧ w' = w := by
 by_cases t1 : 1 ≤ s.size
 ·by_cases t2 : s.size ≤ 8
  ·have HE : Hid (kyB s = true) := by show _ = _; simp [kyB]; omega
   have d2 : decide ((s.size : Int) ≤ 8) = true := by simp; omega
   go_enter Try.func17, Try.ntmps17
   go_wp2
   go_ret
   exact ⟨by rw [HE.out]; rfl, rfl⟩
  ·have HE : Hid (kyB s = false) := by show _ = _; simp [kyB]; omega
   have d2 : decide ((s.size : Int) ≤ 8) = false := by simp; omega
   go_enter Try.func17, Try.ntmps17
   go_wp2
   go_ret
   exact ⟨by rw [HE.out]; rfl, rfl⟩
 ·have HE : Hid (kyB s = false) := by show _ = _; simp [kyB]; omega
  go_enter Try.func17, Try.ntmps17
  go_wp2
  go_ret
  exact ⟨by rw [HE.out]; rfl, rfl⟩
theorem emptyS (w : World) : (w.alloc (.cells #[] 73)).ownsRow w.heap.size 73 3 (.slice (some ⟨w.heap.size, 0, none⟩) 0 0) 0 [] := by
 have := World.ownsRow_made w #[] (base := w.heap.size) (e := 73) (size := 3) 0 (by simp) (by unfold maxLen; omega) (by simp)
 simpa using this
set_option maxHeartbeats 1000000 in
theorem cloneS_any (b off n c : Nat) (xs : List Value) (w : World) (hx : xs.length = n * 3) (hn : 0 < n) (hm : n ≤ 1048576) (hb : b < w.heap.size) (h1 : ∀ u ∈ xs, u.oneCell' = true) (hc : ∀ j u, xs[j]? = some u → w.cell? ((⟨b, off, none⟩ : Addr).add j) = some u) :
  Calls Try.prog 49 #[.slice (some ⟨b, off, none⟩) n c] w fun e w' => ∃ g vc, e = .returned (.slice (some ⟨g, 0, none⟩) n vc) ∧ w'.ownsRow w.heap.size 73 3 (.slice (some ⟨g, 0, none⟩) n vc) n xs ∧ Below w.heap.size w w' := by
 have hq : ∀ (w : World) (a : Option Addr) (n c n' c' : Nat), (binOp .eql 70 (.slice a n c) (.slice none n' c')).run Try.prog w = .ok (.bool a.isNone) w := fun w a n c n' c' => Lib.run_eql_slice_nil w _ _ a n c n' c' Try.underlying70
 obtain ⟨i1, hi1, hy0, hy1, hy2⟩ := info_parts info_slot
 have hb2 : Below w.heap.size w (w.alloc (.cells #[] 73)) := (Below.refl _ _).alloc (Nat.le_refl _) _
 have hR2 := emptyS w
 have hc2 : ∀ j u, xs[j]? = some u → (w.alloc (.cells #[] 73)).cell? ((⟨b, off, none⟩ : Addr).add j) = some u := fun j u hj => (hb2.cell (p := (⟨b, off, none⟩ : Addr).add j) (by unfold Addr.add; split <;> exact hb)).trans (hc j u hj)
 go_enter Try.func49, Try.ntmps49
 go_wp2_with (at_builtin; refine wpList_append_ownD _ rfl _ _ 70 rfl w.heap.size 73 i1 _ 3 40 Try.underlying70 hi1 hy0 hy1 hy2 rfl (by decide) _ _ _ rfl hR2 ⟨b, off, none⟩ n c xs rfl (by omega) hc2 h1 (by unfold maxLen; omega) (by omega) hb2.size ?_; intro v' w5 hown' hgr' hat'; obtain ⟨n', rfl⟩ : ∃ n', n = n' + 1 := ⟨n - 1, by omega⟩; rw [Nat.zero_add, List.nil_append] at hown'; obtain ⟨g5, e5, rfl⟩ := rowSuccT hown')
 have hb3 := hb2.grown hgr' hb2.size (fun g e => (hR2.lt g e).1)
 go_ret
 exact ⟨g5, e5, rfl, hown', hb3⟩
theorem own_some {g n c y : Nat} (h : (Value.slice (some ⟨g, 0, none⟩) n c).ownBlock = some y) : g = y := by simpa [Value.ownBlock] using h
theorem ta_ll (v : Value) (W : World) : (Instr.typeAssert (.iface 74 v) 51 74 true).run Try.prog W = .ok (.tuple #[v, .bool true]) W := by kernel_rfl
theorem ta_il (v : Value) (W : World) : (Instr.typeAssert (.iface 82 v) 51 74 true).run Try.prog W = .ok (.tuple #[.pointer none, .bool false]) W := by kernel_rfl
theorem ta_ii (v : Value) (W : World) : (Instr.typeAssert (.iface 82 v) 51 82 true).run Try.prog W = .ok (.tuple #[v, .bool true]) W := by kernel_rfl
def PartAns (w : World) (P : Nat → Prop) (t : T) (k : Nat) (u : Value) (e : Ending) (w' : World) : Prop := ∃ u2, e = .returned u2 ∧ (∃ P1 P2 : Nat → Prop, GM w' P1 (t.fore k) u ∧ GM w' P2 (t.rest k) u2 ∧ (∀ b, P1 b → ¬ P2 b) ∧ ∀ b, P1 b ∨ P2 b → (P b ∨ w.heap.size ≤ b) ∧ b < w'.heap.size) ∧ Fr P w w'
theorem owns_fore {w : World} {base e size b n c k : Nat} {xs : List Value} (h : w.ownsRow base e size (.slice (some ⟨b, 0, none⟩) n c) n xs) (hk : k ≤ n) : w.ownsRow base e size (.slice (some ⟨b, 0, none⟩) k c) k (xs.take (k * size)) := by
 have hxl := h.1
 have hks : k * size ≤ n * size := Nat.mul_le_mul_right size hk
 rcases h.2 with ⟨e, _⟩ | ⟨g, cap, cur, e, hb, hg, hnc, hcm, hcs, htk⟩
 ·cases e
 ·simp only [Value.slice.injEq, Option.some.injEq, Addr.mk.injEq] at e
  obtain ⟨⟨rfl, _⟩, _, rfl⟩ := e
  refine ⟨by rw [List.length_take]; omega, .inr ⟨b, c, cur, rfl, hb, hg, by omega, hcm, hcs, ?_⟩⟩
  rw [← htk, List.take_take, Nat.min_eq_left hks]
theorem zip_take3 (k : Nat) (a : List ByteArray) (b : List ByteArray) (c : List Int) : (a.take k).zip ((b.take k).zip (c.take k)) = (a.zip (b.zip c)).take k := by
 simp [List.zip, List.take_zipWith]
theorem zip_drop3 (k : Nat) (a : List ByteArray) (b : List ByteArray) (c : List Int) : (a.drop k).zip ((b.drop k).zip (c.drop k)) = (a.zip (b.zip c)).drop k := by
 simp [List.zip, List.drop_zipWith]
set_option maxHeartbeats 2000000 in
theorem partLeaf_any {w : World} {P : Nat → Prop} {t : T} {L : Nat} {a : Option Addr} {n c : Nat} (h : GML w P t L a n c) (hl : t.leaf = true) (k : Nat) (hk0 : 0 < k) (hkn : k < n) (hn : n ≤ 1000) (hP : ∀ b, P b → b < w.heap.size) :
  Calls Try.prog 34 #[.iface 74 (.pointer (some ⟨L, 0, none⟩)), .int .i64 k] w fun e w' => PartAns w P t k (.iface 74 (.pointer (some ⟨L, 0, none⟩))) e w' := by
 obtain ⟨N, hN⟩ : ∃ N, w.heap.size = N := ⟨_, rfl⟩
 obtain ⟨zs, hzs⟩ : ∃ zs, t.keys.zip (t.vals.zip t.over) = zs := ⟨_, rfl⟩
 have hrow0 := h.row
 rw [hzs] at hrow0
 have hzl : zs.length = n := by have := hrow0.1; rw [rowsOf_length sl3] at this; omega
 have hLN : L < N := by have := hP L h.at'; omega
 rcases hrow0.2 with ⟨_, e⟩ | ⟨b, cap, cur, e, _, hg, hnc, hcm, hcs, htk⟩
 ·omega
 simp only [Value.slice.injEq] at e
 obtain ⟨rfl, _, rfl⟩ := e
 obtain ⟨hPb, hbL⟩ := h.blk b rfl
 have hbN := hP b hPb
 have hPL := h.at'
 have hbox0 := h.box
 obtain ⟨pg, hpg⟩ : ∃ pg, t.page = pg := ⟨_, rfl⟩
 rw [hpg] at hbox0
 have hsoil := soil_any hbox0
 have HLEN : Hid (n = t.keys.length ∧ t.keys.zip (t.vals.zip t.over) = zs) := ⟨h.len, hzs⟩
 have hm1 : ∀ w, (nilAhead 249 74 (.pointer (some ⟨L, 0, none⟩)) "loop.example/s02098/impl.soil").run Try.prog w = .ok (some false) w := fun w => by kernel_rfl
 have hm2 : ∀ w, (method 249 74 (.pointer (some ⟨L, 0, none⟩)) "loop.example/s02098/impl.soil").run Try.prog w = .ok (80, .pointer (some ⟨L, 0, none⟩)) w := fun w => by kernel_rfl
 clear hzs
 have ta1 := ta_ll
 go_enter Try.func34, Try.ntmps34
 go_wp2_with fail
 refine hsoil.mono ?_
 rintro e W1 ⟨rfl, hW1⟩
 have f1 := fr_setT w L 0 (.int .i64 0)
 rw [← hW1] at f1
 have hbox1 : W1.heap[L]? = some (.cells #[.int .i64 0, .slice (some ⟨b, 0, none⟩) n c] 78) := by rw [hW1]; simpa using heap_setT hbox0 0 (.int .i64 0)
 have hrow1 := owns_fr hrow0 f1 (fun g hg e => by cases hg; exact hbL e)
 have s1 := f1.size
 have F1 : Fr (fun b => P b ∨ N ≤ b) w W1 := f1.weak (fun g e => .inl (by rw [e]; exact hPL))
 have hcl := cloneS_any b (k * 3) (n - k) (c - k) ((rowsOf slCells zs).drop (k * 3)) W1 (by rw [List.length_drop, hrow1.1]; omega) (by omega) (by omega) (by omega) (fun u hu => slots_one zs u (List.mem_of_mem_drop hu)) (fun j u hj => by
  rw [List.getElem?_drop] at hj
  have hjl := (List.getElem?_eq_some_iff.1 hj).1
  rw [hrow1.1] at hjl
  have e : (⟨b, k * 3, none⟩ : Addr).add j = ⟨b, k * 3 + j, none⟩ := by simp [Addr.add]
  rw [e, hrow1.cellAt (k * 3 + j) hjl]
  exact hj)
 obtain ⟨c0, c1⟩ := box_twoG hbox1
 have l1 : L < W1.heap.size := by omega
 have hck : ¬ (c = k) := by omega
 have hkn' : k ≤ n := by omega
 clear hsoil hW1 f1 hbox0 hrow0 hg htk hcs
 go_wp2_with fail
 refine hcl.mono ?_
 rintro e W2 ⟨g, vc, rfl, hr2, hb2⟩
 have hs2 := hb2.size
 have hgl := hr2.lt g rfl
 have ab := (Below.refl W2.heap.size W2).alloc (Nat.le_refl _) (.cells #[.int .i64 0, .slice (some ⟨g, 0, none⟩) (n - k) vc] 78)
 have kb := heap_alloc_new W2 (.cells #[.int .i64 0, .slice (some ⟨g, 0, none⟩) (n - k) vc] 78)
 have hbox3 := (ab.block L (by omega)).trans ((hb2.block L (by omega)).trans hbox1)
 have hrow3 := owns_below (owns_below hrow1 hb2) ab
 have hr3 := owns_below hr2 ab
 obtain ⟨M, hM⟩ : ∃ M, W2.heap.size = M := ⟨_, rfl⟩
 have hs3 : (W2.alloc (.cells #[.int .i64 0, .slice (some ⟨g, 0, none⟩) (n - k) vc] 78)).heap.size = M + 1 := by simp [hM]
 rw [hM] at kb
 have F3 : Fr (fun b => P b ∨ N ≤ b) w (W2.alloc (.cells #[.int .i64 0, .slice (some ⟨g, 0, none⟩) (n - k) vc] 78)) := (F1.trans (Fr.of_below hb2)).trans (Fr.of_below ab)
 go_upto_region 6 with fail
 generalize W2.alloc (.cells #[.int .i64 0, .slice (some ⟨g, 0, none⟩) (n - k) vc] 78) = W3 at *
 clear hcl c0 c1 hb2 ab hbox1 hrow1 hr2 F1
 obtain ⟨c0, c1⟩ := box_twoG hbox3
 have ff := thawT hbox3
 have l3 : L < W3.heap.size := by omega
 have HFIN : Hid (PartAns w P t k (.iface 74 (.pointer (some ⟨L, 0, none⟩))) (.returned (.iface 74 (.pointer (some ⟨M, 0, none⟩)))) (W3.setCell ⟨L, 1, none⟩ (.slice (some ⟨b, 0, none⟩) k c))) := by
  have hst := fr_setT W3 L 1 (.slice (some ⟨b, 0, none⟩) k c)
  have s5 : (W3.setCell ⟨L, 1, none⟩ (.slice (some ⟨b, 0, none⟩) k c)).heap.size = W3.heap.size := by simp [World.setCell]
  have hbox5 : (W3.setCell ⟨L, 1, none⟩ (.slice (some ⟨b, 0, none⟩) k c)).heap[L]? = some (.cells #[.int .i64 0, .slice (some ⟨b, 0, none⟩) k c] 78) := by simpa using heap_setT hbox3 1 (.slice (some ⟨b, 0, none⟩) k c)
  refine ⟨_, rfl, ⟨fun x => x = L ∨ x = b, fun x => x = M ∨ x = g, ?_, ?_, fun x h1 h2 => by omega, fun x hx => ?_⟩, ?_⟩
  ·refine GML.is (a := some ⟨b, 0, none⟩) (n := k) (c := c) ⟨.inl rfl, hbox5, ?_, fun y hy => by cases hy; exact ⟨.inr rfl, hbL⟩, by show k = (t.keys.take k).length; rw [List.length_take, ← HLEN.out.1]; omega⟩ hl
   show World.ownsRow _ 0 _ 3 _ k (rowsOf slCells ((t.keys.take k).zip ((t.vals.take k).zip (t.over.take k))))
   rw [zip_take3, HLEN.out.2, rowsOf_takeG sl3]
   exact owns_fr (owns_fore hrow3 (by omega)) hst (fun y hy e => by cases hy; exact hbL e)
  ·refine GML.is (a := some ⟨g, 0, none⟩) (n := n - k) (c := vc) ⟨.inl rfl, (hst.block M (by omega) (by omega)).trans kb, ?_, fun y hy => by cases hy; exact ⟨.inr rfl, by show g ≠ M; omega⟩, by show n - k = (t.keys.drop k).length; rw [List.length_drop, ← HLEN.out.1]⟩ hl
   show World.ownsRow _ 0 _ 3 _ (n - k) (rowsOf slCells ((t.keys.drop k).zip ((t.vals.drop k).zip (t.over.drop k))))
   rw [zip_drop3, HLEN.out.2, rowsOf_dropG sl3]
   exact owns_fr (owns_base hr3 (Nat.zero_le _)) hst (fun y hy e => by have := own_some hy; omega)
  ·rw [s5]
   rcases hx with (rfl | rfl) | (rfl | rfl)
   ·exact ⟨.inl hPL, by omega⟩
   ·exact ⟨.inl hPb, by omega⟩
   ·exact ⟨.inr (by omega), by omega⟩
   ·exact ⟨.inr (by omega), by omega⟩
  ·refine fr_tight ?_
   rw [hN]
   exact F3.trans (hst.weak (fun y e => .inl (by rw [e]; exact hPL)))
 clear hbox3 hrow3 hr3 kb F3 hgl
 go_wp2_with fail
 go_ret
 exact HFIN.out
set_option maxHeartbeats 2000000 in
theorem partInner_any {w : World} {P : Nat → Prop} {t : T} {L : Nat} {a : Option Addr} {n c : Nat} {ul : List Value} {Q : Nat → Nat → Prop} (h : GMI w P t L a n c ul Q) (hl : t.leaf = false) (k : Nat) (hk0 : 0 < k) (hkn : k < n) (hn : n ≤ 1000) (hP : ∀ b, P b → b < w.heap.size) (h1 : ∀ u ∈ ul, u.oneCell' = true) :
  Calls Try.prog 34 #[.iface 82 (.pointer (some ⟨L, 0, none⟩)), .int .i64 k] w fun e w' => PartAns w P t k (.iface 82 (.pointer (some ⟨L, 0, none⟩))) e w' := by
 obtain ⟨N, hN⟩ : ∃ N, w.heap.size = N := ⟨_, rfl⟩
 have hrow0 := h.row
 have hul : ul.length = n := by have := hrow0.1; omega
 have hLN : L < N := by have := hP L h.at'; omega
 rcases hrow0.2 with ⟨_, e⟩ | ⟨b, cap, cur, e, _, hg, hnc, hcm, hcs, htk⟩
 ·omega
 simp only [Value.slice.injEq] at e
 obtain ⟨rfl, _, rfl⟩ := e
 obtain ⟨hPb, hbL⟩ := h.blk b rfl
 have hbN := hP b hPb
 have hPL := h.at'
 have hbox0 := h.box
 obtain ⟨pg, hpg⟩ : ∃ pg, t.page = pg := ⟨_, rfl⟩
 rw [hpg] at hbox0
 have hsoil := soil_any hbox0
 have HH : Hid (GMI w P t L (some ⟨b, 0, none⟩) n c ul Q) := h
 have hm1 : ∀ w, (nilAhead 249 82 (.pointer (some ⟨L, 0, none⟩)) "loop.example/s02098/impl.soil").run Try.prog w = .ok (some false) w := fun w => by kernel_rfl
 have hm2 : ∀ w, (method 249 82 (.pointer (some ⟨L, 0, none⟩)) "loop.example/s02098/impl.soil").run Try.prog w = .ok (80, .pointer (some ⟨L, 0, none⟩)) w := fun w => by kernel_rfl
 clear h
 have ta1 := ta_il
 have ta2 := ta_ii
 go_enter Try.func34, Try.ntmps34
 go_wp2_with fail
 refine hsoil.mono ?_
 rintro e W1 ⟨rfl, hW1⟩
 have f1 := fr_setT w L 0 (.int .i64 0)
 rw [← hW1] at f1
 have hbox1 : W1.heap[L]? = some (.cells #[.int .i64 0, .slice (some ⟨b, 0, none⟩) n c] 85) := by rw [hW1]; simpa using heap_setT hbox0 0 (.int .i64 0)
 have hrow1 := owns_fr hrow0 f1 (fun g hg e => by cases hg; exact hbL e)
 have s1 := f1.size
 have F1 : Fr (fun b => b = L ∨ N ≤ b) w W1 := f1.weak (fun g e => .inl e)
 have hcl := cloneN_any b k (n - k) (c - k) (ul.drop k) W1 (by rw [List.length_drop, hul]) (by omega) (by omega) (by omega) (fun u hu => h1 u (List.mem_of_mem_drop hu)) (fun j u hj => by
  rw [List.getElem?_drop] at hj
  have hjl := (List.getElem?_eq_some_iff.1 hj).1
  have e : (⟨b, k, none⟩ : Addr).add j = ⟨b, k + j, none⟩ := by simp [Addr.add]
  rw [e, hrow1.cellAt (k + j) (by omega)]
  exact hj)
 obtain ⟨c0, c1⟩ := box_twoG hbox1
 have l1 : L < W1.heap.size := by omega
 have hck : ¬ (c = k) := by omega
 have hkn' : k ≤ n := by omega
 clear hsoil hW1 f1 hbox0 hrow0 hg htk hcs
 go_wp2_with fail
 refine hcl.mono ?_
 rintro e W2 ⟨g, vc, rfl, hr2, hb2⟩
 have hs2 := hb2.size
 have hgl := hr2.lt g rfl
 have ab := (Below.refl W2.heap.size W2).alloc (Nat.le_refl _) (.cells #[.int .i64 0, .slice (some ⟨g, 0, none⟩) (n - k) vc] 85)
 have kb := heap_alloc_new W2 (.cells #[.int .i64 0, .slice (some ⟨g, 0, none⟩) (n - k) vc] 85)
 have hbox3 := (ab.block L (by omega)).trans ((hb2.block L (by omega)).trans hbox1)
 have hrow3 := owns_below (owns_below hrow1 hb2) ab
 have hr3 := owns_below hr2 ab
 obtain ⟨M, hM⟩ : ∃ M, W2.heap.size = M := ⟨_, rfl⟩
 have hs3 : (W2.alloc (.cells #[.int .i64 0, .slice (some ⟨g, 0, none⟩) (n - k) vc] 85)).heap.size = M + 1 := by simp [hM]
 rw [hM] at kb
 have F3 : Fr (fun b => b = L ∨ N ≤ b) w (W2.alloc (.cells #[.int .i64 0, .slice (some ⟨g, 0, none⟩) (n - k) vc] 85)) := (F1.trans (Fr.of_below hb2)).trans (Fr.of_below ab)
 go_upto_region 11 with fail
 generalize W2.alloc (.cells #[.int .i64 0, .slice (some ⟨g, 0, none⟩) (n - k) vc] 85) = W3 at *
 clear hcl c0 c1 hb2 ab hbox1 hrow1 hr2 F1
 obtain ⟨c0, c1⟩ := box_twoG hbox3
 have ff := thawT hbox3
 have l3 : L < W3.heap.size := by omega
 have HFIN : Hid (PartAns w P t k (.iface 82 (.pointer (some ⟨L, 0, none⟩))) (.returned (.iface 82 (.pointer (some ⟨M, 0, none⟩)))) (W3.setCell ⟨L, 1, none⟩ (.slice (some ⟨b, 0, none⟩) k c))) := by
  have hst := fr_setT W3 L 1 (.slice (some ⟨b, 0, none⟩) k c)
  have s5 : (W3.setCell ⟨L, 1, none⟩ (.slice (some ⟨b, 0, none⟩) k c)).heap.size = W3.heap.size := by simp [World.setCell]
  have hbox5 : (W3.setCell ⟨L, 1, none⟩ (.slice (some ⟨b, 0, none⟩) k c)).heap[L]? = some (.cells #[.int .i64 0, .slice (some ⟨b, 0, none⟩) k c] 85) := by simpa using heap_setT hbox3 1 (.slice (some ⟨b, 0, none⟩) k c)
  have F5 : Fr (fun b => b = L ∨ N ≤ b) w (W3.setCell ⟨L, 1, none⟩ (.slice (some ⟨b, 0, none⟩) k c)) := F3.trans (hst.weak (fun y e => .inl e))
  have HG := HH.out
  have hQlt : ∀ i x, Q i x → x < N := fun i x hx => by have := hP x (HG.sub i x hx).1; omega
  have hkid : ∀ i z, t.kids[i]? = some z → GM (W3.setCell ⟨L, 1, none⟩ (.slice (some ⟨b, 0, none⟩) k c)) (Q i) z (ul.getD i .nilIface) := fun i z hz =>
   GM.keep z (Q i) (Q i) _ (fun x hx => F5.block x (by have := hQlt i x hx; omega) (fun e => by
    rcases e with e | e
    ·exact (HG.sub i x hx).2.1 e
    ·have := hQlt i x hx; omega)) (fun _ h => h) (HG.kid i z (List.mem_of_getElem? hz) hz)
  refine ⟨_, rfl, ⟨fun x => x = L ∨ x = b ∨ ∃ i, i < k ∧ Q i x, fun x => x = M ∨ x = g ∨ ∃ i, k ≤ i ∧ Q i x, ?_, ?_, fun x h1 h2 => ?_, fun x hx => ?_⟩, ?_⟩
  ·refine GMI.is (a := some ⟨b, 0, none⟩) (n := k) (c := c) (ul := ul.take k) (Q := fun i x => i < k ∧ Q i x) ⟨.inl rfl, hbox5, ?_, fun y hy => by cases hy; exact ⟨.inr (.inl rfl), hbL⟩, by show k = (t.kids.take k).length; rw [List.length_take, ← HG.len]; omega, fun i j x h1 h2 => HG.dis i j x h1.2 h2.2, fun i x hx => ⟨.inr (.inr ⟨i, hx⟩), (HG.sub i x hx.2).2.1, (HG.sub i x hx.2).2.2⟩, fun i z hm hi => ?_⟩ hl
   ·have := owns_fr (owns_fore hrow3 (k := k) (by omega)) hst (fun y hy e => by cases hy; exact hbL e)
    rw [Nat.mul_one] at this
    exact this
   ·have hik : i < k := by
     have := (List.getElem?_eq_some_iff.1 hi).1
     simp [T.fore] at this
     omega
    have hz : t.kids[i]? = some z := by simpa [T.fore, List.getElem?_take, hik] using hi
    have e : (ul.take k).getD i .nilIface = ul.getD i .nilIface := by simp [List.getD, List.getElem?_take, hik]
    rw [e]
    exact GM.keep z (Q i) _ _ (fun _ _ => rfl) (fun x hx => ⟨hik, hx⟩) (hkid i z hz)
  ·refine GMI.is (a := some ⟨g, 0, none⟩) (n := n - k) (c := vc) (ul := ul.drop k) (Q := fun i x => Q (k + i) x) ⟨.inl rfl, (hst.block M (by omega) (by omega)).trans kb, ?_, fun y hy => by cases hy; exact ⟨.inr (.inl rfl), by show g ≠ M; omega⟩, by show n - k = (t.kids.drop k).length; rw [List.length_drop, ← HG.len], fun i j x h1 h2 => by have := HG.dis _ _ x h1 h2; omega, fun i x hx => ⟨.inr (.inr ⟨k + i, by omega, hx⟩), by have := hQlt _ x hx; omega, fun e => by have := own_some e; have := hQlt _ _ hx; omega⟩, fun i z hm hi => ?_⟩ hl
   ·exact owns_fr (owns_base hr3 (Nat.zero_le _)) hst (fun y hy e => by have := own_some hy; omega)
   ·have hz : t.kids[k + i]? = some z := by simpa [T.rest, List.getElem?_drop] using hi
    have e : (ul.drop k).getD i .nilIface = ul.getD (k + i) .nilIface := by simp [List.getD, List.getElem?_drop]
    rw [e]
    exact hkid (k + i) z hz
  ·rcases h1 with rfl | rfl | ⟨i, hi, hq⟩
   ·rcases h2 with h2 | h2 | ⟨j, hj, hq2⟩
    ·omega
    ·omega
    ·exact (HG.sub j _ hq2).2.1 rfl
   ·rcases h2 with h2 | h2 | ⟨j, hj, hq2⟩
    ·omega
    ·omega
    ·exact (HG.sub j _ hq2).2.2 rfl
   ·have hx := hQlt i x hq
    rcases h2 with h2 | h2 | ⟨j, hj, hq2⟩
    ·omega
    ·omega
    ·have := HG.dis i j x hq hq2; omega
  ·rw [s5]
   rcases hx with (rfl | rfl | ⟨i, _, hq⟩) | (rfl | rfl | ⟨i, _, hq⟩)
   ·exact ⟨.inl hPL, by omega⟩
   ·exact ⟨.inl hPb, by omega⟩
   ·exact ⟨.inl (HG.sub i x hq).1, by have := hQlt i x hq; omega⟩
   ·exact ⟨.inr (by omega), by omega⟩
   ·exact ⟨.inr (by omega), by omega⟩
   ·exact ⟨.inl (HG.sub i x hq).1, by have := hQlt i x hq; omega⟩
  ·refine fr_tight ?_
   rw [hN]
   exact F5.weak (fun y e => by rcases e with e | e; exact .inl (by rw [e]; exact hPL); exact .inr e)
 clear hbox3 hrow3 hr3 kb F3 hgl
 go_wp2_with fail
 go_ret
 exact HFIN.out
end Go.Proofs.Ytcjjbajmjfgbcaa
