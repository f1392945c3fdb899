import Derived.Test.YtpmagndofiaooaaTud
namespace Go.Proofs.Ytpmagndofiaooaa
open Go.RowKit
set_option linter.unusedVariables false
set_option linter.unusedSimpArgs false
set_option maxRecDepth 100000

set_option maxHeartbeats 8000000 in
theorem bulkInner_any (w0 : World) (lo : Nat) (a : Option Addr) (n c : Nat) (ts : List T) (vs : List Value) (w : World) (hlo : lo ≤ w.heap.size) (hp : LvSt w0 w lo n c a ts vs) (hn : n ≤ 1048576) (hcm : c ≤ 2 ^ 63 - 1) (hcc : n ≤ c) :
    Calls Try.prog 36 #[.slice a n c] w fun e w' => ∃ la lm lc us, e = .returned (.slice la lm lc) ∧ LvSt w0 w' lo lm lc la ((chunks ts).map innB) us ∧ w.heap.size ≤ w'.heap.size := by
  have HP : Hid (LvSt w0 w lo n c a ts vs) := hp
  obtain ⟨i1, hi1, hy0, hy1, hy2⟩ := info_parts info_nodeU
  have HVL : Hid (vs.length = n) := by have := hp.row.1; show vs.length = n; omega
  have HTL : Hid (ts.length = n) := hp.len
  have HV1 : Hid (∀ u ∈ vs, u.oneCell' = true) := fun u hu => by
    obtain ⟨i, hi, e⟩ := List.mem_iff_getElem.1 hu
    have hil : i < ts.length := by rw [HTL.out, ← HVL.out]; exact hi
    have hi2 : ts[i]? = some ts[i] := List.getElem?_eq_getElem hil
    obtain ⟨u2, e2, hG⟩ := hp.node i _ hi2
    rw [List.getElem?_eq_getElem hi, e] at e2
    obtain rfl := Option.some.inj e2
    exact hG.one
  have HROW : Hid (0 < n → ∃ b, a = some ⟨b, 0, none⟩ ∧ b < w.heap.size ∧ ∀ i, i < n → w.cell? ⟨b, i, none⟩ = vs[i]?) := fun h0 => by
    rcases hp.row.2 with ⟨e, e2⟩ | ⟨g', cap, cur, e, _⟩
    · omega
    · have e9 := e
      simp only [Value.slice.injEq] at e
      obtain ⟨rfl, _, rfl⟩ := e
      exact ⟨g', rfl, (hp.row.lt g' rfl).2, fun i hi => hp.row.cellAt i (by omega)⟩
  clear hp
  go_enter Try.func36, Try.ntmps36
  go_wp2_with (first | (refine (shares_any n (by omega) _).mono ?_; rintro e w1 ⟨sa, sc, rfl, hrow, hbel⟩))
  have HB1 : Hid (Below w.heap.size w w1) := hbel
  have hsz1 := hbel.size
  have HS1 : Hid (ShAt w1 sa (sharesL n)) := ShAt.of hrow rfl
  have HSN : Hid ((sharesL n).length ≤ n) := sharesL_len n
  obtain ⟨sn, hsn⟩ : ∃ sn, sn = (sharesL n).length := ⟨_, rfl⟩
  rw [← hsn]
  have HN : Hid (sn = (sharesL n).length) := hsn
  have hsn2 : sn ≤ n := by rw [hsn]; exact HSN.out
  clear hrow hbel hsn HSN
  go_wp2_with fail
  go_loopw [3, 4, 6, 11] (fun lv av _ i wr => ∃ (k at' lc : Nat) (la : Option Addr) (us : List Value) (dn : List (List T)), k ≤ sn ∧ at' ≤ n ∧ i = .int .i64 k ∧ av = .int .i64 at' ∧ lv = .slice la k lc ∧ Hid (dn ++ chunks (ts.drop at') = chunks ts ∧ (sharesL n).drop k = sharesL (n - at')) ∧ Hid (LvSt w0 wr lo k lc la (dn.map innB) us ∧ wr.ownsRow w1.heap.size 70 1 (.slice la k lc) k us ∧ Below w1.heap.size w1 wr)) (fun _ _ _ i _ => sn - (intOf i).toNat)
  case atStart => exact ⟨0, 0, 0, none, [], [], Nat.zero_le _, Nat.zero_le _, rfl, rfl, rfl, ⟨rfl, rfl⟩, ⟨World.ownsRow_nil _ _ _ _, rfl, fun i t hi => by simp at hi, HP.out.bel.trans (HB1.out.mono hlo)⟩, World.ownsRow_nil _ _ _ _, Below.refl _ _⟩
  case round =>
    obtain ⟨k, at', lc, la, us, dn, hk, hat, rfl, rfl, rfl, HD, HL⟩ := hrel
    have hsz := HL.out.2.2.size
    by_cases hlt : k < sn
    · have hat2 : at' < n := by
        rcases Nat.lt_or_ge at' n with h | h
        · exact h
        · exfalso
          have e := HD.out.2
          rw [show n - at' = 0 by omega, sharesL_zero, List.drop_eq_nil_iff] at e
          have := HN.out; omega
      obtain ⟨s, hs⟩ : ∃ s, s = shareN (n - at') := ⟨_, rfl⟩
      have hsl := shareN_le (n := n - at') (by omega)
      rw [← hs] at hsl
      obtain ⟨hs1, hs2, hs3⟩ := hsl
      have hgd : (sharesL n).getD k 0 = (s : Int) := by
        have e := HD.out.2
        rw [sharesL_step (n := n - at') (by omega), ← hs] at e
        have e2 : ((sharesL n).drop k)[0]? = some (s : Int) := by rw [e]; rfl
        rw [List.getElem?_drop, Nat.add_zero] at e2
        simp [List.getD, e2]
      have HD2 : Hid ((dn ++ [(ts.drop at').take s]) ++ chunks (ts.drop (at' + s)) = chunks ts ∧ (sharesL n).drop (k + 1) = sharesL (n - (at' + s))) := by
        have hzl : (ts.drop at').length = n - at' := by rw [List.length_drop, HTL.out]
        constructor
        · have e := HD.out.1
          rw [chunks_step (by omega), hzl, ← hs, List.drop_drop] at e
          rw [← e]; simp
        · have e := HD.out.2
          rw [sharesL_step (n := n - at') (by omega), ← hs] at e
          rw [← List.drop_drop, e, Nat.sub_sub]; rfl
      obtain ⟨b, rfl, hbw, hcs⟩ := HROW.out (by omega)
      have hb2 : Below w.heap.size w wr := HB1.out.trans (HL.out.2.2.mono hsz1)
      have HCS : Hid (∀ j u, ((vs.drop at').take s)[j]? = some u → wr.cell? ((⟨b, at', none⟩ : Addr).add j) = some u) := fun j u hj => by
        have hjs : j < s := by
          have h9 := (List.getElem?_eq_some_iff.1 hj).1
          rw [List.length_take] at h9; omega
        rw [List.getElem?_take, if_pos hjs, List.getElem?_drop] at hj
        rw [Addr.add_lit]
        exact ((hb2.cell (p := ⟨b, at' + j, none⟩) hbw).trans (hcs (at' + j) (by omega))).trans hj
      have HXL : Hid (((vs.drop at').take s).length = s) := by
        show _ = _
        rw [List.length_take, List.length_drop, HVL.out]; omega
      have HX1 : Hid (∀ u ∈ (vs.drop at').take s, u.oneCell' = true) := fun u hu => HV1.out u (List.mem_of_mem_drop (List.mem_of_mem_take hu))
      obtain ⟨g, rfl, hgl, hgc⟩ := (HS1.out.below HL.out.2.2) k (by have := HN.out; omega)
      rw [hgd] at hgc
      have hbr : b < wr.heap.size := Nat.lt_of_lt_of_le hbw hb2.size
      have HB2 : Hid (Below w.heap.size w wr) := hb2
      clear hgd hs hcs hb2
      go_upto_region 6 with fail
      have hsub : at' + s - at' = s := by omega
      go_wp2_with (first | (go_at_call 54; (try rw [hsub]); refine (cloneN_any b at' s (c - at') ((vs.drop at').take s) wr HXL.out hs1 (by omega) hbr HX1.out HCS.out).mono ?_; rintro e w3 ⟨g3, vc, rfl, hr3, hb3⟩; have h34 : Below w3.heap.size w3 ((w3.alloc (.cells #[.int .i64 0, .slice (some ⟨g3, 0, none⟩) s vc] 101)).alloc (.cells #[(.iface 99 (.pointer (some ⟨w3.heap.size, 0, none⟩)))] 70)) := ((Below.refl _ _).alloc (Nat.le_refl _) _).alloc (by simp) _; have h35 : Below wr.heap.size wr ((w3.alloc (.cells #[.int .i64 0, .slice (some ⟨g3, 0, none⟩) s vc] 101)).alloc (.cells #[(.iface 99 (.pointer (some ⟨w3.heap.size, 0, none⟩)))] 70)) := hb3.trans (h34.mono hb3.size); have hbx : ((w3.alloc (.cells #[.int .i64 0, .slice (some ⟨g3, 0, none⟩) s vc] 101)).alloc (.cells #[(.iface 99 (.pointer (some ⟨w3.heap.size, 0, none⟩)))] 70)).heap[w3.heap.size]? = some (.cells #[.int .i64 0, .slice (some ⟨g3, 0, none⟩) s vc] 101) := (boxT_below (heap_alloc_new w3 (.cells #[.int .i64 0, .slice (some ⟨g3, 0, none⟩) s vc] 101)) ((Below.refl _ _).alloc (Nat.le_refl _) _)); have hrow := owns_below HL.out.2.1 h35; have hcell := cell_one_new (w3.alloc (.cells #[.int .i64 0, .slice (some ⟨g3, 0, none⟩) s vc] 101)) (.iface 99 (.pointer (some ⟨w3.heap.size, 0, none⟩))) 70; rw [show (w3.alloc (.cells #[.int .i64 0, .slice (some ⟨g3, 0, none⟩) s vc] 101)).heap.size = w3.heap.size + 1 from by simp] at hcell; have hszb : w1.heap.size ≤ ((w3.alloc (.cells #[.int .i64 0, .slice (some ⟨g3, 0, none⟩) s vc] 101)).alloc (.cells #[(.iface 99 (.pointer (some ⟨w3.heap.size, 0, none⟩)))] 70)).heap.size := Nat.le_trans hsz h35.size) | (at_builtin; refine wpList_append_ownD _ rfl _ _ 65 rfl w1.heap.size 70 i1 _ 1 16 Try.underlying65 hi1 hy0 hy1 hy2 rfl (by decide) _ _ _ rfl hrow ⟨w3.heap.size + 1, 0, none⟩ 1 1 [(.iface 99 (.pointer (some ⟨w3.heap.size, 0, none⟩)))] rfl rfl hcell (by simp [Value.oneCell']) (by unfold maxLen; omega) (by omega) hszb ?_; intro v' w5 hown' hgr' hat'; obtain ⟨g5, e5, rfl⟩ := rowSuccT hown'))
      have hx5 : w3.heap.size < ((w3.alloc (.cells #[.int .i64 0, .slice (some ⟨g3, 0, none⟩) s vc] 101)).alloc (.cells #[(.iface 99 (.pointer (some ⟨w3.heap.size, 0, none⟩)))] 70)).heap.size := by simp; omega
      have hob : ∀ b, (Value.slice la k lc).ownBlock = some b → w1.heap.size ≤ b ∧ b < wr.heap.size := fun b e => HL.out.2.1.lt b e
      have hg3 := hr3.lt g3 rfl
      have hs3' := hb3.size
      have HNL : LvSt w0 w5 lo (k + 1) e5 (some ⟨g5, 0, none⟩) ((dn ++ [(ts.drop at').take s]).map innB) (us ++ [(.iface 99 (.pointer (some ⟨w3.heap.size, 0, none⟩)))]) := by
        rw [List.map_append]
        refine LvSt.push2 (HL.out.1.below (by omega) h35) (by omega) ?_ (own_lowerT hown' (by omega)) hgr' hat'
        refine LvSt.inner HP.out (own_lowerT hr3 (by omega)) hs1 (by omega) (HB2.out.trans (h35.mono (by omega))) h34 hbx ⟨by omega, hx5, fun e => by have := hob _ e; omega⟩ (fun b h1 h2 => ⟨h1, by omega, fun e => by have := hob _ e; omega⟩) ⟨by omega, by omega, fun e => by have := hob _ e; omega⟩
      have HFR : Below w1.heap.size w1 w5 := by
        have hf3 : Fr (fun b => (Value.slice la k lc).ownBlock = some b) ((w3.alloc (.cells #[.int .i64 0, .slice (some ⟨g3, 0, none⟩) s vc] 101)).alloc (.cells #[(.iface 99 (.pointer (some ⟨w3.heap.size, 0, none⟩)))] 70)) w5 := Fr.of_grown hgr' (fun b e => e)
        exact (HL.out.2.2.trans (h35.mono (by omega))).trans (hf3.below (by omega) (fun b e => (hob b e).1))
      have HNX : Hid (LvSt w0 w5 lo (k + 1) e5 (some ⟨g5, 0, none⟩) ((dn ++ [(ts.drop at').take s]).map innB) (us ++ [(.iface 99 (.pointer (some ⟨w3.heap.size, 0, none⟩)))]) ∧ w5.ownsRow w1.heap.size 70 1 (.slice (some ⟨g5, 0, none⟩) (k + 1) e5) (k + 1) (us ++ [(.iface 99 (.pointer (some ⟨w3.heap.size, 0, none⟩)))]) ∧ Below w1.heap.size w1 w5) := ⟨HNL, hown', HFR⟩
      clear HNL HFR hown' hgr' hat' hob hcell hrow
      go_roundw
      case rel => exact ⟨k + 1, at' + s, e5, some ⟨g5, 0, none⟩, us ++ [(.iface 99 (.pointer (some ⟨w3.heap.size, 0, none⟩)))], dn ++ [(ts.drop at').take s], by omega, by omega, by go_num, by go_num, rfl, HD2, HNX⟩
      case measure => simp [intOf]; omega
    · have hfin : dn = chunks ts := by
        have e := HD.out.1
        have e2 := HD.out.2
        rw [List.drop_eq_nil_of_le (by have := HN.out; omega)] at e2
        have hz : n - at' = 0 := by
          rcases Nat.eq_zero_or_pos (n - at') with h | h
          · exact h
          · rw [sharesL_step h] at e2; cases e2
        rw [List.drop_eq_nil_of_le (by rw [HTL.out]; omega), chunks_nil, List.append_nil] at e
        exact e
      have HFI : Hid (dn = chunks ts) := hfin
      clear hfin
      go_wp2_with fail
      go_ret
      exact ⟨la, k, lc, us, rfl, by rw [← HFI.out]; exact HL.out.1, Nat.le_trans hsz1 hsz⟩
end Go.Proofs.Ytpmagndofiaooaa
