import Derived.Test.YtmahgakigdcjmaaGAB
import Derived.Test.YtmahgakigdcjmaaGAL
import Derived.Test.YtmahgakigdcjmaaGBD
namespace Go.Proofs.Ytmahgakigdcjmaa
open Go.RowKit
set_option linter.unusedVariables false
set_option linter.unusedSimpArgs false
set_option maxRecDepth 100000

theorem info_np : (Try.prog.info? 41).map (fun i => (i.zero, i.size, i.bytes)) = some (some (.agg #[.int .i64 0, .slice none 0 0]), 2, 32) := by kernel_rfl
theorem rowSuccN {w : World} {base e size : Nat} {v : Value} {k : Nat} {xs : List Value} (h : w.ownsRow base e size v (k + 1) xs) : ∃ g cap, v = .slice (some ⟨g, 0, none⟩) (k + 1) cap := by
  rcases h.2 with ⟨_, h0⟩ | ⟨g, cap, cur, e, _⟩
  · omega
  · exact ⟨g, cap, e⟩
/-- One page more, its bytes in a new row. -/
theorem OwnN.push2 {w1 w2 w3 : World} {base M : Nat} {v v' vb : Value} {fs : List PN} {xs vs : List Value} {f : PN} (h : OwnN w1 base v fs xs vs) (hbase : base ≤ M) (hlt : ∀ j, j < fs.length → ∀ g, (vs.getD j (.slice none 0 0)).ownBlock = some g → g < M)
    (hvb : w1.ownsRow M 5 1 vb f.2.length (u8s f.2)) (hby : ∀ x ∈ f.2, 0 ≤ x ∧ x ≤ 255) (hb2 : Below w1.heap.size w1 w2)
    (hrow : w3.ownsRow base 41 2 v' (fs.length + 1) (xs ++ [.int .i64 f.1, vb])) (hgr : w2.grownBy w3 v.ownBlock) : OwnN w3 base v' (fs ++ [f]) (xs ++ [.int .i64 f.1, vb]) (vs ++ [vb]) := by
  have h1 := h.below hb2
  have hvb2 := owns_below hvb hb2
  have hx := h.row.1
  have hbb : w3.ownsRow base 5 1 vb f.2.length (u8s f.2) := by
    have := hvb2.kept hgr (own_neN h1.row hvb2)
    refine ⟨this.1, ?_⟩
    rcases this.2 with hn | ⟨g, cap, cur, e1, e2, e3⟩
    · exact .inl hn
    · exact .inr ⟨g, cap, cur, e1, Nat.le_trans hbase e2, e3⟩
  have hvl := h.len
  refine ⟨by simpa using hrow, by simp [hvl], ?_, ?_, ?_, ?_, ?_⟩
  · intro j hj
    simp at hj
    by_cases hjk : j < fs.length
    · rw [getD_snoc_lt _ _ _ _ hjk, List.getElem?_append_left (by omega)]; exact h.name j hjk
    · obtain rfl : j = fs.length := by omega
      rw [getD_snoc_eq, List.getElem?_append_right (by omega)]
      exact ⟨by simp [hx], trivial⟩
  · intro j hj
    simp at hj
    by_cases hjk : j < fs.length
    · rw [getD_snoc_lt _ _ _ _ (by omega), List.getElem?_append_left (by omega)]; exact h.val j hjk
    · obtain rfl : j = fs.length := by omega
      rw [show fs.length = vs.length from hvl.symm, getD_snoc_eq, List.getElem?_append_right (by omega)]
      simp [hx, hvl]
  · intro j hj
    simp at hj
    by_cases hjk : j < fs.length
    · rw [getD_snoc_lt _ _ _ _ (by omega), getD_snoc_lt _ _ _ _ hjk]
      exact (h1.data j hjk).kept hgr (own_neN h1.row (h1.data j hjk))
    · obtain rfl : j = fs.length := by omega
      rw [getD_snoc_eq, show fs.length = vs.length from hvl.symm, getD_snoc_eq]
      exact hbb
  · intro j hj
    simp at hj
    by_cases hjk : j < fs.length
    · rw [getD_snoc_lt _ _ _ _ hjk]; exact h.byte j hjk
    · obtain rfl : j = fs.length := by omega
      rw [getD_snoc_eq]; exact hby
  · intro i j hij hj g hg
    simp at hj
    rw [getD_snoc_lt _ _ _ _ (by omega)] at hg
    by_cases hjk : j < fs.length
    · rw [getD_snoc_lt _ _ _ _ (by omega)]; exact h.apart i j hij hjk g hg
    · obtain rfl : j = fs.length := by omega
      rw [show fs.length = vs.length from hvl.symm, getD_snoc_eq]
      intro e
      have e1 := (hvb.lt g e).1
      have e2 := hlt i (by omega) g hg
      omega
theorem OwnN.blk {w : World} {base : Nat} {v : Value} {fs : List PN} {xs vs : List Value} (h : OwnN w base v fs xs vs) {g : Nat} (hg : Blk v vs g) : base ≤ g ∧ g < w.heap.size := by
  rcases hg with hg | ⟨j, hj, hg⟩
  · exact h.row.lt g hg
  · exact (h.data j (by rw [← h.len]; exact hj)).lt g hg
theorem OwnN.lower {w : World} {base b' : Nat} {v : Value} {fs : List PN} {xs vs : List Value} (h : OwnN w base v fs xs vs) (hb : b' ≤ base) : OwnN w b' v fs xs vs :=
  ⟨own_lower h.row hb, h.len, h.name, h.val, fun j hj => own_lower (h.data j hj) hb, h.byte, h.apart⟩
/-- The pages one after another, up to the first fault. -/
def loopS (bs : List Int) (base tx : Int) : Nat → Int → List PN → Rs → List PN × Rs
  | 0, _, ps, s => (ps, s)
  | k + 1, l, ps, s => if (pageS bs base tx l s).st.ft = 0 then loopS bs base tx k (pageS bs base tx l s).num (ps ++ [((pageS bs base tx l s).num, (pageS bs base tx l s).data)]) (pageS bs base tx l s).st else (ps, (pageS bs base tx l s).st)
def pagesS (bs : List Int) (s : Rs) : List PN × Rs := loopS bs (headS bs s).base (headS bs s).tx (headS bs s).cnt.toNat 0 [] (headS bs s).st
theorem pageS_data {bs : List Int} (h : ∀ x ∈ bs, 0 ≤ x ∧ x ≤ 255) (base tx l : Int) (s : Rs) : (pageS bs base tx l s).data.length = 128 ∧ (∀ x ∈ (pageS bs base tx l s).data, 0 ≤ x ∧ x ≤ 255) ∧ (0 ≤ (pageS bs base tx l s).num ∧ (pageS bs base tx l s).num < 4294967296) := by
  refine ⟨?_, fun x hx => takeV_byte h _ _ x (List.mem_of_mem_drop hx), ?_⟩
  · show ((takeV bs 132 _).drop 4).length = 128
    rw [List.length_drop, takeV_len]
  · have := leN_range ((takeV bs 132 (markS bs 4 [80] s)).take 4) (fun x hx => takeV_byte h _ _ x (List.mem_of_mem_take hx))
    have e4 : (256 : Int) ^ 4 = 4294967296 := by decide
    have e5 : ((takeV bs 132 (markS bs 4 [80] s)).take 4).length = 4 := by rw [List.length_take, takeV_len]; rfl
    rw [e5, e4] at this
    exact this
set_option maxHeartbeats 4000000 in
theorem rStream_any (R : Nat) (g o n c A B : Nat) (bs : List Int) (s : Rs) (w : World) (h : RSt w R (some ⟨g, o, none⟩) n c A B bs s) :
    Calls Try.prog 18 #[.pointer (some ⟨R, 0, none⟩)] w fun e w' => ∃ va vc xs vs, e = .returned (.agg #[.int .i64 (headS bs s).id, .int .i64 (headS bs s).tx, .int .i64 (headS bs s).base, .int .i64 (headS bs s).root, .slice va (pagesS bs s).1.length vc]) ∧ OwnN w' w.heap.size (.slice va (pagesS bs s).1.length vc) (pagesS bs s).1 xs vs ∧ RSt w' R (some ⟨g, o, none⟩) n c A B bs (endS bs (pagesS bs s).2) ∧ Fr (fun x => x = R) w w' := by
  have hby := h.by_.2.2.2.1
  have hRl := h.lt
  have HRC : Hid (0 ≤ (headS bs s).cnt ∧ (headS bs s).cnt < 4294967296) := num_range hby _
  obtain ⟨FIN, hFIN⟩ : ∃ F, F = pagesS bs s := ⟨_, rfl⟩
  have HFIN : Hid (loopS bs (headS bs s).base (headS bs s).tx (headS bs s).cnt.toNat 0 [] (headS bs s).st = FIN) := hFIN.symm
  rw [← hFIN]
  clear hFIN
  obtain ⟨H, hH⟩ : ∃ H, H = headS bs s := ⟨_, rfl⟩
  rw [← hH] at HFIN HRC ⊢
  have HHE : Hid (headS bs s = H) := hH.symm
  clear hH
  obtain ⟨id, tx, ba, rt, ct, s1⟩ := H
  simp only at HFIN HRC ⊢
  have hb0 : Below w.heap.size w (w.alloc (.cells #[.int .i64 0, .int .i64 0, .int .i64 0, .int .i64 0, .slice none 0 0] 25)) := (Below.refl _ _).alloc (Nat.le_refl _) _
  have k0 := heap_alloc_new w (.cells #[.int .i64 0, .int .i64 0, .int .i64 0, .int .i64 0, .slice none 0 0] 25)
  obtain ⟨i1, hi1, hy0, hy1, hy2⟩ := info_parts info_np
  go_enter Try.func18, Try.ntmps18
  go_wp2_with fail
  generalize w.alloc (.cells #[.int .i64 0, .int .i64 0, .int .i64 0, .int .i64 0, .slice none 0 0] 25) = W0 at hb0 k0 ⊢
  have H0 := h.below hb0
  have l0 : w.heap.size < W0.heap.size := (Array.getElem?_eq_some_iff.1 k0).1
  have hhd := rHead_any R (some ⟨g, o, none⟩) n c A B bs s W0 H0
  rw [HHE.out] at hhd
  simp only at hhd
  refine hhd.mono ?_
  rintro e w1 ⟨rfl, H1, hF1⟩
  have K1 := box_fr k0 hF1 (by omega)
  have F1 : Fr (fun x => x = R) w w1 := (Fr.of_below hb0).trans hF1
  have hb2 : Below w1.heap.size w1 (w1.alloc (.cells #[.int .i64 id, .int .i64 tx, .int .i64 ba, .int .i64 rt, .slice none 0 0] 25)) := (Below.refl _ _).alloc (Nat.le_refl _) _
  have S2 := heap_alloc_new w1 (.cells #[.int .i64 id, .int .i64 tx, .int .i64 ba, .int .i64 rt, .slice none 0 0] 25)
  have Z0 : R < w1.heap.size := H1.lt
  have Z1 : w.heap.size < w1.heap.size := (Array.getElem?_eq_some_iff.1 K1).1
  obtain ⟨N, hN⟩ : ∃ N, N = w1.heap.size := ⟨_, rfl⟩
  rw [← hN] at S2 Z0 Z1
  obtain ⟨C, hC⟩ : ∃ C : Nat, ct = (C : Int) := ⟨ct.toNat, by have := HRC.out; omega⟩
  subst hC
  have hCb : C < 4294967296 := by have := HRC.out; omega
  have HI : Hid (∃ (va : Option Addr) (vc : Nat) (xs vs : List Value), loopS bs ba tx (C - 0) 0 [] s1 = FIN ∧ ([] : List PN).length = 0 ∧ RSt (w1.alloc (.cells #[.int .i64 id, .int .i64 tx, .int .i64 ba, .int .i64 rt, .slice none 0 0] 25)) R (some ⟨g, o, none⟩) n c A B bs s1 ∧ Fr (fun x => x = R) w (w1.alloc (.cells #[.int .i64 id, .int .i64 tx, .int .i64 ba, .int .i64 rt, .slice none 0 0] 25)) ∧ (w1.alloc (.cells #[.int .i64 id, .int .i64 tx, .int .i64 ba, .int .i64 rt, .slice none 0 0] 25)).heap[w.heap.size]? = some (.cells #[.int .i64 0, .int .i64 0, .int .i64 0, .int .i64 0, .slice none 0 0] 25) ∧ (w1.alloc (.cells #[.int .i64 id, .int .i64 tx, .int .i64 ba, .int .i64 rt, .slice none 0 0] 25)).heap[N]? = some (.cells #[.int .i64 id, .int .i64 tx, .int .i64 ba, .int .i64 rt, .slice va 0 vc] 25) ∧ OwnN (w1.alloc (.cells #[.int .i64 id, .int .i64 tx, .int .i64 ba, .int .i64 rt, .slice none 0 0] 25)) (N + 1) (.slice va 0 vc) [] xs vs) := by
    refine ⟨none, 0, [], [], ?_, rfl, H1.below hb2, F1.trans (Fr.of_below hb2), box_below K1 hb2, S2, OwnN.nil (World.ownsRow_nil _ _ _ _)⟩
    have := HFIN.out
    simpa using this
  clear hF1 k0 hb0 H0 H1 K1 F1 hb2 S2 HFIN HRC h hhd HHE
  go_wp2_with fail
  rw [← hN]
  clear hN
  generalize w1.alloc (.cells #[.int .i64 id, .int .i64 tx, .int .i64 ba, .int .i64 rt, .slice none 0 0] 25) = W2 at HI ⊢
  go_loopw [5, 6, 13] (fun l p i wr => ∃ (k : Nat) (lst : Int) (ps : List PN) (s' : Rs), k ≤ C ∧ i = .int .i64 k ∧ l = .int .i64 lst ∧ Hid (∃ (va : Option Addr) (vc : Nat) (xs vs : List Value), loopS bs ba tx (C - k) lst ps s' = FIN ∧ ps.length = k ∧ RSt wr R (some ⟨g, o, none⟩) n c A B bs s' ∧ Fr (fun x => x = R) w wr ∧ wr.heap[w.heap.size]? = some (.cells #[.int .i64 0, .int .i64 0, .int .i64 0, .int .i64 0, .slice none 0 0] 25) ∧ wr.heap[N]? = some (.cells #[.int .i64 id, .int .i64 tx, .int .i64 ba, .int .i64 rt, .slice va k vc] 25) ∧ OwnN wr (N + 1) (.slice va k vc) ps xs vs)) (fun _ _ i _ => C - (intOf i).toNat)
  case atStart => exact ⟨0, 0, [], s1, Nat.zero_le _, rfl, rfl, HI⟩
  case round =>
    clear HI
    obtain ⟨k, lst, ps, s', hk, rfl, rfl, HX⟩ := hrel
    by_cases hlt : k < C
    · obtain ⟨va, vc, xs, vs, x1, x2, x3, x4, x5, x6, x7⟩ := HX.out
      clear HX
      have hd := pageS_data hby ba tx lst s'
      have hpg := rPage_any R (some ⟨g, o, none⟩) n c A B bs s' id tx ba rt lst va k vc wr x3
      have hls : loopS bs ba tx (C - k) lst ps s' = if (pageS bs ba tx lst s').st.ft = 0 then loopS bs ba tx (C - (k + 1)) (pageS bs ba tx lst s').num (ps ++ [((pageS bs ba tx lst s').num, (pageS bs ba tx lst s').data)]) (pageS bs ba tx lst s').st else (ps, (pageS bs ba tx lst s').st) := by
        rw [show C - k = (C - (k + 1)) + 1 by omega]; rfl
      rw [hls] at x1
      clear hls
      obtain ⟨P, hP⟩ : ∃ P, P = pageS bs ba tx lst s' := ⟨_, rfl⟩
      rw [← hP] at hd hpg x1
      clear hP
      obtain ⟨num, data, s2⟩ := P
      simp only at hd hpg x1
      obtain ⟨hd1, hd2, hd3⟩ := hd
      have HD1 : Hid (data.length = 128) := hd1
      have HD2 : Hid (∀ x ∈ data, 0 ≤ x ∧ x ≤ 255) := hd2
      have X1 : Hid ((if s2.ft = 0 then loopS bs ba tx (C - (k + 1)) num (ps ++ [(num, data)]) s2 else (ps, s2)) = FIN) := x1
      have X2 : Hid (ps.length = k) := x2
      have X3 : Hid (RSt wr R (some ⟨g, o, none⟩) n c A B bs s') := x3
      have X4 : Hid (Fr (fun x => x = R) w wr) := x4
      have X5 : Hid (wr.heap[w.heap.size]? = some (.cells #[.int .i64 0, .int .i64 0, .int .i64 0, .int .i64 0, .slice none 0 0] 25)) := x5
      have X6 : Hid (wr.heap[N]? = some (.cells #[.int .i64 id, .int .i64 tx, .int .i64 ba, .int .i64 rt, .slice va k vc] 25)) := x6
      have X7 : Hid (OwnN wr (N + 1) (.slice va k vc) ps xs vs) := x7
      obtain ⟨q0, q1, q2, q3, q4⟩ := box_fiveC x6
      have lN : N < wr.heap.size := (Array.getElem?_eq_some_iff.1 x6).1
      clear hd1 hd2 x1 x2 x3 x4 x5 x6 x7
      go_wp2_with fail
      refine hpg.mono ?_
      rintro e w3 ⟨pa, pc, rfl, hO3, H3, hF3⟩
      have Y5 := box_fr X5.out hF3 (by omega)
      have Y6 := box_fr X6.out hF3 (by omega)
      have Y7 := X7.out.fr hF3 (fun g hg e => by have := X7.out.blk hg; omega)
      have Y4 := X4.out.trans hF3
      have Y8 : ∀ j, j < ps.length → ∀ g, (vs.getD j (.slice none 0 0)).ownBlock = some g → g < wr.heap.size := fun j hj g hg => ((X7.out.data j hj).lt g hg).2
      have hb4 : Below w3.heap.size w3 (w3.alloc (.cells #[.int .i64 num, .slice pa 128 pc] 41)) := (Below.refl _ _).alloc (Nat.le_refl _) _
      have P4 := heap_alloc_new w3 (.cells #[.int .i64 num, .slice pa 128 pc] 41)
      have s34 : wr.heap.size ≤ w3.heap.size := hF3.size
      have s45 : (w3.alloc (.cells #[.int .i64 num, .slice pa 128 pc] 41)).heap.size = w3.heap.size + 1 := by simp
      clear X3 X4 X5 X6 q0 q1 q2 q3 q4 hpg hF3
      have H4 := H3.below hb4
      obtain ⟨r0, r1, r2, rf⟩ := H4.cells
      clear r0 r1 rf
      go_upto_region 6 with fail
      generalize w3.alloc (.cells #[.int .i64 num, .slice pa 128 pc] 41) = w4 at hb4 P4 H4 r2 s45 ⊢
      by_cases hft : s2.ft = 0
      · have dft : (s2.ft != 0) = false := by simp [hft]
        have HFT : Hid (loopS bs ba tx (C - (k + 1)) num (ps ++ [(num, data)]) s2 = FIN) := by have := X1.out; rwa [if_pos hft] at this
        have Z6 := box_below Y6 hb4
        have Z7 := Y7.below hb4
        obtain ⟨q0, q1, q2, q3, q4⟩ := box_fiveC Z6
        obtain ⟨p0, p1, _⟩ := box_twoP P4
        have hlp : w3.heap.size < w4.heap.size := by omega
        have hlN : N < w4.heap.size := by omega
        have hcells : ∀ (j : Nat) (u : Value), [Value.int .i64 num, .slice pa 128 pc][j]? = some u → (w4.alloc (.cells #[.int .i64 num, .slice pa 128 pc] 41)).cell? ((⟨w4.heap.size, 0, none⟩ : Addr).add j) = some u := cell_two_new w4 (.int .i64 num) (.slice pa 128 pc) 41
        have hrow : w4.ownsRow (N + 1) 41 2 (.slice va k vc) k xs := by have := Z7.row; rwa [X2.out] at this
        have HROW := hrow.alloc (.cells #[.int .i64 num, .slice pa 128 pc] 41)
        have Hlt : Hid (∀ g, (Value.slice va k vc).ownBlock = some g → N + 1 ≤ g ∧ g < w3.heap.size) := fun g hg => Y7.row.lt g hg
        clear hft q0 q1 q2 q3 X1 s45
        go_wp2_with (at_builtin; refine wpList_append_own2 _ rfl _ _ 23 rfl (N + 1) 41 i1 _ 2 32 Try.underlying23 hi1 hy0 hy1 hy2 rfl (by decide) _ _ _ rfl HROW ⟨w4.heap.size, 0, none⟩ 1 1 [.int .i64 num, .slice pa 128 pc] rfl rfl hcells (by simp [Value.oneCell']) (by unfold maxLen; omega) (by omega) (by simp; omega) ?_; intro v' w5 hown' hgr hat; obtain ⟨g', cap', rfl⟩ := rowSuccN hown'; have hb5 : Below w4.heap.size w4 (w4.alloc (.cells #[.int .i64 num, .slice pa 128 pc] 41)) := (Below.refl _ _).alloc (Nat.le_refl _) _; have B5 : w5.heap[N]? = some (.cells #[.int .i64 id, .int .i64 tx, .int .i64 ba, .int .i64 rt, .slice va k vc] 25) := (hgr.block N (by simp; omega) (fun e => by have := Hlt.out N e.symm; omega)).trans (box_below Z6 hb5); have C5 : w5.heap[w3.heap.size]? = some (.cells #[.int .i64 num, .slice pa 128 pc] 41) := (hgr.block w3.heap.size (by simp; omega) (fun e => by have := Hlt.out _ e.symm; omega)).trans (box_below P4 hb5); obtain ⟨b0, b1, b2, b3, b4⟩ := box_fiveC B5; have bf := box_thawC B5 4; have lN5 : N < w5.heap.size := (Array.getElem?_eq_some_iff.1 B5).1; have lC5 : w3.heap.size < w5.heap.size := (Array.getElem?_eq_some_iff.1 C5).1; have D5 : (w5.setCell ⟨N, 4, none⟩ (.slice (some ⟨g', 0, none⟩) (k + 1) cap')).heap[w3.heap.size]? = some (.cells #[.int .i64 num, .slice pa 128 pc] 41) := box_fr C5 (fr_setCell w5 N 4 _) (by omega); obtain ⟨d0, d1, _⟩ := box_twoP D5)
        have O5 : OwnN w5 (N + 1) (.slice (some ⟨g', 0, none⟩) (k + 1) cap') (ps ++ [(num, data)]) (xs ++ [.int .i64 num, .slice pa 128 pc]) (vs ++ [.slice pa 128 pc]) :=
          OwnN.push2 (f := (num, data)) Y7 (show N + 1 ≤ wr.heap.size by omega) Y8 (by rw [HD1.out]; exact hO3) HD2.out (hb4.trans (hb5.mono hb4.size)) (by rw [X2.out]; exact hown') hgr
        have hgb : N + 1 ≤ g' := (hown'.lt g' rfl).1
        have FR5 : Fr (fun x => N + 1 ≤ x) w3 w5 := (Fr.of_below (hb4.trans (hb5.mono hb4.size))).trans (Fr.of_grown hgr (fun q e => (Hlt.out q e).1))
        have R9 : Hid (∃ (va : Option Addr) (vc : Nat) (xs vs : List Value), loopS bs ba tx (C - (k + 1)) num (ps ++ [(num, data)]) s2 = FIN ∧ (ps ++ [(num, data)]).length = k + 1 ∧ RSt (w5.setCell ⟨N, 4, none⟩ (.slice (some ⟨g', 0, none⟩) (k + 1) cap')) R (some ⟨g, o, none⟩) n c A B bs s2 ∧ Fr (fun x => x = R) w (w5.setCell ⟨N, 4, none⟩ (.slice (some ⟨g', 0, none⟩) (k + 1) cap')) ∧ (w5.setCell ⟨N, 4, none⟩ (.slice (some ⟨g', 0, none⟩) (k + 1) cap')).heap[w.heap.size]? = some (.cells #[.int .i64 0, .int .i64 0, .int .i64 0, .int .i64 0, .slice none 0 0] 25) ∧ (w5.setCell ⟨N, 4, none⟩ (.slice (some ⟨g', 0, none⟩) (k + 1) cap')).heap[N]? = some (.cells #[.int .i64 id, .int .i64 tx, .int .i64 ba, .int .i64 rt, .slice va (k + 1) vc] 25) ∧ OwnN (w5.setCell ⟨N, 4, none⟩ (.slice (some ⟨g', 0, none⟩) (k + 1) cap')) (N + 1) (.slice va (k + 1) vc) (ps ++ [(num, data)]) xs vs) := by
          have fs := fr_setCell w5 N 4 (.slice (some ⟨g', 0, none⟩) (k + 1) cap')
          refine ⟨_, _, _, _, HFT.out, by rw [List.length_append, X2.out]; rfl, ?_, ?_, box_fr (box_fr Y5 FR5 (by omega)) fs (by omega), ?_, O5.fr fs (fun q hq e => by have := O5.blk hq; omega)⟩
          · refine RSt.other (C := N) ⟨box_fr H3.box FR5 (by omega), H3.by_.keep fun q q1 q2 => FR5.block q (by have := H3.hB; have := H3.lt; omega) (by have := H3.hB; omega), H3.hB, H3.at_, H3.small⟩ fs (by omega)
          · exact ⟨fs.os.trans (FR5.os.trans Y4.os), fs.tape.trans (FR5.tape.trans Y4.tape), fs.output.trans (FR5.output.trans Y4.output), Nat.le_trans Y4.size (Nat.le_trans FR5.size fs.size), fun q hq hn => (fs.block q (Nat.lt_of_lt_of_le hq (Nat.le_trans Y4.size FR5.size)) (by omega)).trans ((FR5.block q (Nat.lt_of_lt_of_le hq Y4.size) (by omega)).trans (Y4.block q hq hn))⟩
          · simp [World.setCell, Array.getElem?_modify, B5]
        clear O5 FR5 hown' hgr hat B5 C5 D5 Y4 Y5 Y6 Y7 Y8 Z6 Z7 hrow HROW hcells hO3 H3 H4 hb4 hb5 Hlt HFT HD1 HD2 X2 X7 P4 b0 b1 b2 b3 b4 bf p0 p1 q4 r2
        go_wp2_with fail
        go_roundw
        case rel => exact ⟨k + 1, num, ps ++ [(num, data)], s2, by omega, by go_num, rfl, R9⟩
        case measure => simp [intOf]; omega
      · have dft : (s2.ft != 0) = true := by simp [hft]
        have HFT : Hid ((ps, s2) = FIN) := by have := X1.out; rwa [if_neg hft] at this
        have HY4 : Hid (Fr (fun x => x = R) w w4) := Y4.trans (Fr.of_below hb4)
        have HY5 : Hid (w4.heap[w.heap.size]? = some (.cells #[.int .i64 0, .int .i64 0, .int .i64 0, .int .i64 0, .slice none 0 0] 25)) := box_below Y5 hb4
        have HY6 : Hid (w4.heap[N]? = some (.cells #[.int .i64 id, .int .i64 tx, .int .i64 ba, .int .i64 rt, .slice va k vc] 25)) := box_below Y6 hb4
        have HY7 : Hid (OwnN w4 (N + 1) (.slice va k vc) ps xs vs) := Y7.below hb4
        have HY3 : Hid (RSt w4 R (some ⟨g, o, none⟩) n c A B bs s2) := H4
        clear Y4 Y5 Y6 Y7 Y8 hft X1 hO3 H3 H4 hb4 P4 X7 HD1 HD2
        obtain ⟨wT, hwT⟩ : ∃ x, x = w4 := ⟨_, rfl⟩
        obtain ⟨sT, hsT⟩ : ∃ x, x = s2 := ⟨_, rfl⟩
        subst hwT hsT
        go_wp2_with fail
        clear r2 dft
        refine (rEnd_any R g o n c A B bs sT wT HY3.out).mono ?_
        rintro e w9 ⟨rfl, H9, hF9⟩
        have A5 := box_fr HY5.out hF9 (by omega)
        have A6 := box_fr HY6.out hF9 (by omega)
        have A7 := HY7.out.fr hF9 (fun q hq e => by have := HY7.out.blk hq; omega)
        have A4 := HY4.out.trans hF9
        obtain ⟨x0, x1, x2, x3, x4⟩ := box_fiveC A5
        obtain ⟨q0, q1, q2, q3, q4⟩ := box_fiveC A6
        have hz := box_thawC A5
        have X5 := put5C_box A5 (.int .i64 id) (.int .i64 tx) (.int .i64 ba) (.int .i64 rt) (.slice va k vc)
        have hf5 := put5C_fr w9 w.heap.size (.int .i64 id) (.int .i64 tx) (.int .i64 ba) (.int .i64 rt) (.slice va k vc)
        have HR5 : Hid (RSt (put5C w9 w.heap.size (.int .i64 id) (.int .i64 tx) (.int .i64 ba) (.int .i64 rt) (.slice va k vc)) R (some ⟨g, o, none⟩) n c A B bs (endS bs FIN.2)) := by rw [← HFT.out]; exact H9.other hf5 (by omega)
        have FF5 : Hid (Fr (fun x => x = R) w (put5C w9 w.heap.size (.int .i64 id) (.int .i64 tx) (.int .i64 ba) (.int .i64 rt) (.slice va k vc))) := ⟨hf5.os.trans A4.os, hf5.tape.trans A4.tape, hf5.output.trans A4.output, Nat.le_trans A4.size hf5.size, fun q hq hn => (hf5.block q (Nat.lt_of_lt_of_le hq A4.size) (by omega)).trans (A4.block q hq hn)⟩
        have HO5 : Hid (OwnN (put5C w9 w.heap.size (.int .i64 id) (.int .i64 tx) (.int .i64 ba) (.int .i64 rt) (.slice va k vc)) w.heap.size (.slice va FIN.1.length vc) FIN.1 xs vs) := by
          rw [← HFT.out, X2.out]
          exact (A7.fr hf5 (fun q hq e => by have := A7.blk hq; omega)).lower (by omega)
        have HK5 : Hid (FIN.1.length = k) := by show _ = _; rw [← HFT.out]; exact X2.out
        have l5 : w.heap.size < w9.heap.size := (Array.getElem?_eq_some_iff.1 A5).1
        have l6 : N < w9.heap.size := (Array.getElem?_eq_some_iff.1 A6).1
        clear A4 A5 A6 A7 H9 hF9 hf5 HY3 HY4 HY5 HY6 HY7
        go_wp2_with fail
        show bodyPost _ _ _ _ _ (put5C w9 w.heap.size (.int .i64 id) (.int .i64 tx) (.int .i64 ba) (.int .i64 rt) (.slice va k vc))
        clear x0 x1 x2 x3 x4 hz
        obtain ⟨x0, x1, x2, x3, x4⟩ := box_fiveC X5
        exact bodyPost_ret (v := .agg #[.int .i64 id, .int .i64 tx, .int .i64 ba, .int .i64 rt, .slice va k vc]) (by simp [results, Try.results18, go_sem, x0, x1, x2, x3, x4]) rfl ⟨va, vc, xs, vs, by rw [HK5.out], HO5.out, HR5.out, FF5.out⟩
    · obtain rfl : k = C := by omega
      obtain ⟨va, vc, xs, vs, x1, x2, x3, x4, x5, x6, x7⟩ := HX.out
      clear HX
      have HFT : Hid ((ps, s') = FIN) := by rw [Nat.sub_self] at x1; exact x1
      have X2 : Hid (ps.length = k) := x2
      have HY3 : Hid (RSt wr R (some ⟨g, o, none⟩) n c A B bs s') := x3
      have HY4 : Hid (Fr (fun x => x = R) w wr) := x4
      have HY5 : Hid (wr.heap[w.heap.size]? = some (.cells #[.int .i64 0, .int .i64 0, .int .i64 0, .int .i64 0, .slice none 0 0] 25)) := x5
      have HY6 : Hid (wr.heap[N]? = some (.cells #[.int .i64 id, .int .i64 tx, .int .i64 ba, .int .i64 rt, .slice va k vc] 25)) := x6
      have HY7 : Hid (OwnN wr (N + 1) (.slice va k vc) ps xs vs) := x7
      clear x1 x2 x3 x4 x5 x6 x7
      obtain ⟨wT, hwT⟩ : ∃ x, x = wr := ⟨_, rfl⟩
      obtain ⟨sT, hsT⟩ : ∃ x, x = s' := ⟨_, rfl⟩
      subst hwT hsT
      go_wp2_with fail
      refine (rEnd_any R g o n c A B bs sT wT HY3.out).mono ?_
      rintro e w9 ⟨rfl, H9, hF9⟩
      have A5 := box_fr HY5.out hF9 (by omega)
      have A6 := box_fr HY6.out hF9 (by omega)
      have A7 := HY7.out.fr hF9 (fun q hq e => by have := HY7.out.blk hq; omega)
      have A4 := HY4.out.trans hF9
      obtain ⟨x0, x1, x2, x3, x4⟩ := box_fiveC A5
      obtain ⟨q0, q1, q2, q3, q4⟩ := box_fiveC A6
      have hz := box_thawC A5
      have X5 := put5C_box A5 (.int .i64 id) (.int .i64 tx) (.int .i64 ba) (.int .i64 rt) (.slice va k vc)
      have hf5 := put5C_fr w9 w.heap.size (.int .i64 id) (.int .i64 tx) (.int .i64 ba) (.int .i64 rt) (.slice va k vc)
      have HR5 : Hid (RSt (put5C w9 w.heap.size (.int .i64 id) (.int .i64 tx) (.int .i64 ba) (.int .i64 rt) (.slice va k vc)) R (some ⟨g, o, none⟩) n c A B bs (endS bs FIN.2)) := by rw [← HFT.out]; exact H9.other hf5 (by omega)
      have FF5 : Hid (Fr (fun x => x = R) w (put5C w9 w.heap.size (.int .i64 id) (.int .i64 tx) (.int .i64 ba) (.int .i64 rt) (.slice va k vc))) := ⟨hf5.os.trans A4.os, hf5.tape.trans A4.tape, hf5.output.trans A4.output, Nat.le_trans A4.size hf5.size, fun q hq hn => (hf5.block q (Nat.lt_of_lt_of_le hq A4.size) (by omega)).trans (A4.block q hq hn)⟩
      have HO5 : Hid (OwnN (put5C w9 w.heap.size (.int .i64 id) (.int .i64 tx) (.int .i64 ba) (.int .i64 rt) (.slice va k vc)) w.heap.size (.slice va FIN.1.length vc) FIN.1 xs vs) := by
        rw [← HFT.out, X2.out]
        exact (A7.fr hf5 (fun q hq e => by have := A7.blk hq; omega)).lower (by omega)
      have HK5 : Hid (FIN.1.length = k) := by show _ = _; rw [← HFT.out]; exact X2.out
      have l5 : w.heap.size < w9.heap.size := (Array.getElem?_eq_some_iff.1 A5).1
      have l6 : N < w9.heap.size := (Array.getElem?_eq_some_iff.1 A6).1
      clear A4 A5 A6 A7 H9 hF9 hf5 HY3 HY4 HY5 HY6 HY7
      go_wp2_with fail
      show bodyPost _ _ _ _ _ (put5C w9 w.heap.size (.int .i64 id) (.int .i64 tx) (.int .i64 ba) (.int .i64 rt) (.slice va k vc))
      clear x0 x1 x2 x3 x4 hz
      obtain ⟨x0, x1, x2, x3, x4⟩ := box_fiveC X5
      exact bodyPost_ret (v := .agg #[.int .i64 id, .int .i64 tx, .int .i64 ba, .int .i64 rt, .slice va k vc]) (by simp [results, Try.results18, go_sem, x0, x1, x2, x3, x4]) rfl ⟨va, vc, xs, vs, by rw [HK5.out], HO5.out, HR5.out, FF5.out⟩
end Go.Proofs.Ytmahgakigdcjmaa
namespace Go.Proofs.Ytmahgakigdcjmaa
open Go.RowKit
set_option linter.unusedVariables false
set_option linter.unusedSimpArgs false
set_option maxRecDepth 100000

/-- What parsing a stream answers. -/
structure SR where
  err : Int
  id : Int
  tx : Int
  base : Int
  root : Int
  pages : List PN
def zSR (e : Int) : SR := ⟨e, 0, 0, 0, 0, []⟩
def parI (bs : List Int) : SR :=
  if 200000 < bs.length then zSR 1
  else if (endS bs (pagesS bs ⟨0, 0⟩).2).ft = 0 then ⟨0, (headS bs ⟨0, 0⟩).id, (headS bs ⟨0, 0⟩).tx, (headS bs ⟨0, 0⟩).base, (headS bs ⟨0, 0⟩).root, (pagesS bs ⟨0, 0⟩).1⟩
  else zSR (endS bs (pagesS bs ⟨0, 0⟩).2).ft
def SR.cells (r : SR) (va : Option Addr) (vc : Nat) : Array Value := #[.int .i64 r.err, .int .i64 r.id, .int .i64 r.tx, .int .i64 r.base, .int .i64 r.root, .slice va r.pages.length vc]
/-- An answer of parsing in memory of one's own. -/
def SRAns (w : World) (r : SR) (e : Ending) (w' : World) : Prop := ∃ va vc xs vs, e = .returned (.agg (r.cells va vc)) ∧ OwnN w' w.heap.size (.slice va r.pages.length vc) r.pages xs vs ∧ Below w.heap.size w w'
theorem box_sixS {w : World} {N : Nat} {v0 v1 v2 v3 v4 v5 : Value} {t : TypeId} (h : w.heap[N]? = some (.cells #[v0, v1, v2, v3, v4, v5] t)) : w.cell? ⟨N, 0, none⟩ = some v0 ∧ w.cell? ⟨N, 1, none⟩ = some v1 ∧ w.cell? ⟨N, 2, none⟩ = some v2 ∧ w.cell? ⟨N, 3, none⟩ = some v3 ∧ w.cell? ⟨N, 4, none⟩ = some v4 ∧ w.cell? ⟨N, 5, none⟩ = some v5 := by
  refine ⟨?_, ?_, ?_, ?_, ?_, ?_⟩ <;> simp [World.cell?, h]
def put6S (w : World) (N : Nat) (u0 u1 u2 u3 u4 u5 : Value) : World := (((((w.setCell ⟨N, 0, none⟩ u0).setCell ⟨N, 1, none⟩ u1).setCell ⟨N, 2, none⟩ u2).setCell ⟨N, 3, none⟩ u3).setCell ⟨N, 4, none⟩ u4).setCell ⟨N, 5, none⟩ u5
theorem put6S_box {w : World} {N t : Nat} {v0 v1 v2 v3 v4 v5 : Value} (h : w.heap[N]? = some (.cells #[v0, v1, v2, v3, v4, v5] t)) (u0 u1 u2 u3 u4 u5 : Value) : (put6S w N u0 u1 u2 u3 u4 u5).heap[N]? = some (.cells #[u0, u1, u2, u3, u4, u5] t) := by
  simp [put6S, World.setCell, Array.getElem?_modify, h]
theorem put6S_fr (w : World) (N : Nat) (u0 u1 u2 u3 u4 u5 : Value) : Fr (fun x => x = N) w (put6S w N u0 u1 u2 u3 u4 u5) :=
  (((((fr_setCell _ _ _ _).trans (fr_setCell _ _ _ _)).trans (fr_setCell _ _ _ _)).trans (fr_setCell _ _ _ _)).trans (fr_setCell _ _ _ _)).trans (fr_setCell _ _ _ _)
theorem ownN_none (w : World) (b : Nat) : OwnN w b (.slice none 0 0) [] [] [] := OwnN.nil (World.ownsRow_nil _ _ _ _)
theorem SRAns.zero {w w' : World} (e : Int) (hb : Below w.heap.size w w') : SRAns w (zSR e) (.returned (.agg #[.int .i64 e, .int .i64 0, .int .i64 0, .int .i64 0, .int .i64 0, .slice none 0 0])) w' :=
  ⟨none, 0, [], [], rfl, ownN_none _ _, hb⟩
set_option maxHeartbeats 1600000 in
theorem implParse_any (g o n c A B : Nat) (bs : List Int) (w : World) (hB : B ≤ w.heap.size) (hb : BytesAt w A B (some ⟨g, o, none⟩) n c bs) :
    Calls Try.prog 6 #[.slice (some ⟨g, o, none⟩) n c] w fun e w' => SRAns w (parI bs) e w' := by
  have hl := hb.1
  have hnc := hb.2.1
  have hcm := hb.2.2.1
  unfold maxLen at hcm
  have hb0 : Below w.heap.size w (w.alloc (.cells #[.int .i64 0, .int .i64 0, .int .i64 0, .int .i64 0, .int .i64 0, .slice none 0 0] 27)) := (Below.refl _ _).alloc (Nat.le_refl _) _
  have k0 := heap_alloc_new w (.cells #[.int .i64 0, .int .i64 0, .int .i64 0, .int .i64 0, .int .i64 0, .slice none 0 0] 27)
  by_cases hn : 200000 < n
  · have hp : parI bs = zSR 1 := if_pos (by omega)
    rw [hp]
    have hgt : decide ((200000 : Int) < (n : Int)) = true := by simp; omega
    have hl0 : w.heap.size < (w.alloc (.cells #[.int .i64 0, .int .i64 0, .int .i64 0, .int .i64 0, .int .i64 0, .slice none 0 0] 27)).heap.size := by simp
    clear hb hp hl
    go_enter Try.func6, Try.ntmps6
    go_upto_region 2 with fail
    generalize w.alloc (.cells #[.int .i64 0, .int .i64 0, .int .i64 0, .int .i64 0, .int .i64 0, .slice none 0 0] 27) = W0 at hb0 k0 hl0 ⊢
    obtain ⟨x0, x1, x2, x3, x4, x5⟩ := box_sixS k0
    have hz := box_thawC k0
    have X := put6S_box k0 (.int .i64 1) (.int .i64 0) (.int .i64 0) (.int .i64 0) (.int .i64 0) (.slice none 0 0)
    have hf := put6S_fr W0 w.heap.size (.int .i64 1) (.int .i64 0) (.int .i64 0) (.int .i64 0) (.int .i64 0) (.slice none 0 0)
    have HB : Hid (Below w.heap.size w (put6S W0 w.heap.size (.int .i64 1) (.int .i64 0) (.int .i64 0) (.int .i64 0) (.int .i64 0) (.slice none 0 0))) := hb0.trans (hf.below hb0.size (fun q e => by omega))
    clear hf hb0 k0
    go_wp2_with fail
    show bodyPost _ _ _ _ _ (put6S W0 w.heap.size (.int .i64 1) (.int .i64 0) (.int .i64 0) (.int .i64 0) (.int .i64 0) (.slice none 0 0))
    clear x0 x1 x2 x3 x4 x5 hz
    obtain ⟨x0, x1, x2, x3, x4, x5⟩ := box_sixS X
    exact bodyPost_ret (v := .agg #[.int .i64 1, .int .i64 0, .int .i64 0, .int .i64 0, .int .i64 0, .slice none 0 0]) (by simp [results, Try.results6, go_sem, x0, x1, x2, x3, x4, x5]) rfl (SRAns.zero 1 HB.out)
  · have HP : Hid (parI bs = if (endS bs (pagesS bs ⟨0, 0⟩).2).ft = 0 then ⟨0, (headS bs ⟨0, 0⟩).id, (headS bs ⟨0, 0⟩).tx, (headS bs ⟨0, 0⟩).base, (headS bs ⟨0, 0⟩).root, (pagesS bs ⟨0, 0⟩).1⟩ else zSR (endS bs (pagesS bs ⟨0, 0⟩).2).ft) := if_neg (by omega)
    have hgt : decide ((200000 : Int) < (n : Int)) = false := by simp; omega
    have HB : Hid (BytesAt w A B (some ⟨g, o, none⟩) n c bs) := hb
    clear hb hl
    go_enter Try.func6, Try.ntmps6
    go_upto_region 3 with fail
    generalize w.alloc (.cells #[.int .i64 0, .int .i64 0, .int .i64 0, .int .i64 0, .int .i64 0, .slice none 0 0] 27) = W0 at hb0 k0 ⊢
    have l0 : w.heap.size < W0.heap.size := (Array.getElem?_eq_some_iff.1 k0).1
    have hb1 : Below W0.heap.size W0 (W0.alloc (.cells #[.slice (some ⟨g, o, none⟩) n c, .int .i64 0, .int .i64 0] 46)) := (Below.refl _ _).alloc (Nat.le_refl _) _
    have k1 := heap_alloc_new W0 (.cells #[.slice (some ⟨g, o, none⟩) n c, .int .i64 0, .int .i64 0] 46)
    have K0 := box_below k0 hb1
    have bel1 : Below w.heap.size w (W0.alloc (.cells #[.slice (some ⟨g, o, none⟩) n c, .int .i64 0, .int .i64 0] 46)) := hb0.trans (hb1.mono hb0.size)
    obtain ⟨R, hR⟩ : ∃ R, R = W0.heap.size := ⟨_, rfl⟩
    rw [← hR] at k1 l0
    clear k0 hb0 hb1
    go_wp2_with fail
    rw [← hR]
    clear hR
    generalize W0.alloc (.cells #[.slice (some ⟨g, o, none⟩) n c, .int .i64 0, .int .i64 0] 46) = W1 at k1 K0 bel1 ⊢
    have HR : RSt W1 R (some ⟨g, o, none⟩) n c A B bs ⟨0, 0⟩ := ⟨k1, HB.out.below (bel1.mono hB), by omega, Nat.zero_le _, by omega⟩
    have hst := rStream_any R g o n c A B bs ⟨0, 0⟩ W1 HR
    obtain ⟨PG, hPG⟩ : ∃ P, P = (pagesS bs ⟨0, 0⟩).1 := ⟨_, rfl⟩
    obtain ⟨FT, hFT⟩ : ∃ F, F = endS bs (pagesS bs ⟨0, 0⟩).2 := ⟨_, rfl⟩
    obtain ⟨H, hH⟩ : ∃ H, H = headS bs ⟨0, 0⟩ := ⟨_, rfl⟩
    have HG : Hid ((if (endS bs (pagesS bs ⟨0, 0⟩).2).ft = 0 then (⟨0, (headS bs ⟨0, 0⟩).id, (headS bs ⟨0, 0⟩).tx, (headS bs ⟨0, 0⟩).base, (headS bs ⟨0, 0⟩).root, (pagesS bs ⟨0, 0⟩).1⟩ : SR) else zSR (endS bs (pagesS bs ⟨0, 0⟩).2).ft) = if FT.ft = 0 then ⟨0, H.id, H.tx, H.base, H.root, PG⟩ else zSR FT.ft) := by show _ = _; rw [hFT, hH, hPG]
    rw [← hPG, ← hFT, ← hH] at hst
    clear hPG hFT hH HR k1 HB
    obtain ⟨id, tx, ba, rt, ct, s1⟩ := H
    obtain ⟨fa, ft⟩ := FT
    simp only at hst HG
    refine hst.mono ?_
    rintro e w2 ⟨va, vc, xs, vs, rfl, hO2, H2, hF2⟩
    have K2 := box_fr K0 hF2 (by omega)
    have bel2 : Below w.heap.size w w2 := bel1.trans (hF2.below bel1.size (fun q e => by omega))
    have hb3 : Below w2.heap.size w2 (w2.alloc (.cells #[.int .i64 id, .int .i64 tx, .int .i64 ba, .int .i64 rt, .slice va PG.length vc] 25)) := (Below.refl _ _).alloc (Nat.le_refl _) _
    have S3 := heap_alloc_new w2 (.cells #[.int .i64 id, .int .i64 tx, .int .i64 ba, .int .i64 rt, .slice va PG.length vc] 25)
    have K3 := box_below K2 hb3
    have H3 := H2.below hb3
    have hO3 := hO2.below hb3
    have bel3 := bel2.trans (hb3.mono bel2.size)
    obtain ⟨r0, r1, r2, rf⟩ := H3.cells
    simp only at r2
    obtain ⟨x0, x1, x2, x3, x4, x5⟩ := box_sixS K3
    have hz := box_thawC K3
    obtain ⟨q0, q1, q2, q3, q4⟩ := box_fiveC S3
    have lS : w2.heap.size < (w2.alloc (.cells #[.int .i64 id, .int .i64 tx, .int .i64 ba, .int .i64 rt, .slice va PG.length vc] 25)).heap.size := by simp
    have hRl := H3.lt
    have HLW : Hid (w.heap.size ≤ W1.heap.size ∧ w.heap.size < W1.heap.size) := ⟨bel1.size, by have := (Array.getElem?_eq_some_iff.1 K0).1; omega⟩
    clear hst K0 K2 bel1 bel2 hb3 S3 H2 H3 hO2 hF2 r0 r1 rf
    go_upto_region 5 with fail
    generalize w2.alloc (.cells #[.int .i64 id, .int .i64 tx, .int .i64 ba, .int .i64 rt, .slice va PG.length vc] 25) = w3 at K3 hO3 bel3 r2 x0 x1 x2 x3 x4 x5 hz q0 q1 q2 q3 q4 lS hRl ⊢
    have l3 : w.heap.size < w3.heap.size := (Array.getElem?_eq_some_iff.1 K3).1
    by_cases hft : ft = 0
    · have dft : (ft != 0) = false := by simp [hft]
      have HG2 : Hid ((if ft = 0 then (⟨0, id, tx, ba, rt, PG⟩ : SR) else zSR ft) = ⟨0, id, tx, ba, rt, PG⟩) := if_pos hft
      have X := put6S_box K3 (.int .i64 0) (.int .i64 id) (.int .i64 tx) (.int .i64 ba) (.int .i64 rt) (.slice va PG.length vc)
      have hf := put6S_fr w3 w.heap.size (.int .i64 0) (.int .i64 id) (.int .i64 tx) (.int .i64 ba) (.int .i64 rt) (.slice va PG.length vc)
      have HA : Hid (SRAns w ⟨0, id, tx, ba, rt, PG⟩ (.returned (.agg #[.int .i64 0, .int .i64 id, .int .i64 tx, .int .i64 ba, .int .i64 rt, .slice va PG.length vc])) (put6S w3 w.heap.size (.int .i64 0) (.int .i64 id) (.int .i64 tx) (.int .i64 ba) (.int .i64 rt) (.slice va PG.length vc))) :=
        ⟨va, vc, xs, vs, rfl, (hO3.fr hf (fun q hq e => by have := hO3.blk hq; have := HLW.out.2; omega)).lower HLW.out.1, bel3.trans (hf.below bel3.size (fun q e => by omega))⟩
      clear hf hft hO3 bel3 K3
      go_wp2_with fail
      show bodyPost _ _ _ _ _ (put6S w3 w.heap.size (.int .i64 0) (.int .i64 id) (.int .i64 tx) (.int .i64 ba) (.int .i64 rt) (.slice va PG.length vc))
      clear x0 x1 x2 x3 x4 x5 hz
      obtain ⟨x0, x1, x2, x3, x4, x5⟩ := box_sixS X
      exact bodyPost_ret (v := .agg #[.int .i64 0, .int .i64 id, .int .i64 tx, .int .i64 ba, .int .i64 rt, .slice va PG.length vc]) (by simp [results, Try.results6, go_sem, x0, x1, x2, x3, x4, x5]) rfl (by rw [HP.out, HG.out, HG2.out]; exact HA.out)
    · have dft : (ft != 0) = true := by simp [hft]
      have HG2 : Hid ((if ft = 0 then (⟨0, id, tx, ba, rt, PG⟩ : SR) else zSR ft) = zSR ft) := if_neg hft
      have X := put6S_box K3 (.int .i64 ft) (.int .i64 0) (.int .i64 0) (.int .i64 0) (.int .i64 0) (.slice none 0 0)
      have hf := put6S_fr w3 w.heap.size (.int .i64 ft) (.int .i64 0) (.int .i64 0) (.int .i64 0) (.int .i64 0) (.slice none 0 0)
      have HA : Hid (SRAns w (zSR ft) (.returned (.agg #[.int .i64 ft, .int .i64 0, .int .i64 0, .int .i64 0, .int .i64 0, .slice none 0 0])) (put6S w3 w.heap.size (.int .i64 ft) (.int .i64 0) (.int .i64 0) (.int .i64 0) (.int .i64 0) (.slice none 0 0))) :=
        SRAns.zero ft (bel3.trans (hf.below bel3.size (fun q e => by omega)))
      clear hf hft hO3 bel3 K3
      go_wp2_with fail
      show bodyPost _ _ _ _ _ (put6S w3 w.heap.size (.int .i64 ft) (.int .i64 0) (.int .i64 0) (.int .i64 0) (.int .i64 0) (.slice none 0 0))
      clear x0 x1 x2 x3 x4 x5 hz
      obtain ⟨x0, x1, x2, x3, x4, x5⟩ := box_sixS X
      exact bodyPost_ret (v := .agg #[.int .i64 ft, .int .i64 0, .int .i64 0, .int .i64 0, .int .i64 0, .slice none 0 0]) (by simp [results, Try.results6, go_sem, x0, x1, x2, x3, x4, x5]) rfl (by rw [HP.out, HG.out, HG2.out]; exact HA.out)
end Go.Proofs.Ytmahgakigdcjmaa
namespace Go.Proofs.Ytmahgakigdcjmaa
open Go.RowKit
set_option linter.unusedVariables false
set_option maxRecDepth 100000

theorem bytesAt_dropN {w : World} {A B m c n : Nat} {ad : Addr} {l : List Int} (h : BytesAt w A B (some ad) m c l) (hn : n ≤ m) : BytesAt w A B (some (ad.add n)) (m - n) (c - n) (l.drop n) := by
  obtain ⟨hl, hnc, hc, hw, hcell, hnil⟩ := h
  refine ⟨by simp; omega, by omega, by omega, fun x hx => hw x (List.mem_of_mem_drop hx), fun h0 => ?_, fun h => by cases h⟩
  obtain ⟨b, off, e1, e2, e3⟩ := hcell (by omega)
  cases e1
  refine ⟨b, off + n, by simp [Addr.add], e2, fun i hi => ?_⟩
  rw [Nat.add_assoc, e3 (n + i) (by omega)]
  simp [List.getD]
theorem bytesAt_takeN {w : World} {A B m c n : Nat} {a : Option Addr} {l : List Int} (h : BytesAt w A B a m c l) (hn : n ≤ m) : BytesAt w A B a n c (l.take n) := by
  obtain ⟨hl, hnc, hc, hw, hcell, hnil⟩ := h
  refine ⟨by simp; omega, by omega, by omega, fun x hx => hw x (List.mem_of_mem_take hx), fun h0 => ?_, hnil⟩
  obtain ⟨b, off, e1, e2, e3⟩ := hcell (by omega)
  refine ⟨b, off, e1, e2, fun i hi => ?_⟩
  rw [e3 i (by omega)]
  simp [List.getD, hi]
set_option maxHeartbeats 800000 in
theorem l2Take_good (n : Nat) (hn : n ≤ 255) (a : Option Addr) (m c : Nat) (l : List Int) (hk : n ≤ m) (w : World) (A B : Nat) (hB : BytesAt w A B a m c l) (hBw : B ≤ w.heap.size) :
    Calls Try.prog 46 #[.agg #[.slice a m c, .bool false], .int .i64 n] w fun e w' => ∃ a1 c1 a2 c2, e = .returned (.tuple #[.agg #[.slice a1 (m - n) c1, .bool false], .slice a2 n c2]) ∧ BytesAt w' A B a1 (m - n) c1 (l.drop n) ∧ BytesAt w' A B a2 n c2 (l.take n) ∧ Below w.heap.size w w' := by
  have hmc := hB.2.1
  have hcm := hB.2.2.1
  unfold maxLen at hcm
  have i1 : (0 : Int) ≤ (n : Int) := by omega
  have i2 : (n : Int) ≤ (m : Int) := by omega
  have i3 : (n : Int) ≤ (c : Int) := by omega
  have i4 : ¬ (m : Int) < (n : Int) := by omega
  rcases a with _ | ad
  · have hm0 : m = 0 := by
      by_cases h0 : m = 0
      · exact h0
      · obtain ⟨_, _, h1, _⟩ := hB.2.2.2.2.1 (by omega); cases h1
    have hc0 : c = 0 := hB.2.2.2.2.2 rfl
    subst hm0 hc0
    obtain rfl : n = 0 := by omega
    have hl0 : l = [] := List.eq_nil_of_length_eq_zero hB.1
    subst hl0
    have HB : Hid (∀ w', BytesAt w' A B none 0 0 []) := fun w' => ⟨rfl, Nat.le_refl _, Nat.zero_le _, (by intro x hx; cases hx), fun h => absurd h (Nat.lt_irrefl _), fun _ => rfl⟩
    clear hB
    go_enter Try.func46, Try.ntmps46
    go_wp2_with fail
    go_region_held3 (fun w' => w'.cell? ⟨w.heap.size, 0, none⟩ = some (.slice none 0 0)) (go_keep) (fail)
    all_goals
      go_wp2
      exact bodyPost_ret (v := .tuple #[.agg #[.slice none 0 0, .bool false], .slice none 0 0]) (by simp [results, Try.results46, go_sem]) rfl ⟨_, _, _, _, rfl, HB.out _, HB.out _, by repeat (first | exact Below.refl _ _ | refine Below.drew ?_ | refine Below.alloc ?_ (by simp) _)⟩
  · have HB1 := bytesAt_dropN hB hk
    have HB2 := bytesAt_takeN hB hk
    by_cases hcn : c = n
    · subst hcn
      obtain rfl : m = c := by omega
      have HB0 : Hid (∀ w', BytesAt w' A B (some ad) (m - m) 0 (l.drop m)) := fun w' => by rw [Nat.sub_self, List.drop_eq_nil_of_le (by have := hB.1; omega)]; exact bytesAt_none _ 0 (Nat.zero_le _)
      go_enter Try.func46, Try.ntmps46
      go_wp2_with fail
      go_region_held3 (fun w' => w'.cell? ⟨w.heap.size, 0, none⟩ = some (.slice (some ad) m m)) (go_keep) (fail)
      all_goals
        go_wp2
        have hbl : Below w.heap.size w (((w.alloc (.cells #[.slice (some ad) m m, .bool false] 87)).alloc (.cells #[.slice (some ad) 0 0, .bool false] 87)).drew) := by repeat (first | exact Below.refl _ _ | refine Below.drew ?_ | refine Below.alloc ?_ (by simp) _)
        exact bodyPost_ret (v := .tuple #[.agg #[.slice (some ad) 0 0, .bool false], .slice (some ad) m m]) (by simp [results, Try.results46, go_sem]) rfl ⟨some ad, 0, some ad, m, by rw [Nat.sub_self], HB0.out _, HB2.below (hbl.mono hBw), hbl⟩
    · go_enter Try.func46, Try.ntmps46
      go_wp2_with fail
      go_region_held3 (fun w' => w'.cell? ⟨w.heap.size, 0, none⟩ = some (.slice (some ad) m c)) (go_keep) (fail)
      all_goals
        go_wp2
        have hbl : Below w.heap.size w (((w.alloc (.cells #[.slice (some ad) m c, .bool false] 87)).alloc (.cells #[.slice (some (ad.add n)) (m - n) (c - n), .bool false] 87)).drew) := by repeat (first | exact Below.refl _ _ | refine Below.drew ?_ | refine Below.alloc ?_ (by simp) _)
        exact bodyPost_ret (v := .tuple #[.agg #[.slice (some (ad.add n)) (m - n) (c - n), .bool false], .slice (some ad) n c]) (by simp [results, Try.results46, go_sem]) rfl ⟨_, _, _, _, rfl, HB1.below (hbl.mono hBw), HB2.below (hbl.mono hBw), hbl⟩
theorem make_run (n : Nat) (hn : n ≤ 255) (w : World) : (Instr.makeSlice 22 (.int .i64 n) (.int .i64 n)).run Try.prog w = .ok (.slice (some ⟨w.heap.size, 0, none⟩) n n) (w.alloc (.cells (madeCells (Value.int .u8 0).cells (n * 1)) 5)) := by
  obtain ⟨i0, hi0, hz0, hz1, hz2⟩ := info_parts info_u8
  have := run_makeSlice (P := Try.prog) w 22 5 i0 (.int .u8 0) Try.underlying22 hi0 hz0 .i64 .i64 n n (by omega) (by omega) (by rw [hz1]; simp; omega) (by rw [hz2]; omega) (by omega)
  rw [hz1] at this
  simpa using this
theorem madeN (n : Nat) : madeCells (Value.int .u8 0).cells (n * 1) = (u8s (List.replicate n 0)).toArray := by
  apply Array.ext
  · simp [madeCells, u8s]
  · intro i h1 h2
    have e : i % 1 = 0 := Nat.mod_one i
    simp [madeCells, u8s, Value.cells, e]
theorem bytesAt_made (w : World) (n : Nat) (hn : n ≤ 255) : BytesAt (w.alloc (.cells (madeCells (Value.int .u8 0).cells (n * 1)) 5)) w.heap.size (w.heap.size + 1) (some ⟨w.heap.size, 0, none⟩) n n (List.replicate n 0) := by
  have hx := heap_alloc_new w (.cells (madeCells (Value.int .u8 0).cells (n * 1)) 5)
  refine ⟨by simp, Nat.le_refl _, by unfold maxLen; omega, fun x hx => by have := List.eq_of_mem_replicate hx; omega, fun _ => ⟨w.heap.size, 0, rfl, ⟨Nat.le_refl _, Nat.lt_succ_self _⟩, fun i hi => ?_⟩, fun h => by cases h⟩
  generalize w.alloc (.cells (madeCells (Value.int .u8 0).cells (n * 1)) 5) = w' at hx ⊢
  rw [madeN] at hx
  simp [World.cell?, hx, u8s, List.getD, hi]
theorem take_fin (w : World) (o1 o2 : Obj) (n : Nat) (hn : n ≤ 255) : BytesAt (((w.alloc o1).alloc o2).alloc (.cells (madeCells #[.int .u8 0] n) 5)).drew w.heap.size (((w.alloc o1).alloc o2).alloc (.cells (madeCells #[.int .u8 0] n) 5)).drew.heap.size (some ⟨w.heap.size + 1 + 1, 0, none⟩) n n (List.replicate n 0) := by
  have h := bytesAt_made ((w.alloc o1).alloc o2) n hn
  have hs : ((w.alloc o1).alloc o2).heap.size = w.heap.size + 1 + 1 := by simp
  have e : (Value.int IntKind.u8 0).cells = #[.int .u8 0] := rfl
  rw [Nat.mul_one, e, hs] at h
  obtain ⟨h1, h2, h3, h4, h5, h6⟩ := h
  refine ⟨h1, h2, h3, h4, fun h0 => ?_, h6⟩
  obtain ⟨b, off, e1, e2, e3⟩ := h5 h0
  refine ⟨b, off, e1, ⟨by omega, ?_⟩, e3⟩
  show b < (((w.alloc o1).alloc o2).alloc (.cells (madeCells #[.int .u8 0] n) 5)).heap.size
  simp
  omega
set_option maxHeartbeats 800000 in
theorem l2Take_bad (n : Nat) (hn : n ≤ 255) (a : Option Addr) (m c : Nat) (bad : Bool) (hbad : bad = true ∨ m < n) (w : World) :
    Calls Try.prog 46 #[.agg #[.slice a m c, .bool bad], .int .i64 n] w fun e w' => ∃ a' c', e = .returned (.tuple #[.agg #[.slice none 0 0, .bool true], .slice a' n c']) ∧ BytesAt w' w.heap.size w'.heap.size a' n c' (List.replicate n 0) ∧ Below w.heap.size w w' := by
  have hmk := fun W => make_run n hn W
  by_cases hb : bad = true
  · subst hb
    go_enter Try.func46, Try.ntmps46
    go_wp2_with fail
    go_region_held3 (fun _ => True) (trivial) (fail)
    all_goals
      go_wp2
      exact bodyPost_ret (v := .tuple #[.agg #[.slice none 0 0, .bool true], .slice (some ⟨w.heap.size + 1 + 1, 0, none⟩) n n]) (by simp [results, Try.results46, go_sem]) rfl ⟨_, _, rfl, take_fin w _ _ n hn, by repeat (first | exact Below.refl _ _ | refine Below.drew ?_ | refine Below.alloc ?_ (by simp; try omega) _)⟩
  · have hlt : m < n := hbad.resolve_left hb
    have hi : (m : Int) < (n : Int) := by omega
    obtain rfl : bad = false := by simpa using hb
    go_enter Try.func46, Try.ntmps46
    go_wp2_with fail
    go_region_held3 (fun _ => True) (trivial) (fail)
    all_goals
      go_wp2
      exact bodyPost_ret (v := .tuple #[.agg #[.slice none 0 0, .bool true], .slice (some ⟨w.heap.size + 1 + 1, 0, none⟩) n n]) (by simp [results, Try.results46, go_sem]) rfl ⟨_, _, rfl, take_fin w _ _ n hn, by repeat (first | exact Below.refl _ _ | refine Below.drew ?_ | refine Below.alloc ?_ (by simp; try omega) _)⟩
end Go.Proofs.Ytmahgakigdcjmaa
namespace Go.Proofs.Ytmahgakigdcjmaa
open Go.RowKit
set_option linter.unusedVariables false
set_option maxRecDepth 100000

theorem leN_drop {l : List Int} {j : Nat} (h : j < l.length) : leN (l.drop (l.length - (j + 1))) = l.getD (l.length - 1 - j) 0 + 256 * leN (l.drop (l.length - j)) := by
  have e : l.length - (j + 1) < l.length := by omega
  rw [List.drop_eq_getElem_cons e, leN]
  congr 2
  · simp [List.getD, show l.length - 1 - j < l.length by omega]; congr 1; omega
  · congr 2; omega
set_option maxHeartbeats 800000 in
theorem l2Get_high (a : Option Addr) (n c : Nat) (hn : n ≤ 4) (l : List Int) (w : World) (A B : Nat) (hB : BytesAt w A B a n c l) :
    Calls Try.prog 15 #[.slice a n c, .bool true] w fun e w' => e = .returned (.int .i64 (numOf true l)) ∧ w' = w := by
  have hby := hB.2.2.2.1
  have HL : Hid (l.length = n) := hB.1
  go_enter Try.func15, Try.ntmps15
  go_wp2_with fail
  go_loopw [5, 6] (fun x i wr => ∃ j : Nat, j ≤ n ∧ i = .int .i64 j ∧ wr = w ∧ x = .int .i64 (numOf true (l.take j))) (fun _ i _ => n - (intOf i).toNat)
  case atStart => exact ⟨0, by omega, rfl, rfl, rfl⟩
  case round =>
    obtain ⟨j, hj, rfl, rfl, rfl⟩ := hrel
    by_cases hlt : j < n
    · obtain ⟨b, off, rfl, hb, hcb⟩ := hB.2.2.2.2.1 (by omega)
      have e1 := hcb j hlt
      have hx := getD_byteB hby j
      have hr := numOf_range true (l := l.take j) (fun x hx => hby x (List.mem_of_mem_take hx))
      have hlj : (l.take j).length = j := by have := HL.out; simp; omega
      rw [hlj] at hr
      have hr3 : 0 ≤ numOf true (l.take j) ∧ numOf true (l.take j) < 16777216 := by
        refine ⟨hr.1, ?_⟩
        have h4 : j = 0 ∨ j = 1 ∨ j = 2 ∨ j = 3 := by omega
        rcases h4 with rfl | rfl | rfl | rfl <;> simp at hr ⊢ <;> omega
      have HS : Hid (numOf true (l.take (j + 1)) = 256 * numOf true (l.take j) + l.getD j 0) := beN_take (by have := HL.out; omega)
      generalize l.getD j 0 = x at e1 hx HS
      generalize numOf true (l.take j) = y at hr3 HS ⊢
      clear hB hcb hlj hr
      go_wp2
      go_roundw
      case rel => exact ⟨j + 1, by omega, by go_num, trivial, by rw [HS.out]⟩
      case measure => simp [intOf]; omega
    · go_wp2
      go_ret
      obtain rfl : j = n := by omega
      rw [List.take_of_length_le (by have := HL.out; omega)]
      exact ⟨rfl, rfl⟩
set_option maxHeartbeats 800000 in
theorem l2Get_low (a : Option Addr) (n c : Nat) (hn : n ≤ 4) (l : List Int) (w : World) (A B : Nat) (hB : BytesAt w A B a n c l) :
    Calls Try.prog 15 #[.slice a n c, .bool false] w fun e w' => e = .returned (.int .i64 (numOf false l)) ∧ w' = w := by
  have hby := hB.2.2.2.1
  have HL : Hid (l.length = n) := hB.1
  go_enter Try.func15, Try.ntmps15
  go_wp2_with fail
  go_loopw [5, 6] (fun x i wr => ∃ j : Nat, j ≤ n ∧ i = .int .i64 j ∧ wr = w ∧ x = .int .i64 (leN (l.drop (n - j)))) (fun _ i _ => n - (intOf i).toNat)
  case atStart => exact ⟨0, by omega, rfl, rfl, by rw [Nat.sub_zero, List.drop_eq_nil_of_le (by have := HL.out; omega)]; rfl⟩
  case round =>
    obtain ⟨j, hj, rfl, rfl, rfl⟩ := hrel
    by_cases hlt : j < n
    · obtain ⟨b, off, rfl, hb, hcb⟩ := hB.2.2.2.2.1 (by omega)
      have e1 := hcb (n - 1 - j) (by omega)
      have hx := getD_byteB hby (n - 1 - j)
      have hr := leN_range (l.drop (n - j)) (fun x hx => hby x (List.mem_of_mem_drop hx))
      have hlj : (l.drop (n - j)).length = j := by have := HL.out; simp; omega
      rw [hlj] at hr
      have hr3 : 0 ≤ leN (l.drop (n - j)) ∧ leN (l.drop (n - j)) < 16777216 := by
        refine ⟨hr.1, ?_⟩
        have h4 : j = 0 ∨ j = 1 ∨ j = 2 ∨ j = 3 := by omega
        rcases h4 with rfl | rfl | rfl | rfl <;> simp at hr ⊢ <;> omega
      have HS : Hid (leN (l.drop (n - (j + 1))) = l.getD (n - 1 - j) 0 + 256 * leN (l.drop (n - j))) := by
        have := HL.out
        have h5 := leN_drop (l := l) (j := j) (by omega)
        rw [this] at h5; exact h5
      generalize l.getD (n - 1 - j) 0 = x at e1 hx HS
      generalize leN (l.drop (n - j)) = y at hr3 HS ⊢
      clear hB hcb hlj hr
      have hix : (n : Int) - 1 - (j : Int) = ((n - 1 - j : Nat) : Int) := by omega
      go_wp2
      go_roundw
      case rel => exact ⟨j + 1, by omega, by go_num, trivial, by rw [HS.out, Int.add_comm]⟩
      case measure => simp [intOf]; omega
    · go_wp2
      go_ret
      obtain rfl : j = n := by omega
      rw [Nat.sub_self, List.drop_zero]
      exact ⟨rfl, rfl⟩
end Go.Proofs.Ytmahgakigdcjmaa
namespace Go.Proofs.Ytmahgakigdcjmaa
open Go.RowKit
set_option linter.unusedVariables false
set_option maxRecDepth 100000

/-- What is left of the bytes L at k; none: they ended too early. -/
def SrcAt (w : World) (A B : Nat) (L : List Int) (a : Option Addr) (n c : Nat) (bad : Bool) : Option Nat → Prop
  | some k => k ≤ L.length ∧ bad = false ∧ n = L.length - k ∧ BytesAt w A B a (L.length - k) c (L.drop k)
  | none => bad = true ∧ a = none ∧ n = 0 ∧ c = 0
def sTake (L : List Int) (s : Option Nat) (n : Nat) : Option Nat × List Int :=
  match s with
  | some k => if k + n ≤ L.length then (some (k + n), (L.drop k).take n) else (none, List.replicate n 0)
  | none => (none, List.replicate n 0)
theorem SrcAt.keep {w w' : World} {A B : Nat} {L : List Int} {a : Option Addr} {n c : Nat} {bad : Bool} {s : Option Nat} (h : SrcAt w A B L a n c bad s) (hb : Keeps A B w w') : SrcAt w' A B L a n c bad s := by
  cases s with
  | none => exact h
  | some k =>
    obtain ⟨h1, h0, h2, h3⟩ := h
    exact ⟨h1, h0, h2, h3.keep hb⟩
/-- Bytes that lie in A..B or above lo. -/
def XAt (w : World) (lo A B : Nat) (a : Option Addr) (n c : Nat) (l : List Int) : Prop := BytesAt w A B a n c l ∨ BytesAt w lo w.heap.size a n c l
theorem XAt.set {w : World} {lo A B : Nat} {a : Option Addr} {n c : Nat} {l : List Int} (h : XAt w lo A B a n c l) (p : Addr) (v : Value) (h1 : B ≤ p.block) (h2 : p.block < lo) : XAt (w.setCell p v) lo A B a n c l := by
  have hz : (w.setCell p v).heap.size = w.heap.size := by simp [World.setCell]
  rcases h with h | h
  · exact .inl (h.keep fun k k1 k2 => Below.heap_setCell w p v k (by omega))
  · right; rw [hz]; exact h.keep fun k k1 k2 => Below.heap_setCell w p v k (by omega)
theorem XAt.ex {w : World} {lo A B : Nat} {a : Option Addr} {n c : Nat} {l : List Int} (h : XAt w lo A B a n c l) : ∃ A' B', BytesAt w A' B' a n c l := h.elim (fun h => ⟨_, _, h⟩) (fun h => ⟨_, _, h⟩)
theorem XAt.byte {w : World} {lo A B : Nat} {a : Option Addr} {n c : Nat} {l : List Int} (h : XAt w lo A B a n c l) (hn : 0 < n) : ∃ b off, a = some ⟨b, off, none⟩ ∧ w.cell? ⟨b, off, none⟩ = some (.int .u8 (l.getD 0 0)) ∧ 0 ≤ l.getD 0 0 ∧ l.getD 0 0 ≤ 255 := by
  obtain ⟨A', B', h⟩ := h.ex
  obtain ⟨b, off, e1, e2, e3⟩ := h.2.2.2.2.1 hn
  have := getD_byteB h.2.2.2.1 0
  exact ⟨b, off, e1, by simpa using e3 0 hn, this.1, this.2⟩
theorem sTake_len (L : List Int) (s : Option Nat) (n : Nat) : (sTake L s n).2.length = n := by
  unfold sTake
  cases s with
  | none => simp
  | some k => dsimp only; split <;> simp; omega
theorem l2Take_any (L : List Int) (s : Option Nat) (n : Nat) (hn : n ≤ 255) (sa : Option Addr) (sn sc : Nat) (bad : Bool) (w : World) (A B : Nat) (hs : SrcAt w A B L sa sn sc bad s) (hBw : B ≤ w.heap.size) :
    Calls Try.prog 46 #[.agg #[.slice sa sn sc, .bool bad], .int .i64 n] w fun e w' => ∃ ta tn tc bad' a' c', e = .returned (.tuple #[.agg #[.slice ta tn tc, .bool bad'], .slice a' n c']) ∧ SrcAt w' A B L ta tn tc bad' (sTake L s n).1 ∧ XAt w' w.heap.size A B a' n c' (sTake L s n).2 ∧ Below w.heap.size w w' := by
  cases s with
  | none =>
    obtain ⟨rfl, rfl, rfl, rfl⟩ := hs
    refine (l2Take_bad n hn none 0 0 true (.inl rfl) w).mono ?_
    rintro e w' ⟨a', c', rfl, h1, h2⟩
    exact ⟨_, _, _, _, a', c', rfl, ⟨rfl, rfl, rfl, rfl⟩, .inr h1, h2⟩
  | some k =>
    obtain ⟨hk, rfl, rfl, hB⟩ := hs
    by_cases hkn : k + n ≤ L.length
    · refine (l2Take_good n hn sa (L.length - k) sc (L.drop k) (by omega) w A B hB hBw).mono ?_
      rintro e w' ⟨a1, c1, a2, c2, rfl, h1, h2, h3⟩
      have e1 : L.length - k - n = L.length - (k + n) := by omega
      rw [e1, List.drop_drop] at h1
      refine ⟨a1, _, c1, _, a2, c2, rfl, ?_, ?_, h3⟩
      · simp only [sTake, if_pos hkn]
        exact ⟨hkn, rfl, e1, h1⟩
      · simp only [sTake, if_pos hkn]
        exact .inl h2
    · refine (l2Take_bad n hn sa (L.length - k) sc false (.inr (by omega)) w).mono ?_
      rintro e w' ⟨a', c', rfl, h1, h2⟩
      refine ⟨_, _, _, _, a', c', rfl, ?_, ?_, h2⟩
      · simp only [sTake, if_neg hkn]; exact ⟨rfl, rfl, rfl, rfl⟩
      · simp only [sTake, if_neg hkn]; exact .inr h1
/-- Six blocks that are made one behind the other. -/
theorem six_new (w : World) (o0 o1 o2 o3 o4 o5 : Obj) : let W := (((((w.alloc o0).alloc o1).alloc o2).alloc o3).alloc o4).alloc o5
    W.heap[w.heap.size]? = some o0 ∧ W.heap[w.heap.size + 1]? = some o1 ∧ W.heap[w.heap.size + 2]? = some o2 ∧ W.heap[w.heap.size + 3]? = some o3 ∧ W.heap[w.heap.size + 4]? = some o4 ∧ Below w.heap.size w W := by
  intro W
  have s1 : (w.alloc o0).heap.size = w.heap.size + 1 := by simp
  have s2 : ((w.alloc o0).alloc o1).heap.size = w.heap.size + 2 := by simp
  have s3 : (((w.alloc o0).alloc o1).alloc o2).heap.size = w.heap.size + 3 := by simp
  have s4 : ((((w.alloc o0).alloc o1).alloc o2).alloc o3).heap.size = w.heap.size + 4 := by simp
  have s5 : (((((w.alloc o0).alloc o1).alloc o2).alloc o3).alloc o4).heap.size = w.heap.size + 5 := by simp
  have up : ∀ (v : World) (o : Obj) (k : Nat), k < v.heap.size → (v.alloc o).heap[k]? = v.heap[k]? := fun v o k hk => ((Below.refl _ _).alloc (Nat.le_refl _) _).block k hk
  have n0 := heap_alloc_new w o0
  have n1 := heap_alloc_new (w.alloc o0) o1
  have n2 := heap_alloc_new ((w.alloc o0).alloc o1) o2
  have n3 := heap_alloc_new (((w.alloc o0).alloc o1).alloc o2) o3
  have n4 := heap_alloc_new ((((w.alloc o0).alloc o1).alloc o2).alloc o3) o4
  rw [s1] at n1
  rw [s2] at n2
  rw [s3] at n3
  rw [s4] at n4
  refine ⟨?_, ?_, ?_, ?_, ?_, ?_⟩
  · rw [up _ _ _ (by rw [s5]; omega), up _ _ _ (by rw [s4]; omega), up _ _ _ (by rw [s3]; omega), up _ _ _ (by rw [s2]; omega), up _ _ _ (by rw [s1]; omega)]; exact n0
  · rw [up _ _ _ (by rw [s5]; omega), up _ _ _ (by rw [s4]; omega), up _ _ _ (by rw [s3]; omega), up _ _ _ (by rw [s2]; omega)]; exact n1
  · rw [up _ _ _ (by rw [s5]; omega), up _ _ _ (by rw [s4]; omega), up _ _ _ (by rw [s3]; omega)]; exact n2
  · rw [up _ _ _ (by rw [s5]; omega), up _ _ _ (by rw [s4]; omega)]; exact n3
  · rw [up _ _ _ (by rw [s5]; omega)]; exact n4
  · exact ((((((Below.refl _ _).alloc (Nat.le_refl _) _).alloc (by rw [s1]; omega) _).alloc (by rw [s2]; omega) _).alloc (by rw [s3]; omega) _).alloc (by rw [s4]; omega) _).alloc (by rw [s5]; omega) _
end Go.Proofs.Ytmahgakigdcjmaa
