import Derived.Test.YtpmagndofiaooaaTuk
namespace Go.Proofs.Ytpmagndofiaooaa
open Go.RowKit
set_option linter.unusedVariables false
set_option linter.unusedSimpArgs false
set_option maxRecDepth 100000

theorem l2KeyU_any (s : ByteArray) (w : World) : Calls Try.prog 27 #[.string s] w fun e w' => e = .returned (.bool (kyB s)) ∧ w' = w := by
  by_cases t1 : 1 ≤ s.size
  · by_cases t2 : s.size ≤ 8
    · have HE : Hid (kyB s = true) := by show _ = _; simp [kyB]; omega
      have d2 : decide ((s.size : Int) ≤ 8) = true := by simp; omega
      go_enter Try.func27, Try.ntmps27
      go_wp2
      go_ret
      exact ⟨by rw [HE.out]; rfl, rfl⟩
    · have HE : Hid (kyB s = false) := by show _ = _; simp [kyB]; omega
      have d2 : decide ((s.size : Int) ≤ 8) = false := by simp; omega
      go_enter Try.func27, Try.ntmps27
      go_wp2
      go_ret
      exact ⟨by rw [HE.out]; rfl, rfl⟩
  · have HE : Hid (kyB s = false) := by show _ = _; simp [kyB]; omega
    go_enter Try.func27, Try.ntmps27
    go_wp2
    go_ret
    exact ⟨by rw [HE.out]; rfl, rfl⟩
/-- What the document's TreeBulk answers. -/
def SBulkAns (w : World) (zs : List (ByteArray × ByteArray)) (e : Ending) (w' : World) : Prop := ∃ oa oc, e = .returned (.agg #[.slice oa (bulkNs zs).length oc]) ∧ NodesAt w' w.heap.size w'.heap.size oa (bulkNs zs).length oc (bulkNs zs) ∧ Below w.heap.size w w'
theorem SBulkAns.no {w w' : World} {zs : List (ByteArray × ByteArray)} (h : bulkNs zs = []) (hb : Below w.heap.size w w') : SBulkAns w zs (.returned (.agg #[.slice none 0 0])) w' := by
  refine ⟨none, 0, by rw [h]; rfl, ?_, hb⟩
  rw [h]
  exact ⟨rfl, Nat.le_refl _, by unfold maxLen; exact Nat.zero_le _, fun h0 => absurd h0 (by simp)⟩
theorem info_l3NU : (Try.prog.info? 61).map (fun i => (i.zero, i.size, i.bytes)) = some (some (.agg #[.bool false, .int .i64 0, .slice none 0 0, .slice none 0 0, .slice none 0 0, .slice none 0 0]), 6, 112) := by kernel_rfl
theorem emptyL (w : World) : (w.alloc (.cells #[] 61)).ownsRow w.heap.size 61 6 (.slice (some ⟨w.heap.size, 0, none⟩) 0 0) 0 [] := by
  have := World.ownsRow_made w #[] (base := w.heap.size) (e := 61) (size := 6) 0 (by simp) (by unfold maxLen; omega) (by simp)
  simpa using this
theorem specNewU_any (w : World) : Calls Try.prog 28 #[] w fun e w' => ∃ g, e = .returned (.agg #[.slice (some ⟨g, 0, none⟩) 1 1]) ∧ NodesAt w' w.heap.size w'.heap.size (some ⟨g, 0, none⟩) 1 1 [⟨true, 0, [], [], [], []⟩] ∧ Below w.heap.size w w' ∧ w.heap.size ≤ g := by
  have hb : Below w.heap.size w ((w.alloc (.cells #[.slice (some ⟨w.heap.size + 1, 0, none⟩) 1 1] 26)).alloc (.cells #[.bool true, .int .i64 0, .slice none 0 0, .slice none 0 0, .slice none 0 0, .slice none 0 0] 92)) := ((Below.refl _ _).alloc (Nat.le_refl _) _).alloc (by simp) _
  have hx : ((w.alloc (.cells #[.slice (some ⟨w.heap.size + 1, 0, none⟩) 1 1] 26)).alloc (.cells #[.bool true, .int .i64 0, .slice none 0 0, .slice none 0 0, .slice none 0 0, .slice none 0 0] 92)).heap[w.heap.size + 1]? = some (.cells #[.bool true, .int .i64 0, .slice none 0 0, .slice none 0 0, .slice none 0 0, .slice none 0 0] 92) := by
    have := heap_alloc_new (w.alloc (.cells #[.slice (some ⟨w.heap.size + 1, 0, none⟩) 1 1] 26)) (.cells #[.bool true, .int .i64 0, .slice none 0 0, .slice none 0 0, .slice none 0 0, .slice none 0 0] 92)
    rwa [show (w.alloc (.cells #[.slice (some ⟨w.heap.size + 1, 0, none⟩) 1 1] 26)).heap.size = w.heap.size + 1 by simp] at this
  go_enter Try.func28, Try.ntmps28
  go_wp2
  refine bodyPost_ret (v := .agg #[.slice (some ⟨w.heap.size + 1, 0, none⟩) 1 1]) (by simp [results, Try.results28, go_sem]) rfl ⟨w.heap.size + 1, rfl, ?_, hb, by omega⟩
  generalize (w.alloc (.cells #[.slice (some ⟨w.heap.size + 1, 0, none⟩) 1 1] 26)).alloc (.cells #[.bool true, .int .i64 0, .slice none 0 0, .slice none 0 0, .slice none 0 0, .slice none 0 0] 92) = W at hx ⊢
  have hlt := (Array.getElem?_eq_some_iff.1 hx).1
  obtain ⟨c0, c1, c2, c3, c4, c5⟩ := box_sixT hx
  have hn : ∀ {α : Type} (cs : α → List Value) (fit : α → Prop) (d : α), RowsAt W w.heap.size W.heap.size 1 cs fit d none 0 0 [] := fun cs fit d => ⟨rfl, Nat.le_refl _, by unfold maxLen; exact Nat.zero_le _, fun i hi => absurd hi (by omega), fun h0 => absurd h0 (by omega)⟩
  refine ⟨rfl, Nat.le_refl _, by unfold maxLen; omega, fun _ => ⟨w.heap.size + 1, 0, rfl, ⟨by omega, hlt⟩, fun i hi => ?_⟩⟩
  obtain rfl : i = 0 := by omega
  exact ⟨none, 0, 0, none, 0, 0, none, 0, 0, none, 0, 0, c0, c1, c2, c3, c4, c5, ⟨by decide, by decide⟩, hn _ _ _, hn _ _ _, hn _ _ _, hn _ _ _⟩
theorem ShAt.fr {S : Nat → Prop} {w W : World} {sa : Option Addr} {xs : List Int} (h : ShAt w sa xs) (hf : Fr S w W) (hne : ∀ g, sa = some ⟨g, 0, none⟩ → ¬ S g) : ShAt W sa xs := fun k hk => by
  obtain ⟨g, e, hl, hc⟩ := h k hk
  exact ⟨g, e, Nat.lt_of_lt_of_le hl hf.size, (World.cell?_of_block (w := w) (a := ⟨g, k, none⟩) (hf.block g hl (hne g e))).trans hc⟩
theorem SLv.nil {w w1 w2 : World} {E : Nat} (h : w1.ownsRow E 61 6 (.slice (some ⟨E, 0, none⟩) 0 0) 0 []) (hb : Below E w w1) (hlo : E ≤ w1.heap.size) (hb2 : Below w1.heap.size w1 w2) : SLv w w2 E 0 0 (some ⟨E, 0, none⟩) [] (fun _ => []) :=
  ⟨owns_below (by simpa [rowsC] using h) hb2, rfl, fun i t hi => by simp at hi, hb.trans (hb2.mono hlo)⟩
theorem rowPosT {w : World} {base e size : Nat} {v : Value} {k : Nat} {xs : List Value} (h : w.ownsRow base e size v k xs) (hk : 0 < k) : ∃ g cap, v = .slice (some ⟨g, 0, none⟩) k cap := by
  rcases h.2 with ⟨_, h0⟩ | ⟨g, cap, cur, e, _⟩
  · omega
  · exact ⟨g, cap, e⟩
theorem SIs.one {w : World} {P : Nat → Prop} {t : T} {cs : List Value} (h : SIs w P t cs) : ∀ u ∈ cs, u.oneCell' = true := by
  obtain ⟨ka, kn, kc, va, vn, vc, oa, on, oc, ya, yc, css, rfl, _⟩ := h.out
  simp [Value.oneCell']
/-- The new node over a share of the old level. -/
theorem SLv.inner {w0 w w3 w4 : World} {lo n c at' s g vc base : Nat} {a : Option Addr} {ts : List T} {css : Nat → List Value} {Q : Nat → Prop} (h : SLv w0 w lo n c a ts css) (hr : w3.ownsRow base 61 6 (.slice (some ⟨g, 0, none⟩) s vc) s (rowsC (fun i => css (at' + i)) s)) (hs : 0 < s) (hat : at' + s ≤ n) (hb : Below w.heap.size w w4) (hb4 : Below w3.heap.size w3 w4) (hQ : ∀ b, lo ≤ b → b < w.heap.size → Q b) (hQg : Q g) :
    SIs w4 Q (innB ((ts.drop at').take s)) [.bool false, .int .i64 0, .slice none 0 0, .slice none 0 0, .slice none 0 0, .slice (some ⟨g, 0, none⟩) s vc] := by
  have hr4 := owns_below hr hb4
  have hlen : ((ts.drop at').take s).length = s := by rw [List.length_take, List.length_drop, h.len]; omega
  have hc6 : ∀ i, i < s → (css (at' + i)).length = 6 := fun i hi => (h.node (at' + i) _ (List.getElem?_eq_getElem (by rw [h.len]; omega))).1
  have hn : ∀ {α : Type} (cs : α → List Value) (fit : α → Prop) (d : α), RowsP w4 Q 1 cs fit d none 0 0 [] := fun cs fit d => ⟨rfl, Nat.le_refl _, by unfold maxLen; exact Nat.zero_le _, fun i hi => absurd hi (by omega), fun h0 => absurd h0 (by omega)⟩
  rcases hr4.2 with ⟨e, e2⟩ | ⟨g', cap, cur, e, hg1, hg2, h1, h2, _⟩
  · omega
  · simp only [Value.slice.injEq, Option.some.injEq, Addr.mk.injEq] at e
    obtain ⟨⟨rfl, _⟩, _, rfl⟩ := e
    have h9 := SX.mk' (w := w4) (P := Q) (t := innB ((ts.drop at').take s)) (ka := none) (kn := 0) (kc := 0) (va := none) (vn := 0) (vc := 0) (oa := none) (on := 0) (oc := 0) (ya := some ⟨g, 0, none⟩) (yc := vc) (css := fun i => css (at' + i)) ⟨(show I64 0 from ⟨by decide, by decide⟩), hn _ _ _, hn _ _ _, hn _ _ _, ⟨by show ((ts.drop at').take s).length ≤ vc; omega, h2⟩, fun _ => ⟨g, 0, rfl, hQg, fun i hi r hr => ?_⟩, fun i k hm hi => ?_⟩
    · rw [show (innB ((ts.drop at').take s)).kids.length = s from hlen] at h9
      exact h9
    · replace hi : i < ((ts.drop at').take s).length := hi
      rw [Nat.zero_add, hr4.cellAt (i * 6 + r) (by omega)]
      exact (rowsC_get hc6).2 i r (by omega) hr
    · have hi2 : ((ts.drop at').take s)[i]? = some k := hi
      have his : i < s := by have := (List.getElem?_eq_some_iff.1 hi2).1; omega
      rw [List.getElem?_take, if_pos his, List.getElem?_drop] at hi2
      exact SIs.keep (fun b hp => hb.block b hp.2.1) (fun b hp => hQ b hp.1 hp.2.1) k _ (h.node (at' + i) k hi2).2
set_option maxHeartbeats 16000000 in
theorem specBulk_any (a : Option Addr) (n c : Nat) (zs : List (ByteArray × ByteArray)) (w : World) (B : Nat) (hB : B ≤ w.heap.size) (hp : PrAt w B a n c zs) (hn : n ≤ 1048576) :
    Calls Try.prog 8 #[.slice a n c] w fun e w' => SBulkAns w zs e w' := by
  have HZ : Hid (zs.length = n) := hp.1
  have hcc := hp.2.1
  have hcm := hp.2.2.1
  unfold maxLen at hcm
  have HP : Hid (∀ W, Below w.heap.size w W → PrAt W B a n c zs) := fun W hW => hp.below (hW.mono hB)
  have HPC : Hid (∀ W, Below w.heap.size w W → ∀ j, j < n → ∃ b off, a = some ⟨b, off, none⟩ ∧ b < W.heap.size ∧ W.cell? ⟨b, off + j * 2, none⟩ = some (.string (zs.getD j dP).1) ∧ W.cell? ⟨b, off + j * 2 + 1, none⟩ = some (.string (zs.getD j dP).2) ∧ ∀ q, q + 1 = j → W.cell? ⟨b, off + q * 2, none⟩ = some (.string (zs.getD q dP).1)) := fun W hW j hj => by
    obtain ⟨b, off, e, hbB, hc⟩ := (HP.out W hW).2.2.2 (by omega)
    exact ⟨b, off, e, by have := hW.size; omega, (hc j hj).1, (hc j hj).2, fun q hq => (hc q (by omega)).1⟩
  clear hp
  have hb0 : Below w.heap.size w (w.alloc (.cells #[.slice none 0 0] 26)) := (Below.refl _ _).alloc (Nat.le_refl _) _
  have hx0 := heap_alloc_new w (.cells #[.slice none 0 0] 26)
  obtain ⟨X, hX⟩ : ∃ X, X = w.heap.size := ⟨_, rfl⟩
  rw [← hX] at hx0
  go_enter Try.func8, Try.ntmps8
  go_upto_region 1 with fail
  rw [← hX]
  have HXW : Hid (X = w.heap.size) := hX
  generalize w.alloc (.cells #[.slice none 0 0] 26) = W0 at hb0 hx0 ⊢
  clear hX
  have HS0 : Hid (W0.heap[X]? = some (.cells #[.slice none 0 0] 26) ∧ Below w.heap.size w W0) := ⟨hx0, hb0⟩
  clear hb0 hx0
  go_wp2_with fail
  go_loopw [3] (fun i wr => ∃ j : Nat, j ≤ n ∧ i = .int .i64 j ∧ Hid (∀ q, q < j → okAt zs q = true) ∧ Hid (wr.heap[X]? = some (.cells #[.slice none 0 0] 26) ∧ Below w.heap.size w wr)) (fun i _ => n - (intOf i).toNat)
  case atStart => exact ⟨0, Nat.zero_le _, rfl, fun q hq => by omega, HS0⟩
  case round =>
    clear HS0
    obtain ⟨j, hj, rfl, HG, HS⟩ := hrel
    by_cases hlt : j < n
    · obtain ⟨b, off, rfl, hbl, ck, cv, cq⟩ := HPC.out wr HS.out.2 j hlt
      obtain ⟨z, hz⟩ : ∃ z, zs.getD j dP = z := ⟨_, rfl⟩
      rw [hz] at ck cv
      obtain ⟨ky, vl⟩ := z
      replace ck : wr.cell? ⟨b, off + j * 2, none⟩ = some (.string ky) := ck
      replace cv : wr.cell? ⟨b, off + j * 2 + 1, none⟩ = some (.string vl) := cv
      have HOK : Hid (okAt zs j = (kyB ky && decide (vl.size ≤ 400) && (decide (j = 0) || lessB (zs.getD (j - 1) dP).1 ky))) := by
        show _ = _
        unfold okAt; rw [hz]
      have hxW := HS.out.1
      have hbW := HS.out.2
      have HQ : Hid (∀ q, q + 1 = j → wr.cell? ⟨b, off + q * 2, none⟩ = some (.string (zs.getD q dP).1)) := cq
      clear hz cq
      obtain ⟨V, hV⟩ : ∃ V, V = wr := ⟨_, rfl⟩
      have hXl := (Array.getElem?_eq_some_iff.1 hxW).1
      have xV : wr.cell? ⟨X, 0, none⟩ = some (.slice none 0 0) := by simp [World.cell?, hxW]
      have zV := box_fz hxW 0
      have yX : ∀ q, ((wr.drewN q).setCell ⟨X, 0, none⟩ (.slice none 0 0)).cell? ⟨X, 0, none⟩ = some (.slice none 0 0) := fun q => by simp [World.cell?, World.setCell, Array.getElem?_modify, hxW]
      have HBW : Hid (∀ q, Below w.heap.size w ((wr.drewN q).setCell ⟨X, 0, none⟩ (.slice none 0 0))) := fun q => (belDN hbW q).trans ((fr_setT (wr.drewN q) X 0 (.slice none 0 0)).below (by have := hbW.size; exact this) (fun b e => by have := HXW.out; omega))
      have HNX : Hid (∀ q, (wr.drewN q).heap[X]? = some (.cells #[.slice none 0 0] 26) ∧ Below w.heap.size w (wr.drewN q)) := fun q => ⟨hxW, belDN hbW q⟩
      have hKC := l2KeyU_any ky
      clear HS hbW hxW hV
      by_cases t1 : kyB ky = true
      · rw [t1] at hKC HOK
        by_cases t2 : vl.size ≤ 400
        · have d2 : decide ((400 : Int) < (vl.size : Int)) = false := by simp; omega
          have e2 : decide (vl.size ≤ 400) = true := by simp; omega
          rw [e2] at HOK
          clear t1 t2 e2
          by_cases tj : j = 0
          · subst tj
            rw [Nat.zero_mul, Nat.add_zero] at ck cv
            have HG2 : Hid (∀ q, q < 0 + 1 → okAt zs q = true) := fun q hq => by
              obtain rfl : q = 0 := by omega
              rw [HOK.out]; rfl
            clear HQ
            go_wp2_with fail
            go_quiet ((go_at_call 27; exact Calls.quiet_of_same (hKC _)))
            go_wp2_with fail
            go_roundw
            case rel => exact ⟨0 + 1, by omega, by go_num, HG2, HNX.out _⟩
            case measure => simp [intOf]; omega
          · obtain ⟨q, rfl⟩ : ∃ q, j = q + 1 := ⟨j - 1, by omega⟩
            have hpk := HQ.out q rfl
            have HOK2 : Hid (okAt zs (q + 1) = lessB (zs.getD q dP).1 ky) := by
              show _ = _
              rw [HOK.out]; simp
            obtain ⟨s9, hs9⟩ : ∃ s9, (zs.getD q dP).1 = s9 := ⟨_, rfl⟩
            rw [hs9] at hpk HOK2
            unfold lessB at HOK2
            have hwq : IntKind.i64.wrap (q : Int) = q := by rw [IntKind.wrap_i64]; omega
            clear HQ HOK hs9
            obtain ⟨r1, hr1⟩ : ∃ r1, Op.bytesLess s9.toList ky.toList = r1 := ⟨_, rfl⟩
            rw [hr1] at HOK2
            cases r1
            · have HNO : Hid (bulkNs zs = []) := bulk_bad (j := q + 1) (by rw [HZ.out]; exact hlt) HOK2.out
              clear HOK2
              go_wp2_with fail
              go_quiet ((go_at_call 27; exact Calls.quiet_of_same (hKC _)))
              go_wp2_with fail
              exact bodyPost_ret (v := .agg #[.slice none 0 0]) (by simp [results, Try.results8, go_sem, yX]) rfl (SBulkAns.no HNO.out (HBW.out _))
            · have HG2 : Hid (∀ p, p < q + 1 + 1 → okAt zs p = true) := fun p hp => by
                by_cases hpe : p = q + 1
                · rw [hpe]; exact HOK2.out
                · exact HG.out p (by omega)
              clear HOK2
              go_wp2_with fail
              go_quiet ((go_at_call 27; exact Calls.quiet_of_same (hKC _)))
              go_wp2_with fail
              go_roundw
              case rel => exact ⟨q + 1 + 1, by omega, by go_num, HG2, HNX.out _⟩
              case measure => simp [intOf]; omega
        · have d2 : decide ((400 : Int) < (vl.size : Int)) = true := by simp; omega
          have HNO : Hid (bulkNs zs = []) := bulk_bad (j := j) (by rw [HZ.out]; exact hlt) (by rw [HOK.out]; simp [t2])
          clear t1 t2
          go_wp2_with fail
          go_quiet ((go_at_call 27; exact Calls.quiet_of_same (hKC _)))
          go_wp2_with fail
          exact bodyPost_ret (v := .agg #[.slice none 0 0]) (by simp [results, Try.results8, go_sem, yX]) rfl (SBulkAns.no HNO.out (HBW.out _))
      · have HNO : Hid (bulkNs zs = []) := bulk_bad (j := j) (by rw [HZ.out]; exact hlt) (by rw [HOK.out]; simp [t1])
        have hk : kyB ky = false := by simpa using t1
        rw [hk] at hKC
        clear t1
        go_wp2_with fail
        go_quiet ((go_at_call 27; exact Calls.quiet_of_same (hKC _)))
        go_wp2_with fail
        exact bodyPost_ret (v := .agg #[.slice none 0 0]) (by simp [results, Try.results8, go_sem, yX]) rfl (SBulkAns.no HNO.out (HBW.out _))
    · obtain rfl : j = n := by omega
      rename World => wo
      have HGOOD : Hid (bulkOk zs = true) := bulk_good (fun q hq => HG.out q (by rw [HZ.out] at hq; exact hq))
      have hxr := HS.out.1
      have hXl := (Array.getElem?_eq_some_iff.1 hxr).1
      have hbr := HS.out.2
      have hsr := hbr.size
      by_cases h0 : j = 0
      · subst h0
        have HN1 : Hid (bulkNs zs = [⟨true, 0, [], [], [], []⟩]) := by
          show _ = _
          unfold bulkNs
          rw [HGOOD.out, if_neg (by simp), if_pos HZ.out]
        clear HG HP HPC
        go_wp2_with (first | (go_at_call 28; refine (specNewU_any wo).mono ?_; rintro ex w9 ⟨g9, rfl, hNA, hB9, hg9⟩; have hx9 := boxT_below hxr hB9; have hl9 := (Array.getElem?_eq_some_iff.1 hx9).1; have c9 : w9.cell? ⟨X, 0, none⟩ = some (.slice none 0 0) := (by simp [World.cell?, hx9]); have z9 := box_fz hx9 0))
        have F10 := fr_setT w9 X 0 (.slice (some ⟨g9, 0, none⟩) 1 1)
        have hb10 : Below w.heap.size w (w9.setCell ⟨X, 0, none⟩ (.slice (some ⟨g9, 0, none⟩) 1 1)) := (hbr.trans (hB9.mono hsr)).trans (F10.below (by have := hB9.size; omega) (fun b e => by have := HXW.out; omega))
        have x10 : (w9.setCell ⟨X, 0, none⟩ (.slice (some ⟨g9, 0, none⟩) 1 1)).cell? ⟨X, 0, none⟩ = some (.slice (some ⟨g9, 0, none⟩) 1 1) := by simp [World.cell?, World.setCell, Array.getElem?_modify, hx9]
        refine bodyPost_ret (v := .agg #[.slice (some ⟨g9, 0, none⟩) 1 1]) (by simp [results, Try.results8, go_sem, x10]) rfl ⟨some ⟨g9, 0, none⟩, 1, ?_, ?_, hb10⟩
        · rw [HN1.out]; rfl
        · rw [HN1.out]
          exact (hNA.keep (A := wo.heap.size) (fun k h1 h2 => F10.block k h2 (by omega))).up (by omega) F10.size
      · have hne : ((j : Int) == 0) = false := by simp; omega
        by_cases hbg : 4000 < j
        · have hdb : decide ((4000 : Int) < (j : Int)) = true := by simp; omega
          have HNO : Hid (bulkNs zs = []) := bulk_big (by rw [HZ.out]; exact hbg)
          have xV : wo.cell? ⟨X, 0, none⟩ = some (.slice none 0 0) := by simp [World.cell?, hxr]
          have zV := box_fz hxr 0
          have yX : (wo.setCell ⟨X, 0, none⟩ (.slice none 0 0)).cell? ⟨X, 0, none⟩ = some (.slice none 0 0) := by simp [World.cell?, World.setCell, Array.getElem?_modify, hxr]
          have hb10 : Below w.heap.size w (wo.setCell ⟨X, 0, none⟩ (.slice none 0 0)) := hbr.trans ((fr_setT wo X 0 (.slice none 0 0)).below hsr (fun b e => by have := HXW.out; omega))
          clear HG HP HPC
          go_wp2_with fail
          exact bodyPost_ret (v := .agg #[.slice none 0 0]) (by simp [results, Try.results8, go_sem, yX]) rfl (SBulkAns.no HNO.out hb10)
        · have hdb : decide ((4000 : Int) < (j : Int)) = false := by simp; omega
          have HE : Hid ((wo.alloc (.cells #[] 61)).ownsRow wo.heap.size 61 6 (.slice (some ⟨wo.heap.size, 0, none⟩) 0 0) 0 [] ∧ Below wo.heap.size wo (wo.alloc (.cells #[] 61))) := ⟨emptyL wo, (Below.refl _ _).alloc (Nat.le_refl _) _⟩
          clear HS HG
          go_upto_region 11 with fail
          obtain ⟨E, hE⟩ : ∃ E, E = wo.heap.size := ⟨_, rfl⟩
          rw [← hE] at HE ⊢
          have HEW : Hid (E = wo.heap.size) := hE
          generalize wo.alloc (.cells #[] 61) = W1 at HE ⊢
          clear hE
          go_wp2_with (first | (go_at_call 29; refine (groups_any j (by omega) _).mono ?_; rintro e w1 ⟨sa, sc, rfl, hrow, hbel⟩))
          obtain ⟨b, off, rfl, hbw0, _⟩ := HPC.out w (Below.refl _ _) 0 (by omega)
          obtain ⟨i0, hi0, hz0, hz1, hz2⟩ := info_parts info_string
          obtain ⟨i1, hi1, hy0, hy1, hy2⟩ := info_parts info_int64
          obtain ⟨i2, hi2, hx0, hx1, hx2⟩ := info_parts info_l3NU
          have hW1 : E < W1.heap.size := (HE.out.1.lt E rfl).2
          have hszw1 := hbel.size
          have hsn2 := sharesL_len j
          have HSA : Hid (∀ W, Fr (fun x => x = E) w1 W → ShAt W sa (sharesL j)) := fun W hf => (ShAt.of hrow rfl).fr hf (fun g e he => by have := hrow.lt g (by rw [e]; rfl); omega)
          have HL0 : Hid (SLv wo w1 E 0 0 (some ⟨E, 0, none⟩) [] (fun _ => [])) := SLv.nil HE.out.1 HE.out.2 (by omega) hbel
          obtain ⟨sn, hsn⟩ : ∃ sn, sn = (sharesL j).length := ⟨_, rfl⟩
          rw [← hsn] at hsn2 ⊢
          have HN : Hid (sn = (sharesL j).length) := hsn
          have HEL : Hid (E < w1.heap.size ∧ wo.heap.size = E) := ⟨by omega, HEW.out.symm⟩
          clear hrow hbel hsn HE
          go_loopw [0, 4, 6, 7, 8] (fun pv lv iv _ _ wr => ∃ (k at' lc : Nat) (la : Option Addr) (pa : Option Addr) (css : Nat → List Value) (dn : List (List (ByteArray × ByteArray))), k ≤ sn ∧ at' ≤ j ∧ pv = .slice pa (j - at') (c - at') ∧ Hid (at' < j → pa = some ⟨b, off + at' * 2, none⟩) ∧ iv = .int .i64 k ∧ lv = .slice la k lc ∧ Hid (dn ++ chunks (zs.drop at') = chunks zs ∧ (sharesL j).drop k = sharesL (j - at')) ∧ Hid (SLv wo wr E k lc la (dn.map leafB) css ∧ Fr (fun x => x = E) w1 wr ∧ ∀ x, (Value.slice la k lc).ownBlock = some x → x = E ∨ w1.heap.size ≤ x)) (fun _ _ iv _ _ _ => sn - (intOf iv).toNat)
          case atStart => exact ⟨0, 0, 0, some ⟨E, 0, none⟩, some ⟨b, off, none⟩, fun _ => [], [], Nat.zero_le _, Nat.zero_le _, by simp, fun _ => by simp, rfl, rfl, ⟨rfl, rfl⟩, HL0.out, Fr.of_below (Below.refl _ _), fun x e => by cases e; exact .inl rfl⟩
          case round =>
            clear HL0
            rename World => wo2
            obtain ⟨k, at', lc, la, pa, css, dn, hk, hat, rfl, HPA, rfl, rfl, HD, HL⟩ := hrel
            have hE2 : E ≤ wo2.heap.size := by have := HL.out.2.1.size; have := HEL.out.1; omega
            by_cases hltk : k < sn
            · have hat2 : at' < j := by
                rcases Nat.lt_or_ge at' j with h | h
                · exact h
                · exfalso
                  have e := HD.out.2
                  rw [show j - at' = 0 by omega, sharesL_zero, List.drop_eq_nil_iff] at e
                  have := HN.out; omega
              obtain rfl := HPA.out hat2
              obtain ⟨s, hs⟩ : ∃ s, s = shareN (j - at') := ⟨_, rfl⟩
              have hsl := shareN_le (n := j - at') (by omega)
              rw [← hs] at hsl
              obtain ⟨hs1, hs2, hs3⟩ := hsl
              have hgd : (sharesL j).getD k 0 = (s : Int) := by
                have e := HD.out.2
                rw [sharesL_step (n := j - at') (by omega), ← hs] at e
                have e2 : ((sharesL j).drop k)[0]? = some (s : Int) := by rw [e]; rfl
                rw [List.getElem?_drop, Nat.add_zero] at e2
                simp [List.getD, e2]
              have HD2 : Hid ((dn ++ [(zs.drop at').take s]) ++ chunks (zs.drop (at' + s)) = chunks zs ∧ (sharesL j).drop (k + 1) = sharesL (j - (at' + s))) := by
                have hzl : (zs.drop at').length = j - at' := by rw [List.length_drop, HZ.out]
                constructor
                · have e := HD.out.1
                  rw [chunks_step (by omega), hzl, ← hs, List.drop_drop] at e
                  rw [← e]; simp
                · have e := HD.out.2
                  rw [sharesL_step (n := j - at') (by omega), ← hs] at e
                  rw [← List.drop_drop, e, Nat.sub_sub]; rfl
              have HCL : Hid (((zs.drop at').take s).length = s) := by
                show _ = _
                rw [List.length_take, List.length_drop, HZ.out]; omega
              obtain ⟨ch, hch⟩ : ∃ ch, ch = (zs.drop at').take s := ⟨_, rfl⟩
              rw [← hch] at HD2 HCL
              have HCH : Hid (∀ q, q < s → ch.getD q dP = zs.getD (at' + q) dP) := fun q hq => by
                rw [hch]
                simp [List.getD, List.getElem?_take, hq, List.getElem?_drop]
              have HCM : Hid (∀ z ∈ ch, z ∈ zs) := fun z hz => by rw [hch] at hz; exact List.mem_of_mem_drop (List.mem_of_mem_take hz)
              have HLK : Hid ((leafB ch).keys.length = s ∧ (leafB ch).vals.length = s ∧ (leafB ch).over.length = s) := by
                have := HCL.out
                refine ⟨?_, ?_, ?_⟩ <;> simp [leafB, this]
              obtain ⟨g, rfl, hgl, hgc⟩ := (HSA.out wo2 HL.out.2.1) k (by have := HN.out; omega)
              rw [hgd] at hgc
              clear hgd hs hch
              have k1 := heap_alloc_new wo2 (.cells #[.bool true, .int .i64 0, .slice none 0 0, .slice none 0 0, .slice none 0 0, .slice none 0 0] 61)
              have HF0 : Hid (SFl wo2 (wo2.alloc (.cells #[.bool true, .int .i64 0, .slice none 0 0, .slice none 0 0, .slice none 0 0, .slice none 0 0] 61)) wo2.heap.size (fun _ => .slice none 0 0) (lxs (leafB ch) 0)) := by
                have e : lxs (leafB ch) 0 = fun _ => [] := by funext r; simp [lxs, rowsOf]
                rw [e]
                exact ⟨k1, LL.nil _ _, Fr.of_below ((Below.refl wo2.heap.size wo2).alloc (Nat.le_refl _) _)⟩
              clear k1
              obtain ⟨N, hN⟩ : ∃ N, N = wo2.heap.size := ⟨_, rfl⟩
              rw [← hN] at HF0
              have hbN : b < N := by have := hbr.size; have := HEL.out.2; omega
              have hgN : g < N := by omega
              go_upto_region 16 with fail
              rw [← hN]
              have HNW : Hid (N = wo2.heap.size) := hN
              generalize wo2.alloc (.cells #[.bool true, .int .i64 0, .slice none 0 0, .slice none 0 0, .slice none 0 0, .slice none 0 0] 61) = W2 at HF0 ⊢
              have HGC : Hid (wo2.cell? ⟨g, k, none⟩ = some (.int .i64 (s : Int))) := hgc
              clear hN hgc hgl
              go_wp2_with fail
              go_loopw [8] (fun iv wx => ∃ (q : Nat) (u : Nat → Value), q ≤ s ∧ iv = .int .i64 q ∧ Hid (u 3 = .slice none 0 0 ∧ SFl wo2 wx N u (lxs (leafB ch) q))) (fun iv _ => s - (intOf iv).toNat)
              case atStart => exact ⟨0, fun _ => .slice none 0 0, Nat.zero_le _, rfl, rfl, HF0.out⟩
              case round =>
                clear HF0
                obtain ⟨q, u0, hq, rfl, HX⟩ := hrel
                have hNr := HX.out.2.lt
                have hgr2 : g < wr.heap.size := by omega
                have hgcr : wr.cell? ⟨g, k, none⟩ = some (.int .i64 (s : Int)) := (World.cell?_of_block (w := wo2) (a := ⟨g, k, none⟩) (HX.out.2.fr.block g (by have := HNW.out; omega) (by omega))).trans HGC.out
                by_cases hqs : q < s
                · obtain ⟨z, hz⟩ : ∃ z, ch.getD q dP = z := ⟨_, rfl⟩
                  obtain ⟨ky, vl⟩ := z
                  have HPC2 : Hid (∀ W, Fr (fun g => N ≤ g) wo2 W → W.cell? ⟨b, off + at' * 2 + q * 2, none⟩ = some (.string ky) ∧ W.cell? ⟨b, off + at' * 2 + q * 2 + 1, none⟩ = some (.string vl)) := fun W hf => by
                    have hb9 : Below w.heap.size w W := (hbr.trans (HL.out.1.bel.mono (by have := HEL.out.2; omega))).trans (hf.below (by have := HEL.out.2; have := HNW.out; omega) (fun b e => by have := HNW.out; have := HEL.out.2; omega))
                    obtain ⟨b', off', e, hlt', h1, h2, _⟩ := HPC.out W hb9 (at' + q) (by omega)
                    cases e
                    rw [← HCH.out q hqs, hz] at h1 h2
                    rw [show off + (at' + q) * 2 = off + at' * 2 + q * 2 by omega] at h1 h2
                    exact ⟨h1, h2⟩
                  obtain ⟨l0, hl0⟩ : ∃ l, l = lxs (leafB ch) q := ⟨_, rfl⟩
                  have HF : Hid (SFl wo2 wr N u0 l0) := by rw [hl0]; exact HX.out.2
                  have HU3 : Hid (u0 3 = .slice none 0 0) := HX.out.1
                  have HROW0 : Hid (l0 0 = rowsOf strCells ((leafB ch).keys.take q)) := by rw [hl0]; rfl
                  have HROW1' : Hid (l0 1 = rowsOf strCells ((leafB ch).vals.take q)) := by rw [hl0]; rfl
                  have HROW2 : Hid (l0 2 = rowsOf intCells ((leafB ch).over.take q)) := by rw [hl0]; rfl
                  have HLEN0 : Hid ((rowsOf strCells ((leafB ch).keys.take q) ++ [Value.string ky]).length = q + 1) := by show _ = _; rw [List.length_append, rows_len1 sc1, List.length_take]; have := HLK.out; simp; omega
                  have HLEN1' : Hid ((rowsOf strCells ((leafB ch).vals.take q) ++ [Value.string vl]).length = q + 1) := by show _ = _; rw [List.length_append, rows_len1 sc1, List.length_take]; have := HLK.out; simp; omega
                  have HLEN2 : Hid ((rowsOf intCells ((leafB ch).over.take q)).length = q) := by show _ = _; rw [rows_len1 ic1, List.length_take]; have := HLK.out; omega
                  obtain ⟨a0, c0, hu0⟩ := ownT_shape (HF.out.ll.row 0 (by omega))
                  obtain ⟨a1, c1, hu1⟩ := ownT_shape (HF.out.ll.row 1 (by omega))
                  obtain ⟨a2, c2, hu2⟩ := ownT_shape (HF.out.ll.row 2 (by omega))
                  rw [HROW0.out, show (rowsOf strCells ((leafB ch).keys.take q)).length = q by rw [rows_len1 sc1, List.length_take]; have := HLK.out; omega] at hu0
                  rw [HROW1'.out, show (rowsOf strCells ((leafB ch).vals.take q)).length = q by rw [rows_len1 sc1, List.length_take]; have := HLK.out; omega] at hu1
                  rw [HROW2.out, HLEN2.out] at hu2
                  have HU0 : Hid (u0 0 = .slice a0 q c0) := hu0
                  have HU1' : Hid (u0 1 = .slice a1 q c1) := hu1
                  have HU2 : Hid (u0 2 = .slice a2 q c2) := hu2
                  have HNX : Hid (lxs (leafB ch) (q + 1) = (fun r => if r = 2 then rowsOf intCells ((leafB ch).over.take q) ++ [.int .i64 0] else (fun r => if r = 1 then rowsOf strCells ((leafB ch).vals.take q) ++ [.string vl] else (fun r => if r = 0 then rowsOf strCells ((leafB ch).keys.take q) ++ [.string ky] else l0 r) r) r)) := by
                    obtain ⟨e1, e2, e3⟩ := HLK.out
                    have hqc : q < ch.length := by have := HCL.out; omega
                    have hz2 : ch[q] = (ky, vl) := by simpa [List.getD, hqc] using hz
                    have g1 : (leafB ch).keys.getD q ByteArray.empty = ky := by simp [leafB, List.getD, hqc, hz2]
                    have g2 : (leafB ch).vals.getD q ByteArray.empty = vl := by simp [leafB, List.getD, hqc, hz2]
                    have g3 : (leafB ch).over.getD q 0 = 0 := by simp [leafB, List.getD, hqc]
                    funext r
                    rw [hl0]
                    unfold lxs
                    rw [take_row (leafB ch).keys ByteArray.empty q (by omega), take_row (leafB ch).vals ByteArray.empty q (by omega), take_row (leafB ch).over 0 q (by omega), g1, g2, g3]
                    by_cases r0 : r = 0
                    · subst r0; rfl
                    · by_cases r1 : r = 1
                      · subst r1; rfl
                      · by_cases r2 : r = 2
                        · subst r2; rfl
                        · simp [r0, r1, r2]
                  have HEN : Hid (b < N) := hbN
                  clear hl0 hu0 hu1 hu2 hz HX
                  go_wp2_with fail
                  clear hgcr hgr2 hNr
                  obtain ⟨V, hV⟩ : ∃ V, V = wr.drew := ⟨_, rfl⟩
                  have HV : Hid (V = wr.drew) := hV
                  have hbV : Below wr.heap.size wr V := by rw [hV]; exact (Below.refl _ _).drew
                  have FV := HF.out.below hbV
                  obtain ⟨NV, blV, sV, rwV, cV⟩ : N < V.heap.size ∧ b < V.heap.size ∧ V.cell? ⟨b, off + at' * 2 + q * 2, none⟩ = some (.string ky) ∧ V.ownsRow (N + 1) 9 1 (.slice a0 q c0) q (rowsOf strCells ((leafB ch).keys.take q)) ∧ V.cell? ⟨N, 2, none⟩ = some (.slice a0 q c0) := by
                    have hlt := FV.lt
                    have hr := FV.ll.row 0 (by omega)
                    rw [HU0.out] at hr
                    refine ⟨hlt, by have := HEN.out; omega, (HPC2.out V FV.fr).1, by have e9 := HROW0.out; rw [e9] at hr; rw [show (rowsOf strCells ((leafB ch).keys.take q)).length = q by rw [rows_len1 sc1, List.length_take]; have := HLK.out; omega] at hr; exact hr, ?_⟩
                    have e9 := box_sixT FV.box
                    rw [HU0.out] at e9
                    exact e9.2.2.1
                  clear hV hbV
                  refine wp_region_noPanic ?_
                  refine wp_region_held_drew (S := (fun W : World => W.cell? ⟨b, off + at' * 2 + q * 2, none⟩ = some (.string ky))) (by kernel_rfl) (by rw [← HV.out]; exact sV) (fun hHeld => ?_)
                  rw [← HV.out] at hHeld ⊢
                  refine wpAnyH_take (i := 0) (oi := { dst := some 79, op := Op.fieldAddr 61 (Operand.tmp 7) 2, type := 0, pos := "l3_tree.go:456", after := #[], guard := none }) (v := .pointer (some ⟨N, 2, none⟩)) rfl (by kernel_rfl) (by kernel_rfl) (by kernel_rfl) (fun _ _ _ h => h) (Or.inl ⟨by rfl, ?_⟩) (by assumption) ?_
                  · intro wq hSw; (try dsimp only at hSw); go_simp
                  try simp only [Act.put, List.setIfInBounds_toArray, List.set_cons_zero, List.set_cons_succ]
                  refine wpAnyH_take (i := 2) (oi := { dst := some 81, op := Op.move (Operand.tmp 0), type := 28, pos := "l3_tree.go:456", after := #[], guard := none }) (v := .slice (some ⟨b, off + at' * 2, none⟩) (j - at') (c - at')) rfl (by kernel_rfl) (by kernel_rfl) (by kernel_rfl) (fun _ _ _ h => h) (Or.inl ⟨by rfl, ?_⟩) (by assumption) ?_
                  · intro wq hSw; (try dsimp only at hSw); go_simp
                  try simp only [Act.put, List.setIfInBounds_toArray, List.set_cons_zero, List.set_cons_succ]
                  refine wpAnyH_take (i := 3) (oi := { dst := some 82, op := Op.move (Operand.tmp 8), type := 3, pos := "l3_tree.go:456", after := #[], guard := none }) (v := .int .i64 q) rfl (by kernel_rfl) (by kernel_rfl) (by kernel_rfl) (fun _ _ _ h => h) (Or.inl ⟨by rfl, ?_⟩) (by assumption) ?_
                  · intro wq hSw; (try dsimp only at hSw); go_simp
                  try simp only [Act.put, List.setIfInBounds_toArray, List.set_cons_zero, List.set_cons_succ]
                  refine wpAnyH_take (i := 4) (oi := { dst := some 83, op := Op.indexAddr 28 (Operand.tmp 81) (Operand.tmp 82), type := 0, pos := "l3_tree.go:456", after := #[{ on := 2, ground := Ground.data }, { on := 3, ground := Ground.data }], guard := none }) (v := .pointer (some ⟨b, off + at' * 2 + q * 2, none⟩)) rfl (by kernel_rfl) (by kernel_rfl) (by kernel_rfl) (fun _ _ _ h => h) (Or.inl ⟨by rfl, ?_⟩) (by assumption) ?_
                  · intro wq hSw; (try dsimp only at hSw); go_simp; (try (intro hx; exfalso; omega))
                  try simp only [Act.put, List.setIfInBounds_toArray, List.set_cons_zero, List.set_cons_succ]
                  refine wpAnyH_take (i := 5) (oi := { dst := some 84, op := Op.fieldAddr 53 (Operand.tmp 83) 0, type := 0, pos := "l3_tree.go:456", after := #[{ on := 4, ground := Ground.data }], guard := none }) (v := .pointer (some ⟨b, off + at' * 2 + q * 2, none⟩)) rfl (by kernel_rfl) (by kernel_rfl) (by kernel_rfl) (fun _ _ _ h => h) (Or.inl ⟨by rfl, ?_⟩) (by assumption) ?_
                  · intro wq hSw; (try dsimp only at hSw); go_simp
                  try simp only [Act.put, List.setIfInBounds_toArray, List.set_cons_zero, List.set_cons_succ]
                  refine wpAnyH_take (i := 6) (oi := { dst := some 85, op := Op.load 9 (Operand.tmp 84), type := 9, pos := "l3_tree.go:456", after := #[{ on := 5, ground := Ground.data }], guard := none }) (v := .string ky) rfl (by kernel_rfl) (by kernel_rfl) (by kernel_rfl) (fun _ _ _ h => h) (Or.inl ⟨by rfl, ?_⟩) (by assumption) ?_
                  · intro wq hSw; (try dsimp only at hSw); go_simp
                  try simp only [Act.put, List.setIfInBounds_toArray, List.set_cons_zero, List.set_cons_succ]
                  refine wpAnyH_ready (rs := [1, 7]) (by kernel_rfl) (by simp) ?_
                  refine AllReadyH.cons (o := { dst := some 80, op := Op.load 58 (Operand.tmp 79), type := 58, pos := "l3_tree.go:456", after := #[{ on := 0, ground := Ground.data }], guard := none }) rfl (fun K hK => ?_) ?_
                  rotate_left 1
                  refine AllReadyH.cons (o := { dst := some 86, op := Op.buildSlice 58 1 #[(0, Operand.tmp 85)], type := 58, pos := "l3_tree.go:456", after := #[{ on := 6, ground := Ground.data }], guard := none }) rfl (fun K hK => ?_) ?_
                  rotate_left 1
                  exact AllReadyH.nil
                  · go_simp
                    refine hK.out _ _ (sV) (fun hHeld => ?_)
                    clear hK K
                    try simp only [Act.put, List.setIfInBounds_toArray, List.set_cons_zero, List.set_cons_succ]
                    refine wpAnyH_ready (rs := [7]) (by kernel_rfl) (by simp) ?_
                    refine AllReadyH.cons (o := { dst := some 86, op := Op.buildSlice 58 1 #[(0, Operand.tmp 85)], type := 58, pos := "l3_tree.go:456", after := #[{ on := 6, ground := Ground.data }], guard := none }) rfl (fun K hK => ?_) AllReadyH.nil
                    go_simp
                    have hb6 : Below V.heap.size V (V.alloc (.cells #[.string ky] 9)) := (Below.refl _ _).alloc (Nat.le_refl _) _
                    have F6 := FV.below hb6
                    have t0 : (V.alloc (.cells #[.string ky] 9)).cell? ⟨b, off + at' * 2 + q * 2, none⟩ = some (.string ky) := (hb6.cell (p := ⟨b, off + at' * 2 + q * 2, none⟩) blV).trans sV
                    have c6 : (V.alloc (.cells #[.string ky] 9)).cell? ⟨N, 2, none⟩ = some (.slice a0 q c0) := (hb6.cell (p := ⟨N, 2, none⟩) NV).trans cV
                    have gl6 : N < (V.alloc (.cells #[.string ky] 9)).heap.size := Nat.lt_of_lt_of_le NV hb6.size
                    have gb6 : b < (V.alloc (.cells #[.string ky] 9)).heap.size := Nat.lt_of_lt_of_le blV hb6.size
                    have rw6 := owns_below rwV hb6
                    refine hK.out _ _ (t0) (fun hHeld => ?_)
                    clear hK K
                    try simp only [Act.put, List.setIfInBounds_toArray, List.set_cons_zero, List.set_cons_succ]
                    refine wpAnyH_ready (rs := [8]) (by kernel_rfl) (by simp) ?_
                    refine AllReadyH.cons (o := { dst := some 87, op := Op.call { callee := Callee.builtin Builtin.append, args := #[Operand.tmp 80, Operand.tmp 86], argTypes := #[58, 58] }, type := 58, pos := "l3_tree.go:456", after := #[{ on := 1, ground := Ground.data }, { on := 7, ground := Ground.data }], guard := none }) rfl (fun K hK => ?_) AllReadyH.nil
                    refine step_append_Y rfl _ _ 58 rfl (N + 1) 9 i0 _ 1 16 Try.underlying58 hi0 hz0 hz1 hz2 rfl (by decide) (.slice a0 q c0) q (rowsOf strCells ((leafB ch).keys.take q)) (by simp [Act.eval]) rw6 ⟨V.heap.size, 0, none⟩ 1 1 [.string ky] (by simp [Act.eval]) rfl (cell_one_new _ _ _) (by simp [Value.oneCell']) (by unfold maxLen; omega) (by omega) (by omega) ?_
                    intro u7 w7 hown7 hgr7 hat7
                    obtain ⟨g7, e7, rfl⟩ := rowSuccT hown7
                    have HFN : Hid (SFl wo2 (w7.setCell ⟨N, 2, none⟩ (.slice (some ⟨g7, 0, none⟩) (q + 1) e7)) N (fun r => if r = 0 then .slice (some ⟨g7, 0, none⟩) (q + 1) e7 else u0 r) (fun r => if r = 0 then rowsOf strCells ((leafB ch).keys.take q) ++ [.string ky] else l0 r)) := F6.app (q := 0) (by omega) (by rw [HLEN0.out]; exact hown7) (by rw [HU0.out]; exact hgr7) (by rw [HU0.out]; exact hat7)
                    have F7 : Fr (fun b => (Value.slice a0 q c0).ownBlock = some b) (V.alloc (.cells #[.string ky] 9)) w7 := Fr.of_grown hgr7 (fun b e => e)
                    have hne : ∀ b, (Value.slice a0 q c0).ownBlock = some b → N + 1 ≤ b := fun b e => (rw6.lt b e).1
                    have cl7 : w7.cell? ⟨N, 2, none⟩ = some (.slice a0 q c0) := (World.cell?_of_block (w := V.alloc (.cells #[.string ky] 9)) (a := ⟨N, 2, none⟩) (F7.block N gl6 (fun e => by have := hne N e; omega))).trans c6
                    have fz7 : w7.frozen? ⟨N, 2, none⟩ = false := box_fz (boxT_fr F6.box F7 (fun e => by have := hne N e; omega)) 2
                    have x0 : w7.cell? ⟨b, off + at' * 2 + q * 2, none⟩ = some (.string ky) := (World.cell?_of_block (w := V.alloc (.cells #[.string ky] 9)) (a := ⟨b, off + at' * 2 + q * 2, none⟩) (F7.block b gb6 (fun e => by have := hne b e; omega))).trans t0
                    have gl7 : N < w7.heap.size := Nat.lt_of_lt_of_le gl6 F7.size
                    have F8 := fr_setT w7 N 2 (.slice (some ⟨g7, 0, none⟩) (q + 1) e7)
                    have y0 : (w7.setCell ⟨N, 2, none⟩ (.slice (some ⟨g7, 0, none⟩) (q + 1) e7)).cell? ⟨b, off + at' * 2 + q * 2, none⟩ = some (.string ky) := (World.cell?_of_block (w := w7) (a := ⟨b, off + at' * 2 + q * 2, none⟩) (F8.block b (Nat.lt_of_lt_of_le gb6 F7.size) (fun e => by omega))).trans x0
                    clear F8 hown7 hgr7 hat7 hne F7 F6
                    refine hK.out _ _ (x0) (fun hHeld => ?_)
                    clear hK K
                    try simp only [Act.put, List.setIfInBounds_toArray, List.set_cons_zero, List.set_cons_succ]
                    refine wpAnyH_take (i := 9) (oi := { dst := some 88, op := Op.fieldAddr 61 (Operand.tmp 7) 2, type := 0, pos := "l3_tree.go:456", after := #[{ on := 0, ground := Ground.phase }, { on := 1, ground := Ground.phase }, { on := 2, ground := Ground.phase }, { on := 3, ground := Ground.phase }, { on := 4, ground := Ground.phase }, { on := 5, ground := Ground.phase }, { on := 6, ground := Ground.phase }, { on := 7, ground := Ground.phase }, { on := 8, ground := Ground.phase }], guard := none }) (v := .pointer (some ⟨N, 2, none⟩)) rfl (by kernel_rfl) (by kernel_rfl) (by kernel_rfl) (fun _ _ _ h => h) (Or.inl ⟨by rfl, ?_⟩) (by assumption) ?_
                    · intro wq hSw; (try dsimp only at hSw); go_simp
                    try simp only [Act.put, List.setIfInBounds_toArray, List.set_cons_zero, List.set_cons_succ]
                    refine wpAnyH_ready (rs := [10]) (by kernel_rfl) (by simp) ?_
                    refine AllReadyH.cons (o := { dst := none, op := Op.store 58 (Operand.tmp 88) (Operand.tmp 87), type := 0, pos := "l3_tree.go:456", after := #[{ on := 9, ground := Ground.data }, { on := 8, ground := Ground.data }, { on := 8, ground := Ground.chain }, { on := 0, ground := Ground.phase }, { on := 1, ground := Ground.phase }, { on := 2, ground := Ground.phase }, { on := 3, ground := Ground.phase }, { on := 4, ground := Ground.phase }, { on := 5, ground := Ground.phase }, { on := 6, ground := Ground.phase }, { on := 7, ground := Ground.phase }, { on := 8, ground := Ground.phase }], guard := none }) rfl (fun K hK => ?_) AllReadyH.nil
                    go_simp
                    refine hK.out _ _ (y0) (fun hHeld => ?_)
                    clear hK K
                    try simp only [Act.put, List.setIfInBounds_toArray, List.set_cons_zero, List.set_cons_succ]
                    refine wpAnyH_done (by kernel_rfl) ?_ _
                    refine NoPanic.normal ?_
                    clear hHeld cl7 fz7 x0 y0 gl7 t0 c6 gl6 gb6 rw6 hb6
                    generalize w7.setCell ⟨N, 2, none⟩ (.slice (some ⟨g7, 0, none⟩) (q + 1) e7) = W8 at HFN ⊢
                    obtain ⟨v0, hv0⟩ : ∃ v, v = Value.slice (some ⟨g7, 0, none⟩) (q + 1) e7 := ⟨_, rfl⟩
                    rw [← hv0] at HFN
                    clear hv0 FV sV cV NV blV rwV HV
                    have HU1 : Hid ((fun r => if r = 0 then v0 else u0 r) 1 = .slice a1 q c1) := HU1'.out
                    have HROW1 : Hid ((fun r => if r = 0 then rowsOf strCells ((leafB ch).keys.take q) ++ [.string ky] else l0 r) 1 = rowsOf strCells ((leafB ch).vals.take q)) := HROW1'.out
                    have HLEN1 : Hid ((rowsOf strCells ((leafB ch).vals.take q) ++ [Value.string vl]).length = q + 1) := HLEN1'.out
                    obtain ⟨u1, hu1⟩ : ∃ u, u = fun r => if r = 0 then v0 else u0 r := ⟨_, rfl⟩
                    obtain ⟨l1, hl1⟩ : ∃ l, l = fun r => if r = 0 then rowsOf strCells ((leafB ch).keys.take q) ++ [.string ky] else l0 r := ⟨_, rfl⟩
                    rw [← hu1] at HFN HU1
                    rw [← hl1] at HFN HROW1
                    have HUL : Hid ((u1 = fun r => if r = 0 then v0 else u0 r) ∧ (l1 = fun r => if r = 0 then rowsOf strCells ((leafB ch).keys.take q) ++ [.string ky] else l0 r)) := ⟨hu1, hl1⟩
                    clear hu1 hl1
                    go_wp2_with fail
                    obtain ⟨Y, hY⟩ : ∃ V, V = W8.drew := ⟨_, rfl⟩
                    have HY : Hid (Y = W8.drew) := hY
                    have hbY : Below W8.heap.size W8 Y := by rw [hY]; exact (Below.refl _ _).drew
                    have FY := HFN.out.below hbY
                    obtain ⟨NY, blY, sY, rwY, cY⟩ : N < Y.heap.size ∧ b < Y.heap.size ∧ Y.cell? ⟨b, off + at' * 2 + q * 2 + 1, none⟩ = some (.string vl) ∧ Y.ownsRow (N + 1) 9 1 (.slice a1 q c1) q (rowsOf strCells ((leafB ch).vals.take q)) ∧ Y.cell? ⟨N, 3, none⟩ = some (.slice a1 q c1) := by
                      have hlt := FY.lt
                      have hr := FY.ll.row 1 (by omega)
                      rw [HU1.out] at hr
                      refine ⟨hlt, by have := HEN.out; omega, (HPC2.out Y FY.fr).2, by have e9 := HROW1.out; rw [e9] at hr; rw [show (rowsOf strCells ((leafB ch).vals.take q)).length = q by rw [rows_len1 sc1, List.length_take]; have := HLK.out; omega] at hr; exact hr, ?_⟩
                      have e9 := box_sixT FY.box
                      rw [HU1.out] at e9
                      exact e9.2.2.2.1
                    clear hY hbY
                    clear HFN
                    refine wp_region_noPanic ?_
                    refine wp_region_held_drew (S := (fun W : World => W.cell? ⟨b, off + at' * 2 + q * 2 + 1, none⟩ = some (.string vl))) (by kernel_rfl) (by rw [← HY.out]; exact sY) (fun hHeld => ?_)
                    rw [← HY.out] at hHeld ⊢
                    refine wpAnyH_take (i := 0) (oi := { dst := some 89, op := Op.fieldAddr 61 (Operand.tmp 7) 3, type := 0, pos := "l3_tree.go:457", after := #[], guard := none }) (v := .pointer (some ⟨N, 3, none⟩)) rfl (by kernel_rfl) (by kernel_rfl) (by kernel_rfl) (fun _ _ _ h => h) (Or.inl ⟨by rfl, ?_⟩) (by assumption) ?_
                    · intro wq hSw; (try dsimp only at hSw); go_simp
                    try simp only [Act.put, List.setIfInBounds_toArray, List.set_cons_zero, List.set_cons_succ]
                    refine wpAnyH_take (i := 2) (oi := { dst := some 91, op := Op.move (Operand.tmp 0), type := 28, pos := "l3_tree.go:457", after := #[], guard := none }) (v := .slice (some ⟨b, off + at' * 2, none⟩) (j - at') (c - at')) rfl (by kernel_rfl) (by kernel_rfl) (by kernel_rfl) (fun _ _ _ h => h) (Or.inl ⟨by rfl, ?_⟩) (by assumption) ?_
                    · intro wq hSw; (try dsimp only at hSw); go_simp
                    try simp only [Act.put, List.setIfInBounds_toArray, List.set_cons_zero, List.set_cons_succ]
                    refine wpAnyH_take (i := 3) (oi := { dst := some 92, op := Op.move (Operand.tmp 8), type := 3, pos := "l3_tree.go:457", after := #[], guard := none }) (v := .int .i64 q) rfl (by kernel_rfl) (by kernel_rfl) (by kernel_rfl) (fun _ _ _ h => h) (Or.inl ⟨by rfl, ?_⟩) (by assumption) ?_
                    · intro wq hSw; (try dsimp only at hSw); go_simp
                    try simp only [Act.put, List.setIfInBounds_toArray, List.set_cons_zero, List.set_cons_succ]
                    refine wpAnyH_take (i := 4) (oi := { dst := some 93, op := Op.indexAddr 28 (Operand.tmp 91) (Operand.tmp 92), type := 0, pos := "l3_tree.go:457", after := #[{ on := 2, ground := Ground.data }, { on := 3, ground := Ground.data }], guard := none }) (v := .pointer (some ⟨b, off + at' * 2 + q * 2, none⟩)) rfl (by kernel_rfl) (by kernel_rfl) (by kernel_rfl) (fun _ _ _ h => h) (Or.inl ⟨by rfl, ?_⟩) (by assumption) ?_
                    · intro wq hSw; (try dsimp only at hSw); go_simp; (try (intro hx; exfalso; omega))
                    try simp only [Act.put, List.setIfInBounds_toArray, List.set_cons_zero, List.set_cons_succ]
                    refine wpAnyH_take (i := 5) (oi := { dst := some 94, op := Op.fieldAddr 53 (Operand.tmp 93) 1, type := 0, pos := "l3_tree.go:457", after := #[{ on := 4, ground := Ground.data }], guard := none }) (v := .pointer (some ⟨b, off + at' * 2 + q * 2 + 1, none⟩)) rfl (by kernel_rfl) (by kernel_rfl) (by kernel_rfl) (fun _ _ _ h => h) (Or.inl ⟨by rfl, ?_⟩) (by assumption) ?_
                    · intro wq hSw; (try dsimp only at hSw); go_simp
                    try simp only [Act.put, List.setIfInBounds_toArray, List.set_cons_zero, List.set_cons_succ]
                    refine wpAnyH_take (i := 6) (oi := { dst := some 95, op := Op.load 9 (Operand.tmp 94), type := 9, pos := "l3_tree.go:457", after := #[{ on := 5, ground := Ground.data }], guard := none }) (v := .string vl) rfl (by kernel_rfl) (by kernel_rfl) (by kernel_rfl) (fun _ _ _ h => h) (Or.inl ⟨by rfl, ?_⟩) (by assumption) ?_
                    · intro wq hSw; (try dsimp only at hSw); go_simp
                    try simp only [Act.put, List.setIfInBounds_toArray, List.set_cons_zero, List.set_cons_succ]
                    refine wpAnyH_ready (rs := [1, 7]) (by kernel_rfl) (by simp) ?_
                    refine AllReadyH.cons (o := { dst := some 90, op := Op.load 58 (Operand.tmp 89), type := 58, pos := "l3_tree.go:457", after := #[{ on := 0, ground := Ground.data }], guard := none }) rfl (fun K hK => ?_) ?_
                    rotate_left 1
                    refine AllReadyH.cons (o := { dst := some 96, op := Op.buildSlice 58 1 #[(0, Operand.tmp 95)], type := 58, pos := "l3_tree.go:457", after := #[{ on := 6, ground := Ground.data }], guard := none }) rfl (fun K hK => ?_) ?_
                    rotate_left 1
                    exact AllReadyH.nil
                    · go_simp
                      refine hK.out _ _ (sY) (fun hHeld => ?_)
                      clear hK K
                      try simp only [Act.put, List.setIfInBounds_toArray, List.set_cons_zero, List.set_cons_succ]
                      refine wpAnyH_ready (rs := [7]) (by kernel_rfl) (by simp) ?_
                      refine AllReadyH.cons (o := { dst := some 96, op := Op.buildSlice 58 1 #[(0, Operand.tmp 95)], type := 58, pos := "l3_tree.go:457", after := #[{ on := 6, ground := Ground.data }], guard := none }) rfl (fun K hK => ?_) AllReadyH.nil
                      go_simp
                      have hb6 : Below Y.heap.size Y (Y.alloc (.cells #[.string vl] 9)) := (Below.refl _ _).alloc (Nat.le_refl _) _
                      have F6 := FY.below hb6
                      have t0 : (Y.alloc (.cells #[.string vl] 9)).cell? ⟨b, off + at' * 2 + q * 2 + 1, none⟩ = some (.string vl) := (hb6.cell (p := ⟨b, off + at' * 2 + q * 2 + 1, none⟩) blY).trans sY
                      have c6 : (Y.alloc (.cells #[.string vl] 9)).cell? ⟨N, 3, none⟩ = some (.slice a1 q c1) := (hb6.cell (p := ⟨N, 3, none⟩) NY).trans cY
                      have gl6 : N < (Y.alloc (.cells #[.string vl] 9)).heap.size := Nat.lt_of_lt_of_le NY hb6.size
                      have gb6 : b < (Y.alloc (.cells #[.string vl] 9)).heap.size := Nat.lt_of_lt_of_le blY hb6.size
                      have rw6 := owns_below rwY hb6
                      refine hK.out _ _ (t0) (fun hHeld => ?_)
                      clear hK K
                      try simp only [Act.put, List.setIfInBounds_toArray, List.set_cons_zero, List.set_cons_succ]
                      refine wpAnyH_ready (rs := [8]) (by kernel_rfl) (by simp) ?_
                      refine AllReadyH.cons (o := { dst := some 97, op := Op.call { callee := Callee.builtin Builtin.append, args := #[Operand.tmp 90, Operand.tmp 96], argTypes := #[58, 58] }, type := 58, pos := "l3_tree.go:457", after := #[{ on := 1, ground := Ground.data }, { on := 7, ground := Ground.data }], guard := none }) rfl (fun K hK => ?_) AllReadyH.nil
                      refine step_append_Y rfl _ _ 58 rfl (N + 1) 9 i0 _ 1 16 Try.underlying58 hi0 hz0 hz1 hz2 rfl (by decide) (.slice a1 q c1) q (rowsOf strCells ((leafB ch).vals.take q)) (by simp [Act.eval]) rw6 ⟨Y.heap.size, 0, none⟩ 1 1 [.string vl] (by simp [Act.eval]) rfl (cell_one_new _ _ _) (by simp [Value.oneCell']) (by unfold maxLen; omega) (by omega) (by omega) ?_
                      intro u7 w7 hown7 hgr7 hat7
                      obtain ⟨g7, e7, rfl⟩ := rowSuccT hown7
                      have HFN : Hid (SFl wo2 (w7.setCell ⟨N, 3, none⟩ (.slice (some ⟨g7, 0, none⟩) (q + 1) e7)) N (fun r => if r = 1 then .slice (some ⟨g7, 0, none⟩) (q + 1) e7 else u1 r) (fun r => if r = 1 then rowsOf strCells ((leafB ch).vals.take q) ++ [.string vl] else l1 r)) := F6.app (q := 1) (by omega) (by rw [HLEN1.out]; exact hown7) (by rw [HU1.out]; exact hgr7) (by rw [HU1.out]; exact hat7)
                      have F7 : Fr (fun b => (Value.slice a1 q c1).ownBlock = some b) (Y.alloc (.cells #[.string vl] 9)) w7 := Fr.of_grown hgr7 (fun b e => e)
                      have hne : ∀ b, (Value.slice a1 q c1).ownBlock = some b → N + 1 ≤ b := fun b e => (rw6.lt b e).1
                      have cl7 : w7.cell? ⟨N, 3, none⟩ = some (.slice a1 q c1) := (World.cell?_of_block (w := Y.alloc (.cells #[.string vl] 9)) (a := ⟨N, 3, none⟩) (F7.block N gl6 (fun e => by have := hne N e; omega))).trans c6
                      have fz7 : w7.frozen? ⟨N, 3, none⟩ = false := box_fz (boxT_fr F6.box F7 (fun e => by have := hne N e; omega)) 3
                      have x0 : w7.cell? ⟨b, off + at' * 2 + q * 2 + 1, none⟩ = some (.string vl) := (World.cell?_of_block (w := Y.alloc (.cells #[.string vl] 9)) (a := ⟨b, off + at' * 2 + q * 2 + 1, none⟩) (F7.block b gb6 (fun e => by have := hne b e; omega))).trans t0
                      have gl7 : N < w7.heap.size := Nat.lt_of_lt_of_le gl6 F7.size
                      have F8 := fr_setT w7 N 3 (.slice (some ⟨g7, 0, none⟩) (q + 1) e7)
                      have y0 : (w7.setCell ⟨N, 3, none⟩ (.slice (some ⟨g7, 0, none⟩) (q + 1) e7)).cell? ⟨b, off + at' * 2 + q * 2 + 1, none⟩ = some (.string vl) := (World.cell?_of_block (w := w7) (a := ⟨b, off + at' * 2 + q * 2 + 1, none⟩) (F8.block b (Nat.lt_of_lt_of_le gb6 F7.size) (fun e => by omega))).trans x0
                      clear F8 hown7 hgr7 hat7 hne F7 F6
                      refine hK.out _ _ (x0) (fun hHeld => ?_)
                      clear hK K
                      try simp only [Act.put, List.setIfInBounds_toArray, List.set_cons_zero, List.set_cons_succ]
                      refine wpAnyH_take (i := 9) (oi := { dst := some 98, op := Op.fieldAddr 61 (Operand.tmp 7) 3, type := 0, pos := "l3_tree.go:457", after := #[{ on := 0, ground := Ground.phase }, { on := 1, ground := Ground.phase }, { on := 2, ground := Ground.phase }, { on := 3, ground := Ground.phase }, { on := 4, ground := Ground.phase }, { on := 5, ground := Ground.phase }, { on := 6, ground := Ground.phase }, { on := 7, ground := Ground.phase }, { on := 8, ground := Ground.phase }], guard := none }) (v := .pointer (some ⟨N, 3, none⟩)) rfl (by kernel_rfl) (by kernel_rfl) (by kernel_rfl) (fun _ _ _ h => h) (Or.inl ⟨by rfl, ?_⟩) (by assumption) ?_
                      · intro wq hSw; (try dsimp only at hSw); go_simp
                      try simp only [Act.put, List.setIfInBounds_toArray, List.set_cons_zero, List.set_cons_succ]
                      refine wpAnyH_ready (rs := [10]) (by kernel_rfl) (by simp) ?_
                      refine AllReadyH.cons (o := { dst := none, op := Op.store 58 (Operand.tmp 98) (Operand.tmp 97), type := 0, pos := "l3_tree.go:457", after := #[{ on := 9, ground := Ground.data }, { on := 8, ground := Ground.data }, { on := 8, ground := Ground.chain }, { on := 0, ground := Ground.phase }, { on := 1, ground := Ground.phase }, { on := 2, ground := Ground.phase }, { on := 3, ground := Ground.phase }, { on := 4, ground := Ground.phase }, { on := 5, ground := Ground.phase }, { on := 6, ground := Ground.phase }, { on := 7, ground := Ground.phase }, { on := 8, ground := Ground.phase }], guard := none }) rfl (fun K hK => ?_) AllReadyH.nil
                      go_simp
                      refine hK.out _ _ (y0) (fun hHeld => ?_)
                      clear hK K
                      try simp only [Act.put, List.setIfInBounds_toArray, List.set_cons_zero, List.set_cons_succ]
                      refine wpAnyH_done (by kernel_rfl) ?_ _
                      refine NoPanic.normal ?_
                      clear hHeld cl7 fz7 x0 y0 gl7 t0 c6 gl6 gb6 rw6 hb6
                      generalize w7.setCell ⟨N, 3, none⟩ (.slice (some ⟨g7, 0, none⟩) (q + 1) e7) = W8 at HFN ⊢
                      obtain ⟨v1, hv1⟩ : ∃ v, v = Value.slice (some ⟨g7, 0, none⟩) (q + 1) e7 := ⟨_, rfl⟩
                      rw [← hv1] at HFN
                      clear hv1 FY sY cY NY blY rwY HY
                      have HF2 := HFN.out
                      have hr2 : W8.ownsRow (N + 1) 2 1 (.slice a2 q c2) q (rowsOf intCells ((leafB ch).over.take q)) := by
                        have h9 := HF2.ll.row 2 (by omega)
                        rw [HUL.out.1, HUL.out.2] at h9
                        replace h9 : W8.ownsRow (N + 1) (ety 2) 1 (u0 2) (l0 2).length (l0 2) := h9
                        rw [HU2.out, HROW2.out, HLEN2.out] at h9
                        exact h9
                      have k2 : W8.cell? ⟨N, 4, none⟩ = some (.slice a2 q c2) := by
                        have e9 := (box_sixT HF2.box).2.2.2.2.1
                        rw [HUL.out.1] at e9
                        replace e9 : W8.cell? ⟨N, 4, none⟩ = some (u0 2) := e9
                        rw [HU2.out] at e9
                        exact e9
                      have hN8 := HF2.lt
                      have hba : Below W8.heap.size W8 (W8.alloc (.cells #[.int .i64 0] 2)) := (Below.refl _ _).alloc (Nat.le_refl _) _
                      have F9 := HF2.below hba
                      have hr9 := owns_below hr2 hba
                      have hcell9 := cell_one_new W8 (.int .i64 0) 2
                      have hs9 : N + 1 ≤ (W8.alloc (.cells #[.int .i64 0] 2)).heap.size := by have := hba.size; omega
                      have HF9 : Hid (SFl wo2 (W8.alloc (.cells #[.int .i64 0] 2)) N (fun r => if r = 1 then v1 else u1 r) (fun r => if r = 1 then rowsOf strCells ((leafB ch).vals.take q) ++ [Value.string vl] else l1 r)) := F9
                      have c9 : (W8.alloc (.cells #[.int .i64 0] 2)).cell? ⟨N, 4, none⟩ = some (.slice a2 q c2) := (hba.cell (p := ⟨N, 4, none⟩) hN8).trans k2
                      have hN9 : N < (W8.alloc (.cells #[.int .i64 0] 2)).heap.size := by omega
                      have hne9 : ∀ b, (Value.slice a2 q c2).ownBlock = some b → N + 1 ≤ b := fun b e => (hr2.lt b e).1
                      clear HF2 F9 hba HFN
                      go_upto_region 18 with (at_builtin; refine wpList_append_ownD _ rfl _ _ 59 rfl (N + 1) 2 i1 _ 1 8 Try.underlying59 hi1 hy0 hy1 hy2 rfl (by decide) _ _ _ rfl hr9 ⟨W8.heap.size, 0, none⟩ 1 1 [.int .i64 0] rfl rfl hcell9 (by simp [Value.oneCell']) (by unfold maxLen; omega) (by omega) hs9 ?_; intro v' w5 hown' hgr' hat'; obtain ⟨g5, e5, rfl⟩ := rowSuccT hown'; have F5 : Fr (fun b => (Value.slice a2 q c2).ownBlock = some b) (W8.alloc (.cells #[.int .i64 0] 2)) w5 := Fr.of_grown hgr' (fun b e => e); have cl5 : w5.cell? ⟨N, 4, none⟩ = some (.slice a2 q c2) := (World.cell?_of_block (w := (W8.alloc (.cells #[.int .i64 0] 2))) (a := ⟨N, 4, none⟩) (F5.block N hN9 (fun e => by have := hne9 N e; omega))).trans c9; have fz5 : w5.frozen? ⟨N, 4, none⟩ = false := box_fz (boxT_fr HF9.out.box F5 (fun e => by have := hne9 N e; omega)) 4; have gl5 : N < w5.heap.size := Nat.lt_of_lt_of_le hN9 F5.size)
                      have hU2' : u1 2 = .slice a2 q c2 := by
                        rw [HUL.out.1]; exact HU2.out
                      have HSN : Hid (SFl wo2 (w5.setCell ⟨N, 4, none⟩ (.slice (some ⟨g5, 0, none⟩) (q + 1) e5)) N (fun r => if r = 2 then .slice (some ⟨g5, 0, none⟩) (q + 1) e5 else (fun r => if r = 1 then v1 else u1 r) r) (lxs (leafB ch) (q + 1))) := by
                        have h9 := HF9.out.app (q := 2) (zs := rowsOf intCells ((leafB ch).over.take q) ++ [.int .i64 0]) (by omega) (by rw [List.length_append, HLEN2.out]; exact hown') (by show (W8.alloc (.cells #[.int .i64 0] 2)).grownBy _ (u1 2).ownBlock; rw [hU2']; exact hgr') (by show _ = (u1 2).ownBlock ∨ _; rw [hU2']; exact hat')
                        have e9 : (fun r => if r = 2 then rowsOf intCells ((leafB ch).over.take q) ++ [.int .i64 0] else (fun r => if r = 1 then rowsOf strCells ((leafB ch).vals.take q) ++ [Value.string vl] else l1 r) r) = lxs (leafB ch) (q + 1) := by
                          rw [HNX.out, HUL.out.2]
                        rw [e9] at h9
                        exact h9
                      have HU3N : Hid ((fun r => if r = 2 then Value.slice (some ⟨g5, 0, none⟩) (q + 1) e5 else (fun r => if r = 1 then v1 else u1 r) r) 3 = .slice none 0 0) := by
                        show u1 3 = _
                        rw [HUL.out.1]; exact HU3.out
                      obtain ⟨u9, hu9⟩ : ∃ u9, u9 = (fun r => if r = 2 then Value.slice (some ⟨g5, 0, none⟩) (q + 1) e5 else (fun r => if r = 1 then v1 else u1 r) r) := ⟨_, rfl⟩
                      rw [← hu9] at HSN HU3N
                      clear hown' hgr' hat' cl5 fz5 F5 hU2' hu9 hr9 hcell9 c9 hr2 k2 HF9
                      generalize w5.setCell ⟨N, 4, none⟩ (.slice (some ⟨g5, 0, none⟩) (q + 1) e5) = W9 at HSN ⊢
                      go_wp2_with fail
                      go_roundw
                      case rel => exact ⟨q + 1, u9, by omega, by go_num, HU3N.out, HSN.out⟩
                      case measure => simp [intOf]; omega
                    · go_simp
                      have hb6 : Below Y.heap.size Y (Y.alloc (.cells #[.string vl] 9)) := (Below.refl _ _).alloc (Nat.le_refl _) _
                      have F6 := FY.below hb6
                      have t0 : (Y.alloc (.cells #[.string vl] 9)).cell? ⟨b, off + at' * 2 + q * 2 + 1, none⟩ = some (.string vl) := (hb6.cell (p := ⟨b, off + at' * 2 + q * 2 + 1, none⟩) blY).trans sY
                      have c6 : (Y.alloc (.cells #[.string vl] 9)).cell? ⟨N, 3, none⟩ = some (.slice a1 q c1) := (hb6.cell (p := ⟨N, 3, none⟩) NY).trans cY
                      have gl6 : N < (Y.alloc (.cells #[.string vl] 9)).heap.size := Nat.lt_of_lt_of_le NY hb6.size
                      have gb6 : b < (Y.alloc (.cells #[.string vl] 9)).heap.size := Nat.lt_of_lt_of_le blY hb6.size
                      have rw6 := owns_below rwY hb6
                      refine hK.out _ _ (t0) (fun hHeld => ?_)
                      clear hK K
                      try simp only [Act.put, List.setIfInBounds_toArray, List.set_cons_zero, List.set_cons_succ]
                      refine wpAnyH_ready (rs := [1]) (by kernel_rfl) (by simp) ?_
                      refine AllReadyH.cons (o := { dst := some 90, op := Op.load 58 (Operand.tmp 89), type := 58, pos := "l3_tree.go:457", after := #[{ on := 0, ground := Ground.data }], guard := none }) rfl (fun K hK => ?_) AllReadyH.nil
                      go_simp
                      refine hK.out _ _ (t0) (fun hHeld => ?_)
                      clear hK K
                      try simp only [Act.put, List.setIfInBounds_toArray, List.set_cons_zero, List.set_cons_succ]
                      refine wpAnyH_ready (rs := [8]) (by kernel_rfl) (by simp) ?_
                      refine AllReadyH.cons (o := { dst := some 97, op := Op.call { callee := Callee.builtin Builtin.append, args := #[Operand.tmp 90, Operand.tmp 96], argTypes := #[58, 58] }, type := 58, pos := "l3_tree.go:457", after := #[{ on := 1, ground := Ground.data }, { on := 7, ground := Ground.data }], guard := none }) rfl (fun K hK => ?_) AllReadyH.nil
                      refine step_append_Y rfl _ _ 58 rfl (N + 1) 9 i0 _ 1 16 Try.underlying58 hi0 hz0 hz1 hz2 rfl (by decide) (.slice a1 q c1) q (rowsOf strCells ((leafB ch).vals.take q)) (by simp [Act.eval]) rw6 ⟨Y.heap.size, 0, none⟩ 1 1 [.string vl] (by simp [Act.eval]) rfl (cell_one_new _ _ _) (by simp [Value.oneCell']) (by unfold maxLen; omega) (by omega) (by omega) ?_
                      intro u7 w7 hown7 hgr7 hat7
                      obtain ⟨g7, e7, rfl⟩ := rowSuccT hown7
                      have HFN : Hid (SFl wo2 (w7.setCell ⟨N, 3, none⟩ (.slice (some ⟨g7, 0, none⟩) (q + 1) e7)) N (fun r => if r = 1 then .slice (some ⟨g7, 0, none⟩) (q + 1) e7 else u1 r) (fun r => if r = 1 then rowsOf strCells ((leafB ch).vals.take q) ++ [.string vl] else l1 r)) := F6.app (q := 1) (by omega) (by rw [HLEN1.out]; exact hown7) (by rw [HU1.out]; exact hgr7) (by rw [HU1.out]; exact hat7)
                      have F7 : Fr (fun b => (Value.slice a1 q c1).ownBlock = some b) (Y.alloc (.cells #[.string vl] 9)) w7 := Fr.of_grown hgr7 (fun b e => e)
                      have hne : ∀ b, (Value.slice a1 q c1).ownBlock = some b → N + 1 ≤ b := fun b e => (rw6.lt b e).1
                      have cl7 : w7.cell? ⟨N, 3, none⟩ = some (.slice a1 q c1) := (World.cell?_of_block (w := Y.alloc (.cells #[.string vl] 9)) (a := ⟨N, 3, none⟩) (F7.block N gl6 (fun e => by have := hne N e; omega))).trans c6
                      have fz7 : w7.frozen? ⟨N, 3, none⟩ = false := box_fz (boxT_fr F6.box F7 (fun e => by have := hne N e; omega)) 3
                      have x0 : w7.cell? ⟨b, off + at' * 2 + q * 2 + 1, none⟩ = some (.string vl) := (World.cell?_of_block (w := Y.alloc (.cells #[.string vl] 9)) (a := ⟨b, off + at' * 2 + q * 2 + 1, none⟩) (F7.block b gb6 (fun e => by have := hne b e; omega))).trans t0
                      have gl7 : N < w7.heap.size := Nat.lt_of_lt_of_le gl6 F7.size
                      have F8 := fr_setT w7 N 3 (.slice (some ⟨g7, 0, none⟩) (q + 1) e7)
                      have y0 : (w7.setCell ⟨N, 3, none⟩ (.slice (some ⟨g7, 0, none⟩) (q + 1) e7)).cell? ⟨b, off + at' * 2 + q * 2 + 1, none⟩ = some (.string vl) := (World.cell?_of_block (w := w7) (a := ⟨b, off + at' * 2 + q * 2 + 1, none⟩) (F8.block b (Nat.lt_of_lt_of_le gb6 F7.size) (fun e => by omega))).trans x0
                      clear F8 hown7 hgr7 hat7 hne F7 F6
                      refine hK.out _ _ (x0) (fun hHeld => ?_)
                      clear hK K
                      try simp only [Act.put, List.setIfInBounds_toArray, List.set_cons_zero, List.set_cons_succ]
                      refine wpAnyH_take (i := 9) (oi := { dst := some 98, op := Op.fieldAddr 61 (Operand.tmp 7) 3, type := 0, pos := "l3_tree.go:457", after := #[{ on := 0, ground := Ground.phase }, { on := 1, ground := Ground.phase }, { on := 2, ground := Ground.phase }, { on := 3, ground := Ground.phase }, { on := 4, ground := Ground.phase }, { on := 5, ground := Ground.phase }, { on := 6, ground := Ground.phase }, { on := 7, ground := Ground.phase }, { on := 8, ground := Ground.phase }], guard := none }) (v := .pointer (some ⟨N, 3, none⟩)) rfl (by kernel_rfl) (by kernel_rfl) (by kernel_rfl) (fun _ _ _ h => h) (Or.inl ⟨by rfl, ?_⟩) (by assumption) ?_
                      · intro wq hSw; (try dsimp only at hSw); go_simp
                      try simp only [Act.put, List.setIfInBounds_toArray, List.set_cons_zero, List.set_cons_succ]
                      refine wpAnyH_ready (rs := [10]) (by kernel_rfl) (by simp) ?_
                      refine AllReadyH.cons (o := { dst := none, op := Op.store 58 (Operand.tmp 98) (Operand.tmp 97), type := 0, pos := "l3_tree.go:457", after := #[{ on := 9, ground := Ground.data }, { on := 8, ground := Ground.data }, { on := 8, ground := Ground.chain }, { on := 0, ground := Ground.phase }, { on := 1, ground := Ground.phase }, { on := 2, ground := Ground.phase }, { on := 3, ground := Ground.phase }, { on := 4, ground := Ground.phase }, { on := 5, ground := Ground.phase }, { on := 6, ground := Ground.phase }, { on := 7, ground := Ground.phase }, { on := 8, ground := Ground.phase }], guard := none }) rfl (fun K hK => ?_) AllReadyH.nil
                      go_simp
                      refine hK.out _ _ (y0) (fun hHeld => ?_)
                      clear hK K
                      try simp only [Act.put, List.setIfInBounds_toArray, List.set_cons_zero, List.set_cons_succ]
                      refine wpAnyH_done (by kernel_rfl) ?_ _
                      refine NoPanic.normal ?_
                      clear hHeld cl7 fz7 x0 y0 gl7 t0 c6 gl6 gb6 rw6 hb6
                      generalize w7.setCell ⟨N, 3, none⟩ (.slice (some ⟨g7, 0, none⟩) (q + 1) e7) = W8 at HFN ⊢
                      obtain ⟨v1, hv1⟩ : ∃ v, v = Value.slice (some ⟨g7, 0, none⟩) (q + 1) e7 := ⟨_, rfl⟩
                      rw [← hv1] at HFN
                      clear hv1 FY sY cY NY blY rwY HY
                      have HF2 := HFN.out
                      have hr2 : W8.ownsRow (N + 1) 2 1 (.slice a2 q c2) q (rowsOf intCells ((leafB ch).over.take q)) := by
                        have h9 := HF2.ll.row 2 (by omega)
                        rw [HUL.out.1, HUL.out.2] at h9
                        replace h9 : W8.ownsRow (N + 1) (ety 2) 1 (u0 2) (l0 2).length (l0 2) := h9
                        rw [HU2.out, HROW2.out, HLEN2.out] at h9
                        exact h9
                      have k2 : W8.cell? ⟨N, 4, none⟩ = some (.slice a2 q c2) := by
                        have e9 := (box_sixT HF2.box).2.2.2.2.1
                        rw [HUL.out.1] at e9
                        replace e9 : W8.cell? ⟨N, 4, none⟩ = some (u0 2) := e9
                        rw [HU2.out] at e9
                        exact e9
                      have hN8 := HF2.lt
                      have hba : Below W8.heap.size W8 (W8.alloc (.cells #[.int .i64 0] 2)) := (Below.refl _ _).alloc (Nat.le_refl _) _
                      have F9 := HF2.below hba
                      have hr9 := owns_below hr2 hba
                      have hcell9 := cell_one_new W8 (.int .i64 0) 2
                      have hs9 : N + 1 ≤ (W8.alloc (.cells #[.int .i64 0] 2)).heap.size := by have := hba.size; omega
                      have HF9 : Hid (SFl wo2 (W8.alloc (.cells #[.int .i64 0] 2)) N (fun r => if r = 1 then v1 else u1 r) (fun r => if r = 1 then rowsOf strCells ((leafB ch).vals.take q) ++ [Value.string vl] else l1 r)) := F9
                      have c9 : (W8.alloc (.cells #[.int .i64 0] 2)).cell? ⟨N, 4, none⟩ = some (.slice a2 q c2) := (hba.cell (p := ⟨N, 4, none⟩) hN8).trans k2
                      have hN9 : N < (W8.alloc (.cells #[.int .i64 0] 2)).heap.size := by omega
                      have hne9 : ∀ b, (Value.slice a2 q c2).ownBlock = some b → N + 1 ≤ b := fun b e => (hr2.lt b e).1
                      clear HF2 F9 hba HFN
                      go_upto_region 18 with (at_builtin; refine wpList_append_ownD _ rfl _ _ 59 rfl (N + 1) 2 i1 _ 1 8 Try.underlying59 hi1 hy0 hy1 hy2 rfl (by decide) _ _ _ rfl hr9 ⟨W8.heap.size, 0, none⟩ 1 1 [.int .i64 0] rfl rfl hcell9 (by simp [Value.oneCell']) (by unfold maxLen; omega) (by omega) hs9 ?_; intro v' w5 hown' hgr' hat'; obtain ⟨g5, e5, rfl⟩ := rowSuccT hown'; have F5 : Fr (fun b => (Value.slice a2 q c2).ownBlock = some b) (W8.alloc (.cells #[.int .i64 0] 2)) w5 := Fr.of_grown hgr' (fun b e => e); have cl5 : w5.cell? ⟨N, 4, none⟩ = some (.slice a2 q c2) := (World.cell?_of_block (w := (W8.alloc (.cells #[.int .i64 0] 2))) (a := ⟨N, 4, none⟩) (F5.block N hN9 (fun e => by have := hne9 N e; omega))).trans c9; have fz5 : w5.frozen? ⟨N, 4, none⟩ = false := box_fz (boxT_fr HF9.out.box F5 (fun e => by have := hne9 N e; omega)) 4; have gl5 : N < w5.heap.size := Nat.lt_of_lt_of_le hN9 F5.size)
                      have hU2' : u1 2 = .slice a2 q c2 := by
                        rw [HUL.out.1]; exact HU2.out
                      have HSN : Hid (SFl wo2 (w5.setCell ⟨N, 4, none⟩ (.slice (some ⟨g5, 0, none⟩) (q + 1) e5)) N (fun r => if r = 2 then .slice (some ⟨g5, 0, none⟩) (q + 1) e5 else (fun r => if r = 1 then v1 else u1 r) r) (lxs (leafB ch) (q + 1))) := by
                        have h9 := HF9.out.app (q := 2) (zs := rowsOf intCells ((leafB ch).over.take q) ++ [.int .i64 0]) (by omega) (by rw [List.length_append, HLEN2.out]; exact hown') (by show (W8.alloc (.cells #[.int .i64 0] 2)).grownBy _ (u1 2).ownBlock; rw [hU2']; exact hgr') (by show _ = (u1 2).ownBlock ∨ _; rw [hU2']; exact hat')
                        have e9 : (fun r => if r = 2 then rowsOf intCells ((leafB ch).over.take q) ++ [.int .i64 0] else (fun r => if r = 1 then rowsOf strCells ((leafB ch).vals.take q) ++ [Value.string vl] else l1 r) r) = lxs (leafB ch) (q + 1) := by
                          rw [HNX.out, HUL.out.2]
                        rw [e9] at h9
                        exact h9
                      have HU3N : Hid ((fun r => if r = 2 then Value.slice (some ⟨g5, 0, none⟩) (q + 1) e5 else (fun r => if r = 1 then v1 else u1 r) r) 3 = .slice none 0 0) := by
                        show u1 3 = _
                        rw [HUL.out.1]; exact HU3.out
                      obtain ⟨u9, hu9⟩ : ∃ u9, u9 = (fun r => if r = 2 then Value.slice (some ⟨g5, 0, none⟩) (q + 1) e5 else (fun r => if r = 1 then v1 else u1 r) r) := ⟨_, rfl⟩
                      rw [← hu9] at HSN HU3N
                      clear hown' hgr' hat' cl5 fz5 F5 hU2' hu9 hr9 hcell9 c9 hr2 k2 HF9
                      generalize w5.setCell ⟨N, 4, none⟩ (.slice (some ⟨g5, 0, none⟩) (q + 1) e5) = W9 at HSN ⊢
                      go_wp2_with fail
                      go_roundw
                      case rel => exact ⟨q + 1, u9, by omega, by go_num, HU3N.out, HSN.out⟩
                      case measure => simp [intOf]; omega
                  · go_simp
                    have hb6 : Below V.heap.size V (V.alloc (.cells #[.string ky] 9)) := (Below.refl _ _).alloc (Nat.le_refl _) _
                    have F6 := FV.below hb6
                    have t0 : (V.alloc (.cells #[.string ky] 9)).cell? ⟨b, off + at' * 2 + q * 2, none⟩ = some (.string ky) := (hb6.cell (p := ⟨b, off + at' * 2 + q * 2, none⟩) blV).trans sV
                    have c6 : (V.alloc (.cells #[.string ky] 9)).cell? ⟨N, 2, none⟩ = some (.slice a0 q c0) := (hb6.cell (p := ⟨N, 2, none⟩) NV).trans cV
                    have gl6 : N < (V.alloc (.cells #[.string ky] 9)).heap.size := Nat.lt_of_lt_of_le NV hb6.size
                    have gb6 : b < (V.alloc (.cells #[.string ky] 9)).heap.size := Nat.lt_of_lt_of_le blV hb6.size
                    have rw6 := owns_below rwV hb6
                    refine hK.out _ _ (t0) (fun hHeld => ?_)
                    clear hK K
                    try simp only [Act.put, List.setIfInBounds_toArray, List.set_cons_zero, List.set_cons_succ]
                    refine wpAnyH_ready (rs := [1]) (by kernel_rfl) (by simp) ?_
                    refine AllReadyH.cons (o := { dst := some 80, op := Op.load 58 (Operand.tmp 79), type := 58, pos := "l3_tree.go:456", after := #[{ on := 0, ground := Ground.data }], guard := none }) rfl (fun K hK => ?_) AllReadyH.nil
                    go_simp
                    refine hK.out _ _ (t0) (fun hHeld => ?_)
                    clear hK K
                    try simp only [Act.put, List.setIfInBounds_toArray, List.set_cons_zero, List.set_cons_succ]
                    refine wpAnyH_ready (rs := [8]) (by kernel_rfl) (by simp) ?_
                    refine AllReadyH.cons (o := { dst := some 87, op := Op.call { callee := Callee.builtin Builtin.append, args := #[Operand.tmp 80, Operand.tmp 86], argTypes := #[58, 58] }, type := 58, pos := "l3_tree.go:456", after := #[{ on := 1, ground := Ground.data }, { on := 7, ground := Ground.data }], guard := none }) rfl (fun K hK => ?_) AllReadyH.nil
                    refine step_append_Y rfl _ _ 58 rfl (N + 1) 9 i0 _ 1 16 Try.underlying58 hi0 hz0 hz1 hz2 rfl (by decide) (.slice a0 q c0) q (rowsOf strCells ((leafB ch).keys.take q)) (by simp [Act.eval]) rw6 ⟨V.heap.size, 0, none⟩ 1 1 [.string ky] (by simp [Act.eval]) rfl (cell_one_new _ _ _) (by simp [Value.oneCell']) (by unfold maxLen; omega) (by omega) (by omega) ?_
                    intro u7 w7 hown7 hgr7 hat7
                    obtain ⟨g7, e7, rfl⟩ := rowSuccT hown7
                    have HFN : Hid (SFl wo2 (w7.setCell ⟨N, 2, none⟩ (.slice (some ⟨g7, 0, none⟩) (q + 1) e7)) N (fun r => if r = 0 then .slice (some ⟨g7, 0, none⟩) (q + 1) e7 else u0 r) (fun r => if r = 0 then rowsOf strCells ((leafB ch).keys.take q) ++ [.string ky] else l0 r)) := F6.app (q := 0) (by omega) (by rw [HLEN0.out]; exact hown7) (by rw [HU0.out]; exact hgr7) (by rw [HU0.out]; exact hat7)
                    have F7 : Fr (fun b => (Value.slice a0 q c0).ownBlock = some b) (V.alloc (.cells #[.string ky] 9)) w7 := Fr.of_grown hgr7 (fun b e => e)
                    have hne : ∀ b, (Value.slice a0 q c0).ownBlock = some b → N + 1 ≤ b := fun b e => (rw6.lt b e).1
                    have cl7 : w7.cell? ⟨N, 2, none⟩ = some (.slice a0 q c0) := (World.cell?_of_block (w := V.alloc (.cells #[.string ky] 9)) (a := ⟨N, 2, none⟩) (F7.block N gl6 (fun e => by have := hne N e; omega))).trans c6
                    have fz7 : w7.frozen? ⟨N, 2, none⟩ = false := box_fz (boxT_fr F6.box F7 (fun e => by have := hne N e; omega)) 2
                    have x0 : w7.cell? ⟨b, off + at' * 2 + q * 2, none⟩ = some (.string ky) := (World.cell?_of_block (w := V.alloc (.cells #[.string ky] 9)) (a := ⟨b, off + at' * 2 + q * 2, none⟩) (F7.block b gb6 (fun e => by have := hne b e; omega))).trans t0
                    have gl7 : N < w7.heap.size := Nat.lt_of_lt_of_le gl6 F7.size
                    have F8 := fr_setT w7 N 2 (.slice (some ⟨g7, 0, none⟩) (q + 1) e7)
                    have y0 : (w7.setCell ⟨N, 2, none⟩ (.slice (some ⟨g7, 0, none⟩) (q + 1) e7)).cell? ⟨b, off + at' * 2 + q * 2, none⟩ = some (.string ky) := (World.cell?_of_block (w := w7) (a := ⟨b, off + at' * 2 + q * 2, none⟩) (F8.block b (Nat.lt_of_lt_of_le gb6 F7.size) (fun e => by omega))).trans x0
                    clear F8 hown7 hgr7 hat7 hne F7 F6
                    refine hK.out _ _ (x0) (fun hHeld => ?_)
                    clear hK K
                    try simp only [Act.put, List.setIfInBounds_toArray, List.set_cons_zero, List.set_cons_succ]
                    refine wpAnyH_take (i := 9) (oi := { dst := some 88, op := Op.fieldAddr 61 (Operand.tmp 7) 2, type := 0, pos := "l3_tree.go:456", after := #[{ on := 0, ground := Ground.phase }, { on := 1, ground := Ground.phase }, { on := 2, ground := Ground.phase }, { on := 3, ground := Ground.phase }, { on := 4, ground := Ground.phase }, { on := 5, ground := Ground.phase }, { on := 6, ground := Ground.phase }, { on := 7, ground := Ground.phase }, { on := 8, ground := Ground.phase }], guard := none }) (v := .pointer (some ⟨N, 2, none⟩)) rfl (by kernel_rfl) (by kernel_rfl) (by kernel_rfl) (fun _ _ _ h => h) (Or.inl ⟨by rfl, ?_⟩) (by assumption) ?_
                    · intro wq hSw; (try dsimp only at hSw); go_simp
                    try simp only [Act.put, List.setIfInBounds_toArray, List.set_cons_zero, List.set_cons_succ]
                    refine wpAnyH_ready (rs := [10]) (by kernel_rfl) (by simp) ?_
                    refine AllReadyH.cons (o := { dst := none, op := Op.store 58 (Operand.tmp 88) (Operand.tmp 87), type := 0, pos := "l3_tree.go:456", after := #[{ on := 9, ground := Ground.data }, { on := 8, ground := Ground.data }, { on := 8, ground := Ground.chain }, { on := 0, ground := Ground.phase }, { on := 1, ground := Ground.phase }, { on := 2, ground := Ground.phase }, { on := 3, ground := Ground.phase }, { on := 4, ground := Ground.phase }, { on := 5, ground := Ground.phase }, { on := 6, ground := Ground.phase }, { on := 7, ground := Ground.phase }, { on := 8, ground := Ground.phase }], guard := none }) rfl (fun K hK => ?_) AllReadyH.nil
                    go_simp
                    refine hK.out _ _ (y0) (fun hHeld => ?_)
                    clear hK K
                    try simp only [Act.put, List.setIfInBounds_toArray, List.set_cons_zero, List.set_cons_succ]
                    refine wpAnyH_done (by kernel_rfl) ?_ _
                    refine NoPanic.normal ?_
                    clear hHeld cl7 fz7 x0 y0 gl7 t0 c6 gl6 gb6 rw6 hb6
                    generalize w7.setCell ⟨N, 2, none⟩ (.slice (some ⟨g7, 0, none⟩) (q + 1) e7) = W8 at HFN ⊢
                    obtain ⟨v0, hv0⟩ : ∃ v, v = Value.slice (some ⟨g7, 0, none⟩) (q + 1) e7 := ⟨_, rfl⟩
                    rw [← hv0] at HFN
                    clear hv0 FV sV cV NV blV rwV HV
                    have HU1 : Hid ((fun r => if r = 0 then v0 else u0 r) 1 = .slice a1 q c1) := HU1'.out
                    have HROW1 : Hid ((fun r => if r = 0 then rowsOf strCells ((leafB ch).keys.take q) ++ [.string ky] else l0 r) 1 = rowsOf strCells ((leafB ch).vals.take q)) := HROW1'.out
                    have HLEN1 : Hid ((rowsOf strCells ((leafB ch).vals.take q) ++ [Value.string vl]).length = q + 1) := HLEN1'.out
                    obtain ⟨u1, hu1⟩ : ∃ u, u = fun r => if r = 0 then v0 else u0 r := ⟨_, rfl⟩
                    obtain ⟨l1, hl1⟩ : ∃ l, l = fun r => if r = 0 then rowsOf strCells ((leafB ch).keys.take q) ++ [.string ky] else l0 r := ⟨_, rfl⟩
                    rw [← hu1] at HFN HU1
                    rw [← hl1] at HFN HROW1
                    have HUL : Hid ((u1 = fun r => if r = 0 then v0 else u0 r) ∧ (l1 = fun r => if r = 0 then rowsOf strCells ((leafB ch).keys.take q) ++ [.string ky] else l0 r)) := ⟨hu1, hl1⟩
                    clear hu1 hl1
                    go_wp2_with fail
                    obtain ⟨Y, hY⟩ : ∃ V, V = W8.drew := ⟨_, rfl⟩
                    have HY : Hid (Y = W8.drew) := hY
                    have hbY : Below W8.heap.size W8 Y := by rw [hY]; exact (Below.refl _ _).drew
                    have FY := HFN.out.below hbY
                    obtain ⟨NY, blY, sY, rwY, cY⟩ : N < Y.heap.size ∧ b < Y.heap.size ∧ Y.cell? ⟨b, off + at' * 2 + q * 2 + 1, none⟩ = some (.string vl) ∧ Y.ownsRow (N + 1) 9 1 (.slice a1 q c1) q (rowsOf strCells ((leafB ch).vals.take q)) ∧ Y.cell? ⟨N, 3, none⟩ = some (.slice a1 q c1) := by
                      have hlt := FY.lt
                      have hr := FY.ll.row 1 (by omega)
                      rw [HU1.out] at hr
                      refine ⟨hlt, by have := HEN.out; omega, (HPC2.out Y FY.fr).2, by have e9 := HROW1.out; rw [e9] at hr; rw [show (rowsOf strCells ((leafB ch).vals.take q)).length = q by rw [rows_len1 sc1, List.length_take]; have := HLK.out; omega] at hr; exact hr, ?_⟩
                      have e9 := box_sixT FY.box
                      rw [HU1.out] at e9
                      exact e9.2.2.2.1
                    clear hY hbY
                    clear HFN
                    refine wp_region_noPanic ?_
                    refine wp_region_held_drew (S := (fun W : World => W.cell? ⟨b, off + at' * 2 + q * 2 + 1, none⟩ = some (.string vl))) (by kernel_rfl) (by rw [← HY.out]; exact sY) (fun hHeld => ?_)
                    rw [← HY.out] at hHeld ⊢
                    refine wpAnyH_take (i := 0) (oi := { dst := some 89, op := Op.fieldAddr 61 (Operand.tmp 7) 3, type := 0, pos := "l3_tree.go:457", after := #[], guard := none }) (v := .pointer (some ⟨N, 3, none⟩)) rfl (by kernel_rfl) (by kernel_rfl) (by kernel_rfl) (fun _ _ _ h => h) (Or.inl ⟨by rfl, ?_⟩) (by assumption) ?_
                    · intro wq hSw; (try dsimp only at hSw); go_simp
                    try simp only [Act.put, List.setIfInBounds_toArray, List.set_cons_zero, List.set_cons_succ]
                    refine wpAnyH_take (i := 2) (oi := { dst := some 91, op := Op.move (Operand.tmp 0), type := 28, pos := "l3_tree.go:457", after := #[], guard := none }) (v := .slice (some ⟨b, off + at' * 2, none⟩) (j - at') (c - at')) rfl (by kernel_rfl) (by kernel_rfl) (by kernel_rfl) (fun _ _ _ h => h) (Or.inl ⟨by rfl, ?_⟩) (by assumption) ?_
                    · intro wq hSw; (try dsimp only at hSw); go_simp
                    try simp only [Act.put, List.setIfInBounds_toArray, List.set_cons_zero, List.set_cons_succ]
                    refine wpAnyH_take (i := 3) (oi := { dst := some 92, op := Op.move (Operand.tmp 8), type := 3, pos := "l3_tree.go:457", after := #[], guard := none }) (v := .int .i64 q) rfl (by kernel_rfl) (by kernel_rfl) (by kernel_rfl) (fun _ _ _ h => h) (Or.inl ⟨by rfl, ?_⟩) (by assumption) ?_
                    · intro wq hSw; (try dsimp only at hSw); go_simp
                    try simp only [Act.put, List.setIfInBounds_toArray, List.set_cons_zero, List.set_cons_succ]
                    refine wpAnyH_take (i := 4) (oi := { dst := some 93, op := Op.indexAddr 28 (Operand.tmp 91) (Operand.tmp 92), type := 0, pos := "l3_tree.go:457", after := #[{ on := 2, ground := Ground.data }, { on := 3, ground := Ground.data }], guard := none }) (v := .pointer (some ⟨b, off + at' * 2 + q * 2, none⟩)) rfl (by kernel_rfl) (by kernel_rfl) (by kernel_rfl) (fun _ _ _ h => h) (Or.inl ⟨by rfl, ?_⟩) (by assumption) ?_
                    · intro wq hSw; (try dsimp only at hSw); go_simp; (try (intro hx; exfalso; omega))
                    try simp only [Act.put, List.setIfInBounds_toArray, List.set_cons_zero, List.set_cons_succ]
                    refine wpAnyH_take (i := 5) (oi := { dst := some 94, op := Op.fieldAddr 53 (Operand.tmp 93) 1, type := 0, pos := "l3_tree.go:457", after := #[{ on := 4, ground := Ground.data }], guard := none }) (v := .pointer (some ⟨b, off + at' * 2 + q * 2 + 1, none⟩)) rfl (by kernel_rfl) (by kernel_rfl) (by kernel_rfl) (fun _ _ _ h => h) (Or.inl ⟨by rfl, ?_⟩) (by assumption) ?_
                    · intro wq hSw; (try dsimp only at hSw); go_simp
                    try simp only [Act.put, List.setIfInBounds_toArray, List.set_cons_zero, List.set_cons_succ]
                    refine wpAnyH_take (i := 6) (oi := { dst := some 95, op := Op.load 9 (Operand.tmp 94), type := 9, pos := "l3_tree.go:457", after := #[{ on := 5, ground := Ground.data }], guard := none }) (v := .string vl) rfl (by kernel_rfl) (by kernel_rfl) (by kernel_rfl) (fun _ _ _ h => h) (Or.inl ⟨by rfl, ?_⟩) (by assumption) ?_
                    · intro wq hSw; (try dsimp only at hSw); go_simp
                    try simp only [Act.put, List.setIfInBounds_toArray, List.set_cons_zero, List.set_cons_succ]
                    refine wpAnyH_ready (rs := [1, 7]) (by kernel_rfl) (by simp) ?_
                    refine AllReadyH.cons (o := { dst := some 90, op := Op.load 58 (Operand.tmp 89), type := 58, pos := "l3_tree.go:457", after := #[{ on := 0, ground := Ground.data }], guard := none }) rfl (fun K hK => ?_) ?_
                    rotate_left 1
                    refine AllReadyH.cons (o := { dst := some 96, op := Op.buildSlice 58 1 #[(0, Operand.tmp 95)], type := 58, pos := "l3_tree.go:457", after := #[{ on := 6, ground := Ground.data }], guard := none }) rfl (fun K hK => ?_) ?_
                    rotate_left 1
                    exact AllReadyH.nil
                    · go_simp
                      refine hK.out _ _ (sY) (fun hHeld => ?_)
                      clear hK K
                      try simp only [Act.put, List.setIfInBounds_toArray, List.set_cons_zero, List.set_cons_succ]
                      refine wpAnyH_ready (rs := [7]) (by kernel_rfl) (by simp) ?_
                      refine AllReadyH.cons (o := { dst := some 96, op := Op.buildSlice 58 1 #[(0, Operand.tmp 95)], type := 58, pos := "l3_tree.go:457", after := #[{ on := 6, ground := Ground.data }], guard := none }) rfl (fun K hK => ?_) AllReadyH.nil
                      go_simp
                      have hb6 : Below Y.heap.size Y (Y.alloc (.cells #[.string vl] 9)) := (Below.refl _ _).alloc (Nat.le_refl _) _
                      have F6 := FY.below hb6
                      have t0 : (Y.alloc (.cells #[.string vl] 9)).cell? ⟨b, off + at' * 2 + q * 2 + 1, none⟩ = some (.string vl) := (hb6.cell (p := ⟨b, off + at' * 2 + q * 2 + 1, none⟩) blY).trans sY
                      have c6 : (Y.alloc (.cells #[.string vl] 9)).cell? ⟨N, 3, none⟩ = some (.slice a1 q c1) := (hb6.cell (p := ⟨N, 3, none⟩) NY).trans cY
                      have gl6 : N < (Y.alloc (.cells #[.string vl] 9)).heap.size := Nat.lt_of_lt_of_le NY hb6.size
                      have gb6 : b < (Y.alloc (.cells #[.string vl] 9)).heap.size := Nat.lt_of_lt_of_le blY hb6.size
                      have rw6 := owns_below rwY hb6
                      refine hK.out _ _ (t0) (fun hHeld => ?_)
                      clear hK K
                      try simp only [Act.put, List.setIfInBounds_toArray, List.set_cons_zero, List.set_cons_succ]
                      refine wpAnyH_ready (rs := [8]) (by kernel_rfl) (by simp) ?_
                      refine AllReadyH.cons (o := { dst := some 97, op := Op.call { callee := Callee.builtin Builtin.append, args := #[Operand.tmp 90, Operand.tmp 96], argTypes := #[58, 58] }, type := 58, pos := "l3_tree.go:457", after := #[{ on := 1, ground := Ground.data }, { on := 7, ground := Ground.data }], guard := none }) rfl (fun K hK => ?_) AllReadyH.nil
                      refine step_append_Y rfl _ _ 58 rfl (N + 1) 9 i0 _ 1 16 Try.underlying58 hi0 hz0 hz1 hz2 rfl (by decide) (.slice a1 q c1) q (rowsOf strCells ((leafB ch).vals.take q)) (by simp [Act.eval]) rw6 ⟨Y.heap.size, 0, none⟩ 1 1 [.string vl] (by simp [Act.eval]) rfl (cell_one_new _ _ _) (by simp [Value.oneCell']) (by unfold maxLen; omega) (by omega) (by omega) ?_
                      intro u7 w7 hown7 hgr7 hat7
                      obtain ⟨g7, e7, rfl⟩ := rowSuccT hown7
                      have HFN : Hid (SFl wo2 (w7.setCell ⟨N, 3, none⟩ (.slice (some ⟨g7, 0, none⟩) (q + 1) e7)) N (fun r => if r = 1 then .slice (some ⟨g7, 0, none⟩) (q + 1) e7 else u1 r) (fun r => if r = 1 then rowsOf strCells ((leafB ch).vals.take q) ++ [.string vl] else l1 r)) := F6.app (q := 1) (by omega) (by rw [HLEN1.out]; exact hown7) (by rw [HU1.out]; exact hgr7) (by rw [HU1.out]; exact hat7)
                      have F7 : Fr (fun b => (Value.slice a1 q c1).ownBlock = some b) (Y.alloc (.cells #[.string vl] 9)) w7 := Fr.of_grown hgr7 (fun b e => e)
                      have hne : ∀ b, (Value.slice a1 q c1).ownBlock = some b → N + 1 ≤ b := fun b e => (rw6.lt b e).1
                      have cl7 : w7.cell? ⟨N, 3, none⟩ = some (.slice a1 q c1) := (World.cell?_of_block (w := Y.alloc (.cells #[.string vl] 9)) (a := ⟨N, 3, none⟩) (F7.block N gl6 (fun e => by have := hne N e; omega))).trans c6
                      have fz7 : w7.frozen? ⟨N, 3, none⟩ = false := box_fz (boxT_fr F6.box F7 (fun e => by have := hne N e; omega)) 3
                      have x0 : w7.cell? ⟨b, off + at' * 2 + q * 2 + 1, none⟩ = some (.string vl) := (World.cell?_of_block (w := Y.alloc (.cells #[.string vl] 9)) (a := ⟨b, off + at' * 2 + q * 2 + 1, none⟩) (F7.block b gb6 (fun e => by have := hne b e; omega))).trans t0
                      have gl7 : N < w7.heap.size := Nat.lt_of_lt_of_le gl6 F7.size
                      have F8 := fr_setT w7 N 3 (.slice (some ⟨g7, 0, none⟩) (q + 1) e7)
                      have y0 : (w7.setCell ⟨N, 3, none⟩ (.slice (some ⟨g7, 0, none⟩) (q + 1) e7)).cell? ⟨b, off + at' * 2 + q * 2 + 1, none⟩ = some (.string vl) := (World.cell?_of_block (w := w7) (a := ⟨b, off + at' * 2 + q * 2 + 1, none⟩) (F8.block b (Nat.lt_of_lt_of_le gb6 F7.size) (fun e => by omega))).trans x0
                      clear F8 hown7 hgr7 hat7 hne F7 F6
                      refine hK.out _ _ (x0) (fun hHeld => ?_)
                      clear hK K
                      try simp only [Act.put, List.setIfInBounds_toArray, List.set_cons_zero, List.set_cons_succ]
                      refine wpAnyH_take (i := 9) (oi := { dst := some 98, op := Op.fieldAddr 61 (Operand.tmp 7) 3, type := 0, pos := "l3_tree.go:457", after := #[{ on := 0, ground := Ground.phase }, { on := 1, ground := Ground.phase }, { on := 2, ground := Ground.phase }, { on := 3, ground := Ground.phase }, { on := 4, ground := Ground.phase }, { on := 5, ground := Ground.phase }, { on := 6, ground := Ground.phase }, { on := 7, ground := Ground.phase }, { on := 8, ground := Ground.phase }], guard := none }) (v := .pointer (some ⟨N, 3, none⟩)) rfl (by kernel_rfl) (by kernel_rfl) (by kernel_rfl) (fun _ _ _ h => h) (Or.inl ⟨by rfl, ?_⟩) (by assumption) ?_
                      · intro wq hSw; (try dsimp only at hSw); go_simp
                      try simp only [Act.put, List.setIfInBounds_toArray, List.set_cons_zero, List.set_cons_succ]
                      refine wpAnyH_ready (rs := [10]) (by kernel_rfl) (by simp) ?_
                      refine AllReadyH.cons (o := { dst := none, op := Op.store 58 (Operand.tmp 98) (Operand.tmp 97), type := 0, pos := "l3_tree.go:457", after := #[{ on := 9, ground := Ground.data }, { on := 8, ground := Ground.data }, { on := 8, ground := Ground.chain }, { on := 0, ground := Ground.phase }, { on := 1, ground := Ground.phase }, { on := 2, ground := Ground.phase }, { on := 3, ground := Ground.phase }, { on := 4, ground := Ground.phase }, { on := 5, ground := Ground.phase }, { on := 6, ground := Ground.phase }, { on := 7, ground := Ground.phase }, { on := 8, ground := Ground.phase }], guard := none }) rfl (fun K hK => ?_) AllReadyH.nil
                      go_simp
                      refine hK.out _ _ (y0) (fun hHeld => ?_)
                      clear hK K
                      try simp only [Act.put, List.setIfInBounds_toArray, List.set_cons_zero, List.set_cons_succ]
                      refine wpAnyH_done (by kernel_rfl) ?_ _
                      refine NoPanic.normal ?_
                      clear hHeld cl7 fz7 x0 y0 gl7 t0 c6 gl6 gb6 rw6 hb6
                      generalize w7.setCell ⟨N, 3, none⟩ (.slice (some ⟨g7, 0, none⟩) (q + 1) e7) = W8 at HFN ⊢
                      obtain ⟨v1, hv1⟩ : ∃ v, v = Value.slice (some ⟨g7, 0, none⟩) (q + 1) e7 := ⟨_, rfl⟩
                      rw [← hv1] at HFN
                      clear hv1 FY sY cY NY blY rwY HY
                      have HF2 := HFN.out
                      have hr2 : W8.ownsRow (N + 1) 2 1 (.slice a2 q c2) q (rowsOf intCells ((leafB ch).over.take q)) := by
                        have h9 := HF2.ll.row 2 (by omega)
                        rw [HUL.out.1, HUL.out.2] at h9
                        replace h9 : W8.ownsRow (N + 1) (ety 2) 1 (u0 2) (l0 2).length (l0 2) := h9
                        rw [HU2.out, HROW2.out, HLEN2.out] at h9
                        exact h9
                      have k2 : W8.cell? ⟨N, 4, none⟩ = some (.slice a2 q c2) := by
                        have e9 := (box_sixT HF2.box).2.2.2.2.1
                        rw [HUL.out.1] at e9
                        replace e9 : W8.cell? ⟨N, 4, none⟩ = some (u0 2) := e9
                        rw [HU2.out] at e9
                        exact e9
                      have hN8 := HF2.lt
                      have hba : Below W8.heap.size W8 (W8.alloc (.cells #[.int .i64 0] 2)) := (Below.refl _ _).alloc (Nat.le_refl _) _
                      have F9 := HF2.below hba
                      have hr9 := owns_below hr2 hba
                      have hcell9 := cell_one_new W8 (.int .i64 0) 2
                      have hs9 : N + 1 ≤ (W8.alloc (.cells #[.int .i64 0] 2)).heap.size := by have := hba.size; omega
                      have HF9 : Hid (SFl wo2 (W8.alloc (.cells #[.int .i64 0] 2)) N (fun r => if r = 1 then v1 else u1 r) (fun r => if r = 1 then rowsOf strCells ((leafB ch).vals.take q) ++ [Value.string vl] else l1 r)) := F9
                      have c9 : (W8.alloc (.cells #[.int .i64 0] 2)).cell? ⟨N, 4, none⟩ = some (.slice a2 q c2) := (hba.cell (p := ⟨N, 4, none⟩) hN8).trans k2
                      have hN9 : N < (W8.alloc (.cells #[.int .i64 0] 2)).heap.size := by omega
                      have hne9 : ∀ b, (Value.slice a2 q c2).ownBlock = some b → N + 1 ≤ b := fun b e => (hr2.lt b e).1
                      clear HF2 F9 hba HFN
                      go_upto_region 18 with (at_builtin; refine wpList_append_ownD _ rfl _ _ 59 rfl (N + 1) 2 i1 _ 1 8 Try.underlying59 hi1 hy0 hy1 hy2 rfl (by decide) _ _ _ rfl hr9 ⟨W8.heap.size, 0, none⟩ 1 1 [.int .i64 0] rfl rfl hcell9 (by simp [Value.oneCell']) (by unfold maxLen; omega) (by omega) hs9 ?_; intro v' w5 hown' hgr' hat'; obtain ⟨g5, e5, rfl⟩ := rowSuccT hown'; have F5 : Fr (fun b => (Value.slice a2 q c2).ownBlock = some b) (W8.alloc (.cells #[.int .i64 0] 2)) w5 := Fr.of_grown hgr' (fun b e => e); have cl5 : w5.cell? ⟨N, 4, none⟩ = some (.slice a2 q c2) := (World.cell?_of_block (w := (W8.alloc (.cells #[.int .i64 0] 2))) (a := ⟨N, 4, none⟩) (F5.block N hN9 (fun e => by have := hne9 N e; omega))).trans c9; have fz5 : w5.frozen? ⟨N, 4, none⟩ = false := box_fz (boxT_fr HF9.out.box F5 (fun e => by have := hne9 N e; omega)) 4; have gl5 : N < w5.heap.size := Nat.lt_of_lt_of_le hN9 F5.size)
                      have hU2' : u1 2 = .slice a2 q c2 := by
                        rw [HUL.out.1]; exact HU2.out
                      have HSN : Hid (SFl wo2 (w5.setCell ⟨N, 4, none⟩ (.slice (some ⟨g5, 0, none⟩) (q + 1) e5)) N (fun r => if r = 2 then .slice (some ⟨g5, 0, none⟩) (q + 1) e5 else (fun r => if r = 1 then v1 else u1 r) r) (lxs (leafB ch) (q + 1))) := by
                        have h9 := HF9.out.app (q := 2) (zs := rowsOf intCells ((leafB ch).over.take q) ++ [.int .i64 0]) (by omega) (by rw [List.length_append, HLEN2.out]; exact hown') (by show (W8.alloc (.cells #[.int .i64 0] 2)).grownBy _ (u1 2).ownBlock; rw [hU2']; exact hgr') (by show _ = (u1 2).ownBlock ∨ _; rw [hU2']; exact hat')
                        have e9 : (fun r => if r = 2 then rowsOf intCells ((leafB ch).over.take q) ++ [.int .i64 0] else (fun r => if r = 1 then rowsOf strCells ((leafB ch).vals.take q) ++ [Value.string vl] else l1 r) r) = lxs (leafB ch) (q + 1) := by
                          rw [HNX.out, HUL.out.2]
                        rw [e9] at h9
                        exact h9
                      have HU3N : Hid ((fun r => if r = 2 then Value.slice (some ⟨g5, 0, none⟩) (q + 1) e5 else (fun r => if r = 1 then v1 else u1 r) r) 3 = .slice none 0 0) := by
                        show u1 3 = _
                        rw [HUL.out.1]; exact HU3.out
                      obtain ⟨u9, hu9⟩ : ∃ u9, u9 = (fun r => if r = 2 then Value.slice (some ⟨g5, 0, none⟩) (q + 1) e5 else (fun r => if r = 1 then v1 else u1 r) r) := ⟨_, rfl⟩
                      rw [← hu9] at HSN HU3N
                      clear hown' hgr' hat' cl5 fz5 F5 hU2' hu9 hr9 hcell9 c9 hr2 k2 HF9
                      generalize w5.setCell ⟨N, 4, none⟩ (.slice (some ⟨g5, 0, none⟩) (q + 1) e5) = W9 at HSN ⊢
                      go_wp2_with fail
                      go_roundw
                      case rel => exact ⟨q + 1, u9, by omega, by go_num, HU3N.out, HSN.out⟩
                      case measure => simp [intOf]; omega
                    · go_simp
                      have hb6 : Below Y.heap.size Y (Y.alloc (.cells #[.string vl] 9)) := (Below.refl _ _).alloc (Nat.le_refl _) _
                      have F6 := FY.below hb6
                      have t0 : (Y.alloc (.cells #[.string vl] 9)).cell? ⟨b, off + at' * 2 + q * 2 + 1, none⟩ = some (.string vl) := (hb6.cell (p := ⟨b, off + at' * 2 + q * 2 + 1, none⟩) blY).trans sY
                      have c6 : (Y.alloc (.cells #[.string vl] 9)).cell? ⟨N, 3, none⟩ = some (.slice a1 q c1) := (hb6.cell (p := ⟨N, 3, none⟩) NY).trans cY
                      have gl6 : N < (Y.alloc (.cells #[.string vl] 9)).heap.size := Nat.lt_of_lt_of_le NY hb6.size
                      have gb6 : b < (Y.alloc (.cells #[.string vl] 9)).heap.size := Nat.lt_of_lt_of_le blY hb6.size
                      have rw6 := owns_below rwY hb6
                      refine hK.out _ _ (t0) (fun hHeld => ?_)
                      clear hK K
                      try simp only [Act.put, List.setIfInBounds_toArray, List.set_cons_zero, List.set_cons_succ]
                      refine wpAnyH_ready (rs := [1]) (by kernel_rfl) (by simp) ?_
                      refine AllReadyH.cons (o := { dst := some 90, op := Op.load 58 (Operand.tmp 89), type := 58, pos := "l3_tree.go:457", after := #[{ on := 0, ground := Ground.data }], guard := none }) rfl (fun K hK => ?_) AllReadyH.nil
                      go_simp
                      refine hK.out _ _ (t0) (fun hHeld => ?_)
                      clear hK K
                      try simp only [Act.put, List.setIfInBounds_toArray, List.set_cons_zero, List.set_cons_succ]
                      refine wpAnyH_ready (rs := [8]) (by kernel_rfl) (by simp) ?_
                      refine AllReadyH.cons (o := { dst := some 97, op := Op.call { callee := Callee.builtin Builtin.append, args := #[Operand.tmp 90, Operand.tmp 96], argTypes := #[58, 58] }, type := 58, pos := "l3_tree.go:457", after := #[{ on := 1, ground := Ground.data }, { on := 7, ground := Ground.data }], guard := none }) rfl (fun K hK => ?_) AllReadyH.nil
                      refine step_append_Y rfl _ _ 58 rfl (N + 1) 9 i0 _ 1 16 Try.underlying58 hi0 hz0 hz1 hz2 rfl (by decide) (.slice a1 q c1) q (rowsOf strCells ((leafB ch).vals.take q)) (by simp [Act.eval]) rw6 ⟨Y.heap.size, 0, none⟩ 1 1 [.string vl] (by simp [Act.eval]) rfl (cell_one_new _ _ _) (by simp [Value.oneCell']) (by unfold maxLen; omega) (by omega) (by omega) ?_
                      intro u7 w7 hown7 hgr7 hat7
                      obtain ⟨g7, e7, rfl⟩ := rowSuccT hown7
                      have HFN : Hid (SFl wo2 (w7.setCell ⟨N, 3, none⟩ (.slice (some ⟨g7, 0, none⟩) (q + 1) e7)) N (fun r => if r = 1 then .slice (some ⟨g7, 0, none⟩) (q + 1) e7 else u1 r) (fun r => if r = 1 then rowsOf strCells ((leafB ch).vals.take q) ++ [.string vl] else l1 r)) := F6.app (q := 1) (by omega) (by rw [HLEN1.out]; exact hown7) (by rw [HU1.out]; exact hgr7) (by rw [HU1.out]; exact hat7)
                      have F7 : Fr (fun b => (Value.slice a1 q c1).ownBlock = some b) (Y.alloc (.cells #[.string vl] 9)) w7 := Fr.of_grown hgr7 (fun b e => e)
                      have hne : ∀ b, (Value.slice a1 q c1).ownBlock = some b → N + 1 ≤ b := fun b e => (rw6.lt b e).1
                      have cl7 : w7.cell? ⟨N, 3, none⟩ = some (.slice a1 q c1) := (World.cell?_of_block (w := Y.alloc (.cells #[.string vl] 9)) (a := ⟨N, 3, none⟩) (F7.block N gl6 (fun e => by have := hne N e; omega))).trans c6
                      have fz7 : w7.frozen? ⟨N, 3, none⟩ = false := box_fz (boxT_fr F6.box F7 (fun e => by have := hne N e; omega)) 3
                      have x0 : w7.cell? ⟨b, off + at' * 2 + q * 2 + 1, none⟩ = some (.string vl) := (World.cell?_of_block (w := Y.alloc (.cells #[.string vl] 9)) (a := ⟨b, off + at' * 2 + q * 2 + 1, none⟩) (F7.block b gb6 (fun e => by have := hne b e; omega))).trans t0
                      have gl7 : N < w7.heap.size := Nat.lt_of_lt_of_le gl6 F7.size
                      have F8 := fr_setT w7 N 3 (.slice (some ⟨g7, 0, none⟩) (q + 1) e7)
                      have y0 : (w7.setCell ⟨N, 3, none⟩ (.slice (some ⟨g7, 0, none⟩) (q + 1) e7)).cell? ⟨b, off + at' * 2 + q * 2 + 1, none⟩ = some (.string vl) := (World.cell?_of_block (w := w7) (a := ⟨b, off + at' * 2 + q * 2 + 1, none⟩) (F8.block b (Nat.lt_of_lt_of_le gb6 F7.size) (fun e => by omega))).trans x0
                      clear F8 hown7 hgr7 hat7 hne F7 F6
                      refine hK.out _ _ (x0) (fun hHeld => ?_)
                      clear hK K
                      try simp only [Act.put, List.setIfInBounds_toArray, List.set_cons_zero, List.set_cons_succ]
                      refine wpAnyH_take (i := 9) (oi := { dst := some 98, op := Op.fieldAddr 61 (Operand.tmp 7) 3, type := 0, pos := "l3_tree.go:457", after := #[{ on := 0, ground := Ground.phase }, { on := 1, ground := Ground.phase }, { on := 2, ground := Ground.phase }, { on := 3, ground := Ground.phase }, { on := 4, ground := Ground.phase }, { on := 5, ground := Ground.phase }, { on := 6, ground := Ground.phase }, { on := 7, ground := Ground.phase }, { on := 8, ground := Ground.phase }], guard := none }) (v := .pointer (some ⟨N, 3, none⟩)) rfl (by kernel_rfl) (by kernel_rfl) (by kernel_rfl) (fun _ _ _ h => h) (Or.inl ⟨by rfl, ?_⟩) (by assumption) ?_
                      · intro wq hSw; (try dsimp only at hSw); go_simp
                      try simp only [Act.put, List.setIfInBounds_toArray, List.set_cons_zero, List.set_cons_succ]
                      refine wpAnyH_ready (rs := [10]) (by kernel_rfl) (by simp) ?_
                      refine AllReadyH.cons (o := { dst := none, op := Op.store 58 (Operand.tmp 98) (Operand.tmp 97), type := 0, pos := "l3_tree.go:457", after := #[{ on := 9, ground := Ground.data }, { on := 8, ground := Ground.data }, { on := 8, ground := Ground.chain }, { on := 0, ground := Ground.phase }, { on := 1, ground := Ground.phase }, { on := 2, ground := Ground.phase }, { on := 3, ground := Ground.phase }, { on := 4, ground := Ground.phase }, { on := 5, ground := Ground.phase }, { on := 6, ground := Ground.phase }, { on := 7, ground := Ground.phase }, { on := 8, ground := Ground.phase }], guard := none }) rfl (fun K hK => ?_) AllReadyH.nil
                      go_simp
                      refine hK.out _ _ (y0) (fun hHeld => ?_)
                      clear hK K
                      try simp only [Act.put, List.setIfInBounds_toArray, List.set_cons_zero, List.set_cons_succ]
                      refine wpAnyH_done (by kernel_rfl) ?_ _
                      refine NoPanic.normal ?_
                      clear hHeld cl7 fz7 x0 y0 gl7 t0 c6 gl6 gb6 rw6 hb6
                      generalize w7.setCell ⟨N, 3, none⟩ (.slice (some ⟨g7, 0, none⟩) (q + 1) e7) = W8 at HFN ⊢
                      obtain ⟨v1, hv1⟩ : ∃ v, v = Value.slice (some ⟨g7, 0, none⟩) (q + 1) e7 := ⟨_, rfl⟩
                      rw [← hv1] at HFN
                      clear hv1 FY sY cY NY blY rwY HY
                      have HF2 := HFN.out
                      have hr2 : W8.ownsRow (N + 1) 2 1 (.slice a2 q c2) q (rowsOf intCells ((leafB ch).over.take q)) := by
                        have h9 := HF2.ll.row 2 (by omega)
                        rw [HUL.out.1, HUL.out.2] at h9
                        replace h9 : W8.ownsRow (N + 1) (ety 2) 1 (u0 2) (l0 2).length (l0 2) := h9
                        rw [HU2.out, HROW2.out, HLEN2.out] at h9
                        exact h9
                      have k2 : W8.cell? ⟨N, 4, none⟩ = some (.slice a2 q c2) := by
                        have e9 := (box_sixT HF2.box).2.2.2.2.1
                        rw [HUL.out.1] at e9
                        replace e9 : W8.cell? ⟨N, 4, none⟩ = some (u0 2) := e9
                        rw [HU2.out] at e9
                        exact e9
                      have hN8 := HF2.lt
                      have hba : Below W8.heap.size W8 (W8.alloc (.cells #[.int .i64 0] 2)) := (Below.refl _ _).alloc (Nat.le_refl _) _
                      have F9 := HF2.below hba
                      have hr9 := owns_below hr2 hba
                      have hcell9 := cell_one_new W8 (.int .i64 0) 2
                      have hs9 : N + 1 ≤ (W8.alloc (.cells #[.int .i64 0] 2)).heap.size := by have := hba.size; omega
                      have HF9 : Hid (SFl wo2 (W8.alloc (.cells #[.int .i64 0] 2)) N (fun r => if r = 1 then v1 else u1 r) (fun r => if r = 1 then rowsOf strCells ((leafB ch).vals.take q) ++ [Value.string vl] else l1 r)) := F9
                      have c9 : (W8.alloc (.cells #[.int .i64 0] 2)).cell? ⟨N, 4, none⟩ = some (.slice a2 q c2) := (hba.cell (p := ⟨N, 4, none⟩) hN8).trans k2
                      have hN9 : N < (W8.alloc (.cells #[.int .i64 0] 2)).heap.size := by omega
                      have hne9 : ∀ b, (Value.slice a2 q c2).ownBlock = some b → N + 1 ≤ b := fun b e => (hr2.lt b e).1
                      clear HF2 F9 hba HFN
                      go_upto_region 18 with (at_builtin; refine wpList_append_ownD _ rfl _ _ 59 rfl (N + 1) 2 i1 _ 1 8 Try.underlying59 hi1 hy0 hy1 hy2 rfl (by decide) _ _ _ rfl hr9 ⟨W8.heap.size, 0, none⟩ 1 1 [.int .i64 0] rfl rfl hcell9 (by simp [Value.oneCell']) (by unfold maxLen; omega) (by omega) hs9 ?_; intro v' w5 hown' hgr' hat'; obtain ⟨g5, e5, rfl⟩ := rowSuccT hown'; have F5 : Fr (fun b => (Value.slice a2 q c2).ownBlock = some b) (W8.alloc (.cells #[.int .i64 0] 2)) w5 := Fr.of_grown hgr' (fun b e => e); have cl5 : w5.cell? ⟨N, 4, none⟩ = some (.slice a2 q c2) := (World.cell?_of_block (w := (W8.alloc (.cells #[.int .i64 0] 2))) (a := ⟨N, 4, none⟩) (F5.block N hN9 (fun e => by have := hne9 N e; omega))).trans c9; have fz5 : w5.frozen? ⟨N, 4, none⟩ = false := box_fz (boxT_fr HF9.out.box F5 (fun e => by have := hne9 N e; omega)) 4; have gl5 : N < w5.heap.size := Nat.lt_of_lt_of_le hN9 F5.size)
                      have hU2' : u1 2 = .slice a2 q c2 := by
                        rw [HUL.out.1]; exact HU2.out
                      have HSN : Hid (SFl wo2 (w5.setCell ⟨N, 4, none⟩ (.slice (some ⟨g5, 0, none⟩) (q + 1) e5)) N (fun r => if r = 2 then .slice (some ⟨g5, 0, none⟩) (q + 1) e5 else (fun r => if r = 1 then v1 else u1 r) r) (lxs (leafB ch) (q + 1))) := by
                        have h9 := HF9.out.app (q := 2) (zs := rowsOf intCells ((leafB ch).over.take q) ++ [.int .i64 0]) (by omega) (by rw [List.length_append, HLEN2.out]; exact hown') (by show (W8.alloc (.cells #[.int .i64 0] 2)).grownBy _ (u1 2).ownBlock; rw [hU2']; exact hgr') (by show _ = (u1 2).ownBlock ∨ _; rw [hU2']; exact hat')
                        have e9 : (fun r => if r = 2 then rowsOf intCells ((leafB ch).over.take q) ++ [.int .i64 0] else (fun r => if r = 1 then rowsOf strCells ((leafB ch).vals.take q) ++ [Value.string vl] else l1 r) r) = lxs (leafB ch) (q + 1) := by
                          rw [HNX.out, HUL.out.2]
                        rw [e9] at h9
                        exact h9
                      have HU3N : Hid ((fun r => if r = 2 then Value.slice (some ⟨g5, 0, none⟩) (q + 1) e5 else (fun r => if r = 1 then v1 else u1 r) r) 3 = .slice none 0 0) := by
                        show u1 3 = _
                        rw [HUL.out.1]; exact HU3.out
                      obtain ⟨u9, hu9⟩ : ∃ u9, u9 = (fun r => if r = 2 then Value.slice (some ⟨g5, 0, none⟩) (q + 1) e5 else (fun r => if r = 1 then v1 else u1 r) r) := ⟨_, rfl⟩
                      rw [← hu9] at HSN HU3N
                      clear hown' hgr' hat' cl5 fz5 F5 hU2' hu9 hr9 hcell9 c9 hr2 k2 HF9
                      generalize w5.setCell ⟨N, 4, none⟩ (.slice (some ⟨g5, 0, none⟩) (q + 1) e5) = W9 at HSN ⊢
                      go_wp2_with fail
                      go_roundw
                      case rel => exact ⟨q + 1, u9, by omega, by go_num, HU3N.out, HSN.out⟩
                      case measure => simp [intOf]; omega
                · obtain rfl : q = s := by omega
                  have e0 : (lxs (leafB ch) q 0).length = q := by show (rowsOf strCells ((leafB ch).keys.take q)).length = q; rw [rows_len1 sc1, List.length_take]; have := HLK.out; omega
                  have e1 : (lxs (leafB ch) q 1).length = q := by show (rowsOf strCells ((leafB ch).vals.take q)).length = q; rw [rows_len1 sc1, List.length_take]; have := HLK.out; omega
                  have e2 : (lxs (leafB ch) q 2).length = q := by show (rowsOf intCells ((leafB ch).over.take q)).length = q; rw [rows_len1 ic1, List.length_take]; have := HLK.out; omega
                  have SF := HX.out.2
                  obtain ⟨a0, c0, hu0⟩ := ownT_shape (SF.ll.row 0 (by omega))
                  obtain ⟨a1, c1, hu1⟩ := ownT_shape (SF.ll.row 1 (by omega))
                  obtain ⟨a2, c2, hu2⟩ := ownT_shape (SF.ll.row 2 (by omega))
                  rw [e0] at hu0
                  rw [e1] at hu1
                  rw [e2] at hu2
                  have HBX := SF.box
                  rw [hu0, hu1, hu2, HX.out.1] at HBX
                  obtain ⟨x0, x1, x2, x3, x4, x5⟩ := box_sixT HBX
                  have hba : Below wr.heap.size wr (wr.alloc (.cells #[.bool true, .int .i64 0, .slice a0 q c0, .slice a1 q c1, .slice a2 q c2, .slice none 0 0] 61)) := (Below.refl _ _).alloc (Nat.le_refl _) _
                  have hb2 : Below wo2.heap.size wo2 wr := SF.fr.below (Nat.le_refl _) (fun x e => by have := HNW.out; omega)
                  have hb3 : Below wo2.heap.size wo2 (wr.alloc (.cells #[.bool true, .int .i64 0, .slice a0 q c0, .slice a1 q c1, .slice a2 q c2, .slice none 0 0] 61)) := hb2.trans (hba.mono hb2.size)
                  have hL3 := HL.out.1.below hE2 hb3
                  have hown3 : ∀ x, (Value.slice la k lc).ownBlock = some x → x < N := fun x e => by have := (HL.out.1.row.lt x e).2; have := HNW.out; omega
                  have hG3 : SIs (wr.alloc (.cells #[.bool true, .int .i64 0, .slice a0 q c0, .slice a1 q c1, .slice a2 q c2, .slice none 0 0] 61)) (fun x => E ≤ x ∧ x < (wr.alloc (.cells #[.bool true, .int .i64 0, .slice a0 q c0, .slice a1 q c1, .slice a2 q c2, .slice none 0 0] 61)).heap.size ∧ (Value.slice la k lc).ownBlock ≠ some x) (leafB ch) [.bool true, .int .i64 0, .slice a0 q c0, .slice a1 q c1, .slice a2 q c2, .slice none 0 0] := by
                    have h9 := SFl.leaf (P := fun x => E ≤ x ∧ x < (wr.alloc (.cells #[.bool true, .int .i64 0, .slice a0 q c0, .slice a1 q c1, .slice a2 q c2, .slice none 0 0] 61)).heap.size ∧ (Value.slice la k lc).ownBlock ≠ some x) (u := u0) (ch := ch) (N := N) (w' := wo2) (by rw [HCL.out]; exact SF.below hba) HX.out.1 (fun x h1 h2 => ⟨by have := HNW.out; omega, h2, fun e => by have := hown3 x e; omega⟩) (fun z hz => by
                      have h8 := bulk_at HGOOD.out z (HCM.out z hz)
                      have h7 : z.1.size ≤ 8 := by
                        have := h8.1
                        unfold kyB at this
                        simp only [Bool.and_eq_true, decide_eq_true_eq] at this
                        exact this.2
                      unfold maxLen
                      exact ⟨by omega, by omega⟩)
                    rw [hu0, hu1, hu2, HX.out.1] at h9
                    exact h9
                  have hrow3 := hL3.row
                  have hcell3 := cell_six_new wr (.bool true) (.int .i64 0) (.slice a0 q c0) (.slice a1 q c1) (.slice a2 q c2) (.slice none 0 0) 61
                  have hsz3 : E ≤ (wr.alloc (.cells #[.bool true, .int .i64 0, .slice a0 q c0, .slice a1 q c1, .slice a2 q c2, .slice none 0 0] 61)).heap.size := Nat.le_trans hE2 hb3.size
                  have HL3 : Hid (SLv wo (wr.alloc (.cells #[.bool true, .int .i64 0, .slice a0 q c0, .slice a1 q c1, .slice a2 q c2, .slice none 0 0] 61)) E k lc la (dn.map leafB) css) := hL3
                  have HG3 : Hid (SIs (wr.alloc (.cells #[.bool true, .int .i64 0, .slice a0 q c0, .slice a1 q c1, .slice a2 q c2, .slice none 0 0] 61)) (fun x => E ≤ x ∧ x < (wr.alloc (.cells #[.bool true, .int .i64 0, .slice a0 q c0, .slice a1 q c1, .slice a2 q c2, .slice none 0 0] 61)).heap.size ∧ (Value.slice la k lc).ownBlock ≠ some x) (leafB ch) [.bool true, .int .i64 0, .slice a0 q c0, .slice a1 q c1, .slice a2 q c2, .slice none 0 0]) := hG3
                  have HB3 : Hid (Below wo2.heap.size wo2 (wr.alloc (.cells #[.bool true, .int .i64 0, .slice a0 q c0, .slice a1 q c1, .slice a2 q c2, .slice none 0 0] 61))) := hb3
                  clear e0 e1 e2 SF hu0 hu1 hu2 HBX hba hb2 hb3 hL3 hG3 hown3 HX
                  go_wp2_with (at_builtin; refine wpList_append_ownD _ rfl _ _ 55 rfl E 61 i2 _ 6 112 Try.underlying55 hi2 hx0 hx1 hx2 rfl (by decide) _ _ _ rfl hrow3 ⟨wr.heap.size, 0, none⟩ 1 1 [.bool true, .int .i64 0, .slice a0 q c0, .slice a1 q c1, .slice a2 q c2, .slice none 0 0] rfl rfl hcell3 (by simp [Value.oneCell']) (by unfold maxLen; omega) (by omega) hsz3 ?_; intro v' w5 hown' hgr' hat'; obtain ⟨g5, e5, rfl⟩ := rowSuccT hown')
                  have HNL : SLv wo w5 E (k + 1) e5 (some ⟨g5, 0, none⟩) ((dn ++ [ch]).map leafB) (fun i => if i = k then [.bool true, .int .i64 0, .slice a0 q c0, .slice a1 q c1, .slice a2 q c2, .slice none 0 0] else css i) := by
                    rw [List.map_append]
                    exact SLv.push HL3.out hsz3 rfl HG3.out hown' hgr' hat'
                  have HFR : Fr (fun x => x = E) w1 w5 := by
                    have f1 := HL.out.2.1
                    have f2 := HB3.out
                    have f3 : Fr (fun b => (Value.slice la k lc).ownBlock = some b) (wr.alloc (.cells #[.bool true, .int .i64 0, .slice a0 q c0, .slice a1 q c1, .slice a2 q c2, .slice none 0 0] 61)) w5 := Fr.of_grown hgr' (fun b e => e)
                    have s1 := f1.size
                    have s2 := f2.size
                    have s3 := f3.size
                    refine ⟨f3.os.trans (f2.os.trans f1.os), f3.tape.trans (f2.tape.trans f1.tape), f3.output.trans (f2.output.trans f1.output), by omega, fun x hx hne => ?_⟩
                    rw [f3.block x (by omega) (fun e => by rcases HL.out.2.2 x e with h | h; exact hne h; omega), f2.block x (by omega), f1.block x hx hne]
                  have HOB : ∀ x, (Value.slice (some ⟨g5, 0, none⟩) (k + 1) e5).ownBlock = some x → x = E ∨ w1.heap.size ≤ x := fun x e => by
                    rcases hat' with h | h
                    · rw [h] at e; exact HL.out.2.2 x e
                    · have h1 := h x e
                      have h2 := HB3.out.size
                      have h3 := HL.out.2.1.size
                      exact .inr (by omega)
                  have HNEW : Hid (SLv wo w5 E (k + 1) e5 (some ⟨g5, 0, none⟩) ((dn ++ [ch]).map leafB) (fun i => if i = k then [.bool true, .int .i64 0, .slice a0 q c0, .slice a1 q c1, .slice a2 q c2, .slice none 0 0] else css i) ∧ Fr (fun x => x = E) w1 w5 ∧ ∀ x, (Value.slice (some ⟨g5, 0, none⟩) (k + 1) e5).ownBlock = some x → x = E ∨ w1.heap.size ≤ x) := ⟨HNL, HFR, HOB⟩
                  have HPN : Hid (at' + q < j → (if c - at' = q then some (⟨b, off + at' * 2, none⟩ : Addr) else some ⟨b, off + at' * 2 + q * 2, none⟩) = some ⟨b, off + (at' + q) * 2, none⟩) := fun h => by
                    rw [if_neg (by omega), show off + (at' + q) * 2 = off + at' * 2 + q * 2 by omega]
                  have hj9 : j - at' - q = j - (at' + q) := by omega
                  have hc9 : c - at' - q = c - (at' + q) := by omega
                  rw [hj9, hc9]
                  clear HNL HFR HOB hown' hgr' hat' HL3 HG3 HB3 hrow3 hcell3 x0 x1 x2 x3 x4 x5 hj9 hc9
                  go_roundw
                  case rel => exact ⟨k + 1, at' + q, e5, some ⟨g5, 0, none⟩, _, _, dn ++ [ch], by omega, by omega, rfl, HPN, by go_num, rfl, HD2, HNEW⟩
                  case measure => simp [intOf]; omega
            · have hfin : dn = chunks zs := by
                have e := HD.out.1
                have e2 := HD.out.2
                rw [List.drop_eq_nil_of_le (by have := HN.out; omega)] at e2
                have hz : j - at' = 0 := by
                  rcases Nat.eq_zero_or_pos (j - at') with h | h
                  · exact h
                  · rw [sharesL_step h] at e2; cases e2
                rw [List.drop_eq_nil_of_le (by rw [HZ.out]; omega), chunks_nil, List.append_nil] at e
                exact e
              have HLF : Hid (SLv wo wo2 E k lc la (lvlB zs) css) := by
                have h9 := HL.out.1
                rw [hfin] at h9
                exact h9
              have hbo : Below w.heap.size w wo2 := hbr.trans (HL.out.1.bel.mono (by have := HEL.out.2; omega))
              clear hfin HD HL HSA HPC HP HPA
              go_wp2_with fail
              have HL1 : Hid (SLv wo wo2 E k lc la (lvlB zs) css ∧ LvOk j (lvlB zs) ∧ LvGd (lvlB zs) ∧ (lvlB zs).length ≤ zs.length) := ⟨HLF.out, by have h9 := lvlB_ok (zs := zs) (by rw [HZ.out]; omega); rw [HZ.out] at h9; exact h9, lvlB_gd HGOOD.out, by rw [show (lvlB zs).length = (chunks zs).length by simp [lvlB]]; exact chunks_le _ zs (Nat.le_refl _)⟩
              clear HLF
              go_loopw [4, 5, 9, 10] (fun lv _ _ _ wx => ∃ (lm lc f : Nat) (la : Option Addr) (ts : List T) (css : Nat → List Value), lv = .slice la lm lc ∧ lm ≤ 1048576 ∧ Hid (SLv wo wx E lm lc la ts css ∧ LvOk j ts ∧ LvGd ts ∧ topF f ts = topF zs.length (lvlB zs) ∧ ts.length ≤ f) ∧ Hid (E ≤ wx.heap.size)) (fun lv _ _ _ _ => match lv with | .slice _ m _ => m | _ => 0)
              case atStart => exact ⟨k, lc, zs.length, la, lvlB zs, css, rfl, by have h1 := HL1.out.1.len; have h2 := HL1.out.2.1.le; omega, ⟨HL1.out.1, HL1.out.2.1, HL1.out.2.2.1, rfl, HL1.out.2.2.2⟩, hE2⟩
              case round =>
                clear HL1
                rename World => wv
                obtain ⟨lm, lc, f, la, ts, css, rfl, hlm, HL, HSZ⟩ := hrel
                have hrw := HL.out.1.row
                have hpos : 0 < lm := by rw [← HL.out.1.len]; exact HL.out.2.1.pos
                have HCSL : Hid (∀ i, i < lm → (css i).length = 6) := fun i hi => (HL.out.1.node i _ (List.getElem?_eq_getElem (by rw [HL.out.1.len]; exact hi))).1
                obtain ⟨g, rfl, hgl, hcp, hcx, HC0⟩ : ∃ g, la = some ⟨g, 0, none⟩ ∧ g < wv.heap.size ∧ lm ≤ lc ∧ lc ≤ 2 ^ 63 - 1 ∧ Hid (∀ i r, i < lm → r < 6 → wv.cell? ⟨g, i * 6 + r, none⟩ = (css i)[r]?) := by
                  rcases hrw.2 with ⟨e, e2⟩ | ⟨g, cap, cur, e, hg1, hg2, h1, h2, _⟩
                  · omega
                  · have e9 := e
                    simp only [Value.slice.injEq] at e
                    obtain ⟨rfl, _, rfl⟩ := e
                    exact ⟨g, rfl, (hrw.lt g rfl).2, h1, by unfold maxLen at h2; exact h2, fun i r hi hr => by rw [hrw.cellAt (i * 6 + r) (by omega)]; exact (rowsC_get HCSL.out).2 i r hi hr⟩
                clear hrw
                have hsv := HSZ.out
                have hbv : Below w.heap.size w wv := hbr.trans (HL.out.1.bel.mono (by have := HEL.out.2; omega))
                by_cases h1 : 1 < lm
                · have hd : decide ((1 : Int) < (lm : Int)) = true := by simp; omega
                  have HUP : Hid (LvOk j (upT ts) ∧ (upT ts).length * 2 ≤ ts.length) := upT_ok HL.out.2.1 (by rw [HL.out.1.len]; omega)
                  have HUG : Hid (LvGd (upT ts)) := upT_gd HL.out.2.2.1 (by rw [HL.out.1.len]; omega)
                  have HTL : Hid (ts.length = lm) := HL.out.1.len
                  have HE : Hid ((wv.alloc (.cells #[] 61)).ownsRow wv.heap.size 61 6 (.slice (some ⟨wv.heap.size, 0, none⟩) 0 0) 0 [] ∧ Below wv.heap.size wv (wv.alloc (.cells #[] 61))) := ⟨emptyL wv, (Below.refl _ _).alloc (Nat.le_refl _) _⟩
                  go_upto_region 26 with fail
                  obtain ⟨U, hU⟩ : ∃ U, U = wv.heap.size := ⟨_, rfl⟩
                  rw [← hU] at HE ⊢
                  have HUW : Hid (U = wv.heap.size) := hU
                  generalize wv.alloc (.cells #[] 61) = W4 at HE ⊢
                  clear hU
                  go_wp2_with (first | (go_at_call 29; refine (groups_any lm (by omega) _).mono ?_; rintro e w4 ⟨sa4, sc4, rfl, hrow4, hbel4⟩))
                  have hW4 : U < W4.heap.size := (HE.out.1.lt U rfl).2
                  have hszw4 := hbel4.size
                  have hsn4 := sharesL_len lm
                  have HSA : Hid (∀ W, Fr (fun x => x = U) w4 W → ShAt W sa4 (sharesL lm)) := fun W hf => (ShAt.of hrow4 rfl).fr hf (fun g e he => by have := hrow4.lt g (by rw [e]; rfl); omega)
                  have hbU : Below wv.heap.size wv w4 := by rw [← HUW.out]; exact HE.out.2.trans (hbel4.mono (by omega))
                  have HL0 : Hid (SLv wo w4 E 0 0 (some ⟨U, 0, none⟩) [] (fun _ => [])) := ⟨owns_below (own_lowerT (by simpa [rowsC] using HE.out.1) (by have := HUW.out; omega)) hbel4, rfl, fun i t hi => by simp at hi, HL.out.1.bel.trans (hbU.mono hsv)⟩
                  obtain ⟨sn, hsn⟩ : ∃ sn, sn = (sharesL lm).length := ⟨_, rfl⟩
                  rw [← hsn] at hsn4 ⊢
                  have HN : Hid (sn = (sharesL lm).length) := hsn
                  have HUL : Hid (U < w4.heap.size ∧ wv.heap.size = U) := ⟨by omega, HUW.out.symm⟩
                  have HBU : Hid (Below wv.heap.size wv w4) := hbU
                  clear hrow4 hbel4 hsn HE hbU
                  go_loopw [4, 9, 10] (fun lv uv iv wx => ∃ (k at' uc : Nat) (ua pa : Option Addr) (cs2 : Nat → List Value) (dn : List (List T)), k ≤ sn ∧ at' ≤ lm ∧ lv = .slice pa (lm - at') (lc - at') ∧ Hid (at' < lm → pa = some ⟨g, at' * 6, none⟩) ∧ iv = .int .i64 k ∧ uv = .slice ua k uc ∧ Hid (dn ++ chunks (ts.drop at') = chunks ts ∧ (sharesL lm).drop k = sharesL (lm - at')) ∧ Hid (SLv wo wx E k uc ua (dn.map innB) cs2 ∧ Fr (fun x => x = U) w4 wx ∧ ∀ x, (Value.slice ua k uc).ownBlock = some x → x = U ∨ w4.heap.size ≤ x)) (fun _ _ iv _ => sn - (intOf iv).toNat)
                  case atStart => exact ⟨0, 0, 0, some ⟨U, 0, none⟩, some ⟨g, 0, none⟩, fun _ => [], [], Nat.zero_le _, Nat.zero_le _, by simp, fun _ => by simp, rfl, rfl, ⟨rfl, rfl⟩, HL0.out, Fr.of_below (Below.refl _ _), fun x e => by cases e; exact .inl rfl⟩
                  case round =>
                    clear HL0
                    obtain ⟨k, at', uc, ua, pa, cs2, dn, hk, hat, rfl, HPA, rfl, rfl, HD, HV⟩ := hrel
                    have hU9 := HUL.out
                    have hvr := HV.out.2.1.size
                    have HBVR : Hid (Below wv.heap.size wv wr) := by
                      have f1 := HBU.out
                      have f2 := HV.out.2.1
                      exact ⟨f2.os.trans f1.os, f2.tape.trans f1.tape, f2.output.trans f1.output, by have := f1.size; omega, fun x hx => by rw [f2.block x (by omega) (by omega), f1.block x hx]⟩
                    by_cases hltk : k < sn
                    · have hat2 : at' < lm := by
                        rcases Nat.lt_or_ge at' lm with h | h
                        · exact h
                        · exfalso
                          have e := HD.out.2
                          rw [show lm - at' = 0 by omega, sharesL_zero, List.drop_eq_nil_iff] at e
                          have := HN.out; omega
                      obtain rfl := HPA.out hat2
                      obtain ⟨s, hs⟩ : ∃ s, s = shareN (lm - at') := ⟨_, rfl⟩
                      have hsl := shareN_le (n := lm - at') (by omega)
                      rw [← hs] at hsl
                      obtain ⟨hs1, hs2, hs3⟩ := hsl
                      have hgd : (sharesL lm).getD k 0 = (s : Int) := by
                        have e := HD.out.2
                        rw [sharesL_step (n := lm - at') (by omega), ← hs] at e
                        have e2 : ((sharesL lm).drop k)[0]? = some (s : Int) := by rw [e]; rfl
                        rw [List.getElem?_drop, Nat.add_zero] at e2
                        simp [List.getD, e2]
                      have HD2 : Hid ((dn ++ [(ts.drop at').take s]) ++ chunks (ts.drop (at' + s)) = chunks ts ∧ (sharesL lm).drop (k + 1) = sharesL (lm - (at' + s))) := by
                        have hzl : (ts.drop at').length = lm - at' := by rw [List.length_drop, HTL.out]
                        constructor
                        · have e := HD.out.1
                          rw [chunks_step (by omega), hzl, ← hs, List.drop_drop] at e
                          rw [← e]; simp
                        · have e := HD.out.2
                          rw [sharesL_step (n := lm - at') (by omega), ← hs] at e
                          rw [← List.drop_drop, e, Nat.sub_sub]; rfl
                      obtain ⟨gs, rfl, hgsl, hgsc⟩ := (HSA.out wr HV.out.2.1) k (by have := HN.out; omega)
                      rw [hgd] at hgsc
                      have HGD : Hid ((sharesL lm).getD k 0 = (s : Int)) := hgd
                      clear hgd hs
                      have hc6 : ∀ i, i < s → (css (at' + i)).length = 6 := fun i hi => HCSL.out (at' + i) (by omega)
                      have HRL : Hid ((rowsC (fun i => css (at' + i)) s).length = s * 6) := (rowsC_get hc6).1
                      have hb0' : Below wr.heap.size wr (wr.alloc (.cells #[] 61)) := (Below.refl _ _).alloc (Nat.le_refl _) _
                      have HNEWS : Hid (∀ q u, (rowsC (fun i => css (at' + i)) s)[q]? = some u → (wr.alloc (.cells #[] 61)).cell? ((⟨g, at' * 6, none⟩ : Addr).add q) = some u) := fun q u hq => by
                        have hql : q < s * 6 := by rw [← HRL.out]; exact (List.getElem?_eq_some_iff.1 hq).1
                        have hq2 : q = q / 6 * 6 + q % 6 := by omega
                        have hi : q / 6 < s := by omega
                        have hm6 : q % 6 < 6 := by omega
                        rw [hq2, (rowsC_get hc6).2 (q / 6) (q % 6) hi hm6] at hq
                        rw [Addr.add_lit, show at' * 6 + q = (at' + q / 6) * 6 + q % 6 by omega]
                        have e1 := HC0.out (at' + q / 6) (q % 6) (by omega) hm6
                        have e2 := (HBVR.out.cell (p := ⟨g, (at' + q / 6) * 6 + q % 6, none⟩) hgl)
                        have e3 := (hb0'.cell (p := ⟨g, (at' + q / 6) * 6 + q % 6, none⟩) (by have := HBVR.out.size; show g < _; omega))
                        rw [e3, e2, e1]
                        exact hq
                      have HONE : Hid (∀ u ∈ (rowsC (fun i => css (at' + i)) s), u.oneCell' = true) := fun u hu => by
                        unfold rowsC at hu
                        obtain ⟨i, hi, hu2⟩ := List.mem_flatMap.1 hu
                        have hi2 := List.mem_range.1 hi
                        exact (HL.out.1.node (at' + i) _ (List.getElem?_eq_getElem (by rw [HTL.out]; omega))).2.one u hu2
                      have hE0 := emptyL wr
                      have HB0 : Hid (Below wr.heap.size wr (wr.alloc (.cells #[] 61))) := hb0'
                      have hszr : wr.heap.size ≤ (wr.alloc (.cells #[] 61)).heap.size := hb0'.size
                      clear hc6 hb0'
                      have hgr : g < wr.heap.size := by omega
                      go_upto_region 31 with (first | (at_builtin; refine wpList_append_ownD _ rfl _ _ 55 rfl E 61 i2 _ 6 112 Try.underlying55 hi2 hx0 hx1 hx2 rfl (by decide) _ _ _ rfl hrowU ⟨w3.heap.size, 0, none⟩ 1 1 [.bool false, .int .i64 0, .slice none 0 0, .slice none 0 0, .slice none 0 0, .slice (some ⟨g3, 0, none⟩) s c3] rfl rfl hcell3 (by simp [Value.oneCell']) (by unfold maxLen; omega) (by omega) hszU ?_; intro v' w5 hown' hgr' hat'; obtain ⟨g5, e5, rfl⟩ := rowSuccT hown') | (at_builtin; refine wpList_append_ownD _ rfl _ _ 55 rfl wr.heap.size 61 i2 _ 6 112 Try.underlying55 hi2 hx0 hx1 hx2 rfl (by decide) _ _ _ rfl hE0 ⟨g, at' * 6, none⟩ s (lc - at') (rowsC (fun i => css (at' + i)) s) rfl HRL.out HNEWS.out HONE.out (by unfold maxLen; omega) (by omega) hszr ?_; intro v3 w3 hown3 hgr3 hat3; rw [Nat.zero_add, List.nil_append] at hown3; obtain ⟨g3, c3, rfl⟩ := rowPosT hown3 hs1; have hb3 : Below wr.heap.size wr w3 := HB0.out.grown hgr3 HB0.out.size (fun q e => (hE0.lt q e).1); have h35 : Below w3.heap.size w3 (w3.alloc (.cells #[.bool false, .int .i64 0, .slice none 0 0, .slice none 0 0, .slice none 0 0, .slice (some ⟨g3, 0, none⟩) s c3] 61)) := (Below.refl _ _).alloc (Nat.le_refl _) _; have hb5 : Below wr.heap.size wr (w3.alloc (.cells #[.bool false, .int .i64 0, .slice none 0 0, .slice none 0 0, .slice none 0 0, .slice (some ⟨g3, 0, none⟩) s c3] 61)) := hb3.trans (h35.mono hb3.size); have hrowU := owns_below HV.out.1.row hb5; have hcell3 := cell_six_new w3 (.bool false) (.int .i64 0) (.slice none 0 0) (.slice none 0 0) (.slice none 0 0) (.slice (some ⟨g3, 0, none⟩) s c3) 61; have hszU : E ≤ (w3.alloc (.cells #[.bool false, .int .i64 0, .slice none 0 0, .slice none 0 0, .slice none 0 0, .slice (some ⟨g3, 0, none⟩) s c3] 61)).heap.size := Nat.le_trans (by have := HBVR.out.size; omega) hb5.size))
                      have hbs := HBVR.out.size
                      have hb5s := hb5.size
                      have h35s := h35.size
                      have hg3 := hown3.lt g3 rfl
                      have HNL : SLv wo w5 E (k + 1) e5 (some ⟨g5, 0, none⟩) ((dn ++ [(ts.drop at').take s]).map innB) (fun i => if i = k then [.bool false, .int .i64 0, .slice none 0 0, .slice none 0 0, .slice none 0 0, .slice (some ⟨g3, 0, none⟩) s c3] else cs2 i) := by
                        rw [List.map_append]
                        refine SLv.push (HV.out.1.below (by omega) hb5) hszU rfl ?_ hown' hgr' hat'
                        exact SLv.inner HL.out.1 hown3 hs1 (by omega) (HBVR.out.trans (hb5.mono HBVR.out.size)) h35 (fun x h1 h2 => ⟨h1, by omega, fun e => by rcases HV.out.2.2 x e with h | h <;> omega⟩) ⟨by omega, by omega, fun e => by have := (HV.out.1.row.lt g3 e).2; omega⟩
                      have HFR : Fr (fun x => x = U) w4 w5 := by
                        have f1 := HV.out.2.1
                        have f3 : Fr (fun b => (Value.slice ua k uc).ownBlock = some b) (w3.alloc (.cells #[.bool false, .int .i64 0, .slice none 0 0, .slice none 0 0, .slice none 0 0, .slice (some ⟨g3, 0, none⟩) s c3] 61)) w5 := Fr.of_grown hgr' (fun b e => e)
                        have s3 := f3.size
                        refine ⟨f3.os.trans (hb5.os.trans f1.os), f3.tape.trans (hb5.tape.trans f1.tape), f3.output.trans (hb5.output.trans f1.output), by omega, fun x hx hne => ?_⟩
                        rw [f3.block x (by omega) (fun e => by rcases HV.out.2.2 x e with h | h; exact hne h; omega), hb5.block x (by omega), f1.block x hx hne]
                      have HOB : ∀ x, (Value.slice (some ⟨g5, 0, none⟩) (k + 1) e5).ownBlock = some x → x = U ∨ w4.heap.size ≤ x := fun x e => by
                        rcases hat' with h | h
                        · rw [h] at e; exact HV.out.2.2 x e
                        · have h1 := h x e
                          exact .inr (by omega)
                      obtain ⟨gs', egs, hgl5, hgc5⟩ := (HSA.out w5 HFR) k (by have := HN.out; omega)
                      cases egs
                      have hgd5 : (sharesL lm).getD k 0 = (s : Int) := HGD.out
                      rw [hgd5] at hgc5
                      have HNEW : Hid (SLv wo w5 E (k + 1) e5 (some ⟨g5, 0, none⟩) ((dn ++ [(ts.drop at').take s]).map innB) (fun i => if i = k then [.bool false, .int .i64 0, .slice none 0 0, .slice none 0 0, .slice none 0 0, .slice (some ⟨g3, 0, none⟩) s c3] else cs2 i) ∧ Fr (fun x => x = U) w4 w5 ∧ ∀ x, (Value.slice (some ⟨g5, 0, none⟩) (k + 1) e5).ownBlock = some x → x = U ∨ w4.heap.size ≤ x) := ⟨HNL, HFR, HOB⟩
                      have HPN : Hid (at' + s < lm → (if lc - at' = s then some (⟨g, at' * 6, none⟩ : Addr) else some ⟨g, at' * 6 + s * 6, none⟩) = some ⟨g, (at' + s) * 6, none⟩) := fun h => by
                        rw [if_neg (by omega), show (at' + s) * 6 = at' * 6 + s * 6 by omega]
                      have hj9 : lm - at' - s = lm - (at' + s) := by omega
                      have hc9 : lc - at' - s = lc - (at' + s) := by omega
                      clear HNL HFR HOB hown' hgr' hat' hown3 hgr3 hat3 hrowU hcell3 hb3 h35 hb5 hE0 hgsc hgsl hgd5 hbs hb5s h35s hg3 hszU hszr
                      go_wp2_with fail
                      go_roundw
                      case rel => exact ⟨k + 1, at' + s, e5, some ⟨g5, 0, none⟩, _, _, dn ++ [(ts.drop at').take s], by omega, by omega, rfl, HPN, by go_num, rfl, HD2, HNEW⟩
                      case measure => simp [intOf]; omega
                    · have hfin : dn = chunks ts := by
                        have e := HD.out.1
                        have e2 := HD.out.2
                        rw [List.drop_eq_nil_of_le (by have := HN.out; omega)] at e2
                        have hz : lm - at' = 0 := by
                          rcases Nat.eq_zero_or_pos (lm - at') with h | h
                          · exact h
                          · rw [sharesL_step h] at e2; cases e2
                        rw [List.drop_eq_nil_of_le (by rw [HTL.out]; omega), chunks_nil, List.append_nil] at e
                        exact e
                      have hV9 := HV.out.1
                      rw [hfin] at hV9
                      have hkl : (upT ts).length = k := hV9.len
                      have h9 := HUP.out.2
                      have h8 := HTL.out
                      have HNX2 : Hid (SLv wo wr E k uc ua (upT ts) cs2 ∧ LvOk j (upT ts) ∧ LvGd (upT ts) ∧ topF (f - 1) (upT ts) = topF zs.length (lvlB zs) ∧ (upT ts).length ≤ f - 1) := by
                        obtain ⟨f', rfl⟩ : ∃ f', f = f' + 1 := ⟨f - 1, by have := HL.out.2.2.2.2; omega⟩
                        have hst := topF_step (f := f') (ts := ts) (by omega) HL.out.2.2.2.2 HUP.out.2
                        exact ⟨hV9, HUP.out.1, HUG.out, by rw [← HL.out.2.2.2.1, hst.1]; rfl, hst.2⟩
                      have HS2 : Hid (E ≤ wr.heap.size) := by have := HBVR.out.size; show E ≤ _; omega
                      have hklm : k < lm := by omega
                      clear hV9 hfin hkl h9 h8
                      go_wp2_with fail
                      go_roundw
                      case rel => exact ⟨k, uc, f - 1, ua, upT ts, cs2, rfl, by omega, HNX2, HS2⟩
                      case measure => show k < lm; omega
                · obtain rfl : lm = 1 := by omega
                  obtain ⟨t, ht⟩ : ∃ t, ts[0]? = some t := ⟨_, List.getElem?_eq_getElem (by rw [HL.out.1.len]; omega)⟩
                  obtain ⟨hl6, hG⟩ := HL.out.1.node 0 t ht
                  have htm := List.mem_of_getElem? ht
                  have hwh := HL.out.2.1.all t htm
                  have hgd := HL.out.2.2.1.all t htm
                  have hroot : rootT zs = t := by
                    unfold rootT
                    rw [← HL.out.2.2.2.1, topF_done f (by rw [HL.out.1.len]; omega)]
                    cases ts with
                    | nil => simp at ht
                    | cons x r => simpa using ht
                  have hnod : t.nodes ≤ 8000 := by
                    have h5 := HL.out.2.1.sum
                    have h6 : t.nodes ≤ sumN ts := by
                      cases ts with
                      | nil => simp at ht
                      | cons x r => simp at ht; subst ht; unfold sumN; simp
                    omega
                  have HBN : Hid (bulkNs zs = if 1000 < t.nodes then [] else t.flat 0) := by
                    show _ = _
                    unfold bulkNs
                    rw [HGOOD.out, if_neg (by simp), if_neg (by rw [HZ.out]; omega), hroot]
                  have hNC := SIs.nodeC (C := wv.heap.size) (fun b hp => hp.2.1) t _ hG
                  obtain ⟨ka, kn, kc, va, vn, vc, oa, on, oc, ya, yc, css9, hcs, hNX⟩ := hNC.out
                  have hc9 := fun r hr => HC0.out 0 r (by omega) hr
                  rw [hcs] at hc9
                  have q0 : wv.cell? ⟨g, 0, none⟩ = some (.bool t.leaf) := by simpa using hc9 0 (by omega)
                  have q1 : wv.cell? ⟨g, 1, none⟩ = some (.int .i64 t.page) := by simpa using hc9 1 (by omega)
                  have q2 : wv.cell? ⟨g, 2, none⟩ = some (.slice ka kn kc) := by simpa using hc9 2 (by omega)
                  have q3 : wv.cell? ⟨g, 3, none⟩ = some (.slice va vn vc) := by simpa using hc9 3 (by omega)
                  have q4 : wv.cell? ⟨g, 4, none⟩ = some (.slice oa on oc) := by simpa using hc9 4 (by omega)
                  have q5 : wv.cell? ⟨g, 5, none⟩ = some (.slice ya t.kids.length yc) := by simpa using hc9 5 (by omega)
                  have hNod := l3Nodes_any wv.heap.size t (by omega) wv ka kn kc va vn vc oa on oc ya yc css9 (Nat.le_refl _) hNX
                  have hTr := l3Tree_any wv.heap.size t ⟨true, hgd.1⟩ (by omega) hgd.2
                  have hxv := boxT_below (w' := wv) hxr (by have h9 := HL.out.1.bel; rw [← HEL.out.2] at h9; exact h9)
                  unfold CallAt at hTr
                  by_cases hbig : 1000 < t.nodes
                  · have hdb2 : decide ((1000 : Int) < (t.nodes : Int)) = true := by simp; omega
                    clear hTr hc9
                    go_wp2_with (first | (go_at_call 30; refine hNod.mono ?_; rintro e w5 ⟨rfl, hb5⟩; have hx5 := boxT_below hxv hb5; have hl5 := (Array.getElem?_eq_some_iff.1 hx5).1; have c5 : w5.cell? ⟨X, 0, none⟩ = some (.slice none 0 0) := (by simp [World.cell?, hx5]); have z5 := box_fz hx5 0))
                    have F10 := fr_setT w5 X 0 (.slice none 0 0)
                    have hs5 := hb5.size
                    have hb10 : Below w.heap.size w (w5.setCell ⟨X, 0, none⟩ (.slice none 0 0)) := (hbv.trans (hb5.mono hbv.size)).trans (F10.below (by have := hbv.size; omega) (fun b e => by have := HXW.out; omega))
                    have x10 : (w5.setCell ⟨X, 0, none⟩ (.slice none 0 0)).cell? ⟨X, 0, none⟩ = some (.slice none 0 0) := by simp [World.cell?, World.setCell, Array.getElem?_modify, hx5]
                    exact bodyPost_ret (v := .agg #[.slice none 0 0]) (by simp [results, Try.results8, go_sem, x10]) rfl (SBulkAns.no (by rw [HBN.out, if_pos hbig]) hb10)
                  · have hdb2 : decide ((1000 : Int) < (t.nodes : Int)) = false := by simp; omega
                    clear hc9
                    go_wp2_with (first | (go_at_call 31; refine (hTr w5 ka kn kc va vn vc oa on oc ya yc css9 hb5.size (hNX.belowC hb5)).mono ?_; rintro e w6 ⟨g6, c6, css6, rfl, hFA, hb6⟩; have hx6 := boxT_below (boxT_below hxv hb5) hb6; have hl6' := (Array.getElem?_eq_some_iff.1 hx6).1; have k6 : w6.cell? ⟨X, 0, none⟩ = some (.slice none 0 0) := (by simp [World.cell?, hx6]); have z6 := box_fz hx6 0) | (go_at_call 30; refine hNod.mono ?_; rintro e w5 ⟨rfl, hb5⟩; have hg5 := Nat.lt_of_lt_of_le hgl hb5.size; have p0 := (hb5.cell (p := ⟨g, 0, none⟩) hgl).trans q0; have p1 := (hb5.cell (p := ⟨g, 1, none⟩) hgl).trans q1; have p2 := (hb5.cell (p := ⟨g, 2, none⟩) hgl).trans q2; have p3 := (hb5.cell (p := ⟨g, 3, none⟩) hgl).trans q3; have p4 := (hb5.cell (p := ⟨g, 4, none⟩) hgl).trans q4; have p5 := (hb5.cell (p := ⟨g, 5, none⟩) hgl).trans q5))
                    have F10 := fr_setT w6 X 0 (.slice (some ⟨g6, 0, none⟩) (t.flat 0).length c6)
                    have hs5 := hb5.size
                    have hs6 := hb6.size
                    have hsv2 := hbv.size
                    have hX5 := (Array.getElem?_eq_some_iff.1 (boxT_below hxv hb5)).1
                    have hb10 : Below w.heap.size w (w6.setCell ⟨X, 0, none⟩ (.slice (some ⟨g6, 0, none⟩) (t.flat 0).length c6)) := ((hbv.trans (hb5.mono hbv.size)).trans (hb6.mono (by omega))).trans (F10.below (by omega) (fun b e => by have := HXW.out; omega))
                    have x10 : (w6.setCell ⟨X, 0, none⟩ (.slice (some ⟨g6, 0, none⟩) (t.flat 0).length c6)).cell? ⟨X, 0, none⟩ = some (.slice (some ⟨g6, 0, none⟩) (t.flat 0).length c6) := by simp [World.cell?, World.setCell, Array.getElem?_modify, hx6]
                    refine bodyPost_ret (v := .agg #[.slice (some ⟨g6, 0, none⟩) (t.flat 0).length c6]) (by simp [results, Try.results8, go_sem, x10]) rfl ⟨some ⟨g6, 0, none⟩, c6, ?_, ?_, hb10⟩
                    · rw [HBN.out, if_neg hbig]
                    · rw [HBN.out, if_neg hbig]
                      exact (hFA.nodes.keep (fun k h1 h2 => F10.block k h2 (by omega))).up (by omega) F10.size
end Go.Proofs.Ytpmagndofiaooaa
