import Derived.Test.YtpmagndofiaooaaTuc
namespace Go.Proofs.Ytpmagndofiaooaa
open Go.RowKit
set_option linter.unusedVariables false
set_option linter.unusedSimpArgs false
set_option maxRecDepth 100000

/-- An inner node over its kids, dirty. -/
def innB (ks : List T) : T := ⟨false, 0, [], [], [], ks⟩
theorem emptyN (w : World) : (w.alloc (.cells #[] 70)).ownsRow w.heap.size 70 1 (.slice (some ⟨w.heap.size, 0, none⟩) 0 0) 0 [] := by
  have := World.ownsRow_made w #[] (base := w.heap.size) (e := 70) (size := 1) 0 (by simp) (by unfold maxLen; omega) (by simp)
  simpa using this
set_option maxHeartbeats 1000000 in
theorem cloneN_any (b off n c : Nat) (xs : List Value) (w : World) (hx : xs.length = n) (hn : 0 < n) (hm : n ≤ 1048576) (hb : b < w.heap.size) (h1 : ∀ u ∈ xs, u.oneCell' = true) (hc : ∀ j u, xs[j]? = some u → w.cell? ((⟨b, off, none⟩ : Addr).add j) = some u) :
    Calls Try.prog 54 #[.slice (some ⟨b, off, none⟩) n c] w fun e w' => ∃ g vc, e = .returned (.slice (some ⟨g, 0, none⟩) n vc) ∧ w'.ownsRow w.heap.size 70 1 (.slice (some ⟨g, 0, none⟩) n vc) n xs ∧ Below w.heap.size w w' := by
  have hq : ∀ (w : World) (a : Option Addr) (n c n' c' : Nat), (binOp .eql 65 (.slice a n c) (.slice none n' c')).run Try.prog w = .ok (.bool a.isNone) w := fun w a n c n' c' => Lib.run_eql_slice_nil w _ _ a n c n' c' Try.underlying65
  obtain ⟨i1, hi1, hy0, hy1, hy2⟩ := info_parts info_nodeU
  have hb2 : Below w.heap.size w (w.alloc (.cells #[] 70)) := (Below.refl _ _).alloc (Nat.le_refl _) _
  have hR2 := emptyN w
  have hc2 : ∀ j u, xs[j]? = some u → (w.alloc (.cells #[] 70)).cell? ((⟨b, off, none⟩ : Addr).add j) = some u := fun j u hj => (hb2.cell (p := (⟨b, off, none⟩ : Addr).add j) (by unfold Addr.add; split <;> exact hb)).trans (hc j u hj)
  go_enter Try.func54, Try.ntmps54
  go_wp2_with (at_builtin; refine wpList_append_ownD _ rfl _ _ 65 rfl w.heap.size 70 i1 _ 1 16 Try.underlying65 hi1 hy0 hy1 hy2 rfl (by decide) _ _ _ rfl hR2 ⟨b, off, none⟩ n c xs rfl (by omega) hc2 h1 (by unfold maxLen; omega) (by omega) hb2.size ?_; intro v' w5 hown' hgr' hat'; obtain ⟨n', rfl⟩ : ∃ n', n = n' + 1 := ⟨n - 1, by omega⟩; rw [Nat.zero_add, List.nil_append] at hown'; obtain ⟨g5, e5, rfl⟩ := rowSuccT hown')
  have hb3 := hb2.grown hgr' hb2.size (fun g e => (hR2.lt g e).1)
  go_ret
  exact ⟨g5, e5, rfl, hown', hb3⟩
theorem LvSt.push2 {w0 w2 w3 : World} {lo m c g e : Nat} {a : Option Addr} {ts : List T} {us : List Value} {t : T} {u : Value} (h : LvSt w0 w2 lo m c a ts us) (hlo : lo ≤ w2.heap.size) (hG : GIs w2 (fun b => lo ≤ b ∧ b < w2.heap.size ∧ (Value.slice a m c).ownBlock ≠ some b) t u)
    (hr : w3.ownsRow lo 70 1 (.slice (some ⟨g, 0, none⟩) (m + 1) e) (m + 1) (us ++ [u])) (hgr : w2.grownBy w3 (Value.slice a m c).ownBlock) (hat : (Value.slice (some ⟨g, 0, none⟩) (m + 1) e).ownBlock = (Value.slice a m c).ownBlock ∨ ∀ b, (Value.slice (some ⟨g, 0, none⟩) (m + 1) e).ownBlock = some b → w2.heap.size ≤ b) :
    LvSt w0 w3 lo (m + 1) e (some ⟨g, 0, none⟩) (ts ++ [t]) (us ++ [u]) := by
  have hf3 : Fr (fun b => (Value.slice a m c).ownBlock = some b) w2 w3 := Fr.of_grown hgr (fun b e => e)
  have hul : us.length = m := by have := h.row.1; omega
  have hnew : ∀ b, b < w2.heap.size → (Value.slice a m c).ownBlock ≠ some b → (Value.slice (some ⟨g, 0, none⟩) (m + 1) e).ownBlock ≠ some b := fun b hb2 hne => by
    rcases hat with e1 | e1
    · rw [e1]; exact hne
    · intro e2; have := e1 b e2; omega
  refine ⟨hr, by simp [h.len], fun i x hi => ?_, h.bel.trans (hf3.below hlo (fun b e => (h.row.lt b e).1))⟩
  by_cases hin : i < ts.length
  · rw [List.getElem?_append_left hin] at hi
    obtain ⟨v, e1, hGv⟩ := h.node i x hi
    refine ⟨v, by rw [List.getElem?_append_left (by rw [hul, ← h.len]; exact hin)]; exact e1, GIs.keep (fun b hp => hf3.block b hp.2.1 (fun e => hp.2.2 e)) (fun b hp => ⟨hp.1, Nat.lt_of_lt_of_le hp.2.1 hf3.size, hnew b hp.2.1 hp.2.2⟩) x v hGv⟩
  · have hie : i = ts.length := by
      have := (List.getElem?_eq_some_iff.1 hi).1
      simp at this; omega
    subst hie
    rw [List.getElem?_append_right (Nat.le_refl _), Nat.sub_self] at hi
    simp at hi
    subst hi
    refine ⟨u, by rw [List.getElem?_append_right (by rw [hul, h.len]; exact Nat.le_refl _), hul, h.len, Nat.sub_self]; rfl, GIs.keep (fun b hp => hf3.block b hp.2.1 (fun e => hp.2.2 e)) (fun b hp => ⟨hp.1, Nat.lt_of_lt_of_le hp.2.1 hf3.size, hnew b hp.2.1 hp.2.2⟩) t u hG⟩
theorem GIs.one {w : World} {P : Nat → Prop} {t : T} {u : Value} (h : GIs w P t u) : u.oneCell' = true := by
  cases hl : t.leaf
  · obtain ⟨L, a, n, c, us, rfl, _⟩ := h.inner hl; rfl
  · obtain ⟨L, a, n, c, rfl, _⟩ := h.leaf hl; rfl
/-- The new node over a share of the old level. -/
theorem LvSt.inner {w0 w w3 w4 : World} {lo n c at' s g vc L : Nat} {a : Option Addr} {ts : List T} {us : List Value} {Q : Nat → Prop} (h : LvSt w0 w lo n c a ts us) (hr : w3.ownsRow w.heap.size 70 1 (.slice (some ⟨g, 0, none⟩) s vc) s ((us.drop at').take s)) (hs : 0 < s) (hat : at' + s ≤ n) (hb : Below w.heap.size w w4) (hb4 : Below w3.heap.size w3 w4)
    (hbox : w4.heap[L]? = some (.cells #[.int .i64 0, .slice (some ⟨g, 0, none⟩) s vc] 101)) (hQL : Q L) (hQ : ∀ b, lo ≤ b → b < w.heap.size → Q b) (hQg : Q g) : GIs w4 Q (innB ((ts.drop at').take s)) (.iface 99 (.pointer (some ⟨L, 0, none⟩))) := by
  have hr4 := owns_below hr hb4
  have hul : us.length = n := by have := h.row.1; omega
  have hlen : ((ts.drop at').take s).length = s := by rw [List.length_take, List.length_drop, h.len]; omega
  rcases hr4.2 with ⟨e, e2⟩ | ⟨g', cap, cur, e, hg1, hg2, h1, h2, _⟩
  · omega
  · simp only [Value.slice.injEq, Option.some.injEq, Addr.mk.injEq] at e
    obtain ⟨⟨rfl, _⟩, _, rfl⟩ := e
    refine GInner.is (us := fun i => us.getD (at' + i) undef) ⟨hQL, hbox, ⟨hlen.symm, h1, h2⟩, fun _ => ⟨g, rfl, hQg, fun i hi => ?_⟩, fun i k _ hi => ?_⟩ rfl
    · rw [hr4.cellAt i (by omega), List.getElem?_take, if_pos hi, List.getElem?_drop]
      simp [List.getD, List.getElem?_eq_getElem (show at' + i < us.length by omega)]
    · have hi2 : ((ts.drop at').take s)[i]? = some k := hi
      have his : i < s := by have := (List.getElem?_eq_some_iff.1 hi2).1; omega
      rw [List.getElem?_take, if_pos his, List.getElem?_drop] at hi2
      obtain ⟨u, eu, hG⟩ := h.node (at' + i) k hi2
      have : us.getD (at' + i) undef = u := by simp [List.getD, eu]
      show GIs w4 Q k (us.getD (at' + i) undef)
      rw [this]
      exact GIs.keep (fun b hp => hb.block b hp.2.1) (fun b hp => hQ b hp.1 hp.2.1) k u hG
end Go.Proofs.Ytpmagndofiaooaa
