import Derived.Test.YtbgbokgomheodaaGreatGAA
import Derived.Test.YtbgbokgomheodaaGreatGBA
import Derived.Test.YtbgbokgomheodaaGreatGBC
namespace Go.Proofs.YtbgbokgomheodaaGreat
open Go.RowKit
set_option linter.unusedVariables false
set_option linter.unusedSimpArgs false
set_option maxRecDepth 100000
def innT (ys : List T) : T := ⟨false, 0, [], [], [], ys⟩
def SL (w : World) (Q : Nat → Prop) (ys : List T) (v : Value) : Prop := ∃ ya yc css, v = .slice ya ys.length yc ∧ QX w w.heap.size Q (innT ys) none 0 0 none 0 0 none 0 0 ya yc css
theorem inn_mk {w : World} {Q : Nat → Prop} {ys : List T} {base : Nat} {v : Value} {css : Nat → List Value} (h : w.ownsRow base 48 6 v ys.length (rowsC css ys.length)) (hq : ∀ g, base ≤ g → Q g) (hk : ∀ (i : Nat) z, ys[i]? = some z → NodeQ w w.heap.size Q z (css i)) : ∃ a c, v = .slice a ys.length c ∧ QX w w.heap.size Q (innT ys) none 0 0 none 0 0 none 0 0 a c css := by
 have h6 : ∀ i, i < ys.length → (css i).length = 6 := fun i hi => by
  obtain ⟨_, _, _, _, _, _, _, _, _, _, _, _, e, _⟩ := (hk i _ (List.getElem?_eq_getElem hi)).out
  rw [e]; rfl
 obtain ⟨a, c, rfl, h1, h2, h3, h4⟩ := kids_own h6 h
 have hn0 : ∀ {a' : Option Addr}, QA Q a' 0 := fun h => absurd h (by omega)
 exact ⟨a, c, rfl, ⟨(show I64 0 from ⟨by decide, by decide⟩), nilR _ _ _ _, nilR _ _ _ _, nilR _ _ _ _, ⟨h1, h2⟩, h4, fun i z hz hi => (hk i z hi).is⟩, hn0, hn0, hn0, (own_qa h).mono hq, fun i z _ hi => hk i z hi⟩
theorem kids_app {P : T → List Value → Prop} {A B : List T} {cA cB : Nat → List Value} {m : Nat} (hm : A.length = m) (hA : ∀ (i : Nat) z, A[i]? = some z → P z (cA i)) (hB : ∀ (i : Nat) z, B[i]? = some z → P z (cB i)) : ∀ (i : Nat) z, (A ++ B)[i]? = some z → P z ((fun i => if i < m then cA i else cB (i - m)) i) := fun i z hi => by
 subst hm
 by_cases hlt : i < A.length
 ·rw [List.getElem?_append_left hlt] at hi
  simp only [if_pos hlt]
  exact hA i z hi
 ·rw [List.getElem?_append_right (by omega)] at hi
  simp only [if_neg hlt]
  exact hB _ z hi
theorem put_slim (key val : ByteArray) (t : T) : Slim (putT key val t) := by
 obtain ⟨l, p, k, v, o, y⟩ := t
 rw [putT]
 cases l
 ·exact ⟨fun h => by simp at h, fun _ => by simp⟩
 ·exact ⟨fun _ => by simp [leafZ], fun h => by simp [leafZ] at h⟩
theorem SN.nodeQ {w : World} {Q : Nat → Prop} {o : T} {c0 c1 c2 c3 c4 c5 : Value} (h : SN w Q o (.agg #[c0, c1, c2, c3, c4, c5])) : NodeQ w w.heap.size Q o [c0, c1, c2, c3, c4, c5] := by
 obtain ⟨ka, kn, kc, va, vn, vc, oa, on, oc, ya, yc, css, e, hX⟩ := h
 cases e
 exact hX.mk'
theorem sl_one {w : World} {Q Q' : Nat → Prop} {o : T} {c0 c1 c2 c3 c4 c5 : Value} {ty : Nat} (h : SN w Q o (.agg #[c0, c1, c2, c3, c4, c5])) (hQ : ∀ g, Q g → Q' g) (hq : Q' w.heap.size) : SL (w.alloc (.cells #[c0, c1, c2, c3, c4, c5] ty)) Q' [o] (.slice (some ⟨w.heap.size, 0, none⟩) 1 1) := by
 have hb := (Below.refl w.heap.size w).alloc (Nat.le_refl _) (.cells #[c0, c1, c2, c3, c4, c5] ty)
 have hk := heap_alloc_new w (.cells #[c0, c1, c2, c3, c4, c5] ty)
 have hn0 : ∀ {a' : Option Addr}, QA Q' a' 0 := fun h => absurd h (by omega)
 have hN := NodeQ.keep (fun g _ hg => hb.block g hg) hQ hb.size o _ h.nodeQ
 have hlt := (Array.getElem?_eq_some_iff.1 hk).1
 generalize w.alloc (.cells #[c0, c1, c2, c3, c4, c5] ty) = W at *
 have kq : ∀ (i : Nat), ∀ z ∈ [o], [o][i]? = some z → NodeQ W W.heap.size Q' z ((fun _ => [c0, c1, c2, c3, c4, c5]) i) := fun i z hz _ => by
  simp at hz
  rw [hz]
  exact hN
 refine ⟨_, _, fun _ => [c0, c1, c2, c3, c4, c5], rfl, ⟨(show I64 0 from ⟨by decide, by decide⟩), nilR _ _ _ _, nilR _ _ _ _, nilR _ _ _ _, ⟨Nat.le_refl _, by unfold maxLen; omega⟩, fun _ => ⟨w.heap.size, 0, rfl, hlt, fun i hi j hj => ?_⟩, fun i z hz hi => (kq i z hz hi).is⟩, hn0, hn0, hn0, fun _ => ⟨_, _, rfl, hq⟩, kq⟩
 have hi0 : i = 0 := by simp [innT] at hi; exact hi
 subst hi0
 have hj6 : j = 0 ∨ j = 1 ∨ j = 2 ∨ j = 3 ∨ j = 4 ∨ j = 5 := by omega
 rcases hj6 with rfl | rfl | rfl | rfl | rfl | rfl <;> simp [World.cell?, hk]
theorem sl_two {w : World} {Q Q' : Nat → Prop} {o p : T} {c0 c1 c2 c3 c4 c5 d0 d1 d2 d3 d4 d5 : Value} {ty : Nat} (h : SN w Q o (.agg #[c0, c1, c2, c3, c4, c5])) (h2 : SN w Q p (.agg #[d0, d1, d2, d3, d4, d5])) (hQ : ∀ g, Q g → Q' g) (hq : Q' w.heap.size) : SL (w.alloc (.cells #[c0, c1, c2, c3, c4, c5, d0, d1, d2, d3, d4, d5] ty)) Q' [o, p] (.slice (some ⟨w.heap.size, 0, none⟩) 2 2) := by
 have hb := (Below.refl w.heap.size w).alloc (Nat.le_refl _) (.cells #[c0, c1, c2, c3, c4, c5, d0, d1, d2, d3, d4, d5] ty)
 have hk := heap_alloc_new w (.cells #[c0, c1, c2, c3, c4, c5, d0, d1, d2, d3, d4, d5] ty)
 have hn0 : ∀ {a' : Option Addr}, QA Q' a' 0 := fun h => absurd h (by omega)
 have hN := NodeQ.keep (fun g _ hg => hb.block g hg) hQ hb.size o _ h.nodeQ
 have hM := NodeQ.keep (fun g _ hg => hb.block g hg) hQ hb.size p _ h2.nodeQ
 have hlt := (Array.getElem?_eq_some_iff.1 hk).1
 generalize w.alloc (.cells #[c0, c1, c2, c3, c4, c5, d0, d1, d2, d3, d4, d5] ty) = W at *
 have kq : ∀ (i : Nat), ∀ z ∈ [o, p], [o, p][i]? = some z → NodeQ W W.heap.size Q' z ((fun i => if i = 0 then [c0, c1, c2, c3, c4, c5] else [d0, d1, d2, d3, d4, d5]) i) := fun i z hz hi => by
  match i, hi with
  | 0, hi => simp at hi; subst hi; exact hN
  | 1, hi => simp at hi; subst hi; exact hM
  | i + 2, hi => simp at hi
 refine ⟨_, _, (fun i => if i = 0 then [c0, c1, c2, c3, c4, c5] else [d0, d1, d2, d3, d4, d5]), rfl, ⟨(show I64 0 from ⟨by decide, by decide⟩), nilR _ _ _ _, nilR _ _ _ _, nilR _ _ _ _, ⟨Nat.le_refl _, by unfold maxLen; omega⟩, fun _ => ⟨w.heap.size, 0, rfl, hlt, fun i hi j hj => ?_⟩, fun i z hz hi => (kq i z hz hi).is⟩, hn0, hn0, hn0, fun _ => ⟨_, _, rfl, hq⟩, kq⟩
 have hi0 : i = 0 ∨ i = 1 := by simp [innT] at hi; omega
 have hj6 : j = 0 ∨ j = 1 ∨ j = 2 ∨ j = 3 ∨ j = 4 ∨ j = 5 := by omega
 rcases hi0 with rfl | rfl <;> rcases hj6 with rfl | rfl | rfl | rfl | rfl | rfl <;> simp [World.cell?, hk]
theorem kid_at {w : World} {Q : Nat → Prop} {t : T} {ka : Option Addr} {kn kc : Nat} {va : Option Addr} {vn vc : Nat} {oa : Option Addr} {on oc : Nat} {ya : Option Addr} {yc : Nat} {css : Nat → List Value} (h : QX w w.heap.size Q t ka kn kc va vn vc oa on oc ya yc css) {i : Nat} (hi : i < t.kids.length) :
  ∃ b off, ya = some ⟨b, off, none⟩ ∧ b < w.heap.size ∧ ∃ k, t.kids[i]? = some k ∧ k ∈ t.kids ∧ ∃ ka kn kc va vn vc oa on oc ya yc, SN w Q k (.agg #[.bool k.leaf, .int .i64 k.page, .slice ka kn kc, .slice va vn vc, .slice oa on oc, .slice ya k.kids.length yc]) ∧
   w.cell? ⟨b, off + i * 6, none⟩ = some (.bool k.leaf) ∧ w.cell? ⟨b, off + i * 6 + 1, none⟩ = some (.int .i64 k.page) ∧ w.cell? ⟨b, off + i * 6 + 2, none⟩ = some (.slice ka kn kc) ∧ w.cell? ⟨b, off + i * 6 + 3, none⟩ = some (.slice va vn vc) ∧ w.cell? ⟨b, off + i * 6 + 4, none⟩ = some (.slice oa on oc) ∧ w.cell? ⟨b, off + i * 6 + 5, none⟩ = some (.slice ya k.kids.length yc) := by
 obtain ⟨b, off, e, hb, hc⟩ := h.nx.cell (by omega)
 have hk : t.kids[i]? = some t.kids[i] := List.getElem?_eq_getElem hi
 have hm : t.kids[i] ∈ t.kids := List.getElem_mem hi
 obtain ⟨ka, kn, kc, va, vn, vc, oa, on, oc, ya, yc, css', e2, hx⟩ := (h.kq i _ hm hk).out
 have hc := hc i hi
 rw [e2] at hc
 exact ⟨b, off, e, hb, _, hk, hm, ka, kn, kc, va, vn, vc, oa, on, oc, ya, yc, ⟨_, _, _, _, _, _, _, _, _, _, _, _, rfl, hx⟩, by simpa using hc 0 (by omega), by simpa using hc 1 (by omega), by simpa using hc 2 (by omega), by simpa using hc 3 (by omega), by simpa using hc 4 (by omega), by simpa using hc 5 (by omega)⟩
set_option maxHeartbeats 8000000 in
theorem l3Put_any (key val : ByteArray) (hks : key.size ≤ maxLen) (hvs : val.size ≤ 400) : ∀ (t : T), Shape t → (∃ r, t.good r = true) → ∀ (w : World) (Q : Nat → Prop) (v : Value), (∀ b, Q b → b < w.heap.size) → SN w Q t v → Calls Tryz.prog 21 #[v, .string key, .string val] w fun e w' => ∃ v', e = .returned v' ∧ SL w' (fun g => Q g ∨ w.heap.size ≤ g) (cutT (putT key val t)) v' ∧ Below w.heap.size w w' := by
 intro t
 induction t using T.ind with
 | h t ih =>
  rintro hsh ⟨r, hg⟩ w Q v hQ h
  have HSN : Hid (SN w Q t v) := h
  have HQ : Hid (∀ b, Q b → b < w.heap.size) := hQ
  have HG : Hid (Shape t ∧ t.good r = true) := ⟨hsh, hg⟩
  have HV : Hid (val.size ≤ 400 ∧ key.size ≤ maxLen ∧ val.size ≤ maxLen) := ⟨hvs, hks, by unfold maxLen; omega⟩
  have HS5 : Hid ((putT key val t).size ≤ 5) := (soft_put key val hvs t r hg hsh).size.2
  have HIH : Hid _ := ih
  obtain ⟨ka, kn, kc, va, vn, vc, oa, on, oc, ya, yc, css, rfl, hXQ⟩ := h
  have HXQ : Hid _ := hXQ
  obtain ⟨yn, hyn⟩ : ∃ yn, t.kids.length = yn := ⟨_, rfl⟩
  obtain ⟨pg, hpg⟩ : ∃ pg, t.page = pg := ⟨_, rfl⟩
  have HYN : Hid (t.kids.length = yn ∧ t.page = pg) := ⟨hyn, hpg⟩
  obtain ⟨N, hN⟩ : ∃ N, w.heap.size = N := ⟨_, rfl⟩
  have hyc1 := hXQ.nx.cap.1
  have hyc2 := hXQ.nx.cap.2
  unfold maxLen at hyc2
  rw [hyn] at hyc1
  have hya : ya = none → t.kids.length = 0 := fun e => by
   rcases Nat.eq_zero_or_pos t.kids.length with h | h
   ·exact h
   ·obtain ⟨_, _, e2, _⟩ := hXQ.nx.cell h; rw [e] at e2; cases e2
  have HYA : Hid (ya = none → t.kids.length = 0) := hya
  clear ih hsh hg hQ hXQ hya hvs hks
  cases hl : t.leaf
  ·have HL : Hid (t.leaf = false) := hl
   rw [hl, hyn, hpg] at HSN
   rw [hyn, hpg]
   clear hl hyn hpg
   obtain ⟨W, hW⟩ : ∃ W, W = (w.alloc (.cells #[.bool false, .int .i64 pg, .slice ka kn kc, .slice va vn vc, .slice oa on oc, .slice ya yn yc] 48)).alloc (.cells #[.bool false, .int .i64 pg, .slice ka kn kc, .slice va vn vc, .slice oa on oc, .slice ya yn yc] 48) := ⟨_, rfl⟩
   have al := alloc2N w (.cells #[.bool false, .int .i64 pg, .slice ka kn kc, .slice va vn vc, .slice oa on oc, .slice ya yn yc] 48) (.cells #[.bool false, .int .i64 pg, .slice ka kn kc, .slice va vn vc, .slice oa on oc, .slice ya yn yc] 48)
   rw [← hW, hN] at al
   obtain ⟨k0, k1, sW, bW⟩ := al
   go_enter Tryz.func21, Tryz.ntmps21
   go_upto_region 2 with fail
   rw [← hW]
   clear hW
   have lN : N < W.heap.size := by omega
   obtain ⟨p0, p1, p2, p3, p4, p5⟩ := box6g k0
   obtain ⟨i3, hi3, hs0, hs1, hs2⟩ := info_parts info_l3N
   have h24 := good_two HG.out.2 HL.out
   rw [HYN.out.1] at h24
   obtain ⟨m, hm⟩ : ∃ m, towN key t.kids = m := ⟨_, rfl⟩
   have HM : Hid (towN key t.kids = m) := hm
   have SY : Hid (∀ V, Below N w V → SrcAt V N 6 yn (.slice ya yn yc) (rowsC css yn)) := fun V hb => by
    have := srcKids HXQ.out.nx (by have := HYN.out.1; omega) HYA.out
    rw [hN, HYN.out.1] at this
    exact this.below hb
   have H6 : Hid (∀ i, i < yn → (css i).length = 6) := fun i hi => (HXQ.out.nx.cells6 i (by have := HYN.out.1; omega)).1
   have hch : Calls Tryz.prog 44 #[.agg #[.bool false, .int .i64 pg, .slice ka kn kc, .slice va vn vc, .slice oa on oc, .slice ya yn yc], .string key] W fun e w' => e = .returned (.int .i64 m) ∧ m < yn ∧ Below W.heap.size W w' := by
    have := l3Child_any w.heap.size t key ⟨r, HG.out.2⟩ HL.out W ka kn kc va vn vc oa on oc ya yc css (by omega) (HXQ.out.nx.belowC (hN ▸ bW))
    rw [HL.out, HYN.out.1, HYN.out.2, hm] at this
    exact this
   clear hm
   go_upto_region 5 with (go_at_call 44; refine hch.mono ?_; rintro e w2 ⟨rfl, hmn, hb2⟩)
   have s2 := hb2.size
   have k02 := (hb2.block N (by omega)).trans k0
   have k12 := (hb2.block (N + 1) (by omega)).trans k1
   have b2 : Below N w w2 := bW.trans (hb2.mono (by omega))
   clear hch hb2 k0 k1 bW p0 p1 p2 p3 p4 p5 lN
   obtain ⟨p0, p1, p2, p3, p4, p5⟩ := box6g k02
   have lN : N < w2.heap.size := by omega
   have aE : Below w2.heap.size w2 (w2.alloc (.cells #[] 48)) := (Below.refl _ _).alloc (Nat.le_refl _) _
   have sE : w2.heap.size ≤ (w2.alloc (.cells #[] 48)).heap.size := by simp
   have rE := emptyE w2 48 6 (N + 2) (by omega)
   have src2 := (SY.out (w2.alloc (.cells #[] 48)) (b2.trans (aE.mono (by omega)))).fore (Nat.le_of_lt hmn)
   rw [(rowsC_part H6.out (Nat.le_of_lt hmn)).1] at src2
   have HNX : Hid (∀ v' w4, w4.ownsRow (N + 2) 48 6 v' (0 + m) ([] ++ rowsC css m) → (w2.alloc (.cells #[] 48)).grownBy w4 (Value.slice (some ⟨w2.heap.size, 0, none⟩) 0 0).ownBlock → ∃ x y, v' = .slice x m y ∧ w4.ownsRow (N + 2) 48 6 (.slice x m y) m (rowsC css m) ∧ Below w2.heap.size w2 w4) := by
    intro v' w4 g1 g2
    rw [Nat.zero_add, List.nil_append] at g1
    obtain ⟨x, y, rfl⟩ := own_shape g1
    exact ⟨x, y, rfl, g1, aE.grown g2 sE (fun g e => by have := own_some e; omega)⟩
   go_upto_region 6 with (at_builtin; refine wpList_append_S _ rfl _ _ 46 rfl (N + 2) 48 i3 _ 6 112 Tryz.underlying46 hi3 hs0 hs1 hs2 rfl (by decide) (by decide) _ 0 [] rfl rE (by omega) _ N m _ rfl src2 (by omega) ?_; intro v' w3 g1 g2 g3; obtain ⟨x3, y3, rfl, R3, hb3⟩ := HNX.out v' w3 g1 g2)
   have s3 := hb3.size
   have k03 := (hb3.block N (by omega)).trans k02
   have k13 := (hb3.block (N + 1) (by omega)).trans k12
   have b3 : Below N w w3 := b2.trans (hb3.mono (by omega))
   have s3' : N + 2 ≤ w3.heap.size := by omega
   clear HNX src2 rE aE sE g1 g2 g3 hb3 k02 k12 b2 p0 p1 p2 p3 p4 p5 lN s3 s2
   obtain ⟨b, off, rfl, hbl, k, hki, hkm, ka', kn', kc', va', vn', vc', oa', on', oc', ya', yc', hSk, c0, c1, c2, c3, c4, c5⟩ := kid_at HXQ.out (i := m) (by have := HYN.out.1; omega)
   have hcW : ∀ x, w3.cell? ⟨b, x, none⟩ = w.cell? ⟨b, x, none⟩ := fun x => World.cell?_of_block (a := ⟨b, x, none⟩) (b3.block b (by omega))
   rw [← hcW] at c0 c1 c2 c3 c4 c5
   obtain ⟨CK, hCK⟩ : ∃ CK, cutT (putT key val k) = CK := ⟨_, rfl⟩
   have hcl : CK.length ≤ 2 := by rw [← hCK]; exact (cut_len _).2
   have hrec := HIH.out k hkm (((shape_eq t).1 HG.out.1).2 k hkm) ⟨false, good_kid HG.out.2 hkm⟩ w3 Q _ (fun g hg => by have := HQ.out g hg; omega) (hSk.keep (fun g hg hlt => b3.block g (by omega)) (fun _ h => h) (by have := b3.size; omega))
   rw [hCK] at hrec
   have HO : Hid (putT key val t = (innT (t.kids.take m ++ CK ++ t.kids.drop (m + 1)))) := by
    show _ = _
    rw [putT_inner (k := k) HL.out (by rw [HM.out]; exact hki), HM.out, hCK]
    rfl
   have HS5C : Hid (∀ (w5 : World) (ya5 : Option Addr) (yc5 : Nat) (css5 : Nat → List Value), QX w5 w5.heap.size (fun g => Q g ∨ w3.heap.size ≤ g) (innT CK) none 0 0 none 0 0 none 0 0 ya5 yc5 css5 → SrcAt w5 w5.heap.size 6 CK.length (.slice ya5 CK.length yc5) (rowsC css5 CK.length)) := fun w5 ya5 yc5 css5 h => srcKids h.nx (by show CK.length ≤ _; omega) (fun e => by
    rcases Nat.eq_zero_or_pos CK.length with h0 | h0
    ·exact h0
    ·obtain ⟨_, _, e2, _⟩ := h.nx.cell h0; rw [e] at e2; cases e2)
   clear hki hkm hSk hcW hCK
   obtain ⟨p0, p1, p2, p3, p4, p5⟩ := box6g k03
   have lN : N < w3.heap.size := by omega
   go_upto_region 7 with (first | (go_at_call 21; refine hrec.mono ?_; rintro e w5 ⟨v5, rfl, hSL, hb5⟩; obtain ⟨ya5, yc5, css5, rfl, hQ5⟩ := hSL; have R5 := owns_below R3 hb5; have src5 := HS5C.out w5 ya5 yc5 css5 hQ5; have s5 := hb5.size) | (at_builtin; refine wpList_append_S _ rfl _ _ 46 rfl (N + 2) 48 i3 _ 6 112 Tryz.underlying46 hi3 hs0 hs1 hs2 rfl (by decide) (by decide) _ m (rowsC css m) rfl R5 (by omega) _ w5.heap.size CK.length _ rfl src5 (by omega) ?_; intro v6 w6 g1 g2 g3; obtain ⟨x6, y6, rfl⟩ := own_shape g1))
   have o3 : ∀ g, (Value.slice x3 m y3).ownBlock = some g → N + 2 ≤ g ∧ g < w3.heap.size := fun g hg => ⟨(R3.lt g hg).1, (R3.lt g hg).2⟩
   have h56 : ∀ g, (Q g ∨ w3.heap.size ≤ g ∨ g < N + 2) → g < w5.heap.size → w6.heap[g]? = w5.heap[g]? := fun g h1 h2 => g2.block g h2 (fun e => by have := o3 g e.symm; rcases h1 with h | h | h; (have := HQ.out g h; omega); omega; omega)
   have o6 : ∀ g, (Value.slice x6 (m + CK.length) y6).ownBlock = some g → N + 2 ≤ g ∧ (g < w3.heap.size ∨ w5.heap.size ≤ g) := fun g hg => ⟨(g1.lt g hg).1, g3.elim (fun h => .inl (o3 g (h ▸ hg)).2) (fun h => .inr (h g hg))⟩
   have b5 : Below N w w5 := b3.trans (hb5.mono (by omega))
   have s6 := g2.size
   have b6 : Below N w w6 := b5.trans ⟨g2.os, g2.tape, g2.output, s6, fun g hg => h56 g (.inr (.inr (by omega))) (by omega)⟩
   have k06 := (h56 N (.inr (.inr (by omega))) (by omega)).trans ((hb5.block N (by omega)).trans k03)
   have k16 := (h56 (N + 1) (.inr (.inr (by omega))) (by omega)).trans ((hb5.block (N + 1) (by omega)).trans k13)
   have R6 := g1
   clear hrec HS5C src5 R5 R3 o3 g1 g2 g3 k03 k13 p0 p1 p2 p3 p4 p5 lN b5 hb5 c0 c1 c2 c3 c4 c5
   obtain ⟨p0, p1, p2, p3, p4, p5⟩ := box6g k06
   have lN : N < w6.heap.size := by omega
   have src7 := (SY.out w6 b6).rest (k := m + 1) (by omega) (by omega)
   rw [(rowsC_part H6.out (k := m + 1) (by omega)).2] at src7
   have HST : Hid (∀ w7, w6.grownBy w7 (Value.slice x6 (m + CK.length) y6).ownBlock → w7.heap[N + 1]? = w6.heap[N + 1]?) := fun w7 g => g.block _ (by omega) (fun e => by have := o6 _ e.symm; omega)
   go_upto_region 8 with (at_builtin; refine wpList_append_S _ rfl _ _ 46 rfl (N + 2) 48 i3 _ 6 112 Tryz.underlying46 hi3 hs0 hs1 hs2 rfl (by decide) (by decide) _ (m + CK.length) (rowsC css m ++ rowsC css5 CK.length) rfl R6 (by omega) _ N (yn - (m + 1)) _ rfl src7 (by omega) ?_; intro v7 w7 g1 g2 g3; obtain ⟨x7, y7, rfl⟩ := own_shape g1; have k17 := (HST.out w7 g2).trans k16; obtain ⟨z0, z1, z2, z3, z4, z5⟩ := box6g k17; have f7 := thawT k17; have l7 := (Array.getElem?_eq_some_iff.1 k17).1)
   obtain ⟨X, hX⟩ : ∃ X, put6T w7 (N + 1) (.bool false) (.int .i64 0) (.slice none 0 0) (.slice none 0 0) (.slice none 0 0) (.slice x7 (m + CK.length + (yn - (m + 1))) y7) = X := ⟨_, rfl⟩
   have eX : ((((((w7.setCell ⟨N + 1, 0, none⟩ (.bool false)).setCell ⟨N + 1, 1, none⟩ (.int .i64 0)).setCell ⟨N + 1, 2, none⟩ (.slice none 0 0)).setCell ⟨N + 1, 3, none⟩ (.slice none 0 0)).setCell ⟨N + 1, 4, none⟩ (.slice none 0 0)).setCell ⟨N + 1, 5, none⟩ (.slice x7 (m + CK.length + (yn - (m + 1))) y7)) = X := (put6T_eq w7 (N + 1) (.bool false) (.int .i64 0) (.slice none 0 0) (.slice none 0 0) (.slice none 0 0) (.slice x7 (m + CK.length + (yn - (m + 1))) y7)).trans hX
   have hp := put6T_fr w7 (N + 1) (.bool false) (.int .i64 0) (.slice none 0 0) (.slice none 0 0) (.slice none 0 0) (.slice x7 (m + CK.length + (yn - (m + 1))) y7)
   have kO := put6T_box k17 (.bool false) (.int .i64 0) (.slice none 0 0) (.slice none 0 0) (.slice none 0 0) (.slice x7 (m + CK.length + (yn - (m + 1))) y7)
   rw [hX] at hp kO
   try rw [eX]
   clear eX hX
   have s7 := g2.size
   have s8 := hp.size
   have bX : Below N w X := b6.trans ⟨hp.os.trans g2.os, hp.tape.trans g2.tape, hp.output.trans g2.output, by omega, fun g hg => (hp.block g (by omega) (by omega)).trans (g2.block g (by omega) (fun e => by have := o6 g e.symm; omega))⟩
   have sX : N + 2 ≤ X.heap.size := by omega
   have hcw : (t.kids.take m).length = m := by rw [List.length_take]; have := HYN.out.1; omega
   have hys : (t.kids.take m ++ CK ++ t.kids.drop (m + 1)).length = m + CK.length + (yn - (m + 1)) := by simp only [List.length_append, List.length_drop, hcw]; have := HYN.out.1; omega
   obtain ⟨c7, hc7⟩ : ∃ c7 : Nat → List Value, c7 = fun i => if i < m + CK.length then (fun i => if i < m then css i else css5 (i - m)) i else (fun i => css (i + (m + 1))) (i - (m + CK.length)) := ⟨_, rfl⟩
   have hR : X.ownsRow (N + 2) 48 6 (.slice x7 (m + CK.length + (yn - (m + 1))) y7) (m + CK.length + (yn - (m + 1))) (rowsC c7 (m + CK.length + (yn - (m + 1)))) := by
    have g1' := owns_fr g1 hp (fun g hg e => by have := (g1.lt g hg).1; omega)
    rw [rowsC_app (cA := css) (cB := css5) (m := m) (n := CK.length), rowsC_app (cA := fun i => if i < m then css i else css5 (i - m)) (cB := fun i => css (i + (m + 1))) (m := m + CK.length) (n := yn - (m + 1)), ← hc7] at g1'
    exact g1'
   have hk3 : ∀ z cs, NodeQ w w.heap.size Q z cs → NodeQ X X.heap.size (fun g => Q g ∨ N + 2 ≤ g) z cs := fun z cs h => NodeQ.keep (fun g hg hlt => bX.block g (by omega)) (fun g hg => .inl hg) (by have := bX.size; omega) z cs h
   have hk5 : ∀ (i : Nat) z, CK[i]? = some z → NodeQ X X.heap.size (fun g => Q g ∨ N + 2 ≤ g) z (css5 i) := fun i z hi => by
    refine NodeQ.keep (fun g hg hlt => ?_) (fun g hg => hg.imp id (fun h => by omega)) (by omega) z _ (hQ5.kq i z (List.mem_of_getElem? hi) hi)
    refine (hp.block g (by omega) (fun e => ?_)).trans ((g2.block g (by omega) (fun e => ?_)).trans (h56 g (hg.imp id .inl) hlt))
    ·subst e; exact hg.elim (fun h => by have := HQ.out _ h; omega) (fun h => by omega)
    ·have := o6 g e.symm; rcases hg with h | h
     ·have := HQ.out g h; omega
     ·omega
   have hkk : ∀ (i : Nat) z, (t.kids.take m ++ CK ++ t.kids.drop (m + 1))[i]? = some z → NodeQ X X.heap.size (fun g => Q g ∨ N + 2 ≤ g) z (c7 i) := by
    rw [hc7]
    exact kids_app (P := fun z cs => NodeQ X X.heap.size (fun g => Q g ∨ N + 2 ≤ g) z cs) (by rw [List.length_append, hcw]) (kids_app (P := fun z cs => NodeQ X X.heap.size (fun g => Q g ∨ N + 2 ≤ g) z cs) hcw (fun i z hi => by
      rw [List.getElem?_take] at hi
      split at hi
      ·exact hk3 _ _ (HXQ.out.kq i z (List.mem_of_getElem? hi) hi)
      ·cases hi) hk5) (fun i z hi => by
      rw [List.getElem?_drop, Nat.add_comm] at hi
      exact hk3 _ _ (HXQ.out.kq _ z (List.mem_of_getElem? hi) hi))
   have hOX : QX X X.heap.size (fun g => Q g ∨ N + 2 ≤ g) (innT (t.kids.take m ++ CK ++ t.kids.drop (m + 1))) none 0 0 none 0 0 none 0 0 x7 y7 c7 := by
    rw [← hys] at hR
    obtain ⟨a', c', e', h'⟩ := inn_mk (Q := fun g => Q g ∨ N + 2 ≤ g) hR (fun g hg => .inr hg) hkk
    simp only [Value.slice.injEq] at e'
    obtain ⟨rfl, _, rfl⟩ := e'
    exact h'
   have HLEN : Hid ((innT (t.kids.take m ++ CK ++ t.kids.drop (m + 1))).kids.length = m + CK.length + (yn - (m + 1))) := hys
   clear hys hkk hc7
   obtain ⟨ys, hys0⟩ : ∃ ys, t.kids.take m ++ CK ++ t.kids.drop (m + 1) = ys := ⟨_, rfl⟩
   rw [hys0] at hOX HO HLEN
   clear hys0
   clear src7 HST g1 g2 g3 k17 z0 z1 z2 z3 z4 z5 f7 l7 hp k06 k16 p0 p1 p2 p3 p4 p5 b6 lN hR hk3 hk5 h56 o6 s7 s8 R6 hQ5 hcw
   have hszc : Calls Tryz.prog 45 #[.agg #[.bool false, .int .i64 0, .slice none 0 0, .slice none 0 0, .slice none 0 0, .slice x7 (m + CK.length + (yn - (m + 1))) y7]] X fun e w' => e = .returned (.int .i64 ((innT ys)).size) ∧ Below X.heap.size X w' := by
    have h1 := l3Size_any (innT ys) none 0 0 none 0 0 none 0 0 x7 y7 X hOX.nx.keys.1
    rw [HLEN.out] at h1
    exact h1
   have HSX : Hid (SN X (fun g => Q g ∨ N + 2 ≤ g) (innT ys) (.agg #[.bool false, .int .i64 0, .slice none 0 0, .slice none 0 0, .slice none 0 0, .slice x7 (m + CK.length + (yn - (m + 1))) y7])) := by
    have h1 : SN X (fun g => Q g ∨ N + 2 ≤ g) (innT ys) _ := ⟨_, _, _, _, _, _, _, _, _, _, _, _, rfl, hOX⟩
    rw [HLEN.out] at h1
    exact h1
   obtain ⟨sz, hsz⟩ : ∃ sz, ((innT ys)).size = sz := ⟨_, rfl⟩
   have HSZ : Hid (((innT ys)).size = sz) := hsz
   rw [hsz] at hszc
   have hs5 : sz ≤ 5 := by have h1 := HS5.out; rw [HO.out] at h1; omega
   clear hsz hOX
   obtain ⟨q0, q1, q2, q3, q4, q5⟩ := box6g kO
   have lX : N + 1 < X.heap.size := by omega
   go_wp2_with fail
   all_goals (
    refine hszc.mono ?_
    rintro e w14 ⟨rfl, hb4⟩
    have k4 := (hb4.block (N + 1) lX).trans kO
    have HS4 : Hid (SN w14 (fun g => Q g ∨ N + 2 ≤ g) (innT ys) (.agg #[.bool false, .int .i64 0, .slice none 0 0, .slice none 0 0, .slice none 0 0, .slice x7 (m + CK.length + (yn - (m + 1))) y7])) := HSX.out.below hb4
    have b4 : Below N w w14 := bX.trans (hb4.mono (by omega))
    have s14 : N + 2 ≤ w14.heap.size := by have := hb4.size; omega
    clear hszc HSX q0 q1 q2 q3 q4 q5 hb4 kO bX
    obtain ⟨q0, q1, q2, q3, q4, q5⟩ := box6g k4
    have l4 : N + 1 < w14.heap.size := by omega
    by_cases h4 : sz ≤ 4
    ·have HC : Hid (cutT (putT key val t) = [(innT ys)]) := by
      show _ = _
      rw [HO.out]
      unfold cutT
      rw [if_pos (by have := HSZ.out; omega)]
     go_wp2_with fail
     go_ret
     refine ⟨_, rfl, ?_, by rw [hN]; exact b4.trans ((Below.refl w14.heap.size w14).alloc (Nat.le_refl _) _ |>.mono (by omega))⟩
     rw [HC.out]
     exact sl_one HS4.out (fun g hg => hg.imp id (fun h => by omega)) (.inr (by omega))
    ·have HC : Hid (cutT (putT key val t) = [(innT ys).fore 3, (innT ys).rest 3]) := by
      show _ = _
      rw [HO.out]
      unfold cutT
      rw [if_neg (by have := HSZ.out; omega)]
     have hprt := l3Part_any HS4.out (HO.out ▸ put_slim key val t) 3 (by have := HSZ.out; omega) (by have := HSZ.out; omega)
     go_upto_region 11 with (go_at_call 46; refine hprt.mono ?_; rintro e w15 ⟨v1, v2, rfl, hA, hR, hb15⟩; obtain ⟨u0, u1, u2, u3, u4, u5, u6, u7, u8, u9, u10, rfl⟩ := hA.shape; obtain ⟨n0, n1, n2, n3, n4, n5, n6, n7, n8, n9, n10, rfl⟩ := hR.shape)
     have al5 := alloc2N w15 (.cells #[.bool ((innT ys).fore 3).leaf, .int .i64 ((innT ys).fore 3).page, .slice u0 u1 u2, .slice u3 u4 u5, .slice u6 u7 u8, .slice u9 ((innT ys).fore 3).kids.length u10] 48) (.cells #[.bool ((innT ys).rest 3).leaf, .int .i64 ((innT ys).rest 3).page, .slice n0 n1 n2, .slice n3 n4 n5, .slice n6 n7 n8, .slice n9 ((innT ys).rest 3).kids.length n10] 48)
     generalize (w15.alloc (.cells #[.bool ((innT ys).fore 3).leaf, .int .i64 ((innT ys).fore 3).page, .slice u0 u1 u2, .slice u3 u4 u5, .slice u6 u7 u8, .slice u9 ((innT ys).fore 3).kids.length u10] 48)).alloc (.cells #[.bool ((innT ys).rest 3).leaf, .int .i64 ((innT ys).rest 3).page, .slice n0 n1 n2, .slice n3 n4 n5, .slice n6 n7 n8, .slice n9 ((innT ys).rest 3).kids.length n10] 48) = W15 at al5 ⊢
     obtain ⟨kA, kR, sW15, bW15⟩ := al5
     have s15 := hb15.size
     have hA5 : Hid (SN W15 (fun g => Q g ∨ N + 2 ≤ g) _ _) := (hA.below bW15).mono (fun g hg => hg.elim (fun h => h) (fun h => .inr (by omega)))
     have hR5 : Hid (SN W15 (fun g => Q g ∨ N + 2 ≤ g) _ _) := (hR.below bW15).mono (fun g hg => hg.elim (fun h => h) (fun h => .inr (by omega)))
     have b15 : Hid (Below N w W15) := b4.trans ((hb15.trans (bW15.mono s15)).mono (by omega))
     clear hprt hA hR hb15 bW15 q0 q1 q2 q3 q4 q5 k4 b4
     obtain ⟨q0, q1, q2, q3, q4, q5⟩ := box6g kA
     obtain ⟨r0, r1, r2, r3, r4, r5⟩ := box6g kR
     have l15 : w15.heap.size < W15.heap.size ∧ w15.heap.size + 1 < W15.heap.size := by omega
     go_wp2_with fail
     go_ret
     refine ⟨_, rfl, ?_, by rw [hN]; exact b15.out.trans ((Below.refl W15.heap.size W15).alloc (Nat.le_refl _) _ |>.mono (by omega))⟩
     rw [HC.out]
     have h9 := sl_two (ty := 48) (Q' := fun g => Q g ∨ w.heap.size ≤ g) hA5.out hR5.out (fun g hg => hg.imp id (fun h => by omega)) (.inr (by omega))
     rw [sW15] at h9
     exact h9
    )
  ·have HL : Hid (t.leaf = true) := hl
   rw [hl, hyn, hpg] at HSN
   rw [hyn, hpg]
   clear hl hyn hpg
   obtain ⟨W, hW⟩ : ∃ W, W = (w.alloc (.cells #[.bool true, .int .i64 pg, .slice ka kn kc, .slice va vn vc, .slice oa on oc, .slice ya yn yc] 48)).alloc (.cells #[.bool true, .int .i64 pg, .slice ka kn kc, .slice va vn vc, .slice oa on oc, .slice ya yn yc] 48) := ⟨_, rfl⟩
   have al := alloc2N w (.cells #[.bool true, .int .i64 pg, .slice ka kn kc, .slice va vn vc, .slice oa on oc, .slice ya yn yc] 48) (.cells #[.bool true, .int .i64 pg, .slice ka kn kc, .slice va vn vc, .slice oa on oc, .slice ya yn yc] 48)
   rw [← hW, hN] at al
   obtain ⟨k0, k1, sW, bW⟩ := al
   go_enter Tryz.func21, Tryz.ntmps21
   go_upto_region 2 with fail
   rw [← hW]
   clear hW
   have lN : N < W.heap.size := by omega
   obtain ⟨p0, p1, p2, p3, p4, p5⟩ := box6g k0
   have HSL : Hid (Slim t ∧ t.size ≤ 900) := by
    have h1 := good_parts HG.out.2
    have h2 := h1.2.1 HL.out
    exact ⟨⟨fun _ => ⟨((shape_eq t).1 HG.out.1).1 HL.out, h2.1, h2.2.1⟩, fun h => absurd h (by simp [HL.out])⟩, by have := h1.1.2; omega⟩
   have hset := l3Set_any (fun b hb => by have := HQ.out b hb; omega) (HSN.out.below (hN ▸ bW)) HL.out HSL.out.1 HSL.out.2 key val HV.out.2.1 HV.out.2.2
   go_upto_region 8 with (go_at_call 43; refine hset.mono ?_; rintro e w3 ⟨v3, rfl, hS, hb3⟩; obtain ⟨e0, e1, e2, e3, e4, e5, e6, e7, e8, e9, e10, cs3, rfl, hOX3⟩ := hS; have k13 := (hb3.block (N + 1) (by omega)).trans k1; obtain ⟨z0, z1, z2, z3, z4, z5⟩ := box6g k13; have f3 := thawT k13; have l3 := (Array.getElem?_eq_some_iff.1 k13).1)
   obtain ⟨X, hX⟩ : ∃ X, put6T w3 (N + 1) (.bool (putT key val t).leaf) (.int .i64 (putT key val t).page) (.slice e0 e1 e2) (.slice e3 e4 e5) (.slice e6 e7 e8) (.slice e9 (putT key val t).kids.length e10) = X := ⟨_, rfl⟩
   have eX : ((((((w3.setCell ⟨N + 1, 0, none⟩ (.bool (putT key val t).leaf)).setCell ⟨N + 1, 1, none⟩ (.int .i64 (putT key val t).page)).setCell ⟨N + 1, 2, none⟩ (.slice e0 e1 e2)).setCell ⟨N + 1, 3, none⟩ (.slice e3 e4 e5)).setCell ⟨N + 1, 4, none⟩ (.slice e6 e7 e8)).setCell ⟨N + 1, 5, none⟩ (.slice e9 (putT key val t).kids.length e10)) = X := (put6T_eq w3 (N + 1) (.bool (putT key val t).leaf) (.int .i64 (putT key val t).page) (.slice e0 e1 e2) (.slice e3 e4 e5) (.slice e6 e7 e8) (.slice e9 (putT key val t).kids.length e10)).trans hX
   have hp := put6T_fr w3 (N + 1) (.bool (putT key val t).leaf) (.int .i64 (putT key val t).page) (.slice e0 e1 e2) (.slice e3 e4 e5) (.slice e6 e7 e8) (.slice e9 (putT key val t).kids.length e10)
   have kO := put6T_box k13 (.bool (putT key val t).leaf) (.int .i64 (putT key val t).page) (.slice e0 e1 e2) (.slice e3 e4 e5) (.slice e6 e7 e8) (.slice e9 (putT key val t).kids.length e10)
   rw [hX] at hp kO
   rw [eX]
   clear eX hX
   have s3 := hb3.size
   have bX : Below N w X := (bW.trans (hb3.mono (by omega))).trans (hp.below (by omega) (fun g e => by omega))
   have sX : N + 2 ≤ X.heap.size := by have := hp.size; omega
   have hOX : QX X X.heap.size (fun g => Q g ∨ N + 2 ≤ g) (putT key val t) e0 e1 e2 e3 e4 e5 e6 e7 e8 e9 e10 cs3 := hOX3.keep (fun b hb hlt => hp.block b hlt (fun e => by subst e; exact hb.elim (fun h => by have := HQ.out _ h; omega) (fun h => by omega))) (fun b hb => hb.imp id (fun h => by omega)) hp.size
   obtain ⟨oo, ho⟩ : ∃ oo, putT key val t = oo := ⟨_, rfl⟩
   have HO : Hid (putT key val t = oo) := ho
   rw [ho] at hOX kO ⊢
   clear ho
   clear hset hOX3 hb3 k13 z0 z1 z2 z3 z4 z5 f3 l3 hp k0 k1 p0 p1 p2 p3 p4 p5 bW s3 lN
   clear w3
   have hszc : Calls Tryz.prog 45 #[.agg #[.bool oo.leaf, .int .i64 oo.page, .slice e0 e1 e2, .slice e3 e4 e5, .slice e6 e7 e8, .slice e9 oo.kids.length e10]] X fun e w' => e = .returned (.int .i64 (oo).size) ∧ Below X.heap.size X w' := by
    have h1 := l3Size_any oo e0 e1 e2 e3 e4 e5 e6 e7 e8 e9 e10 X hOX.nx.keys.1
    skip
    exact h1
   have HSX : Hid (SN X (fun g => Q g ∨ N + 2 ≤ g) oo (.agg #[.bool oo.leaf, .int .i64 oo.page, .slice e0 e1 e2, .slice e3 e4 e5, .slice e6 e7 e8, .slice e9 oo.kids.length e10])) := by
    have h1 : SN X (fun g => Q g ∨ N + 2 ≤ g) oo _ := ⟨_, _, _, _, _, _, _, _, _, _, _, _, rfl, hOX⟩
    skip
    exact h1
   obtain ⟨sz, hsz⟩ : ∃ sz, (oo).size = sz := ⟨_, rfl⟩
   have HSZ : Hid ((oo).size = sz) := hsz
   rw [hsz] at hszc
   have hs5 : sz ≤ 5 := by have h1 := HS5.out; rw [HO.out] at h1; omega
   clear hsz hOX
   obtain ⟨q0, q1, q2, q3, q4, q5⟩ := box6g kO
   have lX : N + 1 < X.heap.size := by omega
   go_wp2_with fail
   refine hszc.mono ?_
   rintro e w14 ⟨rfl, hb4⟩
   have k4 := (hb4.block (N + 1) lX).trans kO
   have HS4 : Hid (SN w14 (fun g => Q g ∨ N + 2 ≤ g) oo (.agg #[.bool oo.leaf, .int .i64 oo.page, .slice e0 e1 e2, .slice e3 e4 e5, .slice e6 e7 e8, .slice e9 oo.kids.length e10])) := HSX.out.below hb4
   have b4 : Below N w w14 := bX.trans (hb4.mono (by omega))
   have s14 : N + 2 ≤ w14.heap.size := by have := hb4.size; omega
   clear hszc HSX q0 q1 q2 q3 q4 q5 hb4 kO bX
   obtain ⟨q0, q1, q2, q3, q4, q5⟩ := box6g k4
   have l4 : N + 1 < w14.heap.size := by omega
   by_cases h4 : sz ≤ 4
   ·have HC : Hid (cutT (putT key val t) = [oo]) := by
     show _ = _
     rw [HO.out]
     unfold cutT
     rw [if_pos (by have := HSZ.out; omega)]
    go_wp2_with fail
    go_ret
    refine ⟨_, rfl, ?_, by rw [hN]; exact b4.trans ((Below.refl w14.heap.size w14).alloc (Nat.le_refl _) _ |>.mono (by omega))⟩
    rw [HC.out]
    exact sl_one HS4.out (fun g hg => hg.imp id (fun h => by omega)) (.inr (by omega))
   ·have HC : Hid (cutT (putT key val t) = [oo.fore 3, oo.rest 3]) := by
     show _ = _
     rw [HO.out]
     unfold cutT
     rw [if_neg (by have := HSZ.out; omega)]
    have hprt := l3Part_any HS4.out (HO.out ▸ put_slim key val t) 3 (by have := HSZ.out; omega) (by have := HSZ.out; omega)
    go_upto_region 11 with (go_at_call 46; refine hprt.mono ?_; rintro e w15 ⟨v1, v2, rfl, hA, hR, hb15⟩; obtain ⟨u0, u1, u2, u3, u4, u5, u6, u7, u8, u9, u10, rfl⟩ := hA.shape; obtain ⟨n0, n1, n2, n3, n4, n5, n6, n7, n8, n9, n10, rfl⟩ := hR.shape)
    have al5 := alloc2N w15 (.cells #[.bool (oo.fore 3).leaf, .int .i64 (oo.fore 3).page, .slice u0 u1 u2, .slice u3 u4 u5, .slice u6 u7 u8, .slice u9 (oo.fore 3).kids.length u10] 48) (.cells #[.bool (oo.rest 3).leaf, .int .i64 (oo.rest 3).page, .slice n0 n1 n2, .slice n3 n4 n5, .slice n6 n7 n8, .slice n9 (oo.rest 3).kids.length n10] 48)
    generalize (w15.alloc (.cells #[.bool (oo.fore 3).leaf, .int .i64 (oo.fore 3).page, .slice u0 u1 u2, .slice u3 u4 u5, .slice u6 u7 u8, .slice u9 (oo.fore 3).kids.length u10] 48)).alloc (.cells #[.bool (oo.rest 3).leaf, .int .i64 (oo.rest 3).page, .slice n0 n1 n2, .slice n3 n4 n5, .slice n6 n7 n8, .slice n9 (oo.rest 3).kids.length n10] 48) = W15 at al5 ⊢
    obtain ⟨kA, kR, sW15, bW15⟩ := al5
    have s15 := hb15.size
    have hA5 : Hid (SN W15 (fun g => Q g ∨ N + 2 ≤ g) _ _) := (hA.below bW15).mono (fun g hg => hg.elim (fun h => h) (fun h => .inr (by omega)))
    have hR5 : Hid (SN W15 (fun g => Q g ∨ N + 2 ≤ g) _ _) := (hR.below bW15).mono (fun g hg => hg.elim (fun h => h) (fun h => .inr (by omega)))
    have b15 : Hid (Below N w W15) := b4.trans ((hb15.trans (bW15.mono s15)).mono (by omega))
    clear hprt hA hR hb15 bW15 q0 q1 q2 q3 q4 q5 k4 b4
    obtain ⟨q0, q1, q2, q3, q4, q5⟩ := box6g kA
    obtain ⟨r0, r1, r2, r3, r4, r5⟩ := box6g kR
    have l15 : w15.heap.size < W15.heap.size ∧ w15.heap.size + 1 < W15.heap.size := by omega
    go_wp2_with fail
    go_ret
    refine ⟨_, rfl, ?_, by rw [hN]; exact b15.out.trans ((Below.refl W15.heap.size W15).alloc (Nat.le_refl _) _ |>.mono (by omega))⟩
    rw [HC.out]
    have h9 := sl_two (ty := 48) (Q' := fun g => Q g ∨ w.heap.size ≤ g) hA5.out hR5.out (fun g hg => hg.imp id (fun h => by omega)) (.inr (by omega))
    rw [sW15] at h9
    exact h9
def cE (j : Nat) : TypeId := if j < 2 then 9 else 2
def cS (j : Nat) : Nat := 1
structure JC (SZ : Nat) (Wd : World) (M : Nat) (da : Nat → Nat → Nat) (con : Nat → Nat → List Value) (len : Nat → Nat → Nat) (keep : List (Nat × Value)) (p : Nat → Nat) (a : Act) (w : World) : Prop where
 sz : a.tmps.size = SZ
 df : a.defers = []
 kp : ∀ x ∈ keep, a.eval (.tmp x.1) = x.2
 cur : ∀ j, j < 4 → 0 < p j → w.ownsRow M (cE j) (cS j) (a.eval (.tmp (da j (p j)))) (len j (p j)) (con j (p j))
 apart : ∀ i j, i < 4 → j < 4 → i ≠ j → 0 < p i → 0 < p j → ∀ g, (a.eval (.tmp (da i (p i)))).ownBlock = some g → (a.eval (.tmp (da j (p j)))).ownBlock ≠ some g
 fr : Fr (fun g => M ≤ g) Wd w
theorem JC.move {SZ M : Nat} {Wd : World} {da : Nat → Nat → Nat} {con : Nat → Nat → List Value} {len : Nat → Nat → Nat} {keep : List (Nat × Value)} {p : Nat → Nat} {a : Act} {w w' : World} (h : JC SZ Wd M da con len keep p a w) {j q mx : Nat} (hj : j < 4) (hq : 0 < q) (hqm : q ≤ mx) (hpm : ∀ i, i < 4 → p i ≤ mx) (hinj : ∀ i r k s, i < 4 → k < 4 → 0 < r → r ≤ mx → 0 < s → s ≤ mx → i ≠ k → da i r ≠ da k s) (hks : ∀ x ∈ keep, x.1 ≠ da j q) (hds : da j q < SZ) (hM : M ≤ w.heap.size)
  {v : Value} (hrow : w'.ownsRow M (cE j) (cS j) v (len j q) (con j q)) (hf : Fr (fun g => 0 < p j ∧ (a.eval (.tmp (da j (p j)))).ownBlock = some g) w w') (hat : ∀ g, v.ownBlock = some g → (0 < p j ∧ (a.eval (.tmp (da j (p j)))).ownBlock = some g) ∨ w.heap.size ≤ g) :
  JC SZ Wd M da con len keep (upP p j q) (a.put (some (da j q)) v) w' := by
 have hd : da j q < a.tmps.size := by rw [h.sz]; exact hds
 have hE : ∀ i, i < 4 → i ≠ j → 0 < p i → (a.put (some (da j q)) v).eval (.tmp (da i (p i))) = a.eval (.tmp (da i (p i))) := fun i hi hne h0 => eval_ne a _ _ v (hinj i (p i) j q hi hj h0 (hpm i hi) hq hqm hne)
 have hnew : ∀ i, i < 4 → i ≠ j → 0 < p i → ∀ g, (a.eval (.tmp (da i (p i)))).ownBlock = some g → v.ownBlock ≠ some g := fun i hi hne h0 g hg e => by
  rcases hat g e with ⟨h1, h2⟩ | h2
  ·exact h.apart i j hi hj hne h0 h1 g hg h2
  ·have := ((h.cur i hi h0).lt g hg).2; omega
 refine ⟨by simp [Act.put, h.sz], by simp [Act.put, h.df], fun x hx => by rw [eval_ne a _ _ v (hks x hx)]; exact h.kp x hx, fun i hi h0 => ?_, fun i k hi hk hne h0 h1 g hg => ?_, ?_⟩
 ·by_cases hij : i = j
  ·subst hij
   simp only [upP, if_true] at h0 ⊢
   rw [eval_eq a _ v hd]
   exact hrow
  ·simp only [upP, if_neg hij] at h0 ⊢
   rw [hE i hi hij h0]
   exact owns_fr (h.cur i hi h0) hf (fun g hg e => h.apart i j hi hj hij h0 e.1 g hg e.2)
 ·by_cases hij : i = j
  ·subst hij
   have hki : k ≠ i := fun e => hne e.symm
   simp only [upP, if_true, if_neg hki] at h0 h1 hg ⊢
   rw [eval_eq a _ v hd] at hg
   rw [hE k hk hki h1]
   exact fun e => hnew k hk hki h1 g e hg
  ·by_cases hkj : k = j
   ·subst hkj
    simp only [upP, if_true, if_neg hij] at h0 h1 hg ⊢
    rw [eval_eq a _ v hd]
    rw [hE i hi hij h0] at hg
    exact hnew i hi hij h0 g hg
   ·simp only [upP, if_neg hij, if_neg hkj] at h0 h1 hg ⊢
    rw [hE i hi hij h0] at hg
    rw [hE k hk hkj h1]
    exact h.apart i k hi hk hne h0 h1 g hg
 ·refine h.fr.trans (hf.weak (fun g e => ((h.cur j hj e.1).lt g e.2).1))
theorem JC.re {SZ M : Nat} {Wd : World} {da : Nat → Nat → Nat} {con : Nat → Nat → List Value} {len : Nat → Nat → Nat} {keep : List (Nat × Value)} {p p' : Nat → Nat} {a : Act} {w : World} (h : JC SZ Wd M da con len keep p a w) (e : ∀ j, j < 4 → p' j = p j) : JC SZ Wd M da con len keep p' a w :=
 ⟨h.sz, h.df, h.kp, fun j hj h0 => by rw [e j hj] at h0 ⊢; exact h.cur j hj h0, fun i j hi hj hne h0 h1 => by rw [e i hi] at h0 ⊢; rw [e j hj] at h1 ⊢; exact h.apart i j hi hj hne h0 h1, h.fr⟩
theorem JC.load {SZ M : Nat} {Wd : World} {da : Nat → Nat → Nat} {con : Nat → Nat → List Value} {len : Nat → Nat → Nat} {keep : List (Nat × Value)} {p : Nat → Nat} {a : Act} {w : World} (h : JC SZ Wd M da con len keep p a w) {d mx : Nat} {v : Value} (hd : d < SZ) (hk : ∀ x ∈ keep, x.1 ≠ d) (hpm : ∀ i, i < 4 → p i ≤ mx) (hda : ∀ j q, j < 4 → 0 < q → q ≤ mx → da j q ≠ d) : JC SZ Wd M da con len ((d, v) :: keep) p (a.put (some d) v) w := by
 have hE : ∀ i, i < 4 → 0 < p i → (a.put (some d) v).eval (.tmp (da i (p i))) = a.eval (.tmp (da i (p i))) := fun i hi h0 => eval_ne a _ _ v (hda i (p i) hi h0 (hpm i hi))
 refine ⟨by simp [Act.put, h.sz], by simp [Act.put, h.df], fun x hx => ?_, fun i hi h0 => by rw [hE i hi h0]; exact h.cur i hi h0, fun i k hi hk hne h0 h1 => by rw [hE i hi h0, hE k hk h1]; exact h.apart i k hi hk hne h0 h1, h.fr⟩
 rcases List.mem_cons.1 hx with rfl | hx
 ·exact eval_eq a _ v (by rw [h.sz]; exact hd)
 ·rw [eval_ne a _ _ v (hk x hx)]; exact h.kp x hx
theorem step_load {P : Program} {ops : Array Oper} {o : Oper} {a : Act} {w : World} {K : Act → World → Prop} {Q : Exit → Act → World → Prop} {E : Prop} (hgd : o.guard = none) (t : TypeId) (x : Operand) (ho : o.op = .load t x) {u v : Value} (hx : a.eval x = u) (hr : (Instr.loadAt t u).run P w = .ok v w) (h : K (a.put o.dst v) w) : if Region.wanted o (yielded ops a.tmps) = true then Oper.wp P o a w K Q else E := by
 rw [if_pos (by simp [Region.wanted, hgd])]
 unfold Oper.wp execOp
 simp only [ho, Sem.run_bind, Sem.run_pure, Result.andThen_ok, hx, hr]
 exact h
def copyOps : Array Oper := #[
 { dst := some 19, op := Op.fieldAddr 28 (Operand.tmp 3) 0, type := 0, pos := "l3_tree.go:244", after := #[], guard := none },
 { dst := some 20, op := Op.load 26 (Operand.tmp 19), type := 26, pos := "l3_tree.go:244", after := #[{ on := 0, ground := Ground.data }], guard := none },
 { dst := some 21, op := Op.fieldAddr 81 (Operand.tmp 5) 0, type := 0, pos := "l3_tree.go:244", after := #[], guard := none },
 { dst := some 22, op := Op.load 4 (Operand.tmp 21), type := 4, pos := "l3_tree.go:244", after := #[{ on := 2, ground := Ground.data }], guard := none },
 { dst := some 23, op := Op.fieldAddr 81 (Operand.tmp 5) 1, type := 0, pos := "l3_tree.go:244", after := #[], guard := none },
 { dst := some 24, op := Op.load 2 (Operand.tmp 23), type := 2, pos := "l3_tree.go:244", after := #[{ on := 4, ground := Ground.data }], guard := none },
 { dst := some 25, op := Op.buildSlice 44 0 #[], type := 44, pos := "l3_tree.go:244", after := #[], guard := none },
 { dst := some 26, op := Op.fieldAddr 81 (Operand.tmp 5) 2, type := 0, pos := "l3_tree.go:244", after := #[], guard := none },
 { dst := some 27, op := Op.load 44 (Operand.tmp 26), type := 44, pos := "l3_tree.go:244", after := #[{ on := 7, ground := Ground.data }], guard := none },
 { dst := some 28, op := Op.call { callee := Callee.builtin Builtin.append, args := #[Operand.tmp 25, Operand.tmp 27], argTypes := #[44, 44] }, type := 44, pos := "l3_tree.go:244", after := #[{ on := 6, ground := Ground.data }, { on := 8, ground := Ground.data }], guard := none },
 { dst := some 29, op := Op.buildSlice 44 0 #[], type := 44, pos := "l3_tree.go:244", after := #[], guard := none },
 { dst := some 30, op := Op.fieldAddr 81 (Operand.tmp 5) 3, type := 0, pos := "l3_tree.go:244", after := #[], guard := none },
 { dst := some 31, op := Op.load 44 (Operand.tmp 30), type := 44, pos := "l3_tree.go:244", after := #[{ on := 11, ground := Ground.data }], guard := none },
 { dst := some 32, op := Op.call { callee := Callee.builtin Builtin.append, args := #[Operand.tmp 29, Operand.tmp 31], argTypes := #[44, 44] }, type := 44, pos := "l3_tree.go:244", after := #[{ on := 10, ground := Ground.data }, { on := 12, ground := Ground.data }, { on := 9, ground := Ground.chain }], guard := none },
 { dst := some 33, op := Op.buildSlice 45 0 #[], type := 45, pos := "l3_tree.go:244", after := #[], guard := none },
 { dst := some 34, op := Op.fieldAddr 81 (Operand.tmp 5) 4, type := 0, pos := "l3_tree.go:244", after := #[], guard := none },
 { dst := some 35, op := Op.load 45 (Operand.tmp 34), type := 45, pos := "l3_tree.go:244", after := #[{ on := 15, ground := Ground.data }], guard := none },
 { dst := some 36, op := Op.call { callee := Callee.builtin Builtin.append, args := #[Operand.tmp 33, Operand.tmp 35], argTypes := #[45, 45] }, type := 45, pos := "l3_tree.go:244", after := #[{ on := 14, ground := Ground.data }, { on := 16, ground := Ground.data }, { on := 13, ground := Ground.chain }], guard := none },
 { dst := some 37, op := Op.buildSlice 45 0 #[], type := 45, pos := "l3_tree.go:244", after := #[], guard := none },
 { dst := some 38, op := Op.fieldAddr 81 (Operand.tmp 5) 5, type := 0, pos := "l3_tree.go:244", after := #[], guard := none },
 { dst := some 39, op := Op.load 45 (Operand.tmp 38), type := 45, pos := "l3_tree.go:244", after := #[{ on := 19, ground := Ground.data }], guard := none },
 { dst := some 40, op := Op.call { callee := Callee.builtin Builtin.append, args := #[Operand.tmp 37, Operand.tmp 39], argTypes := #[45, 45] }, type := 45, pos := "l3_tree.go:244", after := #[{ on := 18, ground := Ground.data }, { on := 20, ground := Ground.data }, { on := 17, ground := Ground.chain }], guard := none },
 { dst := some 41, op := Op.build 81 #[(0, Operand.tmp 22), (1, Operand.tmp 24), (2, Operand.tmp 28), (3, Operand.tmp 32), (4, Operand.tmp 36), (5, Operand.tmp 40)], type := 81, pos := "l3_tree.go:244", after := #[{ on := 3, ground := Ground.data }, { on := 5, ground := Ground.data }, { on := 9, ground := Ground.data }, { on := 13, ground := Ground.data }, { on := 17, ground := Ground.data }, { on := 21, ground := Ground.data }], guard := none },
 { dst := some 42, op := Op.buildSlice 26 1 #[(0, Operand.tmp 41)], type := 26, pos := "l3_tree.go:244", after := #[{ on := 22, ground := Ground.data }], guard := none },
 { dst := some 43, op := Op.call { callee := Callee.builtin Builtin.append, args := #[Operand.tmp 20, Operand.tmp 42], argTypes := #[26, 26] }, type := 26, pos := "l3_tree.go:244", after := #[{ on := 1, ground := Ground.data }, { on := 23, ground := Ground.data }, { on := 21, ground := Ground.chain }], guard := none },
 { dst := some 44, op := Op.fieldAddr 28 (Operand.tmp 3) 0, type := 0, pos := "l3_tree.go:244", after := #[{ on := 0, ground := Ground.phase }, { on := 1, ground := Ground.phase }, { on := 2, ground := Ground.phase }, { on := 3, ground := Ground.phase }, { on := 4, ground := Ground.phase }, { on := 5, ground := Ground.phase }, { on := 6, ground := Ground.phase }, { on := 7, ground := Ground.phase }, { on := 8, ground := Ground.phase }, { on := 9, ground := Ground.phase }, { on := 10, ground := Ground.phase }, { on := 11, ground := Ground.phase }, { on := 12, ground := Ground.phase }, { on := 13, ground := Ground.phase }, { on := 14, ground := Ground.phase }, { on := 15, ground := Ground.phase }, { on := 16, ground := Ground.phase }, { on := 17, ground := Ground.phase }, { on := 18, ground := Ground.phase }, { on := 19, ground := Ground.phase }, { on := 20, ground := Ground.phase }, { on := 21, ground := Ground.phase }, { on := 22, ground := Ground.phase }, { on := 23, ground := Ground.phase }, { on := 24, ground := Ground.phase }], guard := none },
 { dst := none, op := Op.store 26 (Operand.tmp 44) (Operand.tmp 43), type := 0, pos := "l3_tree.go:244", after := #[{ on := 25, ground := Ground.data }, { on := 24, ground := Ground.data }, { on := 24, ground := Ground.chain }, { on := 0, ground := Ground.phase }, { on := 1, ground := Ground.phase }, { on := 2, ground := Ground.phase }, { on := 3, ground := Ground.phase }, { on := 4, ground := Ground.phase }, { on := 5, ground := Ground.phase }, { on := 6, ground := Ground.phase }, { on := 7, ground := Ground.phase }, { on := 8, ground := Ground.phase }, { on := 9, ground := Ground.phase }, { on := 10, ground := Ground.phase }, { on := 11, ground := Ground.phase }, { on := 12, ground := Ground.phase }, { on := 13, ground := Ground.phase }, { on := 14, ground := Ground.phase }, { on := 15, ground := Ground.phase }, { on := 16, ground := Ground.phase }, { on := 17, ground := Ground.phase }, { on := 18, ground := Ground.phase }, { on := 19, ground := Ground.phase }, { on := 20, ground := Ground.phase }, { on := 21, ground := Ground.phase }, { on := 22, ground := Ground.phase }, { on := 23, ground := Ground.phase }, { on := 24, ground := Ground.phase }], guard := none }]
def copyL (p0 p1 p2 p3 q : Nat) : Array Bool := #[true, decide (1 ≤ q), true, true, true, true, decide (1 ≤ p0), true, true, decide (2 ≤ p0), decide (1 ≤ p1), true, true, decide (2 ≤ p1), decide (1 ≤ p2), true, true, decide (2 ≤ p2), decide (1 ≤ p3), true, true, decide (2 ≤ p3), false, false, false, false, false]
def copyC (p0 p1 p2 p3 : Nat) : Bool := (decide (p1 ≤ 1) || decide (p0 = 2)) && (decide (p2 ≤ 1) || decide (p1 = 2)) && (decide (p3 ≤ 1) || decide (p2 = 2))
def copyK (p0 p1 p2 p3 q i : Nat) : Bool := (i == 1 && q == 0) || (i == 6 && p0 == 0) || (i == 10 && p1 == 0) || (i == 14 && p2 == 0) || (i == 18 && p3 == 0) || (i == 9 && p0 == 1) || (i == 13 && p1 == 1 && p0 == 2) || (i == 17 && p2 == 1 && p1 == 2) || (i == 21 && p3 == 1 && p2 == 2)
def copyAll : Bool := (List.range 3).all fun p0 => (List.range 3).all fun p1 => (List.range 3).all fun p2 => (List.range 3).all fun p3 => (List.range 2).all fun q => !(copyC p0 p1 p2 p3) || (p0 == 2 && p1 == 2 && p2 == 2 && p3 == 2) || (!((Region.ready .any copyOps (copyL p0 p1 p2 p3 q)).isEmpty) && (Region.ready .any copyOps (copyL p0 p1 p2 p3 q)).all (fun i => copyK p0 p1 p2 p3 q i))
theorem copyAll_true : copyAll = true := by kernel_rfl
theorem copy_ready (p0 : Nat) (h0 : p0 < 3) (p1 : Nat) (h1 : p1 < 3) (p2 : Nat) (h2 : p2 < 3) (p3 : Nat) (h3 : p3 < 3) (q : Nat) (hq : q < 2) (hC : copyC p0 p1 p2 p3 = true) (hn : ¬ (p0 = 2 ∧ p1 = 2 ∧ p2 = 2 ∧ p3 = 2)) : Region.ready .any copyOps (copyL p0 p1 p2 p3 q) ≠ [] ∧ (Region.ready .any copyOps (copyL p0 p1 p2 p3 q)).all (fun i => copyK p0 p1 p2 p3 q i) = true := by
 have h := copyAll_true
 unfold copyAll at h
 have h := List.all_eq_true.1 h p0 (List.mem_range.2 h0)
 have h := List.all_eq_true.1 h p1 (List.mem_range.2 h1)
 have h := List.all_eq_true.1 h p2 (List.mem_range.2 h2)
 have h := List.all_eq_true.1 h p3 (List.mem_range.2 h3)
 have h := List.all_eq_true.1 h q (List.mem_range.2 hq)
 rw [hC] at h
 simp only [Bool.not_true, Bool.false_or, Bool.or_eq_true, Bool.and_eq_true, beq_iff_eq] at h
 rcases h with h | h
 ·exact absurd ⟨h.1.1.1, h.1.1.2, h.1.2, h.2⟩ hn
 ·exact ⟨fun e => by rw [e] at h; simp at h, h.2⟩
def cda (j q : Nat) : Nat := 22 + 3 * q + 4 * j
theorem cda_inj (i r k s : Nat) (hi : i < 4) (hk : k < 4) (h1 : 0 < r) (h2 : r ≤ 2) (h3 : 0 < s) (h4 : s ≤ 2) (h5 : i ≠ k) : cda i r ≠ cda k s := by unfold cda; omega
def ccon (xA : Nat → List Value) (j q : Nat) : List Value := if q = 1 then [] else xA j
def clen (nA : Nat → Nat) (j q : Nat) : Nat := if q = 1 then 0 else nA j
def ckeep (keep : List (Nat × Value)) (v : Value) (q : Nat) : List (Nat × Value) := if q = 0 then keep else (20, v) :: keep
theorem ckeep_mem {keep : List (Nat × Value)} {v : Value} {q : Nat} {x : Nat × Value} (h : x ∈ keep) : x ∈ ckeep keep v q := by
 unfold ckeep
 split
 ·exact h
 ·exact List.mem_cons_of_mem _ h
set_option maxHeartbeats 4000000 in
theorem copy_walk {Q : Exit → Act → World → Prop} {S : World → Prop} {SZ M R : Nat} {Wd : World} (hM : M ≤ Wd.heap.size) (hS : ∀ w, Fr (fun g => M ≤ g) Wd w → S w) (hSZ : 45 ≤ SZ) (sA : Nat → Value) (xA : Nat → List Value) (nA : Nat → Nat) (keep : List (Nat × Value)) (hkeep : ∀ x ∈ keep, x.1 ≠ 20 ∧ ∀ j, j < 4 → ∀ q, 0 < q → q ≤ 2 → x.1 ≠ cda j q) (hkA : ∀ j, j < 4 → (27 + 4 * j, sA j) ∈ keep)
  (hsA : ∀ j, j < 4 → SrcAt Wd M (cS j) (nA j) (sA j) (xA j)) (ov : Value) (hk19 : (19, .pointer (some ⟨R, 0, none⟩)) ∈ keep) (hov : ∀ w, Fr (fun g => M ≤ g) Wd w → (Instr.loadAt 26 (.pointer (some ⟨R, 0, none⟩))).run Tryz.prog w = .ok ov w)
  (hend : ∀ q a w, q < 2 → JC SZ Wd M cda (ccon xA) (clen nA) (ckeep keep ov q) (fun _ => 2) a w → wpAnyH Tryz.prog .any copyOps Q S (1 - q + 5) (copyL 2 2 2 2 q) a w) :
  ∀ m p0 p1 p2 p3 q a w, p0 < 3 → p1 < 3 → p2 < 3 → p3 < 3 → q < 2 → copyC p0 p1 p2 p3 = true → p0 + p1 + p2 + p3 + q + m = 9 → JC SZ Wd M cda (ccon xA) (clen nA) (ckeep keep ov q) (p4 p0 p1 p2 p3) a w → wpAnyH Tryz.prog .any copyOps Q S (m + 5) (copyL p0 p1 p2 p3 q) a w := by
 intro m
 induction m with
 | zero =>
  intro p0 p1 p2 p3 q a w h0 h1 h2 h3 hq hC hs hJ
  obtain rfl : p0 = 2 := by omega
  obtain rfl : p1 = 2 := by omega
  obtain rfl : p2 = 2 := by omega
  obtain rfl : p3 = 2 := by omega
  obtain rfl : q = 1 := by omega
  exact hend 1 a w (by omega) (hJ.re (fun j hj => by unfold p4; split; rfl; split; rfl; split; rfl; rfl))
 | succ m ih =>
  intro p0 p1 p2 p3 q a w h0 h1 h2 h3 hq hC hs hJ
  by_cases hn : p0 = 2 ∧ p1 = 2 ∧ p2 = 2 ∧ p3 = 2
  ·obtain ⟨rfl, rfl, rfl, rfl⟩ := hn
   obtain rfl : q = 0 := by omega
   obtain rfl : m = 0 := by omega
   exact hend 0 a w (by omega) (hJ.re (fun j hj => by unfold p4; split; rfl; split; rfl; split; rfl; rfl))
  obtain ⟨hne, hall⟩ := copy_ready p0 h0 p1 h1 p2 h2 p3 h3 q hq hC hn
  have hMw : M ≤ w.heap.size := Nat.le_trans hM hJ.fr.size
  have hbel : Below M Wd w := ⟨hJ.fr.os, hJ.fr.tape, hJ.fr.output, hJ.fr.size, fun k hk => hJ.fr.block k (by omega) (by omega)⟩
  have hpm : ∀ i, i < 4 → p4 p0 p1 p2 p3 i ≤ 2 := fun i hi => by unfold p4; split; omega; split; omega; split; omega; omega
  have hkq : ∀ x ∈ ckeep keep ov q, ∀ j, j < 4 → ∀ r, 0 < r → r ≤ 2 → x.1 ≠ cda j r := fun x hx j hj r h1 h2 => by
   unfold ckeep at hx
   split at hx
   ·exact (hkeep x hx).2 j hj r h1 h2
   ·rcases List.mem_cons.1 hx with rfl | hx
    ·show 20 ≠ cda j r; unfold cda; omega
    ·exact (hkeep x hx).2 j hj r h1 h2
  have hmake : ∀ j, j < 4 → p4 p0 p1 p2 p3 j = 0 → JC SZ Wd M cda (ccon xA) (clen nA) (ckeep keep ov q) (upP (p4 p0 p1 p2 p3) j 1) (a.put (some (cda j 1)) (.slice (some ⟨w.heap.size, 0, none⟩) 0 0)) (w.alloc (.cells #[] (cE j))) := fun j hj hp =>
   hJ.move (mx := 2) hj (by omega) (by omega) hpm cda_inj (fun x hx => hkq x hx j hj 1 (by omega) (by omega)) (by unfold cda; omega) hMw (emptyE w (cE j) (cS j) M hMw) ⟨rfl, rfl, rfl, by simp, fun k hk _ => ((Below.refl w.heap.size w).alloc (Nat.le_refl _) _).block k hk⟩ (fun g hg => .inr (by have := own_some hg; omega))
  have happ : ∀ j, j < 4 → p4 p0 p1 p2 p3 j = 1 → ∀ v' w', w'.ownsRow M (cE j) (cS j) v' (clen nA j 2) (ccon xA j 2) → w.grownBy w' (a.eval (.tmp (cda j 1))).ownBlock → (v'.ownBlock = (a.eval (.tmp (cda j 1))).ownBlock ∨ ∀ g, v'.ownBlock = some g → w.heap.size ≤ g) → JC SZ Wd M cda (ccon xA) (clen nA) (ckeep keep ov q) (upP (p4 p0 p1 p2 p3) j 2) (a.put (some (cda j 2)) v') w' := fun j hj hp v' w' g1 g2 g3 =>
   hJ.move (mx := 2) hj (by omega) (by omega) hpm cda_inj (fun x hx => hkq x hx j hj 2 (by omega) (by omega)) (by unfold cda; omega) hMw g1 (Fr.of_grown g2 (fun g hg => by rw [hp]; exact ⟨by omega, hg⟩)) (fun g hg => by
    rcases g3 with e | e
    ·rw [e] at hg; exact .inl (by rw [hp]; exact ⟨by omega, hg⟩)
    ·exact .inr (e g hg))
  have hrow : ∀ j, j < 4 → p4 p0 p1 p2 p3 j = 1 → w.ownsRow M (cE j) (cS j) (a.eval (.tmp (cda j 1))) (clen nA j 1) (ccon xA j 1) := fun j hj hp => by have := hJ.cur j hj (by omega); rw [hp] at this; exact this
  refine wpAnyH_all rfl hne (fun i hi => ?_)
  have hk := List.all_eq_true.1 hall i hi
  clear hall hne hi
  simp only [copyK, Bool.or_eq_true, Bool.and_eq_true, beq_iff_eq] at hk
  rcases hk with ((((((((hk | hk) | hk) | hk) | hk) | hk) | hk) | hk) | hk)
  ·obtain rfl : i = 1 := hk.1
   obtain rfl : q = 0 := hk.2
   refine wpOp_step (ops := copyOps) (o := { dst := some 20, op := Op.load 26 (Operand.tmp 19), type := 26, pos := "l3_tree.go:244", after := #[{ on := 0, ground := Ground.data }], guard := none }) rfl (fun K hK => ?_)
   refine step_load rfl _ _ rfl (hJ.kp _ hk19) (hov w hJ.fr) ?_
   have hJ2 := hJ.load (d := 20) (mx := 2) (v := ov) (by omega) (fun x hx => (hkeep x hx).1) hpm (fun j r hj h1 h2 => by unfold cda; omega)
   exact hK _ _ ⟨hS _ hJ2.fr, ih p0 p1 p2 p3 1 _ _ (by omega) (by omega) (by omega) (by omega) (by omega) hC (by omega) hJ2⟩
  ·obtain rfl : i = 6 := hk.1
   obtain rfl : p0 = 0 := hk.2
   refine wpOp_step (ops := copyOps) (o := { dst := some 25, op := Op.buildSlice 44 0 #[], type := 44, pos := "l3_tree.go:244", after := #[], guard := none }) rfl (fun K hK => ?_)
   refine step_empty rfl 44 9 rfl (run_empty0 w) ?_
   have hJ2 := (hmake 0 (by omega) rfl).re (up4_0 0 p1 p2 p3 1)
   exact hK _ _ ⟨hS _ hJ2.fr, ih 1 p1 p2 p3 q _ _ (by omega) (by omega) (by omega) (by omega) (by omega) (by revert hC; unfold copyC; simp <;> omega) (by omega) hJ2⟩
  ·obtain rfl : i = 10 := hk.1
   obtain rfl : p1 = 0 := hk.2
   refine wpOp_step (ops := copyOps) (o := { dst := some 29, op := Op.buildSlice 44 0 #[], type := 44, pos := "l3_tree.go:244", after := #[], guard := none }) rfl (fun K hK => ?_)
   refine step_empty rfl 44 9 rfl (run_empty0 w) ?_
   have hJ2 := (hmake 1 (by omega) rfl).re (up4_1 p0 0 p2 p3 1)
   exact hK _ _ ⟨hS _ hJ2.fr, ih p0 1 p2 p3 q _ _ (by omega) (by omega) (by omega) (by omega) (by omega) (by revert hC; unfold copyC; simp <;> omega) (by omega) hJ2⟩
  ·obtain rfl : i = 14 := hk.1
   obtain rfl : p2 = 0 := hk.2
   refine wpOp_step (ops := copyOps) (o := { dst := some 33, op := Op.buildSlice 45 0 #[], type := 45, pos := "l3_tree.go:244", after := #[], guard := none }) rfl (fun K hK => ?_)
   refine step_empty rfl 45 2 rfl (run_empty2 w) ?_
   have hJ2 := (hmake 2 (by omega) rfl).re (up4_2 p0 p1 0 p3 1)
   exact hK _ _ ⟨hS _ hJ2.fr, ih p0 p1 1 p3 q _ _ (by omega) (by omega) (by omega) (by omega) (by omega) (by revert hC; unfold copyC; simp <;> omega) (by omega) hJ2⟩
  ·obtain rfl : i = 18 := hk.1
   obtain rfl : p3 = 0 := hk.2
   refine wpOp_step (ops := copyOps) (o := { dst := some 37, op := Op.buildSlice 45 0 #[], type := 45, pos := "l3_tree.go:244", after := #[], guard := none }) rfl (fun K hK => ?_)
   refine step_empty rfl 45 2 rfl (run_empty2 w) ?_
   have hJ2 := (hmake 3 (by omega) rfl).re (up4_3 p0 p1 p2 0 1)
   exact hK _ _ ⟨hS _ hJ2.fr, ih p0 p1 p2 1 q _ _ (by omega) (by omega) (by omega) (by omega) (by omega) (by revert hC; unfold copyC; simp <;> omega) (by omega) hJ2⟩
  ·obtain rfl : i = 9 := hk.1
   obtain rfl : p0 = 1 := hk.2
   refine wpOp_step (ops := copyOps) (o := { dst := some 28, op := Op.call { callee := Callee.builtin Builtin.append, args := #[Operand.tmp 25, Operand.tmp 27], argTypes := #[44, 44] }, type := 44, pos := "l3_tree.go:244", after := #[{ on := 6, ground := Ground.data }, { on := 8, ground := Ground.data }], guard := none }) rfl (fun K hK => ?_)
   obtain ⟨i0, hi0, hz0, hz1, hz2⟩ := info_parts info_strC
   refine step_append_S rfl _ _ 44 rfl M 9 i0 _ 1 16 Tryz.underlying44 hi0 hz0 hz1 hz2 rfl (by decide) (by decide) _ _ _ rfl (hrow 0 (by omega) rfl) (by simp [clen]) _ M (nA 0) (xA 0) (hJ.kp _ (ckeep_mem (hkA 0 (by omega)))) ((hsA 0 (by omega)).below hbel) hMw ?_
   intro v' w' g1 g2 g3
   have hJ2 := (happ 0 (by omega) rfl v' w' (by have := g1; simpa [clen, ccon, cE, cS] using this) g2 g3).re (up4_0 1 p1 p2 p3 2)
   exact hK _ _ ⟨hS _ hJ2.fr, ih 2 p1 p2 p3 q _ _ (by omega) (by omega) (by omega) (by omega) (by omega) (by revert hC; unfold copyC; simp <;> omega) (by omega) hJ2⟩
  ·obtain rfl : i = 13 := hk.1.1
   obtain rfl : p1 = 1 := hk.1.2
   obtain rfl : p0 = 2 := hk.2
   refine wpOp_step (ops := copyOps) (o := { dst := some 32, op := Op.call { callee := Callee.builtin Builtin.append, args := #[Operand.tmp 29, Operand.tmp 31], argTypes := #[44, 44] }, type := 44, pos := "l3_tree.go:244", after := #[{ on := 10, ground := Ground.data }, { on := 12, ground := Ground.data }, { on := 9, ground := Ground.chain }], guard := none }) rfl (fun K hK => ?_)
   obtain ⟨i0, hi0, hz0, hz1, hz2⟩ := info_parts info_strC
   refine step_append_S rfl _ _ 44 rfl M 9 i0 _ 1 16 Tryz.underlying44 hi0 hz0 hz1 hz2 rfl (by decide) (by decide) _ _ _ rfl (hrow 1 (by omega) rfl) (by simp [clen]) _ M (nA 1) (xA 1) (hJ.kp _ (ckeep_mem (hkA 1 (by omega)))) ((hsA 1 (by omega)).below hbel) hMw ?_
   intro v' w' g1 g2 g3
   have hJ2 := (happ 1 (by omega) rfl v' w' (by have := g1; simpa [clen, ccon, cE, cS] using this) g2 g3).re (up4_1 2 1 p2 p3 2)
   exact hK _ _ ⟨hS _ hJ2.fr, ih 2 2 p2 p3 q _ _ (by omega) (by omega) (by omega) (by omega) (by omega) (by revert hC; unfold copyC; simp <;> omega) (by omega) hJ2⟩
  ·obtain rfl : i = 17 := hk.1.1
   obtain rfl : p2 = 1 := hk.1.2
   obtain rfl : p1 = 2 := hk.2
   refine wpOp_step (ops := copyOps) (o := { dst := some 36, op := Op.call { callee := Callee.builtin Builtin.append, args := #[Operand.tmp 33, Operand.tmp 35], argTypes := #[45, 45] }, type := 45, pos := "l3_tree.go:244", after := #[{ on := 14, ground := Ground.data }, { on := 16, ground := Ground.data }, { on := 13, ground := Ground.chain }], guard := none }) rfl (fun K hK => ?_)
   obtain ⟨i0, hi0, hz0, hz1, hz2⟩ := info_parts info_i64C
   refine step_append_S rfl _ _ 45 rfl M 2 i0 _ 1 8 Tryz.underlying45 hi0 hz0 hz1 hz2 rfl (by decide) (by decide) _ _ _ rfl (hrow 2 (by omega) rfl) (by simp [clen]) _ M (nA 2) (xA 2) (hJ.kp _ (ckeep_mem (hkA 2 (by omega)))) ((hsA 2 (by omega)).below hbel) hMw ?_
   intro v' w' g1 g2 g3
   have hJ2 := (happ 2 (by omega) rfl v' w' (by have := g1; simpa [clen, ccon, cE, cS] using this) g2 g3).re (up4_2 p0 2 1 p3 2)
   exact hK _ _ ⟨hS _ hJ2.fr, ih p0 2 2 p3 q _ _ (by omega) (by omega) (by omega) (by omega) (by omega) (by revert hC; unfold copyC; simp <;> omega) (by omega) hJ2⟩
  ·obtain rfl : i = 21 := hk.1.1
   obtain rfl : p3 = 1 := hk.1.2
   obtain rfl : p2 = 2 := hk.2
   refine wpOp_step (ops := copyOps) (o := { dst := some 40, op := Op.call { callee := Callee.builtin Builtin.append, args := #[Operand.tmp 37, Operand.tmp 39], argTypes := #[45, 45] }, type := 45, pos := "l3_tree.go:244", after := #[{ on := 18, ground := Ground.data }, { on := 20, ground := Ground.data }, { on := 17, ground := Ground.chain }], guard := none }) rfl (fun K hK => ?_)
   obtain ⟨i0, hi0, hz0, hz1, hz2⟩ := info_parts info_i64C
   refine step_append_S rfl _ _ 45 rfl M 2 i0 _ 1 8 Tryz.underlying45 hi0 hz0 hz1 hz2 rfl (by decide) (by decide) _ _ _ rfl (hrow 3 (by omega) rfl) (by simp [clen]) _ M (nA 3) (xA 3) (hJ.kp _ (ckeep_mem (hkA 3 (by omega)))) ((hsA 3 (by omega)).below hbel) hMw ?_
   intro v' w' g1 g2 g3
   have hJ2 := (happ 3 (by omega) rfl v' w' (by have := g1; simpa [clen, ccon, cE, cS] using this) g2 g3).re (up4_3 p0 p1 2 1 2)
   exact hK _ _ ⟨hS _ hJ2.fr, ih p0 p1 2 2 q _ _ (by omega) (by omega) (by omega) (by omega) (by omega) (by revert hC; unfold copyC; simp <;> omega) (by omega) hJ2⟩
end Go.Proofs.YtbgbokgomheodaaGreat
