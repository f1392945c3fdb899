import Derived.Test.YtbgbokgomheodaaGreatGAA
import Derived.Test.YtbgbokgomheodaaGreatGAX
namespace Go.Proofs.YtbgbokgomheodaaGreat
open Go.RowKit
set_option linter.unusedVariables false
set_option linter.unusedSimpArgs false
set_option maxRecDepth 100000
theorem GMI.see {w : World} {P : Nat → Prop} {t : T} {L : Nat} {a : Option Addr} {n c : Nat} {ul : List Value} {Q : Nat → Nat → Prop} (q : GMI w P t L a n c ul Q) : GInner w P t L a n c (fun i => ul.getD i .nilIface) := by
 have hrow := q.row
 refine ⟨q.at', q.box, ?_, ?_, fun i k hm hi => GIs.keep (fun _ _ => rfl) (fun b hb => (q.sub i b hb).1) k _ (GM.see k (Q i) _ (q.kid i k hm hi))⟩
 ·rcases hrow.2 with ⟨e, e2⟩ | ⟨g, cap, cur, e, h1, h2, h3, h4, _⟩
  ·simp only [Value.slice.injEq] at e
   exact ⟨q.len, by omega, by omega⟩
  ·simp only [Value.slice.injEq] at e
   obtain ⟨_, _, rfl⟩ := e
   exact ⟨q.len, h3, h4⟩
 ·intro hn
  rcases hrow.2 with ⟨e, e2⟩ | ⟨g, cap, cur, e, h1, h2, h3, h4, _⟩
  ·omega
  ·simp only [Value.slice.injEq] at e
   obtain ⟨rfl, _, rfl⟩ := e
   refine ⟨g, rfl, (q.blk g rfl).1, fun i hi => ?_⟩
   rw [hrow.cellAt i (by omega)]
   have hul := hrow.1
   simp [List.getD, show i < ul.length by omega]
theorem GMI.below {w w' : World} {P : Nat → Prop} {t : T} {L : Nat} {a : Option Addr} {n c : Nat} {ul : List Value} {Q : Nat → Nat → Prop} (h : GMI w P t L a n c ul Q) (hP : ∀ b, P b → b < w.heap.size) (hb : Below w.heap.size w w') : GMI w' P t L a n c ul Q :=
 ⟨h.at', (hb.block L (hP L h.at')).trans h.box, owns_below h.row hb, h.blk, h.len, h.dis, h.sub, fun i k hm hi => GM.keep k (Q i) (Q i) _ (fun b hq => hb.block b (hP b (h.sub i b hq).1)) (fun _ h => h) (h.kid i k hm hi)⟩
theorem GMI.re {w : World} {P : Nat → Prop} {t t' : T} {L : Nat} {a : Option Addr} {n c : Nat} {ul : List Value} {Q : Nat → Nat → Prop} (h : GMI w P t L a n c ul Q) (hp : t'.page = t.page) (hk : t'.kids = t.kids) : GMI w P t' L a n c ul Q :=
 ⟨h.at', by rw [hp]; exact h.box, h.row, h.blk, by rw [hk]; exact h.len, h.dis, h.sub, fun i k hm hi => h.kid i k (by rw [← hk]; exact hm) (by rw [← hk]; exact hi)⟩
def PutOk (key val : ByteArray) (k : T) : Prop := ∀ (w : World) (P : Nat → Prop) (ty : TypeId) (v : Value), GM w P k (.iface ty v) → (∀ b, P b → b < w.heap.size) → (∀ w, (nilAhead 273 ty v "loop.example/s02098/impl.put").run Tryz.prog w = .ok (some false) w) ∧ ∃ f r, (∀ w, (method 273 ty v "loop.example/s02098/impl.put").run Tryz.prog w = .ok (f, r) w) ∧ (∀ x w, (callFunc f #[r, x]).run Tryz.prog w = .ok (.enter f #[r, x]) w) ∧ Calls Tryz.prog f #[r, .agg #[.string key, .string val, .int .i64 0]] w fun e w' => PutAns w P (putT key val k) (.iface ty v) e w'
theorem setT_one {ys : List T} {m : Nat} {k : T} (h : m < ys.length) : ys.set m k = ys.take m ++ [k] ++ ys.drop (m + 1) := by
 rw [List.set_eq_take_append_cons_drop, if_pos h]
 simp
theorem setT_two {ys : List T} {m : Nat} {x k1 k2 : T} (h : m < ys.length) : ((ys.set m x).set m k1).take (m + 1) ++ [k2] ++ ((ys.set m x).set m k1).drop (m + 1) = ys.take m ++ [k1, k2] ++ ys.drop (m + 1) := by
 rw [List.set_set, setT_one h]
 have e1 : (ys.take m ++ [k1] ++ ys.drop (m + 1)).take (m + 1) = ys.take m ++ [k1] := by
  rw [List.take_append_of_le_length (by simp; omega), List.take_of_length_le (by simp; omega)]
 have e2 : (ys.take m ++ [k1] ++ ys.drop (m + 1)).drop (m + 1) = ys.drop (m + 1) := by
  rw [List.drop_append_of_le_length (by simp; omega), List.drop_of_length_le (by simp; omega), List.nil_append]
 rw [e1, e2]
 simp
theorem GMI.set0 {w W0 W1 : World} {P : Nat → Prop} {t : T} {L : Nat} {a : Option Addr} {n c : Nat} {ul : List Value} {Q : Nat → Nat → Prop} (h : GMI w P t L a n c ul Q) (hP : ∀ b, P b → b < w.heap.size) (hb : Below w.heap.size w W0) (hW : W1 = W0.setCell ⟨L, 0, none⟩ (.int .i64 0)) : GMI W1 P { t with page := 0 } L a n c ul Q := by
 have h0 := h.below hP hb
 have f1 := fr_setT W0 L 0 (.int .i64 0)
 rw [← hW] at f1
 have hs := hb.size
 refine ⟨h.at', by rw [hW]; simpa using heap_setT h0.box 0 (.int .i64 0), owns_fr h0.row f1 (fun g hg e => (h.blk g hg).2 e), h.blk, h.len, h.dis, h.sub, fun i k hm hi => GM.keep k (Q i) (Q i) _ (fun b hq => f1.block b (by have := hP b (h.sub i b hq).1; omega) (h.sub i b hq).2.1) (fun _ h => h) (h0.kid i k hm hi)⟩
theorem getD_kid {w : World} {P : Nat → Prop} {t : T} {L : Nat} {a : Option Addr} {n c m : Nat} {ul : List Value} {Q : Nat → Nat → Prop} (h : GMI w P t L a n c ul Q) (hm : m < n) : ∃ b ty v, a = some ⟨b, 0, none⟩ ∧ ul.getD m .nilIface = .iface ty v ∧ w.cell? ⟨b, m, none⟩ = some (.iface ty v) := by
 have hl := h.len
 obtain ⟨k, hk⟩ : ∃ k, t.kids[m]? = some k := ⟨_, List.getElem?_eq_getElem (by omega)⟩
 obtain ⟨ty, v, e⟩ := (h.kid m k (List.mem_of_getElem? hk) hk).shape
 obtain ⟨b, e2, _, hc⟩ := h.see.row (by omega)
 exact ⟨b, ty, v, e2, e, (hc m hm).trans (by rw [e])⟩
set_option maxHeartbeats 4000000 in
theorem innerPut_any {w : World} {P : Nat → Prop} {t : T} {L : Nat} {a : Option Addr} {n c : Nat} {ul : List Value} {Q : Nat → Nat → Prop} (h : GMI w P t L a n c ul Q) (hl : t.leaf = false) (hn0 : 0 < n) (hn : n ≤ 4) (hP : ∀ b, P b → b < w.heap.size) (key val : ByteArray) (hko : ∀ k ∈ t.kids, k.nodes ≤ 100000 ∧ k.good false = true ∧ 0 ≤ k.ht) (hps : ∀ k ∈ t.kids, (putT key val k).size ≤ 5) (IH : ∀ k ∈ t.kids, (∃ i, TowardIs t key i ∧ t.kids[i]? = some k) → PutOk key val k) :
  Calls Tryz.prog 100 #[.pointer (some ⟨L, 0, none⟩), .agg #[.string key, .string val, .int .i64 0]] w fun e w' => PutAns w P (putT key val t) (.iface 63 (.pointer (some ⟨L, 0, none⟩))) e w' := by
 obtain ⟨N, hN⟩ : ∃ N, w.heap.size = N := ⟨_, rfl⟩
 have hLN : L < N := by have := hP L h.at'; omega
 have HIH : Hid (∀ k ∈ t.kids, (∃ i, TowardIs t key i ∧ t.kids[i]? = some k) → PutOk key val k) := IH
 have HKO : Hid (∀ k ∈ t.kids, k.nodes ≤ 100000 ∧ k.good false = true ∧ 0 ≤ k.ht) := hko
 have HPS : Hid (∀ k ∈ t.kids, (putT key val k).size ≤ 5) := hps
 have HLF : Hid (t.leaf = false) := hl
 have hPL := h.at'
 have ab := (Below.refl w.heap.size w).alloc (Nat.le_refl _) (.cells #[.string key, .string val, .int .i64 0] 61)
 have kb := heap_alloc_new w (.cells #[.string key, .string val, .int .i64 0] 61)
 have z0 : (w.alloc (.cells #[.string key, .string val, .int .i64 0] 61)).heap.size = N + 1 := by simp [hN]
 rw [hN] at kb
 have HH : Hid (GMI w P t L a n c ul Q) := h
 have hbox0 := (ab.block L (by omega)).trans h.box
 have hsoil := soil_any hbox0
 clear h IH hko hps hl
 go_enter Tryz.func100, Tryz.ntmps100
 go_upto_region 1 with fail
 generalize w.alloc (.cells #[.string key, .string val, .int .i64 0] 61) = W0 at *
 go_wp2_with fail
 refine hsoil.mono ?_
 rintro e W1 ⟨rfl, hW1⟩
 have f1 := fr_setT W0 L 0 (.int .i64 0)
 rw [← hW1] at f1
 have h1 := HH.out.set0 hP ab hW1
 have kb1 := (f1.block N (by omega) (by omega)).trans kb
 have s1 := f1.size
 have F1 : Fr (fun b => P b ∨ N ≤ b) w W1 := (Fr.of_below ab).trans (f1.weak (fun g e => .inl (by rw [e]; exact hPL)))
 have hP1 : ∀ b, P b → b < W1.heap.size := fun b hb => by have := hP b hb; omega
 have htow := toward_any h1.see hn0 (by omega) (fun i k hi => by
  have hi2 : t.kids[i]? = some k := hi
  have hkm : k ∈ t.kids := List.mem_of_getElem? hi2
  have hgk := h1.kid i k hkm hi2
  obtain ⟨ty, v, e⟩ := hgk.shape
  rw [e] at hgk
  obtain ⟨o1, o2, o3⟩ := HKO.out k hkm
  have hks : 0 < k.size := by
   rw [T.good_eq] at o2
   simp only [Bool.and_eq_true, decide_eq_true_eq] at o2
   have := o2.1.1.1.1.1
   simp at this
   omega
  exact ⟨ty, v, e, (GIs.obj k ty v o1 ⟨false, o2⟩ o3 (GM.see _ _ _ hgk)).least hks⟩) key
 obtain ⟨q0, q1, q2⟩ := box3w' kb1
 have lN1 : N < W1.heap.size := by omega
 have H1 : Hid _ := h1
 clear hsoil hW1 f1 hbox0 kb ab h1
 go_wp2_with fail
 refine htow.mono ?_
 rintro e wx ⟨m, rfl, hm, rfl⟩
 have hm2 : TowardIs t key m := hm
 have HTW : Hid (towN key t.kids = m) := tow_is hm2
 have hlen := HH.out.len
 have hmn : m < n := by have := hm2.1; omega
 obtain ⟨k, hk⟩ : ∃ k, t.kids[m]? = some k := ⟨_, List.getElem?_eq_getElem hm2.1⟩
 have hkm : k ∈ t.kids := List.mem_of_getElem? hk
 obtain ⟨b, ty, v, rfl, eu, hcell⟩ := getD_kid H1.out hmn
 have hgk := H1.out.kid m k hkm hk
 rw [eu] at hgk
 obtain ⟨hna, f, r, hme, hcf, hcall⟩ := HIH.out k hkm ⟨m, hm2, hk⟩ wx (Q m) ty v hgk (fun x hx => hP1 x (H1.out.sub m x hx).1)
 have hcf2 := hcf (.agg #[.string key, .string val, .int .i64 0])
 obtain ⟨c0, c1⟩ := box_twoG H1.out.box
 have l1 : L < wx.heap.size := by omega
 have hbl : b < wx.heap.size := lt_of_cellG hcell
 have hsk := HPS.out k hkm
 have HPT : Hid (putT key val t = ⟨false, 0, [], [], [], t.kids.take m ++ cutT (putT key val k) ++ t.kids.drop (m + 1)⟩) := by
  show _ = _
  have := putT_inner (key := key) (val := val) HLF.out (k := k) (by rw [HTW.out]; exact hk)
  rw [HTW.out] at this
  exact this
 have HEU : Hid (ul.getD m .nilIface = .iface ty v) := eu
 have HKL : Hid (n = t.kids.length) := hlen
 clear htow hm hm2 hk hkm hgk hcf HIH HKO HPS HTW HLF eu hlen
 generalize putT key val k = k' at *
 go_wp2_with fail
 refine hcall.mono ?_
 rintro e V ⟨rfl, ⟨Pm, hgm, hpm⟩, hfm⟩
 have sV := hfm.size
 have h2 := H1.out.swap hP1 hmn hfm (by rw [HEU.out]; exact hgm) hpm
 have FV : Fr (fun b => P b ∨ N ≤ b) w V := F1.trans (hfm.weak (fun g e => .inl (H1.out.sub m g e).1))
 have hP2 : ∀ x, Wider wx V P x → x < V.heap.size := fun x hx => hx.2
 obtain ⟨hns, f2, r2, hms, hcs2, hsize⟩ := hgm.size
 have H2 : Hid _ := h2
 have hs5 : k'.size ≤ 5 := hsk
 have HSZ : Hid (∃ s, k'.size = s) := ⟨_, rfl⟩
 obtain ⟨s, hs⟩ := HSZ.out
 have HS : Hid (k'.size = s) := hs
 rw [hs] at hsize hs5
 have hWN : ∀ x, Wider wx V P x → P x ∨ N ≤ x := fun x hx => by
  rcases hx.1 with e | e
  ·exact .inl e
  ·exact .inr (by omega)
 clear hcall c0 c1 q0 q1 q2 hcell kb1 h2 hs hsk hna hme hcf2 hP1
 go_wp2_with fail
 refine hsize.mono ?_
 rintro e wy ⟨rfl, rfl⟩
 by_cases h4 : s ≤ 4
 ·have hd : ¬ ((4 : Int) < (s : Int)) := by omega
  have HFIN : Hid (PutAns w P (putT key val t) (.iface 63 (.pointer (some ⟨L, 0, none⟩))) (.returned (.tuple #[])) wy) := by
   refine ⟨rfl, ⟨Wider wx wy P, ?_, fun x hx => ⟨by rw [hN]; exact hWN x hx, hx.2⟩⟩, fr_tight (by rw [hN]; exact FV)⟩
   rw [HPT.out]
   refine GMI.is (t := ⟨false, 0, [], [], [], _⟩) (H2.out.re rfl ?_) rfl
   show _ = t.kids.set m k'
   have hc : cutT k' = [k'] := by unfold cutT; rw [if_pos (by rw [HS.out]; exact h4)]
   rw [hc, setT_one (by have := HKL.out; omega)]
  clear hsize hms hns hcs2 FV hpm hgm hfm
  go_wp2_with fail
  go_end0
  exact ⟨rfl, HFIN.out.2⟩
 ·have hd : (4 : Int) < (s : Int) := by omega
  have hgd : GM wy.drew Pm k' (.iface ty v) := hgm.drew
  have hpart := part_any hgd 3 (by omega) (by rw [HS.out]; omega) (by rw [HS.out]; omega) (fun x hx => (hpm x hx).2)
  have HD : Hid _ := H2.out.below hP2 ((Below.refl _ wy).drew)
  have boxD := HD.out.box
  have hmw : IntKind.i64.wrap ((m : Int) + 1) = (m : Int) + 1 := by rw [IntKind.wrap_i64]; omega
  have FD : Fr (fun b => P b ∨ N ≤ b) w wy.drew := FV.trans (Fr.of_below ((Below.refl _ wy).drew))
  have HFIN : Hid (∀ e w3, PartAns wy.drew Pm k' 3 (.iface ty v) e w3 → ∃ ty2 v2, e = .returned (.iface ty2 v2) ∧ w3.heap[L]? = some (.cells #[.int .i64 0, .slice (some ⟨b, 0, none⟩) n c] 69) ∧ (w3.alloc (.cells #[.iface ty2 v2] 56)).heap[L]? = some (.cells #[.int .i64 0, .slice (some ⟨b, 0, none⟩) n c] 69) ∧ Calls Tryz.prog 108 #[.slice (some ⟨b, 0, none⟩) n c, .int .i64 ((m : Int) + 1), .slice (some ⟨w3.heap.size, 0, none⟩) 1 1] (w3.alloc (.cells #[.iface ty2 v2] 56)) fun e w4 => ∃ a' c', e = .returned (.slice a' (n + 1) c') ∧ w4.heap[L]? = some (.cells #[.int .i64 0, .slice (some ⟨b, 0, none⟩) n c] 69) ∧ PutAns w P (putT key val t) (.iface 63 (.pointer (some ⟨L, 0, none⟩))) (.returned (.tuple #[])) (w4.setCell ⟨L, 1, none⟩ (.slice a' (n + 1) c'))) := by
   rintro e w3 ⟨u2, rfl, ⟨P1, P2, hg1, hg2, hdis, hpp⟩, hf3⟩
   obtain ⟨ty2, v2, rfl⟩ := hg2.shape
   have s3 : wy.heap.size ≤ w3.heap.size := hf3.size
   have hDs : wy.drew.heap.size = wy.heap.size := rfl
   have HD' := HD.out
   have e3 : (fun x => if m = m then Pm x else Q m x) = Pm := by funext x; simp
   have h3 := HD'.swap (fun x hx => hx.2) (m := m) hmn (R := P1) (k := k'.fore 3) (by rw [e3]; exact hf3) (by rw [HEU.out]; exact hg1) (fun x hx => by have := hpp x (.inl hx); simpa using this)
   have ba : Below w3.heap.size w3 (w3.alloc (.cells #[.iface ty2 v2] 56)) := (Below.refl _ _).alloc (Nat.le_refl _) _
   have hA := h3.below (fun x hx => hx.2) ba
   have kA := heap_alloc_new w3 (.cells #[.iface ty2 v2] 56)
   have sA : (w3.alloc (.cells #[.iface ty2 v2] 56)).heap.size = w3.heap.size + 1 := by simp
   have hgA : GM (w3.alloc (.cells #[.iface ty2 v2] 56)) P2 (k'.rest 3) (.iface ty2 v2) := GM.keep _ P2 P2 _ (fun x hx => ba.block x (hpp x (.inr hx)).2) (fun _ h => h) hg2
   have hpm2 : ∀ x, Pm x → Wider wx wy P x ∧ x ≠ L ∧ (Value.slice (some ⟨b, 0, none⟩) n c).ownBlock ≠ some x := fun x hx => by
    have := HD'.sub m x (by rw [if_pos rfl]; exact hx)
    exact this
   have hLs : L < wy.heap.size := by have := hP2 L HD'.at'; omega
   refine ⟨ty2, v2, rfl, h3.box, hA.box, ?_⟩
   have hins := insertNode_any (m + 1) n c w3.heap.size (some ⟨b, 0, none⟩) ul [.iface ty2 v2] _ hA.row (by omega) (by omega) rfl kA (fun e => by have := (hA.blk _ e).1.2; omega) (by simp [Value.oneCell']) hA.one
   refine hins.mono ?_
   rintro e w4 ⟨a', c', rfl, g1, g2, g3⟩
   have s4 := g2.size
   have hRP : ∀ x, P2 x → Wider wy.drew w3 (Wider wx wy P) x := fun x hx => by
    have h9 := hpp x (.inr hx)
    rcases h9.1 with e | e
    ·exact ⟨.inl (hpm2 x e).1, h9.2⟩
    ·exact ⟨.inr e, h9.2⟩
   obtain ⟨hI, hbox4⟩ := hA.ins (j := m + 1) (a' := a') (c' := c') (fun x hx => by have := hx.2; omega) (by omega) hgA hRP (fun i x hx hq => by
    by_cases hi : i = m
    ·simp only [if_pos hi] at hq
     exact hdis x hq hx
    ·simp only [if_neg hi] at hq
     rcases (hpp x (.inr hx)).1 with e | e
     ·exact hi (HD'.dis i m x (by simp only [if_neg hi]; exact hq) (by rw [if_pos rfl]; exact e))
     ·have := (HD'.sub i x (by simp only [if_neg hi]; exact hq)).1.2
      omega) (fun hx => by
     rcases (hpp L (.inr hx)).1 with e | e
     ·exact (hpm2 L e).2.1 rfl
     ·omega) (fun g hg hx => by
     rcases (hpp g (.inr hx)).1 with e | e
     ·exact (hpm2 g e).2.2 hg
     ·have := (HD'.blk g hg).1.2; omega) g1 g2 g3
   refine ⟨a', c', rfl, hbox4, rfl, ⟨_, GMI.is (hI.re (t' := putT key val t) (by rw [HPT.out]) ?_) (by rw [HPT.out]), fun x hx => ?_⟩, ?_⟩
   ·rw [HPT.out]
    show t.kids.take m ++ cutT k' ++ t.kids.drop (m + 1) = ((t.kids.set m k').set m (k'.fore 3)).take (m + 1) ++ [k'.rest 3] ++ ((t.kids.set m k').set m (k'.fore 3)).drop (m + 1)
    have hc : cutT k' = [k'.fore 3, k'.rest 3] := by unfold cutT; rw [if_neg (by rw [HS.out]; omega)]
    rw [hc, setT_two (by have := HKL.out; omega)]
   ·have hx2 := hx.2
    refine ⟨?_, by simpa [World.setCell] using hx2⟩
    rw [hN]
    rcases hx.1 with e | e
    ·rcases e.1 with e | e
     ·exact hWN x e
     ·exact .inr (by omega)
    ·exact .inr (by omega)
   ·refine fr_tight ?_
    rw [hN]
    have e5 := fr_setT w4 L 1 (.slice a' (n + 1) c')
    refine (((FD.trans (hf3.weak (fun g e => hWN g (hpm2 g e).1))).trans (Fr.of_below ba)).trans (Fr.of_grown g2 (fun g hg => ?_))).trans (e5.weak (fun g e => .inl (by rw [e]; exact hPL)))
    rcases (hA.blk g hg).1.1 with e | e
    ·exact hWN g e
    ·exact .inr (by omega)
  have hLy : L < wy.heap.size := by have := HD.out.at'; exact this.2
  clear hsize hms hns hcs2 FV hpm hgm hfm FD hgd H2 hP2 hWN H1 F1
  go_upto_region 6 with fail
  refine wp_region_noPanic ?_
  refine wp_region_held_drew (S := (fun _ : World => True)) (by kernel_rfl) (trivial) (fun hHeld => ?_)
  refine tkB (i := 0) (v := .pointer (some ⟨L, 0, none⟩)) .z (by kernel_rfl) (fun _ _ _ h => h) (Or.inl ⟨by rfl, ?_⟩) (by assumption) ?_
  ·intro wq hSw; (try dsimp only at hSw); go_simp
  try simp only [Act.put, q1, q2, q3]
  refine tkB (i := 1) (v := .pointer (some ⟨L, 0, none⟩)) (.s .z) (by kernel_rfl) (fun _ _ _ h => h) (Or.inl ⟨by rfl, ?_⟩) (by assumption) ?_
  ·intro wq hSw; (try dsimp only at hSw); go_simp
  try simp only [Act.put, q1, q2, q3]
  refine tkB (i := 2) (v := .pointer (some ⟨L, 0, none⟩)) (.s (.s .z)) (by kernel_rfl) (fun _ _ _ h => h) (Or.inl ⟨by rfl, ?_⟩) (by assumption) ?_
  ·intro wq hSw; (try dsimp only at hSw); go_simp
  try simp only [Act.put, q1, q2, q3]
  refine tkB (i := 3) (v := .pointer (some ⟨L, 1, none⟩)) (.s (.s (.s .z))) (by kernel_rfl) (fun _ _ _ h => h) (Or.inl ⟨by rfl, ?_⟩) (by assumption) ?_
  ·intro wq hSw; (try dsimp only at hSw); go_simp
  try simp only [Act.put, q1, q2, q3]
  refine tkB (i := 5) (v := .int .i64 (m : Int)) (.f .z) (by kernel_rfl) (fun _ _ _ h => h) (Or.inl ⟨by rfl, ?_⟩) (by assumption) ?_
  ·intro wq hSw; (try dsimp only at hSw); go_simp
  try simp only [Act.put, q1, q2, q3]
  refine tkB (i := 6) (v := .int .i64 ((m : Int) + 1)) (.f (.s .z)) (by kernel_rfl) (fun _ _ _ h => h) (Or.inl ⟨by rfl, ?_⟩) (by assumption) ?_
  ·intro wq hSw; (try dsimp only at hSw); go_simp
  try simp only [Act.put, q1, q2, q3]
  refine tkB (i := 7) (v := .iface ty v) (.f (.s (.s .z))) (by kernel_rfl) (fun _ _ _ h => h) (Or.inl ⟨by rfl, ?_⟩) (by assumption) ?_
  ·intro wq hSw; (try dsimp only at hSw); go_simp
  try simp only [Act.put, q1, q2, q3]
  refine wpAnyH_ready (rs := [4, 8]) (by kernel_rfl) (by simp) ?_
  refine rdA (.s (.s (.s (.s .z)))) (fun K hK => ?_) ?_
  rotate_left 1
  refine rdA (.f (.s (.s (.s .z)))) (fun K hK => ?_) ?_
  rotate_left 1
  exact AllReadyH.nil
  ·obtain ⟨y0, y1⟩ := box_twoG boxD
   have hly := (Array.getElem?_eq_some_iff.1 (boxD)).1
   go_simp
   clear y0 y1 hly
   refine hK.out _ _ (trivial) (fun hHeld => ?_)
   clear hK K
   try simp only [Act.put, q1, q2, q3]
   refine wpAnyH_ready (rs := [8]) (by kernel_rfl) (by simp) ?_
   refine rdA (.f (.s (.s (.s .z)))) (fun K hK => ?_) AllReadyH.nil
   go_simp
   refine hpart.mono ?_
   intro e w3 hpa
   obtain ⟨ty2, v2, rfl, box3, boxA, hins⟩ := HFIN.out e w3 hpa
   clear hpa HFIN hpart
   go_wp2_with fail
   refine hK.out _ _ (trivial) (fun hHeld => ?_)
   clear hK K
   try simp only [Act.put, q1, q2, q3]
   refine wpAnyH_ready (rs := [9]) (by kernel_rfl) (by simp) ?_
   refine rdA (.f (.s (.s (.s (.s .z))))) (fun K hK => ?_) AllReadyH.nil
   go_simp
   refine hK.out _ _ (trivial) (fun hHeld => ?_)
   clear hK K
   try simp only [Act.put, q1, q2, q3]
   refine wpAnyH_ready (rs := [10]) (by kernel_rfl) (by simp) ?_
   refine rdA (.t .z) (fun K hK => ?_) AllReadyH.nil
   go_simp
   refine hins.mono ?_
   rintro e w4 ⟨a', c', rfl, b4, hfin⟩
   have HF2 : Hid _ := hfin.2
   clear hfin hins
   go_wp2_with fail
   refine hK.out _ _ (trivial) (fun hHeld => ?_)
   clear hK K
   try simp only [Act.put, q1, q2, q3]
   refine tkB (i := 11) (v := .pointer (some ⟨L, 0, none⟩)) (.t (.s .z)) (by kernel_rfl) (fun _ _ _ h => h) (Or.inl ⟨by rfl, ?_⟩) (by assumption) ?_
   ·intro wq hSw; (try dsimp only at hSw); go_simp
   try simp only [Act.put, q1, q2, q3]
   refine tkB (i := 12) (v := .pointer (some ⟨L, 1, none⟩)) (.t (.s (.s .z))) (by kernel_rfl) (fun _ _ _ h => h) (Or.inl ⟨by rfl, ?_⟩) (by assumption) ?_
   ·intro wq hSw; (try dsimp only at hSw); go_simp
   try simp only [Act.put, q1, q2, q3]
   refine wpAnyH_ready (rs := [13]) (by kernel_rfl) (by simp) ?_
   refine rdA (.t (.s (.s (.s .z)))) (fun K hK => ?_) AllReadyH.nil
   obtain ⟨y0, y1⟩ := box_twoG b4
   have ff := thawT b4
   have hl4 := (Array.getElem?_eq_some_iff.1 b4).1
   go_simp
   clear y0 y1 ff
   refine hK.out _ _ (trivial) (fun hHeld => ?_)
   clear hK K
   try simp only [Act.put, q1, q2, q3]
   refine wpAnyH_done (by kernel_rfl) ?_ _
   refine NoPanic.normal ?_
   clear hHeld b4
   go_wp2_with fail
   go_end0
   exact ⟨rfl, HF2.out⟩
  ·go_simp
   refine hpart.mono ?_
   intro e w3 hpa
   obtain ⟨ty2, v2, rfl, box3, boxA, hins⟩ := HFIN.out e w3 hpa
   clear hpa HFIN hpart
   go_wp2_with fail
   refine hK.out _ _ (trivial) (fun hHeld => ?_)
   clear hK K
   try simp only [Act.put, q1, q2, q3]
   refine wpAnyH_ready (rs := [4, 9]) (by kernel_rfl) (by simp) ?_
   refine rdA (.s (.s (.s (.s .z)))) (fun K hK => ?_) ?_
   rotate_left 1
   refine rdA (.f (.s (.s (.s (.s .z))))) (fun K hK => ?_) ?_
   rotate_left 1
   exact AllReadyH.nil
   ·obtain ⟨y0, y1⟩ := box_twoG box3
    have hly := (Array.getElem?_eq_some_iff.1 (box3)).1
    go_simp
    clear y0 y1 hly
    refine hK.out _ _ (trivial) (fun hHeld => ?_)
    clear hK K
    try simp only [Act.put, q1, q2, q3]
    refine wpAnyH_ready (rs := [9]) (by kernel_rfl) (by simp) ?_
    refine rdA (.f (.s (.s (.s (.s .z))))) (fun K hK => ?_) AllReadyH.nil
    go_simp
    refine hK.out _ _ (trivial) (fun hHeld => ?_)
    clear hK K
    try simp only [Act.put, q1, q2, q3]
    refine wpAnyH_ready (rs := [10]) (by kernel_rfl) (by simp) ?_
    refine rdA (.t .z) (fun K hK => ?_) AllReadyH.nil
    go_simp
    refine hins.mono ?_
    rintro e w4 ⟨a', c', rfl, b4, hfin⟩
    have HF2 : Hid _ := hfin.2
    clear hfin hins
    go_wp2_with fail
    refine hK.out _ _ (trivial) (fun hHeld => ?_)
    clear hK K
    try simp only [Act.put, q1, q2, q3]
    refine tkB (i := 11) (v := .pointer (some ⟨L, 0, none⟩)) (.t (.s .z)) (by kernel_rfl) (fun _ _ _ h => h) (Or.inl ⟨by rfl, ?_⟩) (by assumption) ?_
    ·intro wq hSw; (try dsimp only at hSw); go_simp
    try simp only [Act.put, q1, q2, q3]
    refine tkB (i := 12) (v := .pointer (some ⟨L, 1, none⟩)) (.t (.s (.s .z))) (by kernel_rfl) (fun _ _ _ h => h) (Or.inl ⟨by rfl, ?_⟩) (by assumption) ?_
    ·intro wq hSw; (try dsimp only at hSw); go_simp
    try simp only [Act.put, q1, q2, q3]
    refine wpAnyH_ready (rs := [13]) (by kernel_rfl) (by simp) ?_
    refine rdA (.t (.s (.s (.s .z)))) (fun K hK => ?_) AllReadyH.nil
    obtain ⟨y0, y1⟩ := box_twoG b4
    have ff := thawT b4
    have hl4 := (Array.getElem?_eq_some_iff.1 b4).1
    go_simp
    clear y0 y1 ff
    refine hK.out _ _ (trivial) (fun hHeld => ?_)
    clear hK K
    try simp only [Act.put, q1, q2, q3]
    refine wpAnyH_done (by kernel_rfl) ?_ _
    refine NoPanic.normal ?_
    clear hHeld b4
    go_wp2_with fail
    go_end0
    exact ⟨rfl, HF2.out⟩
   ·go_simp
    refine hK.out _ _ (trivial) (fun hHeld => ?_)
    clear hK K
    try simp only [Act.put, q1, q2, q3]
    refine wpAnyH_ready (rs := [4]) (by kernel_rfl) (by simp) ?_
    refine rdA (.s (.s (.s (.s .z)))) (fun K hK => ?_) AllReadyH.nil
    obtain ⟨y0, y1⟩ := box_twoG boxA
    have hly := (Array.getElem?_eq_some_iff.1 (boxA)).1
    go_simp
    clear y0 y1 hly
    refine hK.out _ _ (trivial) (fun hHeld => ?_)
    clear hK K
    try simp only [Act.put, q1, q2, q3]
    refine wpAnyH_ready (rs := [10]) (by kernel_rfl) (by simp) ?_
    refine rdA (.t .z) (fun K hK => ?_) AllReadyH.nil
    go_simp
    refine hins.mono ?_
    rintro e w4 ⟨a', c', rfl, b4, hfin⟩
    have HF2 : Hid _ := hfin.2
    clear hfin hins
    go_wp2_with fail
    refine hK.out _ _ (trivial) (fun hHeld => ?_)
    clear hK K
    try simp only [Act.put, q1, q2, q3]
    refine tkB (i := 11) (v := .pointer (some ⟨L, 0, none⟩)) (.t (.s .z)) (by kernel_rfl) (fun _ _ _ h => h) (Or.inl ⟨by rfl, ?_⟩) (by assumption) ?_
    ·intro wq hSw; (try dsimp only at hSw); go_simp
    try simp only [Act.put, q1, q2, q3]
    refine tkB (i := 12) (v := .pointer (some ⟨L, 1, none⟩)) (.t (.s (.s .z))) (by kernel_rfl) (fun _ _ _ h => h) (Or.inl ⟨by rfl, ?_⟩) (by assumption) ?_
    ·intro wq hSw; (try dsimp only at hSw); go_simp
    try simp only [Act.put, q1, q2, q3]
    refine wpAnyH_ready (rs := [13]) (by kernel_rfl) (by simp) ?_
    refine rdA (.t (.s (.s (.s .z)))) (fun K hK => ?_) AllReadyH.nil
    obtain ⟨y0, y1⟩ := box_twoG b4
    have ff := thawT b4
    have hl4 := (Array.getElem?_eq_some_iff.1 b4).1
    go_simp
    clear y0 y1 ff
    refine hK.out _ _ (trivial) (fun hHeld => ?_)
    clear hK K
    try simp only [Act.put, q1, q2, q3]
    refine wpAnyH_done (by kernel_rfl) ?_ _
    refine NoPanic.normal ?_
    clear hHeld b4
    go_wp2_with fail
    go_end0
    exact ⟨rfl, HF2.out⟩
structure Soft (t : T) (lo hi : Nat) : Prop where
 page : t.page = 0
 size : lo ≤ t.size ∧ t.size ≤ hi
 leaf : t.leaf = true → t.vals.length = t.keys.length ∧ t.over.length = t.keys.length ∧ (∀ x ∈ t.vals.zip t.over, standB 0 x.1 x.2 = true) ∧ t.kids = []
 kids : ∀ k ∈ t.kids, k.good false = true ∧ Shape k
theorem good_parts {t : T} {r : Bool} (h : t.good r = true) : ((if r && t.leaf then 0 else 2) ≤ t.size ∧ t.size ≤ 4) ∧ (t.leaf = true → t.vals.length = t.keys.length ∧ t.over.length = t.keys.length ∧ ∀ x ∈ t.vals.zip t.over, standB t.page x.1 x.2 = true) ∧ ∀ k ∈ t.kids, k.good false = true := by
 have h0 := h
 rw [T.good_eq] at h
 simp only [Bool.and_eq_true, decide_eq_true_eq] at h
 refine ⟨by simpa using h.1.1.1.1, fun hl => ?_, fun k hk => goodG_kid h0 hk⟩
 have h2 := h.1.1.2
 rw [hl] at h2
 simp only [Bool.not_true, Bool.false_or, Bool.and_eq_true, decide_eq_true_eq, List.all_eq_true] at h2
 exact ⟨h2.1.1, h2.1.2, h2.2⟩
theorem Soft.good {t : T} {lo hi : Nat} (h : Soft t lo hi) (r : Bool) (hlo : (if r && t.leaf then 0 else 2) ≤ t.size) (hhi : t.size ≤ 4) : t.good r = true := by
 rw [T.good_eq]
 have hp := h.page
 simp only [Bool.and_eq_true, decide_eq_true_eq]
 refine ⟨⟨⟨⟨⟨by simpa using hlo, hhi⟩, by simp [hp]⟩, ?_⟩, ?_⟩, ?_⟩
 ·cases hl : t.leaf
  ·rfl
  ·obtain ⟨h1, h2, h3, _⟩ := h.leaf hl
   simp only [Bool.not_true, Bool.false_or, Bool.and_eq_true, decide_eq_true_eq, List.all_eq_true]
   exact ⟨⟨h1, h2⟩, fun x hx => by rw [hp]; exact h3 x hx⟩
 ·rw [List.all_eq_true]
  intro x hx
  obtain ⟨k, hk, rfl⟩ := List.mem_map.1 hx
  exact (h.kids k hk).1
 ·rw [List.all_eq_true]
  intro k hk
  simp [hp]
theorem Soft.shape {t : T} {lo hi : Nat} (h : Soft t lo hi) : Shape t := by
 rw [shape_eq]
 exact ⟨fun hl => (h.leaf hl).2.2.2, fun k hk => (h.kids k hk).2⟩
theorem stand_soft {p : Int} {v : ByteArray} {o : Int} (h : standB p v o = true) : standB 0 v o = true := by
 unfold standB at h ⊢
 simp only [Bool.and_eq_true] at h ⊢
 exact ⟨h.1, by simp⟩
theorem zip_map2 : ∀ (zs : List (ByteArray × ByteArray × Int)), (zs.map (fun s => s.2.1)).zip (zs.map (fun s => s.2.2)) = zs.map (fun s => s.2)
 | [] => rfl
 | s :: r => by simp [zip_map2 r]
theorem leafZ_soft {zs : List (ByteArray × ByteArray × Int)} {lo hi : Nat} (h : lo ≤ zs.length ∧ zs.length ≤ hi) (hz : ∀ s ∈ zs, standB 0 s.2.1 s.2.2 = true) : Soft (leafZ zs) lo hi := by
 refine ⟨rfl, by simpa [leafZ, T.size] using h, fun _ => ⟨by simp [leafZ], by simp [leafZ], fun x hx => ?_, rfl⟩, fun k hk => by simp [leafZ] at hk⟩
 have e : (leafZ zs).vals.zip (leafZ zs).over = zs.map (fun s => s.2) := zip_map2 zs
 rw [e] at hx
 obtain ⟨s, hs, rfl⟩ := List.mem_map.1 hx
 exact hz s hs
theorem zip_mem {a : List ByteArray} {b : List ByteArray} {c : List Int} {s : ByteArray × ByteArray × Int} (h : s ∈ a.zip (b.zip c)) : s.2 ∈ b.zip c := by
 obtain ⟨s1, s2⟩ := s
 exact (List.of_mem_zip h).2
theorem soft_cut {t : T} {lo : Nat} (h : Soft t lo 5) (hlo : lo ≤ 2) : ∀ x ∈ cutT t, Soft x lo 4 := by
 intro x hx
 unfold cutT at hx
 split at hx
 ·rename_i h4
  simp at hx
  subst hx
  exact ⟨h.page, ⟨h.size.1, h4⟩, h.leaf, h.kids⟩
 ·rename_i h4
  have h5 : t.size = 5 := by have := h.size.2; omega
  simp only [List.mem_cons, List.not_mem_nil, or_false] at hx
  cases hl : t.leaf
  ·have hk5 : t.kids.length = 5 := by simpa [T.size, hl] using h5
   rcases hx with rfl | rfl
   ·exact ⟨rfl, by simp [T.size, T.fore, hl, hk5]; omega, fun e => by simp [T.fore, hl] at e, fun k hk => h.kids k (List.mem_of_mem_take hk)⟩
   ·exact ⟨rfl, by simp [T.size, T.rest, hl, hk5]; omega, fun e => by simp [T.rest, hl] at e, fun k hk => h.kids k (List.mem_of_mem_drop hk)⟩
  ·have hk5 : t.keys.length = 5 := by simpa [T.size, hl] using h5
   obtain ⟨e1, e2, e3, e4⟩ := h.leaf hl
   rcases hx with rfl | rfl
   ·refine ⟨rfl, by simp [T.size, T.fore, hl, hk5]; omega, fun _ => ⟨by simp [T.fore, e1], by simp [T.fore, e2], fun x hx => e3 x ?_, by simp [T.fore, e4]⟩, fun k hk => h.kids k (List.mem_of_mem_take hk)⟩
    simp only [T.fore, List.zip, ← List.take_zipWith] at hx
    exact List.mem_of_mem_take hx
   ·refine ⟨rfl, by simp [T.size, T.rest, hl, hk5]; omega, fun _ => ⟨by simp [T.rest, e1], by simp [T.rest, e2], fun x hx => e3 x ?_, by simp [T.rest, e4]⟩, fun k hk => h.kids k (List.mem_of_mem_drop hk)⟩
    simp only [T.rest, List.zip, ← List.drop_zipWith] at hx
    exact List.mem_of_mem_drop hx
theorem cut_len (t : T) : 1 ≤ (cutT t).length ∧ (cutT t).length ≤ 2 := by
 unfold cutT
 split <;> simp
theorem soft_put (key val : ByteArray) (hv : val.size ≤ 400) : ∀ (t : T) (r : Bool), t.good r = true → Shape t → Soft (putT key val t) (if r && t.leaf then 0 else 2) 5 := by
 intro t
 induction t using T.ind with
 | h t ih =>
  intro r hg hs
  rw [shape_eq] at hs
  obtain ⟨hsz, hlf, hkd⟩ := good_parts hg
  cases hl : t.leaf
  ·have hsk : t.size = t.kids.length := by simp [T.size, hl]
   have h0 : 0 < t.kids.length := by simp [hl] at hsz; omega
   obtain ⟨k, hk, hkm⟩ := tow_kid (key := key) (ys := t.kids) h0
   rw [putT_inner hl hk]
   have hsf := ih k hkm false (hkd k hkm) (hs.2 k hkm)
   simp only [Bool.false_and, Bool.false_eq_true, if_false] at hsf
   have hm := tow_lt (key := key) t.kids h0
   have hcl := cut_len (putT key val k)
   refine ⟨rfl, ?_, fun e => by simp at e, fun x hx => ?_⟩
   ·simp [T.size, hl] at hsz ⊢
    omega
   ·rcases List.mem_append.1 hx with hx | hx
    ·rcases List.mem_append.1 hx with hx | hx
     ·exact ⟨hkd x (List.mem_of_mem_take hx), hs.2 x (List.mem_of_mem_take hx)⟩
     ·have := soft_cut hsf (Nat.le_refl _) x hx
      exact ⟨this.good false (by simpa using this.size.1) this.size.2, this.shape⟩
    ·exact ⟨hkd x (List.mem_of_mem_drop hx), hs.2 x (List.mem_of_mem_drop hx)⟩
  ·rw [putT_leaf hl]
   obtain ⟨e1, e2, e3⟩ := hlf hl
   have hzl : (t.keys.zip (t.vals.zip t.over)).length = t.keys.length := by simp [e1, e2]
   have hsk : t.size = t.keys.length := by simp [T.size, hl]
   refine leafZ_soft ?_ (fun s hs2 => ?_)
   ·rw [putZ_len, hzl]
    rw [hl] at hsz
    generalize (if (r && true) = true then 0 else 2) = lo at *
    split <;> omega
   ·rcases putZ_mem hs2 with rfl | hm
    ·unfold standB
     simp [hv]
    ·exact stand_soft (e3 _ (zip_mem hm))
theorem put_size {key val : ByteArray} (hv : val.size ≤ 400) {k : T} (hg : k.good false = true) (hs : Shape k) : (putT key val k).size ≤ 5 := (soft_put key val hv k false hg hs).size.2
theorem putOk_all (key val : ByteArray) (hv : val.size ≤ 400) : ∀ (t : T) (r : Bool), t.nodes ≤ 100000 → t.good r = true → 0 ≤ t.ht → Shape t → SortT t.slots → PutOk key val t := by
 intro t
 induction t using T.ind with
 | h t ih =>
  intro r hn hg hh hs hso w P ty v hG hP
  have hs0 := hs
  rw [shape_eq] at hs
  obtain ⟨hsz, hlf, hkd⟩ := good_parts hg
  cases hl : t.leaf
  ·obtain ⟨L, a, n, c, ul, Q, e, q⟩ := hG.inner hl
   cases e
   have hsk : t.size = n := by rw [q.len]; simp [T.size, hl]
   have h0 : 2 ≤ n ∧ n ≤ 4 := by simp [hl] at hsz; omega
   obtain ⟨k0, r0, hk0⟩ : ∃ k ks, t.kids = k :: ks := List.exists_cons_of_ne_nil (by intro e; have := q.len; rw [e] at this; simp at this; omega)
   obtain ⟨f1, f2⟩ := ht_first hl hk0 hh
   refine ⟨fun w => by kernel_rfl, 100, .pointer (some ⟨L, 0, none⟩), fun w => by kernel_rfl, fun x w => by kernel_rfl, ?_⟩
   exact innerPut_any q hl (by omega) h0.2 hP key val (fun k hk => ⟨by have := nodesG_kid hk; omega, hkd k hk, (f2 k hk).1⟩) (fun k hk => put_size hv (hkd k hk) (hs.2 k hk)) (fun k hk ⟨i, hi, hki⟩ => ih k hk false (by have := nodesG_kid hk; omega) (hkd k hk) (f2 k hk).1 (hs.2 k hk) (look_toward hl ⟨r, hg⟩ hso hi hki).2)
  ·obtain ⟨L, a, n, c, e, q⟩ := hG.leaf hl
   cases e
   have hsk : t.size = n := by rw [q.len]; simp [T.size, hl]
   have hsl : t.slots = t.keys.zip (t.vals.zip t.over) := by rw [T.slots_eq, if_pos hl, hs.1 hl]; simp
   rw [hsl] at hso
   refine ⟨fun w => by kernel_rfl, 121, .pointer (some ⟨L, 0, none⟩), fun w => by kernel_rfl, fun x w => by kernel_rfl, ?_⟩
   rw [putT_leaf hl]
   exact leafPut_any q hso (by omega) hP key val
theorem cut_nodes (t : T) : ((cutT t).map T.nodes).sum ≤ t.nodes + 1 := by
 unfold cutT
 split
 ·simp
 ·simp only [List.map_cons, List.map_nil, List.sum_cons, List.sum_nil, T.nodes_eq]
  have e : (t.kids.map T.nodes).sum = ((t.kids.take 3).map T.nodes).sum + ((t.kids.drop 3).map T.nodes).sum := by
   rw [← List.sum_append, ← List.map_append, List.take_append_drop]
  simp only [T.fore, T.rest]
  omega
theorem put_nodes (key val : ByteArray) : ∀ (t : T) (r : Bool), t.good r = true → Shape t → (putT key val t).nodes + 1 ≤ 2 * t.nodes := by
 intro t
 induction t using T.ind with
 | h t ih =>
  intro r hg hs
  rw [shape_eq] at hs
  obtain ⟨hsz, hlf, hkd⟩ := good_parts hg
  cases hl : t.leaf
  ·have h0 : 0 < t.kids.length := by simp [hl, T.size] at hsz; omega
   obtain ⟨k, hk, hkm⟩ := tow_kid (key := key) (ys := t.kids) h0
   rw [putT_inner hl hk, T.nodes_eq, T.nodes_eq t]
   have h1 := ih k hkm false (hkd k hkm) (hs.2 k hkm)
   have h2 := cut_nodes (putT key val k)
   have hm := tow_lt (key := key) t.kids h0
   generalize towN key t.kids = m at *
   have e : (t.kids.map T.nodes).sum = ((t.kids.take m).map T.nodes).sum + k.nodes + ((t.kids.drop (m + 1)).map T.nodes).sum := by
    have e1 : t.kids = t.kids.take m ++ (k :: t.kids.drop (m + 1)) := by
     have e2 : t.kids.drop m = k :: t.kids.drop (m + 1) := by
      rw [List.drop_eq_getElem_cons hm]
      congr 1
      rw [List.getElem?_eq_getElem hm] at hk
      simpa using hk
     rw [← e2, List.take_append_drop]
    have e3 := congrArg (fun l => (l.map T.nodes).sum) e1
    simp only [List.map_append, List.map_cons, List.sum_append, List.sum_cons] at e3
    omega
   simp only [List.map_append, List.sum_append]
   omega
  ·rw [putT_leaf hl]
   have : (leafZ (putZ key val (t.keys.zip (t.vals.zip t.over)))).nodes = 1 := by rw [T.nodes_eq]; rfl
   rw [this, T.nodes_eq t]
   omega
theorem slots_mem {t : T} {s : ByteArray × ByteArray × Int} (h : s ∈ t.slots) : (t.leaf = true ∧ s ∈ t.keys.zip (t.vals.zip t.over)) ∨ ∃ k ∈ t.kids, s ∈ k.slots := by
 rw [T.slots_eq] at h
 rcases List.mem_append.1 h with h | h
 ·split at h
  ·rename_i hl; exact .inl ⟨hl, h⟩
  ·cases h
 ·obtain ⟨l, hl, hs⟩ := List.mem_flatten.1 h
  obtain ⟨k, hk, rfl⟩ := List.mem_map.1 hl
  exact .inr ⟨k, hk, hs⟩
theorem kid_slots {t k : T} {s : ByteArray × ByteArray × Int} (hk : k ∈ t.kids) (hs : s ∈ k.slots) : s ∈ t.slots := by
 rw [T.slots_eq]
 exact List.mem_append_right _ (List.mem_flatten.2 ⟨k.slots, List.mem_map.2 ⟨k, hk, rfl⟩, hs⟩)
theorem leaf_slots {t : T} {s : ByteArray × ByteArray × Int} (hl : t.leaf = true) (hs : s ∈ t.keys.zip (t.vals.zip t.over)) : s ∈ t.slots := by
 rw [T.slots_eq, if_pos hl]
 exact List.mem_append_left _ hs
theorem cut_slots {t x : T} {s : ByteArray × ByteArray × Int} (hx : x ∈ cutT t) (hs : s ∈ x.slots) : s ∈ t.slots := by
 unfold cutT at hx
 split at hx
 ·simp at hx; subst hx; exact hs
 ·simp only [List.mem_cons, List.not_mem_nil, or_false] at hx
  rcases hx with rfl | rfl
  ·rcases slots_mem hs with ⟨hl, h⟩ | ⟨k, hk, h⟩
   ·simp only [T.fore] at h hl
    rw [zip_take3] at h
    exact leaf_slots hl (List.mem_of_mem_take h)
   ·exact kid_slots (List.mem_of_mem_take hk) h
  ·rcases slots_mem hs with ⟨hl, h⟩ | ⟨k, hk, h⟩
   ·simp only [T.rest] at h hl
    rw [zip_drop3] at h
    exact leaf_slots hl (List.mem_of_mem_drop h)
   ·exact kid_slots (List.mem_of_mem_drop hk) h
theorem put_slots (key val : ByteArray) : ∀ (t : T), (t.leaf = false → 0 < t.kids.length) → (∀ k ∈ t.kids, k.good false = true) → ∀ s ∈ (putT key val t).slots, s = (key, val, 0) ∨ s ∈ t.slots := by
 intro t
 induction t using T.ind with
 | h t ih =>
  intro h0 hg s hs
  cases hl : t.leaf
  ·obtain ⟨k, hk, hkm⟩ := tow_kid (key := key) (ys := t.kids) (h0 hl)
   rw [putT_inner hl hk] at hs
   rcases slots_mem hs with ⟨e, _⟩ | ⟨x, hx, hsx⟩
   ·simp at e
   ·rcases List.mem_append.1 hx with hx | hx
    ·rcases List.mem_append.1 hx with hx | hx
     ·exact .inr (kid_slots (List.mem_of_mem_take hx) hsx)
     ·have h2 := good_parts (hg k hkm)
      rcases ih k hkm (fun e => by simp [T.size, e] at h2; omega) h2.2.2 s (cut_slots hx hsx) with e | e
      ·exact .inl e
      ·exact .inr (kid_slots hkm e)
    ·exact .inr (kid_slots (List.mem_of_mem_drop hx) hsx)
  ·rw [putT_leaf hl] at hs
   rcases slots_mem hs with ⟨_, h⟩ | ⟨x, hx, _⟩
   ·rw [leafZ_zip] at h
    rcases putZ_mem h with e | e
    ·exact .inl e
    ·exact .inr (leaf_slots hl e)
   ·simp [leafZ] at hx
theorem good_whole : ∀ (t : T) (r : Bool), t.good r = true → Shape t → t.whole = true := by
 intro t
 induction t using T.ind with
 | h t ih =>
  intro r hg hs
  rw [shape_eq] at hs
  obtain ⟨hsz, hlf, hkd⟩ := good_parts hg
  rw [T.whole_eq]
  simp only [Bool.and_eq_true]
  refine ⟨⟨?_, ?_⟩, ?_⟩
  ·cases hl : t.leaf
   ·rfl
   ·obtain ⟨e1, e2, _⟩ := hlf hl
    have hsk : t.size = t.keys.length := by simp [T.size, hl]
    simp only [Bool.not_true, Bool.false_or, Bool.and_eq_true, decide_eq_true_eq]
    exact ⟨⟨⟨e1, e2⟩, by omega⟩, by simp [hs.1 hl]⟩
  ·cases hl : t.leaf
   ·have hsk : t.size = t.kids.length := by simp [T.size, hl]
    simp only [Bool.false_or, Bool.and_eq_true, List.all_eq_true, decide_eq_true_eq]
    refine ⟨?_, fun k hk => ?_⟩
    ·cases hk : t.kids with
     | nil => rw [hk] at hsk; simp [hl] at hsz hsk; omega
     | cons a b => rfl
    ·have := (good_parts (hkd k hk)).1; simp at this; omega
   ·rfl
  ·rw [List.all_eq_true]
   intro x hx
   obtain ⟨k, hk, rfl⟩ := List.mem_map.1 hx
   exact ih k hk false (hkd k hk) (hs.2 k hk)
theorem rootP_ok {key val : ByteArray} (hv : val.size ≤ 400) (hky : kyB key = true) {t : T} (hg : t.good true = true) (hs : Shape t) (hk : t.slots.all (fun s => kyB s.1) = true) : (rootP key val t).good true = true ∧ Shape (rootP key val t) ∧ (rootP key val t).whole = true ∧ (rootP key val t).nodes ≤ 2 * t.nodes + 1 ∧ (rootP key val t).slots.all (fun s => kyB s.1) = true := by
 have hsf := soft_put key val hv t true hg hs
 have hn := put_nodes key val t true hg hs
 have hp := good_parts hg
 have hks : ∀ s ∈ (putT key val t).slots, kyB s.1 = true := fun s hs2 => by
  rcases put_slots key val t (fun e => by simp [T.size, e] at hp; omega) hp.2.2 s hs2 with e | e
  ·rw [e]; exact hky
  ·exact (List.all_eq_true.1 hk) s e
 have key1 : (rootP key val t).good true = true ∧ Shape (rootP key val t) ∧ (rootP key val t).nodes ≤ 2 * t.nodes + 1 ∧ (rootP key val t).slots.all (fun s => kyB s.1) = true := by
  unfold rootP
  split
  ·rename_i h4
   have hlf : (putT key val t).leaf = t.leaf := by
    cases hl : t.leaf
    ·obtain ⟨k, hk2, _⟩ := tow_kid (key := key) (ys := t.kids) (by simp [T.size, hl] at hp; omega)
     rw [putT_inner hl hk2]
    ·rw [putT_leaf hl]; rfl
   exact ⟨hsf.good true (by rw [hlf]; simpa using hsf.size.1) h4, hsf.shape, by omega, List.all_eq_true.2 hks⟩
  ·rename_i h4
   have h2 : ∀ x ∈ cutT (putT key val t), x.good false = true ∧ Shape x := fun x hx => by
    have h5 : Soft (putT key val t) 2 5 := ⟨hsf.page, ⟨by omega, hsf.size.2⟩, hsf.leaf, hsf.kids⟩
    have := soft_cut h5 (Nat.le_refl _) x hx
    exact ⟨this.good false (by simpa using this.size.1) this.size.2, this.shape⟩
   have hcl : (cutT (putT key val t)).length = 2 := by unfold cutT; rw [if_neg h4]; rfl
   have hso : Soft ⟨false, 0, [], [], [], cutT (putT key val t)⟩ 2 4 := ⟨rfl, by simp [T.size, hcl], fun e => by simp at e, h2⟩
   refine ⟨hso.good true (by simp [T.size, hcl]) (by simp [T.size, hcl]), hso.shape, ?_, List.all_eq_true.2 (fun s hs2 => ?_)⟩
   ·rw [T.nodes_eq]
    have := cut_nodes (putT key val t)
    simp only
    omega
   ·rcases slots_mem hs2 with ⟨e, _⟩ | ⟨x, hx, hsx⟩
    ·simp at e
    ·exact hks s (cut_slots hx hsx)
 exact ⟨key1.1, key1.2.1, good_whole _ true key1.1 key1.2.1, key1.2.2⟩
theorem emptyC (w : World) (e : TypeId) : (w.alloc (.cells #[] e)).ownsRow w.heap.size e 1 (.slice (some ⟨w.heap.size, 0, none⟩) 0 0) 0 [] := by
 have := World.ownsRow_made w #[] (base := w.heap.size) (e := e) (size := 1) 0 (by simp) (by unfold maxLen; omega) (by simp)
 simpa using this
theorem info_strC : (Tryz.prog.info? 9).map (fun i => (i.zero, i.size, i.bytes)) = some (some (.string ByteArray.empty), 1, 16) := by kernel_rfl
theorem info_i64C : (Tryz.prog.info? 2).map (fun i => (i.zero, i.size, i.bytes)) = some (some (.int .i64 0), 1, 8) := by kernel_rfl
set_option maxHeartbeats 1000000 in
theorem cloneStr_any (a : Option Addr) (n c : Nat) (xs : List Value) (w : World) (hx : xs.length = n) (hm : n ≤ 1048576) (h0 : a = none → n = 0) (h1 : ∀ u ∈ xs, u.oneCell' = true) (hc : ∀ ad, a = some ad → ∀ j u, xs[j]? = some u → (ad.add j).block < w.heap.size ∧ w.cell? (ad.add j) = some u) :
  Calls Tryz.prog 51 #[.slice a n c] w fun e w' => ∃ v, e = .returned v ∧ w'.ownsRow w.heap.size 9 1 v n xs ∧ Below w.heap.size w w' := by
 have hq : ∀ (w : World) (a : Option Addr) (n c n' c' : Nat), (binOp .eql 44 (.slice a n c) (.slice none n' c')).run Tryz.prog w = .ok (.bool a.isNone) w := fun w a n c n' c' => Lib.run_eql_slice_nil w _ _ a n c n' c' Tryz.underlying44
 obtain ⟨i1, hi1, hy0, hy1, hy2⟩ := info_parts info_strC
 cases a with
 | none =>
  have hn := h0 rfl
  subst hn
  obtain rfl : xs = [] := List.length_eq_zero_iff.1 hx
  clear hc h0
  go_enter Tryz.func51, Tryz.ntmps51
  go_wp2
  go_ret
  exact ⟨_, rfl, World.ownsRow_nil _ _ _ _, Below.refl _ _⟩
 | some ad =>
  have hb2 : Below w.heap.size w (w.alloc (.cells #[] 9)) := (Below.refl _ _).alloc (Nat.le_refl _) _
  have hR2 := emptyC w 9
  have hc2 : ∀ j u, xs[j]? = some u → (w.alloc (.cells #[] 9)).cell? (ad.add j) = some u := fun j u hj => (hb2.cell (p := ad.add j) (hc ad rfl j u hj).1).trans (hc ad rfl j u hj).2
  clear hc
  go_enter Tryz.func51, Tryz.ntmps51
  go_wp2_with (at_builtin; refine wpList_append_ownD _ rfl _ _ 44 rfl w.heap.size 9 i1 _ 1 16 Tryz.underlying44 hi1 hy0 hy1 hy2 rfl (by decide) _ _ _ rfl hR2 ad n c xs rfl (by omega) hc2 h1 (by unfold maxLen; omega) (by omega) hb2.size ?_; intro v' w5 hown' hgr' hat'; rw [Nat.zero_add, List.nil_append] at hown')
  have hb3 := hb2.grown hgr' hb2.size (fun g e => (hR2.lt g e).1)
  go_ret
  exact ⟨v', rfl, hown', hb3⟩
set_option maxHeartbeats 1000000 in
theorem cloneInt_any (a : Option Addr) (n c : Nat) (xs : List Value) (w : World) (hx : xs.length = n) (hm : n ≤ 1048576) (h0 : a = none → n = 0) (h1 : ∀ u ∈ xs, u.oneCell' = true) (hc : ∀ ad, a = some ad → ∀ j u, xs[j]? = some u → (ad.add j).block < w.heap.size ∧ w.cell? (ad.add j) = some u) :
  Calls Tryz.prog 52 #[.slice a n c] w fun e w' => ∃ v, e = .returned v ∧ w'.ownsRow w.heap.size 2 1 v n xs ∧ Below w.heap.size w w' := by
 have hq : ∀ (w : World) (a : Option Addr) (n c n' c' : Nat), (binOp .eql 45 (.slice a n c) (.slice none n' c')).run Tryz.prog w = .ok (.bool a.isNone) w := fun w a n c n' c' => Lib.run_eql_slice_nil w _ _ a n c n' c' Tryz.underlying45
 obtain ⟨i1, hi1, hy0, hy1, hy2⟩ := info_parts info_i64C
 cases a with
 | none =>
  have hn := h0 rfl
  subst hn
  obtain rfl : xs = [] := List.length_eq_zero_iff.1 hx
  clear hc h0
  go_enter Tryz.func52, Tryz.ntmps52
  go_wp2
  go_ret
  exact ⟨_, rfl, World.ownsRow_nil _ _ _ _, Below.refl _ _⟩
 | some ad =>
  have hb2 : Below w.heap.size w (w.alloc (.cells #[] 2)) := (Below.refl _ _).alloc (Nat.le_refl _) _
  have hR2 := emptyC w 2
  have hc2 : ∀ j u, xs[j]? = some u → (w.alloc (.cells #[] 2)).cell? (ad.add j) = some u := fun j u hj => (hb2.cell (p := ad.add j) (hc ad rfl j u hj).1).trans (hc ad rfl j u hj).2
  clear hc
  go_enter Tryz.func52, Tryz.ntmps52
  go_wp2_with (at_builtin; refine wpList_append_ownD _ rfl _ _ 45 rfl w.heap.size 2 i1 _ 1 8 Tryz.underlying45 hi1 hy0 hy1 hy2 rfl (by decide) _ _ _ rfl hR2 ad n c xs rfl (by omega) hc2 h1 (by unfold maxLen; omega) (by omega) hb2.size ?_; intro v' w5 hown' hgr' hat'; rw [Nat.zero_add, List.nil_append] at hown')
  have hb3 := hb2.grown hgr' hb2.size (fun g e => (hR2.lt g e).1)
  go_ret
  exact ⟨v', rfl, hown', hb3⟩
theorem strs_one (xs : List ByteArray) : ∀ u ∈ rowsOf strCells xs, u.oneCell' = true := by
 intro u hu
 obtain ⟨s, _, hu⟩ := List.mem_flatMap.1 hu
 simp [strCells] at hu
 subst hu; rfl
theorem ints_one (xs : List Int) : ∀ u ∈ rowsOf intCells xs, u.oneCell' = true := by
 intro u hu
 obtain ⟨s, _, hu⟩ := List.mem_flatMap.1 hu
 simp [intCells] at hu
 subst hu; rfl
theorem rowsAt_cells {α : Type} {w : World} {A B : Nat} {cs : α → List Value} {fit : α → Prop} {d : α} {a : Option Addr} {n c : Nat} {xs : List α} (hc1 : ∀ x, (cs x).length = 1) (h : RowsAt w A B 1 cs fit d a n c xs) (hB : B ≤ w.heap.size) : (rowsOf cs xs).length = n ∧ (a = none → n = 0) ∧ ∀ ad, a = some ad → ∀ j u, (rowsOf cs xs)[j]? = some u → (ad.add j).block < w.heap.size ∧ w.cell? (ad.add j) = some u := by
 obtain ⟨h1, h2, h3, h4, h5⟩ := h
 have hl : (rowsOf cs xs).length = n := by rw [rowsOf_length hc1]; omega
 refine ⟨hl, fun e => ?_, fun ad e j u hj => ?_⟩
 ·rcases Nat.eq_zero_or_pos n with h | h
  ·exact h
  ·obtain ⟨b, off, e2, _⟩ := h5 h
   rw [e] at e2; cases e2
 ·have hj2 := (List.getElem?_eq_some_iff.1 hj).1
  rw [hl] at hj2
  obtain ⟨b, off, e2, hb, hc⟩ := h5 (by omega)
  rw [e] at e2
  simp only [Option.some.injEq] at e2
  subst e2
  have e3 : (⟨b, off, none⟩ : Addr).add j = ⟨b, off + j, none⟩ := by simp [Addr.add]
  rw [e3]
  refine ⟨by show b < _; omega, ?_⟩
  have h9 := hc j hj2 0 (by omega)
  have h8 := rowsOf_get hc1 d xs j 0 (by omega) (by omega)
  simp only [Nat.mul_one, Nat.add_zero] at h9 h8
  rw [h9, ← h8, hj]
end Go.Proofs.YtbgbokgomheodaaGreat
