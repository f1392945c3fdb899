import Derived.Test.YtbgbokgomheodaaGreatGAA
import Derived.Test.YtbgbokgomheodaaGreatGBA
import Derived.Test.YtbgbokgomheodaaGreatTwd
namespace Go.Proofs.YtbgbokgomheodaaGreat
open Go.RowKit
set_option linter.unusedVariables false
set_option linter.unusedSimpArgs false
set_option maxRecDepth 100000
theorem posT_at (key : ByteArray) : ∀ (zs : List (ByteArray × ByteArray × Int)) (j : Nat), j ≤ zs.length → (∀ k, k < j → lessB (zs.getD k (ByteArray.empty, ByteArray.empty, 0)).1 key = true) → (j < zs.length → ¬ lessB (zs.getD j (ByteArray.empty, ByteArray.empty, 0)).1 key = true) → posT key zs = j
 | [], j, h, _, _ => by simp at h; simp [posT, h]
 | s :: r, 0, _, _, h3 => by
  have := h3 (by simp)
  simp [List.getD] at this
  simp [posT, this]
 | s :: r, j + 1, h1, h2, h3 => by
  have h0 := h2 0 (by omega)
  simp [List.getD] at h0
  rw [posT, if_pos h0, posT_at key r j (by simpa using h1) (fun k hk => by simpa [List.getD] using h2 (k + 1) (by omega)) (fun hj => by simpa [List.getD] using h3 (by simpa using hj))]
def PosK (ks : List ByteArray) (key : ByteArray) (i j : Nat) : Prop := i ≤ ks.length ∧ (∀ k, k < i → lessB (ks.getD k ByteArray.empty) key = true) ∧ (i < ks.length → ¬ lessB (ks.getD i ByteArray.empty) key = true) ∧ ((i < ks.length ∧ ks.getD i ByteArray.empty = key ∧ j = i + 1) ∨ (¬ (i < ks.length ∧ ks.getD i ByteArray.empty = key) ∧ j = i))
def oneT (key val : ByteArray) : T := ⟨true, 0, [key], [val], [0], []⟩
theorem zipD {t : T} (h1 : t.vals.length = t.keys.length) (h2 : t.over.length = t.keys.length) {k : Nat} (hk : k < t.keys.length) : ((t.keys.zip (t.vals.zip t.over)).getD k (ByteArray.empty, ByteArray.empty, 0)).1 = t.keys.getD k ByteArray.empty := by
 simp [List.getD, zip3_get (n := t.keys.length) rfl h1 h2 hk]
theorem set_eq {t : T} {key val : ByteArray} {i j : Nat} (hl : t.leaf = true) (hsl : Slim t) (hp : PosK t.keys key i j) : glueT (glueT (t.fore i) (oneT key val)) (t.rest j) = putT key val t := by
 obtain ⟨hy, h1, h2⟩ := hsl.1 hl
 obtain ⟨p1, p2, p3, p4⟩ := hp
 have hz : (t.keys.zip (t.vals.zip t.over)).length = t.keys.length := by simp; omega
 have hi : posT key (t.keys.zip (t.vals.zip t.over)) = i := posT_at key _ i (by omega) (fun k hk => by rw [zipD h1 h2 (by omega)]; exact p2 k hk) (fun hlt => by rw [zipD h1 h2 (by omega)]; exact p3 (by omega))
 have hj : (if thereT key (t.keys.zip (t.vals.zip t.over)) = true then posT key (t.keys.zip (t.vals.zip t.over)) + 1 else posT key (t.keys.zip (t.vals.zip t.over))) = j := by
  rcases p4 with ⟨q1, q2, q3⟩ | ⟨q1, q2⟩
  ·have : thereT key (t.keys.zip (t.vals.zip t.over)) = true := by
    unfold thereT
    rw [hi, hz]
    exact decide_eq_true ⟨q1, by rw [zipD h1 h2 q1]; exact q2⟩
   rw [if_pos this, hi, q3]
  ·have : ¬ thereT key (t.keys.zip (t.vals.zip t.over)) = true := by
    unfold thereT
    rw [hi, hz]
    intro hc
    have hc := of_decide_eq_true hc
    exact q1 ⟨hc.1, by rw [← zipD h1 h2 hc.1]; exact hc.2⟩
   rw [if_neg this, hi, q2]
 rw [putT_leaf hl]
 unfold putZ
 rw [hj, hi]
 have m1 : (t.keys.zip (t.vals.zip t.over)).map (fun s => s.1) = t.keys := List.map_fst_zip (by simp; omega)
 have m0 : (t.keys.zip (t.vals.zip t.over)).map (fun s => s.2) = t.vals.zip t.over := List.map_snd_zip (by simp; omega)
 have m2 : (t.keys.zip (t.vals.zip t.over)).map (fun s => s.2.1) = t.vals := by
  have : (t.keys.zip (t.vals.zip t.over)).map (fun s => s.2.1) = ((t.keys.zip (t.vals.zip t.over)).map (fun s => s.2)).map (fun s => s.1) := by simp
  rw [this, m0]; exact List.map_fst_zip (by omega)
 have m3 : (t.keys.zip (t.vals.zip t.over)).map (fun s => s.2.2) = t.over := by
  have : (t.keys.zip (t.vals.zip t.over)).map (fun s => s.2.2) = ((t.keys.zip (t.vals.zip t.over)).map (fun s => s.2)).map (fun s => s.2) := by simp
  rw [this, m0]; exact List.map_snd_zip (by omega)
 unfold leafZ glueT
 simp only [T.fore, T.rest, oneT, List.map_append, List.map_cons, List.map_take, List.map_drop, m1, m2, m3, hl, hy, List.take_nil, List.drop_nil, List.append_nil, List.append_assoc, List.singleton_append]
theorem SN.shape {w : World} {Q : Nat → Prop} {t : T} {v : Value} (h : SN w Q t v) : ∃ ka kn kc va vn vc oa on oc ya yc, v = .agg #[.bool t.leaf, .int .i64 t.page, .slice ka kn kc, .slice va vn vc, .slice oa on oc, .slice ya t.kids.length yc] := by
 obtain ⟨ka, kn, kc, va, vn, vc, oa, on, oc, ya, yc, css, e, _⟩ := h
 exact ⟨ka, kn, kc, va, vn, vc, oa, on, oc, ya, yc, e⟩
theorem alloc2N (w : World) (a b : Obj) : ((w.alloc a).alloc b).heap[w.heap.size]? = some a ∧ ((w.alloc a).alloc b).heap[w.heap.size + 1]? = some b ∧ ((w.alloc a).alloc b).heap.size = w.heap.size + 2 ∧ Below w.heap.size w ((w.alloc a).alloc b) := by
 have b1 := (Below.refl (w.alloc a).heap.size _).alloc (Nat.le_refl _) b
 have s1 : (w.alloc a).heap.size = w.heap.size + 1 := by simp
 have e1 := heap_alloc_new (w.alloc a) b
 rw [s1] at e1
 exact ⟨(b1.block _ (by omega)).trans (heap_alloc_new w a), e1, by simp, ((Below.refl _ _).alloc (Nat.le_refl _) _).alloc (by simp) _⟩
theorem alloc4N (w : World) (a b c d : Obj) : ((((w.alloc a).alloc b).alloc c).alloc d).heap[w.heap.size]? = some a ∧ ((((w.alloc a).alloc b).alloc c).alloc d).heap[w.heap.size + 1]? = some b ∧ ((((w.alloc a).alloc b).alloc c).alloc d).heap[w.heap.size + 1 + 1]? = some c ∧ ((((w.alloc a).alloc b).alloc c).alloc d).heap[w.heap.size + 1 + 1 + 1]? = some d ∧ ((((w.alloc a).alloc b).alloc c).alloc d).heap.size = w.heap.size + 4 ∧ Below w.heap.size w ((((w.alloc a).alloc b).alloc c).alloc d) := by
 obtain ⟨h0, h1, s2, bA⟩ := alloc2N w a b
 obtain ⟨h2, h3, s4, bB⟩ := alloc2N ((w.alloc a).alloc b) c d
 rw [s2] at h2 h3 s4
 exact ⟨(bB.block _ (by omega)).trans h0, (bB.block _ (by omega)).trans h1, h2, h3, s4, bA.trans (bB.mono (by omega))⟩
theorem row1 {α : Type} {w : World} {B ty : Nat} {cs : α → List Value} {fit : α → Prop} {d x : α} {c : Value} (h : w.heap[B]? = some (.cells #[c] ty)) (hc : cs x = [c]) (hf : fit x) : RowsAt w 0 w.heap.size 1 cs fit d (some ⟨B, 0, none⟩) 1 1 [x] := by
 refine ⟨rfl, Nat.le_refl _, by unfold maxLen; omega, fun i hi => ?_, fun _ => ⟨B, 0, rfl, ⟨Nat.zero_le _, (Array.getElem?_eq_some_iff.1 h).1⟩, fun i hi j hj => ?_⟩⟩
 ·have : i = 0 := by omega
  subst this
  exact hf
 ·have h1 : i = 0 := by omega
  have h2 : j = 0 := by omega
  subst h1 h2
  show w.cell? ⟨B, 0, none⟩ = (cs x)[0]?
  rw [hc]
  simp [World.cell?, h]
theorem one_sn {w : World} {key val : ByteArray} {M : Nat} (hk : key.size ≤ maxLen) (hv : val.size ≤ maxLen) (h0 : w.heap[M]? = some (.cells #[.string key] 9)) (h1 : w.heap[M + 1]? = some (.cells #[.string val] 9)) (h2 : w.heap[M + 1 + 1]? = some (.cells #[.int .i64 0] 2)) : SN w (fun g => M ≤ g) (oneT key val) (.agg #[.bool true, .int .i64 0, .slice (some ⟨M, 0, none⟩) 1 1, .slice (some ⟨M + 1, 0, none⟩) 1 1, .slice (some ⟨M + 1 + 1, 0, none⟩) 1 1, .slice none 0 0]) :=
 ⟨_, _, _, _, _, _, _, _, _, none, 0, fun _ => [], rfl, ⟨⟨(show I64 0 from ⟨by decide, by decide⟩), row1 h0 rfl hk, row1 h1 rfl hv, row1 h2 rfl (show I64 0 from ⟨by decide, by decide⟩), ⟨Nat.le_refl _, by unfold maxLen; omega⟩, fun h => absurd h (by simp [oneT]), fun i z hz => by simp [oneT] at hz⟩, fun _ => ⟨_, _, rfl, Nat.le_refl _⟩, fun _ => ⟨_, _, rfl, by omega⟩, fun _ => ⟨_, _, rfl, by omega⟩, fun h => absurd h (by simp [oneT]), fun i z hz => by simp [oneT] at hz⟩⟩
theorem slim_fore {t : T} (h : Slim t) (hl : t.leaf = true) (hs : t.size ≤ 900) (k : Nat) : (t.fore k).keys.length ≤ 1000 ∧ (t.fore k).vals.length ≤ 1000 ∧ (t.fore k).over.length ≤ 1000 ∧ (t.fore k).kids.length ≤ 1000 := by
 have := size_leaf hl
 obtain ⟨h1, h2, h3⟩ := h.1 hl
 simp [T.fore, h1]
 omega
theorem slim_rest {t : T} (h : Slim t) (hl : t.leaf = true) (hs : t.size ≤ 900) (k : Nat) : (t.rest k).keys.length ≤ 1000 ∧ (t.rest k).vals.length ≤ 1000 ∧ (t.rest k).over.length ≤ 1000 ∧ (t.rest k).kids.length ≤ 1000 := by
 have := size_leaf hl
 obtain ⟨h1, h2, h3⟩ := h.1 hl
 simp [T.rest, h1]
 omega
theorem slim_glue {t : T} (h : Slim t) (hl : t.leaf = true) (hs : t.size ≤ 900) (k : Nat) (key val : ByteArray) : (glueT (t.fore k) (oneT key val)).keys.length ≤ 1000 ∧ (glueT (t.fore k) (oneT key val)).vals.length ≤ 1000 ∧ (glueT (t.fore k) (oneT key val)).over.length ≤ 1000 ∧ (glueT (t.fore k) (oneT key val)).kids.length ≤ 1000 := by
 have := size_leaf hl
 obtain ⟨h1, h2, h3⟩ := h.1 hl
 simp [T.fore, glueT, oneT, h1]
 omega
theorem sn_fr {w w' : World} {Q : Nat → Prop} {t : T} {v : Value} {R : Nat} (h : SN w Q t v) (hf : Fr (fun g => g = R) w w') (hR : ¬ Q R) : SN w' Q t v := h.keep (fun b hb hlt => hf.block b hlt (fun e => hR (e ▸ hb))) (fun _ h => h) hf.size
set_option maxHeartbeats 8000000 in
theorem l3Set_any {w : World} {Q : Nat → Prop} {t : T} {v : Value} (hQ : ∀ b, Q b → b < w.heap.size) (h : SN w Q t v) (hl : t.leaf = true) (hsl : Slim t) (hs : t.size ≤ 900) (key val : ByteArray) (hks : key.size ≤ maxLen) (hvs : val.size ≤ maxLen) : Calls Tryz.prog 43 #[v, .string key, .string val] w fun e w' => ∃ v', e = .returned v' ∧ SN w' (fun g => Q g ∨ w.heap.size ≤ g) (putT key val t) v' ∧ Below w.heap.size w w' := by
 have HSN : Hid (SN w Q t v) := h
 have HQ : Hid (∀ b, Q b → b < w.heap.size) := hQ
 obtain ⟨ka, kn, kc, va, vn, vc, oa, on, oc, ya, yc, css, rfl, hXQ⟩ := h
 have hX := hXQ.nx
 clear hXQ hQ
 have HLF : Hid (t.leaf = true ∧ Slim t ∧ t.size ≤ 900) := ⟨hl, hsl, hs⟩
 have HKV : Hid (key.size ≤ maxLen ∧ val.size ≤ maxLen) := ⟨hks, hvs⟩
 obtain ⟨yn, hyn⟩ : ∃ yn, t.kids.length = yn := ⟨_, rfl⟩
 obtain ⟨pg, hpg⟩ : ∃ pg, t.page = pg := ⟨_, rfl⟩
 rw [hl, hyn, hpg] at HSN ⊢
 obtain ⟨N, hN⟩ : ∃ N, w.heap.size = N := ⟨_, rfl⟩
 obtain ⟨W, hW⟩ : ∃ W, W = ((w.alloc (.cells #[.bool true, .int .i64 pg, .slice ka kn kc, .slice va vn vc, .slice oa on oc, .slice ya yn yc] 48)).alloc (.cells #[.bool false, .int .i64 0, .slice none 0 0, .slice none 0 0, .slice none 0 0, .slice none 0 0] 48)) := ⟨_, rfl⟩
 have hbw : Below N w W := by rw [hW, ← hN]; exact ((Below.refl _ _).alloc (Nat.le_refl _) _).alloc (by simp) _
 have sW : W.heap.size = N + 2 := by rw [hW]; simp [hN]
 have k0 : W.heap[N]? = some (.cells #[.bool true, .int .i64 pg, .slice ka kn kc, .slice va vn vc, .slice oa on oc, .slice ya yn yc] 48) := by
  rw [hW, ← hN]
  exact (((Below.refl (w.alloc (.cells #[.bool true, .int .i64 pg, .slice ka kn kc, .slice va vn vc, .slice oa on oc, .slice ya yn yc] 48)).heap.size _).alloc (Nat.le_refl _) _).block _ (by simp)).trans (heap_alloc_new w _)
 have k1 : W.heap[N + 1]? = some (.cells #[.bool false, .int .i64 0, .slice none 0 0, .slice none 0 0, .slice none 0 0, .slice none 0 0] 48) := by
  have := heap_alloc_new (w.alloc (.cells #[.bool true, .int .i64 pg, .slice ka kn kc, .slice va vn vc, .slice oa on oc, .slice ya yn yc] 48)) (.cells #[.bool false, .int .i64 0, .slice none 0 0, .slice none 0 0, .slice none 0 0, .slice none 0 0] 48)
  rw [show (w.alloc (.cells #[.bool true, .int .i64 pg, .slice ka kn kc, .slice va vn vc, .slice oa on oc, .slice ya yn yc] 48)).heap.size = N + 1 by simp [hN], ← hW] at this
  exact this
 have hK := (hN ▸ hX.keys).below hbw
 have hkn : kn ≤ 1000 := by have := hX.keys.1; have := size_leaf hl; omega
 have HKN : Hid (t.keys.length = kn) := hX.keys.1
 have hkc := hK.2.1
 have hkm := hK.2.2.1
 unfold maxLen at hkm
 clear hX hl hsl hs hyn hpg hks hvs
 go_enter Tryz.func43, Tryz.ntmps43
 go_upto_region 1 with fail
 rw [← hW]
 clear hW
 have lN : N < W.heap.size := by omega
 obtain ⟨p0, p1, p2, p3, p4, p5⟩ := box6g k0
 go_wp2_with fail
 go_loopw [7] (fun i wr => ∃ j : Nat, j ≤ kn ∧ i = .int .i64 j ∧ Hid (∀ k, k < j → lessB (t.keys.getD k ByteArray.empty) key = true) ∧ wr = W) (fun i _ => kn - (intOf i).toNat)
 case atStart => exact ⟨0, Nat.zero_le _, rfl, fun k hk => by omega, rfl⟩
 case round =>
  obtain ⟨j, hj, rfl, HI, rfl⟩ := hrel
  by_cases hlt : j < kn
  ·obtain ⟨b, off, rfl, _, _, e0⟩ := StrsAt.at hK hlt
   cases hless : lessB (t.keys.getD j ByteArray.empty) key
   ·by_cases heq : t.keys.getD j ByteArray.empty = key
    ·have HPOS : Hid (PosK t.keys key j (j + 1)) := ⟨by have := HKN.out; omega, HI.out, fun _ => by rw [hless]; simp, .inl ⟨by have := HKN.out; omega, heq, rfl⟩⟩
     unfold lessB at hless
     rw [heq] at e0 hless
     have hte : (key.toList == key.toList) = true := by simp
     clear heq HI hK
     have lj : j + 1 ≤ kn := by omega
     have hprt := l3Part_any ((HSN.out).below (hN ▸ hbw)) HLF.out.2.1 j (by have := size_leaf HLF.out.1; have := HKN.out; omega) (by have := HLF.out.2.2; omega)
     go_upto_region 8 with (go_at_call 46; refine hprt.mono ?_; rintro e w2 ⟨v1, v2, rfl, hA, hR, hb2⟩; obtain ⟨x0, x1, x2, x3, x4, x5, x6, x7, x8, x9, x10, rfl⟩ := hA.shape; obtain ⟨z0, z1, z2, z3, z4, z5, z6, z7, z8, z9, z10, rfl⟩ := hR.shape)
     have al2 := alloc2N w2 (.cells #[.bool (t.fore j).leaf, .int .i64 (t.fore j).page, .slice x0 x1 x2, .slice x3 x4 x5, .slice x6 x7 x8, .slice x9 (t.fore j).kids.length x10] 48) (.cells #[.bool (t.rest j).leaf, .int .i64 (t.rest j).page, .slice z0 z1 z2, .slice z3 z4 z5, .slice z6 z7 z8, .slice z9 (t.rest j).kids.length z10] 48)
     generalize (w2.alloc (.cells #[.bool (t.fore j).leaf, .int .i64 (t.fore j).page, .slice x0 x1 x2, .slice x3 x4 x5, .slice x6 x7 x8, .slice x9 (t.fore j).kids.length x10] 48)).alloc (.cells #[.bool (t.rest j).leaf, .int .i64 (t.rest j).page, .slice z0 z1 z2, .slice z3 z4 z5, .slice z6 z7 z8, .slice z9 (t.rest j).kids.length z10] 48) = W2 at al2 ⊢
     obtain ⟨kA, kA_, sW2, bW2⟩ := al2
     have hA2 : SN W2 (fun g => Q g ∨ N + 2 ≤ g) _ _ := (hA.below bW2).mono (fun g hg => hg.imp id (fun h => by omega))
     have hs2 := hb2.size
     obtain ⟨M1, hM1⟩ : ∃ M1, w2.heap.size = M1 := ⟨_, rfl⟩
     rw [hM1] at kA sW2 hs2 ⊢
     have b2 : Below N w W2 := hbw.trans ((hb2.trans (bW2.mono hb2.size)).mono (by omega))
     have k0' := ((hb2.trans (bW2.mono hb2.size)).block N (by omega)).trans k0
     have k1' := ((hb2.trans (bW2.mono hb2.size)).block (N + 1) (by omega)).trans k1
     clear kA_ hprt hA hR hb2 bW2 hM1 p0 p1 p2 p3 p4 p5 k0 k1
     clear w2
     have hprt := l3Part_any ((HSN.out).below (hN ▸ b2)) HLF.out.2.1 (j + 1) (by have := size_leaf HLF.out.1; have := HKN.out; omega) (by have := HLF.out.2.2; omega)
     obtain ⟨p0, p1, p2, p3, p4, p5⟩ := box6g k0'
     have lN2 : N < W2.heap.size := by omega
     go_upto_region 9 with (go_at_call 46; refine hprt.mono ?_; rintro e w3 ⟨v1, v2, rfl, hA, hR, hb3⟩; obtain ⟨c0, c1, c2, c3, c4, c5, c6, c7, c8, c9, c10, rfl⟩ := hA.shape; obtain ⟨d0, d1, d2, d3, d4, d5, d6, d7, d8, d9, d10, rfl⟩ := hR.shape)
     have al3 := alloc2N w3 (.cells #[.bool (t.fore (j + 1)).leaf, .int .i64 (t.fore (j + 1)).page, .slice c0 c1 c2, .slice c3 c4 c5, .slice c6 c7 c8, .slice c9 (t.fore (j + 1)).kids.length c10] 48) (.cells #[.bool (t.rest (j + 1)).leaf, .int .i64 (t.rest (j + 1)).page, .slice d0 d1 d2, .slice d3 d4 d5, .slice d6 d7 d8, .slice d9 (t.rest (j + 1)).kids.length d10] 48)
     generalize (w3.alloc (.cells #[.bool (t.fore (j + 1)).leaf, .int .i64 (t.fore (j + 1)).page, .slice c0 c1 c2, .slice c3 c4 c5, .slice c6 c7 c8, .slice c9 (t.fore (j + 1)).kids.length c10] 48)).alloc (.cells #[.bool (t.rest (j + 1)).leaf, .int .i64 (t.rest (j + 1)).page, .slice d0 d1 d2, .slice d3 d4 d5, .slice d6 d7 d8, .slice d9 (t.rest (j + 1)).kids.length d10] 48) = W3 at al3 ⊢
     obtain ⟨kR_, kR, sW3, bW3⟩ := al3
     have hR3 : SN W3 (fun g => Q g ∨ N + 2 ≤ g) _ _ := (hR.below bW3).mono (fun g hg => hg.imp id (fun h => by omega))
     have hs3 := hb3.size
     obtain ⟨M2, hM2⟩ : ∃ M2, w3.heap.size = M2 := ⟨_, rfl⟩
     rw [hM2] at kR sW3 hs3 ⊢
     have bb3 := hb3.trans (bW3.mono hb3.size)
     have b3 : Below N w W3 := b2.trans (bb3.mono (by omega))
     have hA3 := hA2.below bb3
     have kA3 := (bb3.block M1 (by omega)).trans kA
     have k13 := (bb3.block (N + 1) (by omega)).trans k1'
     clear kR_ hprt hA hR hb3 bW3 hM2 p0 p1 p2 p3 p4 p5 k0' k1' kA bb3 hA2 b2
     clear w3
     go_upto_region 10 with fail
     have al4 := alloc4N W3 (.cells #[.string key] 9) (.cells #[.string val] 9) (.cells #[.int .i64 0] 2) (.cells #[.bool true, .int .i64 0, .slice (some ⟨M2 + 2, 0, none⟩) 1 1, .slice (some ⟨M2 + 2 + 1, 0, none⟩) 1 1, .slice (some ⟨M2 + 2 + 1 + 1, 0, none⟩) 1 1, .slice none 0 0] 48)
     generalize (((W3.alloc (.cells #[.string key] 9)).alloc (.cells #[.string val] 9)).alloc (.cells #[.int .i64 0] 2)).alloc (.cells #[.bool true, .int .i64 0, .slice (some ⟨M2 + 2, 0, none⟩) 1 1, .slice (some ⟨M2 + 2 + 1, 0, none⟩) 1 1, .slice (some ⟨M2 + 2 + 1 + 1, 0, none⟩) 1 1, .slice none 0 0] 48) = W4 at al4 ⊢
     have bW4 := al4.2.2.2.2.2
     rw [sW3] at al4
     obtain ⟨q0, q1, q2, kO, sW4, _⟩ := al4
     have hA4 := hA3.below bW4
     have hR4 := hR3.below bW4
     have kA4 := (bW4.block M1 (by omega)).trans kA3
     have kR4 := (bW4.block (M2 + 1) (by omega)).trans kR
     have k14 := (bW4.block (N + 1) (by omega)).trans k13
     have b4 : Below N w W4 := b3.trans (bW4.mono (by omega))
     have hO4 : SN W4 (fun g => Q g ∨ N + 2 ≤ g) (oneT key val) (.agg #[.bool true, .int .i64 0, .slice (some ⟨M2 + 2, 0, none⟩) 1 1, .slice (some ⟨M2 + 2 + 1, 0, none⟩) 1 1, .slice (some ⟨M2 + 2 + 1 + 1, 0, none⟩) 1 1, .slice none 0 0]) := (one_sn HKV.out.1 HKV.out.2 q0 q1 q2).mono (fun g hg => .inr (by omega))
     clear q0 q1 q2 bW4 hA3 hR3 kA3 kR k13 b3
     have hgl1 := l3Glue_any (hA4.below (Below.refl _ _).drew) (hO4.below (Below.refl _ _).drew) (slim_fore HLF.out.2.1 HLF.out.1 HLF.out.2.2 _) (by simp [oneT])
     have l4 : N + 1 < W4.heap.size ∧ M1 < W4.heap.size ∧ M2 + 1 < W4.heap.size ∧ M2 + 2 + 1 + 1 + 1 < W4.heap.size := by omega
     refine wp_region_noPanic ?_
     refine wp_region_held_drew (S := (fun w' : World => w'.heap[M1]? = some (.cells #[.bool (t.fore j).leaf, .int .i64 (t.fore j).page, .slice x0 x1 x2, .slice x3 x4 x5, .slice x6 x7 x8, .slice x9 (t.fore j).kids.length x10] 48) ∧ w'.heap[M2 + 2 + 1 + 1 + 1]? = some (.cells #[.bool true, .int .i64 0, .slice (some ⟨M2 + 2, 0, none⟩) 1 1, .slice (some ⟨M2 + 2 + 1, 0, none⟩) 1 1, .slice (some ⟨M2 + 2 + 1 + 1, 0, none⟩) 1 1, .slice none 0 0] 48) ∧ w'.heap[M2 + 1]? = some (.cells #[.bool (t.rest (j + 1)).leaf, .int .i64 (t.rest (j + 1)).page, .slice d0 d1 d2, .slice d3 d4 d5, .slice d6 d7 d8, .slice d9 (t.rest (j + 1)).kids.length d10] 48))) (by kernel_rfl) (⟨kA4, kO, kR4⟩) (fun hHeld => ?_)
     refine tkB (i := 0) (v := .agg #[.bool (t.fore j).leaf, .int .i64 (t.fore j).page, .slice x0 x1 x2, .slice x3 x4 x5, .slice x6 x7 x8, .slice x9 (t.fore j).kids.length x10]) .z (by kernel_rfl) (fun _ _ _ h => h) (Or.inl ⟨by rfl, ?_⟩) (by assumption) ?_
     ·intro wq hSw; (try dsimp only at hSw); obtain ⟨y0, y1, y2, y3, y4, y5⟩ := box6g hSw.1; go_simp
     try simp only [Act.put, q1, q2, q3]
     refine tkB (i := 1) (v := .agg #[.bool true, .int .i64 0, .slice (some ⟨M2 + 2, 0, none⟩) 1 1, .slice (some ⟨M2 + 2 + 1, 0, none⟩) 1 1, .slice (some ⟨M2 + 2 + 1 + 1, 0, none⟩) 1 1, .slice none 0 0]) (.s .z) (by kernel_rfl) (fun _ _ _ h => h) (Or.inl ⟨by rfl, ?_⟩) (by assumption) ?_
     ·intro wq hSw; (try dsimp only at hSw); obtain ⟨y0, y1, y2, y3, y4, y5⟩ := box6g hSw.2.1; go_simp
     try simp only [Act.put, q1, q2, q3]
     refine tkB (i := 3) (v := .agg #[.bool (t.rest (j + 1)).leaf, .int .i64 (t.rest (j + 1)).page, .slice d0 d1 d2, .slice d3 d4 d5, .slice d6 d7 d8, .slice d9 (t.rest (j + 1)).kids.length d10]) (.s (.s (.s .z))) (by kernel_rfl) (fun _ _ _ h => h) (Or.inl ⟨by rfl, ?_⟩) (by assumption) ?_
     ·intro wq hSw; (try dsimp only at hSw); obtain ⟨y0, y1, y2, y3, y4, y5⟩ := box6g hSw.2.2; go_simp
     try simp only [Act.put, q1, q2, q3]
     refine wpAnyH_ready (rs := [2]) (by kernel_rfl) (by simp) ?_
     refine rdA (.s (.s .z)) (fun K hK => ?_) AllReadyH.nil
     go_simp
     refine (hgl1).mono ?_
     rintro e w5 ⟨v5, rfl, hG, hb5⟩
     have hb5' : Below W4.heap.size W4 w5 := (Below.refl _ _).drew.trans hb5
     obtain ⟨g0, g1, g2, g3, g4, g5, g6, g7, g8, g9, g10, rfl⟩ := hG.shape
     go_wp2_with fail
     refine hK.out _ _ (⟨(hb5'.block M1 l4.2.1).trans kA4, (hb5'.block (M2 + 2 + 1 + 1 + 1) l4.2.2.2).trans kO, (hb5'.block (M2 + 1) l4.2.2.1).trans kR4⟩) (fun hHeld => ?_)
     clear hK K
     try simp only [Act.put, q1, q2, q3]
     have s5 := hb5'.size
     have hgl2 := l3Glue_any (hG.mono (fun g hg => hg.elim id (fun h => .inr (by have h9 : W4.drew.heap.size = W4.heap.size := rfl; omega)))) (hR4.below hb5') (slim_glue HLF.out.2.1 HLF.out.1 HLF.out.2.2 _ key val) (slim_rest HLF.out.2.1 HLF.out.1 HLF.out.2.2 _)
     refine wpAnyH_ready (rs := [4]) (by kernel_rfl) (by simp) ?_
     refine rdA (.s (.s (.s (.s .z)))) (fun K hK => ?_) AllReadyH.nil
     go_simp
     refine (hgl2).mono ?_
     rintro e w6 ⟨v6, rfl, hG6, hb6⟩
     have hb6' : Below W4.heap.size W4 w6 := hb5'.trans (hb6.mono s5)
     obtain ⟨e0, e1, e2, e3, e4, e5, e6, e7, e8, e9, e10, rfl⟩ := hG6.shape
     go_wp2_with fail
     refine hK.out _ _ (⟨(hb6'.block M1 l4.2.1).trans kA4, (hb6'.block (M2 + 2 + 1 + 1 + 1) l4.2.2.2).trans kO, (hb6'.block (M2 + 1) l4.2.2.1).trans kR4⟩) (fun hHeld => ?_)
     clear hK K
     try simp only [Act.put, q1, q2, q3]
     have k16 := (hb6'.block (N + 1) l4.1).trans k14
     have s6 := hb6'.size
     obtain ⟨X, hX⟩ : ∃ X, put6T w6 (N + 1) (.bool (glueT (glueT (t.fore j) (oneT key val)) (t.rest (j + 1))).leaf) (.int .i64 (glueT (glueT (t.fore j) (oneT key val)) (t.rest (j + 1))).page) (.slice e0 e1 e2) (.slice e3 e4 e5) (.slice e6 e7 e8) (.slice e9 (glueT (glueT (t.fore j) (oneT key val)) (t.rest (j + 1))).kids.length e10) = X := ⟨_, rfl⟩
     have eX : ((((((w6.setCell ⟨N + 1, 0, none⟩ (.bool (glueT (glueT (t.fore j) (oneT key val)) (t.rest (j + 1))).leaf)).setCell ⟨N + 1, 1, none⟩ (.int .i64 (glueT (glueT (t.fore j) (oneT key val)) (t.rest (j + 1))).page)).setCell ⟨N + 1, 2, none⟩ (.slice e0 e1 e2)).setCell ⟨N + 1, 3, none⟩ (.slice e3 e4 e5)).setCell ⟨N + 1, 4, none⟩ (.slice e6 e7 e8)).setCell ⟨N + 1, 5, none⟩ (.slice e9 (glueT (glueT (t.fore j) (oneT key val)) (t.rest (j + 1))).kids.length e10)) = X := (put6T_eq w6 (N + 1) (.bool (glueT (glueT (t.fore j) (oneT key val)) (t.rest (j + 1))).leaf) (.int .i64 (glueT (glueT (t.fore j) (oneT key val)) (t.rest (j + 1))).page) (.slice e0 e1 e2) (.slice e3 e4 e5) (.slice e6 e7 e8) (.slice e9 (glueT (glueT (t.fore j) (oneT key val)) (t.rest (j + 1))).kids.length e10)).trans hX
     have hp := put6T_fr w6 (N + 1) (.bool (glueT (glueT (t.fore j) (oneT key val)) (t.rest (j + 1))).leaf) (.int .i64 (glueT (glueT (t.fore j) (oneT key val)) (t.rest (j + 1))).page) (.slice e0 e1 e2) (.slice e3 e4 e5) (.slice e6 e7 e8) (.slice e9 (glueT (glueT (t.fore j) (oneT key val)) (t.rest (j + 1))).kids.length e10)
     have hbx := put6T_box k16 (.bool (glueT (glueT (t.fore j) (oneT key val)) (t.rest (j + 1))).leaf) (.int .i64 (glueT (glueT (t.fore j) (oneT key val)) (t.rest (j + 1))).page) (.slice e0 e1 e2) (.slice e3 e4 e5) (.slice e6 e7 e8) (.slice e9 (glueT (glueT (t.fore j) (oneT key val)) (t.rest (j + 1))).kids.length e10)
     rw [hX] at hp hbx
     clear hX
     have HG6 : Hid (SN X (fun g => Q g ∨ w.heap.size ≤ g) (putT key val t) (.agg #[.bool (glueT (glueT (t.fore j) (oneT key val)) (t.rest (j + 1))).leaf, .int .i64 (glueT (glueT (t.fore j) (oneT key val)) (t.rest (j + 1))).page, .slice e0 e1 e2, .slice e3 e4 e5, .slice e6 e7 e8, .slice e9 (glueT (glueT (t.fore j) (oneT key val)) (t.rest (j + 1))).kids.length e10])) := by
      have hse := set_eq (val := val) HLF.out.1 HLF.out.2.1 HPOS.out
      have h7 : SN w6 (fun g => Q g ∨ N + 2 ≤ g) _ _ := hG6.mono (fun g hg => hg.elim (fun h => h) (fun h => .inr (by omega)))
      have h8 := (sn_fr h7 hp (fun h => h.elim (fun h => by have := HQ.out _ h; omega) (fun h => by omega))).mono (Q' := fun g => Q g ∨ w.heap.size ≤ g) (fun g hg => hg.imp id (fun h => by omega))
      rw [hse] at h8
      rw [hse]
      exact h8
     have HB6 : Hid (Below w.heap.size w X) := by
      show Below _ _ _
      rw [hN]
      exact (b4.trans (hb6'.mono (by omega))).trans (hp.below (by have := b4.size; omega) (fun g e => by omega))
     have hSf : ∀ g, g < W4.heap.size → g ≠ N + 1 → X.heap[g]? = W4.heap[g]? := fun g h1 h2 => (hp.block g (by omega) h2).trans (hb6'.block g h1)
     obtain ⟨o0, o1, o2, o3, o4, o5⟩ := box6g k16
     have fz := thawT k16
     have lz := (Array.getElem?_eq_some_iff.1 k16).1
     refine wpAnyH_ready (rs := [5]) (by kernel_rfl) (by simp) ?_
     refine rdA (.f .z) (fun K hK => ?_) AllReadyH.nil
     go_simp
     clear o0 o1 o2 o3 o4 o5 fz
     try rw [eX]
     refine hK.out _ _ (⟨(hSf M1 l4.2.1 (by omega)).trans kA4, (hSf (M2 + 2 + 1 + 1 + 1) l4.2.2.2 (by omega)).trans kO, (hSf (M2 + 1) l4.2.2.1 (by omega)).trans kR4⟩) (fun hHeld => ?_)
     clear hK K
     try simp only [Act.put, q1, q2, q3]
     refine wpAnyH_done (by kernel_rfl) ?_ _
     refine NoPanic.normal ?_
     obtain ⟨o0, o1, o2, o3, o4, o5⟩ := box6g hbx
     clear hHeld
     go_wp2_with fail
     refine bodyPost_ret (v := .agg #[.bool (glueT (glueT (t.fore j) (oneT key val)) (t.rest (j + 1))).leaf, .int .i64 (glueT (glueT (t.fore j) (oneT key val)) (t.rest (j + 1))).page, .slice e0 e1 e2, .slice e3 e4 e5, .slice e6 e7 e8, .slice e9 (glueT (glueT (t.fore j) (oneT key val)) (t.rest (j + 1))).kids.length e10]) (by simp [results, Tryz.results43, go_sem, o0, o1, o2, o3, o4, o5]) rfl ?_
     exact ⟨_, rfl, HG6.out, HB6.out⟩
    ·have HPOS : Hid (PosK t.keys key j j) := ⟨by have := HKN.out; omega, HI.out, fun _ => by rw [hless]; simp, .inr ⟨fun hc => heq hc.2, rfl⟩⟩
     have hte := listG_ne heq
     unfold lessB at hless
     generalize t.keys.getD j ByteArray.empty = sk at e0 hless hte heq
     clear heq HI hK
     have hprt := l3Part_any ((HSN.out).below (hN ▸ hbw)) HLF.out.2.1 j (by have := size_leaf HLF.out.1; have := HKN.out; omega) (by have := HLF.out.2.2; omega)
     go_upto_region 8 with (go_at_call 46; refine hprt.mono ?_; rintro e w2 ⟨v1, v2, rfl, hA, hR, hb2⟩; obtain ⟨x0, x1, x2, x3, x4, x5, x6, x7, x8, x9, x10, rfl⟩ := hA.shape; obtain ⟨z0, z1, z2, z3, z4, z5, z6, z7, z8, z9, z10, rfl⟩ := hR.shape)
     have al2 := alloc2N w2 (.cells #[.bool (t.fore j).leaf, .int .i64 (t.fore j).page, .slice x0 x1 x2, .slice x3 x4 x5, .slice x6 x7 x8, .slice x9 (t.fore j).kids.length x10] 48) (.cells #[.bool (t.rest j).leaf, .int .i64 (t.rest j).page, .slice z0 z1 z2, .slice z3 z4 z5, .slice z6 z7 z8, .slice z9 (t.rest j).kids.length z10] 48)
     generalize (w2.alloc (.cells #[.bool (t.fore j).leaf, .int .i64 (t.fore j).page, .slice x0 x1 x2, .slice x3 x4 x5, .slice x6 x7 x8, .slice x9 (t.fore j).kids.length x10] 48)).alloc (.cells #[.bool (t.rest j).leaf, .int .i64 (t.rest j).page, .slice z0 z1 z2, .slice z3 z4 z5, .slice z6 z7 z8, .slice z9 (t.rest j).kids.length z10] 48) = W2 at al2 ⊢
     obtain ⟨kA, kA_, sW2, bW2⟩ := al2
     have hA2 : SN W2 (fun g => Q g ∨ N + 2 ≤ g) _ _ := (hA.below bW2).mono (fun g hg => hg.imp id (fun h => by omega))
     have hs2 := hb2.size
     obtain ⟨M1, hM1⟩ : ∃ M1, w2.heap.size = M1 := ⟨_, rfl⟩
     rw [hM1] at kA sW2 hs2 ⊢
     have b2 : Below N w W2 := hbw.trans ((hb2.trans (bW2.mono hb2.size)).mono (by omega))
     have k0' := ((hb2.trans (bW2.mono hb2.size)).block N (by omega)).trans k0
     have k1' := ((hb2.trans (bW2.mono hb2.size)).block (N + 1) (by omega)).trans k1
     clear kA_ hprt hA hR hb2 bW2 hM1 p0 p1 p2 p3 p4 p5 k0 k1
     clear w2
     have hprt := l3Part_any ((HSN.out).below (hN ▸ b2)) HLF.out.2.1 j (by have := size_leaf HLF.out.1; have := HKN.out; omega) (by have := HLF.out.2.2; omega)
     obtain ⟨p0, p1, p2, p3, p4, p5⟩ := box6g k0'
     have lN2 : N < W2.heap.size := by omega
     go_upto_region 9 with (go_at_call 46; refine hprt.mono ?_; rintro e w3 ⟨v1, v2, rfl, hA, hR, hb3⟩; obtain ⟨c0, c1, c2, c3, c4, c5, c6, c7, c8, c9, c10, rfl⟩ := hA.shape; obtain ⟨d0, d1, d2, d3, d4, d5, d6, d7, d8, d9, d10, rfl⟩ := hR.shape)
     have al3 := alloc2N w3 (.cells #[.bool (t.fore j).leaf, .int .i64 (t.fore j).page, .slice c0 c1 c2, .slice c3 c4 c5, .slice c6 c7 c8, .slice c9 (t.fore j).kids.length c10] 48) (.cells #[.bool (t.rest j).leaf, .int .i64 (t.rest j).page, .slice d0 d1 d2, .slice d3 d4 d5, .slice d6 d7 d8, .slice d9 (t.rest j).kids.length d10] 48)
     generalize (w3.alloc (.cells #[.bool (t.fore j).leaf, .int .i64 (t.fore j).page, .slice c0 c1 c2, .slice c3 c4 c5, .slice c6 c7 c8, .slice c9 (t.fore j).kids.length c10] 48)).alloc (.cells #[.bool (t.rest j).leaf, .int .i64 (t.rest j).page, .slice d0 d1 d2, .slice d3 d4 d5, .slice d6 d7 d8, .slice d9 (t.rest j).kids.length d10] 48) = W3 at al3 ⊢
     obtain ⟨kR_, kR, sW3, bW3⟩ := al3
     have hR3 : SN W3 (fun g => Q g ∨ N + 2 ≤ g) _ _ := (hR.below bW3).mono (fun g hg => hg.imp id (fun h => by omega))
     have hs3 := hb3.size
     obtain ⟨M2, hM2⟩ : ∃ M2, w3.heap.size = M2 := ⟨_, rfl⟩
     rw [hM2] at kR sW3 hs3 ⊢
     have bb3 := hb3.trans (bW3.mono hb3.size)
     have b3 : Below N w W3 := b2.trans (bb3.mono (by omega))
     have hA3 := hA2.below bb3
     have kA3 := (bb3.block M1 (by omega)).trans kA
     have k13 := (bb3.block (N + 1) (by omega)).trans k1'
     clear kR_ hprt hA hR hb3 bW3 hM2 p0 p1 p2 p3 p4 p5 k0' k1' kA bb3 hA2 b2
     clear w3
     go_upto_region 10 with fail
     have al4 := alloc4N W3 (.cells #[.string key] 9) (.cells #[.string val] 9) (.cells #[.int .i64 0] 2) (.cells #[.bool true, .int .i64 0, .slice (some ⟨M2 + 2, 0, none⟩) 1 1, .slice (some ⟨M2 + 2 + 1, 0, none⟩) 1 1, .slice (some ⟨M2 + 2 + 1 + 1, 0, none⟩) 1 1, .slice none 0 0] 48)
     generalize (((W3.alloc (.cells #[.string key] 9)).alloc (.cells #[.string val] 9)).alloc (.cells #[.int .i64 0] 2)).alloc (.cells #[.bool true, .int .i64 0, .slice (some ⟨M2 + 2, 0, none⟩) 1 1, .slice (some ⟨M2 + 2 + 1, 0, none⟩) 1 1, .slice (some ⟨M2 + 2 + 1 + 1, 0, none⟩) 1 1, .slice none 0 0] 48) = W4 at al4 ⊢
     have bW4 := al4.2.2.2.2.2
     rw [sW3] at al4
     obtain ⟨q0, q1, q2, kO, sW4, _⟩ := al4
     have hA4 := hA3.below bW4
     have hR4 := hR3.below bW4
     have kA4 := (bW4.block M1 (by omega)).trans kA3
     have kR4 := (bW4.block (M2 + 1) (by omega)).trans kR
     have k14 := (bW4.block (N + 1) (by omega)).trans k13
     have b4 : Below N w W4 := b3.trans (bW4.mono (by omega))
     have hO4 : SN W4 (fun g => Q g ∨ N + 2 ≤ g) (oneT key val) (.agg #[.bool true, .int .i64 0, .slice (some ⟨M2 + 2, 0, none⟩) 1 1, .slice (some ⟨M2 + 2 + 1, 0, none⟩) 1 1, .slice (some ⟨M2 + 2 + 1 + 1, 0, none⟩) 1 1, .slice none 0 0]) := (one_sn HKV.out.1 HKV.out.2 q0 q1 q2).mono (fun g hg => .inr (by omega))
     clear q0 q1 q2 bW4 hA3 hR3 kA3 kR k13 b3
     have hgl1 := l3Glue_any (hA4.below (Below.refl _ _).drew) (hO4.below (Below.refl _ _).drew) (slim_fore HLF.out.2.1 HLF.out.1 HLF.out.2.2 _) (by simp [oneT])
     have l4 : N + 1 < W4.heap.size ∧ M1 < W4.heap.size ∧ M2 + 1 < W4.heap.size ∧ M2 + 2 + 1 + 1 + 1 < W4.heap.size := by omega
     refine wp_region_noPanic ?_
     refine wp_region_held_drew (S := (fun w' : World => w'.heap[M1]? = some (.cells #[.bool (t.fore j).leaf, .int .i64 (t.fore j).page, .slice x0 x1 x2, .slice x3 x4 x5, .slice x6 x7 x8, .slice x9 (t.fore j).kids.length x10] 48) ∧ w'.heap[M2 + 2 + 1 + 1 + 1]? = some (.cells #[.bool true, .int .i64 0, .slice (some ⟨M2 + 2, 0, none⟩) 1 1, .slice (some ⟨M2 + 2 + 1, 0, none⟩) 1 1, .slice (some ⟨M2 + 2 + 1 + 1, 0, none⟩) 1 1, .slice none 0 0] 48) ∧ w'.heap[M2 + 1]? = some (.cells #[.bool (t.rest j).leaf, .int .i64 (t.rest j).page, .slice d0 d1 d2, .slice d3 d4 d5, .slice d6 d7 d8, .slice d9 (t.rest j).kids.length d10] 48))) (by kernel_rfl) (⟨kA4, kO, kR4⟩) (fun hHeld => ?_)
     refine tkB (i := 0) (v := .agg #[.bool (t.fore j).leaf, .int .i64 (t.fore j).page, .slice x0 x1 x2, .slice x3 x4 x5, .slice x6 x7 x8, .slice x9 (t.fore j).kids.length x10]) .z (by kernel_rfl) (fun _ _ _ h => h) (Or.inl ⟨by rfl, ?_⟩) (by assumption) ?_
     ·intro wq hSw; (try dsimp only at hSw); obtain ⟨y0, y1, y2, y3, y4, y5⟩ := box6g hSw.1; go_simp
     try simp only [Act.put, q1, q2, q3]
     refine tkB (i := 1) (v := .agg #[.bool true, .int .i64 0, .slice (some ⟨M2 + 2, 0, none⟩) 1 1, .slice (some ⟨M2 + 2 + 1, 0, none⟩) 1 1, .slice (some ⟨M2 + 2 + 1 + 1, 0, none⟩) 1 1, .slice none 0 0]) (.s .z) (by kernel_rfl) (fun _ _ _ h => h) (Or.inl ⟨by rfl, ?_⟩) (by assumption) ?_
     ·intro wq hSw; (try dsimp only at hSw); obtain ⟨y0, y1, y2, y3, y4, y5⟩ := box6g hSw.2.1; go_simp
     try simp only [Act.put, q1, q2, q3]
     refine tkB (i := 3) (v := .agg #[.bool (t.rest j).leaf, .int .i64 (t.rest j).page, .slice d0 d1 d2, .slice d3 d4 d5, .slice d6 d7 d8, .slice d9 (t.rest j).kids.length d10]) (.s (.s (.s .z))) (by kernel_rfl) (fun _ _ _ h => h) (Or.inl ⟨by rfl, ?_⟩) (by assumption) ?_
     ·intro wq hSw; (try dsimp only at hSw); obtain ⟨y0, y1, y2, y3, y4, y5⟩ := box6g hSw.2.2; go_simp
     try simp only [Act.put, q1, q2, q3]
     refine wpAnyH_ready (rs := [2]) (by kernel_rfl) (by simp) ?_
     refine rdA (.s (.s .z)) (fun K hK => ?_) AllReadyH.nil
     go_simp
     refine (hgl1).mono ?_
     rintro e w5 ⟨v5, rfl, hG, hb5⟩
     have hb5' : Below W4.heap.size W4 w5 := (Below.refl _ _).drew.trans hb5
     obtain ⟨g0, g1, g2, g3, g4, g5, g6, g7, g8, g9, g10, rfl⟩ := hG.shape
     go_wp2_with fail
     refine hK.out _ _ (⟨(hb5'.block M1 l4.2.1).trans kA4, (hb5'.block (M2 + 2 + 1 + 1 + 1) l4.2.2.2).trans kO, (hb5'.block (M2 + 1) l4.2.2.1).trans kR4⟩) (fun hHeld => ?_)
     clear hK K
     try simp only [Act.put, q1, q2, q3]
     have s5 := hb5'.size
     have hgl2 := l3Glue_any (hG.mono (fun g hg => hg.elim id (fun h => .inr (by have h9 : W4.drew.heap.size = W4.heap.size := rfl; omega)))) (hR4.below hb5') (slim_glue HLF.out.2.1 HLF.out.1 HLF.out.2.2 _ key val) (slim_rest HLF.out.2.1 HLF.out.1 HLF.out.2.2 _)
     refine wpAnyH_ready (rs := [4]) (by kernel_rfl) (by simp) ?_
     refine rdA (.s (.s (.s (.s .z)))) (fun K hK => ?_) AllReadyH.nil
     go_simp
     refine (hgl2).mono ?_
     rintro e w6 ⟨v6, rfl, hG6, hb6⟩
     have hb6' : Below W4.heap.size W4 w6 := hb5'.trans (hb6.mono s5)
     obtain ⟨e0, e1, e2, e3, e4, e5, e6, e7, e8, e9, e10, rfl⟩ := hG6.shape
     go_wp2_with fail
     refine hK.out _ _ (⟨(hb6'.block M1 l4.2.1).trans kA4, (hb6'.block (M2 + 2 + 1 + 1 + 1) l4.2.2.2).trans kO, (hb6'.block (M2 + 1) l4.2.2.1).trans kR4⟩) (fun hHeld => ?_)
     clear hK K
     try simp only [Act.put, q1, q2, q3]
     have k16 := (hb6'.block (N + 1) l4.1).trans k14
     have s6 := hb6'.size
     obtain ⟨X, hX⟩ : ∃ X, put6T w6 (N + 1) (.bool (glueT (glueT (t.fore j) (oneT key val)) (t.rest j)).leaf) (.int .i64 (glueT (glueT (t.fore j) (oneT key val)) (t.rest j)).page) (.slice e0 e1 e2) (.slice e3 e4 e5) (.slice e6 e7 e8) (.slice e9 (glueT (glueT (t.fore j) (oneT key val)) (t.rest j)).kids.length e10) = X := ⟨_, rfl⟩
     have eX : ((((((w6.setCell ⟨N + 1, 0, none⟩ (.bool (glueT (glueT (t.fore j) (oneT key val)) (t.rest j)).leaf)).setCell ⟨N + 1, 1, none⟩ (.int .i64 (glueT (glueT (t.fore j) (oneT key val)) (t.rest j)).page)).setCell ⟨N + 1, 2, none⟩ (.slice e0 e1 e2)).setCell ⟨N + 1, 3, none⟩ (.slice e3 e4 e5)).setCell ⟨N + 1, 4, none⟩ (.slice e6 e7 e8)).setCell ⟨N + 1, 5, none⟩ (.slice e9 (glueT (glueT (t.fore j) (oneT key val)) (t.rest j)).kids.length e10)) = X := (put6T_eq w6 (N + 1) (.bool (glueT (glueT (t.fore j) (oneT key val)) (t.rest j)).leaf) (.int .i64 (glueT (glueT (t.fore j) (oneT key val)) (t.rest j)).page) (.slice e0 e1 e2) (.slice e3 e4 e5) (.slice e6 e7 e8) (.slice e9 (glueT (glueT (t.fore j) (oneT key val)) (t.rest j)).kids.length e10)).trans hX
     have hp := put6T_fr w6 (N + 1) (.bool (glueT (glueT (t.fore j) (oneT key val)) (t.rest j)).leaf) (.int .i64 (glueT (glueT (t.fore j) (oneT key val)) (t.rest j)).page) (.slice e0 e1 e2) (.slice e3 e4 e5) (.slice e6 e7 e8) (.slice e9 (glueT (glueT (t.fore j) (oneT key val)) (t.rest j)).kids.length e10)
     have hbx := put6T_box k16 (.bool (glueT (glueT (t.fore j) (oneT key val)) (t.rest j)).leaf) (.int .i64 (glueT (glueT (t.fore j) (oneT key val)) (t.rest j)).page) (.slice e0 e1 e2) (.slice e3 e4 e5) (.slice e6 e7 e8) (.slice e9 (glueT (glueT (t.fore j) (oneT key val)) (t.rest j)).kids.length e10)
     rw [hX] at hp hbx
     clear hX
     have HG6 : Hid (SN X (fun g => Q g ∨ w.heap.size ≤ g) (putT key val t) (.agg #[.bool (glueT (glueT (t.fore j) (oneT key val)) (t.rest j)).leaf, .int .i64 (glueT (glueT (t.fore j) (oneT key val)) (t.rest j)).page, .slice e0 e1 e2, .slice e3 e4 e5, .slice e6 e7 e8, .slice e9 (glueT (glueT (t.fore j) (oneT key val)) (t.rest j)).kids.length e10])) := by
      have hse := set_eq (val := val) HLF.out.1 HLF.out.2.1 HPOS.out
      have h7 : SN w6 (fun g => Q g ∨ N + 2 ≤ g) _ _ := hG6.mono (fun g hg => hg.elim (fun h => h) (fun h => .inr (by omega)))
      have h8 := (sn_fr h7 hp (fun h => h.elim (fun h => by have := HQ.out _ h; omega) (fun h => by omega))).mono (Q' := fun g => Q g ∨ w.heap.size ≤ g) (fun g hg => hg.imp id (fun h => by omega))
      rw [hse] at h8
      rw [hse]
      exact h8
     have HB6 : Hid (Below w.heap.size w X) := by
      show Below _ _ _
      rw [hN]
      exact (b4.trans (hb6'.mono (by omega))).trans (hp.below (by have := b4.size; omega) (fun g e => by omega))
     have hSf : ∀ g, g < W4.heap.size → g ≠ N + 1 → X.heap[g]? = W4.heap[g]? := fun g h1 h2 => (hp.block g (by omega) h2).trans (hb6'.block g h1)
     obtain ⟨o0, o1, o2, o3, o4, o5⟩ := box6g k16
     have fz := thawT k16
     have lz := (Array.getElem?_eq_some_iff.1 k16).1
     refine wpAnyH_ready (rs := [5]) (by kernel_rfl) (by simp) ?_
     refine rdA (.f .z) (fun K hK => ?_) AllReadyH.nil
     go_simp
     clear o0 o1 o2 o3 o4 o5 fz
     try rw [eX]
     refine hK.out _ _ (⟨(hSf M1 l4.2.1 (by omega)).trans kA4, (hSf (M2 + 2 + 1 + 1 + 1) l4.2.2.2 (by omega)).trans kO, (hSf (M2 + 1) l4.2.2.1 (by omega)).trans kR4⟩) (fun hHeld => ?_)
     clear hK K
     try simp only [Act.put, q1, q2, q3]
     refine wpAnyH_done (by kernel_rfl) ?_ _
     refine NoPanic.normal ?_
     obtain ⟨o0, o1, o2, o3, o4, o5⟩ := box6g hbx
     clear hHeld
     go_wp2_with fail
     refine bodyPost_ret (v := .agg #[.bool (glueT (glueT (t.fore j) (oneT key val)) (t.rest j)).leaf, .int .i64 (glueT (glueT (t.fore j) (oneT key val)) (t.rest j)).page, .slice e0 e1 e2, .slice e3 e4 e5, .slice e6 e7 e8, .slice e9 (glueT (glueT (t.fore j) (oneT key val)) (t.rest j)).kids.length e10]) (by simp [results, Tryz.results43, go_sem, o0, o1, o2, o3, o4, o5]) rfl ?_
     exact ⟨_, rfl, HG6.out, HB6.out⟩
   ·have HI2 : Hid (∀ k, k < j + 1 → lessB (t.keys.getD k ByteArray.empty) key = true) := fun k hk => by
     by_cases hkj : k = j
     ·rw [hkj]; exact hless
     ·exact HI.out k (by omega)
    unfold lessB at hless
    generalize t.keys.getD j ByteArray.empty = sk at e0 hless
    clear HI hK
    go_wp2_with fail
    go_roundw
    case rel => exact ⟨j + 1, by omega, by go_num, HI2, trivial⟩
    case measure => simp [intOf]; omega
  ·have hj' : j = kn := by omega
   have HPOS : Hid (PosK t.keys key j j) := ⟨by have := HKN.out; omega, HI.out, fun h => absurd h (by have := HKN.out; omega), .inr ⟨fun hc => absurd hc.1 (by have := HKN.out; omega), rfl⟩⟩
   clear HI hK hj'
   have hprt := l3Part_any ((HSN.out).below (hN ▸ hbw)) HLF.out.2.1 j (by have := size_leaf HLF.out.1; have := HKN.out; omega) (by have := HLF.out.2.2; omega)
   go_upto_region 8 with (go_at_call 46; refine hprt.mono ?_; rintro e w2 ⟨v1, v2, rfl, hA, hR, hb2⟩; obtain ⟨x0, x1, x2, x3, x4, x5, x6, x7, x8, x9, x10, rfl⟩ := hA.shape; obtain ⟨z0, z1, z2, z3, z4, z5, z6, z7, z8, z9, z10, rfl⟩ := hR.shape)
   have al2 := alloc2N w2 (.cells #[.bool (t.fore j).leaf, .int .i64 (t.fore j).page, .slice x0 x1 x2, .slice x3 x4 x5, .slice x6 x7 x8, .slice x9 (t.fore j).kids.length x10] 48) (.cells #[.bool (t.rest j).leaf, .int .i64 (t.rest j).page, .slice z0 z1 z2, .slice z3 z4 z5, .slice z6 z7 z8, .slice z9 (t.rest j).kids.length z10] 48)
   generalize (w2.alloc (.cells #[.bool (t.fore j).leaf, .int .i64 (t.fore j).page, .slice x0 x1 x2, .slice x3 x4 x5, .slice x6 x7 x8, .slice x9 (t.fore j).kids.length x10] 48)).alloc (.cells #[.bool (t.rest j).leaf, .int .i64 (t.rest j).page, .slice z0 z1 z2, .slice z3 z4 z5, .slice z6 z7 z8, .slice z9 (t.rest j).kids.length z10] 48) = W2 at al2 ⊢
   obtain ⟨kA, kA_, sW2, bW2⟩ := al2
   have hA2 : SN W2 (fun g => Q g ∨ N + 2 ≤ g) _ _ := (hA.below bW2).mono (fun g hg => hg.imp id (fun h => by omega))
   have hs2 := hb2.size
   obtain ⟨M1, hM1⟩ : ∃ M1, w2.heap.size = M1 := ⟨_, rfl⟩
   rw [hM1] at kA sW2 hs2 ⊢
   have b2 : Below N w W2 := hbw.trans ((hb2.trans (bW2.mono hb2.size)).mono (by omega))
   have k0' := ((hb2.trans (bW2.mono hb2.size)).block N (by omega)).trans k0
   have k1' := ((hb2.trans (bW2.mono hb2.size)).block (N + 1) (by omega)).trans k1
   clear kA_ hprt hA hR hb2 bW2 hM1 p0 p1 p2 p3 p4 p5 k0 k1
   clear w2
   have hprt := l3Part_any ((HSN.out).below (hN ▸ b2)) HLF.out.2.1 j (by have := size_leaf HLF.out.1; have := HKN.out; omega) (by have := HLF.out.2.2; omega)
   obtain ⟨p0, p1, p2, p3, p4, p5⟩ := box6g k0'
   have lN2 : N < W2.heap.size := by omega
   go_upto_region 9 with (go_at_call 46; refine hprt.mono ?_; rintro e w3 ⟨v1, v2, rfl, hA, hR, hb3⟩; obtain ⟨c0, c1, c2, c3, c4, c5, c6, c7, c8, c9, c10, rfl⟩ := hA.shape; obtain ⟨d0, d1, d2, d3, d4, d5, d6, d7, d8, d9, d10, rfl⟩ := hR.shape)
   have al3 := alloc2N w3 (.cells #[.bool (t.fore j).leaf, .int .i64 (t.fore j).page, .slice c0 c1 c2, .slice c3 c4 c5, .slice c6 c7 c8, .slice c9 (t.fore j).kids.length c10] 48) (.cells #[.bool (t.rest j).leaf, .int .i64 (t.rest j).page, .slice d0 d1 d2, .slice d3 d4 d5, .slice d6 d7 d8, .slice d9 (t.rest j).kids.length d10] 48)
   generalize (w3.alloc (.cells #[.bool (t.fore j).leaf, .int .i64 (t.fore j).page, .slice c0 c1 c2, .slice c3 c4 c5, .slice c6 c7 c8, .slice c9 (t.fore j).kids.length c10] 48)).alloc (.cells #[.bool (t.rest j).leaf, .int .i64 (t.rest j).page, .slice d0 d1 d2, .slice d3 d4 d5, .slice d6 d7 d8, .slice d9 (t.rest j).kids.length d10] 48) = W3 at al3 ⊢
   obtain ⟨kR_, kR, sW3, bW3⟩ := al3
   have hR3 : SN W3 (fun g => Q g ∨ N + 2 ≤ g) _ _ := (hR.below bW3).mono (fun g hg => hg.imp id (fun h => by omega))
   have hs3 := hb3.size
   obtain ⟨M2, hM2⟩ : ∃ M2, w3.heap.size = M2 := ⟨_, rfl⟩
   rw [hM2] at kR sW3 hs3 ⊢
   have bb3 := hb3.trans (bW3.mono hb3.size)
   have b3 : Below N w W3 := b2.trans (bb3.mono (by omega))
   have hA3 := hA2.below bb3
   have kA3 := (bb3.block M1 (by omega)).trans kA
   have k13 := (bb3.block (N + 1) (by omega)).trans k1'
   clear kR_ hprt hA hR hb3 bW3 hM2 p0 p1 p2 p3 p4 p5 k0' k1' kA bb3 hA2 b2
   clear w3
   go_upto_region 10 with fail
   have al4 := alloc4N W3 (.cells #[.string key] 9) (.cells #[.string val] 9) (.cells #[.int .i64 0] 2) (.cells #[.bool true, .int .i64 0, .slice (some ⟨M2 + 2, 0, none⟩) 1 1, .slice (some ⟨M2 + 2 + 1, 0, none⟩) 1 1, .slice (some ⟨M2 + 2 + 1 + 1, 0, none⟩) 1 1, .slice none 0 0] 48)
   generalize (((W3.alloc (.cells #[.string key] 9)).alloc (.cells #[.string val] 9)).alloc (.cells #[.int .i64 0] 2)).alloc (.cells #[.bool true, .int .i64 0, .slice (some ⟨M2 + 2, 0, none⟩) 1 1, .slice (some ⟨M2 + 2 + 1, 0, none⟩) 1 1, .slice (some ⟨M2 + 2 + 1 + 1, 0, none⟩) 1 1, .slice none 0 0] 48) = W4 at al4 ⊢
   have bW4 := al4.2.2.2.2.2
   rw [sW3] at al4
   obtain ⟨q0, q1, q2, kO, sW4, _⟩ := al4
   have hA4 := hA3.below bW4
   have hR4 := hR3.below bW4
   have kA4 := (bW4.block M1 (by omega)).trans kA3
   have kR4 := (bW4.block (M2 + 1) (by omega)).trans kR
   have k14 := (bW4.block (N + 1) (by omega)).trans k13
   have b4 : Below N w W4 := b3.trans (bW4.mono (by omega))
   have hO4 : SN W4 (fun g => Q g ∨ N + 2 ≤ g) (oneT key val) (.agg #[.bool true, .int .i64 0, .slice (some ⟨M2 + 2, 0, none⟩) 1 1, .slice (some ⟨M2 + 2 + 1, 0, none⟩) 1 1, .slice (some ⟨M2 + 2 + 1 + 1, 0, none⟩) 1 1, .slice none 0 0]) := (one_sn HKV.out.1 HKV.out.2 q0 q1 q2).mono (fun g hg => .inr (by omega))
   clear q0 q1 q2 bW4 hA3 hR3 kA3 kR k13 b3
   have hgl1 := l3Glue_any (hA4.below (Below.refl _ _).drew) (hO4.below (Below.refl _ _).drew) (slim_fore HLF.out.2.1 HLF.out.1 HLF.out.2.2 _) (by simp [oneT])
   have l4 : N + 1 < W4.heap.size ∧ M1 < W4.heap.size ∧ M2 + 1 < W4.heap.size ∧ M2 + 2 + 1 + 1 + 1 < W4.heap.size := by omega
   refine wp_region_noPanic ?_
   refine wp_region_held_drew (S := (fun w' : World => w'.heap[M1]? = some (.cells #[.bool (t.fore j).leaf, .int .i64 (t.fore j).page, .slice x0 x1 x2, .slice x3 x4 x5, .slice x6 x7 x8, .slice x9 (t.fore j).kids.length x10] 48) ∧ w'.heap[M2 + 2 + 1 + 1 + 1]? = some (.cells #[.bool true, .int .i64 0, .slice (some ⟨M2 + 2, 0, none⟩) 1 1, .slice (some ⟨M2 + 2 + 1, 0, none⟩) 1 1, .slice (some ⟨M2 + 2 + 1 + 1, 0, none⟩) 1 1, .slice none 0 0] 48) ∧ w'.heap[M2 + 1]? = some (.cells #[.bool (t.rest j).leaf, .int .i64 (t.rest j).page, .slice d0 d1 d2, .slice d3 d4 d5, .slice d6 d7 d8, .slice d9 (t.rest j).kids.length d10] 48))) (by kernel_rfl) (⟨kA4, kO, kR4⟩) (fun hHeld => ?_)
   refine tkB (i := 0) (v := .agg #[.bool (t.fore j).leaf, .int .i64 (t.fore j).page, .slice x0 x1 x2, .slice x3 x4 x5, .slice x6 x7 x8, .slice x9 (t.fore j).kids.length x10]) .z (by kernel_rfl) (fun _ _ _ h => h) (Or.inl ⟨by rfl, ?_⟩) (by assumption) ?_
   ·intro wq hSw; (try dsimp only at hSw); obtain ⟨y0, y1, y2, y3, y4, y5⟩ := box6g hSw.1; go_simp
   try simp only [Act.put, q1, q2, q3]
   refine tkB (i := 1) (v := .agg #[.bool true, .int .i64 0, .slice (some ⟨M2 + 2, 0, none⟩) 1 1, .slice (some ⟨M2 + 2 + 1, 0, none⟩) 1 1, .slice (some ⟨M2 + 2 + 1 + 1, 0, none⟩) 1 1, .slice none 0 0]) (.s .z) (by kernel_rfl) (fun _ _ _ h => h) (Or.inl ⟨by rfl, ?_⟩) (by assumption) ?_
   ·intro wq hSw; (try dsimp only at hSw); obtain ⟨y0, y1, y2, y3, y4, y5⟩ := box6g hSw.2.1; go_simp
   try simp only [Act.put, q1, q2, q3]
   refine tkB (i := 3) (v := .agg #[.bool (t.rest j).leaf, .int .i64 (t.rest j).page, .slice d0 d1 d2, .slice d3 d4 d5, .slice d6 d7 d8, .slice d9 (t.rest j).kids.length d10]) (.s (.s (.s .z))) (by kernel_rfl) (fun _ _ _ h => h) (Or.inl ⟨by rfl, ?_⟩) (by assumption) ?_
   ·intro wq hSw; (try dsimp only at hSw); obtain ⟨y0, y1, y2, y3, y4, y5⟩ := box6g hSw.2.2; go_simp
   try simp only [Act.put, q1, q2, q3]
   refine wpAnyH_ready (rs := [2]) (by kernel_rfl) (by simp) ?_
   refine rdA (.s (.s .z)) (fun K hK => ?_) AllReadyH.nil
   go_simp
   refine (hgl1).mono ?_
   rintro e w5 ⟨v5, rfl, hG, hb5⟩
   have hb5' : Below W4.heap.size W4 w5 := (Below.refl _ _).drew.trans hb5
   obtain ⟨g0, g1, g2, g3, g4, g5, g6, g7, g8, g9, g10, rfl⟩ := hG.shape
   go_wp2_with fail
   refine hK.out _ _ (⟨(hb5'.block M1 l4.2.1).trans kA4, (hb5'.block (M2 + 2 + 1 + 1 + 1) l4.2.2.2).trans kO, (hb5'.block (M2 + 1) l4.2.2.1).trans kR4⟩) (fun hHeld => ?_)
   clear hK K
   try simp only [Act.put, q1, q2, q3]
   have s5 := hb5'.size
   have hgl2 := l3Glue_any (hG.mono (fun g hg => hg.elim id (fun h => .inr (by have h9 : W4.drew.heap.size = W4.heap.size := rfl; omega)))) (hR4.below hb5') (slim_glue HLF.out.2.1 HLF.out.1 HLF.out.2.2 _ key val) (slim_rest HLF.out.2.1 HLF.out.1 HLF.out.2.2 _)
   refine wpAnyH_ready (rs := [4]) (by kernel_rfl) (by simp) ?_
   refine rdA (.s (.s (.s (.s .z)))) (fun K hK => ?_) AllReadyH.nil
   go_simp
   refine (hgl2).mono ?_
   rintro e w6 ⟨v6, rfl, hG6, hb6⟩
   have hb6' : Below W4.heap.size W4 w6 := hb5'.trans (hb6.mono s5)
   obtain ⟨e0, e1, e2, e3, e4, e5, e6, e7, e8, e9, e10, rfl⟩ := hG6.shape
   go_wp2_with fail
   refine hK.out _ _ (⟨(hb6'.block M1 l4.2.1).trans kA4, (hb6'.block (M2 + 2 + 1 + 1 + 1) l4.2.2.2).trans kO, (hb6'.block (M2 + 1) l4.2.2.1).trans kR4⟩) (fun hHeld => ?_)
   clear hK K
   try simp only [Act.put, q1, q2, q3]
   have k16 := (hb6'.block (N + 1) l4.1).trans k14
   have s6 := hb6'.size
   obtain ⟨X, hX⟩ : ∃ X, put6T w6 (N + 1) (.bool (glueT (glueT (t.fore j) (oneT key val)) (t.rest j)).leaf) (.int .i64 (glueT (glueT (t.fore j) (oneT key val)) (t.rest j)).page) (.slice e0 e1 e2) (.slice e3 e4 e5) (.slice e6 e7 e8) (.slice e9 (glueT (glueT (t.fore j) (oneT key val)) (t.rest j)).kids.length e10) = X := ⟨_, rfl⟩
   have eX : ((((((w6.setCell ⟨N + 1, 0, none⟩ (.bool (glueT (glueT (t.fore j) (oneT key val)) (t.rest j)).leaf)).setCell ⟨N + 1, 1, none⟩ (.int .i64 (glueT (glueT (t.fore j) (oneT key val)) (t.rest j)).page)).setCell ⟨N + 1, 2, none⟩ (.slice e0 e1 e2)).setCell ⟨N + 1, 3, none⟩ (.slice e3 e4 e5)).setCell ⟨N + 1, 4, none⟩ (.slice e6 e7 e8)).setCell ⟨N + 1, 5, none⟩ (.slice e9 (glueT (glueT (t.fore j) (oneT key val)) (t.rest j)).kids.length e10)) = X := (put6T_eq w6 (N + 1) (.bool (glueT (glueT (t.fore j) (oneT key val)) (t.rest j)).leaf) (.int .i64 (glueT (glueT (t.fore j) (oneT key val)) (t.rest j)).page) (.slice e0 e1 e2) (.slice e3 e4 e5) (.slice e6 e7 e8) (.slice e9 (glueT (glueT (t.fore j) (oneT key val)) (t.rest j)).kids.length e10)).trans hX
   have hp := put6T_fr w6 (N + 1) (.bool (glueT (glueT (t.fore j) (oneT key val)) (t.rest j)).leaf) (.int .i64 (glueT (glueT (t.fore j) (oneT key val)) (t.rest j)).page) (.slice e0 e1 e2) (.slice e3 e4 e5) (.slice e6 e7 e8) (.slice e9 (glueT (glueT (t.fore j) (oneT key val)) (t.rest j)).kids.length e10)
   have hbx := put6T_box k16 (.bool (glueT (glueT (t.fore j) (oneT key val)) (t.rest j)).leaf) (.int .i64 (glueT (glueT (t.fore j) (oneT key val)) (t.rest j)).page) (.slice e0 e1 e2) (.slice e3 e4 e5) (.slice e6 e7 e8) (.slice e9 (glueT (glueT (t.fore j) (oneT key val)) (t.rest j)).kids.length e10)
   rw [hX] at hp hbx
   clear hX
   have HG6 : Hid (SN X (fun g => Q g ∨ w.heap.size ≤ g) (putT key val t) (.agg #[.bool (glueT (glueT (t.fore j) (oneT key val)) (t.rest j)).leaf, .int .i64 (glueT (glueT (t.fore j) (oneT key val)) (t.rest j)).page, .slice e0 e1 e2, .slice e3 e4 e5, .slice e6 e7 e8, .slice e9 (glueT (glueT (t.fore j) (oneT key val)) (t.rest j)).kids.length e10])) := by
    have hse := set_eq (val := val) HLF.out.1 HLF.out.2.1 HPOS.out
    have h7 : SN w6 (fun g => Q g ∨ N + 2 ≤ g) _ _ := hG6.mono (fun g hg => hg.elim (fun h => h) (fun h => .inr (by omega)))
    have h8 := (sn_fr h7 hp (fun h => h.elim (fun h => by have := HQ.out _ h; omega) (fun h => by omega))).mono (Q' := fun g => Q g ∨ w.heap.size ≤ g) (fun g hg => hg.imp id (fun h => by omega))
    rw [hse] at h8
    rw [hse]
    exact h8
   have HB6 : Hid (Below w.heap.size w X) := by
    show Below _ _ _
    rw [hN]
    exact (b4.trans (hb6'.mono (by omega))).trans (hp.below (by have := b4.size; omega) (fun g e => by omega))
   have hSf : ∀ g, g < W4.heap.size → g ≠ N + 1 → X.heap[g]? = W4.heap[g]? := fun g h1 h2 => (hp.block g (by omega) h2).trans (hb6'.block g h1)
   obtain ⟨o0, o1, o2, o3, o4, o5⟩ := box6g k16
   have fz := thawT k16
   have lz := (Array.getElem?_eq_some_iff.1 k16).1
   refine wpAnyH_ready (rs := [5]) (by kernel_rfl) (by simp) ?_
   refine rdA (.f .z) (fun K hK => ?_) AllReadyH.nil
   go_simp
   clear o0 o1 o2 o3 o4 o5 fz
   try rw [eX]
   refine hK.out _ _ (⟨(hSf M1 l4.2.1 (by omega)).trans kA4, (hSf (M2 + 2 + 1 + 1 + 1) l4.2.2.2 (by omega)).trans kO, (hSf (M2 + 1) l4.2.2.1 (by omega)).trans kR4⟩) (fun hHeld => ?_)
   clear hK K
   try simp only [Act.put, q1, q2, q3]
   refine wpAnyH_done (by kernel_rfl) ?_ _
   refine NoPanic.normal ?_
   obtain ⟨o0, o1, o2, o3, o4, o5⟩ := box6g hbx
   clear hHeld
   go_wp2_with fail
   refine bodyPost_ret (v := .agg #[.bool (glueT (glueT (t.fore j) (oneT key val)) (t.rest j)).leaf, .int .i64 (glueT (glueT (t.fore j) (oneT key val)) (t.rest j)).page, .slice e0 e1 e2, .slice e3 e4 e5, .slice e6 e7 e8, .slice e9 (glueT (glueT (t.fore j) (oneT key val)) (t.rest j)).kids.length e10]) (by simp [results, Tryz.results43, go_sem, o0, o1, o2, o3, o4, o5]) rfl ?_
   exact ⟨_, rfl, HG6.out, HB6.out⟩
def TowTo (t : T) (key : ByteArray) (j m : Nat) : Prop := m < j ∧ (m = 0 ∨ ∃ k, t.kids[m]? = some k ∧ leB k.low key = true) ∧ ∀ i k, m < i → i < j → t.kids[i]? = some k → ¬ leB k.low key = true
set_option maxHeartbeats 4000000 in
theorem l3Child_any (C : Nat) (t : T) (key : ByteArray) (hg : ∃ r, t.good r = true) (hl : t.leaf = false) : CallAt 44 C t [.string key] (fun w e w' => e = .returned (.int .i64 (towN key t.kids)) ∧ towN key t.kids < t.kids.length ∧ Below w.heap.size w w') := by
 intro w ka kn kc va vn vc oa on oc ya yc css hC hX
 obtain ⟨r, hg⟩ := hg
 obtain ⟨h2, h4⟩ := good_two hg hl
 have HG : Hid (∀ k ∈ t.kids, k.good false = true) := fun k hk => good_kid hg hk
 obtain ⟨W, hW⟩ : ∃ W, W = w.alloc (.cells #[.bool t.leaf, .int .i64 t.page, .slice ka kn kc, .slice va vn vc, .slice oa on oc, .slice ya t.kids.length yc] 48) := ⟨_, rfl⟩
 have hb0 : BoxN w W w.heap.size #[.bool t.leaf, .int .i64 t.page, .slice ka kn kc, .slice va vn vc, .slice oa on oc, .slice ya t.kids.length yc] := by rw [hW]; exact BoxN.new w _
 have hX0 := hX.belowC (hb0.bel.mono hC)
 obtain ⟨N, hN⟩ : ∃ N, w.heap.size = N := ⟨_, rfl⟩
 obtain ⟨n, hn⟩ : ∃ n, n = t.kids.length := ⟨_, rfl⟩
 have HN : Hid (t.kids.length = n) := hn.symm
 have hyc := hX0.cap
 obtain ⟨hyc1, hyc2⟩ := hyc
 unfold maxLen at hyc2
 obtain ⟨pg, hpg⟩ : ∃ pg, t.page = pg := ⟨_, rfl⟩
 rw [← hn] at hb0 h2 h4 hyc1 hW ⊢
 rw [hl, hpg] at hb0 hW ⊢
 clear hX hn hl hg hpg
 show Calls Tryz.prog 44 #[.agg #[.bool false, .int .i64 pg, .slice ka kn kc, .slice va vn vc, .slice oa on oc, .slice ya n yc], .string key] w _
 go_enter Tryz.func44, Tryz.ntmps44
 go_upto_region 1 with fail
 rw [← hW]
 clear hW
 have lW := hb0.lt
 have k0 := hb0.box
 have bW := hb0.bel
 rw [hN] at lW k0 bW
 clear hb0
 have hCN : C ≤ N := by omega
 go_wp2_with fail
 go_loopw [5, 6] (fun a i wr => ∃ m j : Nat, 1 ≤ j ∧ j ≤ n ∧ a = .int .i64 m ∧ i = .int .i64 j ∧ Hid (TowTo t key j m) ∧ Below W.heap.size W wr) (fun _ i _ => n - (intOf i).toNat)
 case atStart => exact ⟨0, 1, by omega, by omega, rfl, rfl, ⟨by omega, .inl rfl, fun i k h1 h2 => by omega⟩, Below.refl _ _⟩
 case round =>
  obtain ⟨m, j, hj1, hjn, rfl, rfl, HI, hbr⟩ := hrel
  have kr := (hbr.block N lW).trans k0
  have hXr := hX0.belowC (hbr.mono (show C ≤ W.heap.size by omega))
  have sr := hbr.size
  obtain ⟨p0, p1, p2, p3, p4, p5⟩ := box6g kr
  have lr : N < wr.heap.size := by omega
  by_cases hlt : j < n
  ·obtain ⟨b, off, rfl, hbl, k, hki, hkm, ka', kn', kc', va', vn', vc', oa', on', oc', ya', yc', css', hXk, c0, c1, c2, c3, c4, c5⟩ := hXr.at (i := j) (by rw [HN.out]; exact hlt)
   have hLow := l3Low_any C k ⟨false, HG.out k hkm⟩ wr ka' kn' kc' va' vn' vc' oa' on' oc' ya' yc' css' (by omega) hXk
   have HKI : Hid (t.kids[j]? = some k) := hki
   obtain ⟨s, hs⟩ : ∃ s, k.low = s := ⟨_, rfl⟩
   have HS : Hid (k.low = s) := hs
   rw [hs] at hLow
   clear hXk hXr hki hkm hs hX0 k0 kr
   go_wp2_with fail
   refine hLow.mono ?_
   rintro e w3 ⟨rfl, hb3⟩
   have hbr3 : Hid (Below W.heap.size W w3) := hbr.trans (hb3.mono (by omega))
   clear hLow c0 c1 c2 c3 c4 c5 p0 p1 p2 p3 p4 p5 hb3 hbr
   cases hle : leB s key
   ·have HI2 : Hid (TowTo t key (j + 1) m) := ⟨by have := HI.out.1; omega, HI.out.2.1, fun i k' h1 h2 h3 => by
     by_cases hij : i = j
     ·subst hij
      rw [HKI.out] at h3
      simp only [Option.some.injEq] at h3
      subst h3
      rw [HS.out, hle]
      simp
     ·exact HI.out.2.2 i k' h1 (by omega) h3⟩
    unfold leB at hle
    clear HI
    go_wp2_with fail
    go_roundw
    case rel => exact ⟨m, j + 1, by omega, by omega, rfl, by go_num, HI2, hbr3.out⟩
    case measure => simp [intOf]; omega
   ·have HI2 : Hid (TowTo t key (j + 1) j) := ⟨by omega, .inr ⟨k, HKI.out, by rw [HS.out]; exact hle⟩, fun i k' h1 h2 => by omega⟩
    unfold leB at hle
    clear HI
    go_wp2_with fail
    go_roundw
    case rel => exact ⟨j, j + 1, by omega, by omega, rfl, by go_num, HI2, hbr3.out⟩
    case measure => simp [intOf]; omega
  ·have HT : Hid (towN key t.kids = m ∧ m < n) := ⟨tow_is (t := t) ⟨by have := HI.out.1; have := HN.out; omega, HI.out.2.1, fun i k h1 h2 => HI.out.2.2 i k h1 (by have := (List.getElem?_eq_some_iff.1 h2).1; have := HN.out; omega) h2⟩, by have := HI.out.1; omega⟩
   have HB : Hid (Below w.heap.size w wr) := by rw [hN]; exact bW.trans (hbr.mono (by omega))
   clear hXr HI hbr hX0 k0 kr
   go_wp2_with fail
   go_ret
   exact ⟨by rw [HT.out.1]; rfl, by rw [HT.out.1]; exact HT.out.2, HB.out⟩
end Go.Proofs.YtbgbokgomheodaaGreat
