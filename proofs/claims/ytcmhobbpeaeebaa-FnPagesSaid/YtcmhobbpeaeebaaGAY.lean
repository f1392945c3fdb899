import Derived.Test.YtcmhobbpeaeebaaGAW
import Derived.Test.YtcmhobbpeaeebaaGAX
namespace Go.Proofs.Ytcmhobbpeaeebaa
namespace New
open Go.RowKit
set_option linter.unusedVariables false
set_option maxRecDepth 100000

/-- An entry that the specification reads. -/
def sEnt (L : List Int) (s : Option Nat) : Option Nat × PE :=
  if 8 < ((sTake L s 1).2.getD 0 0).toNat then (none, dE)
  else if (sTake L (sTake L (sTake L s 1).1 (if false = true then 8 else ((sTake L s 1).2.getD 0 0).toNat)).1 1).2.getD 0 0 = 1 then
    ((sTake L (sTake L (sTake L (sTake L (sTake L s 1).1 (if false = true then 8 else ((sTake L s 1).2.getD 0 0).toNat)).1 1).1 (smallN false)).1 (smallN false)).1,
      (toB ((sTake L (sTake L s 1).1 (if false = true then 8 else ((sTake L s 1).2.getD 0 0).toNat)).2.take ((sTake L s 1).2.getD 0 0).toNat), ⟨#[]⟩,
        numOf false (sTake L (sTake L (sTake L (sTake L s 1).1 (if false = true then 8 else ((sTake L s 1).2.getD 0 0).toNat)).1 1).1 (smallN false)).2,
        numOf false (sTake L (sTake L (sTake L (sTake L (sTake L s 1).1 (if false = true then 8 else ((sTake L s 1).2.getD 0 0).toNat)).1 1).1 (smallN false)).1 (smallN false)).2))
  else
    ((sTake L (sTake L (sTake L (sTake L (sTake L s 1).1 (if false = true then 8 else ((sTake L s 1).2.getD 0 0).toNat)).1 1).1 1).1 ((sTake L (sTake L (sTake L (sTake L s 1).1 (if false = true then 8 else ((sTake L s 1).2.getD 0 0).toNat)).1 1).1 1).2.getD 0 0).toNat).1,
      (toB ((sTake L (sTake L s 1).1 (if false = true then 8 else ((sTake L s 1).2.getD 0 0).toNat)).2.take ((sTake L s 1).2.getD 0 0).toNat),
        toB (sTake L (sTake L (sTake L (sTake L (sTake L s 1).1 (if false = true then 8 else ((sTake L s 1).2.getD 0 0).toNat)).1 1).1 1).1 ((sTake L (sTake L (sTake L (sTake L s 1).1 (if false = true then 8 else ((sTake L s 1).2.getD 0 0).toNat)).1 1).1 1).2.getD 0 0).toNat).2, 0,
        (((sTake L (sTake L (sTake L (sTake L s 1).1 (if false = true then 8 else ((sTake L s 1).2.getD 0 0).toNat)).1 1).1 1).2.getD 0 0).toNat : Int)))
/-- The state inside l2ReadEnt. -/
structure ES (w : World) (L : List Int) (A B : Nat) (w' : World) (s : Option Nat) (sa : Option Addr) (sn sc : Nat) (bad : Bool) (e1 e2 : ByteArray) (e3 e4 : Int) : Prop where
  sb : w'.heap[w.heap.size]? = some (.cells #[.slice sa sn sc, .bool bad] 119)
  fb : w'.heap[w.heap.size + 1]? = some (.cells #[.bool false, .int .i64 (smallN false), .bool false] 63)
  r1 : w'.heap[w.heap.size + 1 + 1]? = some (.cells #[.slice none 0 0, .bool false] 119)
  r2 : w'.heap[w.heap.size + 1 + 1 + 1]? = some (.cells #[.string ⟨#[]⟩, .string ⟨#[]⟩, .int .i64 0, .int .i64 0] 102)
  eb : w'.heap[w.heap.size + 1 + 1 + 1 + 1]? = some (.cells #[.string e1, .string e2, .int .i64 e3, .int .i64 e4] 102)
  src : SrcAt w' A B L sa sn sc bad s
  bel : Below w.heap.size w w'
  low : B ≤ w.heap.size
section
variable {w w' w'' : World} {L : List Int} {A B : Nat} {s s' : Option Nat} {sa ta : Option Addr} {sn sc tn tc : Nat} {bad bad' : Bool} {e1 e2 : ByteArray} {e3 e4 : Int}
theorem ES.lt (h : ES w L A B w' s sa sn sc bad e1 e2 e3 e4) : w.heap.size + 4 < w'.heap.size := (Array.getElem?_eq_some_iff.1 h.eb).1
theorem ES.call (h : ES w L A B w' s sa sn sc bad e1 e2 e3 e4) (hb : Below w'.heap.size w' w'') : ES w L A B w'' s sa sn sc bad e1 e2 e3 e4 := by
  have hl := h.lt
  exact ⟨(hb.block _ (by omega)).trans h.sb, (hb.block _ (by omega)).trans h.fb, (hb.block _ (by omega)).trans h.r1, (hb.block _ (by omega)).trans h.r2, (hb.block _ (by omega)).trans h.eb, h.src.keep (.of_below (hb.mono (by have := h.low; omega))), h.bel.trans (hb.mono (by omega)), h.low⟩
theorem ES.sput (h : ES w L A B w' s sa sn sc bad e1 e2 e3 e4) (hs : SrcAt w' A B L ta tn tc bad' s') : ES w L A B ((w'.setCell ⟨w.heap.size, 0, none⟩ (.slice ta tn tc)).setCell ⟨w.heap.size, 1, none⟩ (.bool bad')) s' ta tn tc bad' e1 e2 e3 e4 := by
  have k : ∀ x, x ≠ w.heap.size → ((w'.setCell ⟨w.heap.size, 0, none⟩ (.slice ta tn tc)).setCell ⟨w.heap.size, 1, none⟩ (.bool bad')).heap[x]? = w'.heap[x]? := fun x hx => (Below.heap_setCell _ ⟨w.heap.size, 1, none⟩ _ x hx).trans (Below.heap_setCell _ ⟨w.heap.size, 0, none⟩ _ x hx)
  refine ⟨?_, (k _ (by omega)).trans h.fb, (k _ (by omega)).trans h.r1, (k _ (by omega)).trans h.r2, (k _ (by omega)).trans h.eb, hs.keep (fun x k1 k2 => k x (by have := h.low; omega)), (h.bel.setCell (p := ⟨w.heap.size, 0, none⟩) (Nat.le_refl _) _).setCell (p := ⟨w.heap.size, 1, none⟩) (Nat.le_refl _) _, h.low⟩
  simp [World.setCell, Array.getElem?_modify, h.sb]
theorem ES.eput (h : ES w L A B w' s sa sn sc bad e1 e2 e3 e4) (i : Nat) (v : Value) (f1 f2 : ByteArray) (f3 f4 : Int) (hf : (#[.string e1, .string e2, .int .i64 e3, .int .i64 e4] : Array Value).setIfInBounds i v = #[.string f1, .string f2, .int .i64 f3, .int .i64 f4]) : ES w L A B (w'.setCell ⟨w.heap.size + 1 + 1 + 1 + 1, i, none⟩ v) s sa sn sc bad f1 f2 f3 f4 := by
  have k : ∀ x, x ≠ w.heap.size + 1 + 1 + 1 + 1 → (w'.setCell ⟨w.heap.size + 1 + 1 + 1 + 1, i, none⟩ v).heap[x]? = w'.heap[x]? := fun x hx => Below.heap_setCell _ ⟨w.heap.size + 1 + 1 + 1 + 1, i, none⟩ _ x hx
  refine ⟨(k _ (by omega)).trans h.sb, (k _ (by omega)).trans h.fb, (k _ (by omega)).trans h.r1, (k _ (by omega)).trans h.r2, ?_, h.src.keep (fun x k1 k2 => k x (by have := h.low; omega)), h.bel.setCell (p := ⟨w.heap.size + 1 + 1 + 1 + 1, i, none⟩) (by show w.heap.size ≤ w.heap.size + 1 + 1 + 1 + 1; omega) _, h.low⟩
  rw [← hf]
  simp [World.setCell, Array.getElem?_modify, h.eb]
theorem ES.drew (h : ES w L A B w' s sa sn sc bad e1 e2 e3 e4) : ES w L A B w'.drew s sa sn sc bad e1 e2 e3 e4 := h.call (Below.refl _ _).drew
end
theorem drew_heap (w : World) (k : Nat) : w.drew.heap[k]? = w.heap[k]? := rfl
/-- The two results are stored. -/
def ret6 (w : World) (N : Nat) (v0 v1 u0 u1 u2 u3 : Value) : World :=
  (((((w.setCell ⟨N + 1 + 1, 0, none⟩ v0).setCell ⟨N + 1 + 1, 1, none⟩ v1).setCell ⟨N + 1 + 1 + 1, 0, none⟩ u0).setCell ⟨N + 1 + 1 + 1, 1, none⟩ u1).setCell ⟨N + 1 + 1 + 1, 2, none⟩ u2).setCell ⟨N + 1 + 1 + 1, 3, none⟩ u3
theorem ret6_other (w : World) (N : Nat) (v0 v1 u0 u1 u2 u3 : Value) (x : Nat) (h1 : x ≠ N + 1 + 1) (h2 : x ≠ N + 1 + 1 + 1) : (ret6 w N v0 v1 u0 u1 u2 u3).heap[x]? = w.heap[x]? := by
  unfold ret6
  rw [Below.heap_setCell _ ⟨N + 1 + 1 + 1, 3, none⟩ _ x h2, Below.heap_setCell _ ⟨N + 1 + 1 + 1, 2, none⟩ _ x h2, Below.heap_setCell _ ⟨N + 1 + 1 + 1, 1, none⟩ _ x h2, Below.heap_setCell _ ⟨N + 1 + 1 + 1, 0, none⟩ _ x h2, Below.heap_setCell _ ⟨N + 1 + 1, 1, none⟩ _ x h1, Below.heap_setCell _ ⟨N + 1 + 1, 0, none⟩ _ x h1]
theorem ret6_r1 {w : World} {N t : Nat} {a0 a1 : Value} (h : w.heap[N + 1 + 1]? = some (.cells #[a0, a1] t)) (v0 v1 u0 u1 u2 u3 : Value) : (ret6 w N v0 v1 u0 u1 u2 u3).heap[N + 1 + 1]? = some (.cells #[v0, v1] t) := by
  unfold ret6
  have hn : N + 1 + 1 ≠ N + 1 + 1 + 1 := by omega
  rw [Below.heap_setCell _ ⟨N + 1 + 1 + 1, 3, none⟩ _ _ hn, Below.heap_setCell _ ⟨N + 1 + 1 + 1, 2, none⟩ _ _ hn, Below.heap_setCell _ ⟨N + 1 + 1 + 1, 1, none⟩ _ _ hn, Below.heap_setCell _ ⟨N + 1 + 1 + 1, 0, none⟩ _ _ hn]
  simp [World.setCell, Array.getElem?_modify, h]
theorem ret6_r2 {w : World} {N t : Nat} {a0 a1 a2 a3 : Value} (h : w.heap[N + 1 + 1 + 1]? = some (.cells #[a0, a1, a2, a3] t)) (v0 v1 u0 u1 u2 u3 : Value) : (ret6 w N v0 v1 u0 u1 u2 u3).heap[N + 1 + 1 + 1]? = some (.cells #[u0, u1, u2, u3] t) := by
  have hn : N + 1 + 1 + 1 ≠ N + 1 + 1 := by omega
  have h' : ((w.setCell ⟨N + 1 + 1, 0, none⟩ v0).setCell ⟨N + 1 + 1, 1, none⟩ v1).heap[N + 1 + 1 + 1]? = some (.cells #[a0, a1, a2, a3] t) := (Below.heap_setCell _ ⟨N + 1 + 1, 1, none⟩ _ _ hn).trans ((Below.heap_setCell _ ⟨N + 1 + 1, 0, none⟩ _ _ hn).trans h)
  unfold ret6
  generalize (w.setCell ⟨N + 1 + 1, 0, none⟩ v0).setCell ⟨N + 1 + 1, 1, none⟩ v1 = w' at h'
  simp [World.setCell, Array.getElem?_modify, h']
theorem ret6_below {w w' : World} {N : Nat} (h : Below N w w') (v0 v1 u0 u1 u2 u3 : Value) : Below N w (ret6 w' N v0 v1 u0 u1 u2 u3) :=
  (((((h.setCell (p := ⟨N + 1 + 1, 0, none⟩) (by show N ≤ N + 1 + 1; omega) _).setCell (p := ⟨N + 1 + 1, 1, none⟩) (by show N ≤ N + 1 + 1; omega) _).setCell (p := ⟨N + 1 + 1 + 1, 0, none⟩) (by show N ≤ N + 1 + 1 + 1; omega) _).setCell (p := ⟨N + 1 + 1 + 1, 1, none⟩) (by show N ≤ N + 1 + 1 + 1; omega) _).setCell (p := ⟨N + 1 + 1 + 1, 2, none⟩) (by show N ≤ N + 1 + 1 + 1; omega) _).setCell (p := ⟨N + 1 + 1 + 1, 3, none⟩) (by show N ≤ N + 1 + 1 + 1; omega) _
set_option maxHeartbeats 3200000 in
theorem l2ReadEnt_any (L : List Int) (s : Option Nat) (sa : Option Addr) (sn sc : Nat) (bad : Bool) (w : World) (A B : Nat) (hs : SrcAt w A B L sa sn sc bad s) (hBw : B ≤ w.heap.size) :
    Calls Try.prog 84 #[.agg #[.slice sa sn sc, .bool bad], .agg #[.bool false, .int .i64 (smallN false), .bool false]] w fun e w' => ∃ ta tn tc bad', e = .returned (.tuple #[.agg #[.slice ta tn tc, .bool bad'], .agg #[.string (sEnt L s).2.1, .string (sEnt L s).2.2.1, .int .i64 (sEnt L s).2.2.2.1, .int .i64 (sEnt L s).2.2.2.2]]) ∧ SrcAt w' A B L ta tn tc bad' (sEnt L s).1 ∧ Below w.heap.size w w' := by
  go_enter Try.func84, Try.ntmps84
  go_wp2_with fail
  obtain ⟨z0, z1, z2, z3, z4, hb0⟩ := six_new w (.cells #[.slice sa sn sc, .bool bad] 119) (.cells #[.bool false, .int .i64 (smallN false), .bool false] 63) (.cells #[.slice none 0 0, .bool false] 119) (.cells #[.string ⟨#[]⟩, .string ⟨#[]⟩, .int .i64 0, .int .i64 0] 102) (.cells #[.string ⟨#[]⟩, .string ⟨#[]⟩, .int .i64 0, .int .i64 0] 102) (.cells #[] 5)
  generalize (((((w.alloc (.cells #[.slice sa sn sc, .bool bad] 119)).alloc (.cells #[.bool false, .int .i64 (smallN false), .bool false] 63)).alloc (.cells #[.slice none 0 0, .bool false] 119)).alloc (.cells #[.string ⟨#[]⟩, .string ⟨#[]⟩, .int .i64 0, .int .i64 0] 102)).alloc (.cells #[.string ⟨#[]⟩, .string ⟨#[]⟩, .int .i64 0, .int .i64 0] 102)).alloc (.cells #[] 5) = W at z0 z1 z2 z3 z4 hb0 ⊢
  have st : ES w L A B W s sa sn sc bad ⟨#[]⟩ ⟨#[]⟩ 0 0 := ⟨z0, z1, z2, z3, z4, hs.keep (.of_below (hb0.mono hBw)), hb0, hBw⟩
  clear z0 z1 z2 z3 z4 hb0
  refine (l2Take_any L s 1 (by omega) sa sn sc bad W A B st.src (by have := st.low; have := st.lt; omega)).mono ?_
  rintro e w1 ⟨ta, tn, tc, bad1, a1, c1, rfl, hs1, hx1, hb1⟩
  have st1 := st.call hb1
  have hl0 := st.lt
  obtain ⟨x0, x1⟩ := box_two2 st1.sb
  have f1 := box_frozen st1.sb
  have st2 := st1.sput hs1
  have hx2 := (hx1.set ⟨w.heap.size, 0, none⟩ (.slice ta tn tc) hBw (by show w.heap.size < _; omega)).set ⟨w.heap.size, 1, none⟩ (.bool bad1) hBw (by show w.heap.size < _; omega)
  obtain ⟨b1, o1, rfl, hc1, hc1a, hc1b⟩ := hx2.byte (by omega)
  obtain ⟨n, hn⟩ : ∃ n : Nat, (sTake L s 1).2.getD 0 0 = (n : Int) := ⟨((sTake L s 1).2.getD 0 0).toNat, by omega⟩
  have hn255 : n ≤ 255 := by omega
  have HN : Hid (((sTake L s 1).2.getD 0 0).toNat = n) := by show _ = _; rw [hn]; simp
  rw [hn] at hc1
  clear hn hc1a hc1b
  generalize hq1 : (sTake L s 1).1 = s1 at st2
  have HS1 : Hid ((sTake L s 1).1 = s1) := hq1
  clear st st1 hx1 hs1 hx2 hq1
  obtain ⟨g0, g1, g2⟩ := box_form st2.fb
  obtain ⟨h0, h1, h2, h3⟩ := box_four st2.eb
  obtain ⟨y0, y1⟩ := box_two2 st2.r1
  obtain ⟨k0, k1, k2, k3⟩ := box_four st2.r2
  obtain ⟨p0, p1⟩ := box_two2 st2.sb
  by_cases h8 : 8 < n
  · have i8 : (8 : Int) < (n : Int) := by omega
    have HE : Hid (sEnt L s = (none, dE)) := by show _ = _; rw [sEnt, HN.out, if_pos h8]
    have fr1 := box_frozen st2.r1
    have fr2 := box_frozen st2.r2
    go_wp2_with fail
    generalize (w1.setCell ⟨w.heap.size, 0, none⟩ (.slice ta tn tc)).setCell ⟨w.heap.size, 1, none⟩ (.bool bad1) = w2 at *
    go_region_held3 (fun w' => w'.cell? ⟨w.heap.size + 1 + 1 + 1 + 1, 0, none⟩ = some (.string ⟨#[]⟩) ∧ w'.cell? ⟨w.heap.size + 1 + 1 + 1 + 1, 1, none⟩ = some (.string ⟨#[]⟩) ∧ w'.cell? ⟨w.heap.size + 1 + 1 + 1 + 1, 2, none⟩ = some (.int .i64 0) ∧ w'.cell? ⟨w.heap.size + 1 + 1 + 1 + 1, 3, none⟩ = some (.int .i64 0)) (go_keep) (fail)
    all_goals
      go_wp2
      show bodyPost _ _ _ _ _ (ret6 w2 w.heap.size (.slice none 0 0) (.bool true) (.string ⟨#[]⟩) (.string ⟨#[]⟩) (.int .i64 0) (.int .i64 0)).drew
      obtain ⟨q0, q1⟩ := box_two2 (w := (ret6 w2 w.heap.size (.slice none 0 0) (.bool true) (.string ⟨#[]⟩) (.string ⟨#[]⟩) (.int .i64 0) (.int .i64 0)).drew) (N := w.heap.size + 1 + 1) ((drew_heap _ _).trans (ret6_r1 st2.r1 (.slice none 0 0) (.bool true) (.string ⟨#[]⟩) (.string ⟨#[]⟩) (.int .i64 0) (.int .i64 0)))
      obtain ⟨q2, q3, q4, q5⟩ := box_four (w := (ret6 w2 w.heap.size (.slice none 0 0) (.bool true) (.string ⟨#[]⟩) (.string ⟨#[]⟩) (.int .i64 0) (.int .i64 0)).drew) (N := w.heap.size + 1 + 1 + 1) ((drew_heap _ _).trans (ret6_r2 st2.r2 (.slice none 0 0) (.bool true) (.string ⟨#[]⟩) (.string ⟨#[]⟩) (.int .i64 0) (.int .i64 0)))
      refine bodyPost_ret (v := .tuple #[.agg #[.slice none 0 0, .bool true], .agg #[.string ⟨#[]⟩, .string ⟨#[]⟩, .int .i64 0, .int .i64 0]]) (by simp [results, Try.results84, go_sem, q0, q1, q2, q3, q4, q5]) rfl ?_
      rw [HE.out]
      exact ⟨_, _, _, _, rfl, ⟨rfl, rfl, rfl, rfl⟩, (ret6_below st2.bel (.slice none 0 0) (.bool true) (.string ⟨#[]⟩) (.string ⟨#[]⟩) (.int .i64 0) (.int .i64 0)).drew⟩
  · have i8 : ¬ (8 : Int) < (n : Int) := by omega
    go_wp2_with fail
    clear x0 x1 f1 g0 g1 g2 h0 h1 h2 h3 y0 y1 k0 k1 k2 k3 p0 p1 hc1
    generalize (w1.setCell ⟨w.heap.size, 0, none⟩ (.slice ta tn tc)).setCell ⟨w.heap.size, 1, none⟩ (.bool bad1) = w2 at st2 ⊢
    refine (l2Take_any L s1 n (by omega) ta tn tc bad1 w2 A B st2.src (by have := st2.low; have := st2.lt; omega)).mono ?_
    rintro e v3 ⟨ta3, tn3, tc3, bad3, a3, c3, rfl, hs3, hx3, hb3⟩
    have su3 := st2.call hb3
    have hl3 := st2.lt
    obtain ⟨x0, x1⟩ := box_two2 su3.sb
    have fx := box_frozen su3.sb
    have st3 := su3.sput hs3
    have hy3 := (hx3.set ⟨w.heap.size, 0, none⟩ (.slice ta3 tn3 tc3) hBw (by show w.heap.size < _; omega)).set ⟨w.heap.size, 1, none⟩ (.bool bad3) hBw (by show w.heap.size < _; omega)
    have hlen3 := sTake_len L s1 n
    generalize hq : (sTake L s1 n).1 = s3 at st3
    have HS3 : Hid ((sTake L s1 n).1 = s3) := hq
    clear hq
    generalize hq : (sTake L s1 n).2 = l3 at hy3 hlen3
    have HL3 : Hid ((sTake L s1 n).2 = l3) := hq
    clear hq su3 hx3 hs3 hb3 st2
    obtain ⟨p0, p1⟩ := box_two2 st3.sb
    obtain ⟨g0, g1, g2⟩ := box_form st3.fb
    obtain ⟨h0, h1, h2, h3⟩ := box_four st3.eb
    have fe := box_frozen st3.eb
    obtain ⟨A3, B3, hB3⟩ := hy3.ex
    have hcn : n ≤ n := by omega
    have hcv := str_conv (bytesAt_takeN hB3 hcn)
    have hcc : n ≤ c3 := hB3.2.1
    have hcm := hB3.2.2.1
    unfold maxLen at hcm
    have hcc2 : (n : Int) ≤ (c3 : Int) := by omega
    have hcc3 : ¬ (c3 : Int) < (n : Int) := by omega
    generalize hq : toB (l3.take n) = key at hcv
    have HKEY : Hid (toB (l3.take n) = key) := hq
    clear hq
    go_wp2_with fail
    have st4 := st3.eput 0 (.string key) key ⟨#[]⟩ 0 0 rfl
    clear x0 x1 fx p0 p1 g0 g1 g2 h0 h1 h2 h3 fe
    clear st3 hy3 hB3 hcv
    generalize ((v3.setCell ⟨w.heap.size, 0, none⟩ (.slice ta3 tn3 tc3)).setCell ⟨w.heap.size, 1, none⟩ (.bool bad3)).setCell ⟨w.heap.size + 1 + 1 + 1 + 1, 0, none⟩ (.string key) = w4 at st4 ⊢
    refine (l2Take_any L s3 1 (by omega) ta3 tn3 tc3 bad3 w4 A B st4.src (by have := st4.low; have := st4.lt; omega)).mono ?_
    rintro e v5 ⟨ta5, tn5, tc5, bad5, a5, c5, rfl, hs5, hx5, hb5⟩
    have su5 := st4.call hb5
    have hl5 := st4.lt
    obtain ⟨x0, x1⟩ := box_two2 su5.sb
    have fx := box_frozen su5.sb
    have st5 := su5.sput hs5
    have hy5 := (hx5.set ⟨w.heap.size, 0, none⟩ (.slice ta5 tn5 tc5) hBw (by show w.heap.size < _; omega)).set ⟨w.heap.size, 1, none⟩ (.bool bad5) hBw (by show w.heap.size < _; omega)
    have hlen5 := sTake_len L s3 1
    generalize hq : (sTake L s3 1).1 = s5 at st5
    have HS5 : Hid ((sTake L s3 1).1 = s5) := hq
    clear hq
    generalize hq : (sTake L s3 1).2 = l5 at hy5 hlen5
    have HL5 : Hid ((sTake L s3 1).2 = l5) := hq
    clear hq su5 hx5 hs5 hb5 st4
    obtain ⟨p0, p1⟩ := box_two2 st5.sb
    obtain ⟨g0, g1, g2⟩ := box_form st5.fb
    obtain ⟨h0, h1, h2, h3⟩ := box_four st5.eb
    have fe := box_frozen st5.eb
    obtain ⟨b5, o5, rfl, hc5, hc5a, hc5b⟩ := hy5.byte (by omega)
    have HF : Hid (l5.getD 0 0 = l5.getD 0 0) := rfl
    generalize hq : l5.getD 0 0 = m at hc5 hc5a hc5b
    have HM : Hid (l5.getD 0 0 = m) := hq
    clear hq HF
    by_cases hm : m = 1
    · subst hm
      go_wp2_with fail
      clear x0 x1 fx p0 p1 g0 g1 g2 h0 h1 h2 h3 fe
      clear hc5 hc5a hc5b hy5
      generalize (v5.setCell ⟨w.heap.size, 0, none⟩ (.slice ta5 tn5 tc5)).setCell ⟨w.heap.size, 1, none⟩ (.bool bad5) = w6 at st5 ⊢
      refine (l2Take_any L s5 (smallN false) (by decide) ta5 tn5 tc5 bad5 w6 A B st5.src (by have := st5.low; have := st5.lt; omega)).mono ?_
      rintro e v7 ⟨ta7, tn7, tc7, bad7, a7, c7, rfl, hs7, hx7, hb7⟩
      have su7 := st5.call hb7
      have hl7 := st5.lt
      obtain ⟨x0, x1⟩ := box_two2 su7.sb
      have fx := box_frozen su7.sb
      have st7 := su7.sput hs7
      have hy7 := (hx7.set ⟨w.heap.size, 0, none⟩ (.slice ta7 tn7 tc7) hBw (by show w.heap.size < _; omega)).set ⟨w.heap.size, 1, none⟩ (.bool bad7) hBw (by show w.heap.size < _; omega)
      have hlen7 := sTake_len L s5 (smallN false)
      generalize hq : (sTake L s5 (smallN false)).1 = s7 at st7
      have HS7 : Hid ((sTake L s5 (smallN false)).1 = s7) := hq
      clear hq
      generalize hq : (sTake L s5 (smallN false)).2 = l7 at hy7 hlen7
      have HL7 : Hid ((sTake L s5 (smallN false)).2 = l7) := hq
      clear hq su7 hx7 hs7 hb7 st5
      obtain ⟨p0, p1⟩ := box_two2 st7.sb
      obtain ⟨g0, g1, g2⟩ := box_form st7.fb
      obtain ⟨h0, h1, h2, h3⟩ := box_four st7.eb
      have fe := box_frozen st7.eb
      obtain ⟨A7, B7, hB7⟩ := hy7.ex
      go_wp2_with fail
      generalize (v7.setCell ⟨w.heap.size, 0, none⟩ (.slice ta7 tn7 tc7)).setCell ⟨w.heap.size, 1, none⟩ (.bool bad7) = w8 at st7 hy7 hB7 p0 p1 g0 g1 g2 h0 h1 h2 h3 fe ⊢
      refine (l2Get_low a7 (smallN false) c7 (by decide) l7 w8 A7 B7 hB7).mono ?_
      rintro e w8' ⟨rfl, hw8⟩
      subst hw8
      have st8 := st7.eput 2 (.int .i64 (numOf false l7)) key ⟨#[]⟩ (numOf false l7) 0 rfl
      generalize hq : numOf false l7 = ov at st8 ⊢
      have HOV : Hid (numOf false l7 = ov) := hq
      clear hq st7 hB7 hy7
      go_wp2_with fail
      clear x0 x1 fx p0 p1 g0 g1 g2 h0 h1 h2 h3 fe
      generalize w8'.setCell ⟨w.heap.size + 1 + 1 + 1 + 1, 2, none⟩ (.int .i64 ov) = w9 at st8 ⊢
      refine (l2Take_any L s7 (smallN false) (by decide) ta7 tn7 tc7 bad7 w9 A B st8.src (by have := st8.low; have := st8.lt; omega)).mono ?_
      rintro e v9 ⟨ta9, tn9, tc9, bad9, a9, c9, rfl, hs9, hx9, hb9⟩
      have su9 := st8.call hb9
      have hl9 := st8.lt
      obtain ⟨x0, x1⟩ := box_two2 su9.sb
      have fx := box_frozen su9.sb
      have st9 := su9.sput hs9
      have hy9 := (hx9.set ⟨w.heap.size, 0, none⟩ (.slice ta9 tn9 tc9) hBw (by show w.heap.size < _; omega)).set ⟨w.heap.size, 1, none⟩ (.bool bad9) hBw (by show w.heap.size < _; omega)
      have hlen9 := sTake_len L s7 (smallN false)
      generalize hq : (sTake L s7 (smallN false)).1 = s9 at st9
      have HS9 : Hid ((sTake L s7 (smallN false)).1 = s9) := hq
      clear hq
      generalize hq : (sTake L s7 (smallN false)).2 = l9 at hy9 hlen9
      have HL9 : Hid ((sTake L s7 (smallN false)).2 = l9) := hq
      clear hq su9 hx9 hs9 hb9 st8
      obtain ⟨p0, p1⟩ := box_two2 st9.sb
      obtain ⟨g0, g1, g2⟩ := box_form st9.fb
      obtain ⟨h0, h1, h2, h3⟩ := box_four st9.eb
      have fe := box_frozen st9.eb
      obtain ⟨A9, B9, hB9⟩ := hy9.ex
      go_wp2_with fail
      generalize (v9.setCell ⟨w.heap.size, 0, none⟩ (.slice ta9 tn9 tc9)).setCell ⟨w.heap.size, 1, none⟩ (.bool bad9) = w10 at st9 hy9 hB9 p0 p1 g0 g1 g2 h0 h1 h2 h3 fe ⊢
      refine (l2Get_low a9 (smallN false) c9 (by decide) l9 w10 A9 B9 hB9).mono ?_
      rintro e w10' ⟨rfl, hw10⟩
      subst hw10
      have st10 := st9.eput 3 (.int .i64 (numOf false l9)) key ⟨#[]⟩ ov (numOf false l9) rfl
      generalize hq : numOf false l9 = sz at st10 ⊢
      have HSZ : Hid (numOf false l9 = sz) := hq
      clear hq st9 hB9 hy9
      go_wp2_with fail
      clear x0 x1 fx p0 p1 g0 g1 g2 h0 h1 h2 h3 fe
      generalize w10'.setCell ⟨w.heap.size + 1 + 1 + 1 + 1, 3, none⟩ (.int .i64 sz) = w11 at st10 ⊢
      obtain ⟨p0, p1⟩ := box_two2 st10.sb
      obtain ⟨h0, h1, h2, h3⟩ := box_four st10.eb
      have fr1 := box_frozen st10.r1
      have fr2 := box_frozen st10.r2
      obtain ⟨y0, y1⟩ := box_two2 st10.r1
      obtain ⟨k0, k1, k2, k3⟩ := box_four st10.r2
      have HE : Hid (sEnt L s = (s9, (key, ⟨#[]⟩, ov, sz))) := by
        show _ = _
        simp only [sEnt, HN.out, HS1.out, HS3.out, HL3.out, HS5.out, HL5.out, HM.out, HS7.out, HL7.out, HS9.out, HL9.out, HKEY.out, HOV.out, HSZ.out, if_neg h8, if_true, if_false, Bool.false_eq_true]
      have ne1 : ¬ w.heap.size = w.heap.size + 1 + 1 := by omega
      have ne2 : ¬ w.heap.size = w.heap.size + 1 + 1 + 1 := by omega
      have ne3 : ¬ w.heap.size + 1 + 1 = w.heap.size := by omega
      have ne4 : ¬ w.heap.size + 1 + 1 + 1 = w.heap.size := by omega
      go_region_held3 (fun w' => w'.cell? ⟨w.heap.size, 0, none⟩ = some (.slice ta9 tn9 tc9) ∧ w'.cell? ⟨w.heap.size, 1, none⟩ = some (.bool bad9) ∧ w'.cell? ⟨w.heap.size + 1 + 1 + 1 + 1, 0, none⟩ = some (.string key) ∧ w'.cell? ⟨w.heap.size + 1 + 1 + 1 + 1, 1, none⟩ = some (.string ⟨#[]⟩) ∧ w'.cell? ⟨w.heap.size + 1 + 1 + 1 + 1, 2, none⟩ = some (.int .i64 ov) ∧ w'.cell? ⟨w.heap.size + 1 + 1 + 1 + 1, 3, none⟩ = some (.int .i64 sz)) (go_keep) (fail)
      all_goals
        go_wp2
        show bodyPost _ _ _ _ _ (ret6 w11 w.heap.size (.slice ta9 tn9 tc9) (.bool bad9) (.string key) (.string ⟨#[]⟩) (.int .i64 ov) (.int .i64 sz)).drew
        obtain ⟨q0, q1⟩ := box_two2 (w := (ret6 w11 w.heap.size (.slice ta9 tn9 tc9) (.bool bad9) (.string key) (.string ⟨#[]⟩) (.int .i64 ov) (.int .i64 sz)).drew) (N := w.heap.size + 1 + 1) ((drew_heap _ _).trans (ret6_r1 st10.r1 (.slice ta9 tn9 tc9) (.bool bad9) (.string key) (.string ⟨#[]⟩) (.int .i64 ov) (.int .i64 sz)))
        obtain ⟨q2, q3, q4, q5⟩ := box_four (w := (ret6 w11 w.heap.size (.slice ta9 tn9 tc9) (.bool bad9) (.string key) (.string ⟨#[]⟩) (.int .i64 ov) (.int .i64 sz)).drew) (N := w.heap.size + 1 + 1 + 1) ((drew_heap _ _).trans (ret6_r2 st10.r2 (.slice ta9 tn9 tc9) (.bool bad9) (.string key) (.string ⟨#[]⟩) (.int .i64 ov) (.int .i64 sz)))
        refine bodyPost_ret (v := .tuple #[.agg #[.slice ta9 tn9 tc9, .bool bad9], .agg #[.string key, .string ⟨#[]⟩, .int .i64 ov, .int .i64 sz]]) (by simp [results, Try.results84, go_sem, q0, q1, q2, q3, q4, q5]) rfl ?_
        rw [HE.out]
        exact ⟨_, _, _, _, rfl, st10.src.keep (fun x k1 k2 => (drew_heap _ _).trans (ret6_other _ _ _ _ _ _ _ _ x (by have := st10.low; omega) (by have := st10.low; omega))), (ret6_below st10.bel (.slice ta9 tn9 tc9) (.bool bad9) (.string key) (.string ⟨#[]⟩) (.int .i64 ov) (.int .i64 sz)).drew⟩
    · have hm1 : (m == 1) = false := by simpa using hm
      have hm2 : decide (m = 1) = false := by simpa using hm
      go_wp2_with fail
      clear x0 x1 fx p0 p1 g0 g1 g2 h0 h1 h2 h3 fe
      clear hc5 hc5a hc5b hy5
      generalize (v5.setCell ⟨w.heap.size, 0, none⟩ (.slice ta5 tn5 tc5)).setCell ⟨w.heap.size, 1, none⟩ (.bool bad5) = w6 at st5 ⊢
      refine (l2Take_any L s5 1 (by omega) ta5 tn5 tc5 bad5 w6 A B st5.src (by have := st5.low; have := st5.lt; omega)).mono ?_
      rintro e v7 ⟨ta7, tn7, tc7, bad7, a7, c7, rfl, hs7, hx7, hb7⟩
      have su7 := st5.call hb7
      have hl7 := st5.lt
      obtain ⟨x0, x1⟩ := box_two2 su7.sb
      have fx := box_frozen su7.sb
      have st7 := su7.sput hs7
      have hy7 := (hx7.set ⟨w.heap.size, 0, none⟩ (.slice ta7 tn7 tc7) hBw (by show w.heap.size < _; omega)).set ⟨w.heap.size, 1, none⟩ (.bool bad7) hBw (by show w.heap.size < _; omega)
      have hlen7 := sTake_len L s5 1
      generalize hq : (sTake L s5 1).1 = s7 at st7
      have HS7 : Hid ((sTake L s5 1).1 = s7) := hq
      clear hq
      generalize hq : (sTake L s5 1).2 = l7 at hy7 hlen7
      have HL7 : Hid ((sTake L s5 1).2 = l7) := hq
      clear hq su7 hx7 hs7 hb7 st5
      obtain ⟨p0, p1⟩ := box_two2 st7.sb
      obtain ⟨g0, g1, g2⟩ := box_form st7.fb
      obtain ⟨h0, h1, h2, h3⟩ := box_four st7.eb
      have fe := box_frozen st7.eb
      obtain ⟨b7, o7, rfl, hc7, hc7a, hc7b⟩ := hy7.byte (by omega)
      obtain ⟨n7, hn7⟩ : ∃ n7 : Nat, l7.getD 0 0 = (n7 : Int) := ⟨(l7.getD 0 0).toNat, by omega⟩
      have hn7l : n7 ≤ 255 := by omega
      have HN7 : Hid ((l7.getD 0 0).toNat = n7) := by show _ = _; rw [hn7]; simp
      rw [hn7] at hc7
      clear hn7 hc7a hc7b
      go_wp2_with fail
      clear x0 x1 fx g0 g1 g2 h0 h1 h2 h3 fe
      generalize (v7.setCell ⟨w.heap.size, 0, none⟩ (.slice ta7 tn7 tc7)).setCell ⟨w.heap.size, 1, none⟩ (.bool bad7) = w8 at st7 hc7 p0 p1 ⊢
      have hl9 := st7.lt
      have hw7 : IntKind.i64.wrap (n7 : Int) = (n7 : Int) := by rw [IntKind.wrap_i64]; omega
      go_region_with (go_at_call 83; refine (l2Take_any L s7 n7 hn7l ta7 tn7 tc7 bad7 w8.drew A B st7.drew.src (Nat.le_trans hBw st7.drew.bel.size)).mono ?_; rintro e v9 ⟨ta9, tn9, tc9, bad9, a9, c9, rfl, hs9, hx9, hb9⟩; have su9 := st7.drew.call hb9; obtain ⟨x0, x1⟩ := box_two2 su9.sb; have fx := box_frozen su9.sb)
      all_goals
        have st9 := su9.sput hs9
        have hy9 := (hx9.set ⟨w.heap.size, 0, none⟩ (.slice ta9 tn9 tc9) hBw (by show w.heap.size < w8.heap.size; omega)).set ⟨w.heap.size, 1, none⟩ (.bool bad9) hBw (by show w.heap.size < w8.heap.size; omega)
        generalize hq : (sTake L s7 n7).1 = s9 at st9
        have HS9 : Hid ((sTake L s7 n7).1 = s9) := hq
        clear hq
        have hlen9 := sTake_len L s7 n7
        generalize hq : (sTake L s7 n7).2 = l9 at hy9 hlen9
        have HL9 : Hid ((sTake L s7 n7).2 = l9) := hq
        clear hq su9 hx9 hs9 hb9 st7 p0 p1 hc7 hy7
        obtain ⟨p0, p1⟩ := box_two2 st9.sb
        obtain ⟨h0, h1, h2, h3⟩ := box_four st9.eb
        have fe := box_frozen st9.eb
        obtain ⟨A9, B9, hB9⟩ := hy9.ex
        have hcv9 := str_conv hB9
        generalize hq : toB l9 = val at hcv9
        have HV : Hid (toB l9 = val) := hq
        clear hq
        go_wp2_with fail
        have st10 := (st9.eput 1 (.string val) key val 0 0 rfl).eput 3 (.int .i64 (n7 : Int)) key val 0 (n7 : Int) rfl
        clear x0 x1 fx p0 p1 h0 h1 h2 h3 fe
        clear st9 hy9 hB9 hcv9
        generalize (((v9.setCell ⟨w.heap.size, 0, none⟩ (.slice ta9 tn9 tc9)).setCell ⟨w.heap.size, 1, none⟩ (.bool bad9)).setCell ⟨w.heap.size + 1 + 1 + 1 + 1, 1, none⟩ (.string val)).setCell ⟨w.heap.size + 1 + 1 + 1 + 1, 3, none⟩ (.int .i64 (n7 : Int)) = w11 at st10 ⊢
        obtain ⟨p0, p1⟩ := box_two2 st10.sb
        obtain ⟨h0, h1, h2, h3⟩ := box_four st10.eb
        have fr1 := box_frozen st10.r1
        have fr2 := box_frozen st10.r2
        obtain ⟨y0, y1⟩ := box_two2 st10.r1
        obtain ⟨k0, k1, k2, k3⟩ := box_four st10.r2
        have HE : Hid (sEnt L s = (s9, (key, val, 0, (n7 : Int)))) := by
          show _ = _
          simp only [sEnt, HN.out, HS1.out, HS3.out, HL3.out, HS5.out, HL5.out, HM.out, HS7.out, HL7.out, HN7.out, HS9.out, HL9.out, HKEY.out, HV.out, if_neg h8, if_neg hm, if_false, Bool.false_eq_true]
        have ne1 : ¬ w.heap.size = w.heap.size + 1 + 1 := by omega
        have ne2 : ¬ w.heap.size = w.heap.size + 1 + 1 + 1 := by omega
        have ne3 : ¬ w.heap.size + 1 + 1 = w.heap.size := by omega
        have ne4 : ¬ w.heap.size + 1 + 1 + 1 = w.heap.size := by omega
        go_region_held3 (fun w' => w'.cell? ⟨w.heap.size, 0, none⟩ = some (.slice ta9 tn9 tc9) ∧ w'.cell? ⟨w.heap.size, 1, none⟩ = some (.bool bad9) ∧ w'.cell? ⟨w.heap.size + 1 + 1 + 1 + 1, 0, none⟩ = some (.string key) ∧ w'.cell? ⟨w.heap.size + 1 + 1 + 1 + 1, 1, none⟩ = some (.string val) ∧ w'.cell? ⟨w.heap.size + 1 + 1 + 1 + 1, 2, none⟩ = some (.int .i64 0) ∧ w'.cell? ⟨w.heap.size + 1 + 1 + 1 + 1, 3, none⟩ = some (.int .i64 (n7 : Int))) (go_keep) (fail)
        all_goals
          go_wp2
          show bodyPost _ _ _ _ _ (ret6 w11 w.heap.size (.slice ta9 tn9 tc9) (.bool bad9) (.string key) (.string val) (.int .i64 0) (.int .i64 (n7 : Int))).drew
          obtain ⟨q0, q1⟩ := box_two2 (w := (ret6 w11 w.heap.size (.slice ta9 tn9 tc9) (.bool bad9) (.string key) (.string val) (.int .i64 0) (.int .i64 (n7 : Int))).drew) (N := w.heap.size + 1 + 1) ((drew_heap _ _).trans (ret6_r1 st10.r1 (.slice ta9 tn9 tc9) (.bool bad9) (.string key) (.string val) (.int .i64 0) (.int .i64 (n7 : Int))))
          obtain ⟨q2, q3, q4, q5⟩ := box_four (w := (ret6 w11 w.heap.size (.slice ta9 tn9 tc9) (.bool bad9) (.string key) (.string val) (.int .i64 0) (.int .i64 (n7 : Int))).drew) (N := w.heap.size + 1 + 1 + 1) ((drew_heap _ _).trans (ret6_r2 st10.r2 (.slice ta9 tn9 tc9) (.bool bad9) (.string key) (.string val) (.int .i64 0) (.int .i64 (n7 : Int))))
          refine bodyPost_ret (v := .tuple #[.agg #[.slice ta9 tn9 tc9, .bool bad9], .agg #[.string key, .string val, .int .i64 0, .int .i64 (n7 : Int)]]) (by simp [results, Try.results84, go_sem, q0, q1, q2, q3, q4, q5]) rfl ?_
          rw [HE.out]
          exact ⟨_, _, _, _, rfl, st10.src.keep (fun x k1 k2 => (drew_heap _ _).trans (ret6_other _ _ _ _ _ _ _ _ x (by have := st10.low; omega) (by have := st10.low; omega))), (ret6_below st10.bel (.slice ta9 tn9 tc9) (.bool bad9) (.string key) (.string val) (.int .i64 0) (.int .i64 (n7 : Int))).drew⟩
end New
end Go.Proofs.Ytcmhobbpeaeebaa
namespace Go.Proofs.Ytcmhobbpeaeebaa
namespace New
open Go.RowKit
set_option linter.unusedVariables false
set_option maxRecDepth 100000

/-- The state inside l2ReadBody. -/
structure BS (w : World) (L : List Int) (A B : Nat) (w' : World) (s : Option Nat) (sa : Option Addr) (sn sc : Nat) (bad : Bool) (p0 p1 p2 p3 p4 p5 p6 p7 p8 : Value) : Prop where
  fb : w'.heap[w.heap.size]? = some (.cells #[.bool false, .int .i64 (smallN false), .bool false] 63)
  rb : w'.heap[w.heap.size + 1]? = some (.cells #[.int .i64 0, .int .i64 0, .int .i64 0, .int .i64 0, .int .i64 0, .slice none 0 0, .slice none 0 0, .int .i64 0, .string ⟨#[]⟩] 28)
  pb : w'.heap[w.heap.size + 1 + 1]? = some (.cells #[p0, p1, p2, p3, p4, p5, p6, p7, p8] 28)
  sb : w'.heap[w.heap.size + 1 + 1 + 1]? = some (.cells #[.slice sa sn sc, .bool bad] 119)
  src : SrcAt w' A B L sa sn sc bad s
  bel : Below w.heap.size w w'
  low : B ≤ w.heap.size
theorem SrcAt.badly {w : World} {A B : Nat} {L : List Int} {a : Option Addr} {n c : Nat} {bad : Bool} {s : Option Nat} (h : SrcAt w A B L a n c bad s) : (!bad) = s.isSome := by
  cases s with
  | none => obtain ⟨rfl, _⟩ := h; rfl
  | some k => obtain ⟨_, rfl, _⟩ := h; rfl
section
variable {w w' w'' : World} {L : List Int} {A B : Nat} {s s' : Option Nat} {sa ta : Option Addr} {sn sc tn tc : Nat} {bad bad' : Bool} {p0 p1 p2 p3 p4 p5 p6 p7 p8 : Value}
theorem BS.lt (h : BS w L A B w' s sa sn sc bad p0 p1 p2 p3 p4 p5 p6 p7 p8) : w.heap.size + 3 < w'.heap.size := (Array.getElem?_eq_some_iff.1 h.sb).1
theorem BS.keepS {S : Nat → Prop} (h : BS w L A B w' s sa sn sc bad p0 p1 p2 p3 p4 p5 p6 p7 p8) (hf : Fr S w' w'') (h0 : ∀ x, S x → w.heap.size + 3 < x) : BS w L A B w'' s sa sn sc bad p0 p1 p2 p3 p4 p5 p6 p7 p8 := by
  have hl := h.lt
  have k : ∀ x, x ≤ w.heap.size + 3 → w''.heap[x]? = w'.heap[x]? := fun x hx => hf.block x (by omega) (fun hs => by have := h0 x hs; omega)
  exact ⟨(k _ (by omega)).trans h.fb, (k _ (by omega)).trans h.rb, (k _ (by omega)).trans h.pb, (k _ (by omega)).trans h.sb, h.src.keep (fun x k1 k2 => k x (by have := h.low; omega)), h.bel.trans (hf.below (by omega) (fun g hs => by have := h0 g hs; omega)), h.low⟩
theorem BS.call (h : BS w L A B w' s sa sn sc bad p0 p1 p2 p3 p4 p5 p6 p7 p8) (hb : Below w'.heap.size w' w'') : BS w L A B w'' s sa sn sc bad p0 p1 p2 p3 p4 p5 p6 p7 p8 := h.keepS (Fr.of_below (S := fun _ => False) hb) (fun _ h => h.elim)
theorem BS.sput (h : BS w L A B w' s sa sn sc bad p0 p1 p2 p3 p4 p5 p6 p7 p8) (hs : SrcAt w' A B L ta tn tc bad' s') : BS w L A B ((w'.setCell ⟨w.heap.size + 1 + 1 + 1, 0, none⟩ (.slice ta tn tc)).setCell ⟨w.heap.size + 1 + 1 + 1, 1, none⟩ (.bool bad')) s' ta tn tc bad' p0 p1 p2 p3 p4 p5 p6 p7 p8 := by
  have k : ∀ x, x ≠ w.heap.size + 1 + 1 + 1 → ((w'.setCell ⟨w.heap.size + 1 + 1 + 1, 0, none⟩ (.slice ta tn tc)).setCell ⟨w.heap.size + 1 + 1 + 1, 1, none⟩ (.bool bad')).heap[x]? = w'.heap[x]? := fun x hx => (Below.heap_setCell _ ⟨w.heap.size + 1 + 1 + 1, 1, none⟩ _ x hx).trans (Below.heap_setCell _ ⟨w.heap.size + 1 + 1 + 1, 0, none⟩ _ x hx)
  refine ⟨(k _ (by omega)).trans h.fb, (k _ (by omega)).trans h.rb, (k _ (by omega)).trans h.pb, ?_, hs.keep (fun x k1 k2 => k x (by have := h.low; omega)), (h.bel.setCell (p := ⟨w.heap.size + 1 + 1 + 1, 0, none⟩) (by show w.heap.size ≤ w.heap.size + 1 + 1 + 1; omega) _).setCell (p := ⟨w.heap.size + 1 + 1 + 1, 1, none⟩) (by show w.heap.size ≤ w.heap.size + 1 + 1 + 1; omega) _, h.low⟩
  simp [World.setCell, Array.getElem?_modify, h.sb]
theorem BS.pput (h : BS w L A B w' s sa sn sc bad p0 p1 p2 p3 p4 p5 p6 p7 p8) (i : Nat) (v : Value) (q0 q1 q2 q3 q4 q5 q6 q7 q8 : Value) (hf : (#[p0, p1, p2, p3, p4, p5, p6, p7, p8] : Array Value).setIfInBounds i v = #[q0, q1, q2, q3, q4, q5, q6, q7, q8]) : BS w L A B (w'.setCell ⟨w.heap.size + 1 + 1, i, none⟩ v) s sa sn sc bad q0 q1 q2 q3 q4 q5 q6 q7 q8 := by
  have k : ∀ x, x ≠ w.heap.size + 1 + 1 → (w'.setCell ⟨w.heap.size + 1 + 1, i, none⟩ v).heap[x]? = w'.heap[x]? := fun x hx => Below.heap_setCell _ ⟨w.heap.size + 1 + 1, i, none⟩ _ x hx
  refine ⟨(k _ (by omega)).trans h.fb, (k _ (by omega)).trans h.rb, ?_, (k _ (by omega)).trans h.sb, h.src.keep (fun x k1 k2 => k x (by have := h.low; omega)), h.bel.setCell (p := ⟨w.heap.size + 1 + 1, i, none⟩) (by show w.heap.size ≤ w.heap.size + 1 + 1; omega) _, h.low⟩
  rw [← hf]
  simp [World.setCell, Array.getElem?_modify, h.pb]
theorem BS.drew (h : BS w L A B w' s sa sn sc bad p0 p1 p2 p3 p4 p5 p6 p7 p8) : BS w L A B w'.drew s sa sn sc bad p0 p1 p2 p3 p4 p5 p6 p7 p8 := h.call (Below.refl _ _).drew
end
theorem five_new (w : World) (o0 o1 o2 o3 o4 : Obj) : ((((w.alloc o0).alloc o1).alloc o2).alloc o3 |>.alloc o4).heap[w.heap.size]? = some o0 ∧ ((((w.alloc o0).alloc o1).alloc o2).alloc o3 |>.alloc o4).heap[w.heap.size + 1]? = some o1 ∧ ((((w.alloc o0).alloc o1).alloc o2).alloc o3 |>.alloc o4).heap[w.heap.size + 1 + 1]? = some o2 ∧ ((((w.alloc o0).alloc o1).alloc o2).alloc o3 |>.alloc o4).heap[w.heap.size + 1 + 1 + 1]? = some o3 ∧ Below w.heap.size w ((((w.alloc o0).alloc o1).alloc o2).alloc o3 |>.alloc o4) := by
  have s1 : (w.alloc o0).heap.size = w.heap.size + 1 := by simp
  have s2 : ((w.alloc o0).alloc o1).heap.size = w.heap.size + 1 + 1 := by simp
  have s3 : (((w.alloc o0).alloc o1).alloc o2).heap.size = w.heap.size + 1 + 1 + 1 := by simp
  have s4 : ((((w.alloc o0).alloc o1).alloc o2).alloc o3).heap.size = w.heap.size + 1 + 1 + 1 + 1 := by simp
  have up : ∀ (v : World) (o : Obj) (k : Nat), k < v.heap.size → (v.alloc o).heap[k]? = v.heap[k]? := fun v o k hk => ((Below.refl _ _).alloc (Nat.le_refl _) _).block k hk
  have n0 := heap_alloc_new w o0
  have n1 := heap_alloc_new (w.alloc o0) o1
  have n2 := heap_alloc_new ((w.alloc o0).alloc o1) o2
  have n3 := heap_alloc_new (((w.alloc o0).alloc o1).alloc o2) o3
  rw [s1] at n1
  rw [s2] at n2
  rw [s3] at n3
  refine ⟨?_, ?_, ?_, ?_, ?_⟩
  · rw [up _ _ _ (by rw [s4]; omega), up _ _ _ (by rw [s3]; omega), up _ _ _ (by rw [s2]; omega), up _ _ _ (by rw [s1]; omega)]; exact n0
  · rw [up _ _ _ (by rw [s4]; omega), up _ _ _ (by rw [s3]; omega), up _ _ _ (by rw [s2]; omega)]; exact n1
  · rw [up _ _ _ (by rw [s4]; omega), up _ _ _ (by rw [s3]; omega)]; exact n2
  · rw [up _ _ _ (by rw [s4]; omega)]; exact n3
  · exact (((((Below.refl _ _).alloc (Nat.le_refl _) _).alloc (by rw [s1]; omega) _).alloc (by rw [s2]; omega) _).alloc (by rw [s3]; omega) _).alloc (by rw [s4]; omega) _
/-- The state as the body's reading begins. -/
theorem bs_start (kind : Int) (L : List Int) (a : Option Addr) (c : Nat) (w : World) (A B : Nat) (hB : BytesAt w A B a L.length c L) (hBw : B ≤ w.heap.size) : BS w L A B (((((w.alloc (.cells #[.bool false, .int .i64 (smallN false), .bool false] 63)).alloc (.cells #[.int .i64 0, .int .i64 0, .int .i64 0, .int .i64 0, .int .i64 0, .slice none 0 0, .slice none 0 0, .int .i64 0, .string ⟨#[]⟩] 28)).alloc (.cells #[.int .i64 kind, .int .i64 0, .int .i64 0, .int .i64 0, .int .i64 0, .slice none 0 0, .slice none 0 0, .int .i64 0, .string ⟨#[]⟩] 28)).alloc (.cells #[.slice a L.length c, .bool false] 119)).alloc (.cells #[] 5)) (some 0) a L.length c false (.int .i64 kind) (.int .i64 0) (.int .i64 0) (.int .i64 0) (.int .i64 0) (.slice none 0 0) (.slice none 0 0) (.int .i64 0) (.string ⟨#[]⟩) := by
  obtain ⟨z0, z1, z2, z3, hb⟩ := five_new w (.cells #[.bool false, .int .i64 (smallN false), .bool false] 63) (.cells #[.int .i64 0, .int .i64 0, .int .i64 0, .int .i64 0, .int .i64 0, .slice none 0 0, .slice none 0 0, .int .i64 0, .string ⟨#[]⟩] 28) (.cells #[.int .i64 kind, .int .i64 0, .int .i64 0, .int .i64 0, .int .i64 0, .slice none 0 0, .slice none 0 0, .int .i64 0, .string ⟨#[]⟩] 28) (.cells #[.slice a L.length c, .bool false] 119) (.cells #[] 5)
  refine ⟨z0, z1, z2, z3, ⟨Nat.zero_le _, rfl, rfl, ?_⟩, hb, hBw⟩
  have := hB.below (hb.mono hBw)
  simpa using this
/-- What the specification reads of an overflow page. -/
def sOver (L : List Int) : Option Nat × Int × ByteArray :=
  ((sTake L (sTake L (sTake L (some 0) (smallN false)).1 1).1 ((sTake L (sTake L (some 0) (smallN false)).1 1).2.getD 0 0).toNat).1, numOf false (sTake L (some 0) (smallN false)).2,
    toB (sTake L (sTake L (sTake L (some 0) (smallN false)).1 1).1 ((sTake L (sTake L (some 0) (smallN false)).1 1).2.getD 0 0).toNat).2)
set_option maxHeartbeats 3200000 in
theorem l2ReadBody_over (L : List Int) (n : Int) (a : Option Addr) (c : Nat) (w : World) (A B : Nat) (hB : BytesAt w A B a L.length c L) (hBw : B ≤ w.heap.size) :
    Calls Try.prog 49 #[.int .i64 4, .int .i64 n, .slice a L.length c, .agg #[.bool false, .int .i64 (smallN false), .bool false]] w fun e w' => e = .returned (.tuple #[.agg #[.int .i64 4, .int .i64 0, .int .i64 0, .int .i64 0, .int .i64 0, .slice none 0 0, .slice none 0 0, .int .i64 (sOver L).2.1, .string (sOver L).2.2], .bool (sOver L).1.isSome]) ∧ Below w.heap.size w w' := by
  go_enter Try.func49, Try.ntmps49
  go_wp2_with fail
  have st0 := bs_start 4 L a c w A B hB hBw
  generalize (((((w.alloc (.cells #[.bool false, .int .i64 (smallN false), .bool false] 63)).alloc (.cells #[.int .i64 0, .int .i64 0, .int .i64 0, .int .i64 0, .int .i64 0, .slice none 0 0, .slice none 0 0, .int .i64 0, .string ⟨#[]⟩] 28)).alloc (.cells #[.int .i64 4, .int .i64 0, .int .i64 0, .int .i64 0, .int .i64 0, .slice none 0 0, .slice none 0 0, .int .i64 0, .string ⟨#[]⟩] 28)).alloc (.cells #[.slice a L.length c, .bool false] 119)).alloc (.cells #[] 5)) = w0 at st0 ⊢
  refine (l2Take_any L (some 0) (smallN false) (by decide) a L.length c false w0 A B st0.src (by have := st0.low; have := st0.lt; omega)).mono ?_
  rintro e v1 ⟨ta1, tn1, tc1, bad1, a1, c1, rfl, hs1, hx1, hb1⟩
  have su1 := st0.call hb1
  have hl1 := st0.lt
  obtain ⟨x0, x1⟩ := box_two2 su1.sb
  have fx := box_frozen su1.sb
  have st1 := su1.sput hs1
  have hy1 := (hx1.set ⟨w.heap.size + 1 + 1 + 1, 0, none⟩ (.slice ta1 tn1 tc1) (by show B ≤ w.heap.size + 1 + 1 + 1; omega) (by show w.heap.size + 1 + 1 + 1 < _; omega)).set ⟨w.heap.size + 1 + 1 + 1, 1, none⟩ (.bool bad1) (by show B ≤ w.heap.size + 1 + 1 + 1; omega) (by show w.heap.size + 1 + 1 + 1 < _; omega)
  have hlen1 := sTake_len L (some 0) (smallN false)
  generalize hq : (sTake L (some 0) (smallN false)).1 = s1 at st1
  have HS1 : Hid ((sTake L (some 0) (smallN false)).1 = s1) := hq
  clear hq
  generalize hq : (sTake L (some 0) (smallN false)).2 = l1 at hy1 hlen1
  have HL1 : Hid ((sTake L (some 0) (smallN false)).2 = l1) := hq
  clear hq su1 hx1 hs1 hb1 st0
  obtain ⟨p0, p1⟩ := box_two2 st1.sb
  obtain ⟨g0, g1, g2⟩ := box_form st1.fb
  obtain ⟨r5, r6, r0, r2, r3, r4, r7, r8, r1⟩ := box_slice st1.pb
  have fe := box_frozen st1.pb
  obtain ⟨A1, B1, hB1⟩ := hy1.ex
  go_wp2_with fail
  generalize (v1.setCell ⟨w.heap.size + 1 + 1 + 1, 0, none⟩ (.slice ta1 tn1 tc1)).setCell ⟨w.heap.size + 1 + 1 + 1, 1, none⟩ (.bool bad1) = w2 at st1 hy1 hB1 p0 p1 g0 g1 g2 r0 r1 r2 r3 r4 r5 r6 r7 r8 fe ⊢
  refine (l2Get_low a1 (smallN false) c1 (by decide) l1 w2 A1 B1 hB1).mono ?_
  rintro e w2' ⟨rfl, hw2⟩
  subst hw2
  have st2 := st1.pput 7 (.int .i64 (numOf false l1)) (.int .i64 4) (.int .i64 0) (.int .i64 0) (.int .i64 0) (.int .i64 0) (.slice none 0 0) (.slice none 0 0) (.int .i64 (numOf false l1)) (.string ⟨#[]⟩) rfl
  generalize hq : numOf false l1 = nx at st2 ⊢
  have HNX : Hid (numOf false l1 = nx) := hq
  clear hq st1 hB1 hy1
  go_wp2_with fail
  clear x0 x1 fx p0 p1 g0 g1 g2 r0 r1 r2 r3 r4 r5 r6 r7 r8 fe
  generalize w2'.setCell ⟨w.heap.size + 1 + 1, 7, none⟩ (.int .i64 nx) = w3 at st2 ⊢
  refine (l2Take_any L s1 1 (by omega) ta1 tn1 tc1 bad1 w3 A B st2.src (by have := st2.low; have := st2.lt; omega)).mono ?_
  rintro e v3 ⟨ta3, tn3, tc3, bad3, a3, c3, rfl, hs3, hx3, hb3⟩
  have su3 := st2.call hb3
  have hl3 := st2.lt
  obtain ⟨x0, x1⟩ := box_two2 su3.sb
  have fx := box_frozen su3.sb
  have st3 := su3.sput hs3
  have hy3 := (hx3.set ⟨w.heap.size + 1 + 1 + 1, 0, none⟩ (.slice ta3 tn3 tc3) (by show B ≤ w.heap.size + 1 + 1 + 1; omega) (by show w.heap.size + 1 + 1 + 1 < _; omega)).set ⟨w.heap.size + 1 + 1 + 1, 1, none⟩ (.bool bad3) (by show B ≤ w.heap.size + 1 + 1 + 1; omega) (by show w.heap.size + 1 + 1 + 1 < _; omega)
  have hlen3 := sTake_len L s1 1
  generalize hq : (sTake L s1 1).1 = s3 at st3
  have HS3 : Hid ((sTake L s1 1).1 = s3) := hq
  clear hq
  generalize hq : (sTake L s1 1).2 = l3 at hy3 hlen3
  have HL3 : Hid ((sTake L s1 1).2 = l3) := hq
  clear hq su3 hx3 hs3 hb3 st2
  obtain ⟨p0, p1⟩ := box_two2 st3.sb
  obtain ⟨g0, g1, g2⟩ := box_form st3.fb
  obtain ⟨r5, r6, r0, r2, r3, r4, r7, r8, r1⟩ := box_slice st3.pb
  have fe := box_frozen st3.pb
  obtain ⟨b3, o3, rfl, hc3, hc3a, hc3b⟩ := hy3.byte (by omega)
  obtain ⟨n3, hn3⟩ : ∃ n3 : Nat, l3.getD 0 0 = (n3 : Int) := ⟨(l3.getD 0 0).toNat, by omega⟩
  have hn3l : n3 ≤ 255 := by omega
  have HN3 : Hid ((l3.getD 0 0).toNat = n3) := by show _ = _; rw [hn3]; simp
  rw [hn3] at hc3
  clear hn3 hc3a hc3b
  go_wp2_with fail
  clear x0 x1 fx g0 g1 g2 r0 r1 r2 r3 r4 r5 r6 r7 r8 fe
  generalize (v3.setCell ⟨w.heap.size + 1 + 1 + 1, 0, none⟩ (.slice ta3 tn3 tc3)).setCell ⟨w.heap.size + 1 + 1 + 1, 1, none⟩ (.bool bad3) = w4 at st3 hc3 p0 p1 ⊢
  have hl5 := st3.lt
  have hw3 : IntKind.i64.wrap (n3 : Int) = (n3 : Int) := by rw [IntKind.wrap_i64]; omega
  go_region_with (go_at_call 83; refine (l2Take_any L s3 n3 hn3l ta3 tn3 tc3 bad3 w4.drew A B st3.drew.src (Nat.le_trans hBw st3.drew.bel.size)).mono ?_; rintro e v5 ⟨ta5, tn5, tc5, bad5, a5, c5, rfl, hs5, hx5, hb5⟩; have su5 := st3.drew.call hb5; obtain ⟨x0, x1⟩ := box_two2 su5.sb; have fx := box_frozen su5.sb)
  all_goals
    have st5 := su5.sput hs5
    have hy5 := (hx5.set ⟨w.heap.size + 1 + 1 + 1, 0, none⟩ (.slice ta5 tn5 tc5) (by show B ≤ w.heap.size + 1 + 1 + 1; omega) (by show w.heap.size + 1 + 1 + 1 < w4.heap.size; omega)).set ⟨w.heap.size + 1 + 1 + 1, 1, none⟩ (.bool bad5) (by show B ≤ w.heap.size + 1 + 1 + 1; omega) (by show w.heap.size + 1 + 1 + 1 < w4.heap.size; omega)
    generalize hq : (sTake L s3 n3).1 = s5 at st5
    have HS5 : Hid ((sTake L s3 n3).1 = s5) := hq
    clear hq
    generalize hq : (sTake L s3 n3).2 = l5 at hy5
    have HL5 : Hid ((sTake L s3 n3).2 = l5) := hq
    clear hq su5 hx5 hs5 hb5 st3 p0 p1 hc3 hy3
    obtain ⟨p0, p1⟩ := box_two2 st5.sb
    obtain ⟨r5, r6, r0, r2, r3, r4, r7, r8, r1⟩ := box_slice st5.pb
    have fe := box_frozen st5.pb
    obtain ⟨A5, B5, hB5⟩ := hy5.ex
    have hcv5 := str_conv hB5
    generalize hq : toB l5 = val at hcv5
    have HV : Hid (toB l5 = val) := hq
    clear hq
    go_wp2_with fail
    have st6 := st5.pput 8 (.string val) (.int .i64 4) (.int .i64 0) (.int .i64 0) (.int .i64 0) (.int .i64 0) (.slice none 0 0) (.slice none 0 0) (.int .i64 nx) (.string val) rfl
    clear x0 x1 fx p0 p1 r0 r1 r2 r3 r4 r5 r6 r7 r8 fe
    clear st5 hy5 hB5 hcv5
    generalize ((v5.setCell ⟨w.heap.size + 1 + 1 + 1, 0, none⟩ (.slice ta5 tn5 tc5)).setCell ⟨w.heap.size + 1 + 1 + 1, 1, none⟩ (.bool bad5)).setCell ⟨w.heap.size + 1 + 1, 8, none⟩ (.string val) = w6 at st6 ⊢
    have HE : Hid (sOver L = (s5, nx, val)) := by
      show _ = _
      simp only [sOver, HS1.out, HL1.out, HS3.out, HL3.out, HN3.out, HS5.out, HL5.out, HNX.out, HV.out]
    obtain ⟨p0, p1⟩ := box_two2 st6.sb
    obtain ⟨r5, r6, r0, r2, r3, r4, r7, r8, r1⟩ := box_slice st6.pb
    have fr := box_frozen st6.rb
    obtain ⟨y5, y6, y0, y2, y3, y4, y7, y8, y1⟩ := box_slice st6.rb
    go_region_held3 (fun w' => w'.cell? ⟨w.heap.size + 1 + 1 + 1, 1, none⟩ = some (.bool bad5) ∧ w'.cell? ⟨w.heap.size + 1 + 1, 0, none⟩ = some (.int .i64 4) ∧ w'.cell? ⟨w.heap.size + 1 + 1, 1, none⟩ = some (.int .i64 0) ∧ w'.cell? ⟨w.heap.size + 1 + 1, 2, none⟩ = some (.int .i64 0) ∧ w'.cell? ⟨w.heap.size + 1 + 1, 3, none⟩ = some (.int .i64 0) ∧ w'.cell? ⟨w.heap.size + 1 + 1, 4, none⟩ = some (.int .i64 0) ∧ w'.cell? ⟨w.heap.size + 1 + 1, 5, none⟩ = some (.slice none 0 0) ∧ w'.cell? ⟨w.heap.size + 1 + 1, 6, none⟩ = some (.slice none 0 0) ∧ w'.cell? ⟨w.heap.size + 1 + 1, 7, none⟩ = some (.int .i64 nx) ∧ w'.cell? ⟨w.heap.size + 1 + 1, 8, none⟩ = some (.string val)) (go_keep) (fail)
    all_goals
      go_wp2
      show bodyPost _ _ _ _ _ (put9 w6 (w.heap.size + 1) (.int .i64 4) (.int .i64 0) (.int .i64 0) (.int .i64 0) (.int .i64 0) (.slice none 0 0) (.slice none 0 0) (.int .i64 nx) (.string val)).drew
      clear r0 r1 r2 r3 r4 r5 r6 r7 r8 y0 y1 y2 y3 y4 y5 y6 y7 y8
      obtain ⟨r5, r6, r0, r2, r3, r4, r7, r8, r1⟩ := box_slice (w := (put9 w6 (w.heap.size + 1) (.int .i64 4) (.int .i64 0) (.int .i64 0) (.int .i64 0) (.int .i64 0) (.slice none 0 0) (.slice none 0 0) (.int .i64 nx) (.string val)).drew) (N := w.heap.size + 1) ((drew_heap _ _).trans (put9_box st6.rb (.int .i64 4) (.int .i64 0) (.int .i64 0) (.int .i64 0) (.int .i64 0) (.slice none 0 0) (.slice none 0 0) (.int .i64 nx) (.string val)))
      have hbe : Below w.heap.size w (put9 w6 (w.heap.size + 1) (.int .i64 4) (.int .i64 0) (.int .i64 0) (.int .i64 0) (.int .i64 0) (.slice none 0 0) (.slice none 0 0) (.int .i64 nx) (.string val)).drew := (st6.bel.trans ((put9_fr w6 (w.heap.size + 1) (.int .i64 4) (.int .i64 0) (.int .i64 0) (.int .i64 0) (.int .i64 0) (.slice none 0 0) (.slice none 0 0) (.int .i64 nx) (.string val)).below st6.bel.size (fun g e => by omega))).drew
      have hbd := SrcAt.badly st6.src
      refine bodyPost_ret (v := .tuple #[.agg #[.int .i64 4, .int .i64 0, .int .i64 0, .int .i64 0, .int .i64 0, .slice none 0 0, .slice none 0 0, .int .i64 nx, .string val], .bool (!bad5)]) (by simp [results, Try.results49, go_sem, r0, r1, r2, r3, r4, r5, r6, r7, r8]) rfl ?_
      rw [HE.out, hbd]
      exact ⟨rfl, hbe⟩
end New
end Go.Proofs.Ytcmhobbpeaeebaa
