import Derived.Test.YtcmhobbpeaeebaaRbN
import Derived.Test.YtcmhobbpeaeebaaSvN
namespace Go.Proofs.Ytcmhobbpeaeebaa
namespace New
open Go.RowKit
set_option linter.unusedVariables false
set_option maxRecDepth 100000

/-- The state inside l2ReadBody. -/
structure BS (w : World) (L : List Int) (A B : Nat) (w' : World) (s : Option Nat) (sa : Option Addr) (sn sc : Nat) (bad : Bool) (p0 p1 p2 p3 p4 p5 p6 p7 p8 : Value) : Prop where
  fb : w'.heap[w.heap.size]? = some (.cells #[.bool false, .int .i64 (smallN false), .bool false] 63)
  rb : w'.heap[w.heap.size + 1]? = some (.cells #[.int .i64 0, .int .i64 0, .int .i64 0, .int .i64 0, .int .i64 0, .slice none 0 0, .slice none 0 0, .int .i64 0, .string ⟨#[]⟩] 28)
  pb : w'.heap[w.heap.size + 1 + 1]? = some (.cells #[p0, p1, p2, p3, p4, p5, p6, p7, p8] 28)
  sb : w'.heap[w.heap.size + 1 + 1 + 1]? = some (.cells #[.slice sa sn sc, .bool bad] 119)
  src : SrcAt w' A B L sa sn sc bad s
  bel : Below w.heap.size w w'
  low : B ≤ w.heap.size
theorem SrcAt.badly {w : World} {A B : Nat} {L : List Int} {a : Option Addr} {n c : Nat} {bad : Bool} {s : Option Nat} (h : SrcAt w A B L a n c bad s) : (!bad) = s.isSome := by
  cases s with
  | none => obtain ⟨rfl, _⟩ := h; rfl
  | some k => obtain ⟨_, rfl, _⟩ := h; rfl
section
variable {w w' w'' : World} {L : List Int} {A B : Nat} {s s' : Option Nat} {sa ta : Option Addr} {sn sc tn tc : Nat} {bad bad' : Bool} {p0 p1 p2 p3 p4 p5 p6 p7 p8 : Value}
theorem BS.lt (h : BS w L A B w' s sa sn sc bad p0 p1 p2 p3 p4 p5 p6 p7 p8) : w.heap.size + 3 < w'.heap.size := (Array.getElem?_eq_some_iff.1 h.sb).1
theorem BS.keepS {S : Nat → Prop} (h : BS w L A B w' s sa sn sc bad p0 p1 p2 p3 p4 p5 p6 p7 p8) (hf : Fr S w' w'') (h0 : ∀ x, S x → w.heap.size + 3 < x) : BS w L A B w'' s sa sn sc bad p0 p1 p2 p3 p4 p5 p6 p7 p8 := by
  have hl := h.lt
  have k : ∀ x, x ≤ w.heap.size + 3 → w''.heap[x]? = w'.heap[x]? := fun x hx => hf.block x (by omega) (fun hs => by have := h0 x hs; omega)
  exact ⟨(k _ (by omega)).trans h.fb, (k _ (by omega)).trans h.rb, (k _ (by omega)).trans h.pb, (k _ (by omega)).trans h.sb, h.src.keep (fun x k1 k2 => k x (by have := h.low; omega)), h.bel.trans (hf.below (by omega) (fun g hs => by have := h0 g hs; omega)), h.low⟩
theorem BS.call (h : BS w L A B w' s sa sn sc bad p0 p1 p2 p3 p4 p5 p6 p7 p8) (hb : Below w'.heap.size w' w'') : BS w L A B w'' s sa sn sc bad p0 p1 p2 p3 p4 p5 p6 p7 p8 := h.keepS (Fr.of_below (S := fun _ => False) hb) (fun _ h => h.elim)
theorem BS.sput (h : BS w L A B w' s sa sn sc bad p0 p1 p2 p3 p4 p5 p6 p7 p8) (hs : SrcAt w' A B L ta tn tc bad' s') : BS w L A B ((w'.setCell ⟨w.heap.size + 1 + 1 + 1, 0, none⟩ (.slice ta tn tc)).setCell ⟨w.heap.size + 1 + 1 + 1, 1, none⟩ (.bool bad')) s' ta tn tc bad' p0 p1 p2 p3 p4 p5 p6 p7 p8 := by
  have k : ∀ x, x ≠ w.heap.size + 1 + 1 + 1 → ((w'.setCell ⟨w.heap.size + 1 + 1 + 1, 0, none⟩ (.slice ta tn tc)).setCell ⟨w.heap.size + 1 + 1 + 1, 1, none⟩ (.bool bad')).heap[x]? = w'.heap[x]? := fun x hx => (Below.heap_setCell _ ⟨w.heap.size + 1 + 1 + 1, 1, none⟩ _ x hx).trans (Below.heap_setCell _ ⟨w.heap.size + 1 + 1 + 1, 0, none⟩ _ x hx)
  refine ⟨(k _ (by omega)).trans h.fb, (k _ (by omega)).trans h.rb, (k _ (by omega)).trans h.pb, ?_, hs.keep (fun x k1 k2 => k x (by have := h.low; omega)), (h.bel.setCell (p := ⟨w.heap.size + 1 + 1 + 1, 0, none⟩) (by show w.heap.size ≤ w.heap.size + 1 + 1 + 1; omega) _).setCell (p := ⟨w.heap.size + 1 + 1 + 1, 1, none⟩) (by show w.heap.size ≤ w.heap.size + 1 + 1 + 1; omega) _, h.low⟩
  simp [World.setCell, Array.getElem?_modify, h.sb]
theorem BS.pput (h : BS w L A B w' s sa sn sc bad p0 p1 p2 p3 p4 p5 p6 p7 p8) (i : Nat) (v : Value) (q0 q1 q2 q3 q4 q5 q6 q7 q8 : Value) (hf : (#[p0, p1, p2, p3, p4, p5, p6, p7, p8] : Array Value).setIfInBounds i v = #[q0, q1, q2, q3, q4, q5, q6, q7, q8]) : BS w L A B (w'.setCell ⟨w.heap.size + 1 + 1, i, none⟩ v) s sa sn sc bad q0 q1 q2 q3 q4 q5 q6 q7 q8 := by
  have k : ∀ x, x ≠ w.heap.size + 1 + 1 → (w'.setCell ⟨w.heap.size + 1 + 1, i, none⟩ v).heap[x]? = w'.heap[x]? := fun x hx => Below.heap_setCell _ ⟨w.heap.size + 1 + 1, i, none⟩ _ x hx
  refine ⟨(k _ (by omega)).trans h.fb, (k _ (by omega)).trans h.rb, ?_, (k _ (by omega)).trans h.sb, h.src.keep (fun x k1 k2 => k x (by have := h.low; omega)), h.bel.setCell (p := ⟨w.heap.size + 1 + 1, i, none⟩) (by show w.heap.size ≤ w.heap.size + 1 + 1; omega) _, h.low⟩
  rw [← hf]
  simp [World.setCell, Array.getElem?_modify, h.pb]
theorem BS.drew (h : BS w L A B w' s sa sn sc bad p0 p1 p2 p3 p4 p5 p6 p7 p8) : BS w L A B w'.drew s sa sn sc bad p0 p1 p2 p3 p4 p5 p6 p7 p8 := h.call (Below.refl _ _).drew
end
theorem five_new (w : World) (o0 o1 o2 o3 o4 : Obj) : ((((w.alloc o0).alloc o1).alloc o2).alloc o3 |>.alloc o4).heap[w.heap.size]? = some o0 ∧ ((((w.alloc o0).alloc o1).alloc o2).alloc o3 |>.alloc o4).heap[w.heap.size + 1]? = some o1 ∧ ((((w.alloc o0).alloc o1).alloc o2).alloc o3 |>.alloc o4).heap[w.heap.size + 1 + 1]? = some o2 ∧ ((((w.alloc o0).alloc o1).alloc o2).alloc o3 |>.alloc o4).heap[w.heap.size + 1 + 1 + 1]? = some o3 ∧ Below w.heap.size w ((((w.alloc o0).alloc o1).alloc o2).alloc o3 |>.alloc o4) := by
  have s1 : (w.alloc o0).heap.size = w.heap.size + 1 := by simp
  have s2 : ((w.alloc o0).alloc o1).heap.size = w.heap.size + 1 + 1 := by simp
  have s3 : (((w.alloc o0).alloc o1).alloc o2).heap.size = w.heap.size + 1 + 1 + 1 := by simp
  have s4 : ((((w.alloc o0).alloc o1).alloc o2).alloc o3).heap.size = w.heap.size + 1 + 1 + 1 + 1 := by simp
  have up : ∀ (v : World) (o : Obj) (k : Nat), k < v.heap.size → (v.alloc o).heap[k]? = v.heap[k]? := fun v o k hk => ((Below.refl _ _).alloc (Nat.le_refl _) _).block k hk
  have n0 := heap_alloc_new w o0
  have n1 := heap_alloc_new (w.alloc o0) o1
  have n2 := heap_alloc_new ((w.alloc o0).alloc o1) o2
  have n3 := heap_alloc_new (((w.alloc o0).alloc o1).alloc o2) o3
  rw [s1] at n1
  rw [s2] at n2
  rw [s3] at n3
  refine ⟨?_, ?_, ?_, ?_, ?_⟩
  · rw [up _ _ _ (by rw [s4]; omega), up _ _ _ (by rw [s3]; omega), up _ _ _ (by rw [s2]; omega), up _ _ _ (by rw [s1]; omega)]; exact n0
  · rw [up _ _ _ (by rw [s4]; omega), up _ _ _ (by rw [s3]; omega), up _ _ _ (by rw [s2]; omega)]; exact n1
  · rw [up _ _ _ (by rw [s4]; omega), up _ _ _ (by rw [s3]; omega)]; exact n2
  · rw [up _ _ _ (by rw [s4]; omega)]; exact n3
  · exact (((((Below.refl _ _).alloc (Nat.le_refl _) _).alloc (by rw [s1]; omega) _).alloc (by rw [s2]; omega) _).alloc (by rw [s3]; omega) _).alloc (by rw [s4]; omega) _
/-- The state as the body's reading begins. -/
theorem bs_start (kind : Int) (L : List Int) (a : Option Addr) (c : Nat) (w : World) (A B : Nat) (hB : BytesAt w A B a L.length c L) (hBw : B ≤ w.heap.size) : BS w L A B (((((w.alloc (.cells #[.bool false, .int .i64 (smallN false), .bool false] 63)).alloc (.cells #[.int .i64 0, .int .i64 0, .int .i64 0, .int .i64 0, .int .i64 0, .slice none 0 0, .slice none 0 0, .int .i64 0, .string ⟨#[]⟩] 28)).alloc (.cells #[.int .i64 kind, .int .i64 0, .int .i64 0, .int .i64 0, .int .i64 0, .slice none 0 0, .slice none 0 0, .int .i64 0, .string ⟨#[]⟩] 28)).alloc (.cells #[.slice a L.length c, .bool false] 119)).alloc (.cells #[] 5)) (some 0) a L.length c false (.int .i64 kind) (.int .i64 0) (.int .i64 0) (.int .i64 0) (.int .i64 0) (.slice none 0 0) (.slice none 0 0) (.int .i64 0) (.string ⟨#[]⟩) := by
  obtain ⟨z0, z1, z2, z3, hb⟩ := five_new w (.cells #[.bool false, .int .i64 (smallN false), .bool false] 63) (.cells #[.int .i64 0, .int .i64 0, .int .i64 0, .int .i64 0, .int .i64 0, .slice none 0 0, .slice none 0 0, .int .i64 0, .string ⟨#[]⟩] 28) (.cells #[.int .i64 kind, .int .i64 0, .int .i64 0, .int .i64 0, .int .i64 0, .slice none 0 0, .slice none 0 0, .int .i64 0, .string ⟨#[]⟩] 28) (.cells #[.slice a L.length c, .bool false] 119) (.cells #[] 5)
  refine ⟨z0, z1, z2, z3, ⟨Nat.zero_le _, rfl, rfl, ?_⟩, hb, hBw⟩
  have := hB.below (hb.mono hBw)
  simpa using this
/-- What the specification reads of an overflow page. -/
def sOver (L : List Int) : Option Nat × Int × ByteArray :=
  ((sTake L (sTake L (sTake L (some 0) (smallN false)).1 1).1 ((sTake L (sTake L (some 0) (smallN false)).1 1).2.getD 0 0).toNat).1, numOf false (sTake L (some 0) (smallN false)).2,
    toB (sTake L (sTake L (sTake L (some 0) (smallN false)).1 1).1 ((sTake L (sTake L (some 0) (smallN false)).1 1).2.getD 0 0).toNat).2)
set_option maxHeartbeats 3200000 in
theorem l2ReadBody_over (L : List Int) (n : Int) (a : Option Addr) (c : Nat) (w : World) (A B : Nat) (hB : BytesAt w A B a L.length c L) (hBw : B ≤ w.heap.size) :
    Calls Try.prog 49 #[.int .i64 4, .int .i64 n, .slice a L.length c, .agg #[.bool false, .int .i64 (smallN false), .bool false]] w fun e w' => e = .returned (.tuple #[.agg #[.int .i64 4, .int .i64 0, .int .i64 0, .int .i64 0, .int .i64 0, .slice none 0 0, .slice none 0 0, .int .i64 (sOver L).2.1, .string (sOver L).2.2], .bool (sOver L).1.isSome]) ∧ Below w.heap.size w w' := by
  go_enter Try.func49, Try.ntmps49
  go_wp2_with fail
  have st0 := bs_start 4 L a c w A B hB hBw
  generalize (((((w.alloc (.cells #[.bool false, .int .i64 (smallN false), .bool false] 63)).alloc (.cells #[.int .i64 0, .int .i64 0, .int .i64 0, .int .i64 0, .int .i64 0, .slice none 0 0, .slice none 0 0, .int .i64 0, .string ⟨#[]⟩] 28)).alloc (.cells #[.int .i64 4, .int .i64 0, .int .i64 0, .int .i64 0, .int .i64 0, .slice none 0 0, .slice none 0 0, .int .i64 0, .string ⟨#[]⟩] 28)).alloc (.cells #[.slice a L.length c, .bool false] 119)).alloc (.cells #[] 5)) = w0 at st0 ⊢
  refine (l2Take_any L (some 0) (smallN false) (by decide) a L.length c false w0 A B st0.src (by have := st0.low; have := st0.lt; omega)).mono ?_
  rintro e v1 ⟨ta1, tn1, tc1, bad1, a1, c1, rfl, hs1, hx1, hb1⟩
  have su1 := st0.call hb1
  have hl1 := st0.lt
  obtain ⟨x0, x1⟩ := box_two2 su1.sb
  have fx := box_frozen su1.sb
  have st1 := su1.sput hs1
  have hy1 := (hx1.set ⟨w.heap.size + 1 + 1 + 1, 0, none⟩ (.slice ta1 tn1 tc1) (by show B ≤ w.heap.size + 1 + 1 + 1; omega) (by show w.heap.size + 1 + 1 + 1 < _; omega)).set ⟨w.heap.size + 1 + 1 + 1, 1, none⟩ (.bool bad1) (by show B ≤ w.heap.size + 1 + 1 + 1; omega) (by show w.heap.size + 1 + 1 + 1 < _; omega)
  have hlen1 := sTake_len L (some 0) (smallN false)
  generalize hq : (sTake L (some 0) (smallN false)).1 = s1 at st1
  have HS1 : Hid ((sTake L (some 0) (smallN false)).1 = s1) := hq
  clear hq
  generalize hq : (sTake L (some 0) (smallN false)).2 = l1 at hy1 hlen1
  have HL1 : Hid ((sTake L (some 0) (smallN false)).2 = l1) := hq
  clear hq su1 hx1 hs1 hb1 st0
  obtain ⟨p0, p1⟩ := box_two2 st1.sb
  obtain ⟨g0, g1, g2⟩ := box_form st1.fb
  obtain ⟨r5, r6, r0, r2, r3, r4, r7, r8, r1⟩ := box_slice st1.pb
  have fe := box_frozen st1.pb
  obtain ⟨A1, B1, hB1⟩ := hy1.ex
  go_wp2_with fail
  generalize (v1.setCell ⟨w.heap.size + 1 + 1 + 1, 0, none⟩ (.slice ta1 tn1 tc1)).setCell ⟨w.heap.size + 1 + 1 + 1, 1, none⟩ (.bool bad1) = w2 at st1 hy1 hB1 p0 p1 g0 g1 g2 r0 r1 r2 r3 r4 r5 r6 r7 r8 fe ⊢
  refine (l2Get_low a1 (smallN false) c1 (by decide) l1 w2 A1 B1 hB1).mono ?_
  rintro e w2' ⟨rfl, hw2⟩
  subst hw2
  have st2 := st1.pput 7 (.int .i64 (numOf false l1)) (.int .i64 4) (.int .i64 0) (.int .i64 0) (.int .i64 0) (.int .i64 0) (.slice none 0 0) (.slice none 0 0) (.int .i64 (numOf false l1)) (.string ⟨#[]⟩) rfl
  generalize hq : numOf false l1 = nx at st2 ⊢
  have HNX : Hid (numOf false l1 = nx) := hq
  clear hq st1 hB1 hy1
  go_wp2_with fail
  clear x0 x1 fx p0 p1 g0 g1 g2 r0 r1 r2 r3 r4 r5 r6 r7 r8 fe
  generalize w2'.setCell ⟨w.heap.size + 1 + 1, 7, none⟩ (.int .i64 nx) = w3 at st2 ⊢
  refine (l2Take_any L s1 1 (by omega) ta1 tn1 tc1 bad1 w3 A B st2.src (by have := st2.low; have := st2.lt; omega)).mono ?_
  rintro e v3 ⟨ta3, tn3, tc3, bad3, a3, c3, rfl, hs3, hx3, hb3⟩
  have su3 := st2.call hb3
  have hl3 := st2.lt
  obtain ⟨x0, x1⟩ := box_two2 su3.sb
  have fx := box_frozen su3.sb
  have st3 := su3.sput hs3
  have hy3 := (hx3.set ⟨w.heap.size + 1 + 1 + 1, 0, none⟩ (.slice ta3 tn3 tc3) (by show B ≤ w.heap.size + 1 + 1 + 1; omega) (by show w.heap.size + 1 + 1 + 1 < _; omega)).set ⟨w.heap.size + 1 + 1 + 1, 1, none⟩ (.bool bad3) (by show B ≤ w.heap.size + 1 + 1 + 1; omega) (by show w.heap.size + 1 + 1 + 1 < _; omega)
  have hlen3 := sTake_len L s1 1
  generalize hq : (sTake L s1 1).1 = s3 at st3
  have HS3 : Hid ((sTake L s1 1).1 = s3) := hq
  clear hq
  generalize hq : (sTake L s1 1).2 = l3 at hy3 hlen3
  have HL3 : Hid ((sTake L s1 1).2 = l3) := hq
  clear hq su3 hx3 hs3 hb3 st2
  obtain ⟨p0, p1⟩ := box_two2 st3.sb
  obtain ⟨g0, g1, g2⟩ := box_form st3.fb
  obtain ⟨r5, r6, r0, r2, r3, r4, r7, r8, r1⟩ := box_slice st3.pb
  have fe := box_frozen st3.pb
  obtain ⟨b3, o3, rfl, hc3, hc3a, hc3b⟩ := hy3.byte (by omega)
  obtain ⟨n3, hn3⟩ : ∃ n3 : Nat, l3.getD 0 0 = (n3 : Int) := ⟨(l3.getD 0 0).toNat, by omega⟩
  have hn3l : n3 ≤ 255 := by omega
  have HN3 : Hid ((l3.getD 0 0).toNat = n3) := by show _ = _; rw [hn3]; simp
  rw [hn3] at hc3
  clear hn3 hc3a hc3b
  go_wp2_with fail
  clear x0 x1 fx g0 g1 g2 r0 r1 r2 r3 r4 r5 r6 r7 r8 fe
  generalize (v3.setCell ⟨w.heap.size + 1 + 1 + 1, 0, none⟩ (.slice ta3 tn3 tc3)).setCell ⟨w.heap.size + 1 + 1 + 1, 1, none⟩ (.bool bad3) = w4 at st3 hc3 p0 p1 ⊢
  have hl5 := st3.lt
  have hw3 : IntKind.i64.wrap (n3 : Int) = (n3 : Int) := by rw [IntKind.wrap_i64]; omega
  go_region_with (go_at_call 83; refine (l2Take_any L s3 n3 hn3l ta3 tn3 tc3 bad3 w4.drew A B st3.drew.src (Nat.le_trans hBw st3.drew.bel.size)).mono ?_; rintro e v5 ⟨ta5, tn5, tc5, bad5, a5, c5, rfl, hs5, hx5, hb5⟩; have su5 := st3.drew.call hb5; obtain ⟨x0, x1⟩ := box_two2 su5.sb; have fx := box_frozen su5.sb)
  all_goals
    have st5 := su5.sput hs5
    have hy5 := (hx5.set ⟨w.heap.size + 1 + 1 + 1, 0, none⟩ (.slice ta5 tn5 tc5) (by show B ≤ w.heap.size + 1 + 1 + 1; omega) (by show w.heap.size + 1 + 1 + 1 < w4.heap.size; omega)).set ⟨w.heap.size + 1 + 1 + 1, 1, none⟩ (.bool bad5) (by show B ≤ w.heap.size + 1 + 1 + 1; omega) (by show w.heap.size + 1 + 1 + 1 < w4.heap.size; omega)
    generalize hq : (sTake L s3 n3).1 = s5 at st5
    have HS5 : Hid ((sTake L s3 n3).1 = s5) := hq
    clear hq
    generalize hq : (sTake L s3 n3).2 = l5 at hy5
    have HL5 : Hid ((sTake L s3 n3).2 = l5) := hq
    clear hq su5 hx5 hs5 hb5 st3 p0 p1 hc3 hy3
    obtain ⟨p0, p1⟩ := box_two2 st5.sb
    obtain ⟨r5, r6, r0, r2, r3, r4, r7, r8, r1⟩ := box_slice st5.pb
    have fe := box_frozen st5.pb
    obtain ⟨A5, B5, hB5⟩ := hy5.ex
    have hcv5 := str_conv hB5
    generalize hq : toB l5 = val at hcv5
    have HV : Hid (toB l5 = val) := hq
    clear hq
    go_wp2_with fail
    have st6 := st5.pput 8 (.string val) (.int .i64 4) (.int .i64 0) (.int .i64 0) (.int .i64 0) (.int .i64 0) (.slice none 0 0) (.slice none 0 0) (.int .i64 nx) (.string val) rfl
    clear x0 x1 fx p0 p1 r0 r1 r2 r3 r4 r5 r6 r7 r8 fe
    clear st5 hy5 hB5 hcv5
    generalize ((v5.setCell ⟨w.heap.size + 1 + 1 + 1, 0, none⟩ (.slice ta5 tn5 tc5)).setCell ⟨w.heap.size + 1 + 1 + 1, 1, none⟩ (.bool bad5)).setCell ⟨w.heap.size + 1 + 1, 8, none⟩ (.string val) = w6 at st6 ⊢
    have HE : Hid (sOver L = (s5, nx, val)) := by
      show _ = _
      simp only [sOver, HS1.out, HL1.out, HS3.out, HL3.out, HN3.out, HS5.out, HL5.out, HNX.out, HV.out]
    obtain ⟨p0, p1⟩ := box_two2 st6.sb
    obtain ⟨r5, r6, r0, r2, r3, r4, r7, r8, r1⟩ := box_slice st6.pb
    have fr := box_frozen st6.rb
    obtain ⟨y5, y6, y0, y2, y3, y4, y7, y8, y1⟩ := box_slice st6.rb
    go_region_held3 (fun w' => w'.cell? ⟨w.heap.size + 1 + 1 + 1, 1, none⟩ = some (.bool bad5) ∧ w'.cell? ⟨w.heap.size + 1 + 1, 0, none⟩ = some (.int .i64 4) ∧ w'.cell? ⟨w.heap.size + 1 + 1, 1, none⟩ = some (.int .i64 0) ∧ w'.cell? ⟨w.heap.size + 1 + 1, 2, none⟩ = some (.int .i64 0) ∧ w'.cell? ⟨w.heap.size + 1 + 1, 3, none⟩ = some (.int .i64 0) ∧ w'.cell? ⟨w.heap.size + 1 + 1, 4, none⟩ = some (.int .i64 0) ∧ w'.cell? ⟨w.heap.size + 1 + 1, 5, none⟩ = some (.slice none 0 0) ∧ w'.cell? ⟨w.heap.size + 1 + 1, 6, none⟩ = some (.slice none 0 0) ∧ w'.cell? ⟨w.heap.size + 1 + 1, 7, none⟩ = some (.int .i64 nx) ∧ w'.cell? ⟨w.heap.size + 1 + 1, 8, none⟩ = some (.string val)) (go_keep) (fail)
    all_goals
      go_wp2
      show bodyPost _ _ _ _ _ (put9 w6 (w.heap.size + 1) (.int .i64 4) (.int .i64 0) (.int .i64 0) (.int .i64 0) (.int .i64 0) (.slice none 0 0) (.slice none 0 0) (.int .i64 nx) (.string val)).drew
      clear r0 r1 r2 r3 r4 r5 r6 r7 r8 y0 y1 y2 y3 y4 y5 y6 y7 y8
      obtain ⟨r5, r6, r0, r2, r3, r4, r7, r8, r1⟩ := box_slice (w := (put9 w6 (w.heap.size + 1) (.int .i64 4) (.int .i64 0) (.int .i64 0) (.int .i64 0) (.int .i64 0) (.slice none 0 0) (.slice none 0 0) (.int .i64 nx) (.string val)).drew) (N := w.heap.size + 1) ((drew_heap _ _).trans (put9_box st6.rb (.int .i64 4) (.int .i64 0) (.int .i64 0) (.int .i64 0) (.int .i64 0) (.slice none 0 0) (.slice none 0 0) (.int .i64 nx) (.string val)))
      have hbe : Below w.heap.size w (put9 w6 (w.heap.size + 1) (.int .i64 4) (.int .i64 0) (.int .i64 0) (.int .i64 0) (.int .i64 0) (.slice none 0 0) (.slice none 0 0) (.int .i64 nx) (.string val)).drew := (st6.bel.trans ((put9_fr w6 (w.heap.size + 1) (.int .i64 4) (.int .i64 0) (.int .i64 0) (.int .i64 0) (.int .i64 0) (.slice none 0 0) (.slice none 0 0) (.int .i64 nx) (.string val)).below st6.bel.size (fun g e => by omega))).drew
      have hbd := SrcAt.badly st6.src
      refine bodyPost_ret (v := .tuple #[.agg #[.int .i64 4, .int .i64 0, .int .i64 0, .int .i64 0, .int .i64 0, .slice none 0 0, .slice none 0 0, .int .i64 nx, .string val], .bool (!bad5)]) (by simp [results, Try.results49, go_sem, r0, r1, r2, r3, r4, r5, r6, r7, r8]) rfl ?_
      rw [HE.out, hbd]
      exact ⟨rfl, hbe⟩
end New
end Go.Proofs.Ytcmhobbpeaeebaa
