import Derived.Test.YtcmhobbpeaeebaaGBF
namespace Go.Proofs.Ytcmhobbpeaeebaa
namespace Old
open Go.RowKit
set_option linter.unusedVariables false
set_option maxRecDepth 100000

/-- The state inside l2ReadBody. -/
structure BS (w : World) (L : List Int) (A B : Nat) (w' : World) (s : Option Nat) (sa : Option Addr) (sn sc : Nat) (bad : Bool) (p0 p1 p2 p3 p4 p5 p6 p7 p8 : Value) : Prop where
  fb : w'.heap[w.heap.size]? = some (.cells #[.bool true, .int .i64 (smallN true), .bool true] 63)
  rb : w'.heap[w.heap.size + 1]? = some (.cells #[.int .i64 0, .int .i64 0, .int .i64 0, .int .i64 0, .int .i64 0, .slice none 0 0, .slice none 0 0, .int .i64 0, .string ⟨#[]⟩] 28)
  pb : w'.heap[w.heap.size + 1 + 1]? = some (.cells #[p0, p1, p2, p3, p4, p5, p6, p7, p8] 28)
  sb : w'.heap[w.heap.size + 1 + 1 + 1]? = some (.cells #[.slice sa sn sc, .bool bad] 119)
  src : SrcAt w' A B L sa sn sc bad s
  bel : Below w.heap.size w w'
  low : B ≤ w.heap.size
theorem SrcAt.badly {w : World} {A B : Nat} {L : List Int} {a : Option Addr} {n c : Nat} {bad : Bool} {s : Option Nat} (h : SrcAt w A B L a n c bad s) : (!bad) = s.isSome := by
  cases s with
  | none => obtain ⟨rfl, _⟩ := h; rfl
  | some k => obtain ⟨_, rfl, _⟩ := h; rfl
section
variable {w w' w'' : World} {L : List Int} {A B : Nat} {s s' : Option Nat} {sa ta : Option Addr} {sn sc tn tc : Nat} {bad bad' : Bool} {p0 p1 p2 p3 p4 p5 p6 p7 p8 : Value}
theorem BS.lt (h : BS w L A B w' s sa sn sc bad p0 p1 p2 p3 p4 p5 p6 p7 p8) : w.heap.size + 3 < w'.heap.size := (Array.getElem?_eq_some_iff.1 h.sb).1
theorem BS.keepS {S : Nat → Prop} (h : BS w L A B w' s sa sn sc bad p0 p1 p2 p3 p4 p5 p6 p7 p8) (hf : Fr S w' w'') (h0 : ∀ x, S x → w.heap.size + 3 < x) : BS w L A B w'' s sa sn sc bad p0 p1 p2 p3 p4 p5 p6 p7 p8 := by
  have hl := h.lt
  have k : ∀ x, x ≤ w.heap.size + 3 → w''.heap[x]? = w'.heap[x]? := fun x hx => hf.block x (by omega) (fun hs => by have := h0 x hs; omega)
  exact ⟨(k _ (by omega)).trans h.fb, (k _ (by omega)).trans h.rb, (k _ (by omega)).trans h.pb, (k _ (by omega)).trans h.sb, h.src.keep (fun x k1 k2 => k x (by have := h.low; omega)), h.bel.trans (hf.below (by omega) (fun g hs => by have := h0 g hs; omega)), h.low⟩
theorem BS.call (h : BS w L A B w' s sa sn sc bad p0 p1 p2 p3 p4 p5 p6 p7 p8) (hb : Below w'.heap.size w' w'') : BS w L A B w'' s sa sn sc bad p0 p1 p2 p3 p4 p5 p6 p7 p8 := h.keepS (Fr.of_below (S := fun _ => False) hb) (fun _ h => h.elim)
theorem BS.sput (h : BS w L A B w' s sa sn sc bad p0 p1 p2 p3 p4 p5 p6 p7 p8) (hs : SrcAt w' A B L ta tn tc bad' s') : BS w L A B ((w'.setCell ⟨w.heap.size + 1 + 1 + 1, 0, none⟩ (.slice ta tn tc)).setCell ⟨w.heap.size + 1 + 1 + 1, 1, none⟩ (.bool bad')) s' ta tn tc bad' p0 p1 p2 p3 p4 p5 p6 p7 p8 := by
  have k : ∀ x, x ≠ w.heap.size + 1 + 1 + 1 → ((w'.setCell ⟨w.heap.size + 1 + 1 + 1, 0, none⟩ (.slice ta tn tc)).setCell ⟨w.heap.size + 1 + 1 + 1, 1, none⟩ (.bool bad')).heap[x]? = w'.heap[x]? := fun x hx => (Below.heap_setCell _ ⟨w.heap.size + 1 + 1 + 1, 1, none⟩ _ x hx).trans (Below.heap_setCell _ ⟨w.heap.size + 1 + 1 + 1, 0, none⟩ _ x hx)
  refine ⟨(k _ (by omega)).trans h.fb, (k _ (by omega)).trans h.rb, (k _ (by omega)).trans h.pb, ?_, hs.keep (fun x k1 k2 => k x (by have := h.low; omega)), (h.bel.setCell (p := ⟨w.heap.size + 1 + 1 + 1, 0, none⟩) (by show w.heap.size ≤ w.heap.size + 1 + 1 + 1; omega) _).setCell (p := ⟨w.heap.size + 1 + 1 + 1, 1, none⟩) (by show w.heap.size ≤ w.heap.size + 1 + 1 + 1; omega) _, h.low⟩
  simp [World.setCell, Array.getElem?_modify, h.sb]
theorem BS.pput (h : BS w L A B w' s sa sn sc bad p0 p1 p2 p3 p4 p5 p6 p7 p8) (i : Nat) (v : Value) (q0 q1 q2 q3 q4 q5 q6 q7 q8 : Value) (hf : (#[p0, p1, p2, p3, p4, p5, p6, p7, p8] : Array Value).setIfInBounds i v = #[q0, q1, q2, q3, q4, q5, q6, q7, q8]) : BS w L A B (w'.setCell ⟨w.heap.size + 1 + 1, i, none⟩ v) s sa sn sc bad q0 q1 q2 q3 q4 q5 q6 q7 q8 := by
  have k : ∀ x, x ≠ w.heap.size + 1 + 1 → (w'.setCell ⟨w.heap.size + 1 + 1, i, none⟩ v).heap[x]? = w'.heap[x]? := fun x hx => Below.heap_setCell _ ⟨w.heap.size + 1 + 1, i, none⟩ _ x hx
  refine ⟨(k _ (by omega)).trans h.fb, (k _ (by omega)).trans h.rb, ?_, (k _ (by omega)).trans h.sb, h.src.keep (fun x k1 k2 => k x (by have := h.low; omega)), h.bel.setCell (p := ⟨w.heap.size + 1 + 1, i, none⟩) (by show w.heap.size ≤ w.heap.size + 1 + 1; omega) _, h.low⟩
  rw [← hf]
  simp [World.setCell, Array.getElem?_modify, h.pb]
theorem BS.drew (h : BS w L A B w' s sa sn sc bad p0 p1 p2 p3 p4 p5 p6 p7 p8) : BS w L A B w'.drew s sa sn sc bad p0 p1 p2 p3 p4 p5 p6 p7 p8 := h.call (Below.refl _ _).drew
end
theorem five_new (w : World) (o0 o1 o2 o3 o4 : Obj) : ((((w.alloc o0).alloc o1).alloc o2).alloc o3 |>.alloc o4).heap[w.heap.size]? = some o0 ∧ ((((w.alloc o0).alloc o1).alloc o2).alloc o3 |>.alloc o4).heap[w.heap.size + 1]? = some o1 ∧ ((((w.alloc o0).alloc o1).alloc o2).alloc o3 |>.alloc o4).heap[w.heap.size + 1 + 1]? = some o2 ∧ ((((w.alloc o0).alloc o1).alloc o2).alloc o3 |>.alloc o4).heap[w.heap.size + 1 + 1 + 1]? = some o3 ∧ Below w.heap.size w ((((w.alloc o0).alloc o1).alloc o2).alloc o3 |>.alloc o4) := by
  have s1 : (w.alloc o0).heap.size = w.heap.size + 1 := by simp
  have s2 : ((w.alloc o0).alloc o1).heap.size = w.heap.size + 1 + 1 := by simp
  have s3 : (((w.alloc o0).alloc o1).alloc o2).heap.size = w.heap.size + 1 + 1 + 1 := by simp
  have s4 : ((((w.alloc o0).alloc o1).alloc o2).alloc o3).heap.size = w.heap.size + 1 + 1 + 1 + 1 := by simp
  have up : ∀ (v : World) (o : Obj) (k : Nat), k < v.heap.size → (v.alloc o).heap[k]? = v.heap[k]? := fun v o k hk => ((Below.refl _ _).alloc (Nat.le_refl _) _).block k hk
  have n0 := heap_alloc_new w o0
  have n1 := heap_alloc_new (w.alloc o0) o1
  have n2 := heap_alloc_new ((w.alloc o0).alloc o1) o2
  have n3 := heap_alloc_new (((w.alloc o0).alloc o1).alloc o2) o3
  rw [s1] at n1
  rw [s2] at n2
  rw [s3] at n3
  refine ⟨?_, ?_, ?_, ?_, ?_⟩
  · rw [up _ _ _ (by rw [s4]; omega), up _ _ _ (by rw [s3]; omega), up _ _ _ (by rw [s2]; omega), up _ _ _ (by rw [s1]; omega)]; exact n0
  · rw [up _ _ _ (by rw [s4]; omega), up _ _ _ (by rw [s3]; omega), up _ _ _ (by rw [s2]; omega)]; exact n1
  · rw [up _ _ _ (by rw [s4]; omega), up _ _ _ (by rw [s3]; omega)]; exact n2
  · rw [up _ _ _ (by rw [s4]; omega)]; exact n3
  · exact (((((Below.refl _ _).alloc (Nat.le_refl _) _).alloc (by rw [s1]; omega) _).alloc (by rw [s2]; omega) _).alloc (by rw [s3]; omega) _).alloc (by rw [s4]; omega) _
/-- The state as the body's reading begins. -/
theorem bs_start (kind : Int) (L : List Int) (a : Option Addr) (c : Nat) (w : World) (A B : Nat) (hB : BytesAt w A B a L.length c L) (hBw : B ≤ w.heap.size) : BS w L A B (((((w.alloc (.cells #[.bool true, .int .i64 (smallN true), .bool true] 63)).alloc (.cells #[.int .i64 0, .int .i64 0, .int .i64 0, .int .i64 0, .int .i64 0, .slice none 0 0, .slice none 0 0, .int .i64 0, .string ⟨#[]⟩] 28)).alloc (.cells #[.int .i64 kind, .int .i64 0, .int .i64 0, .int .i64 0, .int .i64 0, .slice none 0 0, .slice none 0 0, .int .i64 0, .string ⟨#[]⟩] 28)).alloc (.cells #[.slice a L.length c, .bool false] 119)).alloc (.cells #[] 5)) (some 0) a L.length c false (.int .i64 kind) (.int .i64 0) (.int .i64 0) (.int .i64 0) (.int .i64 0) (.slice none 0 0) (.slice none 0 0) (.int .i64 0) (.string ⟨#[]⟩) := by
  obtain ⟨z0, z1, z2, z3, hb⟩ := five_new w (.cells #[.bool true, .int .i64 (smallN true), .bool true] 63) (.cells #[.int .i64 0, .int .i64 0, .int .i64 0, .int .i64 0, .int .i64 0, .slice none 0 0, .slice none 0 0, .int .i64 0, .string ⟨#[]⟩] 28) (.cells #[.int .i64 kind, .int .i64 0, .int .i64 0, .int .i64 0, .int .i64 0, .slice none 0 0, .slice none 0 0, .int .i64 0, .string ⟨#[]⟩] 28) (.cells #[.slice a L.length c, .bool false] 119) (.cells #[] 5)
  refine ⟨z0, z1, z2, z3, ⟨Nat.zero_le _, rfl, rfl, ?_⟩, hb, hBw⟩
  have := hB.below (hb.mono hBw)
  simpa using this
/-- What the specification reads of an overflow page. -/
def sOver (L : List Int) : Option Nat × Int × ByteArray :=
  ((sTake L (sTake L (sTake L (some 0) (smallN true)).1 1).1 ((sTake L (sTake L (some 0) (smallN true)).1 1).2.getD 0 0).toNat).1, numOf true (sTake L (some 0) (smallN true)).2,
    toB (sTake L (sTake L (sTake L (some 0) (smallN true)).1 1).1 ((sTake L (sTake L (some 0) (smallN true)).1 1).2.getD 0 0).toNat).2)
set_option maxHeartbeats 3200000 in
theorem l2ReadBody_over (L : List Int) (n : Int) (a : Option Addr) (c : Nat) (w : World) (A B : Nat) (hB : BytesAt w A B a L.length c L) (hBw : B ≤ w.heap.size) :
    Calls Try.prog 49 #[.int .i64 4, .int .i64 n, .slice a L.length c, .agg #[.bool true, .int .i64 (smallN true), .bool true]] w fun e w' => e = .returned (.tuple #[.agg #[.int .i64 4, .int .i64 0, .int .i64 0, .int .i64 0, .int .i64 0, .slice none 0 0, .slice none 0 0, .int .i64 (sOver L).2.1, .string (sOver L).2.2], .bool (sOver L).1.isSome]) ∧ Below w.heap.size w w' := by
  go_enter Try.func49, Try.ntmps49
  go_wp2_with fail
  have st0 := bs_start 4 L a c w A B hB hBw
  generalize (((((w.alloc (.cells #[.bool true, .int .i64 (smallN true), .bool true] 63)).alloc (.cells #[.int .i64 0, .int .i64 0, .int .i64 0, .int .i64 0, .int .i64 0, .slice none 0 0, .slice none 0 0, .int .i64 0, .string ⟨#[]⟩] 28)).alloc (.cells #[.int .i64 4, .int .i64 0, .int .i64 0, .int .i64 0, .int .i64 0, .slice none 0 0, .slice none 0 0, .int .i64 0, .string ⟨#[]⟩] 28)).alloc (.cells #[.slice a L.length c, .bool false] 119)).alloc (.cells #[] 5)) = w0 at st0 ⊢
  refine (l2Take_any L (some 0) (smallN true) (by decide) a L.length c false w0 A B st0.src (by have := st0.low; have := st0.lt; omega)).mono ?_
  rintro e v1 ⟨ta1, tn1, tc1, bad1, a1, c1, rfl, hs1, hx1, hb1⟩
  have su1 := st0.call hb1
  have hl1 := st0.lt
  obtain ⟨x0, x1⟩ := box_two2 su1.sb
  have fx := box_frozen su1.sb
  have st1 := su1.sput hs1
  have hy1 := (hx1.set ⟨w.heap.size + 1 + 1 + 1, 0, none⟩ (.slice ta1 tn1 tc1) (by show B ≤ w.heap.size + 1 + 1 + 1; omega) (by show w.heap.size + 1 + 1 + 1 < _; omega)).set ⟨w.heap.size + 1 + 1 + 1, 1, none⟩ (.bool bad1) (by show B ≤ w.heap.size + 1 + 1 + 1; omega) (by show w.heap.size + 1 + 1 + 1 < _; omega)
  have hlen1 := sTake_len L (some 0) (smallN true)
  generalize hq : (sTake L (some 0) (smallN true)).1 = s1 at st1
  have HS1 : Hid ((sTake L (some 0) (smallN true)).1 = s1) := hq
  clear hq
  generalize hq : (sTake L (some 0) (smallN true)).2 = l1 at hy1 hlen1
  have HL1 : Hid ((sTake L (some 0) (smallN true)).2 = l1) := hq
  clear hq su1 hx1 hs1 hb1 st0
  obtain ⟨p0, p1⟩ := box_two2 st1.sb
  obtain ⟨g0, g1, g2⟩ := box_form st1.fb
  obtain ⟨r5, r6, r0, r2, r3, r4, r7, r8, r1⟩ := box_slice st1.pb
  have fe := box_frozen st1.pb
  obtain ⟨A1, B1, hB1⟩ := hy1.ex
  go_wp2_with fail
  generalize (v1.setCell ⟨w.heap.size + 1 + 1 + 1, 0, none⟩ (.slice ta1 tn1 tc1)).setCell ⟨w.heap.size + 1 + 1 + 1, 1, none⟩ (.bool bad1) = w2 at st1 hy1 hB1 p0 p1 g0 g1 g2 r0 r1 r2 r3 r4 r5 r6 r7 r8 fe ⊢
  refine (l2Get_high a1 (smallN true) c1 (by decide) l1 w2 A1 B1 hB1).mono ?_
  rintro e w2' ⟨rfl, hw2⟩
  subst hw2
  have st2 := st1.pput 7 (.int .i64 (numOf true l1)) (.int .i64 4) (.int .i64 0) (.int .i64 0) (.int .i64 0) (.int .i64 0) (.slice none 0 0) (.slice none 0 0) (.int .i64 (numOf true l1)) (.string ⟨#[]⟩) rfl
  generalize hq : numOf true l1 = nx at st2 ⊢
  have HNX : Hid (numOf true l1 = nx) := hq
  clear hq st1 hB1 hy1
  go_wp2_with fail
  clear x0 x1 fx p0 p1 g0 g1 g2 r0 r1 r2 r3 r4 r5 r6 r7 r8 fe
  generalize w2'.setCell ⟨w.heap.size + 1 + 1, 7, none⟩ (.int .i64 nx) = w3 at st2 ⊢
  refine (l2Take_any L s1 1 (by omega) ta1 tn1 tc1 bad1 w3 A B st2.src (by have := st2.low; have := st2.lt; omega)).mono ?_
  rintro e v3 ⟨ta3, tn3, tc3, bad3, a3, c3, rfl, hs3, hx3, hb3⟩
  have su3 := st2.call hb3
  have hl3 := st2.lt
  obtain ⟨x0, x1⟩ := box_two2 su3.sb
  have fx := box_frozen su3.sb
  have st3 := su3.sput hs3
  have hy3 := (hx3.set ⟨w.heap.size + 1 + 1 + 1, 0, none⟩ (.slice ta3 tn3 tc3) (by show B ≤ w.heap.size + 1 + 1 + 1; omega) (by show w.heap.size + 1 + 1 + 1 < _; omega)).set ⟨w.heap.size + 1 + 1 + 1, 1, none⟩ (.bool bad3) (by show B ≤ w.heap.size + 1 + 1 + 1; omega) (by show w.heap.size + 1 + 1 + 1 < _; omega)
  have hlen3 := sTake_len L s1 1
  generalize hq : (sTake L s1 1).1 = s3 at st3
  have HS3 : Hid ((sTake L s1 1).1 = s3) := hq
  clear hq
  generalize hq : (sTake L s1 1).2 = l3 at hy3 hlen3
  have HL3 : Hid ((sTake L s1 1).2 = l3) := hq
  clear hq su3 hx3 hs3 hb3 st2
  obtain ⟨p0, p1⟩ := box_two2 st3.sb
  obtain ⟨g0, g1, g2⟩ := box_form st3.fb
  obtain ⟨r5, r6, r0, r2, r3, r4, r7, r8, r1⟩ := box_slice st3.pb
  have fe := box_frozen st3.pb
  obtain ⟨b3, o3, rfl, hc3, hc3a, hc3b⟩ := hy3.byte (by omega)
  obtain ⟨n3, hn3⟩ : ∃ n3 : Nat, l3.getD 0 0 = (n3 : Int) := ⟨(l3.getD 0 0).toNat, by omega⟩
  have hn3l : n3 ≤ 255 := by omega
  have HN3 : Hid ((l3.getD 0 0).toNat = n3) := by show _ = _; rw [hn3]; simp
  rw [hn3] at hc3
  clear hn3 hc3a hc3b
  go_wp2_with fail
  clear x0 x1 fx g0 g1 g2 r0 r1 r2 r3 r4 r5 r6 r7 r8 fe
  generalize (v3.setCell ⟨w.heap.size + 1 + 1 + 1, 0, none⟩ (.slice ta3 tn3 tc3)).setCell ⟨w.heap.size + 1 + 1 + 1, 1, none⟩ (.bool bad3) = w4 at st3 hc3 p0 p1 ⊢
  have hl5 := st3.lt
  have hw3 : IntKind.i64.wrap (n3 : Int) = (n3 : Int) := by rw [IntKind.wrap_i64]; omega
  go_region_with (go_at_call 83; refine (l2Take_any L s3 n3 hn3l ta3 tn3 tc3 bad3 w4.drew A B st3.drew.src (Nat.le_trans hBw st3.drew.bel.size)).mono ?_; rintro e v5 ⟨ta5, tn5, tc5, bad5, a5, c5, rfl, hs5, hx5, hb5⟩; have su5 := st3.drew.call hb5; obtain ⟨x0, x1⟩ := box_two2 su5.sb; have fx := box_frozen su5.sb)
  all_goals
    have st5 := su5.sput hs5
    have hy5 := (hx5.set ⟨w.heap.size + 1 + 1 + 1, 0, none⟩ (.slice ta5 tn5 tc5) (by show B ≤ w.heap.size + 1 + 1 + 1; omega) (by show w.heap.size + 1 + 1 + 1 < w4.heap.size; omega)).set ⟨w.heap.size + 1 + 1 + 1, 1, none⟩ (.bool bad5) (by show B ≤ w.heap.size + 1 + 1 + 1; omega) (by show w.heap.size + 1 + 1 + 1 < w4.heap.size; omega)
    generalize hq : (sTake L s3 n3).1 = s5 at st5
    have HS5 : Hid ((sTake L s3 n3).1 = s5) := hq
    clear hq
    generalize hq : (sTake L s3 n3).2 = l5 at hy5
    have HL5 : Hid ((sTake L s3 n3).2 = l5) := hq
    clear hq su5 hx5 hs5 hb5 st3 p0 p1 hc3 hy3
    obtain ⟨p0, p1⟩ := box_two2 st5.sb
    obtain ⟨r5, r6, r0, r2, r3, r4, r7, r8, r1⟩ := box_slice st5.pb
    have fe := box_frozen st5.pb
    obtain ⟨A5, B5, hB5⟩ := hy5.ex
    have hcv5 := str_conv hB5
    generalize hq : toB l5 = val at hcv5
    have HV : Hid (toB l5 = val) := hq
    clear hq
    go_wp2_with fail
    have st6 := st5.pput 8 (.string val) (.int .i64 4) (.int .i64 0) (.int .i64 0) (.int .i64 0) (.int .i64 0) (.slice none 0 0) (.slice none 0 0) (.int .i64 nx) (.string val) rfl
    clear x0 x1 fx p0 p1 r0 r1 r2 r3 r4 r5 r6 r7 r8 fe
    clear st5 hy5 hB5 hcv5
    generalize ((v5.setCell ⟨w.heap.size + 1 + 1 + 1, 0, none⟩ (.slice ta5 tn5 tc5)).setCell ⟨w.heap.size + 1 + 1 + 1, 1, none⟩ (.bool bad5)).setCell ⟨w.heap.size + 1 + 1, 8, none⟩ (.string val) = w6 at st6 ⊢
    have HE : Hid (sOver L = (s5, nx, val)) := by
      show _ = _
      simp only [sOver, HS1.out, HL1.out, HS3.out, HL3.out, HN3.out, HS5.out, HL5.out, HNX.out, HV.out]
    obtain ⟨p0, p1⟩ := box_two2 st6.sb
    obtain ⟨r5, r6, r0, r2, r3, r4, r7, r8, r1⟩ := box_slice st6.pb
    have fr := box_frozen st6.rb
    obtain ⟨y5, y6, y0, y2, y3, y4, y7, y8, y1⟩ := box_slice st6.rb
    go_region_held3 (fun w' => w'.cell? ⟨w.heap.size + 1 + 1 + 1, 1, none⟩ = some (.bool bad5) ∧ w'.cell? ⟨w.heap.size + 1 + 1, 0, none⟩ = some (.int .i64 4) ∧ w'.cell? ⟨w.heap.size + 1 + 1, 1, none⟩ = some (.int .i64 0) ∧ w'.cell? ⟨w.heap.size + 1 + 1, 2, none⟩ = some (.int .i64 0) ∧ w'.cell? ⟨w.heap.size + 1 + 1, 3, none⟩ = some (.int .i64 0) ∧ w'.cell? ⟨w.heap.size + 1 + 1, 4, none⟩ = some (.int .i64 0) ∧ w'.cell? ⟨w.heap.size + 1 + 1, 5, none⟩ = some (.slice none 0 0) ∧ w'.cell? ⟨w.heap.size + 1 + 1, 6, none⟩ = some (.slice none 0 0) ∧ w'.cell? ⟨w.heap.size + 1 + 1, 7, none⟩ = some (.int .i64 nx) ∧ w'.cell? ⟨w.heap.size + 1 + 1, 8, none⟩ = some (.string val)) (go_keep) (fail)
    all_goals
      go_wp2
      show bodyPost _ _ _ _ _ (put9 w6 (w.heap.size + 1) (.int .i64 4) (.int .i64 0) (.int .i64 0) (.int .i64 0) (.int .i64 0) (.slice none 0 0) (.slice none 0 0) (.int .i64 nx) (.string val)).drew
      clear r0 r1 r2 r3 r4 r5 r6 r7 r8 y0 y1 y2 y3 y4 y5 y6 y7 y8
      obtain ⟨r5, r6, r0, r2, r3, r4, r7, r8, r1⟩ := box_slice (w := (put9 w6 (w.heap.size + 1) (.int .i64 4) (.int .i64 0) (.int .i64 0) (.int .i64 0) (.int .i64 0) (.slice none 0 0) (.slice none 0 0) (.int .i64 nx) (.string val)).drew) (N := w.heap.size + 1) ((drew_heap _ _).trans (put9_box st6.rb (.int .i64 4) (.int .i64 0) (.int .i64 0) (.int .i64 0) (.int .i64 0) (.slice none 0 0) (.slice none 0 0) (.int .i64 nx) (.string val)))
      have hbe : Below w.heap.size w (put9 w6 (w.heap.size + 1) (.int .i64 4) (.int .i64 0) (.int .i64 0) (.int .i64 0) (.int .i64 0) (.slice none 0 0) (.slice none 0 0) (.int .i64 nx) (.string val)).drew := (st6.bel.trans ((put9_fr w6 (w.heap.size + 1) (.int .i64 4) (.int .i64 0) (.int .i64 0) (.int .i64 0) (.int .i64 0) (.slice none 0 0) (.slice none 0 0) (.int .i64 nx) (.string val)).below st6.bel.size (fun g e => by omega))).drew
      have hbd := SrcAt.badly st6.src
      refine bodyPost_ret (v := .tuple #[.agg #[.int .i64 4, .int .i64 0, .int .i64 0, .int .i64 0, .int .i64 0, .slice none 0 0, .slice none 0 0, .int .i64 nx, .string val], .bool (!bad5)]) (by simp [results, Try.results49, go_sem, r0, r1, r2, r3, r4, r5, r6, r7, r8]) rfl ?_
      rw [HE.out, hbd]
      exact ⟨rfl, hbe⟩
end Old
end Go.Proofs.Ytcmhobbpeaeebaa
namespace Go.Proofs.Ytcmhobbpeaeebaa
namespace Old
open Go.RowKit
set_option linter.unusedVariables false
set_option maxRecDepth 100000

def sEnts (L : List Int) : Nat → Option Nat × List PE
  | 0 => (some 0, [])
  | i + 1 => ((sEnt L (sEnts L i).1).1, (sEnts L i).2 ++ [(sEnt L (sEnts L i).1).2])
/-- append(v, entry). -/
theorem wpList_ent {w : World} {ops : Array Oper} {rest : List Oper} {o : Oper} {a : Act} {Q : Exit → Act → World → Prop} (hgd : o.guard = none) (s x : Operand)
    (ho : o.op = .call { callee := .builtin .append, args := #[s, x], argTypes := #[26, 26] })
    (base : Nat) (v : Value) (n : Nat) (xs : List Value) (hs : a.eval s = v) (hown : w.ownsRow base 102 4 v n xs)
    (g : Nat) (u1 u2 : ByteArray) (u3 u4 : Int) (hx : a.eval x = .slice (some ⟨g, 0, none⟩) 1 1) (hg : w.heap[g]? = some (.cells #[.string u1, .string u2, .int .i64 u3, .int .i64 u4] 102)) (hn : n ≤ 1000000) (hbase : base ≤ w.heap.size)
    (h : ∀ v' w', w'.ownsRow base 102 4 v' (n + 1) (xs ++ entCells (u1, u2, u3, u4)) → w.grownBy w' v.ownBlock → wpList Try.prog ops Q rest (a.put o.dst v') w') : wpList Try.prog ops Q (o :: rest) a w := by
  obtain ⟨i0, hi, hz0, hz1, hz2⟩ := info_parts info_Ent
  refine wpList_append_own w hgd s x 26 ho base 102 i0 _ 4 48 Try.underlying26 hi hz0 hz1 hz2 rfl (by decide) v n xs hs hown ⟨g, 0, none⟩ 1 1 (entCells (u1, u2, u3, u4)) hx rfl ?_ ?_ (by unfold maxLen; omega) (by omega) hbase ?_
  · intro j u hj
    have e : (⟨g, 0, none⟩ : Addr).add j = ⟨g, j, none⟩ := by simp [Addr.add]; omega
    rw [e]
    rcases j with _ | _ | _ | _ | j
    all_goals first
      | (simp [entCells] at hj; done)
      | (simp [entCells] at hj; subst hj; simp [World.cell?, hg])
  · intro u hu; simp [entCells] at hu; rcases hu with rfl | rfl | rfl | rfl <;> rfl
  · intro v' w' h1 h2 _
    exact h v' w' h1 h2
def put4 (w : World) (K : Nat) (u0 u1 u2 u3 : Value) : World := (((w.setCell ⟨K, 0, none⟩ u0).setCell ⟨K, 1, none⟩ u1).setCell ⟨K, 2, none⟩ u2).setCell ⟨K, 3, none⟩ u3
theorem put4_fr (w : World) (K : Nat) (u0 u1 u2 u3 : Value) : Fr (fun x => x = K) w (put4 w K u0 u1 u2 u3) := (((set_fr _ _ _ _).trans (set_fr _ _ _ _)).trans (set_fr _ _ _ _)).trans (set_fr _ _ _ _)
set_option maxHeartbeats 3200000 in
theorem l2ReadBody_leaf (L : List Int) (n : Nat) (hn : n ≤ 255) (a : Option Addr) (c : Nat) (w : World) (A B : Nat) (hB : BytesAt w A B a L.length c L) (hBw : B ≤ w.heap.size) :
    Calls Try.prog 49 #[.int .i64 3, .int .i64 n, .slice a L.length c, .agg #[.bool true, .int .i64 (smallN true), .bool true]] w fun e w' => ∃ va vc, e = .returned (.tuple #[.agg #[.int .i64 3, .int .i64 0, .int .i64 0, .int .i64 0, .int .i64 0, .slice none 0 0, .slice va n vc, .int .i64 0, .string ⟨#[]⟩], .bool (sEnts L n).1.isSome]) ∧ w'.ownsRow w.heap.size 102 4 (.slice va n vc) n (rowsOf entCells (sEnts L n).2) ∧ Below w.heap.size w w' := by
  go_enter Try.func49, Try.ntmps49
  go_wp2_with fail
  have st0 := bs_start 3 L a c w A B hB hBw
  generalize (((((w.alloc (.cells #[.bool true, .int .i64 (smallN true), .bool true] 63)).alloc (.cells #[.int .i64 0, .int .i64 0, .int .i64 0, .int .i64 0, .int .i64 0, .slice none 0 0, .slice none 0 0, .int .i64 0, .string ⟨#[]⟩] 28)).alloc (.cells #[.int .i64 3, .int .i64 0, .int .i64 0, .int .i64 0, .int .i64 0, .slice none 0 0, .slice none 0 0, .int .i64 0, .string ⟨#[]⟩] 28)).alloc (.cells #[.slice a L.length c, .bool false] 119)).alloc (.cells #[] 5)) = w0 at st0 ⊢
  go_loopw [15] (fun iv wr => ∃ i : Nat, i ≤ n ∧ iv = .int .i64 i ∧ Hid (∃ sa sn sc bad va vc, BS w L A B wr (sEnts L i).1 sa sn sc bad (.int .i64 3) (.int .i64 0) (.int .i64 0) (.int .i64 0) (.int .i64 0) (.slice none 0 0) (.slice va i vc) (.int .i64 0) (.string ⟨#[]⟩) ∧ wr.ownsRow (w.heap.size + 4) 102 4 (.slice va i vc) i (rowsOf entCells (sEnts L i).2))) (fun iv _ => n - (intOf iv).toNat)
  case atStart => exact ⟨0, Nat.zero_le _, rfl, ⟨_, _, _, _, _, _, st0, World.ownsRow_nil _ _ _ _⟩⟩
  case round =>
    obtain ⟨i, hi, rfl, ⟨sa, sn, sc, bad, va, vc, st, hO⟩⟩ := hrel
    clear st0
    by_cases hlt : i < n
    · have hbK : Below wr.heap.size wr (wr.alloc (.cells #[.string ⟨#[]⟩, .string ⟨#[]⟩, .int .i64 0, .int .i64 0] 102)) := (Below.refl _ _).alloc (Nat.le_refl _) _
      have st1 := st.call hbK
      have hO1 := owns_below hO hbK
      have HK1 := heap_alloc_new wr (.cells #[.string ⟨#[]⟩, .string ⟨#[]⟩, .int .i64 0, .int .i64 0] 102)
      have hwl := st.lt
      have hS1 : wr.heap.size < (wr.alloc (.cells #[.string ⟨#[]⟩, .string ⟨#[]⟩, .int .i64 0, .int .i64 0] 102)).heap.size := by simp
      have hKO : ∀ g', (Value.slice va i vc).ownBlock = some g' → g' ≠ wr.heap.size := fun g' e e' => by have := (hO.lt g' e).2; omega
      obtain ⟨p0, p1⟩ := box_two2 st.sb
      obtain ⟨g0, g1, g2⟩ := box_form st.fb
      have ltN : w.heap.size + 1 + 1 + 1 < wr.heap.size := hwl
      have ltN0 : w.heap.size < wr.heap.size := by omega
      clear hbK hO
      generalize hs0 : (sEnts L i).1 = s0 at st st1
      have HS0 : Hid ((sEnts L i).1 = s0) := hs0
      clear hs0
      go_wp2_with fail
      generalize wr.alloc (.cells #[.string ⟨#[]⟩, .string ⟨#[]⟩, .int .i64 0, .int .i64 0] 102) = W1 at st1 hO1 HK1 hS1 ⊢
      generalize wr.heap.size = K at HK1 hS1 hKO hwl ltN ltN0 ⊢
      clear p0 p1 g0 g1 g2 st
      have HC := l2ReadEnt_any L s0 sa sn sc bad W1 A B st1.src (by have := st1.low; have := st1.lt; omega)
      have HSE : Hid (sEnts L (i + 1) = ((sEnt L s0).1, (sEnts L i).2 ++ [(sEnt L s0).2])) := by show sEnts L (i + 1) = _; rw [sEnts, HS0.out]
      generalize sEnt L s0 = se at HC HSE
      obtain ⟨s1, e1, e2, e3, e4⟩ := se
      dsimp only at HC HSE
      refine HC.mono ?_
      clear HC
      rintro e w2 ⟨ta, tn, tc, bad2, rfl, hs2, hb2⟩
      have st2 := st1.call hb2
      have hO2 := owns_below hO1 hb2
      have HK2 := eb_call HK1 hb2
      obtain ⟨x0, x1⟩ := box_two2 st2.sb
      have fx := box_frozen st2.sb
      obtain ⟨k0, k1, k2, k3⟩ := box_four HK2
      have fk := box_frozen HK2
      have hsz2 := hb2.size
      have st3 := st2.sput hs2
      have hO3 := owns_set (owns_set hO2 (p := ⟨w.heap.size + 1 + 1 + 1, 0, none⟩) (fun g' e => by have := (hO2.lt g' e).1; show w.heap.size + 1 + 1 + 1 ≠ g'; omega) (.slice ta tn tc)) (p := ⟨w.heap.size + 1 + 1 + 1, 1, none⟩) (fun g' e => by have := (hO2.lt g' e).1; show w.heap.size + 1 + 1 + 1 ≠ g'; omega) (.bool bad2)
      have HK3 : ((w2.setCell ⟨w.heap.size + 1 + 1 + 1, 0, none⟩ (.slice ta tn tc)).setCell ⟨w.heap.size + 1 + 1 + 1, 1, none⟩ (.bool bad2)).heap[K]? = _ := ((Below.heap_setCell _ ⟨w.heap.size + 1 + 1 + 1, 1, none⟩ _ K (by show K ≠ w.heap.size + 1 + 1 + 1; omega)).trans (Below.heap_setCell _ ⟨w.heap.size + 1 + 1 + 1, 0, none⟩ _ K (by show K ≠ w.heap.size + 1 + 1 + 1; omega))).trans HK2
      have st4 : BS w L A B (put4 ((w2.setCell ⟨w.heap.size + 1 + 1 + 1, 0, none⟩ (.slice ta tn tc)).setCell ⟨w.heap.size + 1 + 1 + 1, 1, none⟩ (.bool bad2)) K (.string e1) (.string e2) (.int .i64 e3) (.int .i64 e4)) s1 ta tn tc bad2 (.int .i64 3) (.int .i64 0) (.int .i64 0) (.int .i64 0) (.int .i64 0) (.slice none 0 0) (.slice va i vc) (.int .i64 0) (.string ⟨#[]⟩) := st3.keepS (put4_fr _ K (.string e1) (.string e2) (.int .i64 e3) (.int .i64 e4)) (fun x hx => by omega)
      have hO4 : (put4 ((w2.setCell ⟨w.heap.size + 1 + 1 + 1, 0, none⟩ (.slice ta tn tc)).setCell ⟨w.heap.size + 1 + 1 + 1, 1, none⟩ (.bool bad2)) K (.string e1) (.string e2) (.int .i64 e3) (.int .i64 e4)).ownsRow (w.heap.size + 4) 102 4 (.slice va i vc) i (rowsOf entCells (sEnts L i).2) := owns_fr hO3 (put4_fr _ K (.string e1) (.string e2) (.int .i64 e3) (.int .i64 e4)) (fun g' e e' => hKO g' e e')
      have hbL : Below (put4 ((w2.setCell ⟨w.heap.size + 1 + 1 + 1, 0, none⟩ (.slice ta tn tc)).setCell ⟨w.heap.size + 1 + 1 + 1, 1, none⟩ (.bool bad2)) K (.string e1) (.string e2) (.int .i64 e3) (.int .i64 e4)).heap.size (put4 ((w2.setCell ⟨w.heap.size + 1 + 1 + 1, 0, none⟩ (.slice ta tn tc)).setCell ⟨w.heap.size + 1 + 1 + 1, 1, none⟩ (.bool bad2)) K (.string e1) (.string e2) (.int .i64 e3) (.int .i64 e4)) ((put4 ((w2.setCell ⟨w.heap.size + 1 + 1 + 1, 0, none⟩ (.slice ta tn tc)).setCell ⟨w.heap.size + 1 + 1 + 1, 1, none⟩ (.bool bad2)) K (.string e1) (.string e2) (.int .i64 e3) (.int .i64 e4)).alloc (.cells #[.string e1, .string e2, .int .i64 e3, .int .i64 e4] 102)) := (Below.refl _ _).alloc (Nat.le_refl _) _
      have HOL : Hid (((put4 ((w2.setCell ⟨w.heap.size + 1 + 1 + 1, 0, none⟩ (.slice ta tn tc)).setCell ⟨w.heap.size + 1 + 1 + 1, 1, none⟩ (.bool bad2)) K (.string e1) (.string e2) (.int .i64 e3) (.int .i64 e4)).alloc (.cells #[.string e1, .string e2, .int .i64 e3, .int .i64 e4] 102)).ownsRow (w.heap.size + 4) 102 4 (.slice va i vc) i (rowsOf entCells (sEnts L i).2)) := owns_below hO4 hbL
      have hsz4 : (put4 ((w2.setCell ⟨w.heap.size + 1 + 1 + 1, 0, none⟩ (.slice ta tn tc)).setCell ⟨w.heap.size + 1 + 1 + 1, 1, none⟩ (.bool bad2)) K (.string e1) (.string e2) (.int .i64 e3) (.int .i64 e4)).heap.size = w2.heap.size := by simp [put4, World.setCell]
      have HGL : Hid (((put4 ((w2.setCell ⟨w.heap.size + 1 + 1 + 1, 0, none⟩ (.slice ta tn tc)).setCell ⟨w.heap.size + 1 + 1 + 1, 1, none⟩ (.bool bad2)) K (.string e1) (.string e2) (.int .i64 e3) (.int .i64 e4)).alloc (.cells #[.string e1, .string e2, .int .i64 e3, .int .i64 e4] 102)).heap[w2.heap.size]? = some (.cells #[.string e1, .string e2, .int .i64 e3, .int .i64 e4] 102)) := by show _ = _; rw [← hsz4]; exact heap_alloc_new _ _
      clear hsz4
      have HST : Hid (BS w L A B ((put4 ((w2.setCell ⟨w.heap.size + 1 + 1 + 1, 0, none⟩ (.slice ta tn tc)).setCell ⟨w.heap.size + 1 + 1 + 1, 1, none⟩ (.bool bad2)) K (.string e1) (.string e2) (.int .i64 e3) (.int .i64 e4)).alloc (.cells #[.string e1, .string e2, .int .i64 e3, .int .i64 e4] 102)) s1 ta tn tc bad2 (.int .i64 3) (.int .i64 0) (.int .i64 0) (.int .i64 0) (.int .i64 0) (.slice none 0 0) (.slice va i vc) (.int .i64 0) (.string ⟨#[]⟩)) := st4.call hbL
      have q6 : ((w2.setCell ⟨w.heap.size + 1 + 1 + 1, 0, none⟩ (.slice ta tn tc)).setCell ⟨w.heap.size + 1 + 1 + 1, 1, none⟩ (.bool bad2)).cell? ⟨w.heap.size + 1 + 1, 6, none⟩ = some (.slice va i vc) := (box_slice st3.pb).2.1
      have hKN : ¬ w.heap.size + 1 + 1 + 1 = K := by omega
      have hKN' : ¬ K = w.heap.size + 1 + 1 + 1 := by omega
      have hKM : ¬ w.heap.size + 1 + 1 = K := by omega
      have hKM' : ¬ K = w.heap.size + 1 + 1 := by omega
      clear st1 hO1 HK1 hO2 hs2 hb2 st2 HK2 hO3 HK3 st3 st4 hO4 hbL hKO
      go_wp2_with (at_builtin; refine wpList_ent rfl _ _ rfl (w.heap.size + 4) (.slice va i vc) i (rowsOf entCells (sEnts L i).2) rfl HOL.out w2.heap.size e1 e2 e3 e4 rfl HGL.out (by omega) HST.out.lt ?_; intro v6 w6 hO6 hg6; obtain ⟨va6, vc6, rfl⟩ := own_shape hO6; have st6 := HST.out.keepS (Fr.of_grown hg6) (fun x hx => by have := (HOL.out.lt x hx).1; omega); obtain ⟨r5, r6, r0, r2, r3, r4, r7, r8, r1⟩ := box_slice st6.pb; have fe := box_frozen st6.pb; have HO6 : Hid (w6.ownsRow (w.heap.size + 4) 102 4 (.slice va6 (i + 1) vc6) (i + 1) (rowsOf entCells (sEnts L i).2 ++ entCells (e1, e2, e3, e4))) := hO6; have HST6 : Hid _ := st6; clear hO6 hg6 st6)
      go_roundw
      case rel =>
        refine ⟨i + 1, by omega, by go_num, ⟨ta, tn, tc, bad2, va6, vc6, ?_, ?_⟩⟩
        · rw [HSE.out]; exact HST6.out.pput 6 (.slice va6 (i + 1) vc6) (.int .i64 3) (.int .i64 0) (.int .i64 0) (.int .i64 0) (.int .i64 0) (.slice none 0 0) (.slice va6 (i + 1) vc6) (.int .i64 0) (.string ⟨#[]⟩) rfl
        · rw [HSE.out, rows_snoc]; exact owns_set HO6.out (p := ⟨w.heap.size + 1 + 1, 6, none⟩) (fun g' e => by have := (HO6.out.lt g' e).1; show w.heap.size + 1 + 1 ≠ g'; omega) _
      case measure => simp [intOf]; omega
    · obtain rfl : i = n := by omega
      go_wp2_with fail
      obtain ⟨p0, p1⟩ := box_two2 st.sb
      obtain ⟨r5, r6, r0, r2, r3, r4, r7, r8, r1⟩ := box_slice st.pb
      have fr := box_frozen st.rb
      obtain ⟨y5, y6, y0, y2, y3, y4, y7, y8, y1⟩ := box_slice st.rb
      go_region_held3 (fun w' => w'.cell? ⟨w.heap.size + 1 + 1 + 1, 1, none⟩ = some (.bool bad) ∧ w'.cell? ⟨w.heap.size + 1 + 1, 0, none⟩ = some (.int .i64 3) ∧ w'.cell? ⟨w.heap.size + 1 + 1, 1, none⟩ = some (.int .i64 0) ∧ w'.cell? ⟨w.heap.size + 1 + 1, 2, none⟩ = some (.int .i64 0) ∧ w'.cell? ⟨w.heap.size + 1 + 1, 3, none⟩ = some (.int .i64 0) ∧ w'.cell? ⟨w.heap.size + 1 + 1, 4, none⟩ = some (.int .i64 0) ∧ w'.cell? ⟨w.heap.size + 1 + 1, 5, none⟩ = some (.slice none 0 0) ∧ w'.cell? ⟨w.heap.size + 1 + 1, 6, none⟩ = some (.slice va i vc) ∧ w'.cell? ⟨w.heap.size + 1 + 1, 7, none⟩ = some (.int .i64 0) ∧ w'.cell? ⟨w.heap.size + 1 + 1, 8, none⟩ = some (.string ⟨#[]⟩)) (go_keep) (fail)
      all_goals
        go_wp2
        show bodyPost _ _ _ _ _ (put9 wr (w.heap.size + 1) (.int .i64 3) (.int .i64 0) (.int .i64 0) (.int .i64 0) (.int .i64 0) (.slice none 0 0) (.slice va i vc) (.int .i64 0) (.string ⟨#[]⟩)).drew
        clear r0 r1 r2 r3 r4 r5 r6 r7 r8 y0 y1 y2 y3 y4 y5 y6 y7 y8
        obtain ⟨r5, r6, r0, r2, r3, r4, r7, r8, r1⟩ := box_slice (w := (put9 wr (w.heap.size + 1) (.int .i64 3) (.int .i64 0) (.int .i64 0) (.int .i64 0) (.int .i64 0) (.slice none 0 0) (.slice va i vc) (.int .i64 0) (.string ⟨#[]⟩)).drew) (N := w.heap.size + 1) ((drew_heap _ _).trans (put9_box st.rb (.int .i64 3) (.int .i64 0) (.int .i64 0) (.int .i64 0) (.int .i64 0) (.slice none 0 0) (.slice va i vc) (.int .i64 0) (.string ⟨#[]⟩)))
        have hbe : Below w.heap.size w (put9 wr (w.heap.size + 1) (.int .i64 3) (.int .i64 0) (.int .i64 0) (.int .i64 0) (.int .i64 0) (.slice none 0 0) (.slice va i vc) (.int .i64 0) (.string ⟨#[]⟩)).drew := (st.bel.trans ((put9_fr wr (w.heap.size + 1) (.int .i64 3) (.int .i64 0) (.int .i64 0) (.int .i64 0) (.int .i64 0) (.slice none 0 0) (.slice va i vc) (.int .i64 0) (.string ⟨#[]⟩)).below st.bel.size (fun g e => by omega))).drew
        have hbd := SrcAt.badly st.src
        refine bodyPost_ret (v := .tuple #[.agg #[.int .i64 3, .int .i64 0, .int .i64 0, .int .i64 0, .int .i64 0, .slice none 0 0, .slice va i vc, .int .i64 0, .string ⟨#[]⟩], .bool (!bad)]) (by simp [results, Try.results49, go_sem, r0, r1, r2, r3, r4, r5, r6, r7, r8]) rfl ?_
        exact ⟨va, vc, by rw [hbd], (owns_base (owns_fr hO (put9_fr wr (w.heap.size + 1) (.int .i64 3) (.int .i64 0) (.int .i64 0) (.int .i64 0) (.int .i64 0) (.slice none 0 0) (.slice va i vc) (.int .i64 0) (.string ⟨#[]⟩)) (fun g' e e' => by have := (hO.lt g' e).1; omega)) (by omega)).drew, hbe⟩
end Old
end Go.Proofs.Ytcmhobbpeaeebaa
namespace Go.Proofs.Ytcmhobbpeaeebaa
namespace Old
open Go.RowKit
set_option linter.unusedVariables false
set_option maxRecDepth 100000

def sSep (L : List Int) (i : Nat) (s : Option Nat) : Option Nat × ByteArray :=
  if 0 < i then ((sTake L (sTake L s 1).1 ((sTake L s 1).2.getD 0 0).toNat).1, toB (sTake L (sTake L s 1).1 ((sTake L s 1).2.getD 0 0).toNat).2) else (s, ⟨#[]⟩)
def sKids (L : List Int) : Nat → Option Nat × List PK
  | 0 => (some 0, [])
  | i + 1 => ((sTake L (sSep L i (sKids L i).1).1 (smallN true)).1, (sKids L i).2 ++ [((sSep L i (sKids L i).1).2, numOf true (sTake L (sSep L i (sKids L i).1).1 (smallN true)).2)])
/-- append(v, kid). -/
theorem wpList_kid {w : World} {ops : Array Oper} {rest : List Oper} {o : Oper} {a : Act} {Q : Exit → Act → World → Prop} (hgd : o.guard = none) (s x : Operand)
    (ho : o.op = .call { callee := .builtin .append, args := #[s, x], argTypes := #[25, 25] })
    (base : Nat) (v : Value) (n : Nat) (xs : List Value) (hs : a.eval s = v) (hown : w.ownsRow base 100 2 v n xs)
    (g : Nat) (u1 : ByteArray) (u2 : Int) (hx : a.eval x = .slice (some ⟨g, 0, none⟩) 1 1) (hg : w.heap[g]? = some (.cells #[.string u1, .int .i64 u2] 100)) (hn : n ≤ 1000000) (hbase : base ≤ w.heap.size)
    (h : ∀ v' w', w'.ownsRow base 100 2 v' (n + 1) (xs ++ kidCells (u1, u2)) → w.grownBy w' v.ownBlock → wpList Try.prog ops Q rest (a.put o.dst v') w') : wpList Try.prog ops Q (o :: rest) a w := by
  obtain ⟨i0, hi, hz0, hz1, hz2⟩ := info_parts info_Kid
  refine wpList_append_own w hgd s x 25 ho base 100 i0 _ 2 24 Try.underlying25 hi hz0 hz1 hz2 rfl (by decide) v n xs hs hown ⟨g, 0, none⟩ 1 1 (kidCells (u1, u2)) hx rfl ?_ ?_ (by unfold maxLen; omega) (by omega) hbase ?_
  · intro j u hj
    have e : (⟨g, 0, none⟩ : Addr).add j = ⟨g, j, none⟩ := by simp [Addr.add]; omega
    rw [e]
    rcases j with _ | _ | j
    all_goals first
      | (simp [kidCells] at hj; done)
      | (simp [kidCells] at hj; subst hj; simp [World.cell?, hg])
  · intro u hu; simp [kidCells] at hu; rcases hu with rfl | rfl <;> rfl
  · intro v' w' h1 h2 _
    exact h v' w' h1 h2
set_option maxHeartbeats 3200000 in
theorem l2ReadBody_branch (L : List Int) (n : Nat) (hn : n ≤ 255) (a : Option Addr) (c : Nat) (w : World) (A B : Nat) (hB : BytesAt w A B a L.length c L) (hBw : B ≤ w.heap.size) :
    Calls Try.prog 49 #[.int .i64 2, .int .i64 n, .slice a L.length c, .agg #[.bool true, .int .i64 (smallN true), .bool true]] w fun e w' => ∃ va vc, e = .returned (.tuple #[.agg #[.int .i64 2, .int .i64 0, .int .i64 0, .int .i64 0, .int .i64 0, .slice va n vc, .slice none 0 0, .int .i64 0, .string ⟨#[]⟩], .bool (sKids L n).1.isSome]) ∧ w'.ownsRow w.heap.size 100 2 (.slice va n vc) n (rowsOf kidCells (sKids L n).2) ∧ Below w.heap.size w w' := by
  go_enter Try.func49, Try.ntmps49
  go_wp2_with fail
  have st0 := bs_start 2 L a c w A B hB hBw
  generalize (((((w.alloc (.cells #[.bool true, .int .i64 (smallN true), .bool true] 63)).alloc (.cells #[.int .i64 0, .int .i64 0, .int .i64 0, .int .i64 0, .int .i64 0, .slice none 0 0, .slice none 0 0, .int .i64 0, .string ⟨#[]⟩] 28)).alloc (.cells #[.int .i64 2, .int .i64 0, .int .i64 0, .int .i64 0, .int .i64 0, .slice none 0 0, .slice none 0 0, .int .i64 0, .string ⟨#[]⟩] 28)).alloc (.cells #[.slice a L.length c, .bool false] 119)).alloc (.cells #[] 5)) = w0 at st0 ⊢
  go_loopw [13] (fun iv wr => ∃ i : Nat, i ≤ n ∧ iv = .int .i64 i ∧ Hid (∃ sa sn sc bad va vc, BS w L A B wr (sKids L i).1 sa sn sc bad (.int .i64 2) (.int .i64 0) (.int .i64 0) (.int .i64 0) (.int .i64 0) (.slice va i vc) (.slice none 0 0) (.int .i64 0) (.string ⟨#[]⟩) ∧ wr.ownsRow (w.heap.size + 4) 100 2 (.slice va i vc) i (rowsOf kidCells (sKids L i).2))) (fun iv _ => n - (intOf iv).toNat)
  case atStart => exact ⟨0, Nat.zero_le _, rfl, ⟨_, _, _, _, _, _, st0, World.ownsRow_nil _ _ _ _⟩⟩
  case round =>
    obtain ⟨i, hi, rfl, ⟨sa, sn, sc, bad, va, vc, st, hO⟩⟩ := hrel
    clear st0
    by_cases hlt : i < n
    · have hbK : Below wr.heap.size wr (wr.alloc (.cells #[.string ⟨#[]⟩, .int .i64 0] 100)) := (Below.refl _ _).alloc (Nat.le_refl _) _
      have st1 := st.call hbK
      have hO1 := owns_below hO hbK
      have HK1 := heap_alloc_new wr (.cells #[.string ⟨#[]⟩, .int .i64 0] 100)
      have hwl := st.lt
      have hS1 : wr.heap.size < (wr.alloc (.cells #[.string ⟨#[]⟩, .int .i64 0] 100)).heap.size := by simp
      have hKO : ∀ g', (Value.slice va i vc).ownBlock = some g' → g' ≠ wr.heap.size := fun g' e e' => by have := (hO.lt g' e).2; omega
      obtain ⟨p0, p1⟩ := box_two2 st.sb
      obtain ⟨g0, g1, g2⟩ := box_form st.fb
      have ltN : w.heap.size + 1 + 1 + 1 < wr.heap.size := hwl
      have ltN0 : w.heap.size < wr.heap.size := by omega
      clear hbK hO
      generalize hs0 : (sKids L i).1 = s0 at st st1
      have HS0 : Hid ((sKids L i).1 = s0) := hs0
      clear hs0
      by_cases h0 : 0 < i
      · have i0 : (0 : Int) < (i : Int) := by omega
        go_wp2_with fail
        generalize wr.alloc (.cells #[.string ⟨#[]⟩, .int .i64 0] 100) = W1 at st1 hO1 HK1 hS1 ⊢
        generalize wr.heap.size = K at HK1 hS1 hKO hwl ltN ltN0 ⊢
        clear p0 p1 g0 g1 g2 st
        refine (l2Take_any L s0 1 (by omega) sa sn sc bad W1 A B st1.src (by have := st1.low; have := st1.lt; omega)).mono ?_
        rintro e v1 ⟨ta1, tn1, tc1, bad1, a1, c1, rfl, hs1, hx1, hb1⟩
        have su1 := st1.call hb1
        have hl1 := st1.lt
        obtain ⟨x0, x1⟩ := box_two2 su1.sb
        have fx := box_frozen su1.sb
        have sta := su1.sput hs1
        have hy1 := (hx1.set ⟨w.heap.size + 1 + 1 + 1, 0, none⟩ (.slice ta1 tn1 tc1) (by show B ≤ w.heap.size + 1 + 1 + 1; omega) (by show w.heap.size + 1 + 1 + 1 < _; omega)).set ⟨w.heap.size + 1 + 1 + 1, 1, none⟩ (.bool bad1) (by show B ≤ w.heap.size + 1 + 1 + 1; omega) (by show w.heap.size + 1 + 1 + 1 < _; omega)
        have hlen1 := sTake_len L s0 1
        generalize hq : (sTake L s0 1).1 = s1 at sta
        have HS1 : Hid ((sTake L s0 1).1 = s1) := hq
        clear hq
        generalize hq : (sTake L s0 1).2 = l1 at hy1 hlen1
        have HL1 : Hid ((sTake L s0 1).2 = l1) := hq
        have fr1 : Fr (fun x => x = w.heap.size + 1 + 1 + 1) W1 ((v1.setCell ⟨w.heap.size + 1 + 1 + 1, 0, none⟩ (.slice ta1 tn1 tc1)).setCell ⟨w.heap.size + 1 + 1 + 1, 1, none⟩ (.bool bad1)) := (Fr.of_below (S := fun x => x = w.heap.size + 1 + 1 + 1) hb1).trans ((set_fr _ (w.heap.size + 1 + 1 + 1) 0 _).trans (set_fr _ (w.heap.size + 1 + 1 + 1) 1 _))
        have HKa := (fr1.block K (Array.getElem?_eq_some_iff.1 HK1).1 (by omega)).trans HK1
        have hOa := owns_fr hO1 fr1 (fun g' e e' => by have := (hO1.lt g' e).1; omega)
        clear hq fr1 su1 hx1 hs1 hb1 st1 HK1 hO1
        obtain ⟨p0, p1⟩ := box_two2 sta.sb
        obtain ⟨g0, g1, g2⟩ := box_form sta.fb
        obtain ⟨r5, r6, r0, r2, r3, r4, r7, r8, r1⟩ := box_slice sta.pb
        have fe := box_frozen sta.pb
        obtain ⟨b3, o3, rfl, hc3, hc3a, hc3b⟩ := hy1.byte (by omega)
        obtain ⟨n3, hn3⟩ : ∃ n3 : Nat, l1.getD 0 0 = (n3 : Int) := ⟨(l1.getD 0 0).toNat, by omega⟩
        have hn3l : n3 ≤ 255 := by omega
        have HN3 : Hid ((l1.getD 0 0).toNat = n3) := by show _ = _; rw [hn3]; simp
        rw [hn3] at hc3
        clear hn3 hc3a hc3b hy1
        go_wp2_with fail
        clear x0 x1 fx g0 g1 g2 r0 r1 r2 r3 r4 r5 r6 r7 r8 fe
        generalize (v1.setCell ⟨w.heap.size + 1 + 1 + 1, 0, none⟩ (.slice ta1 tn1 tc1)).setCell ⟨w.heap.size + 1 + 1 + 1, 1, none⟩ (.bool bad1) = w4 at sta hc3 p0 p1 HKa hOa ⊢
        have hl5 := sta.lt
        have hw3 : IntKind.i64.wrap (n3 : Int) = (n3 : Int) := by rw [IntKind.wrap_i64]; omega
        go_region_with (go_at_call 83; refine (l2Take_any L s1 n3 hn3l ta1 tn1 tc1 bad1 w4.drew A B sta.drew.src (Nat.le_trans hBw sta.drew.bel.size)).mono ?_; rintro e v3 ⟨ta3, tn3, tc3, bad3, a3, c3, rfl, hs3, hx3, hb3⟩; have su3 := sta.drew.call hb3; obtain ⟨x0, x1⟩ := box_two2 su3.sb; have fx := box_frozen su3.sb)
        all_goals
          have st3 := su3.sput hs3
          have fr3 : Fr (fun x => x = w.heap.size + 1 + 1 + 1) w4.drew ((v3.setCell ⟨w.heap.size + 1 + 1 + 1, 0, none⟩ (.slice ta3 tn3 tc3)).setCell ⟨w.heap.size + 1 + 1 + 1, 1, none⟩ (.bool bad3)) := (Fr.of_below (S := fun x => x = w.heap.size + 1 + 1 + 1) hb3).trans ((set_fr _ (w.heap.size + 1 + 1 + 1) 0 _).trans (set_fr _ (w.heap.size + 1 + 1 + 1) 1 _))
          have HK3 := (fr3.block K (Array.getElem?_eq_some_iff.1 HKa).1 (by omega)).trans HKa
          have hO3 := owns_fr (w := w4.drew) hOa fr3 (fun g' e e' => by have := (hOa.lt g' e).1; omega)
          have hy3 := (hx3.set ⟨w.heap.size + 1 + 1 + 1, 0, none⟩ (.slice ta3 tn3 tc3) (by show B ≤ w.heap.size + 1 + 1 + 1; omega) (by show w.heap.size + 1 + 1 + 1 < w4.heap.size; omega)).set ⟨w.heap.size + 1 + 1 + 1, 1, none⟩ (.bool bad3) (by show B ≤ w.heap.size + 1 + 1 + 1; omega) (by show w.heap.size + 1 + 1 + 1 < w4.heap.size; omega)
          generalize hq : (sTake L s1 n3).1 = s3 at st3
          have HS3 : Hid ((sTake L s1 n3).1 = s3) := hq
          clear hq
          generalize hq : (sTake L s1 n3).2 = l3 at hy3
          have HL3 : Hid ((sTake L s1 n3).2 = l3) := hq
          clear hq su3 hx3 hs3 hb3 sta p0 p1 hc3 HKa hOa fr3
          obtain ⟨p0, p1⟩ := box_two2 st3.sb
          obtain ⟨g0, g1, g2⟩ := box_form st3.fb
          obtain ⟨kk0, kk1⟩ := box_two2 HK3
          have fkk := box_frozen HK3
          obtain ⟨A3, B3, hB3⟩ := hy3.ex
          have hcv3 := str_conv hB3
          generalize hq : toB l3 = sep at hcv3
          have HV : Hid (toB l3 = sep) := hq
          clear hq
          have hKN : ¬ w.heap.size + 1 + 1 + 1 = K := by omega
          have hKN' : ¬ K = w.heap.size + 1 + 1 + 1 := by omega
          have hKw : ¬ w.heap.size = K := by omega
          have hKw' : ¬ K = w.heap.size := by omega
          have hKY : ¬ w.heap.size + 1 = K := by omega
          have hKY' : ¬ K = w.heap.size + 1 := by omega
          go_wp2_with fail
          have frk : Fr (fun x => x = K) ((v3.setCell ⟨w.heap.size + 1 + 1 + 1, 0, none⟩ (.slice ta3 tn3 tc3)).setCell ⟨w.heap.size + 1 + 1 + 1, 1, none⟩ (.bool bad3)) (((v3.setCell ⟨w.heap.size + 1 + 1 + 1, 0, none⟩ (.slice ta3 tn3 tc3)).setCell ⟨w.heap.size + 1 + 1 + 1, 1, none⟩ (.bool bad3)).setCell ⟨K, 0, none⟩ (.string sep)) := set_fr _ _ _ _
          have st4 := st3.keepS frk (fun x hx => by omega)
          have hO4 := owns_fr hO3 frk (fun g' e e' => hKO g' e e')
          have HK4 : (((v3.setCell ⟨w.heap.size + 1 + 1 + 1, 0, none⟩ (.slice ta3 tn3 tc3)).setCell ⟨w.heap.size + 1 + 1 + 1, 1, none⟩ (.bool bad3)).setCell ⟨K, 0, none⟩ (.string sep)).heap[K]? = some (.cells #[.string sep, .int .i64 0] 100) := by simp [World.setCell, Array.getElem?_modify] at HK3 ⊢; simp [HK3]
          clear x0 x1 fx p0 p1 g0 g1 g2 kk0 kk1 fkk frk hcv3 hB3 hy3 st3 hO3 HK3
          generalize ((v3.setCell ⟨w.heap.size + 1 + 1 + 1, 0, none⟩ (.slice ta3 tn3 tc3)).setCell ⟨w.heap.size + 1 + 1 + 1, 1, none⟩ (.bool bad3)).setCell ⟨K, 0, none⟩ (.string sep) = w5 at st4 hO4 HK4 ⊢
          refine (l2Take_any L s3 (smallN true) (by decide) ta3 tn3 tc3 bad3 w5 A B st4.src (by have := st4.low; have := st4.lt; omega)).mono ?_
          rintro e v5 ⟨ta5, tn5, tc5, bad5, a5, c5, rfl, hs5, hx5, hb5⟩
          have su5 := st4.call hb5
          have hl5 := st4.lt
          obtain ⟨x0, x1⟩ := box_two2 su5.sb
          have fx := box_frozen su5.sb
          have st5 := su5.sput hs5
          have hy5 := (hx5.set ⟨w.heap.size + 1 + 1 + 1, 0, none⟩ (.slice ta5 tn5 tc5) (by show B ≤ w.heap.size + 1 + 1 + 1; omega) (by show w.heap.size + 1 + 1 + 1 < _; omega)).set ⟨w.heap.size + 1 + 1 + 1, 1, none⟩ (.bool bad5) (by show B ≤ w.heap.size + 1 + 1 + 1; omega) (by show w.heap.size + 1 + 1 + 1 < _; omega)
          have hlen5 := sTake_len L s3 (smallN true)
          generalize hq : (sTake L s3 (smallN true)).1 = s5 at st5
          have HS5 : Hid ((sTake L s3 (smallN true)).1 = s5) := hq
          clear hq
          generalize hq : (sTake L s3 (smallN true)).2 = l5 at hy5 hlen5
          have HL5 : Hid ((sTake L s3 (smallN true)).2 = l5) := hq
          have fr5 : Fr (fun x => x = w.heap.size + 1 + 1 + 1) w5 ((v5.setCell ⟨w.heap.size + 1 + 1 + 1, 0, none⟩ (.slice ta5 tn5 tc5)).setCell ⟨w.heap.size + 1 + 1 + 1, 1, none⟩ (.bool bad5)) := (Fr.of_below (S := fun x => x = w.heap.size + 1 + 1 + 1) hb5).trans ((set_fr _ (w.heap.size + 1 + 1 + 1) 0 _).trans (set_fr _ (w.heap.size + 1 + 1 + 1) 1 _))
          have HK5 := (fr5.block K (Array.getElem?_eq_some_iff.1 HK4).1 (by omega)).trans HK4
          have hO5 := owns_fr hO4 fr5 (fun g' e e' => by have := (hO4.lt g' e).1; omega)
          clear hq fr5 su5 hx5 hs5 hb5 st4
          obtain ⟨p0, p1⟩ := box_two2 st5.sb
          obtain ⟨g0, g1, g2⟩ := box_form st5.fb
          obtain ⟨r5, r6, r0, r2, r3, r4, r7, r8, r1⟩ := box_slice st5.pb
          have fe := box_frozen st5.pb
          obtain ⟨A5, B5, hB5⟩ := hy5.ex
          obtain ⟨kk0, kk1⟩ := box_two2 HK5
          have fkk := box_frozen HK5
          have hKN : ¬ w.heap.size + 1 + 1 + 1 = K := by omega
          have hKN' : ¬ K = w.heap.size + 1 + 1 + 1 := by omega
          have hKM : ¬ w.heap.size + 1 + 1 = K := by omega
          have hKM' : ¬ K = w.heap.size + 1 + 1 := by omega
          go_wp2_with fail
          generalize (v5.setCell ⟨w.heap.size + 1 + 1 + 1, 0, none⟩ (.slice ta5 tn5 tc5)).setCell ⟨w.heap.size + 1 + 1 + 1, 1, none⟩ (.bool bad5) = wg at st5 hy5 hB5 HK5 hO5 p0 p1 g0 g1 g2 r0 r1 r2 r3 r4 r5 r6 r7 r8 fe kk0 kk1 fkk ⊢
          refine (l2Get_high a5 (smallN true) c5 (by decide) l5 wg A5 B5 hB5).mono ?_
          rintro e wg' ⟨rfl, hwg⟩
          subst hwg
          generalize hq : numOf true l5 = pg
          have HPG : Hid (numOf true l5 = pg) := hq
          clear hq hy5 hB5
          have frK : Fr (fun x => x = K) wg' (wg'.setCell ⟨K, 1, none⟩ (.int .i64 pg)) := set_fr _ _ _ _
          have st9 := st5.keepS frK (fun x hx => by omega)
          have hO9 := owns_fr hO5 frK (fun g' e e' => hKO g' e e')
          have hsz9 : (wg'.setCell ⟨K, 1, none⟩ (.int .i64 pg)).heap.size = wg'.heap.size := by simp [World.setCell]
          have hbL : Below (wg'.setCell ⟨K, 1, none⟩ (.int .i64 pg)).heap.size (wg'.setCell ⟨K, 1, none⟩ (.int .i64 pg)) ((wg'.setCell ⟨K, 1, none⟩ (.int .i64 pg)).alloc (.cells #[.string (sep), .int .i64 pg] 100)) := (Below.refl _ _).alloc (Nat.le_refl _) _
          have HOL : Hid (((wg'.setCell ⟨K, 1, none⟩ (.int .i64 pg)).alloc (.cells #[.string (sep), .int .i64 pg] 100)).ownsRow (w.heap.size + 4) 100 2 (.slice va i vc) i (rowsOf kidCells (sKids L i).2)) := owns_below hO9 hbL
          have HGL : Hid (((wg'.setCell ⟨K, 1, none⟩ (.int .i64 pg)).alloc (.cells #[.string (sep), .int .i64 pg] 100)).heap[wg'.heap.size]? = some (.cells #[.string (sep), .int .i64 pg] 100)) := by show _ = _; rw [← hsz9]; exact heap_alloc_new _ _
          have HST : Hid (BS w L A B ((wg'.setCell ⟨K, 1, none⟩ (.int .i64 pg)).alloc (.cells #[.string (sep), .int .i64 pg] 100)) s5 ta5 tn5 tc5 bad5 (.int .i64 2) (.int .i64 0) (.int .i64 0) (.int .i64 0) (.int .i64 0) (.slice va i vc) (.slice none 0 0) (.int .i64 0) (.string ⟨#[]⟩)) := st9.call hbL
          have HSK : Hid (sKids L (i + 1) = (s5, (sKids L i).2 ++ [(sep, pg)])) := by
            show _ = _
            simp only [sKids, sSep, HS0.out, if_pos h0, HS1.out, HL1.out, HN3.out, HS3.out, HL3.out, HV.out, HS5.out, HL5.out, HPG.out]
          clear hsz9 hbL st9 hO9 frK st5 hO5 HK5 hKO
          go_wp2_with (at_builtin; refine wpList_kid rfl _ _ rfl (w.heap.size + 4) (.slice va i vc) i (rowsOf kidCells (sKids L i).2) rfl HOL.out wg'.heap.size (sep) pg rfl HGL.out (by omega) HST.out.lt ?_; intro v6 w6 hO6 hg6; obtain ⟨va6, vc6, rfl⟩ := own_shape hO6; have st6 := HST.out.keepS (Fr.of_grown hg6) (fun x hx => by have := (HOL.out.lt x hx).1; omega); clear r0 r1 r2 r3 r4 r5 r6 r7 r8 fe; obtain ⟨r5, r6, r0, r2, r3, r4, r7, r8, r1⟩ := box_slice st6.pb; have fe := box_frozen st6.pb; have HO6 : Hid (w6.ownsRow (w.heap.size + 4) 100 2 (.slice va6 (i + 1) vc6) (i + 1) (rowsOf kidCells (sKids L i).2 ++ kidCells (sep, pg))) := hO6; have HST6 : Hid _ := st6; clear hO6 hg6 st6)
          go_roundw
          case rel =>
            refine ⟨i + 1, by omega, by go_num, ⟨ta5, tn5, tc5, bad5, va6, vc6, ?_, ?_⟩⟩
            · rw [HSK.out]; exact HST6.out.pput 5 (.slice va6 (i + 1) vc6) (.int .i64 2) (.int .i64 0) (.int .i64 0) (.int .i64 0) (.int .i64 0) (.slice va6 (i + 1) vc6) (.slice none 0 0) (.int .i64 0) (.string ⟨#[]⟩) rfl
            · rw [HSK.out, rows_snoc]; exact owns_set HO6.out (p := ⟨w.heap.size + 1 + 1, 5, none⟩) (fun g' e => by have := (HO6.out.lt g' e).1; show w.heap.size + 1 + 1 ≠ g'; omega) _
          case measure => simp [intOf]; omega
      · have i0 : ¬ (0 : Int) < (i : Int) := by omega
        go_wp2_with fail
        generalize wr.alloc (.cells #[.string ⟨#[]⟩, .int .i64 0] 100) = W1 at st1 hO1 HK1 hS1 ⊢
        generalize wr.heap.size = K at HK1 hS1 hKO hwl ltN ltN0 ⊢
        clear p0 p1 g0 g1 g2 st
        refine (l2Take_any L s0 (smallN true) (by decide) sa sn sc bad W1 A B st1.src (by have := st1.low; have := st1.lt; omega)).mono ?_
        rintro e v5 ⟨ta5, tn5, tc5, bad5, a5, c5, rfl, hs5, hx5, hb5⟩
        have su5 := st1.call hb5
        have hl5 := st1.lt
        obtain ⟨x0, x1⟩ := box_two2 su5.sb
        have fx := box_frozen su5.sb
        have st5 := su5.sput hs5
        have hy5 := (hx5.set ⟨w.heap.size + 1 + 1 + 1, 0, none⟩ (.slice ta5 tn5 tc5) (by show B ≤ w.heap.size + 1 + 1 + 1; omega) (by show w.heap.size + 1 + 1 + 1 < _; omega)).set ⟨w.heap.size + 1 + 1 + 1, 1, none⟩ (.bool bad5) (by show B ≤ w.heap.size + 1 + 1 + 1; omega) (by show w.heap.size + 1 + 1 + 1 < _; omega)
        have hlen5 := sTake_len L s0 (smallN true)
        generalize hq : (sTake L s0 (smallN true)).1 = s5 at st5
        have HS5 : Hid ((sTake L s0 (smallN true)).1 = s5) := hq
        clear hq
        generalize hq : (sTake L s0 (smallN true)).2 = l5 at hy5 hlen5
        have HL5 : Hid ((sTake L s0 (smallN true)).2 = l5) := hq
        have fr5 : Fr (fun x => x = w.heap.size + 1 + 1 + 1) W1 ((v5.setCell ⟨w.heap.size + 1 + 1 + 1, 0, none⟩ (.slice ta5 tn5 tc5)).setCell ⟨w.heap.size + 1 + 1 + 1, 1, none⟩ (.bool bad5)) := (Fr.of_below (S := fun x => x = w.heap.size + 1 + 1 + 1) hb5).trans ((set_fr _ (w.heap.size + 1 + 1 + 1) 0 _).trans (set_fr _ (w.heap.size + 1 + 1 + 1) 1 _))
        have HK5 := (fr5.block K (Array.getElem?_eq_some_iff.1 HK1).1 (by omega)).trans HK1
        have hO5 := owns_fr hO1 fr5 (fun g' e e' => by have := (hO1.lt g' e).1; omega)
        clear hq fr5 su5 hx5 hs5 hb5 st1
        obtain ⟨p0, p1⟩ := box_two2 st5.sb
        obtain ⟨g0, g1, g2⟩ := box_form st5.fb
        obtain ⟨r5, r6, r0, r2, r3, r4, r7, r8, r1⟩ := box_slice st5.pb
        have fe := box_frozen st5.pb
        obtain ⟨A5, B5, hB5⟩ := hy5.ex
        obtain ⟨kk0, kk1⟩ := box_two2 HK5
        have fkk := box_frozen HK5
        have hKN : ¬ w.heap.size + 1 + 1 + 1 = K := by omega
        have hKN' : ¬ K = w.heap.size + 1 + 1 + 1 := by omega
        have hKM : ¬ w.heap.size + 1 + 1 = K := by omega
        have hKM' : ¬ K = w.heap.size + 1 + 1 := by omega
        go_wp2_with fail
        generalize (v5.setCell ⟨w.heap.size + 1 + 1 + 1, 0, none⟩ (.slice ta5 tn5 tc5)).setCell ⟨w.heap.size + 1 + 1 + 1, 1, none⟩ (.bool bad5) = wg at st5 hy5 hB5 HK5 hO5 p0 p1 g0 g1 g2 r0 r1 r2 r3 r4 r5 r6 r7 r8 fe kk0 kk1 fkk ⊢
        refine (l2Get_high a5 (smallN true) c5 (by decide) l5 wg A5 B5 hB5).mono ?_
        rintro e wg' ⟨rfl, hwg⟩
        subst hwg
        generalize hq : numOf true l5 = pg
        have HPG : Hid (numOf true l5 = pg) := hq
        clear hq hy5 hB5
        have frK : Fr (fun x => x = K) wg' (wg'.setCell ⟨K, 1, none⟩ (.int .i64 pg)) := set_fr _ _ _ _
        have st9 := st5.keepS frK (fun x hx => by omega)
        have hO9 := owns_fr hO5 frK (fun g' e e' => hKO g' e e')
        have hsz9 : (wg'.setCell ⟨K, 1, none⟩ (.int .i64 pg)).heap.size = wg'.heap.size := by simp [World.setCell]
        have hbL : Below (wg'.setCell ⟨K, 1, none⟩ (.int .i64 pg)).heap.size (wg'.setCell ⟨K, 1, none⟩ (.int .i64 pg)) ((wg'.setCell ⟨K, 1, none⟩ (.int .i64 pg)).alloc (.cells #[.string (⟨#[]⟩), .int .i64 pg] 100)) := (Below.refl _ _).alloc (Nat.le_refl _) _
        have HOL : Hid (((wg'.setCell ⟨K, 1, none⟩ (.int .i64 pg)).alloc (.cells #[.string (⟨#[]⟩), .int .i64 pg] 100)).ownsRow (w.heap.size + 4) 100 2 (.slice va i vc) i (rowsOf kidCells (sKids L i).2)) := owns_below hO9 hbL
        have HGL : Hid (((wg'.setCell ⟨K, 1, none⟩ (.int .i64 pg)).alloc (.cells #[.string (⟨#[]⟩), .int .i64 pg] 100)).heap[wg'.heap.size]? = some (.cells #[.string (⟨#[]⟩), .int .i64 pg] 100)) := by show _ = _; rw [← hsz9]; exact heap_alloc_new _ _
        have HST : Hid (BS w L A B ((wg'.setCell ⟨K, 1, none⟩ (.int .i64 pg)).alloc (.cells #[.string (⟨#[]⟩), .int .i64 pg] 100)) s5 ta5 tn5 tc5 bad5 (.int .i64 2) (.int .i64 0) (.int .i64 0) (.int .i64 0) (.int .i64 0) (.slice va i vc) (.slice none 0 0) (.int .i64 0) (.string ⟨#[]⟩)) := st9.call hbL
        have HSK : Hid (sKids L (i + 1) = (s5, (sKids L i).2 ++ [(⟨#[]⟩, pg)])) := by
          show _ = _
          simp only [sKids, sSep, HS0.out, if_neg h0, HS5.out, HL5.out, HPG.out]
        clear hsz9 hbL st9 hO9 frK st5 hO5 HK5 hKO
        go_wp2_with (at_builtin; refine wpList_kid rfl _ _ rfl (w.heap.size + 4) (.slice va i vc) i (rowsOf kidCells (sKids L i).2) rfl HOL.out wg'.heap.size (⟨#[]⟩) pg rfl HGL.out (by omega) HST.out.lt ?_; intro v6 w6 hO6 hg6; obtain ⟨va6, vc6, rfl⟩ := own_shape hO6; have st6 := HST.out.keepS (Fr.of_grown hg6) (fun x hx => by have := (HOL.out.lt x hx).1; omega); clear r0 r1 r2 r3 r4 r5 r6 r7 r8 fe; obtain ⟨r5, r6, r0, r2, r3, r4, r7, r8, r1⟩ := box_slice st6.pb; have fe := box_frozen st6.pb; have HO6 : Hid (w6.ownsRow (w.heap.size + 4) 100 2 (.slice va6 (i + 1) vc6) (i + 1) (rowsOf kidCells (sKids L i).2 ++ kidCells (⟨#[]⟩, pg))) := hO6; have HST6 : Hid _ := st6; clear hO6 hg6 st6)
        go_roundw
        case rel =>
          refine ⟨i + 1, by omega, by go_num, ⟨ta5, tn5, tc5, bad5, va6, vc6, ?_, ?_⟩⟩
          · rw [HSK.out]; exact HST6.out.pput 5 (.slice va6 (i + 1) vc6) (.int .i64 2) (.int .i64 0) (.int .i64 0) (.int .i64 0) (.int .i64 0) (.slice va6 (i + 1) vc6) (.slice none 0 0) (.int .i64 0) (.string ⟨#[]⟩) rfl
          · rw [HSK.out, rows_snoc]; exact owns_set HO6.out (p := ⟨w.heap.size + 1 + 1, 5, none⟩) (fun g' e => by have := (HO6.out.lt g' e).1; show w.heap.size + 1 + 1 ≠ g'; omega) _
        case measure => simp [intOf]; omega
    · obtain rfl : i = n := by omega
      go_wp2_with fail
      obtain ⟨p0, p1⟩ := box_two2 st.sb
      obtain ⟨r5, r6, r0, r2, r3, r4, r7, r8, r1⟩ := box_slice st.pb
      have fr := box_frozen st.rb
      obtain ⟨y5, y6, y0, y2, y3, y4, y7, y8, y1⟩ := box_slice st.rb
      go_region_held3 (fun w' => w'.cell? ⟨w.heap.size + 1 + 1 + 1, 1, none⟩ = some (.bool bad) ∧ w'.cell? ⟨w.heap.size + 1 + 1, 0, none⟩ = some (.int .i64 2) ∧ w'.cell? ⟨w.heap.size + 1 + 1, 1, none⟩ = some (.int .i64 0) ∧ w'.cell? ⟨w.heap.size + 1 + 1, 2, none⟩ = some (.int .i64 0) ∧ w'.cell? ⟨w.heap.size + 1 + 1, 3, none⟩ = some (.int .i64 0) ∧ w'.cell? ⟨w.heap.size + 1 + 1, 4, none⟩ = some (.int .i64 0) ∧ w'.cell? ⟨w.heap.size + 1 + 1, 5, none⟩ = some (.slice va i vc) ∧ w'.cell? ⟨w.heap.size + 1 + 1, 6, none⟩ = some (.slice none 0 0) ∧ w'.cell? ⟨w.heap.size + 1 + 1, 7, none⟩ = some (.int .i64 0) ∧ w'.cell? ⟨w.heap.size + 1 + 1, 8, none⟩ = some (.string ⟨#[]⟩)) (go_keep) (fail)
      all_goals
        go_wp2
        show bodyPost _ _ _ _ _ (put9 wr (w.heap.size + 1) (.int .i64 2) (.int .i64 0) (.int .i64 0) (.int .i64 0) (.int .i64 0) (.slice va i vc) (.slice none 0 0) (.int .i64 0) (.string ⟨#[]⟩)).drew
        clear r0 r1 r2 r3 r4 r5 r6 r7 r8 y0 y1 y2 y3 y4 y5 y6 y7 y8
        obtain ⟨r5, r6, r0, r2, r3, r4, r7, r8, r1⟩ := box_slice (w := (put9 wr (w.heap.size + 1) (.int .i64 2) (.int .i64 0) (.int .i64 0) (.int .i64 0) (.int .i64 0) (.slice va i vc) (.slice none 0 0) (.int .i64 0) (.string ⟨#[]⟩)).drew) (N := w.heap.size + 1) ((drew_heap _ _).trans (put9_box st.rb (.int .i64 2) (.int .i64 0) (.int .i64 0) (.int .i64 0) (.int .i64 0) (.slice va i vc) (.slice none 0 0) (.int .i64 0) (.string ⟨#[]⟩)))
        have hbe : Below w.heap.size w (put9 wr (w.heap.size + 1) (.int .i64 2) (.int .i64 0) (.int .i64 0) (.int .i64 0) (.int .i64 0) (.slice va i vc) (.slice none 0 0) (.int .i64 0) (.string ⟨#[]⟩)).drew := (st.bel.trans ((put9_fr wr (w.heap.size + 1) (.int .i64 2) (.int .i64 0) (.int .i64 0) (.int .i64 0) (.int .i64 0) (.slice va i vc) (.slice none 0 0) (.int .i64 0) (.string ⟨#[]⟩)).below st.bel.size (fun g e => by omega))).drew
        have hbd := SrcAt.badly st.src
        refine bodyPost_ret (v := .tuple #[.agg #[.int .i64 2, .int .i64 0, .int .i64 0, .int .i64 0, .int .i64 0, .slice va i vc, .slice none 0 0, .int .i64 0, .string ⟨#[]⟩], .bool (!bad)]) (by simp [results, Try.results49, go_sem, r0, r1, r2, r3, r4, r5, r6, r7, r8]) rfl ?_
        exact ⟨va, vc, by rw [hbd], (owns_base (owns_fr hO (put9_fr wr (w.heap.size + 1) (.int .i64 2) (.int .i64 0) (.int .i64 0) (.int .i64 0) (.int .i64 0) (.slice va i vc) (.slice none 0 0) (.int .i64 0) (.string ⟨#[]⟩)) (fun g' e e' => by have := (hO.lt g' e).1; omega)) (by omega)).drew, hbe⟩
end Old
end Go.Proofs.Ytcmhobbpeaeebaa
