import Derived.Test.YtcmhobbpeaeebaaGAA
import Derived.Test.YtcmhobbpeaeebaaGAD
import Derived.Test.YtcmhobbpeaeebaaDh
import Derived.Laws.BitsAll
namespace Go.Proofs.Ytcmhobbpeaeebaa
open Go.RowKit
set_option linter.unusedVariables false
set_option maxRecDepth 100000

theorem DPg.fr {w w' : World} {T m : Nat} {Φ : Pg → Prop} {v : Value} {F : Nat → Prop} (h : DPg w T m Φ v) (hF : Fr F w w') (hS : ∀ g, F g → g < T) : DPg w' T m Φ v := by
  obtain ⟨p, ka, kc, ea, ec, rfl, hf, hk, he, hkf, hef, hO, hP, hap, hlo⟩ := h
  exact ⟨p, ka, kc, ea, ec, rfl, hf, hk, he, hkf, hef, owns_fr hO hF (fun g e e' => by have := (hO.lt g e).1; have := hS g e'; omega), owns_fr hP hF (fun g e e' => by have := (hP.lt g e).1; have := hS g e'; omega), hap, hlo⟩
theorem DPg.below {w w' : World} {T m : Nat} {Φ : Pg → Prop} {v : Value} (h : DPg w T m Φ v) (hb : Below w.heap.size w w') : DPg w' T m Φ v := by
  obtain ⟨p, ka, kc, ea, ec, rfl, hf, hk, he, hkf, hef, hO, hP, hap, hlo⟩ := h
  exact ⟨p, ka, kc, ea, ec, rfl, hf, hk, he, hkf, hef, owns_below hO hb, owns_below hP hb, hap, hlo⟩
theorem DPg.weak {w : World} {T T' m m' : Nat} {Φ Ψ : Pg → Prop} {v : Value} (h : DPg w T m Φ v) (hT : T' ≤ T) (hm : m ≤ m') (hl : ∀ p, Φ p → Ψ p) : DPg w T' m' Ψ v := by
  obtain ⟨p, ka, kc, ea, ec, rfl, hf, hk, he, hkf, hef, hO, hP, hap, hlo⟩ := h
  exact ⟨p, ka, kc, ea, ec, rfl, hf, by omega, by omega, hkf, hef, own_lowerD hO hT, own_lowerD hP hT, hap, hl _ hlo⟩
set_option maxHeartbeats 1600000 in
theorem drawEncodePage_any (a : Option Addr) (n c : Nat) (bs : List Int) (w : World) (A B : Nat) (hB : B ≤ w.heap.size) (h : BytesAt w A B a n c bs) :
    Calls Try.prog 8 #[.slice a n c] w fun e w' => ∃ v, e = .returned v ∧ DPg w' w.heap.size 21 (fun p => -1 ≤ p.tx) v ∧ Below w.heap.size w w' := by
  go_enter Try.func8, Try.ntmps8
  go_wp2_with fail
  have HR0 := heap_alloc_new w (.cells #[.int .i64 0, .int .i64 0, .int .i64 0, .int .i64 0, .int .i64 0, .slice none 0 0, .slice none 0 0, .int .i64 0, .string ⟨#[]⟩] 28)
  have hb0 : Below w.heap.size w (w.alloc (.cells #[.int .i64 0, .int .i64 0, .int .i64 0, .int .i64 0, .int .i64 0, .slice none 0 0, .slice none 0 0, .int .i64 0, .string ⟨#[]⟩] 28)) := (Below.refl _ _).alloc (Nat.le_refl _) _
  have h0 := h.below (hb0.mono hB)
  generalize w.alloc (.cells #[.int .i64 0, .int .i64 0, .int .i64 0, .int .i64 0, .int .i64 0, .slice none 0 0, .slice none 0 0, .int .i64 0, .string ⟨#[]⟩] 28) = w0 at HR0 hb0 h0 ⊢
  have hR0 : w.heap.size < w0.heap.size := (Array.getElem?_eq_some_iff.1 HR0).1
  refine (l1New_any a n c bs w0 A B (Nat.le_trans hB hb0.size) h0).mono ?_
  rintro e w1 ⟨C, rfl, hC, hD1, hb1⟩
  have HR1 := (hb1.block _ hR0).trans HR0
  have b1 := hb0.trans (hb1.mono hb0.size)
  clear HR0 hb0 h0 hb1 h
  have hRC : w.heap.size < C := by omega
  clear hC
  go_wp2_with fail
  refine (l2DrawTx_any C A B w1 hD1).mono ?_
  rintro e w2 ⟨tx, rfl, htx, hD2, hF2⟩
  have HR2 := (hF2.block _ (Array.getElem?_eq_some_iff.1 HR1).1 (by omega)).trans HR1
  have b2 := b1.trans (hF2.below b1.size (fun g e => by omega))
  clear HR1 b1 hD1 hF2
  go_wp2_with fail
  have hC2 := hD2.lt
  refine (l2DrawPage_any C A B w2 hD2 2 999 tx (by omega) (by omega) htx).mono ?_
  rintro e w3 ⟨v, rfl, hv, hD3, hF3⟩
  have HR3 := (hF3.block _ (Array.getElem?_eq_some_iff.1 HR2).1 (by omega)).trans HR2
  have b3 := b2.trans (hF3.below b2.size (fun g e => by omega))
  have hs23 := hF3.size
  have hv' := hv
  obtain ⟨p, ka, kc, ea, ec, rfl, hf, hk, he, hkf, hef, hO, hP, hap, hlo⟩ := hv'
  clear hO hP hap hlo hf hkf hef HR2 b2 hD2 hF3 hk he
  go_wp2_with fail
  have HP4 := heap_alloc_new w3 (.cells #[.int .i64 p.kind, .int .i64 p.tx, .int .i64 p.id, .int .i64 p.root, .int .i64 p.count, .slice ka p.ks.length kc, .slice ea p.es.length ec, .int .i64 p.next, .string p.data] 28)
  have hal : Below w3.heap.size w3 (w3.alloc (.cells #[.int .i64 p.kind, .int .i64 p.tx, .int .i64 p.id, .int .i64 p.root, .int .i64 p.count, .slice ka p.ks.length kc, .slice ea p.es.length ec, .int .i64 p.next, .string p.data] 28)) := (Below.refl _ _).alloc (Nat.le_refl _) _
  generalize w3.alloc (.cells #[.int .i64 p.kind, .int .i64 p.tx, .int .i64 p.id, .int .i64 p.root, .int .i64 p.count, .slice ka p.ks.length kc, .slice ea p.es.length ec, .int .i64 p.next, .string p.data] 28) = w4 at HP4 hal ⊢
  have HR4 := (hal.block _ (Array.getElem?_eq_some_iff.1 HR3).1).trans HR3
  have b4 := b3.trans (hal.mono b3.size)
  have hD4 := hD3.below hal
  have hv4 := hv.below hal
  have hs34 := hal.size
  have hRP : w.heap.size < w3.heap.size := (Array.getElem?_eq_some_iff.1 HR3).1
  have hCP : C < w3.heap.size := hD3.lt
  clear HR3 b3 hD3 hv hal
  generalize w3.heap.size = P at HP4 hRP hCP hs34 hs23 ⊢
  refine (l1Once_any C A B w4 hD4 5 (by omega) (by omega)).mono ?_
  rintro e w5 ⟨b, rfl, hD5, hF5⟩
  have HR5 := (hF5.block _ (Array.getElem?_eq_some_iff.1 HR4).1 (by omega)).trans HR4
  have HP5 := (hF5.block _ (Array.getElem?_eq_some_iff.1 HP4).1 (by omega)).trans HP4
  have b5 := b4.trans (hF5.below b4.size (fun g e => by omega))
  have hs45 := hF5.size
  have hv5 := hv4.fr hF5 (fun g e => by omega)
  clear HR4 HP4 b4 hD4 hF5 hv4
  obtain ⟨p0, p1, p2, p3, p4, p5, p6, p7, p8⟩ := box_page HP5
  cases b
  · obtain ⟨r0, r1, r2, r3, r4, r5, r6, r7, r8⟩ := box_page HR5
    have ff := box_thaw HR5
    have HB := put9D_box HR5 (.int .i64 p.kind) (.int .i64 p.tx) (.int .i64 p.id) (.int .i64 p.root) (.int .i64 p.count) (.slice ka p.ks.length kc) (.slice ea p.es.length ec) (.int .i64 p.next) (.string p.data)
    have hz := put9D_fr w5 w.heap.size (.int .i64 p.kind) (.int .i64 p.tx) (.int .i64 p.id) (.int .i64 p.root) (.int .i64 p.count) (.slice ka p.ks.length kc) (.slice ea p.es.length ec) (.int .i64 p.next) (.string p.data)
    have hbZ := b5.trans (hz.below b5.size (fun g e => by omega))
    have hvZ := (hv5.fr hz (fun g e => by omega)).weak (show w.heap.size ≤ w2.heap.size by omega) (show 20 ≤ 21 by omega) (fun p hp => by show (-1 : Int) ≤ p.tx; have := hp.1; omega)
    have HV : Hid _ := hvZ
    clear hvZ hv5 hz
    go_wp2
    show bodyPost _ _ _ _ _ (put9D w5 w.heap.size (.int .i64 p.kind) (.int .i64 p.tx) (.int .i64 p.id) (.int .i64 p.root) (.int .i64 p.count) (.slice ka p.ks.length kc) (.slice ea p.es.length ec) (.int .i64 p.next) (.string p.data))
    clear r0 r1 r2 r3 r4 r5 r6 r7 r8
    obtain ⟨r0, r1, r2, r3, r4, r5, r6, r7, r8⟩ := box_page HB
    refine bodyPost_ret (v := .agg #[.int .i64 p.kind, .int .i64 p.tx, .int .i64 p.id, .int .i64 p.root, .int .i64 p.count, .slice ka p.ks.length kc, .slice ea p.es.length ec, .int .i64 p.next, .string p.data]) (by simp [results, Try.results8, go_sem, r0, r1, r2, r3, r4, r5, r6, r7, r8]) rfl ?_
    exact ⟨_, rfl, HV.out, hbZ⟩
  · go_wp2_with fail
    refine (l2SpoilPage_any C A B w5 hD5 (w.heap.size + 1) w2.heap.size (by omega) hC2 (by omega) _ (hv5.weak (Nat.le_refl _) (Nat.le_refl _) (fun p hp => by show (0 : Int) ≤ p.tx; have := hp.1; omega))).mono ?_
    rintro e w6 ⟨v, rfl, hv6, hb6⟩
    have HR6 := (hb6.block _ (by omega)).trans HR5
    have b6 := b5.trans (hb6.mono (by omega))
    have hv6' := hv6
    clear p0 p1 p2 p3 p4 p5 p6 p7 p8 HP5 HR5 hD5 hv5 hb6 b5
    obtain ⟨p, ka, kc, ea, ec, rfl, hf, hk, he, hkf, hef, hO, hP, hap, hlo⟩ := hv6'
    clear hO hP hap hlo hf hkf hef hk he
    obtain ⟨r0, r1, r2, r3, r4, r5, r6, r7, r8⟩ := box_page HR6
    have ff := box_thaw HR6
    have HB := put9D_box HR6 (.int .i64 p.kind) (.int .i64 p.tx) (.int .i64 p.id) (.int .i64 p.root) (.int .i64 p.count) (.slice ka p.ks.length kc) (.slice ea p.es.length ec) (.int .i64 p.next) (.string p.data)
    have hz := put9D_fr w6 w.heap.size (.int .i64 p.kind) (.int .i64 p.tx) (.int .i64 p.id) (.int .i64 p.root) (.int .i64 p.count) (.slice ka p.ks.length kc) (.slice ea p.es.length ec) (.int .i64 p.next) (.string p.data)
    have hbZ := b6.trans (hz.below b6.size (fun g e => by omega))
    have hvZ := (hv6.fr hz (fun g e => by omega)).weak (show w.heap.size ≤ w2.heap.size by omega) (Nat.le_refl _) (fun p hp => hp)
    have HV : Hid _ := hvZ
    clear hvZ hv6 hz
    go_wp2
    show bodyPost _ _ _ _ _ (put9D w6 w.heap.size (.int .i64 p.kind) (.int .i64 p.tx) (.int .i64 p.id) (.int .i64 p.root) (.int .i64 p.count) (.slice ka p.ks.length kc) (.slice ea p.es.length ec) (.int .i64 p.next) (.string p.data))
    clear r0 r1 r2 r3 r4 r5 r6 r7 r8
    obtain ⟨r0, r1, r2, r3, r4, r5, r6, r7, r8⟩ := box_page HB
    refine bodyPost_ret (v := .agg #[.int .i64 p.kind, .int .i64 p.tx, .int .i64 p.id, .int .i64 p.root, .int .i64 p.count, .slice ka p.ks.length kc, .slice ea p.es.length ec, .int .i64 p.next, .string p.data]) (by simp [results, Try.results8, go_sem, r0, r1, r2, r3, r4, r5, r6, r7, r8]) rfl ?_
    exact ⟨_, rfl, HV.out, hbZ⟩
end Go.Proofs.Ytcmhobbpeaeebaa
namespace Go.Proofs.Ytcmhobbpeaeebaa
open Go.RowKit
set_option linter.unusedVariables false
set_option maxRecDepth 100000

set_option maxHeartbeats 1600000 in
theorem drawEncodeOld_any (a : Option Addr) (n c : Nat) (bs : List Int) (w : World) (A B : Nat) (hB : B ≤ w.heap.size) (h : BytesAt w A B a n c bs) :
    Calls Try.prog 28 #[.slice a n c] w fun e w' => ∃ v, e = .returned v ∧ DPg w' w.heap.size 21 (fun p => -1 ≤ p.tx) v ∧ Below w.heap.size w w' := by
  go_enter Try.func28, Try.ntmps28
  go_wp2_with fail
  have HR0 := heap_alloc_new w (.cells #[.int .i64 0, .int .i64 0, .int .i64 0, .int .i64 0, .int .i64 0, .slice none 0 0, .slice none 0 0, .int .i64 0, .string ⟨#[]⟩] 28)
  have hb0 : Below w.heap.size w (w.alloc (.cells #[.int .i64 0, .int .i64 0, .int .i64 0, .int .i64 0, .int .i64 0, .slice none 0 0, .slice none 0 0, .int .i64 0, .string ⟨#[]⟩] 28)) := (Below.refl _ _).alloc (Nat.le_refl _) _
  have h0 := h.below (hb0.mono hB)
  generalize w.alloc (.cells #[.int .i64 0, .int .i64 0, .int .i64 0, .int .i64 0, .int .i64 0, .slice none 0 0, .slice none 0 0, .int .i64 0, .string ⟨#[]⟩] 28) = w0 at HR0 hb0 h0 ⊢
  have hR0 : w.heap.size < w0.heap.size := (Array.getElem?_eq_some_iff.1 HR0).1
  refine (l1New_any a n c bs w0 A B (Nat.le_trans hB hb0.size) h0).mono ?_
  rintro e w2 ⟨C, rfl, hC, hD2, hb1⟩
  have HR2 := (hb1.block _ hR0).trans HR0
  have b2 := hb0.trans (hb1.mono hb0.size)
  clear HR0 hb0 h0 hb1 h
  have hRC : w.heap.size < C := by omega
  clear hC
  go_wp2_with fail
  have hC2 := hD2.lt
  refine (l2DrawPage_any C A B w2 hD2 1 998 0 (by omega) (by omega) (by omega)).mono ?_
  rintro e w3 ⟨v, rfl, hv, hD3, hF3⟩
  have HR3 := (hF3.block _ (Array.getElem?_eq_some_iff.1 HR2).1 (by omega)).trans HR2
  have b3 := b2.trans (hF3.below b2.size (fun g e => by omega))
  have hs23 := hF3.size
  have hv' := hv
  obtain ⟨p, ka, kc, ea, ec, rfl, hf, hk, he, hkf, hef, hO, hP, hap, hlo⟩ := hv'
  clear hO hP hap hlo hf hkf hef HR2 b2 hD2 hF3 hk he
  go_wp2_with fail
  have HP4 := heap_alloc_new w3 (.cells #[.int .i64 p.kind, .int .i64 p.tx, .int .i64 p.id, .int .i64 p.root, .int .i64 p.count, .slice ka p.ks.length kc, .slice ea p.es.length ec, .int .i64 p.next, .string p.data] 28)
  have hal : Below w3.heap.size w3 (w3.alloc (.cells #[.int .i64 p.kind, .int .i64 p.tx, .int .i64 p.id, .int .i64 p.root, .int .i64 p.count, .slice ka p.ks.length kc, .slice ea p.es.length ec, .int .i64 p.next, .string p.data] 28)) := (Below.refl _ _).alloc (Nat.le_refl _) _
  generalize w3.alloc (.cells #[.int .i64 p.kind, .int .i64 p.tx, .int .i64 p.id, .int .i64 p.root, .int .i64 p.count, .slice ka p.ks.length kc, .slice ea p.es.length ec, .int .i64 p.next, .string p.data] 28) = w4 at HP4 hal ⊢
  have HR4 := (hal.block _ (Array.getElem?_eq_some_iff.1 HR3).1).trans HR3
  have b4 := b3.trans (hal.mono b3.size)
  have hD4 := hD3.below hal
  have hv4 := hv.below hal
  have hs34 := hal.size
  have hRP : w.heap.size < w3.heap.size := (Array.getElem?_eq_some_iff.1 HR3).1
  have hCP : C < w3.heap.size := hD3.lt
  clear HR3 b3 hD3 hv hal
  generalize w3.heap.size = P at HP4 hRP hCP hs34 hs23 ⊢
  refine (l1Once_any C A B w4 hD4 5 (by omega) (by omega)).mono ?_
  rintro e w5 ⟨b, rfl, hD5, hF5⟩
  have HR5 := (hF5.block _ (Array.getElem?_eq_some_iff.1 HR4).1 (by omega)).trans HR4
  have HP5 := (hF5.block _ (Array.getElem?_eq_some_iff.1 HP4).1 (by omega)).trans HP4
  have b5 := b4.trans (hF5.below b4.size (fun g e => by omega))
  have hs45 := hF5.size
  have hv5 := hv4.fr hF5 (fun g e => by omega)
  clear HR4 HP4 b4 hD4 hF5 hv4
  obtain ⟨p0, p1, p2, p3, p4, p5, p6, p7, p8⟩ := box_page HP5
  cases b
  · obtain ⟨r0, r1, r2, r3, r4, r5, r6, r7, r8⟩ := box_page HR5
    have ff := box_thaw HR5
    have HB := put9D_box HR5 (.int .i64 p.kind) (.int .i64 p.tx) (.int .i64 p.id) (.int .i64 p.root) (.int .i64 p.count) (.slice ka p.ks.length kc) (.slice ea p.es.length ec) (.int .i64 p.next) (.string p.data)
    have hz := put9D_fr w5 w.heap.size (.int .i64 p.kind) (.int .i64 p.tx) (.int .i64 p.id) (.int .i64 p.root) (.int .i64 p.count) (.slice ka p.ks.length kc) (.slice ea p.es.length ec) (.int .i64 p.next) (.string p.data)
    have hbZ := b5.trans (hz.below b5.size (fun g e => by omega))
    have hvZ := (hv5.fr hz (fun g e => by omega)).weak (show w.heap.size ≤ w2.heap.size by omega) (show 20 ≤ 21 by omega) (fun p hp => by show (-1 : Int) ≤ p.tx; have := hp.1; omega)
    have HV : Hid _ := hvZ
    clear hvZ hv5 hz
    go_wp2
    show bodyPost _ _ _ _ _ (put9D w5 w.heap.size (.int .i64 p.kind) (.int .i64 p.tx) (.int .i64 p.id) (.int .i64 p.root) (.int .i64 p.count) (.slice ka p.ks.length kc) (.slice ea p.es.length ec) (.int .i64 p.next) (.string p.data))
    clear r0 r1 r2 r3 r4 r5 r6 r7 r8
    obtain ⟨r0, r1, r2, r3, r4, r5, r6, r7, r8⟩ := box_page HB
    refine bodyPost_ret (v := .agg #[.int .i64 p.kind, .int .i64 p.tx, .int .i64 p.id, .int .i64 p.root, .int .i64 p.count, .slice ka p.ks.length kc, .slice ea p.es.length ec, .int .i64 p.next, .string p.data]) (by simp [results, Try.results28, go_sem, r0, r1, r2, r3, r4, r5, r6, r7, r8]) rfl ?_
    exact ⟨_, rfl, HV.out, hbZ⟩
  · go_wp2_with fail
    refine (l2SpoilPage_any C A B w5 hD5 (w.heap.size + 1) w2.heap.size (by omega) hC2 (by omega) _ (hv5.weak (Nat.le_refl _) (Nat.le_refl _) (fun p hp => by show (0 : Int) ≤ p.tx; have := hp.1; omega))).mono ?_
    rintro e w6 ⟨v, rfl, hv6, hb6⟩
    have HR6 := (hb6.block _ (by omega)).trans HR5
    have b6 := b5.trans (hb6.mono (by omega))
    have hv6' := hv6
    clear p0 p1 p2 p3 p4 p5 p6 p7 p8 HP5 HR5 hD5 hv5 hb6 b5
    obtain ⟨p, ka, kc, ea, ec, rfl, hf, hk, he, hkf, hef, hO, hP, hap, hlo⟩ := hv6'
    clear hO hP hap hlo hf hkf hef hk he
    obtain ⟨r0, r1, r2, r3, r4, r5, r6, r7, r8⟩ := box_page HR6
    have ff := box_thaw HR6
    have HB := put9D_box HR6 (.int .i64 p.kind) (.int .i64 p.tx) (.int .i64 p.id) (.int .i64 p.root) (.int .i64 p.count) (.slice ka p.ks.length kc) (.slice ea p.es.length ec) (.int .i64 p.next) (.string p.data)
    have hz := put9D_fr w6 w.heap.size (.int .i64 p.kind) (.int .i64 p.tx) (.int .i64 p.id) (.int .i64 p.root) (.int .i64 p.count) (.slice ka p.ks.length kc) (.slice ea p.es.length ec) (.int .i64 p.next) (.string p.data)
    have hbZ := b6.trans (hz.below b6.size (fun g e => by omega))
    have hvZ := (hv6.fr hz (fun g e => by omega)).weak (show w.heap.size ≤ w2.heap.size by omega) (Nat.le_refl _) (fun p hp => hp)
    have HV : Hid _ := hvZ
    clear hvZ hv6 hz
    go_wp2
    show bodyPost _ _ _ _ _ (put9D w6 w.heap.size (.int .i64 p.kind) (.int .i64 p.tx) (.int .i64 p.id) (.int .i64 p.root) (.int .i64 p.count) (.slice ka p.ks.length kc) (.slice ea p.es.length ec) (.int .i64 p.next) (.string p.data))
    clear r0 r1 r2 r3 r4 r5 r6 r7 r8
    obtain ⟨r0, r1, r2, r3, r4, r5, r6, r7, r8⟩ := box_page HB
    refine bodyPost_ret (v := .agg #[.int .i64 p.kind, .int .i64 p.tx, .int .i64 p.id, .int .i64 p.root, .int .i64 p.count, .slice ka p.ks.length kc, .slice ea p.es.length ec, .int .i64 p.next, .string p.data]) (by simp [results, Try.results28, go_sem, r0, r1, r2, r3, r4, r5, r6, r7, r8]) rfl ?_
    exact ⟨_, rfl, HV.out, hbZ⟩
end Go.Proofs.Ytcmhobbpeaeebaa
namespace Go.Proofs.Ytcmhobbpeaeebaa
open Go.RowKit
set_option linter.unusedVariables false
set_option maxRecDepth 100000

def padB (n : Nat) (l : List Int) : List Int := l ++ List.replicate (n - l.length) 0
def sumI (l : List Int) : Int := l.foldl (· + ·) 0
def oldCode (p : Pg) : List Int :=
  padB 127 ([79, p.kind, ((p.ks.length + p.es.length : Nat) : Int)] ++ bodyB true p) ++ [sumI (padB 127 ([79, p.kind, ((p.ks.length + p.es.length : Nat) : Int)] ++ bodyB true p)) % 256]
def oldCodeOf (p : Pg) : List Int := if p.tx = 0 ∧ bodyOk 1 998 p = true then oldCode p else []

theorem body_count {low last : Int} {p : Pg} (h : bodyOk low last p = true) : p.ks.length + p.es.length ≤ 255 := by
  unfold bodyOk at h
  split at h
  · simp [metaOk] at h; have h1 := h.1.1.1.2; have h2 := h.1.1.2; simp [h1, h2]
  · split at h
    · have := (branch_sizes h).1; simp [branchOk] at h; have h2 := h.1.1.1.1.1.1.2; simp [h2]; omega
    · split at h
      · have := (leaf_sizes h).1; simp [leafOk] at h; have h2 := h.1.1.1.1.2; simp [h2]; omega
      · split at h
        · simp [overOk] at h; have h1 := h.1.1.1.1.2; have h2 := h.1.1.1.2; simp [h1, h2]
        · cases h
theorem body_kind {low last : Int} {p : Pg} (h : bodyOk low last p = true) : 0 ≤ p.kind ∧ p.kind ≤ 255 := by
  unfold bodyOk at h
  split at h
  · omega
  · split at h
    · omega
    · split at h
      · omega
      · split at h
        · omega
        · cases h
theorem textB_byte {s : ByteArray} (h : s.size ≤ 255) : ∀ x ∈ textB s, 0 ≤ x ∧ x ≤ 255 := by
  intro x hx
  rcases List.mem_cons.1 hx with rfl | hx
  · omega
  · exact strB_byte s x hx
theorem bytes_app {a b : List Int} (ha : ∀ x ∈ a, 0 ≤ x ∧ x ≤ 255) (hb : ∀ x ∈ b, 0 ≤ x ∧ x ≤ 255) : ∀ x ∈ a ++ b, 0 ≤ x ∧ x ≤ 255 := by
  intro x hx
  rcases List.mem_append.1 hx with h | h
  · exact ha x h
  · exact hb x h
theorem kidsB_byte (hi : Bool) (nw : Nat) (ks : List PK) : ∀ n, (∀ i, i < n → 0 < i → (ks.getD i dK).1.size ≤ 8) → ∀ x ∈ kidsB hi nw ks n, 0 ≤ x ∧ x ≤ 255
  | 0, _ => by intro x hx; cases hx
  | n + 1, h => by
    refine bytes_app (kidsB_byte hi nw ks n (fun i h1 h2 => h i (by omega) h2)) (bytes_app ?_ (numB_byte _ _ _))
    split
    · rename_i h0; exact textB_byte (by have := h n (by omega) h0; omega)
    · intro x hx; cases hx
theorem entsB_byte (hi : Bool) (nw : Nat) (es : List PE) : ∀ n, (∀ i, i < n → (es.getD i dE).1.size ≤ 8 ∧ (es.getD i dE).2.1.size ≤ 8) → ∀ x ∈ entsB hi nw es n, 0 ≤ x ∧ x ≤ 255
  | 0, _ => by intro x hx; cases hx
  | n + 1, h => by
    have h8 := h n (by omega)
    refine bytes_app (entsB_byte hi nw es n (fun i h1 => h i (by omega))) (bytes_app (bytes_app (textB_byte (by omega)) ?_) ?_)
    · split
      · intro x hx; have := List.eq_of_mem_replicate hx; omega
      · intro x hx; cases hx
    · split
      · intro x hx
        rcases List.mem_cons.1 hx with rfl | hx
        · omega
        · exact textB_byte (by omega) x hx
      · intro x hx
        rcases List.mem_cons.1 hx with rfl | hx
        · omega
        · exact bytes_app (numB_byte _ _ _) (numB_byte _ _ _) x hx
theorem bodyB_byte (hi : Bool) {low last : Int} {p : Pg} (h : bodyOk low last p = true) : ∀ x ∈ bodyB hi p, 0 ≤ x ∧ x ≤ 255 := by
  unfold bodyOk at h
  unfold bodyB
  split at h
  · rename_i h1; rw [if_pos h1]
    cases hi
    · exact bytes_app (bytes_app (bytes_app (leB_byte _ _) (leB_byte _ _)) (leB_byte _ _)) (by intro x hx; simp at hx; omega)
    · exact bytes_app (bytes_app (beB_byte _ _) (beB_byte _ _)) (beB_byte _ _)
  · rename_i h1
    rw [if_neg h1]
    split at h
    · rename_i h2; rw [if_pos h2]; exact kidsB_byte _ _ _ _ (branch_sizes h).2
    · rename_i h2; rw [if_neg h2]
      split at h
      · rename_i h3; rw [if_pos h3]; exact entsB_byte _ _ _ _ (leaf_sizes h).2
      · rename_i h3; rw [if_neg h3]
        split at h
        · rename_i h4; rw [if_pos h4]
          exact bytes_app (numB_byte _ _ _) (textB_byte (by have := over_size h; omega))
        · cases h
theorem bytesAt_row {w : World} {base n c : Nat} {a : Option Addr} {bs : List Int} (h : w.ownsRow base 5 1 (.slice a n c) n (u8s bs)) (hw : ∀ x ∈ bs, 0 ≤ x ∧ x ≤ 255) : BytesAt w base w.heap.size a n c bs := by
  have hn : n = bs.length := by have := h.1; simp [u8s] at this; omega
  subst hn
  obtain ⟨a', n', c', hv, hB⟩ := bytesAt_of_own h hw
  injection hv with h1 h2 h3
  subst h1 h2 h3
  exact hB

theorem getD_byteB {bs : List Int} (hw : ∀ x ∈ bs, 0 ≤ x ∧ x ≤ 255) (k : Nat) : 0 ≤ bs.getD k 0 ∧ bs.getD k 0 ≤ 255 := by
  by_cases h : k < bs.length
  · rw [show bs.getD k 0 = bs[k] by simp [List.getD, h]]; exact hw _ (List.getElem_mem h)
  · rw [show bs.getD k 0 = 0 by simp [List.getD, Nat.le_of_not_lt h]]; omega
theorem sumI_take {l : List Int} {k : Nat} (h : k < l.length) : sumI (l.take (k + 1)) = sumI (l.take k) + l.getD k 0 := by
  rw [sumI, ← List.take_append_getElem h, List.foldl_append]
  simp [sumI, List.getD, h]
end Go.Proofs.Ytcmhobbpeaeebaa
namespace Go.Proofs.Ytcmhobbpeaeebaa
open Go.RowKit
set_option linter.unusedVariables false
set_option maxRecDepth 100000

def crcBit (c : Int) : Int := if c % 2 = 1 then bits .xor .u32 (c / 2) 3988292384 else c / 2
def crcBits : Nat → Int → Int
  | 0, c => c
  | k + 1, c => crcBit (crcBits k c)
def crcByte (c x : Int) : Int := crcBits 8 (bits .xor .u32 c x)
def crcList (c : Int) (bs : List Int) : Int := bs.foldl crcByte c
theorem xor32_range (a b : Int) : 0 ≤ bits .xor .u32 a b ∧ bits .xor .u32 a b < 4294967296 := by
  unfold bits
  simp only [IntKind.wrap_u32']
  omega

theorem and1_u32 {q : Int} (h : 0 ≤ q ∧ q < 4294967296) : bits .and .u32 q 1 = q % 2 := by
  rw [u32_and q 1 h.1 h.2 (by omega) (by omega), show (1 : Int).toNat = 1 from rfl, nat_mask1]
  omega
theorem crcBit_range {c : Int} (h : 0 ≤ c ∧ c < 4294967296) : 0 ≤ crcBit c ∧ crcBit c < 4294967296 := by
  unfold crcBit
  split
  · exact xor32_range _ _
  · omega
theorem crcBits_range {c : Int} (h : 0 ≤ c ∧ c < 4294967296) : ∀ k, 0 ≤ crcBits k c ∧ crcBits k c < 4294967296
  | 0 => h
  | k + 1 => crcBit_range (crcBits_range h k)
theorem getD_byte {bs : List Int} (hw : ∀ x ∈ bs, 0 ≤ x ∧ x ≤ 255) (k : Nat) : 0 ≤ bs.getD k 0 ∧ bs.getD k 0 ≤ 255 := by
  by_cases h : k < bs.length
  · rw [show bs.getD k 0 = bs[k] by simp [List.getD, h]]; exact hw _ (List.getElem_mem h)
  · rw [show bs.getD k 0 = 0 by simp [List.getD, Nat.le_of_not_lt h]]; omega
theorem crcList_take {bs : List Int} {k : Nat} (h : k < bs.length) (c : Int) : crcList c (bs.take (k + 1)) = crcByte (crcList c (bs.take k)) (bs.getD k 0) := by
  rw [crcList, ← List.take_append_getElem h, List.foldl_append]
  simp [crcList, List.getD, h]
theorem crcList_range {c : Int} (h : 0 ≤ c ∧ c < 4294967296) (bs : List Int) : 0 ≤ crcList c bs ∧ crcList c bs < 4294967296 := by
  induction bs generalizing c with
  | nil => exact h
  | cons b r ih => exact ih (crcBits_range (xor32_range _ _) 8)

set_option maxHeartbeats 400000 in
theorem specCrc_any (c : Int) (hc : 0 ≤ c ∧ c < 4294967296) (a : Option Addr) (n cc : Nat) (bs : List Int) (w : World) (A B : Nat) (h : BytesAt w A B a n cc bs) :
    Calls Try.prog 45 #[.int .u32 c, .slice a n cc] w fun e w' => e = .returned (.int .u32 (bits .xor .u32 IntKind.u32.max (crcList (bits .xor .u32 IntKind.u32.max c) bs))) ∧ w' = w := by
  obtain ⟨hl, hnc, hcm, hw, hcell, _⟩ := h
  unfold maxLen at hcm
  go_enter Try.func45, Try.ntmps45
  have hsg : IntKind.u32.signed = false := rfl
  go_wp2_with fail
  have r0 := xor32_range IntKind.u32.max c
  generalize hc0 : bits .xor .u32 IntKind.u32.max c = c0 at r0 ⊢
  have HC0 : Hid (bits .xor .u32 IntKind.u32.max c = c0) := hc0
  clear hc0
  go_loopw [0, 5] (fun x i wr => ∃ k : Nat, ∃ y, k ≤ n ∧ i = .int .i64 k ∧ x = .int .u32 y ∧ wr = w ∧ (0 ≤ y ∧ y < 4294967296) ∧ y = crcList c0 (bs.take k)) (fun x i _ => n - (intOf i).toNat)
  case atStart => exact ⟨0, _, Nat.zero_le _, rfl, rfl, rfl, r0, rfl⟩
  case round =>
    obtain ⟨k, y, hk, rfl, rfl, rfl, hy, hyl⟩ := hrel
    have HY : Hid (y = crcList c0 (bs.take k)) := hyl
    clear hyl
    by_cases hlt : k < n
    · obtain ⟨b, off, rfl, hb, hcb⟩ := hcell (by omega)
      have e1 := hcb k hlt
      have hx := getD_byte hw k
      have HZ : Hid (crcList c0 (bs.take (k + 1)) = crcBits 8 (bits .xor .u32 y (bs.getD k 0))) := by
        rw [HY.out]; exact crcList_take (by omega) c0
      clear hcell hcb
      generalize bs.getD k 0 = x at e1 hx HZ
      have hx2 : x % 4294967296 = x := by omega
      have hz := xor32_range y x
      go_wp2_with fail
      generalize bits .xor .u32 y x = z at HZ hz ⊢
      go_loopw [0, 6] (fun x i wr' => ∃ j : Nat, ∃ q, j ≤ 8 ∧ i = .int .i64 j ∧ x = .int .u32 q ∧ wr' = wr ∧ (0 ≤ q ∧ q < 4294967296) ∧ q = crcBits j z) (fun x i _ => 8 - (intOf i).toNat)
      case atStart => exact ⟨0, _, Nat.zero_le _, rfl, rfl, rfl, hz, rfl⟩
      case round =>
        obtain ⟨j, q, hj, rfl, rfl, rfl, hq, hql⟩ := hrel
        have HQ : Hid (q = crcBits j z) := hql
        clear hql
        by_cases hlj : j < 8
        · by_cases hp : q % 2 = 1
          · have HC : Hid (bits .xor .u32 (q / 2) 3988292384 = crcBits (j + 1) z) := by show _ = crcBit _; rw [← HQ.out, crcBit, if_pos hp]
            go_wp2
            go_roundw
            case rel => exact ⟨j + 1, _, by omega, by go_num, rfl, trivial, xor32_range _ _, HC.out⟩
            case measure => simp [intOf]; omega
          · have HC : Hid (q / 2 = crcBits (j + 1) z) := by show _ = crcBit _; rw [← HQ.out, crcBit, if_neg hp]
            go_wp2
            go_roundw
            case rel => exact ⟨j + 1, _, by omega, by go_num, rfl, trivial, by omega, HC.out⟩
            case measure => simp [intOf]; omega
        · have HJ : Hid (j = 8) := (by omega : j = 8)
          go_wp2
          go_roundw
          case rel => exact ⟨k + 1, q, by omega, by go_num, rfl, trivial, hq, by rw [HZ.out, HQ.out, HJ.out]⟩
          case measure => simp [intOf]; omega
    · go_wp2
      go_ret
      have HN : y = crcList c0 bs := by rw [HY.out, List.take_of_length_le (by omega)]
      rw [HC0.out, ← HN]
      exact ⟨rfl, rfl⟩

set_option maxHeartbeats 400000 in
theorem implCrc_any (c : Int) (hc : 0 ≤ c ∧ c < 4294967296) (a : Option Addr) (n cc : Nat) (bs : List Int) (w : World) (A B : Nat) (h : BytesAt w A B a n cc bs) :
    Calls Try.prog 62 #[.int .u32 c, .slice a n cc] w fun e w' => e = .returned (.int .u32 (bits .xor .u32 IntKind.u32.max (crcList (bits .xor .u32 IntKind.u32.max c) bs))) ∧ w' = w := by
  obtain ⟨hl, hnc, hcm, hw, hcell, _⟩ := h
  unfold maxLen at hcm
  go_enter Try.func62, Try.ntmps62
  have hsg : IntKind.u32.signed = false := rfl
  go_wp2_with fail
  have r0 := xor32_range IntKind.u32.max c
  generalize hc0 : bits .xor .u32 IntKind.u32.max c = c0 at r0 ⊢
  have HC0 : Hid (bits .xor .u32 IntKind.u32.max c = c0) := hc0
  clear hc0
  go_loopw [0, 11] (fun x i wr => ∃ k : Nat, ∃ y, k ≤ n ∧ i = .int .i64 k ∧ x = .int .u32 y ∧ wr = w ∧ (0 ≤ y ∧ y < 4294967296) ∧ y = crcList c0 (bs.take k)) (fun x i _ => n - (intOf i).toNat)
  case atStart => exact ⟨0, _, Nat.zero_le _, rfl, rfl, rfl, r0, rfl⟩
  case round =>
    obtain ⟨k, y, hk, rfl, rfl, rfl, hy, hyl⟩ := hrel
    have HY : Hid (y = crcList c0 (bs.take k)) := hyl
    clear hyl
    by_cases hlt : k < n
    · obtain ⟨b, off, rfl, hb, hcb⟩ := hcell (by omega)
      have e1 := hcb k hlt
      have hx := getD_byte hw k
      have HZ : Hid (crcList c0 (bs.take (k + 1)) = crcBits 8 (bits .xor .u32 y (bs.getD k 0))) := by
        rw [HY.out]; exact crcList_take (by omega) c0
      clear hcell hcb
      generalize bs.getD k 0 = x at e1 hx HZ
      have hx2 : x % 4294967296 = x := by omega
      have hz := xor32_range y x
      go_wp2_with fail
      generalize bits .xor .u32 y x = z at HZ hz ⊢
      go_loopw [0, 19] (fun x i wr' => ∃ j : Nat, ∃ q, j ≤ 8 ∧ i = .int .i64 j ∧ x = .int .u32 q ∧ wr' = wr ∧ (0 ≤ q ∧ q < 4294967296) ∧ q = crcBits j z) (fun x i _ => 8 - (intOf i).toNat)
      case atStart => exact ⟨0, _, Nat.zero_le _, rfl, rfl, rfl, hz, rfl⟩
      case round =>
        obtain ⟨j, q, hj, rfl, rfl, rfl, hq, hql⟩ := hrel
        have HQ : Hid (q = crcBits j z) := hql
        clear hql
        by_cases hlj : j < 8
        · by_cases hp : q % 2 = 1
          · have hand : bits .and .u32 q 1 = q % 2 := and1_u32 hq
            have HC : Hid (bits .xor .u32 (q / 2) 3988292384 = crcBits (j + 1) z) := by show _ = crcBit _; rw [← HQ.out, crcBit, if_pos hp]
            go_wp2
            go_roundw
            case rel => exact ⟨j + 1, _, by omega, by go_num, rfl, trivial, xor32_range _ _, HC.out⟩
            case measure => simp [intOf]; omega
          · have hand : bits .and .u32 q 1 = q % 2 := and1_u32 hq
            have HC : Hid (q / 2 = crcBits (j + 1) z) := by show _ = crcBit _; rw [← HQ.out, crcBit, if_neg hp]
            go_wp2
            go_roundw
            case rel => exact ⟨j + 1, _, by omega, by go_num, rfl, trivial, by omega, HC.out⟩
            case measure => simp [intOf]; omega
        · have HJ : Hid (j = 8) := (by omega : j = 8)
          go_wp2
          go_roundw
          case rel => exact ⟨k + 1, q, by omega, by go_num, rfl, trivial, hq, by rw [HZ.out, HQ.out, HJ.out]⟩
          case measure => simp [intOf]; omega
    · go_wp2
      go_ret
      have HN : y = crcList c0 bs := by rw [HY.out, List.take_of_length_le (by omega)]
      rw [HC0.out, ← HN]
      exact ⟨rfl, rfl⟩
end Go.Proofs.Ytcmhobbpeaeebaa
namespace Go.Proofs.Ytcmhobbpeaeebaa
open Go.RowKit
set_option linter.unusedVariables false
set_option maxRecDepth 100000

theorem l2New_any (w : World) : Calls Try.prog 44 #[] w fun e w' => e = .returned (.agg #[.bool false, .int .i64 4, .bool false]) ∧ Below w.heap.size w w' := by
  go_enter Try.func44, Try.ntmps44
  go_wp2
  exact bodyPost_ret (v := .agg #[.bool false, .int .i64 4, .bool false]) (by simp [results, Try.results44, go_sem]) rfl ⟨rfl, by first | exact Below.refl _ _ | exact (Below.refl _ _).alloc (Nat.le_refl _) _⟩

def crcOf (l : List Int) : Int := bits .xor .u32 IntKind.u32.max (crcList (bits .xor .u32 IntKind.u32.max 0) l)
theorem specCrc0 (a : Option Addr) (n cc : Nat) (bs : List Int) (w : World) (A B : Nat) (h : BytesAt w A B a n cc bs) :
    Calls Try.prog 45 #[.int .u32 0, .slice a n cc] w fun e w' => e = .returned (.int .u32 (crcOf bs)) ∧ w' = w := specCrc_any 0 (by omega) a n cc bs w A B h
theorem crcOf_range (l : List Int) : 0 ≤ crcOf l ∧ crcOf l < 4294967296 := xor32_range _ _
def newHead (p : Pg) : List Int := leB 4 p.tx ++ [p.kind, ((p.ks.length + p.es.length : Nat) : Int), 0, 0] ++ bodyB false p
def sealN (tx : Int) (l : List Int) : List Int := padB 120 l ++ leB 4 (crcOf (padB 120 l)) ++ leB 4 tx
def newCodeOf (p : Pg) : List Int := if inB 1 2000000000 p.tx = true ∧ bodyOk 2 999 p = true then sealN p.tx (newHead p) else []

set_option maxHeartbeats 1600000 in
theorem specEncodePage_any (p : Pg) (hf : PgFit p) (htx : I64 p.tx) (ka : Option Addr) (kc : Nat) (ea : Option Addr) (ec : Nat) (w : World) (A B : Nat) (hB : B ≤ w.heap.size) (hK : KidsAt w A B ka p.ks.length kc p.ks) (hE : EntsAt w A B ea p.es.length ec p.es) :
    Calls Try.prog 9 #[.agg #[.int .i64 p.kind, .int .i64 p.tx, .int .i64 p.id, .int .i64 p.root, .int .i64 p.count, .slice ka p.ks.length kc, .slice ea p.es.length ec, .int .i64 p.next, .string p.data]] w fun e w' => ∃ v, e = .returned v ∧ w'.ownsRow w.heap.size 5 1 v (newCodeOf p).length (u8s (newCodeOf p)) ∧ Below w.heap.size w w' := by
  have hb0 : Below w.heap.size w (w.alloc (.cells #[.int .i64 p.kind, .int .i64 p.tx, .int .i64 p.id, .int .i64 p.root, .int .i64 p.count, .slice ka p.ks.length kc, .slice ea p.es.length ec, .int .i64 p.next, .string p.data] 28)) := (Below.refl _ _).alloc (Nat.le_refl _) _
  have HX0 := heap_alloc_new w (.cells #[.int .i64 p.kind, .int .i64 p.tx, .int .i64 p.id, .int .i64 p.root, .int .i64 p.count, .slice ka p.ks.length kc, .slice ea p.es.length ec, .int .i64 p.next, .string p.data] 28)
  by_cases hin : inB 1 2000000000 p.tx = true
  · have hd : decide (1 ≤ p.tx ∧ p.tx ≤ 2000000000) = true := hin
    by_cases hok : bodyOk 2 999 p = true
    · go_enter Try.func9, Try.ntmps9
      go_wp2_with fail
      refine (l1In_any p.tx 1 2000000000 _).mono ?_
      rw [hd]
      rintro e w0 ⟨rfl, rfl⟩
      go_wp2_with fail
      refine (l2Body_any p hf ka kc ea ec 2 999 (by omega) _ A B (by simp; omega) (hK.below (hb0.mono hB)) (hE.below (hb0.mono hB))).mono ?_
      rw [hok]
      rintro e w1 ⟨rfl, hb1⟩
      have hB2 := hb0.trans (hb1.mono (by simp))
      have HX1 := eb_call HX0 hb1
      obtain ⟨c5, c6, c0, c2, c3, c4, c7, c8, c1⟩ := box_slice HX1
      go_wp2_with fail
      have hcnt := body_count hok
      have hkd := body_kind hok
      have hkw : IntKind.u8.wrap p.kind = p.kind := u8_in p.kind hkd
      have hlen := bodyB_len false hok
      go_region_held3 (fun w' => w'.cell? ⟨w.heap.size, 0, none⟩ = some (.int .i64 p.kind) ∧ w'.cell? ⟨w.heap.size, 1, none⟩ = some (.int .i64 p.tx) ∧ w'.cell? ⟨w.heap.size, 2, none⟩ = some (.int .i64 p.id) ∧ w'.cell? ⟨w.heap.size, 3, none⟩ = some (.int .i64 p.root) ∧ w'.cell? ⟨w.heap.size, 4, none⟩ = some (.int .i64 p.count) ∧ w'.cell? ⟨w.heap.size, 5, none⟩ = some (.slice ka p.ks.length kc) ∧ w'.cell? ⟨w.heap.size, 6, none⟩ = some (.slice ea p.es.length ec) ∧ w'.cell? ⟨w.heap.size, 7, none⟩ = some (.int .i64 p.next) ∧ w'.cell? ⟨w.heap.size, 8, none⟩ = some (.string p.data)) (go_keep)
        (first
          | (refine step_ab rfl _ _ rfl (w.heap.size + 1) _ 4 (numB false 4 p.tx) (by simp [Act.eval]) hR3 (some ⟨w3.heap.size, 0, none⟩) 4 4 [p.kind, ((p.ks.length + p.es.length : Nat) : Int), 0, 0] _ _ (by simp [Act.eval]) hL3 (by omega) (Array.getElem?_eq_some_iff.1 HX3').1 ?_; intro v4 w4 hO4 hg4; have HX4 := eb_grown HX3' (by decide) hR3 hg4; have hB5 := hB4'.grown hg4 hB4'.size (fun g e => Nat.le_of_succ_le (hR3.lt g e).1); obtain ⟨k5, k6, k0, k2, k3, k4, k7, k8, k1⟩ := box_slice HX4)
          | (go_at_call 41; refine (l2Count_any p ka p.ks.length kc ea p.es.length ec hcnt w2).mono ?_; rintro e w3 ⟨rfl, hb3⟩; have HX3 := eb_call HX2 hb3; have hB4 := hB3.trans (hb3.mono hB3.size); have hL3 := bytesAt_lit4 w3 p.kind ((p.ks.length + p.es.length : Nat) : Int) 0 0 (by intro x hx; simp at hx; omega); have hba : Below w3.heap.size w3 (w3.alloc (.cells #[.int .u8 p.kind, .int .u8 ((p.ks.length + p.es.length : Nat) : Int), .int .u8 0, .int .u8 0] 5)) := (Below.refl _ _).alloc (Nat.le_refl _) _; have hR3 := owns_below (owns_below hR2 hb3) hba; have HX3' := eb_call HX3 hba; have hB4' := hB4.trans (hba.mono hB4.size); obtain ⟨k5, k6, k0, k2, k3, k4, k7, k8, k1⟩ := box_slice HX3)
          | (go_at_call 40; refine (l2Put_any false p.tx htx 4 (by omega) w1.drew).mono ?_; rintro e w2 ⟨a2, r2, rfl, hR2', _, hb2⟩; have hR2 := owns_base (base' := w.heap.size + 1) hR2' (Array.getElem?_eq_some_iff.1 HX1).1; have HX2 := eb_call (w' := w1.drew) HX1 hb2; have hB3 := hB2.drew.trans (hb2.mono hB2.size); obtain ⟨k5, k6, k0, k2, k3, k4, k7, k8, k1⟩ := box_slice HX2))
      have hO4 : w4.ownsRow (w.heap.size + 1) 5 1 v4 8 (u8s (numB false 4 p.tx ++ [p.kind, ((p.ks.length + p.es.length : Nat) : Int), 0, 0])) := hO4
      obtain ⟨a4, r4, rfl⟩ := own_shape hO4
      have hby0 : ∀ x ∈ numB false 4 p.tx ++ [p.kind, ((p.ks.length + p.es.length : Nat) : Int), 0, 0], 0 ≤ x ∧ x ≤ 255 := bytes_app (numB_byte _ _ _) (by intro x hx; simp at hx; omega)
      have HH : Hid (newHead p = (numB false 4 p.tx ++ [p.kind, ((p.ks.length + p.es.length : Nat) : Int), 0, 0]) ++ bodyB false p) := rfl
      have hl0 : (numB false 4 p.tx ++ [p.kind, ((p.ks.length + p.es.length : Nat) : Int), 0, 0]).length = 8 := by simp [numB_len]
      generalize numB false 4 p.tx ++ [p.kind, ((p.ks.length + p.es.length : Nat) : Int), 0, 0] = l0 at hO4 hby0 HH hl0
      clear hcnt hkd hkw hR2' hb2 hR2 HX2 hB3 hb3 HX3 hB4 hL3 hba hR3 HX3' hB4' hg4 HX1 hB2 hb1 c0 c1 c2 c3 c4 c5 c6 c7 c8
      go_wp2_with fail
      go_region_held3 (fun w' => w'.cell? ⟨w.heap.size, 0, none⟩ = some (.int .i64 p.kind) ∧ w'.cell? ⟨w.heap.size, 1, none⟩ = some (.int .i64 p.tx) ∧ w'.cell? ⟨w.heap.size, 2, none⟩ = some (.int .i64 p.id) ∧ w'.cell? ⟨w.heap.size, 3, none⟩ = some (.int .i64 p.root) ∧ w'.cell? ⟨w.heap.size, 4, none⟩ = some (.int .i64 p.count) ∧ w'.cell? ⟨w.heap.size, 5, none⟩ = some (.slice ka p.ks.length kc) ∧ w'.cell? ⟨w.heap.size, 6, none⟩ = some (.slice ea p.es.length ec) ∧ w'.cell? ⟨w.heap.size, 7, none⟩ = some (.int .i64 p.next) ∧ w'.cell? ⟨w.heap.size, 8, none⟩ = some (.string p.data)) (go_keep)
        (first
          | (go_at_call 42; refine (l2Zeros_any v7 (8 + m6) 120 (w.heap.size + 1) (l0 ++ bodyB false p) hl7 hm7 (by omega) w7 hO7 hs7).mono ?_; rintro e w8 ⟨v8, rfl, hO8, hb8⟩; have HX8 := (hb8.block w.heap.size (Nat.lt_succ_self _)).trans HX7; have hB9 := hB8.trans (hb8.mono (Nat.le_succ _)); obtain ⟨k5, k6, k0, k2, k3, k4, k7, k8, k1⟩ := box_slice HX8)
          | (refine step_ab rfl _ _ rfl (w.heap.size + 1) _ 8 l0 (by simp [Act.eval]) hR6 a6 m6 c6 (bodyB false p) _ _ (by simp [Act.eval]) hBW (by have := hBW.1; omega) hs6 ?_; intro v7 w7 hO7 hg7; have HX7 := eb_grown HX6 (by decide) hR6 hg7; have hB8 := hB7.grown hg7 hB7.size (fun g e => Nat.le_of_succ_le (hR6.lt g e).1); have hs7 : w.heap.size + 1 ≤ w7.heap.size := (Array.getElem?_eq_some_iff.1 HX7).1; obtain ⟨k5, k6, k0, k2, k3, k4, k7, k8, k1⟩ := box_slice HX7)
          | (go_at_call 43; refine (l2WriteBody_any false p hf 2 999 hok ka kc ea ec w5 A B (Nat.le_trans hB hB6.size) (hK.below (hB6.mono hB)) (hE.below (hB6.mono hB))).mono ?_; rintro e w6 ⟨v6, m6, rfl, hO6, hb6⟩; obtain ⟨a6, c6, rfl⟩ := own_shape hO6; have hBW := bytesAt_row hO6 (bodyB_byte false hok); have hR6 := owns_below hR5 hb6; have HX6 := eb_call HX5 hb6; have hB7 := hB6.trans (hb6.mono hB6.size); have hs6 : w.heap.size + 1 ≤ w6.heap.size := (Array.getElem?_eq_some_iff.1 HX6).1; have hl7 : (l0 ++ bodyB false p).length = 8 + m6 := (by rw [List.length_append]; have := hBW.1; omega); have hm7 : 8 + m6 ≤ 120 := (by have := hBW.1; omega); obtain ⟨k5, k6, k0, k2, k3, k4, k7, k8, k1⟩ := box_slice HX6)
          | (go_at_call 44; refine (l2New_any w4.drew).mono ?_; rintro e w5 ⟨rfl, hb5⟩; have hR5 := owns_below (w := w4.drew) hO4 hb5; have HX5 := eb_call (w' := w4.drew) HX4 hb5; have hB6 := hB5.drew.trans (hb5.mono hB5.size); obtain ⟨k5, k6, k0, k2, k3, k4, k7, k8, k1⟩ := box_slice HX5))
      obtain ⟨a8, c8', rfl⟩ := own_shape hO8
      have HPL : Hid (padB 120 (newHead p) = l0 ++ bodyB false p ++ List.replicate (120 - (8 + m6)) 0) := by show padB 120 (newHead p) = _; rw [HH.out, padB, hl7]
      have hl8 : (l0 ++ bodyB false p ++ List.replicate (120 - (8 + m6)) (0 : Int)).length = 120 := by rw [List.length_append, hl7, List.length_replicate]; omega
      have hby8 : ∀ x ∈ l0 ++ bodyB false p ++ List.replicate (120 - (8 + m6)) (0 : Int), 0 ≤ x ∧ x ≤ 255 := bytes_app (bytes_app hby0 (bodyB_byte false hok)) (by intro x hx; have := List.eq_of_mem_replicate hx; omega)
      generalize l0 ++ bodyB false p ++ List.replicate (120 - (8 + m6)) (0 : Int) = l1 at hO8 HPL hl8 hby8
      clear hlen hR5 HX5 hB6 hb5 hO6 hb6 hBW hR6 HX6 hB7 hs6 hl7 hm7 hO7 hg7 HX7 hB8 hs7 hb8 hO4 hB5 HX4 hby0 hl0
      have hBA := bytesAt_row hO8 hby8
      have hcr := crcOf_range l1
      have hcw : IntKind.i64.wrap (crcOf l1) = crcOf l1 := by rw [IntKind.wrap_i64]; omega
      have hci : I64 (crcOf l1) := by unfold I64; omega
      have HCR : Hid (sealN p.tx (newHead p) = l1 ++ leB 4 (crcOf l1) ++ leB 4 p.tx) := by show sealN p.tx (newHead p) = _; rw [sealN, HPL.out]
      generalize hcq : crcOf l1 = q at hcr hcw hci HCR
      go_wp2_with fail
      refine (specCrc0 a8 120 c8' l1 w8 _ _ hBA).mono ?_
      rw [hcq]
      rintro e w9 ⟨rfl, hw9⟩
      subst hw9
      go_wp2_with fail
      refine (l2Put_any false q hci 4 (by omega) w9).mono ?_
      rintro e w10 ⟨a10, c10, rfl, _, hBW, hb10⟩
      have hR10 := owns_below hO8 hb10
      have HX10 := eb_call HX8 hb10
      have hB11 := hB9.trans (hb10.mono hB9.size)
      have hs10 : w.heap.size + 1 ≤ w10.heap.size := (Array.getElem?_eq_some_iff.1 HX10).1
      clear hO8 HX8 hB9 hb10 hBA
      go_wp2_with (at_builtin; refine wpList_ab rfl _ _ rfl (w.heap.size + 1) _ 120 l1 rfl hR10 a10 4 c10 (numB false 4 q) _ _ rfl hBW (by omega) hs10 ?_; intro v11 w11 hO11' hg11; have hO11 : w11.ownsRow (w.heap.size + 1) 5 1 v11 124 (u8s (l1 ++ numB false 4 q)) := hO11'; have HX11 := eb_grown HX10 (by decide) hR10 hg11; have hB12 := hB11.grown hg11 hB11.size (fun g e => Nat.le_of_succ_le (hR10.lt g e).1); obtain ⟨a11, c11, rfl⟩ := own_shape hO11; obtain ⟨k5, k6, k0, k2, k3, k4, k7, k8, k1⟩ := box_slice HX11)
      clear hR10 HX10 hB11 hs10 hg11 hBW hO11'
      refine (l2Put_any false p.tx htx 4 (by omega) w11).mono ?_
      rintro e w12 ⟨a12, c12, rfl, _, hBW, hb12⟩
      have hR12 := owns_below hO11 hb12
      have HX12 := eb_call HX11 hb12
      have hB13 := hB12.trans (hb12.mono hB12.size)
      have hs12 : w.heap.size + 1 ≤ w12.heap.size := (Array.getElem?_eq_some_iff.1 HX12).1
      clear hO11 HX11 hB12 hb12 k0 k1 k2 k3 k4 k5 k6 k7 k8
      go_wp2_with (at_builtin; refine wpList_ab rfl _ _ rfl (w.heap.size + 1) _ 124 (l1 ++ numB false 4 q) rfl hR12 a12 4 c12 (numB false 4 p.tx) _ _ rfl hBW (by omega) hs12 ?_; intro v13 w13 hO13 hg13)
      go_ret
      have hB14 := hB13.grown hg13 hB13.size (fun g e => Nat.le_of_succ_le (hR12.lt g e).1)
      refine ⟨_, rfl, ?_, hB14⟩
      rw [newCodeOf, if_pos ⟨hin, hok⟩, HCR.out]
      have hll : (l1 ++ leB 4 q ++ leB 4 p.tx).length = 128 := by simp [leB_len, hl8]
      rw [hll]
      exact owns_base hO13 (Nat.le_succ _)
    · have hok' : bodyOk 2 999 p = false := by simpa using hok
      go_enter Try.func9, Try.ntmps9
      go_wp2_with fail
      refine (l1In_any p.tx 1 2000000000 _).mono ?_
      rw [hd]
      rintro e w0 ⟨rfl, rfl⟩
      go_wp2_with fail
      refine (l2Body_any p hf ka kc ea ec 2 999 (by omega) _ A B (by simp; omega) (hK.below (hb0.mono hB)) (hE.below (hb0.mono hB))).mono ?_
      rw [hok']
      rintro e w1 ⟨rfl, hb1⟩
      have hB2 := hb0.trans (hb1.mono (by simp))
      go_wp2
      go_ret
      refine ⟨_, rfl, ?_, hB2.alloc hB2.size _⟩
      rw [newCodeOf, if_neg (fun h => hok h.2)]
      exact World.ownsRow_made w1 #[] 0 hB2.size (by unfold maxLen; omega) (by simp)
  · have hd : decide (1 ≤ p.tx ∧ p.tx ≤ 2000000000) = false := by simpa [inB] using hin
    go_enter Try.func9, Try.ntmps9
    go_wp2_with fail
    refine (l1In_any p.tx 1 2000000000 _).mono ?_
    rw [hd]
    rintro e w0 ⟨rfl, rfl⟩
    go_wp2
    go_ret
    refine ⟨_, rfl, ?_, hb0.alloc (by simp) _⟩
    rw [newCodeOf, if_neg (fun h => hin h.1)]
    have h := World.ownsRow_made (base := w.heap.size) (e := 5) (size := 1) (w.alloc (.cells #[.int .i64 p.kind, .int .i64 p.tx, .int .i64 p.id, .int .i64 p.root, .int .i64 p.count, .slice ka p.ks.length kc, .slice ea p.es.length ec, .int .i64 p.next, .string p.data] 28)) #[] 0 (by simp) (by unfold maxLen; omega) (by simp)
    simpa [u8s] using h
end Go.Proofs.Ytcmhobbpeaeebaa
