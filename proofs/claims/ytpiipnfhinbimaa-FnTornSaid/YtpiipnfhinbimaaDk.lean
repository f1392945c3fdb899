import Derived.Test.YtpiipnfhinbimaaDh
namespace Go.Proofs.Ytpiipnfhinbimaa
open Go.RowKit
set_option linter.unusedVariables false
set_option maxRecDepth 100000

theorem DPg.fr {w w' : World} {T m : Nat} {lo : Int} {v : Value} {F : Nat → Prop} (h : DPg w T m lo v) (hF : Fr F w w') (hS : ∀ g, F g → g < T) : DPg w' T m lo v := by
  obtain ⟨p, ka, kc, ea, ec, rfl, hf, hk, he, hkf, hef, hO, hP, hap, hlo⟩ := h
  exact ⟨p, ka, kc, ea, ec, rfl, hf, hk, he, hkf, hef, owns_fr hO hF (fun g e e' => by have := (hO.lt g e).1; have := hS g e'; omega), owns_fr hP hF (fun g e e' => by have := (hP.lt g e).1; have := hS g e'; omega), hap, hlo⟩
theorem DPg.below {w w' : World} {T m : Nat} {lo : Int} {v : Value} (h : DPg w T m lo v) (hb : Below w.heap.size w w') : DPg w' T m lo v := by
  obtain ⟨p, ka, kc, ea, ec, rfl, hf, hk, he, hkf, hef, hO, hP, hap, hlo⟩ := h
  exact ⟨p, ka, kc, ea, ec, rfl, hf, hk, he, hkf, hef, owns_below hO hb, owns_below hP hb, hap, hlo⟩
theorem DPg.weak {w : World} {T T' m m' : Nat} {lo lo' : Int} {v : Value} (h : DPg w T m lo v) (hT : T' ≤ T) (hm : m ≤ m') (hl : lo' ≤ lo) : DPg w T' m' lo' v := by
  obtain ⟨p, ka, kc, ea, ec, rfl, hf, hk, he, hkf, hef, hO, hP, hap, hlo⟩ := h
  exact ⟨p, ka, kc, ea, ec, rfl, hf, by omega, by omega, hkf, hef, own_lowerD hO hT, own_lowerD hP hT, hap, by omega⟩
set_option maxHeartbeats 1600000 in
theorem drawEncodePage_any (a : Option Addr) (n c : Nat) (bs : List Int) (w : World) (A B : Nat) (hB : B ≤ w.heap.size) (h : BytesAt w A B a n c bs) :
    Calls Try.prog 23 #[.slice a n c] w fun e w' => ∃ v, e = .returned v ∧ DPg w' w.heap.size 21 (-1) v ∧ Below w.heap.size w w' := by
  go_enter Try.func23, Try.ntmps23
  go_wp2_with fail
  have HR0 := heap_alloc_new w (.cells #[.int .i64 0, .int .i64 0, .int .i64 0, .int .i64 0, .int .i64 0, .slice none 0 0, .slice none 0 0, .int .i64 0, .string ⟨#[]⟩] 48)
  have hb0 : Below w.heap.size w (w.alloc (.cells #[.int .i64 0, .int .i64 0, .int .i64 0, .int .i64 0, .int .i64 0, .slice none 0 0, .slice none 0 0, .int .i64 0, .string ⟨#[]⟩] 48)) := (Below.refl _ _).alloc (Nat.le_refl _) _
  have h0 := h.below (hb0.mono hB)
  generalize w.alloc (.cells #[.int .i64 0, .int .i64 0, .int .i64 0, .int .i64 0, .int .i64 0, .slice none 0 0, .slice none 0 0, .int .i64 0, .string ⟨#[]⟩] 48) = w0 at HR0 hb0 h0 ⊢
  have hR0 : w.heap.size < w0.heap.size := (Array.getElem?_eq_some_iff.1 HR0).1
  refine (l1New_any a n c bs w0 A B (Nat.le_trans hB hb0.size) h0).mono ?_
  rintro e w1 ⟨C, rfl, hC, hD1, hb1⟩
  have HR1 := (hb1.block _ hR0).trans HR0
  have b1 := hb0.trans (hb1.mono hb0.size)
  clear HR0 hb0 h0 hb1 h
  have hRC : w.heap.size < C := by omega
  clear hC
  go_wp2_with fail
  refine (l2DrawTx_any C A B w1 hD1).mono ?_
  rintro e w2 ⟨tx, rfl, htx, hD2, hF2⟩
  have HR2 := (hF2.block _ (Array.getElem?_eq_some_iff.1 HR1).1 (by omega)).trans HR1
  have b2 := b1.trans (hF2.below b1.size (fun g e => by omega))
  clear HR1 b1 hD1 hF2
  go_wp2_with fail
  have hC2 := hD2.lt
  refine (l2DrawPage_any C A B w2 hD2 2 999 tx (by omega) (by omega) htx).mono ?_
  rintro e w3 ⟨v, rfl, hv, hD3, hF3⟩
  have HR3 := (hF3.block _ (Array.getElem?_eq_some_iff.1 HR2).1 (by omega)).trans HR2
  have b3 := b2.trans (hF3.below b2.size (fun g e => by omega))
  have hs23 := hF3.size
  have hv' := hv
  obtain ⟨p, ka, kc, ea, ec, rfl, hf, hk, he, hkf, hef, hO, hP, hap, hlo⟩ := hv'
  clear hO hP hap hlo hf hkf hef HR2 b2 hD2 hF3 hk he
  go_wp2_with fail
  have HP4 := heap_alloc_new w3 (.cells #[.int .i64 p.kind, .int .i64 p.tx, .int .i64 p.id, .int .i64 p.root, .int .i64 p.count, .slice ka p.ks.length kc, .slice ea p.es.length ec, .int .i64 p.next, .string p.data] 48)
  have hal : Below w3.heap.size w3 (w3.alloc (.cells #[.int .i64 p.kind, .int .i64 p.tx, .int .i64 p.id, .int .i64 p.root, .int .i64 p.count, .slice ka p.ks.length kc, .slice ea p.es.length ec, .int .i64 p.next, .string p.data] 48)) := (Below.refl _ _).alloc (Nat.le_refl _) _
  generalize w3.alloc (.cells #[.int .i64 p.kind, .int .i64 p.tx, .int .i64 p.id, .int .i64 p.root, .int .i64 p.count, .slice ka p.ks.length kc, .slice ea p.es.length ec, .int .i64 p.next, .string p.data] 48) = w4 at HP4 hal ⊢
  have HR4 := (hal.block _ (Array.getElem?_eq_some_iff.1 HR3).1).trans HR3
  have b4 := b3.trans (hal.mono b3.size)
  have hD4 := hD3.below hal
  have hv4 := hv.below hal
  have hs34 := hal.size
  have hRP : w.heap.size < w3.heap.size := (Array.getElem?_eq_some_iff.1 HR3).1
  have hCP : C < w3.heap.size := hD3.lt
  clear HR3 b3 hD3 hv hal
  generalize w3.heap.size = P at HP4 hRP hCP hs34 hs23 ⊢
  refine (l1Once_any C A B w4 hD4 5 (by omega) (by omega)).mono ?_
  rintro e w5 ⟨b, rfl, hD5, hF5⟩
  have HR5 := (hF5.block _ (Array.getElem?_eq_some_iff.1 HR4).1 (by omega)).trans HR4
  have HP5 := (hF5.block _ (Array.getElem?_eq_some_iff.1 HP4).1 (by omega)).trans HP4
  have b5 := b4.trans (hF5.below b4.size (fun g e => by omega))
  have hs45 := hF5.size
  have hv5 := hv4.fr hF5 (fun g e => by omega)
  clear HR4 HP4 b4 hD4 hF5 hv4
  obtain ⟨p0, p1, p2, p3, p4, p5, p6, p7, p8⟩ := box_page HP5
  cases b
  · obtain ⟨r0, r1, r2, r3, r4, r5, r6, r7, r8⟩ := box_page HR5
    have ff := box_thaw HR5
    have HB := put9D_box HR5 (.int .i64 p.kind) (.int .i64 p.tx) (.int .i64 p.id) (.int .i64 p.root) (.int .i64 p.count) (.slice ka p.ks.length kc) (.slice ea p.es.length ec) (.int .i64 p.next) (.string p.data)
    have hz := put9D_fr w5 w.heap.size (.int .i64 p.kind) (.int .i64 p.tx) (.int .i64 p.id) (.int .i64 p.root) (.int .i64 p.count) (.slice ka p.ks.length kc) (.slice ea p.es.length ec) (.int .i64 p.next) (.string p.data)
    have hbZ := b5.trans (hz.below b5.size (fun g e => by omega))
    have hvZ := (hv5.fr hz (fun g e => by omega)).weak (show w.heap.size ≤ w2.heap.size by omega) (show 20 ≤ 21 by omega) (show (-1 : Int) ≤ 0 by omega)
    have HV : Hid _ := hvZ
    clear hvZ hv5 hz
    go_wp2
    show bodyPost _ _ _ _ _ (put9D w5 w.heap.size (.int .i64 p.kind) (.int .i64 p.tx) (.int .i64 p.id) (.int .i64 p.root) (.int .i64 p.count) (.slice ka p.ks.length kc) (.slice ea p.es.length ec) (.int .i64 p.next) (.string p.data))
    clear r0 r1 r2 r3 r4 r5 r6 r7 r8
    obtain ⟨r0, r1, r2, r3, r4, r5, r6, r7, r8⟩ := box_page HB
    refine bodyPost_ret (v := .agg #[.int .i64 p.kind, .int .i64 p.tx, .int .i64 p.id, .int .i64 p.root, .int .i64 p.count, .slice ka p.ks.length kc, .slice ea p.es.length ec, .int .i64 p.next, .string p.data]) (by simp [results, Try.results23, go_sem, r0, r1, r2, r3, r4, r5, r6, r7, r8]) rfl ?_
    exact ⟨_, rfl, HV.out, hbZ⟩
  · go_wp2_with fail
    refine (l2SpoilPage_any C A B w5 hD5 (w.heap.size + 1) w2.heap.size (by omega) hC2 (by omega) _ hv5).mono ?_
    rintro e w6 ⟨v, rfl, hv6, hb6⟩
    have HR6 := (hb6.block _ (by omega)).trans HR5
    have b6 := b5.trans (hb6.mono (by omega))
    have hv6' := hv6
    clear p0 p1 p2 p3 p4 p5 p6 p7 p8 HP5 HR5 hD5 hv5 hb6 b5
    obtain ⟨p, ka, kc, ea, ec, rfl, hf, hk, he, hkf, hef, hO, hP, hap, hlo⟩ := hv6'
    clear hO hP hap hlo hf hkf hef hk he
    obtain ⟨r0, r1, r2, r3, r4, r5, r6, r7, r8⟩ := box_page HR6
    have ff := box_thaw HR6
    have HB := put9D_box HR6 (.int .i64 p.kind) (.int .i64 p.tx) (.int .i64 p.id) (.int .i64 p.root) (.int .i64 p.count) (.slice ka p.ks.length kc) (.slice ea p.es.length ec) (.int .i64 p.next) (.string p.data)
    have hz := put9D_fr w6 w.heap.size (.int .i64 p.kind) (.int .i64 p.tx) (.int .i64 p.id) (.int .i64 p.root) (.int .i64 p.count) (.slice ka p.ks.length kc) (.slice ea p.es.length ec) (.int .i64 p.next) (.string p.data)
    have hbZ := b6.trans (hz.below b6.size (fun g e => by omega))
    have hvZ := (hv6.fr hz (fun g e => by omega)).weak (show w.heap.size ≤ w2.heap.size by omega) (Nat.le_refl _) (Int.le_refl _)
    have HV : Hid _ := hvZ
    clear hvZ hv6 hz
    go_wp2
    show bodyPost _ _ _ _ _ (put9D w6 w.heap.size (.int .i64 p.kind) (.int .i64 p.tx) (.int .i64 p.id) (.int .i64 p.root) (.int .i64 p.count) (.slice ka p.ks.length kc) (.slice ea p.es.length ec) (.int .i64 p.next) (.string p.data))
    clear r0 r1 r2 r3 r4 r5 r6 r7 r8
    obtain ⟨r0, r1, r2, r3, r4, r5, r6, r7, r8⟩ := box_page HB
    refine bodyPost_ret (v := .agg #[.int .i64 p.kind, .int .i64 p.tx, .int .i64 p.id, .int .i64 p.root, .int .i64 p.count, .slice ka p.ks.length kc, .slice ea p.es.length ec, .int .i64 p.next, .string p.data]) (by simp [results, Try.results23, go_sem, r0, r1, r2, r3, r4, r5, r6, r7, r8]) rfl ?_
    exact ⟨_, rfl, HV.out, hbZ⟩
end Go.Proofs.Ytpiipnfhinbimaa
