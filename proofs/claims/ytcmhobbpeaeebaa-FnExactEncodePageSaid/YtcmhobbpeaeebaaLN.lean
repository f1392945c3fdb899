import Derived.Test.YtcmhobbpeaeebaaEnP
import Derived.Test.YtcmhobbpeaeebaaCdN
import Derived.Test.YtcmhobbpeaeebaaPgK
import Derived.Test.YtcmhobbpeaeebaaPgE
import Derived.Test.YtcmhobbpeaeebaaPgP
import Derived.Test.YtcmhobbpeaeebaaPgS
namespace Go.Proofs.Ytcmhobbpeaeebaa
open Go.RowKit
set_option linter.unusedVariables false
set_option maxRecDepth 100000

namespace New
theorem encodePage_calls (p : Pg) (hf : PgFit p) (ka : Option Addr) (kc : Nat) (ea : Option Addr) (ec : Nat) (w : World) (A B : Nat) (hB : B ≤ w.heap.size) (hK : KidsAt w A B ka p.ks.length kc p.ks) (hE : EntsAt w A B ea p.es.length ec p.es) : Calls Try.prog 22 #[.agg #[.int .i64 p.kind, .int .i64 p.tx, .int .i64 p.id, .int .i64 p.root, .int .i64 p.count, .slice ka p.ks.length kc, .slice ea p.es.length ec, .int .i64 p.next, .string p.data]] w fun e w' => ∃ v, e = .returned v ∧ w'.ownsRow w.heap.size 5 1 v (newCodeOf p).length (u8s (newCodeOf p)) ∧ Below w.heap.size w w' := encodePage_any p hf ka kc ea ec w A B hB hK hE
end New
set_option maxHeartbeats 3200000 in
theorem law_EncodePage (p : Pg) (hf : PgFit p) (ka : Option Addr) (kc : Nat) (ea : Option Addr) (ec : Nat) (w : World) (hK : KidsAt w 0 w.heap.size ka p.ks.length kc p.ks) (hE : EntsAt w 0 w.heap.size ea p.es.length ec p.es) :
    Calls Try.prog 5 #[.agg #[.int .i64 p.kind, .int .i64 p.tx, .int .i64 p.id, .int .i64 p.root, .int .i64 p.count, .slice ka p.ks.length kc, .slice ea p.es.length ec, .int .i64 p.next, .string p.data]] w fun e w' => e = .returned (.bool true) ∧ Below w.heap.size w w' := by
  have hcl := codeN_len p
  have hcb := codeN_byte p
  have b0 : Below w.heap.size w (w.alloc (.cells #[.int .i64 p.kind, .int .i64 p.tx, .int .i64 p.id, .int .i64 p.root, .int .i64 p.count, .slice ka p.ks.length kc, .slice ea p.es.length ec, .int .i64 p.next, .string p.data] 44)) := (Below.refl _ _).alloc (Nat.le_refl _) _
  have X0 : (w.alloc (.cells #[.int .i64 p.kind, .int .i64 p.tx, .int .i64 p.id, .int .i64 p.root, .int .i64 p.count, .slice ka p.ks.length kc, .slice ea p.es.length ec, .int .i64 p.next, .string p.data] 44)).heap[w.heap.size]? = some (.cells #[.int .i64 p.kind, .int .i64 p.tx, .int .i64 p.id, .int .i64 p.root, .int .i64 p.count, .slice ka p.ks.length kc, .slice ea p.es.length ec, .int .i64 p.next, .string p.data] 44) := heap_alloc_new w _
  go_enter Try.func5, Try.ntmps5
  go_wp2_with fail
  generalize w.alloc (.cells #[.int .i64 p.kind, .int .i64 p.tx, .int .i64 p.id, .int .i64 p.root, .int .i64 p.count, .slice ka p.ks.length kc, .slice ea p.es.length ec, .int .i64 p.next, .string p.data] 44) = W0 at b0 X0 ⊢
  refine (szPage_any p.kind p.tx p.id p.root p.count ka p.ks.length kc p.ks ea p.es.length ec p.es p.next p.data hf.data 1048576 W0 (by omega) (by omega) 0 w.heap.size b0.size (hK.below b0) (hE.below b0)).mono ?_
  rintro e w1 ⟨r, rfl, hr, hb1⟩
  have b1 := b0.trans (hb1.mono b0.size)
  have X1 := eb_call X0 hb1
  clear b0 X0 hb1
  obtain ⟨c5, c6, c0, c2, c3, c4, c7, c8, c1⟩ := box_slice X1
  by_cases hr0 : r < 0
  · go_wp2
    go_ret
    exact ⟨rfl, b1⟩
  · obtain ⟨hkn, hen, _⟩ := hr (by omega)
    have hkn' : p.ks.length ≤ 1048576 := by omega
    have hen' : p.es.length ≤ 1048576 := by omega
    have hKf := fun i hi => hK.2.2.2.1 i hi
    have hEf := fun i hi => hE.2.2.2.1 i hi
    clear hkn hen hr
    go_wp2_with fail
    refine (toPage_any p.kind p.tx p.id p.root p.count ka p.ks.length kc p.ks ea p.es.length ec p.es p.next p.data w1 0 w.heap.size b1.size (hK.below b1) (hE.below b1) hkn' hen').mono ?_
    rintro e w2 ⟨g2, h2, _, rfl, hO2, hP2, hb2⟩
    have b2 := b1.trans (hb2.mono b1.size)
    have X2 := eb_call X1 hb2
    obtain ⟨_, _, e2, hK2⟩ := RowsAt.of_owns kc2 hO2 rfl hKf
    cases e2
    obtain ⟨_, _, e2, hE2⟩ := RowsAt.of_owns ec4 hP2 rfl hEf
    cases e2
    clear hO2 hP2 hb2 b1 X1 c5 c6 c0 c2 c3 c4 c7 c8 c1
    go_wp2_with fail
    refine (specEncodePage_any p hf hf.tx _ _ _ _ w2 _ _ (Nat.le_refl _) hK2 hE2).mono ?_
    rintro e w3 ⟨v3, rfl, hO3, hb3⟩
    obtain ⟨a3, c3, rfl⟩ := own_shape hO3
    have b3 := b2.trans (hb3.mono b2.size)
    have X3 := eb_call X2 hb3
    have hB3 := bytesAt_row hO3 hcb
    obtain ⟨c5, c6, c0, c2, c3', c4, c7, c8, c1⟩ := box_slice X3
    have s03 : w.heap.size < w3.heap.size := (Array.getElem?_eq_some_iff.1 X3).1
    clear hO3 hK2 hE2 hb3 b2 X2
    go_wp2_with fail
    refine (toPage_any p.kind p.tx p.id p.root p.count ka p.ks.length kc p.ks ea p.es.length ec p.es p.next p.data w3 0 w.heap.size b3.size (hK.below b3) (hE.below b3) hkn' hen').mono ?_
    rintro e w4 ⟨g4, h4, hne4, rfl, hO4, hP4, hb4⟩
    have b4 := b3.trans (hb4.mono b3.size)
    have X4 := eb_call X3 hb4
    have hB4 := hB3.below hb4
    have s34 := hb4.size
    obtain ⟨_, _, e2, hK4⟩ := RowsAt.of_owns kc2 hO4 rfl hKf
    cases e2
    obtain ⟨_, _, e2, hE4⟩ := RowsAt.of_owns ec4 hP4 rfl hEf
    cases e2
    clear hb4 b3 X3 hB3 c5 c6 c0 c2 c3' c4 c7 c8 c1
    have hal := (Below.refl w4.heap.size w4).alloc (Nat.le_refl _) (.cells #[.int .i64 p.kind, .int .i64 p.tx, .int .i64 p.id, .int .i64 p.root, .int .i64 p.count, .slice (some ⟨g4, 0, none⟩) p.ks.length p.ks.length, .slice (some ⟨h4, 0, none⟩) p.es.length p.es.length, .int .i64 p.next, .string p.data] 28)
    have b4a := b4.trans (hal.mono b4.size)
    have X4a := eb_call X4 hal
    have Y4 : (w4.alloc (.cells #[.int .i64 p.kind, .int .i64 p.tx, .int .i64 p.id, .int .i64 p.root, .int .i64 p.count, .slice (some ⟨g4, 0, none⟩) p.ks.length p.ks.length, .slice (some ⟨h4, 0, none⟩) p.es.length p.es.length, .int .i64 p.next, .string p.data] 28)).heap[w4.heap.size]? = some (.cells #[.int .i64 p.kind, .int .i64 p.tx, .int .i64 p.id, .int .i64 p.root, .int .i64 p.count, .slice (some ⟨g4, 0, none⟩) p.ks.length p.ks.length, .slice (some ⟨h4, 0, none⟩) p.es.length p.es.length, .int .i64 p.next, .string p.data] 28) := heap_alloc_new w4 _
    have hB4a := hB4.below (hal.mono s34)
    have hO4a := hO4.alloc (.cells #[.int .i64 p.kind, .int .i64 p.tx, .int .i64 p.id, .int .i64 p.root, .int .i64 p.count, .slice (some ⟨g4, 0, none⟩) p.ks.length p.ks.length, .slice (some ⟨h4, 0, none⟩) p.es.length p.es.length, .int .i64 p.next, .string p.data] 28)
    have hP4a := hP4.alloc (.cells #[.int .i64 p.kind, .int .i64 p.tx, .int .i64 p.id, .int .i64 p.root, .int .i64 p.count, .slice (some ⟨g4, 0, none⟩) p.ks.length p.ks.length, .slice (some ⟨h4, 0, none⟩) p.es.length p.es.length, .int .i64 p.next, .string p.data] 28)
    have hK4a := hK4.below hal
    have hE4a := hE4.below hal
    have s4a : w4.heap.size ≤ (w4.alloc (.cells #[.int .i64 p.kind, .int .i64 p.tx, .int .i64 p.id, .int .i64 p.root, .int .i64 p.count, .slice (some ⟨g4, 0, none⟩) p.ks.length p.ks.length, .slice (some ⟨h4, 0, none⟩) p.es.length p.es.length, .int .i64 p.next, .string p.data] 28)).heap.size := by simp
    clear hal b4 X4 hB4 hO4 hP4 hK4 hE4
    go_wp2_with fail
    generalize w4.alloc (.cells #[.int .i64 p.kind, .int .i64 p.tx, .int .i64 p.id, .int .i64 p.root, .int .i64 p.count, .slice (some ⟨g4, 0, none⟩) p.ks.length p.ks.length, .slice (some ⟨h4, 0, none⟩) p.es.length p.es.length, .int .i64 p.next, .string p.data] 28) = W4 at b4a X4a Y4 hB4a hO4a hP4a hK4a hE4a s4a ⊢
    generalize w4.heap.size = N4 at Y4 hK4a hE4a s34 s4a ⊢
    refine (New.encodePage_calls p hf _ _ _ _ W4 _ _ s4a hK4a hE4a).mono ?_
    rintro e w5 ⟨v5, rfl, hO5, hb5⟩
    obtain ⟨a5, c5, rfl⟩ := own_shape hO5
    have b5 := b4a.trans (hb5.mono b4a.size)
    have X5 := eb_call X4a hb5
    have Y5 := eb_call Y4 hb5
    have hB5 := hB4a.below (hb5.mono (by omega))
    have hB5' := bytesAt_row hO5 hcb
    have hO4' := owns_below hO4a hb5
    have hP4' := owns_below hP4a hb5
    have s45 := hb5.size
    have hg4 := (hO4a.lt g4 rfl)
    have hh4 := (hP4a.lt h4 rfl)
    clear hb5 b4a X4a Y4 hB4a hK4a hE4a hO4a hP4a
    go_wp2_with fail
    refine (eqByteS_same _ _ _ _ _ (newCodeOf p) w5 _ _ _ _ hB5' hB5).mono ?_
    rintro e w6' ⟨rfl, m6, rfl⟩
    have b6 : Below w.heap.size w (w5.drewN m6) := b5.trans ⟨rfl, rfl, rfl, Nat.le_refl _, fun _ _ => rfl⟩
    have X6 : (w5.drewN m6).heap[w.heap.size]? = _ := X5
    have Y6 : (w5.drewN m6).heap[N4]? = _ := Y5
    have hB6 : BytesAt (w5.drewN m6) _ _ _ _ _ _ := hB5
    have hB6' : BytesAt (w5.drewN m6) _ _ _ _ _ _ := hB5'
    have hO6 : (w5.drewN m6).ownsRow _ _ _ _ _ _ := hO4'
    have hP6 : (w5.drewN m6).ownsRow _ _ _ _ _ _ := hP4'
    have hA6 : (w5.drewN m6).ownsRow _ _ _ _ _ _ := hO5
    have s6 : w5.heap.size = (w5.drewN m6).heap.size := rfl
    generalize w5.drewN m6 = w6 at b6 X6 Y6 hB6 hB6' hO6 hP6 hA6 s6 ⊢
    clear b5 X5 Y5 hB5 hB5' hO4' hP4' hO5
    rw [s6] at hB6' s45
    clear s6
    obtain ⟨c5', c6, c0, c2, c3', c4, c7, c8, c1⟩ := box_slice X6
    obtain ⟨d5', d6, d0, d2, d3', d4, d7, d8, d1⟩ := box_slice Y6
    go_wp2_with fail
    have b6d := b6.drew
    go_region_held3 (fun w' => (w'.cell? ⟨w.heap.size, 0, none⟩ = some (.int .i64 p.kind) ∧ w'.cell? ⟨w.heap.size, 1, none⟩ = some (.int .i64 p.tx) ∧ w'.cell? ⟨w.heap.size, 2, none⟩ = some (.int .i64 p.id) ∧ w'.cell? ⟨w.heap.size, 3, none⟩ = some (.int .i64 p.root) ∧ w'.cell? ⟨w.heap.size, 4, none⟩ = some (.int .i64 p.count) ∧ w'.cell? ⟨w.heap.size, 5, none⟩ = some (.slice ka p.ks.length kc) ∧ w'.cell? ⟨w.heap.size, 6, none⟩ = some (.slice ea p.es.length ec) ∧ w'.cell? ⟨w.heap.size, 7, none⟩ = some (.int .i64 p.next) ∧ w'.cell? ⟨w.heap.size, 8, none⟩ = some (.string p.data)) ∧ (w'.cell? ⟨N4, 0, none⟩ = some (.int .i64 p.kind) ∧ w'.cell? ⟨N4, 1, none⟩ = some (.int .i64 p.tx) ∧ w'.cell? ⟨N4, 2, none⟩ = some (.int .i64 p.id) ∧ w'.cell? ⟨N4, 3, none⟩ = some (.int .i64 p.root) ∧ w'.cell? ⟨N4, 4, none⟩ = some (.int .i64 p.count) ∧ w'.cell? ⟨N4, 5, none⟩ = some (.slice (some ⟨g4, 0, none⟩) p.ks.length p.ks.length) ∧ w'.cell? ⟨N4, 6, none⟩ = some (.slice (some ⟨h4, 0, none⟩) p.es.length p.es.length) ∧ w'.cell? ⟨N4, 7, none⟩ = some (.int .i64 p.next) ∧ w'.cell? ⟨N4, 8, none⟩ = some (.string p.data))) (go_keep)
      (first
        | (go_at_call 23; refine (eqPage_same p.kind p.tx p.id p.root p.count _ _ _ p.ks _ _ _ p.es _ _ _ _ p.next p.data w7 w3.heap.size w7.heap.size w6.drew.heap.size w7.heap.size (Nat.le_refl _) (Nat.le_refl _) hK7x hE7x hK7 hE7).mono ?_; rintro e w8 ⟨rfl, hb8⟩; have b8 := b7.trans (hb8.mono b7.size); have X8 := eb_call X7 hb8; have Y8 := eb_call Y7 hb8; obtain ⟨k5, k6, k0, k2, k3, k4, k7, k8, k1⟩ := box_slice X8; obtain ⟨l5, l6, l0, l2, l3, l4, l7, l8, l1⟩ := box_slice Y8)
        | (go_at_call 21; refine (toPage_any p.kind p.tx p.id p.root p.count ka p.ks.length kc p.ks ea p.es.length ec p.es p.next p.data w6.drew 0 w.heap.size b6d.size (hK.below b6d) (hE.below b6d) hkn' hen').mono ?_; rintro e w7 ⟨g7, h7, _, rfl, hO7, hP7, hb7⟩; have b7 := b6d.trans (hb7.mono b6d.size); have X7 := eb_call (w' := w6.drew) X6 hb7; have Y7 := eb_call (w' := w6.drew) Y6 hb7; have hO7x := owns_below (w := w6.drew) hO6 hb7; have hP7x := owns_below (w := w6.drew) hP6 hb7; obtain ⟨_, _, e7, hK7⟩ := RowsAt.of_owns kc2 hO7 rfl hKf; cases e7; obtain ⟨_, _, e7, hE7⟩ := RowsAt.of_owns ec4 hP7 rfl hEf; cases e7; obtain ⟨_, _, e7, hK7x⟩ := RowsAt.of_owns kc2 hO7x rfl hKf; cases e7; obtain ⟨_, _, e7, hE7x⟩ := RowsAt.of_owns ec4 hP7x rfl hEf; cases e7; obtain ⟨k5, k6, k0, k2, k3, k4, k7, k8, k1⟩ := box_slice X7; obtain ⟨l5, l6, l0, l2, l3, l4, l7, l8, l1⟩ := box_slice Y7))
    have hb67 : Below w6.heap.size w6 w8 := (((Below.refl w6.heap.size w6).drew).trans hb7).trans (hb8.mono hb7.size)
    have s68 := hb67.size
    have hO8 := owns_below hO6 hb67
    have hP8 := owns_below hP6 hb67
    have hA8 := owns_below hA6 hb67
    have hB8 := hB6.below (hb67.mono (by omega))
    have hB8' := hB6'.below hb67
    clear b6 b6d b7 X6 X7 Y6 Y7 hB6 hB6' hO6 hP6 hA6 hO7 hP7 hb7 hO7x hP7x hK7 hE7 hK7x hE7x hb8 hb67
    go_wp2_with fail
    refine (markPage_any p.kind p.tx p.id p.root p.count _ p.ks.length _ _ p.es.length _ p.next p.data 1 w3.heap.size _ _ w8 hO8 hP8 (fun g e1 e2 => by simp [Value.ownBlock] at e1 e2; omega) (by omega)).mono ?_
    rintro e w9 ⟨rfl, _, _, hF9⟩
    have hS9 : ∀ g, ((Value.slice (some ⟨g4, 0, none⟩) p.ks.length p.ks.length).ownBlock = some g ∨ (Value.slice (some ⟨h4, 0, none⟩) p.es.length p.es.length).ownBlock = some g) → w3.heap.size ≤ g ∧ g < W4.heap.size := by
      intro g e
      rcases e with e | e
      · simp [Value.ownBlock] at e; omega
      · simp [Value.ownBlock] at e; omega
    have s89 := hF9.size
    have b9 := b8.trans (hF9.below b8.size (fun g e => by have := hS9 g e; omega))
    have X9 := (hF9.block _ (Array.getElem?_eq_some_iff.1 X8).1 (fun e => by have := hS9 _ e; omega)).trans X8
    have hA9 := owns_fr hA8 hF9 (fun g e e' => by have h1 := (hA8.lt g e).1; have h2 := (hS9 g e').2; omega)
    have hB9 := hB8.keep (fun k k1 k2 => hF9.block k (by omega) (fun e => by have := (hS9 k e).1; omega))
    have hB9' := bytesAt_row hA9 hcb
    clear b8 X8 Y8 hO8 hP8 hA8 hB8 hB8' hF9 hS9 k5 k6 k0 k2 k3 k4 k7 k8 k1 l5 l6 l0 l2 l3 l4 l7 l8 l1 c5' c6 c0 c2 c3' c4 c7 c8 c1 d5' d6 d0 d2 d3' d4 d7 d8 d1
    have hk1 : ¬ ((1 + 2 * p.ks.length + 4 * p.es.length : Nat) : Int) < 0 := by omega
    go_wp2_with fail
    refine (eqByteS_same _ _ _ _ _ (newCodeOf p) w9 _ _ _ _ hB9' hB9).mono ?_
    rintro e w10' ⟨rfl, m10, rfl⟩
    have b10 : Below w.heap.size w (w9.drewN m10) := b9.trans ⟨rfl, rfl, rfl, Nat.le_refl _, fun _ _ => rfl⟩
    have X10 : (w9.drewN m10).heap[w.heap.size]? = _ := X9
    have hB10 : BytesAt (w9.drewN m10) _ _ _ _ _ _ := hB9
    have hA10 : (w9.drewN m10).ownsRow _ _ _ _ _ _ := hA9
    have s910 : w9.heap.size = (w9.drewN m10).heap.size := rfl
    generalize w9.drewN m10 = w10 at b10 X10 hB10 hA10 s910 ⊢
    clear b9 X9 hB9 hB9' hA9
    go_wp2_with fail
    refine (markByteS_any _ _ _ 1 _ _ w10 hA10 (by omega)).mono ?_
    rintro e w11 ⟨rfl, hA11, hg11⟩
    have hS11 : ∀ g, (Value.slice a5 (newCodeOf p).length c5).ownBlock = some g → W4.heap.size ≤ g := fun g e => (hA10.lt g e).1
    have b11 := b10.grown hg11 b10.size (fun g e => by have := hS11 g e; omega)
    have X11 := (hg11.block _ (Array.getElem?_eq_some_iff.1 X10).1 (fun e => by have := hS11 _ e.symm; omega)).trans X10
    have s1011 := hg11.size
    have hB11 := hB10.keep (fun k k1 k2 => hg11.block k (by omega) (fun e => by have := hS11 k e.symm; omega))
    have hB11' := bytesAt_row hA11 (marks_byte 1 (newCodeOf p).length)
    clear b10 X10 hB10 hA10 hg11 hS11 hA11
    go_wp2_with fail
    refine (heldByteS_any _ _ _ 1 w11 _ _ hB11' (by omega)).mono ?_
    rintro e w12' ⟨rfl, rfl⟩
    obtain ⟨c5', c6, c0, c2, c3', c4, c7, c8, c1⟩ := box_slice X11
    have hq : ¬ ((1 + (newCodeOf p).length : Nat) : Int) < 0 := by omega
    go_wp2_with fail
    refine (toPage_any p.kind p.tx p.id p.root p.count ka p.ks.length kc p.ks ea p.es.length ec p.es p.next p.data w12' 0 w.heap.size b11.size (hK.below b11) (hE.below b11) hkn' hen').mono ?_
    rintro e w13 ⟨g13, h13, _, rfl, hO13, hP13, hb13⟩
    have b13 := b11.trans (hb13.mono b11.size)
    have hB13 := hB11.below (hb13.mono (by omega))
    have s1113 := hb13.size
    obtain ⟨_, _, e2, hK13⟩ := RowsAt.of_owns kc2 hO13 rfl hKf
    cases e2
    obtain ⟨_, _, e2, hE13⟩ := RowsAt.of_owns ec4 hP13 rfl hEf
    cases e2
    clear hO13 hP13 hb13 b11 X11 hB11 hB11' c5' c6 c0 c2 c3' c4 c7 c8 c1
    go_wp2_with fail
    refine (New.encodePage_calls p hf _ _ _ _ w13 _ _ (Nat.le_refl _) hK13 hE13).mono ?_
    rintro e w14 ⟨v14, rfl, hO14, hb14⟩
    obtain ⟨a14, c14, rfl⟩ := own_shape hO14
    have b14 := b13.trans (hb14.mono b13.size)
    have hB14 := hB13.below (hb14.mono (by omega))
    have hB14' := bytesAt_row hO14 hcb
    clear hO14 hb14 b13 hB13 hK13 hE13
    go_wp2_with fail
    refine (eqByteS_same _ _ _ _ _ (newCodeOf p) w14 _ _ _ _ hB14' hB14).mono ?_
    rintro e w15 ⟨rfl, m15, rfl⟩
    go_wp2
    go_ret
    exact ⟨rfl, b14.trans ⟨rfl, rfl, rfl, Nat.le_refl _, fun _ _ => rfl⟩⟩
end Go.Proofs.Ytcmhobbpeaeebaa
