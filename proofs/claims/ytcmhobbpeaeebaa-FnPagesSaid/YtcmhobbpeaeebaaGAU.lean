import Derived.Test.YtcmhobbpeaeebaaDg
import Derived.Test.YtcmhobbpeaeebaaGAH
import Derived.Test.YtcmhobbpeaeebaaGAI
import Derived.Test.YtcmhobbpeaeebaaGAL
import Derived.Test.YtcmhobbpeaeebaaGAT
import Derived.BigQuiet
namespace Go.Proofs.Ytcmhobbpeaeebaa
open Go.RowKit
set_option linter.unusedVariables false
set_option maxRecDepth 100000

theorem code_len (p : Pg) : (oldCodeOf p).length ≤ 128 := by
  unfold oldCodeOf
  split
  · rename_i h
    have := bodyB_len true h.2
    simp [oldCode, padB]
    omega
  · simp
theorem code_byte (p : Pg) : ∀ x ∈ oldCodeOf p, 0 ≤ x ∧ x ≤ 255 := by
  unfold oldCodeOf
  split
  · rename_i h
    have hk := body_kind h.2
    have hc := body_count h.2
    have hb : ∀ x ∈ [79, p.kind, ((p.ks.length + p.es.length : Nat) : Int)] ++ bodyB true p, 0 ≤ x ∧ x ≤ 255 := bytes_app (by intro x hx; simp at hx; omega) (bodyB_byte true h.2)
    exact bytes_app (Old.padB_byte hb) (by intro x hx; simp at hx; omega)
  · intro x hx; cases hx

end Go.Proofs.Ytcmhobbpeaeebaa
namespace Go.Proofs.Ytcmhobbpeaeebaa
open Go.RowKit
set_option linter.unusedVariables false
set_option maxRecDepth 100000

theorem DPg.rows {w : World} {T m : Nat} {Φ : Pg → Prop} {v : Value} (h : DPg w T m Φ v) : ∃ (p : Pg) (ka : Option Addr) (kc : Nat) (ea : Option Addr) (ec : Nat), v = .agg #[.int .i64 p.kind, .int .i64 p.tx, .int .i64 p.id, .int .i64 p.root, .int .i64 p.count, .slice ka p.ks.length kc, .slice ea p.es.length ec, .int .i64 p.next, .string p.data] ∧ PgFit p ∧ KidsAt w T w.heap.size ka p.ks.length kc p.ks ∧ EntsAt w T w.heap.size ea p.es.length ec p.es ∧ Φ p := by
  obtain ⟨p, ka, kc, ea, ec, rfl, hf, hk, he, hkf, hef, hO, hP, hap, hlo⟩ := h
  have gk : ∀ i, i < p.ks.length → kidFit (p.ks.getD i dK) := fun i hi => by rw [show p.ks.getD i dK = p.ks[i] by simp [List.getD, hi]]; exact hkf _ (List.getElem_mem hi)
  have ge : ∀ i, i < p.es.length → entFit (p.es.getD i dE) := fun i hi => by rw [show p.es.getD i dE = p.es[i] by simp [List.getD, hi]]; exact hef _ (List.getElem_mem hi)
  obtain ⟨_, _, e2, hK2⟩ := RowsAt.of_owns kc2 hO rfl gk
  cases e2
  obtain ⟨_, _, e2, hE2⟩ := RowsAt.of_owns ec4 hP rfl ge
  cases e2
  exact ⟨p, ka, kc, ea, ec, rfl, hf, hK2, hE2, hlo⟩
theorem BytesAt.low {w : World} {A A' B B' : Nat} {a : Option Addr} {n c : Nat} {bs : List Int} (h : BytesAt w A B a n c bs) (hA : A' ≤ A) (hB : B ≤ B') : BytesAt w A' B' a n c bs := by
  obtain ⟨h1, h2, h3, h4, h5, h6⟩ := h
  refine ⟨h1, h2, h3, h4, fun hn => ?_, h6⟩
  obtain ⟨b, off, e, hb, hc⟩ := h5 hn
  exact ⟨b, off, e, ⟨by omega, by omega⟩, hc⟩
theorem TRes.up {S T S' T' : Nat} {w w0 w' : World} {e : Ending} (h : TRes S T w e w') (hS : S' ≤ S) (hT : T' ≤ T) (hb : Below S' w0 w) : TRes S' T' w0 e w' := by
  obtain ⟨a, n, c, bs, e1, hB, hb2⟩ := h.out
  exact ⟨⟨a, n, c, bs, e1, hB.low hT (Nat.le_refl _), hb.trans (hb2.mono hS)⟩⟩
theorem TRes.of {S T : Nat} {w w' : World} {a : Option Addr} {n c : Nat} {bs : List Int} (hO : w'.ownsRow T 5 1 (.slice a n c) n (u8s bs)) (hb : ∀ x ∈ bs, 0 ≤ x ∧ x ≤ 255) (hS : S ≤ T) (hbel : Below S w w') : TRes S S w (.returned (.slice a n c)) w' :=
  ⟨⟨a, n, c, bs, rfl, (bytesAt_row hO hb).low hS (Nat.le_refl _), hbel⟩⟩
theorem lit0 (w : World) : BytesAt (w.alloc (.cells #[.int .u8 0] 5)) w.heap.size (w.heap.size + 1) (some ⟨w.heap.size, 0, none⟩) 1 1 [0] := by
  refine ⟨rfl, Nat.le_refl _, by unfold maxLen; omega, (by intro x hx; simp at hx; omega), fun _ => ⟨w.heap.size, 0, rfl, ⟨Nat.le_refl _, Nat.lt_succ_self _⟩, fun i hi => ?_⟩, (by intro h; cases h)⟩
  obtain rfl : i = 0 := by omega
  have h1 := heap_alloc_new w (.cells #[.int .u8 0] 5)
  simp only [World.cell?, h1]
  rfl
theorem oldCode_full {p : Pg} (h : p.tx = 0) (hok : bodyOk 1 998 p = true) : (oldCodeOf p).length = 128 := by
  have hl := bodyB_len true hok
  rw [oldCodeOf, if_pos ⟨h, hok⟩]
  simp [oldCode, padB]
  omega
set_option maxHeartbeats 1600000 in
theorem drawDecodePage_any (a : Option Addr) (n c : Nat) (bs : List Int) (w : World) (A B : Nat) (hB : B ≤ w.heap.size) (h : BytesAt w A B a n c bs) :
    Calls Try.prog 31 #[.slice a n c] w fun e w' => TRes w.heap.size w.heap.size w e w' := by
  go_enter Try.func31, Try.ntmps31
  go_wp2_with fail
  refine (l1New_any a n c bs w A B hB h).mono ?_
  rintro e w1 ⟨C, rfl, hC, hD1, b1⟩
  clear h
  go_wp2_with fail
  refine (l2DrawTx_any C A B w1 hD1).mono ?_
  rintro e w2 ⟨tx, rfl, htx, hD2, hF2⟩
  have b2 := b1.trans (hF2.below b1.size (fun g e => by omega))
  clear b1 hD1 hF2
  go_wp2_with fail
  have hC2 := hD2.lt
  refine (l2DrawPage_any C A B w2 hD2 2 999 tx (by omega) (by omega) htx).mono ?_
  rintro e w3 ⟨v, rfl, hv, hD3, hF3⟩
  have b3 := b2.trans (hF3.below b2.size (fun g e => by omega))
  have hs23 := hF3.size
  have hs2 := b2.size
  obtain ⟨p, ka, kc, ea, ec, rfl, hf, hK, hE, hgood⟩ := hv.rows
  have HG : Hid (p.tx = _ ∧ bodyOk _ _ p = true) := hgood
  clear hv hF3 hD2 b2 hgood
  go_wp2_with fail
  refine (specEncodePage_any p hf hf.tx ka kc ea ec w3 _ w3.heap.size (Nat.le_refl _) hK hE).mono ?_
  rintro e w4 ⟨v4, rfl, hO4, hb4⟩
  have b4 := b3.trans (hb4.mono b3.size)
  have hD4 := hD3.below hb4
  have hs34 := hb4.size
  have hC3 := hD3.lt
  clear hK hE b3 hD3 hb4
  obtain ⟨a4, c4, rfl⟩ := own_shape hO4
  have hby := codeN_byte p
  have hlen := codeN_len p
  clear HG
  generalize newCodeOf p = l at hO4 hby hlen ⊢
  obtain ⟨m, hm⟩ : ∃ m, l.length = m := ⟨_, rfl⟩
  rw [hm] at hO4 hlen ⊢
  have HM : Hid (l.length = m) := hm
  clear hm
  go_wp2_with fail
  refine (l1Below_any C A B w4 hD4 4 (by omega) (by omega)).mono ?_
  rintro e w5 ⟨k, rfl, hk, hD5, hF5⟩
  have hO5 := owns_fr hO4 hF5 (fun g e e' => by have := (hO4.lt g e).1; omega)
  have b5 := b4.trans (hF5.below b4.size (fun g e => by omega))
  have hs45 := hF5.size
  clear hO4 b4 hD4 hF5
  by_cases hk0 : k = 0
  · subst hk0
    go_wp2_with fail
    refine (l2Turn_any C A B w5 hD5 false w.heap.size w3.heap.size hC hC3 (by omega) a4 m c4 l hO5 hby).mono ?_
    rintro e w6 hT
    have hT2 := hT.up (Nat.le_refl _) (show w.heap.size ≤ w3.heap.size by omega) b5
    obtain ⟨a6, n6, c6, bs6, rfl, hB6, hb6⟩ := hT2.out
    go_wp2
    go_ret
    exact hT2
  · have n0 : ((k : Int) == 0) = false := by simp; omega
    by_cases hk1 : k = 1
    · subst hk1
      go_wp2_with fail
      refine (l1Once_any C A B w5 hD5 6 (by omega) (by omega)).mono ?_
      rintro e w6 ⟨b, rfl, hD6, hF6⟩
      have hO6 := owns_fr hO5 hF6 (fun g e e' => by have := (hO5.lt g e).1; omega)
      have b6 := b5.trans (hF6.below b5.size (fun g e => by omega))
      have hs56 := hF6.size
      clear hO5 b5 hD5 hF6
      cases b
      · have hR := TRes.of (S := w.heap.size) hO6 hby (by omega) b6
        have HR : Hid _ := hR
        clear hR hO6
        go_wp2
        go_ret
        exact HR.out
      · have hal := lit0 w6
        have hb7 : Below w6.heap.size w6 (w6.alloc (.cells #[.int .u8 0] 5)) := (Below.refl _ _).alloc (Nat.le_refl _) _
        have hO7 := owns_below hO6 hb7
        go_wp2_with (at_builtin; refine wpList_ab rfl _ _ rfl w3.heap.size _ m l rfl hO7 (some ⟨w6.heap.size, 0, none⟩) 1 1 [0] _ _ rfl hal (by omega) (by have := hb7.size; omega) ?_; intro v8 w8 hO8 hg8; obtain ⟨a8, c8, rfl⟩ := own_shape hO8)
        have b7 := b6.trans (hb7.mono b6.size)
        have b8 := b7.grown hg8 b7.size (fun g e => by have := (hO7.lt g e).1; omega)
        go_ret
        exact TRes.of hO8 (bytes_app hby (by intro x hx; simp at hx; omega)) (by omega) b8
    · have n1 : ((k : Int) == 1) = false := by simp; omega
      have hR := TRes.of (S := w.heap.size) hO5 hby (by omega) b5
      have HR : Hid _ := hR
      clear hR hO5
      go_wp2_with fail
      go_wp2
      go_ret
      exact HR.out
set_option maxHeartbeats 1600000 in
theorem drawDecodeOld_any (a : Option Addr) (n c : Nat) (bs : List Int) (w : World) (A B : Nat) (hB : B ≤ w.heap.size) (h : BytesAt w A B a n c bs) :
    Calls Try.prog 32 #[.slice a n c] w fun e w' => TRes w.heap.size w.heap.size w e w' := by
  go_enter Try.func32, Try.ntmps32
  go_wp2_with fail
  refine (l1New_any a n c bs w A B hB h).mono ?_
  rintro e w1 ⟨C, rfl, hC, hD1, b1⟩
  clear h
  have b2 := b1
  have hD2 := hD1
  clear b1 hD1
  go_wp2_with fail
  have hC2 := hD2.lt
  refine (l2DrawPage_any C A B w1 hD2 1 998 0 (by omega) (by omega) (by omega)).mono ?_
  rintro e w3 ⟨v, rfl, hv, hD3, hF3⟩
  have b3 := b2.trans (hF3.below b2.size (fun g e => by omega))
  have hs23 := hF3.size
  have hs2 := b2.size
  obtain ⟨p, ka, kc, ea, ec, rfl, hf, hK, hE, hgood⟩ := hv.rows
  have HG : Hid (p.tx = _ ∧ bodyOk _ _ p = true) := hgood
  clear hv hF3 hD2 b2 hgood
  go_wp2_with fail
  refine (specEncodeOld_any p hf ka kc ea ec w3 _ w3.heap.size (Nat.le_refl _) hK hE).mono ?_
  rintro e w4 ⟨v4, rfl, hO4, hb4⟩
  have b4 := b3.trans (hb4.mono b3.size)
  have hD4 := hD3.below hb4
  have hs34 := hb4.size
  have hC3 := hD3.lt
  clear hK hE b3 hD3 hb4
  obtain ⟨a4, c4, rfl⟩ := own_shape hO4
  have hby := code_byte p
  have hlen := code_len p
  have hfull := oldCode_full HG.out.1 HG.out.2
  clear HG
  generalize oldCodeOf p = l at hO4 hby hlen hfull ⊢
  rw [hfull] at hO4 ⊢
  go_wp2_with fail
  refine (l1Below_any C A B w4 hD4 4 (by omega) (by omega)).mono ?_
  rintro e w5 ⟨k, rfl, hk, hD5, hF5⟩
  have hO5 := owns_fr hO4 hF5 (fun g e e' => by have := (hO4.lt g e).1; omega)
  have b5 := b4.trans (hF5.below b4.size (fun g e => by omega))
  have hs45 := hF5.size
  clear hO4 b4 hD4 hF5
  by_cases hk0 : k = 0
  · subst hk0
    go_wp2_with fail
    refine (l2Turn_any C A B w5 hD5 true w.heap.size w3.heap.size hC hC3 (by omega) a4 128 c4 l hO5 hby).mono ?_
    rintro e w6 hT
    have hT2 := hT.up (Nat.le_refl _) (show w.heap.size ≤ w3.heap.size by omega) b5
    obtain ⟨a6, n6, c6, bs6, rfl, hB6, hb6⟩ := hT2.out
    go_wp2
    go_ret
    exact hT2
  · have n0 : ((k : Int) == 0) = false := by simp; omega
    by_cases hk1 : k = 1
    · subst hk1
      go_wp2_with fail
      refine (l1Once_any C A B w5 hD5 6 (by omega) (by omega)).mono ?_
      rintro e w6 ⟨b, rfl, hD6, hF6⟩
      have hO6 := owns_fr hO5 hF6 (fun g e e' => by have := (hO5.lt g e).1; omega)
      have b6 := b5.trans (hF6.below b5.size (fun g e => by omega))
      have hs56 := hF6.size
      clear hO5 b5 hD5 hF6
      cases b
      · have hR := TRes.of (S := w.heap.size) hO6 hby (by omega) b6
        have HR : Hid _ := hR
        clear hR hO6
        go_wp2
        go_ret
        exact HR.out
      · obtain ⟨g, rfl⟩ := owns_someD hO6 (by omega)
        have hB6 := bytesAt_row hO6 hby
        have hcc : 128 ≤ c4 := hB6.2.1
        have hB7 := (bytesAt_sub hB6 1 127 (by omega) (by omega)).low (show w.heap.size ≤ w3.heap.size by omega) (Nat.le_refl _)
        have hR : TRes w.heap.size w.heap.size w (.returned (.slice (some ⟨g, 1, none⟩) 127 (c4 - 1))) w6 := ⟨⟨_, _, _, _, rfl, hB7, b6⟩⟩
        have HR : Hid _ := hR
        have hc1 : ¬ c4 = 1 := by omega
        clear hR hO6 hB6 hB7
        go_wp2
        go_ret
        exact HR.out
    · have n1 : ((k : Int) == 1) = false := by simp; omega
      have hR := TRes.of (S := w.heap.size) hO5 hby (by omega) b5
      have HR : Hid _ := hR
      clear hR hO5
      go_wp2_with fail
      go_wp2
      go_ret
      exact HR.out
end Go.Proofs.Ytcmhobbpeaeebaa
namespace Go.Proofs.Ytcmhobbpeaeebaa
open Go.RowKit
set_option linter.unusedVariables false
set_option maxRecDepth 100000

set_option maxHeartbeats 3200000 in
theorem lwPage_same (p : Pg) (hf : PgFit p) (ka : Option Addr) (kc : Nat) (ea : Option Addr) (ec : Nat) (kb : Option Addr) (kd : Nat) (eb : Option Addr) (ed : Nat) (w : World) (A B A2 B2 : Nat) (hB : B ≤ w.heap.size) (hB2 : B2 ≤ w.heap.size) (hK : KidsAt w A B ka p.ks.length kc p.ks) (hE : EntsAt w A B ea p.es.length ec p.es) (hK2 : KidsAt w A2 B2 kb p.ks.length kd p.ks) (hE2 : EntsAt w A2 B2 eb p.es.length ed p.es) :
    Calls Try.prog 27 #[.agg #[.int .i64 p.kind, .int .i64 p.tx, .int .i64 p.id, .int .i64 p.root, .int .i64 p.count, .slice ka p.ks.length kc, .slice ea p.es.length ec, .int .i64 p.next, .string p.data], .agg #[.int .i64 p.kind, .int .i64 p.tx, .int .i64 p.id, .int .i64 p.root, .int .i64 p.count, .slice kb p.ks.length kd, .slice eb p.es.length ed, .int .i64 p.next, .string p.data]] w fun e w' => e = .returned (.bool true) ∧ Below w.heap.size w w' := by
  go_enter Try.func27, Try.ntmps27
  have hkc := hK.2.2.1
  have hkn := hK.2.1
  have hec := hE.2.2.1
  have hen := hE.2.1
  unfold maxLen at hkc hec
  go_wp2_with fail
  have X1 := heap_alloc_new w (.cells #[.int .i64 p.kind, .int .i64 p.tx, .int .i64 p.id, .int .i64 p.root, .int .i64 p.count, .slice ka p.ks.length kc, .slice ea p.es.length ec, .int .i64 p.next, .string p.data] 28)
  have hb1 : Below w.heap.size w (w.alloc (.cells #[.int .i64 p.kind, .int .i64 p.tx, .int .i64 p.id, .int .i64 p.root, .int .i64 p.count, .slice ka p.ks.length kc, .slice ea p.es.length ec, .int .i64 p.next, .string p.data] 28)) := (Below.refl _ _).alloc (Nat.le_refl _) _
  have Y2 := heap_alloc_new (w.alloc (.cells #[.int .i64 p.kind, .int .i64 p.tx, .int .i64 p.id, .int .i64 p.root, .int .i64 p.count, .slice ka p.ks.length kc, .slice ea p.es.length ec, .int .i64 p.next, .string p.data] 28)) (.cells #[.int .i64 p.kind, .int .i64 p.tx, .int .i64 p.id, .int .i64 p.root, .int .i64 p.count, .slice kb p.ks.length kd, .slice eb p.es.length ed, .int .i64 p.next, .string p.data] 28)
  have hb2 : Below (w.alloc (.cells #[.int .i64 p.kind, .int .i64 p.tx, .int .i64 p.id, .int .i64 p.root, .int .i64 p.count, .slice ka p.ks.length kc, .slice ea p.es.length ec, .int .i64 p.next, .string p.data] 28)).heap.size (w.alloc (.cells #[.int .i64 p.kind, .int .i64 p.tx, .int .i64 p.id, .int .i64 p.root, .int .i64 p.count, .slice ka p.ks.length kc, .slice ea p.es.length ec, .int .i64 p.next, .string p.data] 28)) ((w.alloc (.cells #[.int .i64 p.kind, .int .i64 p.tx, .int .i64 p.id, .int .i64 p.root, .int .i64 p.count, .slice ka p.ks.length kc, .slice ea p.es.length ec, .int .i64 p.next, .string p.data] 28)).alloc (.cells #[.int .i64 p.kind, .int .i64 p.tx, .int .i64 p.id, .int .i64 p.root, .int .i64 p.count, .slice kb p.ks.length kd, .slice eb p.es.length ed, .int .i64 p.next, .string p.data] 28)) := (Below.refl _ _).alloc (Nat.le_refl _) _
  have hsz : (w.alloc (.cells #[.int .i64 p.kind, .int .i64 p.tx, .int .i64 p.id, .int .i64 p.root, .int .i64 p.count, .slice ka p.ks.length kc, .slice ea p.es.length ec, .int .i64 p.next, .string p.data] 28)).heap.size = w.heap.size + 1 := by simp
  rw [hsz] at Y2
  have X2 := (hb2.block w.heap.size (by rw [hsz]; omega)).trans X1
  have b2 : Below w.heap.size w ((w.alloc (.cells #[.int .i64 p.kind, .int .i64 p.tx, .int .i64 p.id, .int .i64 p.root, .int .i64 p.count, .slice ka p.ks.length kc, .slice ea p.es.length ec, .int .i64 p.next, .string p.data] 28)).alloc (.cells #[.int .i64 p.kind, .int .i64 p.tx, .int .i64 p.id, .int .i64 p.root, .int .i64 p.count, .slice kb p.ks.length kd, .slice eb p.es.length ed, .int .i64 p.next, .string p.data] 28)) := hb1.trans (hb2.mono (by rw [hsz]; omega))
  generalize (w.alloc (.cells #[.int .i64 p.kind, .int .i64 p.tx, .int .i64 p.id, .int .i64 p.root, .int .i64 p.count, .slice ka p.ks.length kc, .slice ea p.es.length ec, .int .i64 p.next, .string p.data] 28)).alloc (.cells #[.int .i64 p.kind, .int .i64 p.tx, .int .i64 p.id, .int .i64 p.root, .int .i64 p.count, .slice kb p.ks.length kd, .slice eb p.es.length ed, .int .i64 p.next, .string p.data] 28) = w2 at X2 Y2 b2 ⊢
  clear X1 hb1 hb2 hsz
  go_loopw [5] (fun i wr => ∃ (k q : Nat), k ≤ p.ks.length ∧ i = .int .i64 k ∧ wr = w2.drewN q) (fun i _ => p.ks.length - (intOf i).toNat)
  case atStart => exact ⟨0, 0, Nat.zero_le _, rfl, rfl⟩
  case round =>
    obtain ⟨k, q, hk, rfl, rfl⟩ := hrel
    have X3 : (w2.drewN q).heap[w.heap.size]? = _ := X2
    have Y3 : (w2.drewN q).heap[w.heap.size + 1]? = _ := Y2
    have b3 : Below w.heap.size w (w2.drewN q) := b2.trans ⟨rfl, rfl, rfl, Nat.le_refl _, fun _ _ => rfl⟩
    have HQ : Hid (∀ m, (w2.drewN q).drewN m = w2.drewN (q + m)) := fun m => World.drewN_drewN _ _ _
    generalize w2.drewN q = w3 at X3 Y3 b3 HQ ⊢
    obtain ⟨x0, x1, x2, x3, x4, x5, x6, x7, x8⟩ := box_page X3
    obtain ⟨y0, y1, y2, y3, y4, y5, y6, y7, y8⟩ := box_page Y3
    by_cases hlt : k < p.ks.length
    · obtain ⟨b, off, rfl, hb, hfit, e0, e1⟩ := KidsAt.at (hK.below (b3.mono hB)) hlt
      obtain ⟨b', off', rfl, hb', hfit2, f0, f1⟩ := KidsAt.at (hK2.below (b3.mono hB2)) hlt
      generalize p.ks.getD k dK = kd0 at e0 e1 f0 f1 hfit
      clear hK hK2 hE hE2 hfit2 X2 Y2 X3 Y3
      have hne : (kd0.1.toList == kd0.1.toList) = true := by simp
      go_wp2_with fail
      go_quiet (fail)
      go_wp2
      go_roundw
      case rel => exact ⟨k + 1, q + nq, by omega, by go_num, HQ.out nq⟩
      case measure => simp [intOf]; omega
    · go_wp2_with fail
      clear x0 x1 x2 x3 x4 x5 x6 x7 x8 y0 y1 y2 y3 y4 y5 y6 y7 y8 hK hK2 X2 Y2 b2 HQ
      go_loopw [6] (fun i wr => ∃ (k q : Nat), k ≤ p.es.length ∧ i = .int .i64 k ∧ wr = w3.drewN q) (fun i _ => p.es.length - (intOf i).toNat)
      case atStart => exact ⟨0, 0, Nat.zero_le _, rfl, rfl⟩
      case round =>
        obtain ⟨j, q2, hj, rfl, rfl⟩ := hrel
        have X4 : (w3.drewN q2).heap[w.heap.size]? = _ := X3
        have Y4 : (w3.drewN q2).heap[w.heap.size + 1]? = _ := Y3
        have b4 : Below w.heap.size w (w3.drewN q2) := b3.trans ⟨rfl, rfl, rfl, Nat.le_refl _, fun _ _ => rfl⟩
        have HQ : Hid (∀ m, (w3.drewN q2).drewN m = w3.drewN (q2 + m)) := fun m => World.drewN_drewN _ _ _
        generalize w3.drewN q2 = w4 at X4 Y4 b4 HQ ⊢
        obtain ⟨x0, x1, x2, x3, x4, x5, x6, x7, x8⟩ := box_page X4
        obtain ⟨y0, y1, y2, y3, y4, y5, y6, y7, y8⟩ := box_page Y4
        by_cases hlt2 : j < p.es.length
        · obtain ⟨b, off, rfl, hb, hfit, e0, e1, e2, e3⟩ := EntsAt.at (hE.below (b4.mono hB)) hlt2
          obtain ⟨b', off', rfl, hb', hfit2, f0, f1, f2, f3⟩ := EntsAt.at (hE2.below (b4.mono hB2)) hlt2
          generalize p.es.getD j dE = kd0 at e0 e1 e2 e3 f0 f1 f2 f3 hfit
          clear hE hE2 hfit2 X3 Y3 X4 Y4
          go_wp2_with fail
          go_quiet (fail)
          go_wp2
          go_roundw
          case rel => exact ⟨j + 1, q2 + nq, by omega, by go_num, HQ.out nq⟩
          case measure => simp [intOf]; omega
        · go_wp2
          go_ret
          exact ⟨rfl, b4⟩
end Go.Proofs.Ytcmhobbpeaeebaa
