import Derived.Test.YtpiipnfhinbimacDg
import Derived.Test.YtpiipnfhinbimacRqN
import Derived.Deep.QuietTactic
import Derived.BigQuiet
namespace Go.Proofs.Ytpiipnfhinbimac
open Go.RowKit
set_option linter.unusedVariables false
set_option maxRecDepth 100000

theorem toB_cmpW {x y : List Int} (hx : ∀ z ∈ x, 0 ≤ z ∧ z ≤ 255) (hy : ∀ z ∈ y, 0 ≤ z ∧ z ≤ 255) : ((toB x).toList == (toB y).toList) = decide (x = y) := by
  have h3 := New.toB_inj hx hy
  have h4 : ((toB x).toList == (toB y).toList) = decide (toB x = toB y) := by
    rw [ByteArray.toList_eq, ByteArray.toList_eq, Bool.eq_iff_iff]
    simp only [beq_iff_eq, decide_eq_true_eq]
    constructor
    · intro h; exact ByteArray.ext (Array.ext' h)
    · intro h; rw [h]
  rw [h4]
  simp [h3]
theorem lwBytes_any (a : Option Addr) (n c : Nat) (bs : List Int) (a2 : Option Addr) (n2 c2 : Nat) (bs2 : List Int) (w : World) (A B A2 B2 : Nat) (h : BytesAt w A B a n c bs) (h2 : BytesAt w A2 B2 a2 n2 c2 bs2) :
    Calls Try.prog 44 #[.slice a n c, .slice a2 n2 c2] w fun e w' => e = .returned (.bool (decide (bs = bs2))) ∧ w' = w := by
  have s1 := str_conv h
  have s2 := str_conv h2
  have hc := toB_cmpW h.2.2.2.1 h2.2.2.2.1
  go_enter Try.func44, Try.ntmps44
  go_wp2

  go_ret
  exact ⟨rfl, rfl⟩
end Go.Proofs.Ytpiipnfhinbimac
namespace Go.Proofs.Ytpiipnfhinbimac
open Go.RowKit
set_option linter.unusedVariables false
set_option maxRecDepth 100000

set_option maxHeartbeats 3200000 in
theorem lwPage_same (p : Pg) (hf : PgFit p) (ka : Option Addr) (kc : Nat) (ea : Option Addr) (ec : Nat) (kb : Option Addr) (kd : Nat) (eb : Option Addr) (ed : Nat) (w : World) (A B A2 B2 : Nat) (hB : B ≤ w.heap.size) (hB2 : B2 ≤ w.heap.size) (hK : KidsAt w A B ka p.ks.length kc p.ks) (hE : EntsAt w A B ea p.es.length ec p.es) (hK2 : KidsAt w A2 B2 kb p.ks.length kd p.ks) (hE2 : EntsAt w A2 B2 eb p.es.length ed p.es) :
    Calls Try.prog 36 #[.agg #[.int .i64 p.kind, .int .i64 p.tx, .int .i64 p.id, .int .i64 p.root, .int .i64 p.count, .slice ka p.ks.length kc, .slice ea p.es.length ec, .int .i64 p.next, .string p.data], .agg #[.int .i64 p.kind, .int .i64 p.tx, .int .i64 p.id, .int .i64 p.root, .int .i64 p.count, .slice kb p.ks.length kd, .slice eb p.es.length ed, .int .i64 p.next, .string p.data]] w fun e w' => e = .returned (.bool true) ∧ Below w.heap.size w w' := by
  go_enter Try.func36, Try.ntmps36
  have hkc := hK.2.2.1
  have hkn := hK.2.1
  have hec := hE.2.2.1
  have hen := hE.2.1
  unfold maxLen at hkc hec
  go_wp2_with fail
  have X1 := heap_alloc_new w (.cells #[.int .i64 p.kind, .int .i64 p.tx, .int .i64 p.id, .int .i64 p.root, .int .i64 p.count, .slice ka p.ks.length kc, .slice ea p.es.length ec, .int .i64 p.next, .string p.data] 35)
  have hb1 : Below w.heap.size w (w.alloc (.cells #[.int .i64 p.kind, .int .i64 p.tx, .int .i64 p.id, .int .i64 p.root, .int .i64 p.count, .slice ka p.ks.length kc, .slice ea p.es.length ec, .int .i64 p.next, .string p.data] 35)) := (Below.refl _ _).alloc (Nat.le_refl _) _
  have Y2 := heap_alloc_new (w.alloc (.cells #[.int .i64 p.kind, .int .i64 p.tx, .int .i64 p.id, .int .i64 p.root, .int .i64 p.count, .slice ka p.ks.length kc, .slice ea p.es.length ec, .int .i64 p.next, .string p.data] 35)) (.cells #[.int .i64 p.kind, .int .i64 p.tx, .int .i64 p.id, .int .i64 p.root, .int .i64 p.count, .slice kb p.ks.length kd, .slice eb p.es.length ed, .int .i64 p.next, .string p.data] 35)
  have hb2 : Below (w.alloc (.cells #[.int .i64 p.kind, .int .i64 p.tx, .int .i64 p.id, .int .i64 p.root, .int .i64 p.count, .slice ka p.ks.length kc, .slice ea p.es.length ec, .int .i64 p.next, .string p.data] 35)).heap.size (w.alloc (.cells #[.int .i64 p.kind, .int .i64 p.tx, .int .i64 p.id, .int .i64 p.root, .int .i64 p.count, .slice ka p.ks.length kc, .slice ea p.es.length ec, .int .i64 p.next, .string p.data] 35)) ((w.alloc (.cells #[.int .i64 p.kind, .int .i64 p.tx, .int .i64 p.id, .int .i64 p.root, .int .i64 p.count, .slice ka p.ks.length kc, .slice ea p.es.length ec, .int .i64 p.next, .string p.data] 35)).alloc (.cells #[.int .i64 p.kind, .int .i64 p.tx, .int .i64 p.id, .int .i64 p.root, .int .i64 p.count, .slice kb p.ks.length kd, .slice eb p.es.length ed, .int .i64 p.next, .string p.data] 35)) := (Below.refl _ _).alloc (Nat.le_refl _) _
  have hsz : (w.alloc (.cells #[.int .i64 p.kind, .int .i64 p.tx, .int .i64 p.id, .int .i64 p.root, .int .i64 p.count, .slice ka p.ks.length kc, .slice ea p.es.length ec, .int .i64 p.next, .string p.data] 35)).heap.size = w.heap.size + 1 := by simp
  rw [hsz] at Y2
  have X2 := (hb2.block w.heap.size (by rw [hsz]; omega)).trans X1
  have b2 : Below w.heap.size w ((w.alloc (.cells #[.int .i64 p.kind, .int .i64 p.tx, .int .i64 p.id, .int .i64 p.root, .int .i64 p.count, .slice ka p.ks.length kc, .slice ea p.es.length ec, .int .i64 p.next, .string p.data] 35)).alloc (.cells #[.int .i64 p.kind, .int .i64 p.tx, .int .i64 p.id, .int .i64 p.root, .int .i64 p.count, .slice kb p.ks.length kd, .slice eb p.es.length ed, .int .i64 p.next, .string p.data] 35)) := hb1.trans (hb2.mono (by rw [hsz]; omega))
  generalize (w.alloc (.cells #[.int .i64 p.kind, .int .i64 p.tx, .int .i64 p.id, .int .i64 p.root, .int .i64 p.count, .slice ka p.ks.length kc, .slice ea p.es.length ec, .int .i64 p.next, .string p.data] 35)).alloc (.cells #[.int .i64 p.kind, .int .i64 p.tx, .int .i64 p.id, .int .i64 p.root, .int .i64 p.count, .slice kb p.ks.length kd, .slice eb p.es.length ed, .int .i64 p.next, .string p.data] 35) = w2 at X2 Y2 b2 ⊢
  clear X1 hb1 hb2 hsz
  go_loopw [5] (fun i wr => ∃ (k q : Nat), k ≤ p.ks.length ∧ i = .int .i64 k ∧ wr = w2.drewN q) (fun i _ => p.ks.length - (intOf i).toNat)
  case atStart => exact ⟨0, 0, Nat.zero_le _, rfl, rfl⟩
  case round =>
    obtain ⟨k, q, hk, rfl, rfl⟩ := hrel
    have X3 : (w2.drewN q).heap[w.heap.size]? = _ := X2
    have Y3 : (w2.drewN q).heap[w.heap.size + 1]? = _ := Y2
    have b3 : Below w.heap.size w (w2.drewN q) := b2.trans ⟨rfl, rfl, rfl, Nat.le_refl _, fun _ _ => rfl⟩
    have HQ : Hid (∀ m, (w2.drewN q).drewN m = w2.drewN (q + m)) := fun m => World.drewN_drewN _ _ _
    generalize w2.drewN q = w3 at X3 Y3 b3 HQ ⊢
    obtain ⟨x0, x1, x2, x3, x4, x5, x6, x7, x8⟩ := box_page X3
    obtain ⟨y0, y1, y2, y3, y4, y5, y6, y7, y8⟩ := box_page Y3
    by_cases hlt : k < p.ks.length
    · obtain ⟨b, off, rfl, hb, hfit, e0, e1⟩ := KidsAt.at (hK.below (b3.mono hB)) hlt
      obtain ⟨b', off', rfl, hb', hfit2, f0, f1⟩ := KidsAt.at (hK2.below (b3.mono hB2)) hlt
      generalize p.ks.getD k dK = kd0 at e0 e1 f0 f1 hfit
      clear hK hK2 hE hE2 hfit2 X2 Y2 X3 Y3
      have hne : (kd0.1.toList == kd0.1.toList) = true := by simp
      go_wp2_with fail
      go_quiet (fail)
      go_wp2
      go_roundw
      case rel => exact ⟨k + 1, q + nq, by omega, by go_num, HQ.out nq⟩
      case measure => simp [intOf]; omega
    · go_wp2_with fail
      clear x0 x1 x2 x3 x4 x5 x6 x7 x8 y0 y1 y2 y3 y4 y5 y6 y7 y8 hK hK2 X2 Y2 b2 HQ
      go_loopw [6] (fun i wr => ∃ (k q : Nat), k ≤ p.es.length ∧ i = .int .i64 k ∧ wr = w3.drewN q) (fun i _ => p.es.length - (intOf i).toNat)
      case atStart => exact ⟨0, 0, Nat.zero_le _, rfl, rfl⟩
      case round =>
        obtain ⟨j, q2, hj, rfl, rfl⟩ := hrel
        have X4 : (w3.drewN q2).heap[w.heap.size]? = _ := X3
        have Y4 : (w3.drewN q2).heap[w.heap.size + 1]? = _ := Y3
        have b4 : Below w.heap.size w (w3.drewN q2) := b3.trans ⟨rfl, rfl, rfl, Nat.le_refl _, fun _ _ => rfl⟩
        have HQ : Hid (∀ m, (w3.drewN q2).drewN m = w3.drewN (q2 + m)) := fun m => World.drewN_drewN _ _ _
        generalize w3.drewN q2 = w4 at X4 Y4 b4 HQ ⊢
        obtain ⟨x0, x1, x2, x3, x4, x5, x6, x7, x8⟩ := box_page X4
        obtain ⟨y0, y1, y2, y3, y4, y5, y6, y7, y8⟩ := box_page Y4
        by_cases hlt2 : j < p.es.length
        · obtain ⟨b, off, rfl, hb, hfit, e0, e1, e2, e3⟩ := EntsAt.at (hE.below (b4.mono hB)) hlt2
          obtain ⟨b', off', rfl, hb', hfit2, f0, f1, f2, f3⟩ := EntsAt.at (hE2.below (b4.mono hB2)) hlt2
          generalize p.es.getD j dE = kd0 at e0 e1 e2 e3 f0 f1 f2 f3 hfit
          clear hE hE2 hfit2 X3 Y3 X4 Y4
          go_wp2_with fail
          go_quiet (fail)
          go_wp2
          go_roundw
          case rel => exact ⟨j + 1, q2 + nq, by omega, by go_num, HQ.out nq⟩
          case measure => simp [intOf]; omega
        · go_wp2
          go_ret
          exact ⟨rfl, b4⟩
end Go.Proofs.Ytpiipnfhinbimac
