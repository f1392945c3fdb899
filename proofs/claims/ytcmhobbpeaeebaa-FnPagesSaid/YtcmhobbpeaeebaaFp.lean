import Derived.Test.YtcmhobbpeaeebaaGAH
import Derived.Test.YtcmhobbpeaeebaaGAV
import Derived.Test.YtcmhobbpeaeebaaGAU
import Derived.Test.YtcmhobbpeaeebaaGBC
import Derived.Test.YtcmhobbpeaeebaaGBL
import Derived.Deep.DeepCutAuto
namespace Go.Proofs.Ytcmhobbpeaeebaa
open Go.RowKit
set_option linter.unusedVariables false
set_option maxRecDepth 100000

theorem newCode_good {p : Pg} (h : newCodeOf p ≠ []) : inB 1 2000000000 p.tx = true ∧ bodyOk 2 999 p = true := by
  by_cases hg : inB 1 2000000000 p.tx = true ∧ bodyOk 2 999 p = true
  · exact hg
  · exact absurd (by rw [newCodeOf, if_neg hg]) h
theorem oldCode_good {p : Pg} (h : oldCodeOf p ≠ []) : p.tx = 0 ∧ bodyOk 1 998 p = true := by
  by_cases hg : p.tx = 0 ∧ bodyOk 1 998 p = true
  · exact hg
  · exact absurd (by rw [oldCodeOf, if_neg hg]) h
theorem decR_new {p : Pg} (h : newCodeOf p ≠ []) : (newCodeOf p).length = 128 ∧ New.decR (newCodeOf p) = (true, p) := by
  obtain ⟨h1, h2⟩ := newCode_good h
  have hl := (New.code_formI h1 h2).choose_spec.2
  have hd := (New.dec_code h1 h2).1
  exact ⟨hl, by rw [New.decR, if_pos ⟨hl, by rw [hd]⟩, hd]⟩
theorem decR_old {p : Pg} (h : oldCodeOf p ≠ []) : (oldCodeOf p).length = 128 ∧ Old.decR (oldCodeOf p) = (true, p) := by
  obtain ⟨h1, h2⟩ := oldCode_good h
  have hl := oldCode_full h1 h2
  have hd := (Old.dec_code h1 h2).1
  exact ⟨hl, by rw [Old.decR, if_pos ⟨hl, by rw [hd]⟩, hd]⟩
/-- What is read is the code of its page, and fits. -/
theorem decR_backN {bs : List Int} (hb : New.AllB bs) (h : (New.decR bs).1 = true) : newCodeOf (New.decR bs).2 = bs ∧ PgFit (New.decR bs).2 := by
  unfold New.decR at h ⊢
  by_cases hc : bs.length = 128 ∧ newCodeOf (New.decP bs) = bs
  · rw [if_pos hc]
    have hne : bs ≠ [] := by intro e; rw [e] at hc; simp at hc
    have h1 := (New.dec_same hne).1 hc.2
    have h2 : (New.sDec bs).1 = New.decP bs := by rw [h1]
    exact ⟨hc.2, by show PgFit (New.decP bs); rw [← h2]; exact (New.sDec_fit hb).1⟩
  · rw [if_neg hc] at h; cases h
theorem decR_backO {bs : List Int} (hb : Old.AllB bs) (h : (Old.decR bs).1 = true) : oldCodeOf (Old.decR bs).2 = bs ∧ PgFit (Old.decR bs).2 := by
  unfold Old.decR at h ⊢
  by_cases hc : bs.length = 128 ∧ oldCodeOf (Old.decP bs) = bs
  · rw [if_pos hc]
    have hne : bs ≠ [] := by intro e; rw [e] at hc; simp at hc
    have h1 := (Old.dec_same hne).1 hc.2
    have h2 : (Old.sDec bs).1 = Old.decP bs := by rw [h1]
    exact ⟨hc.2, by show PgFit (Old.decP bs); rw [← h2]; exact (Old.sDec_fit hb).1⟩
  · rw [if_neg hc] at h; cases h
theorem run_fieldOk (b : Bool) (v1 v2 v3 v4 v5 v6 v7 v8 v9 : Value) (w : World) : (Instr.field 32 (.agg #[.bool b, v1, v2, v3, v4, v5, v6, v7, v8, v9]) 0).run Try.prog w = .ok (.bool b) w := by
  simp [Instr.field, asAgg, go_sem]
/-- What stands at the law's last statement: both answers' blocks, both codes, both pages' rows. -/
structure FSt (w W : World) (N R1 R2 : Nat) (cs1 cs2 : Array Value) (xa : Option Addr) (xn xc : Nat) (l1 : List Int) (ya : Option Addr) (yn yc : Nat) (l2 : List Int) (q1 q2 : Pg) (ka1 : Option Addr) (kc1 : Nat) (ea1 : Option Addr) (ec1 : Nat) (ka2 : Option Addr) (kc2 : Nat) (ea2 : Option Addr) (ec2 : Nat) : Prop where
  r1 : W.heap[R1]? = some (.cells cs1 32)
  r2 : W.heap[R2]? = some (.cells cs2 32)
  x : BytesAt W 0 N xa xn xc l1
  y : BytesAt W 0 N ya yn yc l2
  k1 : KidsAt W 0 N ka1 q1.ks.length kc1 q1.ks
  e1 : EntsAt W 0 N ea1 q1.es.length ec1 q1.es
  k2 : KidsAt W 0 N ka2 q2.ks.length kc2 q2.ks
  e2 : EntsAt W 0 N ea2 q2.es.length ec2 q2.es
  bel : Below w.heap.size w W
  top : N ≤ W.heap.size
  in1 : R1 < N
  in2 : R2 < N
theorem FSt.below {w W W' : World} {N R1 R2 : Nat} {cs1 cs2 : Array Value} {xa : Option Addr} {xn xc : Nat} {l1 : List Int} {ya : Option Addr} {yn yc : Nat} {l2 : List Int} {q1 q2 : Pg} {ka1 : Option Addr} {kc1 : Nat} {ea1 : Option Addr} {ec1 : Nat} {ka2 : Option Addr} {kc2 : Nat} {ea2 : Option Addr} {ec2 : Nat} (h : FSt w W N R1 R2 cs1 cs2 xa xn xc l1 ya yn yc l2 q1 q2 ka1 kc1 ea1 ec1 ka2 kc2 ea2 ec2) (hb : Below W.heap.size W W') : FSt w W' N R1 R2 cs1 cs2 xa xn xc l1 ya yn yc l2 q1 q2 ka1 kc1 ea1 ec1 ka2 kc2 ea2 ec2 := by
  have hN := hb.mono h.top
  exact ⟨(hN.block R1 h.in1).trans h.r1, (hN.block R2 h.in2).trans h.r2, h.x.below hN, h.y.below hN, h.k1.below hN, h.e1.below hN, h.k2.below hN, h.e2.below hN, h.bel.trans (hb.mono h.bel.size), Nat.le_trans h.top hb.size, h.in1, h.in2⟩
theorem box_tenP {w : World} {N : Nat} {v0 v1 v2 v3 v4 v5 v6 v7 v8 v9 : Value} {t : TypeId} (h : w.heap[N]? = some (.cells #[v0, v1, v2, v3, v4, v5, v6, v7, v8, v9] t)) : w.cell? ⟨N, 0, none⟩ = some v0 ∧ w.cell? ⟨N, 1, none⟩ = some v1 ∧ w.cell? ⟨N, 2, none⟩ = some v2 ∧ w.cell? ⟨N, 3, none⟩ = some v3 ∧ w.cell? ⟨N, 4, none⟩ = some v4 ∧ w.cell? ⟨N, 5, none⟩ = some v5 ∧ w.cell? ⟨N, 6, none⟩ = some v6 ∧ w.cell? ⟨N, 7, none⟩ = some v7 ∧ w.cell? ⟨N, 8, none⟩ = some v8 ∧ w.cell? ⟨N, 9, none⟩ = some v9 := by
  refine ⟨?_, ?_, ?_, ?_, ?_, ?_, ?_, ?_, ?_, ?_⟩ <;> simp [World.cell?, h]
set_option maxHeartbeats 25600000 in
theorem law_Pages (a : Option Addr) (n c : Nat) (bs : List Int) (a2 : Option Addr) (n2 c2 : Nat) (bs2 : List Int) (w : World) (h : BytesAt w 0 w.heap.size a n c bs) (h2 : BytesAt w 0 w.heap.size a2 n2 c2 bs2) :
    Calls Try.prog 7 #[.slice a n c, .slice a2 n2 c2] w fun e w' => e = .returned (.bool true) ∧ Below w.heap.size w w' := by
  have hcm := h.2.2.1
  have hnc := h.2.1
  have hcm2 := h2.2.2.1
  have hnc2 := h2.2.1
  unfold maxLen at hcm hcm2
  go_enter Try.func7, Try.ntmps7
  by_cases hn : n ≤ 1048576
  · by_cases hn2 : n2 ≤ 1048576
    · go_wp2_with fail
      refine (drawEncodePage_any a n c bs w 0 w.heap.size (Nat.le_refl _) h).mono ?_
      rintro e w1 ⟨v, rfl, hv1, b1⟩
      obtain ⟨p, ka, kc, ea, ec, rfl, hf, hK1, hE1, _⟩ := hv1.rows
      clear hv1
      go_wp2_with fail
      have X2 := heap_alloc_new w1 (.cells #[.int .i64 p.kind, .int .i64 p.tx, .int .i64 p.id, .int .i64 p.root, .int .i64 p.count, .slice ka p.ks.length kc, .slice ea p.es.length ec, .int .i64 p.next, .string p.data] 28)
      have hal : Below w1.heap.size w1 (w1.alloc (.cells #[.int .i64 p.kind, .int .i64 p.tx, .int .i64 p.id, .int .i64 p.root, .int .i64 p.count, .slice ka p.ks.length kc, .slice ea p.es.length ec, .int .i64 p.next, .string p.data] 28)) := (Below.refl _ _).alloc (Nat.le_refl _) _
      have b2 := b1.trans (hal.mono b1.size)
      have hK2 := hK1.below hal
      have hE2 := hE1.below hal
      have hP2 : w1.heap.size < (w1.alloc (.cells #[.int .i64 p.kind, .int .i64 p.tx, .int .i64 p.id, .int .i64 p.root, .int .i64 p.count, .slice ka p.ks.length kc, .slice ea p.es.length ec, .int .i64 p.next, .string p.data] 28)).heap.size := (Array.getElem?_eq_some_iff.1 X2).1
      have hs1 := b1.size
      generalize w1.alloc (.cells #[.int .i64 p.kind, .int .i64 p.tx, .int .i64 p.id, .int .i64 p.root, .int .i64 p.count, .slice ka p.ks.length kc, .slice ea p.es.length ec, .int .i64 p.next, .string p.data] 28) = w2 at X2 b2 hK2 hE2 hP2 ⊢
      clear hK1 hE1 hal b1
      generalize w1.heap.size = P at X2 hK2 hE2 hP2 hs1 ⊢
      refine (New.encodePage_any p hf ka kc ea ec w2 _ P (by omega) hK2 hE2).mono ?_
      rintro e w3 ⟨v3, rfl, hO3, hb3⟩
      have b3 := b2.trans (hb3.mono b2.size)
      have X3 := (hb3.block P hP2).trans X2
      have hK3 := hK2.below (hb3.mono (by omega))
      have hE3 := hE2.below (hb3.mono (by omega))
      have hs3 := hb3.size
      clear b2 X2 hK2 hE2 hb3
      obtain ⟨p0, p1, p2, p3, p4, p5, p6, p7, p8⟩ := box_page X3
      go_wp2_with fail
      refine (specEncodePage_any p hf hf.tx ka kc ea ec w3 _ P (by omega) hK3 hE3).mono ?_
      rintro e w4 ⟨v4, rfl, hO4, hb4⟩
      have b4 := b3.trans (hb4.mono b3.size)
      have X4 := (hb4.block P (by omega)).trans X3
      have hK4 := hK3.below (hb4.mono (by omega))
      have hE4 := hE3.below (hb4.mono (by omega))
      have hO34 := owns_below hO3 hb4
      have hs4 := hb4.size
      clear b3 X3 hK3 hE3 hb4 hO3 p0 p1 p2 p3 p4 p5 p6 p7 p8
      obtain ⟨a3, c3, rfl⟩ := own_shape hO34
      obtain ⟨a4, c4, rfl⟩ := own_shape hO4
      clear hO4
      go_upto_if 30 with fail
      go_cut [4, 6] (fun s sb wc => s = .bool false ∧ Below w.heap.size w wc)
      case first =>
        by_cases hpe : newCodeOf p = []
        · rw [hpe] at hO34 ⊢
          clear hO34
          have hl0 : (([] : List Int).length : Int) = 0 := rfl
          go_wp2_with fail
          go_meet
          case rel => exact ⟨rfl, b4⟩
        · obtain ⟨hlp, hdp⟩ := decR_new hpe
          have hby := codeN_byte p
          rw [hlp] at hO34 ⊢
          have hB4 := bytesAt_row hO34 hby
          have HDI : Hid (∀ (w : World) (A B : Nat), B ≤ w.heap.size → BytesAt w A B a3 128 c3 (newCodeOf p) → Calls Try.prog 10 #[.slice a3 128 c3] w fun e w' => ∃ (ka : Option Addr) (kc : Nat) (ea : Option Addr) (ec : Nat), e = .returned (.agg #[.bool true, .int .i64 p.kind, .int .i64 p.tx, .int .i64 p.id, .int .i64 p.root, .int .i64 p.count, .slice ka p.ks.length kc, .slice ea p.es.length ec, .int .i64 p.next, .string p.data]) ∧ w'.ownsRow w.heap.size 100 2 (.slice ka p.ks.length kc) p.ks.length (rowsOf kidCells p.ks) ∧ w'.ownsRow w.heap.size 102 4 (.slice ea p.es.length ec) p.es.length (rowsOf entCells p.es) ∧ Below w.heap.size w w') := by
            intro w A B hB hb
            refine (New.dec_impl a3 128 c3 _ w A B hB hb).mono ?_
            rintro e w' ⟨ka, kc, ea, ec, he, h1, h2, _, hbel⟩
            rw [hdp] at he h1 h2
            exact ⟨ka, kc, ea, ec, he, h1, h2, hbel⟩
          have hfk := hK4.2.2.2.1
          have hfe := hE4.2.2.2.1
          generalize newCodeOf p = l at hB4 HDI hby hlp
          clear hpe hdp hO34 hby
          go_wp2_with fail
          refine (HDI.out w4 _ _ (Nat.le_refl _) hB4).mono ?_
          rintro e w5 ⟨ka', kc', ea', ec', rfl, hO5, hP5, hb5⟩
          have b5 := b4.trans (hb5.mono b4.size)
          have X5 := (hb5.block P (by omega)).trans X4
          have hK5 := hK4.below (hb5.mono (by omega))
          have hE5 := hE4.below (hb5.mono (by omega))
          obtain ⟨_, _, e2, hK52⟩ := RowsAt.of_owns kc2 hO5 rfl hfk
          cases e2
          obtain ⟨_, _, e2, hE52⟩ := RowsAt.of_owns ec4 hP5 rfl hfe
          cases e2
          have hs5 := hb5.size
          clear HDI hB4 hb5 b4 X4 hK4 hE4 hO5 hP5
          obtain ⟨p0, p1, p2, p3, p4, p5, p6, p7, p8⟩ := box_page X5
          have hP5 : P < w5.heap.size := by omega
          go_wp2_with fail
          clear p0 p1 p2 p3 p4 p5 p6 p7 p8
          have hal : Below w5.heap.size w5 (w5.alloc (.cells #[.bool true, .int .i64 p.kind, .int .i64 p.tx, .int .i64 p.id, .int .i64 p.root, .int .i64 p.count, .slice ka' p.ks.length kc', .slice ea' p.es.length ec', .int .i64 p.next, .string p.data] 32)) := (Below.refl _ _).alloc (Nat.le_refl _) _
          have Y6 := heap_alloc_new w5 (.cells #[.bool true, .int .i64 p.kind, .int .i64 p.tx, .int .i64 p.id, .int .i64 p.root, .int .i64 p.count, .slice ka' p.ks.length kc', .slice ea' p.es.length ec', .int .i64 p.next, .string p.data] 32)
          have b6 := b5.trans (hal.mono b5.size)
          have X6 := (hal.block P (by omega)).trans X5
          have hK6 := hK5.below (hal.mono (by omega))
          have hE6 := hE5.below (hal.mono (by omega))
          have hK62 := hK52.below hal
          have hE62 := hE52.below hal
          have hs6 : w5.heap.size < (w5.alloc (.cells #[.bool true, .int .i64 p.kind, .int .i64 p.tx, .int .i64 p.id, .int .i64 p.root, .int .i64 p.count, .slice ka' p.ks.length kc', .slice ea' p.es.length ec', .int .i64 p.next, .string p.data] 32)).heap.size := (Array.getElem?_eq_some_iff.1 Y6).1
          generalize w5.alloc (.cells #[.bool true, .int .i64 p.kind, .int .i64 p.tx, .int .i64 p.id, .int .i64 p.root, .int .i64 p.count, .slice ka' p.ks.length kc', .slice ea' p.es.length ec', .int .i64 p.next, .string p.data] 32) = w6 at Y6 b6 X6 hK6 hE6 hK62 hE62 hs6 ⊢
          clear hal b5 X5 hK5 hE5 hK52 hE52
          generalize w5.heap.size = R at Y6 hK62 hE62 hs6 hs5 hP5 ⊢
          refine (lwPage_same p hf _ _ _ _ _ _ _ _ w6 _ _ _ _ (by omega) (by omega) hK62 hE62 hK6 hE6).mono ?_
          rintro e w7 ⟨rfl, hb7⟩
          have b7 := b6.trans (hb7.mono b6.size)
          go_wp2_with fail
          go_meet
          case rel => exact ⟨rfl, b7⟩
      case rest =>
        obtain ⟨rfl, bc⟩ := hcut
        clear hO34 b4 X4 hK4 hE4 hs4 hs3 hP2 hs1 hf
        go_wp2_with fail
        refine (drawEncodeOld_any a n c bs wc 0 w.heap.size bc.size (h.below bc)).mono ?_
        rintro e w8 ⟨v, rfl, hv8, hb8⟩
        have b8 := bc.trans (hb8.mono bc.size)
        obtain ⟨q, la, lc, ma, mc, rfl, hg, hK8, hE8, _⟩ := hv8.rows
        clear hv8 hb8 bc
        go_wp2_with fail
        have Q9 := heap_alloc_new w8 (.cells #[.int .i64 q.kind, .int .i64 q.tx, .int .i64 q.id, .int .i64 q.root, .int .i64 q.count, .slice la q.ks.length lc, .slice ma q.es.length mc, .int .i64 q.next, .string q.data] 28)
        have hal : Below w8.heap.size w8 (w8.alloc (.cells #[.int .i64 q.kind, .int .i64 q.tx, .int .i64 q.id, .int .i64 q.root, .int .i64 q.count, .slice la q.ks.length lc, .slice ma q.es.length mc, .int .i64 q.next, .string q.data] 28)) := (Below.refl _ _).alloc (Nat.le_refl _) _
        have b9 := b8.trans (hal.mono b8.size)
        have hK9 := hK8.below hal
        have hE9 := hE8.below hal
        have hP9 : w8.heap.size < (w8.alloc (.cells #[.int .i64 q.kind, .int .i64 q.tx, .int .i64 q.id, .int .i64 q.root, .int .i64 q.count, .slice la q.ks.length lc, .slice ma q.es.length mc, .int .i64 q.next, .string q.data] 28)).heap.size := (Array.getElem?_eq_some_iff.1 Q9).1
        have hs8 := b8.size
        generalize w8.alloc (.cells #[.int .i64 q.kind, .int .i64 q.tx, .int .i64 q.id, .int .i64 q.root, .int .i64 q.count, .slice la q.ks.length lc, .slice ma q.es.length mc, .int .i64 q.next, .string q.data] 28) = w9 at Q9 b9 hK9 hE9 hP9 ⊢
        clear hK8 hE8 hal b8
        generalize w8.heap.size = Z at Q9 hK9 hE9 hP9 hs8 ⊢
        refine (Old.encodeOld_any q hg la lc ma mc w9 _ Z (by omega) hK9 hE9).mono ?_
        rintro e w10 ⟨v10, rfl, hO10, hb10⟩
        have b10 := b9.trans (hb10.mono b9.size)
        have Q10 := (hb10.block Z hP9).trans Q9
        have hK10 := hK9.below (hb10.mono (by omega))
        have hE10 := hE9.below (hb10.mono (by omega))
        have hs10 := hb10.size
        clear b9 Q9 hK9 hE9 hb10
        obtain ⟨p0, p1, p2, p3, p4, p5, p6, p7, p8⟩ := box_page Q10
        go_wp2_with fail
        refine (specEncodeOld_any q hg la lc ma mc w10 _ Z (by omega) hK10 hE10).mono ?_
        rintro e w11 ⟨v11, rfl, hO11, hb11⟩
        have b11 := b10.trans (hb11.mono b10.size)
        have Q11 := (hb11.block Z (by omega)).trans Q10
        have hK11 := hK10.below (hb11.mono (by omega))
        have hE11 := hE10.below (hb11.mono (by omega))
        have hO1011 := owns_below hO10 hb11
        have hs11 := hb11.size
        clear b10 Q10 hK10 hE10 hb11 hO10 p0 p1 p2 p3 p4 p5 p6 p7 p8
        obtain ⟨a10, c10, rfl⟩ := own_shape hO1011
        obtain ⟨a11, c11, rfl⟩ := own_shape hO11
        clear hO11
        go_upto_if 58 with fail
        go_cut [4, 9] (fun s sb wc => s = .bool false ∧ Below w.heap.size w wc)
        case first =>
          by_cases hqe : oldCodeOf q = []
          · rw [hqe] at hO1011 ⊢
            clear hO1011
            have hl0 : (([] : List Int).length : Int) = 0 := rfl
            go_wp2_with fail
            go_meet
            case rel => exact ⟨rfl, b11⟩
          · obtain ⟨hlp, hdp⟩ := decR_old hqe
            have hby := code_byte q
            rw [hlp] at hO1011 ⊢
            have hB11 := bytesAt_row hO1011 hby
            have HDI : Hid (∀ (w : World) (A B : Nat), B ≤ w.heap.size → BytesAt w A B a10 128 c10 (oldCodeOf q) → Calls Try.prog 14 #[.slice a10 128 c10] w fun e w' => ∃ (ka : Option Addr) (kc : Nat) (ea : Option Addr) (ec : Nat), e = .returned (.agg #[.bool true, .int .i64 q.kind, .int .i64 q.tx, .int .i64 q.id, .int .i64 q.root, .int .i64 q.count, .slice ka q.ks.length kc, .slice ea q.es.length ec, .int .i64 q.next, .string q.data]) ∧ w'.ownsRow w.heap.size 100 2 (.slice ka q.ks.length kc) q.ks.length (rowsOf kidCells q.ks) ∧ w'.ownsRow w.heap.size 102 4 (.slice ea q.es.length ec) q.es.length (rowsOf entCells q.es) ∧ Below w.heap.size w w') := by
              intro w A B hB hb
              refine (Old.dec_impl a10 128 c10 _ w A B hB hb).mono ?_
              rintro e w' ⟨ka, kc, ea, ec, he, h1, h2, _, hbel⟩
              rw [hdp] at he h1 h2
              exact ⟨ka, kc, ea, ec, he, h1, h2, hbel⟩
            have hfk := hK11.2.2.2.1
            have hfe := hE11.2.2.2.1
            generalize oldCodeOf q = l at hB11 HDI hby hlp
            clear hqe hdp hO1011 hby
            go_wp2_with fail
            refine (HDI.out w11 _ _ (Nat.le_refl _) hB11).mono ?_
            rintro e w12 ⟨ka', kc', ea', ec', rfl, hO12, hP12, hb12⟩
            have b12 := b11.trans (hb12.mono b11.size)
            have Q12 := (hb12.block Z (by omega)).trans Q11
            have hK12 := hK11.below (hb12.mono (by omega))
            have hE12 := hE11.below (hb12.mono (by omega))
            obtain ⟨_, _, e2, hK122⟩ := RowsAt.of_owns kc2 hO12 rfl hfk
            cases e2
            obtain ⟨_, _, e2, hE122⟩ := RowsAt.of_owns ec4 hP12 rfl hfe
            cases e2
            have hs12 := hb12.size
            clear HDI hB11 hb12 b11 Q11 hK11 hE11 hO12 hP12
            obtain ⟨p0, p1, p2, p3, p4, p5, p6, p7, p8⟩ := box_page Q12
            have hP12 : Z < w12.heap.size := by omega
            go_wp2_with fail
            clear p0 p1 p2 p3 p4 p5 p6 p7 p8
            have hal : Below w12.heap.size w12 (w12.alloc (.cells #[.bool true, .int .i64 q.kind, .int .i64 q.tx, .int .i64 q.id, .int .i64 q.root, .int .i64 q.count, .slice ka' q.ks.length kc', .slice ea' q.es.length ec', .int .i64 q.next, .string q.data] 32)) := (Below.refl _ _).alloc (Nat.le_refl _) _
            have Y13 := heap_alloc_new w12 (.cells #[.bool true, .int .i64 q.kind, .int .i64 q.tx, .int .i64 q.id, .int .i64 q.root, .int .i64 q.count, .slice ka' q.ks.length kc', .slice ea' q.es.length ec', .int .i64 q.next, .string q.data] 32)
            have b13 := b12.trans (hal.mono b12.size)
            have Q13 := (hal.block Z (by omega)).trans Q12
            have hK13 := hK12.below (hal.mono (by omega))
            have hE13 := hE12.below (hal.mono (by omega))
            have hK132 := hK122.below hal
            have hE132 := hE122.below hal
            have hs13 : w12.heap.size < (w12.alloc (.cells #[.bool true, .int .i64 q.kind, .int .i64 q.tx, .int .i64 q.id, .int .i64 q.root, .int .i64 q.count, .slice ka' q.ks.length kc', .slice ea' q.es.length ec', .int .i64 q.next, .string q.data] 32)).heap.size := (Array.getElem?_eq_some_iff.1 Y13).1
            generalize w12.alloc (.cells #[.bool true, .int .i64 q.kind, .int .i64 q.tx, .int .i64 q.id, .int .i64 q.root, .int .i64 q.count, .slice ka' q.ks.length kc', .slice ea' q.es.length ec', .int .i64 q.next, .string q.data] 32) = w13 at Y13 b13 Q13 hK13 hE13 hK132 hE132 hs13 ⊢
            clear hal b12 Q12 hK12 hE12 hK122 hE122
            generalize w12.heap.size = R2 at Y13 hK132 hE132 hs13 hs12 hP12 ⊢
            refine (lwPage_same q hg _ _ _ _ _ _ _ _ w13 _ _ _ _ (by omega) (by omega) hK132 hE132 hK13 hE13).mono ?_
            rintro e w14 ⟨rfl, hb14⟩
            have b14 := b13.trans (hb14.mono b13.size)
            go_wp2_with fail
            go_meet
            case rel => exact ⟨rfl, b14⟩
        case rest =>
          obtain ⟨rfl, bd⟩ := hcut
          clear hO1011 b11 Q11 hK11 hE11 hs11 hs10 hP9 hs8 hg
          go_wp2_with fail
          refine (drawDecodePage_any a2 n2 c2 bs2 wc 0 w.heap.size bd.size (h2.below bd)).mono ?_
          rintro e w20 hT20
          obtain ⟨xa, xn, xc, l1, rfl, hX20, hb20⟩ := hT20.out
          have b20 := bd.trans (hb20.mono bd.size)
          clear hT20 hb20 bd
          go_wp2_with fail
          refine (drawDecodeOld_any a2 n2 c2 bs2 w20 0 w.heap.size b20.size (h2.below b20)).mono ?_
          rintro e w21 hT21
          obtain ⟨ya, yn, yc, l2, rfl, hY21, hb21⟩ := hT21.out
          have b21 := b20.trans (hb21.mono b20.size)
          have hX21 := hX20.below hb21
          have s2021 := hb21.size
          clear hT21 hb21 b20 hX20
          have hxb := hX21.2.2.2.1
          have hyb := hY21.2.2.2.1
          obtain ⟨ok1, hok1⟩ : ∃ b, (New.decR l1).1 = b := ⟨_, rfl⟩
          obtain ⟨ok2, hok2⟩ : ∃ b, (Old.decR l2).1 = b := ⟨_, rfl⟩
          obtain ⟨q1, hq1⟩ : ∃ b, (New.decR l1).2 = b := ⟨_, rfl⟩
          obtain ⟨q2, hq2⟩ : ∃ b, (Old.decR l2).2 = b := ⟨_, rfl⟩
          have HB1 : Hid (ok1 = true → newCodeOf q1 = l1 ∧ PgFit q1) := fun h => by have := decR_backN hxb (by rw [hok1]; exact h); rw [hq1] at this; exact this
          have HB2 : Hid (ok2 = true → oldCodeOf q2 = l2 ∧ PgFit q2) := fun h => by have := decR_backO hyb (by rw [hok2]; exact h); rw [hq2] at this; exact this
          have fit1 := New.decR_fit l1 hxb
          have fit2 := Old.decR_fit l2 hyb
          rw [hq1] at fit1
          rw [hq2] at fit2
          have HK1 : Hid (∀ i, i < q1.ks.length → kidFit (q1.ks.getD i dK)) := New.getD_fit fit1.1 dK
          have HE1 : Hid (∀ i, i < q1.es.length → entFit (q1.es.getD i dE)) := New.getD_fit fit1.2.1 dE
          have HK2 : Hid (∀ i, i < q2.ks.length → kidFit (q2.ks.getD i dK)) := New.getD_fit fit2.1 dK
          have HE2 : Hid (∀ i, i < q2.es.length → entFit (q2.es.getD i dE)) := New.getD_fit fit2.2.1 dE
          have HNI : Hid (∀ (w : World) (A B : Nat), B ≤ w.heap.size → BytesAt w A B xa xn xc l1 → Calls Try.prog 10 #[.slice xa xn xc] w fun e w' => ∃ (ka : Option Addr) (kc : Nat) (ea : Option Addr) (ec : Nat), e = .returned (.agg #[.bool ok1, .int .i64 q1.kind, .int .i64 q1.tx, .int .i64 q1.id, .int .i64 q1.root, .int .i64 q1.count, .slice ka q1.ks.length kc, .slice ea q1.es.length ec, .int .i64 q1.next, .string q1.data]) ∧ w'.ownsRow w.heap.size 100 2 (.slice ka q1.ks.length kc) q1.ks.length (rowsOf kidCells q1.ks) ∧ w'.ownsRow w.heap.size 102 4 (.slice ea q1.es.length ec) q1.es.length (rowsOf entCells q1.es) ∧ Below w.heap.size w w') := by
            intro w A B hB hb
            refine (New.dec_impl xa xn xc l1 w A B hB hb).mono ?_
            rintro e w' ⟨ka, kc, ea, ec, he, g1, g2, _, hbel⟩
            rw [hok1, hq1] at he
            rw [hq1] at g1 g2
            exact ⟨ka, kc, ea, ec, he, g1, g2, hbel⟩
          have HNS : Hid (∀ (w : World) (A B : Nat), B ≤ w.heap.size → BytesAt w A B xa xn xc l1 → Calls Try.prog 26 #[.slice xa xn xc] w fun e w' => ∃ (ka : Option Addr) (kc : Nat) (ea : Option Addr) (ec : Nat), e = .returned (.agg #[.bool ok1, .int .i64 q1.kind, .int .i64 q1.tx, .int .i64 q1.id, .int .i64 q1.root, .int .i64 q1.count, .slice ka q1.ks.length kc, .slice ea q1.es.length ec, .int .i64 q1.next, .string q1.data]) ∧ Below w.heap.size w w') := by
            intro w A B hB hb
            refine (New.dec_spec xa xn xc l1 w A B hB hb).mono ?_
            rintro e w' ⟨ka, kc, ea, ec, he, g1, g2, _, hbel⟩
            rw [hok1, hq1] at he
            exact ⟨ka, kc, ea, ec, he, hbel⟩
          have HOI : Hid (∀ (w : World) (A B : Nat), B ≤ w.heap.size → BytesAt w A B ya yn yc l2 → Calls Try.prog 14 #[.slice ya yn yc] w fun e w' => ∃ (ka : Option Addr) (kc : Nat) (ea : Option Addr) (ec : Nat), e = .returned (.agg #[.bool ok2, .int .i64 q2.kind, .int .i64 q2.tx, .int .i64 q2.id, .int .i64 q2.root, .int .i64 q2.count, .slice ka q2.ks.length kc, .slice ea q2.es.length ec, .int .i64 q2.next, .string q2.data]) ∧ w'.ownsRow w.heap.size 100 2 (.slice ka q2.ks.length kc) q2.ks.length (rowsOf kidCells q2.ks) ∧ w'.ownsRow w.heap.size 102 4 (.slice ea q2.es.length ec) q2.es.length (rowsOf entCells q2.es) ∧ Below w.heap.size w w') := by
            intro w A B hB hb
            refine (Old.dec_impl ya yn yc l2 w A B hB hb).mono ?_
            rintro e w' ⟨ka, kc, ea, ec, he, g1, g2, _, hbel⟩
            rw [hok2, hq2] at he
            rw [hq2] at g1 g2
            exact ⟨ka, kc, ea, ec, he, g1, g2, hbel⟩
          have HOS : Hid (∀ (w : World) (A B : Nat), B ≤ w.heap.size → BytesAt w A B ya yn yc l2 → Calls Try.prog 12 #[.slice ya yn yc] w fun e w' => ∃ (ka : Option Addr) (kc : Nat) (ea : Option Addr) (ec : Nat), e = .returned (.agg #[.bool ok2, .int .i64 q2.kind, .int .i64 q2.tx, .int .i64 q2.id, .int .i64 q2.root, .int .i64 q2.count, .slice ka q2.ks.length kc, .slice ea q2.es.length ec, .int .i64 q2.next, .string q2.data]) ∧ Below w.heap.size w w') := by
            intro w A B hB hb
            refine (Old.dec_spec ya yn yc l2 w A B hB hb).mono ?_
            rintro e w' ⟨ka, kc, ea, ec, he, g1, g2, _, hbel⟩
            rw [hok2, hq2] at he
            exact ⟨ka, kc, ea, ec, he, hbel⟩
          clear hok1 hok2 hq1 hq2 fit1 fit2
          have HXB : Hid (∀ x ∈ l1, 0 ≤ x ∧ x ≤ 255) := hxb
          have HYB : Hid (∀ x ∈ l2, 0 ≤ x ∧ x ≤ 255) := hyb
          clear hxb hyb
          go_wp2_with fail
          refine (HNI.out w21 _ _ (by omega) hX21).mono ?_
          rintro e w22 ⟨ka1, kc1, ea1, ec1, rfl, hO22, hP22, hb22⟩
          have b22 := b21.trans (hb22.mono b21.size)
          have hX22 := hX21.below (hb22.mono (by omega))
          have hY22 := hY21.below hb22
          obtain ⟨_, _, e2, hK22⟩ := RowsAt.of_owns kc2 hO22 rfl HK1.out
          cases e2
          obtain ⟨_, _, e2, hE22⟩ := RowsAt.of_owns ec4 hP22 rfl HE1.out
          cases e2
          have s2122 := hb22.size
          clear HNI hb22 b21 hX21 hY21 hO22 hP22
          go_wp2_with fail
          have Y23 := heap_alloc_new w22 (.cells #[.bool ok1, .int .i64 q1.kind, .int .i64 q1.tx, .int .i64 q1.id, .int .i64 q1.root, .int .i64 q1.count, .slice ka1 q1.ks.length kc1, .slice ea1 q1.es.length ec1, .int .i64 q1.next, .string q1.data] 32)
          have hal : Below w22.heap.size w22 (w22.alloc (.cells #[.bool ok1, .int .i64 q1.kind, .int .i64 q1.tx, .int .i64 q1.id, .int .i64 q1.root, .int .i64 q1.count, .slice ka1 q1.ks.length kc1, .slice ea1 q1.es.length ec1, .int .i64 q1.next, .string q1.data] 32)) := (Below.refl _ _).alloc (Nat.le_refl _) _
          have b23 := b22.trans (hal.mono b22.size)
          have hX23 := hX22.below (hal.mono (by omega))
          have hY23 := hY22.below (hal.mono (by omega))
          have hK23 := hK22.below hal
          have hE23 := hE22.below hal
          have s2223 : w22.heap.size < (w22.alloc (.cells #[.bool ok1, .int .i64 q1.kind, .int .i64 q1.tx, .int .i64 q1.id, .int .i64 q1.root, .int .i64 q1.count, .slice ka1 q1.ks.length kc1, .slice ea1 q1.es.length ec1, .int .i64 q1.next, .string q1.data] 32)).heap.size := (Array.getElem?_eq_some_iff.1 Y23).1
          generalize w22.alloc (.cells #[.bool ok1, .int .i64 q1.kind, .int .i64 q1.tx, .int .i64 q1.id, .int .i64 q1.root, .int .i64 q1.count, .slice ka1 q1.ks.length kc1, .slice ea1 q1.es.length ec1, .int .i64 q1.next, .string q1.data] 32) = w23 at Y23 b23 hX23 hY23 hK23 hE23 s2223 ⊢
          clear hal b22 hX22 hY22 hK22 hE22
          generalize w22.heap.size = R1 at Y23 hK23 hE23 s2223 s2122 ⊢
          refine (HOI.out w23 _ _ (by omega) hY23).mono ?_
          rintro e w24 ⟨ka2, kc2_, ea2, ec2_, rfl, hO24, hP24, hb24⟩
          have b24 := b23.trans (hb24.mono b23.size)
          have Y24 := (hb24.block R1 s2223).trans Y23
          have hX24 := hX23.below (hb24.mono (by omega))
          have hY24 := hY23.below (hb24.mono (by omega))
          have hK24 := hK23.below (hb24.mono (by omega))
          have hE24 := hE23.below (hb24.mono (by omega))
          obtain ⟨_, _, e2, hK242⟩ := RowsAt.of_owns kc2 hO24 rfl HK2.out
          cases e2
          obtain ⟨_, _, e2, hE242⟩ := RowsAt.of_owns ec4 hP24 rfl HE2.out
          cases e2
          have s2324 := hb24.size
          clear HOI hb24 b23 hX23 hY23 hK23 hE23 hO24 hP24 Y23
          go_wp2_with fail
          have Z25 := heap_alloc_new w24 (.cells #[.bool ok2, .int .i64 q2.kind, .int .i64 q2.tx, .int .i64 q2.id, .int .i64 q2.root, .int .i64 q2.count, .slice ka2 q2.ks.length kc2_, .slice ea2 q2.es.length ec2_, .int .i64 q2.next, .string q2.data] 32)
          have hal : Below w24.heap.size w24 (w24.alloc (.cells #[.bool ok2, .int .i64 q2.kind, .int .i64 q2.tx, .int .i64 q2.id, .int .i64 q2.root, .int .i64 q2.count, .slice ka2 q2.ks.length kc2_, .slice ea2 q2.es.length ec2_, .int .i64 q2.next, .string q2.data] 32)) := (Below.refl _ _).alloc (Nat.le_refl _) _
          have s2425 : w24.heap.size < (w24.alloc (.cells #[.bool ok2, .int .i64 q2.kind, .int .i64 q2.tx, .int .i64 q2.id, .int .i64 q2.root, .int .i64 q2.count, .slice ka2 q2.ks.length kc2_, .slice ea2 q2.es.length ec2_, .int .i64 q2.next, .string q2.data] 32)).heap.size := (Array.getElem?_eq_some_iff.1 Z25).1
          have F25 : FSt w (w24.alloc (.cells #[.bool ok2, .int .i64 q2.kind, .int .i64 q2.tx, .int .i64 q2.id, .int .i64 q2.root, .int .i64 q2.count, .slice ka2 q2.ks.length kc2_, .slice ea2 q2.es.length ec2_, .int .i64 q2.next, .string q2.data] 32)) (w24.heap.size + 1) R1 w24.heap.size #[.bool ok1, .int .i64 q1.kind, .int .i64 q1.tx, .int .i64 q1.id, .int .i64 q1.root, .int .i64 q1.count, .slice ka1 q1.ks.length kc1, .slice ea1 q1.es.length ec1, .int .i64 q1.next, .string q1.data] #[.bool ok2, .int .i64 q2.kind, .int .i64 q2.tx, .int .i64 q2.id, .int .i64 q2.root, .int .i64 q2.count, .slice ka2 q2.ks.length kc2_, .slice ea2 q2.es.length ec2_, .int .i64 q2.next, .string q2.data] xa xn xc l1 ya yn yc l2 q1 q2 ka1 kc1 ea1 ec1 ka2 kc2_ ea2 ec2_ := ⟨(hal.block R1 (by omega)).trans Y24, Z25, (hX24.below (hal.mono (by omega))).low (Nat.zero_le _) (by omega), (hY24.below (hal.mono (by omega))).low (Nat.zero_le _) (by omega), (hK24.below (hal.mono (by omega))).up (Nat.zero_le _) (by omega), (hE24.below (hal.mono (by omega))).up (Nat.zero_le _) (by omega), (hK242.below hal).up (Nat.zero_le _) (by omega), (hE242.below hal).up (Nat.zero_le _) (by omega), b24.trans (hal.mono b24.size), by omega, by omega, by omega⟩
          generalize w24.alloc (.cells #[.bool ok2, .int .i64 q2.kind, .int .i64 q2.tx, .int .i64 q2.id, .int .i64 q2.root, .int .i64 q2.count, .slice ka2 q2.ks.length kc2_, .slice ea2 q2.es.length ec2_, .int .i64 q2.next, .string q2.data] 32) = w25 at F25 ⊢
          clear hal b24 Y24 hX24 hY24 hK24 hE24 hK242 hE242 Z25 s2425
          generalize w24.heap.size + 1 = N at F25
          generalize w24.heap.size = R2 at F25 ⊢
          have F25d := F25.below ((Below.refl _ _).drew)
          have HLW : Hid (∀ (l : List Int) (a : Option Addr) (n c : Nat) (a2 : Option Addr) (n2 c2 : Nat) (w : World) (A B A2 B2 : Nat), BytesAt w A B a n c l → BytesAt w A2 B2 a2 n2 c2 l → Calls Try.prog 11 #[.slice a n c, .slice a2 n2 c2] w fun e w' => e = .returned (.bool true) ∧ w' = w) := by
            intro l a n c a2 n2 c2 w A B A2 B2 h1 h2
            have := lwBytes_any a n c l a2 n2 c2 l w A B A2 B2 h1 h2
            rw [decide_eq_true rfl] at this
            exact this
          clear HK1 HE1 HK2 HE2
          have hfd := run_fieldOk
          obtain ⟨c0, c1, c2, c3, c4, c5, c6, c7, c8, c9⟩ := box_tenP F25.r1; obtain ⟨d0, d1, d2, d3, d4, d5, d6, d7, d8, d9⟩ := box_tenP F25.r2
          refine wp_region_noPanic ?_
          refine wp_region_held_drew (S := (fun w' => w'.cell? ⟨R1, 0, none⟩ = some (.bool ok1) ∧ w'.cell? ⟨R1, 1, none⟩ = some (.int .i64 q1.kind) ∧ w'.cell? ⟨R1, 2, none⟩ = some (.int .i64 q1.tx) ∧ w'.cell? ⟨R1, 3, none⟩ = some (.int .i64 q1.id) ∧ w'.cell? ⟨R1, 4, none⟩ = some (.int .i64 q1.root) ∧ w'.cell? ⟨R1, 5, none⟩ = some (.int .i64 q1.count) ∧ w'.cell? ⟨R1, 6, none⟩ = some (.slice ka1 q1.ks.length kc1) ∧ w'.cell? ⟨R1, 7, none⟩ = some (.slice ea1 q1.es.length ec1) ∧ w'.cell? ⟨R1, 8, none⟩ = some (.int .i64 q1.next) ∧ w'.cell? ⟨R1, 9, none⟩ = some (.string q1.data) ∧ w'.cell? ⟨R2, 0, none⟩ = some (.bool ok2) ∧ w'.cell? ⟨R2, 1, none⟩ = some (.int .i64 q2.kind) ∧ w'.cell? ⟨R2, 2, none⟩ = some (.int .i64 q2.tx) ∧ w'.cell? ⟨R2, 3, none⟩ = some (.int .i64 q2.id) ∧ w'.cell? ⟨R2, 4, none⟩ = some (.int .i64 q2.root) ∧ w'.cell? ⟨R2, 5, none⟩ = some (.int .i64 q2.count) ∧ w'.cell? ⟨R2, 6, none⟩ = some (.slice ka2 q2.ks.length kc2_) ∧ w'.cell? ⟨R2, 7, none⟩ = some (.slice ea2 q2.es.length ec2_) ∧ w'.cell? ⟨R2, 8, none⟩ = some (.int .i64 q2.next) ∧ w'.cell? ⟨R2, 9, none⟩ = some (.string q2.data))) (by kernel_rfl) ?_ (fun hHeld => ?_)
          · exact ⟨c0, c1, c2, c3, c4, c5, c6, c7, c8, c9, d0, d1, d2, d3, d4, d5, d6, d7, d8, d9⟩
          clear c0 c1 c2 c3 c4 c5 c6 c7 c8 c9 d0 d1 d2 d3 d4 d5 d6 d7 d8 d9
          refine wpAnyH_take (i := 0) (oi := { dst := some 79, op := Op.fieldAddr 32 (Operand.tmp 13) 0, type := 0, pos := "laws.go:540", after := #[], guard := none }) (v := ?_) rfl (by kernel_rfl) (by kernel_rfl) (by kernel_rfl) (fun _ _ _ h => h) (Or.inl ⟨by rfl, ?_⟩) (by assumption) ?_
          rotate_left 1
          · intro w hSw; (try dsimp only at hSw); go_simp; try (with_reducible rfl)
          try simp only [Act.put, List.setIfInBounds_toArray, List.set_cons_zero, List.set_cons_succ]
          refine wpAnyH_take (i := 1) (oi := { dst := some 80, op := Op.load 4 (Operand.tmp 79), type := 4, pos := "laws.go:540", after := #[{ on := 0, ground := Ground.data }], guard := none }) (v := ?_) rfl (by kernel_rfl) (by kernel_rfl) (by kernel_rfl) (fun _ _ _ h => h) (Or.inl ⟨by rfl, ?_⟩) (by assumption) ?_
          rotate_left 1
          · intro w hSw; (try dsimp only at hSw); go_simp; try (with_reducible rfl)
          try simp only [Act.put, List.setIfInBounds_toArray, List.set_cons_zero, List.set_cons_succ]
          refine wpAnyH_take (i := 2) (oi := { dst := some 81, op := Op.move (Operand.tmp 11), type := 22, pos := "laws.go:540", after := #[], guard := none }) (v := ?_) rfl (by kernel_rfl) (by kernel_rfl) (by kernel_rfl) (fun _ _ _ h => h) (Or.inl ⟨by rfl, ?_⟩) (by assumption) ?_
          rotate_left 1
          · intro w hSw; (try dsimp only at hSw); go_simp; try (with_reducible rfl)
          try simp only [Act.put, List.setIfInBounds_toArray, List.set_cons_zero, List.set_cons_succ]
          refine wpAnyH_ready (rs := [3]) (by kernel_rfl) (by simp) ?_
          refine AllReadyH.cons (o := { dst := some 82, op := Op.call { callee := Callee.value (Operand.func 26), args := #[Operand.tmp 81], argTypes := #[22] }, type := 32, pos := "laws.go:540", after := #[{ on := 2, ground := Ground.data }], guard := none }) rfl (fun K hK => ?_) AllReadyH.nil
          go_simp
          refine (HNS.out w25.drew _ _ F25d.top F25d.x).mono ?_; rintro e w26 ⟨g1, g2, g3, g4, rfl, hb26⟩; have F26 := F25d.below hb26
          go_wp2_with fail
          obtain ⟨c0, c1, c2, c3, c4, c5, c6, c7, c8, c9⟩ := box_tenP F26.r1; obtain ⟨d0, d1, d2, d3, d4, d5, d6, d7, d8, d9⟩ := box_tenP F26.r2
          refine hK.out _ _ ⟨c0, c1, c2, c3, c4, c5, c6, c7, c8, c9, d0, d1, d2, d3, d4, d5, d6, d7, d8, d9⟩ (fun hHeld => ?_)
          clear hK K c0 c1 c2 c3 c4 c5 c6 c7 c8 c9 d0 d1 d2 d3 d4 d5 d6 d7 d8 d9
          try simp only [Act.put, List.setIfInBounds_toArray, List.set_cons_zero, List.set_cons_succ]
          refine wpAnyH_take (i := 4) (oi := { dst := some 83, op := Op.field 32 (Operand.tmp 82) 0, type := 4, pos := "laws.go:540", after := #[{ on := 3, ground := Ground.data }], guard := none }) (v := ?_) rfl (by kernel_rfl) (by kernel_rfl) (by kernel_rfl) (fun _ _ _ h => h) (Or.inl ⟨by rfl, ?_⟩) (by assumption) ?_
          rotate_left 1
          · intro w hSw; (try dsimp only at hSw); go_simp; try (with_reducible rfl)
          try simp only [Act.put, List.setIfInBounds_toArray, List.set_cons_zero, List.set_cons_succ]
          refine wpAnyH_take (i := 5) (oi := { dst := some 84, op := Op.binOp BinOp.eql 4 (Operand.tmp 80) (Operand.tmp 83) 4, type := 4, pos := "laws.go:540", after := #[{ on := 1, ground := Ground.data }, { on := 4, ground := Ground.data }], guard := none }) (v := ?_) rfl (by kernel_rfl) (by kernel_rfl) (by kernel_rfl) (fun _ _ _ h => h) (Or.inl ⟨by rfl, ?_⟩) (by assumption) ?_
          rotate_left 1
          · intro w hSw; (try dsimp only at hSw); go_simp; try (with_reducible rfl)
          try simp only [Act.put, List.setIfInBounds_toArray, List.set_cons_zero, List.set_cons_succ]
          refine wpAnyH_take (i := 6) (oi := { dst := some 85, op := Op.move (Operand.tmp 84), type := 4, pos := "laws.go:540", after := #[{ on := 5, ground := Ground.data }, { on := 3, ground := Ground.chain }], guard := none }) (v := ?_) rfl (by kernel_rfl) (by kernel_rfl) (by kernel_rfl) (fun _ _ _ h => h) (Or.inl ⟨by rfl, ?_⟩) (by assumption) ?_
          rotate_left 1
          · intro w hSw; (try dsimp only at hSw); go_simp; try (with_reducible rfl)
          try simp only [Act.put, List.setIfInBounds_toArray, List.set_cons_zero, List.set_cons_succ]
          refine wpAnyH_take (i := 7) (oi := { dst := some 86, op := Op.fieldAddr 32 (Operand.tmp 14) 0, type := 0, pos := "laws.go:540", after := #[{ on := 6, ground := Ground.guard }], guard := some (6, true) }) (v := ?_) rfl (by kernel_rfl) (by kernel_rfl) (by kernel_rfl) (fun _ _ _ h => h) (Or.inl ⟨by rfl, ?_⟩) (by assumption) ?_
          rotate_left 1
          · intro w hSw; (try dsimp only at hSw); go_simp; try (with_reducible rfl)
          try simp only [Act.put, List.setIfInBounds_toArray, List.set_cons_zero, List.set_cons_succ]
          refine wpAnyH_take (i := 8) (oi := { dst := some 87, op := Op.load 4 (Operand.tmp 86), type := 4, pos := "laws.go:540", after := #[{ on := 7, ground := Ground.data }, { on := 6, ground := Ground.guard }], guard := some (6, true) }) (v := ?_) rfl (by kernel_rfl) (by kernel_rfl) (by kernel_rfl) (fun _ _ _ h => h) (Or.inl ⟨by rfl, ?_⟩) (by assumption) ?_
          rotate_left 1
          · intro w hSw; (try dsimp only at hSw); go_simp; try (with_reducible rfl)
          try simp only [Act.put, List.setIfInBounds_toArray, List.set_cons_zero, List.set_cons_succ]
          refine wpAnyH_take (i := 9) (oi := { dst := some 88, op := Op.move (Operand.tmp 12), type := 22, pos := "laws.go:540", after := #[{ on := 6, ground := Ground.guard }], guard := some (6, true) }) (v := ?_) rfl (by kernel_rfl) (by kernel_rfl) (by kernel_rfl) (fun _ _ _ h => h) (Or.inl ⟨by rfl, ?_⟩) (by assumption) ?_
          rotate_left 1
          · intro w hSw; (try dsimp only at hSw); go_simp; try (with_reducible rfl)
          try simp only [Act.put, List.setIfInBounds_toArray, List.set_cons_zero, List.set_cons_succ]
          refine wpAnyH_ready (rs := [10]) (by kernel_rfl) (by simp) ?_
          refine AllReadyH.cons (o := { dst := some 89, op := Op.call { callee := Callee.value (Operand.func 12), args := #[Operand.tmp 88], argTypes := #[22] }, type := 32, pos := "laws.go:540", after := #[{ on := 9, ground := Ground.data }, { on := 6, ground := Ground.chain }, { on := 6, ground := Ground.guard }], guard := some (6, true) }) rfl (fun K hK => ?_) AllReadyH.nil
          go_simp
          refine (HOS.out w26 _ _ F26.top F26.y).mono ?_; rintro e w27 ⟨f1, f2, f3, f4, rfl, hb27⟩; have F27 := F26.below hb27
          go_wp2_with fail
          obtain ⟨c0, c1, c2, c3, c4, c5, c6, c7, c8, c9⟩ := box_tenP F27.r1; obtain ⟨d0, d1, d2, d3, d4, d5, d6, d7, d8, d9⟩ := box_tenP F27.r2
          refine hK.out _ _ ⟨c0, c1, c2, c3, c4, c5, c6, c7, c8, c9, d0, d1, d2, d3, d4, d5, d6, d7, d8, d9⟩ (fun hHeld => ?_)
          clear hK K c0 c1 c2 c3 c4 c5 c6 c7 c8 c9 d0 d1 d2 d3 d4 d5 d6 d7 d8 d9
          try simp only [Act.put, List.setIfInBounds_toArray, List.set_cons_zero, List.set_cons_succ]
          refine wpAnyH_take (i := 11) (oi := { dst := some 90, op := Op.field 32 (Operand.tmp 89) 0, type := 4, pos := "laws.go:540", after := #[{ on := 10, ground := Ground.data }, { on := 6, ground := Ground.guard }], guard := some (6, true) }) (v := ?_) rfl (by kernel_rfl) (by kernel_rfl) (by kernel_rfl) (fun _ _ _ h => h) (Or.inl ⟨by rfl, ?_⟩) (by assumption) ?_
          rotate_left 1
          · intro w hSw; (try dsimp only at hSw); go_simp; try (with_reducible rfl)
          try simp only [Act.put, List.setIfInBounds_toArray, List.set_cons_zero, List.set_cons_succ]
          refine wpAnyH_take (i := 12) (oi := { dst := some 91, op := Op.binOp BinOp.eql 4 (Operand.tmp 87) (Operand.tmp 90) 4, type := 4, pos := "laws.go:540", after := #[{ on := 8, ground := Ground.data }, { on := 11, ground := Ground.data }, { on := 6, ground := Ground.guard }], guard := some (6, true) }) (v := ?_) rfl (by kernel_rfl) (by kernel_rfl) (by kernel_rfl) (fun _ _ _ h => h) (Or.inl ⟨by rfl, ?_⟩) (by assumption) ?_
          rotate_left 1
          · intro w hSw; (try dsimp only at hSw); go_simp; try (with_reducible rfl)
          try simp only [Act.put, List.setIfInBounds_toArray, List.set_cons_zero, List.set_cons_succ]
          refine wpAnyH_take (i := 13) (oi := { dst := some 92, op := Op.pick (Operand.tmp 85) (Operand.tmp 91) (Operand.const (Value.bool false)), type := 4, pos := "laws.go:540", after := #[{ on := 6, ground := Ground.data }, { on := 12, ground := Ground.data }], guard := none }) (v := ?_) rfl (by kernel_rfl) (by kernel_rfl) (by kernel_rfl) (fun _ _ _ h => h) (Or.inl ⟨by rfl, ?_⟩) (by assumption) ?_
          rotate_left 1
          · intro w hSw; (try dsimp only at hSw); go_simp; try (with_reducible rfl)
          try simp only [Act.put, List.setIfInBounds_toArray, List.set_cons_zero, List.set_cons_succ]
          refine wpAnyH_take (i := 14) (oi := { dst := some 93, op := Op.move (Operand.tmp 92), type := 4, pos := "laws.go:540", after := #[{ on := 13, ground := Ground.data }, { on := 10, ground := Ground.chain }], guard := none }) (v := ?_) rfl (by kernel_rfl) (by kernel_rfl) (by kernel_rfl) (fun _ _ _ h => h) (Or.inl ⟨by rfl, ?_⟩) (by assumption) ?_
          rotate_left 1
          · intro w hSw; (try dsimp only at hSw); go_simp; try (with_reducible rfl)
          try simp only [Act.put, List.setIfInBounds_toArray, List.set_cons_zero, List.set_cons_succ]
          refine wpAnyH_take (i := 15) (oi := { dst := some 94, op := Op.fieldAddr 32 (Operand.tmp 13) 0, type := 0, pos := "laws.go:540", after := #[{ on := 14, ground := Ground.guard }], guard := some (14, true) }) (v := ?_) rfl (by kernel_rfl) (by kernel_rfl) (by kernel_rfl) (fun _ _ _ h => h) (Or.inl ⟨by rfl, ?_⟩) (by assumption) ?_
          rotate_left 1
          · intro w hSw; (try dsimp only at hSw); go_simp; try (with_reducible rfl)
          try simp only [Act.put, List.setIfInBounds_toArray, List.set_cons_zero, List.set_cons_succ]
          refine wpAnyH_take (i := 16) (oi := { dst := some 95, op := Op.load 4 (Operand.tmp 94), type := 4, pos := "laws.go:540", after := #[{ on := 15, ground := Ground.data }, { on := 14, ground := Ground.guard }], guard := some (14, true) }) (v := ?_) rfl (by kernel_rfl) (by kernel_rfl) (by kernel_rfl) (fun _ _ _ h => h) (Or.inl ⟨by rfl, ?_⟩) (by assumption) ?_
          rotate_left 1
          · intro w hSw; (try dsimp only at hSw); go_simp; try (with_reducible rfl)
          try simp only [Act.put, List.setIfInBounds_toArray, List.set_cons_zero, List.set_cons_succ]
          refine wpAnyH_take (i := 17) (oi := { dst := some 96, op := Op.unOp UnOp.not 4 (Operand.tmp 95), type := 4, pos := "laws.go:540", after := #[{ on := 16, ground := Ground.data }, { on := 14, ground := Ground.guard }], guard := some (14, true) }) (v := ?_) rfl (by kernel_rfl) (by kernel_rfl) (by kernel_rfl) (fun _ _ _ h => h) (Or.inl ⟨by rfl, ?_⟩) (by assumption) ?_
          rotate_left 1
          · intro w hSw; (try dsimp only at hSw); go_simp; try (with_reducible rfl)
          try simp only [Act.put, List.setIfInBounds_toArray, List.set_cons_zero, List.set_cons_succ]
          refine wpAnyH_take (i := 18) (oi := { dst := some 97, op := Op.move (Operand.tmp 96), type := 4, pos := "laws.go:540", after := #[{ on := 17, ground := Ground.data }, { on := 14, ground := Ground.chain }, { on := 14, ground := Ground.guard }], guard := some (14, true) }) (v := ?_) rfl (by kernel_rfl) (by kernel_rfl) (by kernel_rfl) (fun _ _ _ h => h) (Or.inl ⟨by rfl, ?_⟩) (by assumption) ?_
          rotate_left 1
          · intro w hSw; (try dsimp only at hSw); go_simp; try (with_reducible rfl)
          try simp only [Act.put, List.setIfInBounds_toArray, List.set_cons_zero, List.set_cons_succ]
          cases ok1
          · refine wpAnyH_take (i := 19) (oi := { dst := some 98, op := Op.fieldAddr 32 (Operand.tmp 13) 1, type := 0, pos := "laws.go:540", after := #[{ on := 18, ground := Ground.guard }], guard := some (18, false) }) (v := undef) rfl (by kernel_rfl) (by kernel_rfl) (by kernel_rfl) (fun _ _ _ h => h) (Or.inr ⟨by rfl, rfl⟩) (by assumption) ?_
            try simp only [Act.put, List.setIfInBounds_toArray, List.set_cons_zero, List.set_cons_succ]
            refine wpAnyH_take (i := 20) (oi := { dst := some 99, op := Op.load 28 (Operand.tmp 98), type := 28, pos := "laws.go:540", after := #[{ on := 19, ground := Ground.data }, { on := 18, ground := Ground.guard }], guard := some (18, false) }) (v := undef) rfl (by kernel_rfl) (by kernel_rfl) (by kernel_rfl) (fun _ _ _ h => h) (Or.inr ⟨by rfl, rfl⟩) (by assumption) ?_
            try simp only [Act.put, List.setIfInBounds_toArray, List.set_cons_zero, List.set_cons_succ]
            refine wpAnyH_take (i := 22) (oi := { dst := some 101, op := Op.move (Operand.tmp 11), type := 22, pos := "laws.go:540", after := #[{ on := 18, ground := Ground.guard }], guard := some (18, false) }) (v := undef) rfl (by kernel_rfl) (by kernel_rfl) (by kernel_rfl) (fun _ _ _ h => h) (Or.inr ⟨by rfl, rfl⟩) (by assumption) ?_
            try simp only [Act.put, List.setIfInBounds_toArray, List.set_cons_zero, List.set_cons_succ]
            refine wpAnyH_ready (rs := [21]) (by kernel_rfl) (by simp) ?_
            refine AllReadyH.cons (o := { dst := some 100, op := Op.call { callee := Callee.value (Operand.func 22), args := #[Operand.tmp 99], argTypes := #[28] }, type := 22, pos := "laws.go:540", after := #[{ on := 20, ground := Ground.data }, { on := 18, ground := Ground.chain }, { on := 18, ground := Ground.guard }], guard := some (18, false) }) rfl (fun K hK => ?_) AllReadyH.nil
            go_simp
            obtain ⟨c0, c1, c2, c3, c4, c5, c6, c7, c8, c9⟩ := box_tenP F27.r1; obtain ⟨d0, d1, d2, d3, d4, d5, d6, d7, d8, d9⟩ := box_tenP F27.r2
            refine hK.out _ _ ⟨c0, c1, c2, c3, c4, c5, c6, c7, c8, c9, d0, d1, d2, d3, d4, d5, d6, d7, d8, d9⟩ (fun hHeld => ?_)
            clear hK K c0 c1 c2 c3 c4 c5 c6 c7 c8 c9 d0 d1 d2 d3 d4 d5 d6 d7 d8 d9
            try simp only [Act.put, List.setIfInBounds_toArray, List.set_cons_zero, List.set_cons_succ]
            refine wpAnyH_ready (rs := [23]) (by kernel_rfl) (by simp) ?_
            refine AllReadyH.cons (o := { dst := some 102, op := Op.call { callee := Callee.value (Operand.func 11), args := #[Operand.tmp 100, Operand.tmp 101], argTypes := #[22, 22] }, type := 4, pos := "laws.go:540", after := #[{ on := 21, ground := Ground.data }, { on := 22, ground := Ground.data }, { on := 21, ground := Ground.chain }, { on := 18, ground := Ground.guard }], guard := some (18, false) }) rfl (fun K hK => ?_) AllReadyH.nil
            go_simp
            obtain ⟨c0, c1, c2, c3, c4, c5, c6, c7, c8, c9⟩ := box_tenP F27.r1; obtain ⟨d0, d1, d2, d3, d4, d5, d6, d7, d8, d9⟩ := box_tenP F27.r2
            refine hK.out _ _ ⟨c0, c1, c2, c3, c4, c5, c6, c7, c8, c9, d0, d1, d2, d3, d4, d5, d6, d7, d8, d9⟩ (fun hHeld => ?_)
            clear hK K c0 c1 c2 c3 c4 c5 c6 c7 c8 c9 d0 d1 d2 d3 d4 d5 d6 d7 d8 d9
            try simp only [Act.put, List.setIfInBounds_toArray, List.set_cons_zero, List.set_cons_succ]
            refine wpAnyH_take (i := 24) (oi := { dst := some 103, op := Op.pick (Operand.tmp 97) (Operand.const (Value.bool true)) (Operand.tmp 102), type := 4, pos := "laws.go:540", after := #[{ on := 18, ground := Ground.data }, { on := 23, ground := Ground.data }, { on := 14, ground := Ground.guard }], guard := some (14, true) }) (v := ?_) rfl (by kernel_rfl) (by kernel_rfl) (by kernel_rfl) (fun _ _ _ h => h) (Or.inl ⟨by rfl, ?_⟩) (by assumption) ?_
            rotate_left 1
            · intro w hSw; (try dsimp only at hSw); go_simp; try (with_reducible rfl)
            try simp only [Act.put, List.setIfInBounds_toArray, List.set_cons_zero, List.set_cons_succ]
            refine wpAnyH_take (i := 25) (oi := { dst := some 104, op := Op.pick (Operand.tmp 93) (Operand.tmp 103) (Operand.const (Value.bool false)), type := 4, pos := "laws.go:540", after := #[{ on := 14, ground := Ground.data }, { on := 24, ground := Ground.data }], guard := none }) (v := ?_) rfl (by kernel_rfl) (by kernel_rfl) (by kernel_rfl) (fun _ _ _ h => h) (Or.inl ⟨by rfl, ?_⟩) (by assumption) ?_
            rotate_left 1
            · intro w hSw; (try dsimp only at hSw); go_simp; try (with_reducible rfl)
            try simp only [Act.put, List.setIfInBounds_toArray, List.set_cons_zero, List.set_cons_succ]
            refine wpAnyH_take (i := 26) (oi := { dst := some 105, op := Op.move (Operand.tmp 104), type := 4, pos := "laws.go:540", after := #[{ on := 25, ground := Ground.data }, { on := 23, ground := Ground.chain }], guard := none }) (v := ?_) rfl (by kernel_rfl) (by kernel_rfl) (by kernel_rfl) (fun _ _ _ h => h) (Or.inl ⟨by rfl, ?_⟩) (by assumption) ?_
            rotate_left 1
            · intro w hSw; (try dsimp only at hSw); go_simp; try (with_reducible rfl)
            try simp only [Act.put, List.setIfInBounds_toArray, List.set_cons_zero, List.set_cons_succ]
            refine wpAnyH_take (i := 27) (oi := { dst := some 106, op := Op.fieldAddr 32 (Operand.tmp 14) 0, type := 0, pos := "laws.go:540", after := #[{ on := 26, ground := Ground.guard }], guard := some (26, true) }) (v := ?_) rfl (by kernel_rfl) (by kernel_rfl) (by kernel_rfl) (fun _ _ _ h => h) (Or.inl ⟨by rfl, ?_⟩) (by assumption) ?_
            rotate_left 1
            · intro w hSw; (try dsimp only at hSw); go_simp; try (with_reducible rfl)
            try simp only [Act.put, List.setIfInBounds_toArray, List.set_cons_zero, List.set_cons_succ]
            refine wpAnyH_take (i := 28) (oi := { dst := some 107, op := Op.load 4 (Operand.tmp 106), type := 4, pos := "laws.go:540", after := #[{ on := 27, ground := Ground.data }, { on := 26, ground := Ground.guard }], guard := some (26, true) }) (v := ?_) rfl (by kernel_rfl) (by kernel_rfl) (by kernel_rfl) (fun _ _ _ h => h) (Or.inl ⟨by rfl, ?_⟩) (by assumption) ?_
            rotate_left 1
            · intro w hSw; (try dsimp only at hSw); go_simp; try (with_reducible rfl)
            try simp only [Act.put, List.setIfInBounds_toArray, List.set_cons_zero, List.set_cons_succ]
            refine wpAnyH_take (i := 29) (oi := { dst := some 108, op := Op.unOp UnOp.not 4 (Operand.tmp 107), type := 4, pos := "laws.go:540", after := #[{ on := 28, ground := Ground.data }, { on := 26, ground := Ground.guard }], guard := some (26, true) }) (v := ?_) rfl (by kernel_rfl) (by kernel_rfl) (by kernel_rfl) (fun _ _ _ h => h) (Or.inl ⟨by rfl, ?_⟩) (by assumption) ?_
            rotate_left 1
            · intro w hSw; (try dsimp only at hSw); go_simp; try (with_reducible rfl)
            try simp only [Act.put, List.setIfInBounds_toArray, List.set_cons_zero, List.set_cons_succ]
            refine wpAnyH_take (i := 30) (oi := { dst := some 109, op := Op.move (Operand.tmp 108), type := 4, pos := "laws.go:540", after := #[{ on := 29, ground := Ground.data }, { on := 26, ground := Ground.chain }, { on := 26, ground := Ground.guard }], guard := some (26, true) }) (v := ?_) rfl (by kernel_rfl) (by kernel_rfl) (by kernel_rfl) (fun _ _ _ h => h) (Or.inl ⟨by rfl, ?_⟩) (by assumption) ?_
            rotate_left 1
            · intro w hSw; (try dsimp only at hSw); go_simp; try (with_reducible rfl)
            try simp only [Act.put, List.setIfInBounds_toArray, List.set_cons_zero, List.set_cons_succ]
            cases ok2
            · refine wpAnyH_take (i := 31) (oi := { dst := some 110, op := Op.fieldAddr 32 (Operand.tmp 14) 1, type := 0, pos := "laws.go:540", after := #[{ on := 30, ground := Ground.guard }], guard := some (30, false) }) (v := undef) rfl (by kernel_rfl) (by kernel_rfl) (by kernel_rfl) (fun _ _ _ h => h) (Or.inr ⟨by rfl, rfl⟩) (by assumption) ?_
              try simp only [Act.put, List.setIfInBounds_toArray, List.set_cons_zero, List.set_cons_succ]
              refine wpAnyH_take (i := 32) (oi := { dst := some 111, op := Op.load 28 (Operand.tmp 110), type := 28, pos := "laws.go:540", after := #[{ on := 31, ground := Ground.data }, { on := 30, ground := Ground.guard }], guard := some (30, false) }) (v := undef) rfl (by kernel_rfl) (by kernel_rfl) (by kernel_rfl) (fun _ _ _ h => h) (Or.inr ⟨by rfl, rfl⟩) (by assumption) ?_
              try simp only [Act.put, List.setIfInBounds_toArray, List.set_cons_zero, List.set_cons_succ]
              refine wpAnyH_take (i := 34) (oi := { dst := some 113, op := Op.move (Operand.tmp 12), type := 22, pos := "laws.go:540", after := #[{ on := 30, ground := Ground.guard }], guard := some (30, false) }) (v := undef) rfl (by kernel_rfl) (by kernel_rfl) (by kernel_rfl) (fun _ _ _ h => h) (Or.inr ⟨by rfl, rfl⟩) (by assumption) ?_
              try simp only [Act.put, List.setIfInBounds_toArray, List.set_cons_zero, List.set_cons_succ]
              refine wpAnyH_ready (rs := [33]) (by kernel_rfl) (by simp) ?_
              refine AllReadyH.cons (o := { dst := some 112, op := Op.call { callee := Callee.value (Operand.func 29), args := #[Operand.tmp 111], argTypes := #[28] }, type := 22, pos := "laws.go:540", after := #[{ on := 32, ground := Ground.data }, { on := 30, ground := Ground.chain }, { on := 30, ground := Ground.guard }], guard := some (30, false) }) rfl (fun K hK => ?_) AllReadyH.nil
              go_simp
              obtain ⟨c0, c1, c2, c3, c4, c5, c6, c7, c8, c9⟩ := box_tenP F27.r1; obtain ⟨d0, d1, d2, d3, d4, d5, d6, d7, d8, d9⟩ := box_tenP F27.r2
              refine hK.out _ _ ⟨c0, c1, c2, c3, c4, c5, c6, c7, c8, c9, d0, d1, d2, d3, d4, d5, d6, d7, d8, d9⟩ (fun hHeld => ?_)
              clear hK K c0 c1 c2 c3 c4 c5 c6 c7 c8 c9 d0 d1 d2 d3 d4 d5 d6 d7 d8 d9
              try simp only [Act.put, List.setIfInBounds_toArray, List.set_cons_zero, List.set_cons_succ]
              refine wpAnyH_ready (rs := [35]) (by kernel_rfl) (by simp) ?_
              refine AllReadyH.cons (o := { dst := some 114, op := Op.call { callee := Callee.value (Operand.func 11), args := #[Operand.tmp 112, Operand.tmp 113], argTypes := #[22, 22] }, type := 4, pos := "laws.go:540", after := #[{ on := 33, ground := Ground.data }, { on := 34, ground := Ground.data }, { on := 33, ground := Ground.chain }, { on := 30, ground := Ground.guard }], guard := some (30, false) }) rfl (fun K hK => ?_) AllReadyH.nil
              go_simp
              obtain ⟨c0, c1, c2, c3, c4, c5, c6, c7, c8, c9⟩ := box_tenP F27.r1; obtain ⟨d0, d1, d2, d3, d4, d5, d6, d7, d8, d9⟩ := box_tenP F27.r2
              refine hK.out _ _ ⟨c0, c1, c2, c3, c4, c5, c6, c7, c8, c9, d0, d1, d2, d3, d4, d5, d6, d7, d8, d9⟩ (fun hHeld => ?_)
              clear hK K c0 c1 c2 c3 c4 c5 c6 c7 c8 c9 d0 d1 d2 d3 d4 d5 d6 d7 d8 d9
              try simp only [Act.put, List.setIfInBounds_toArray, List.set_cons_zero, List.set_cons_succ]
              refine wpAnyH_take (i := 36) (oi := { dst := some 115, op := Op.pick (Operand.tmp 109) (Operand.const (Value.bool true)) (Operand.tmp 114), type := 4, pos := "laws.go:540", after := #[{ on := 30, ground := Ground.data }, { on := 35, ground := Ground.data }, { on := 26, ground := Ground.guard }], guard := some (26, true) }) (v := ?_) rfl (by kernel_rfl) (by kernel_rfl) (by kernel_rfl) (fun _ _ _ h => h) (Or.inl ⟨by rfl, ?_⟩) (by assumption) ?_
              rotate_left 1
              · intro w hSw; (try dsimp only at hSw); go_simp; try (with_reducible rfl)
              try simp only [Act.put, List.setIfInBounds_toArray, List.set_cons_zero, List.set_cons_succ]
              refine wpAnyH_take (i := 37) (oi := { dst := some 116, op := Op.pick (Operand.tmp 105) (Operand.tmp 115) (Operand.const (Value.bool false)), type := 4, pos := "laws.go:540", after := #[{ on := 26, ground := Ground.data }, { on := 36, ground := Ground.data }], guard := none }) (v := ?_) rfl (by kernel_rfl) (by kernel_rfl) (by kernel_rfl) (fun _ _ _ h => h) (Or.inl ⟨by rfl, ?_⟩) (by assumption) ?_
              rotate_left 1
              · intro w hSw; (try dsimp only at hSw); go_simp; try (with_reducible rfl)
              try simp only [Act.put, List.setIfInBounds_toArray, List.set_cons_zero, List.set_cons_succ]
              refine wpAnyH_take (i := 38) (oi := { dst := some 4, op := Op.assign (Operand.tmp 116), type := 4, pos := "laws.go:540", after := #[{ on := 37, ground := Ground.data }, { on := 35, ground := Ground.chain }, { on := 0, ground := Ground.phase }, { on := 1, ground := Ground.phase }, { on := 2, ground := Ground.phase }, { on := 3, ground := Ground.phase }, { on := 4, ground := Ground.phase }, { on := 5, ground := Ground.phase }, { on := 6, ground := Ground.phase }, { on := 7, ground := Ground.phase }, { on := 8, ground := Ground.phase }, { on := 9, ground := Ground.phase }, { on := 10, ground := Ground.phase }, { on := 11, ground := Ground.phase }, { on := 12, ground := Ground.phase }, { on := 13, ground := Ground.phase }, { on := 14, ground := Ground.phase }, { on := 15, ground := Ground.phase }, { on := 16, ground := Ground.phase }, { on := 17, ground := Ground.phase }, { on := 18, ground := Ground.phase }, { on := 19, ground := Ground.phase }, { on := 20, ground := Ground.phase }, { on := 21, ground := Ground.phase }, { on := 22, ground := Ground.phase }, { on := 23, ground := Ground.phase }, { on := 24, ground := Ground.phase }, { on := 25, ground := Ground.phase }, { on := 26, ground := Ground.phase }, { on := 27, ground := Ground.phase }, { on := 28, ground := Ground.phase }, { on := 29, ground := Ground.phase }, { on := 30, ground := Ground.phase }, { on := 31, ground := Ground.phase }, { on := 32, ground := Ground.phase }, { on := 33, ground := Ground.phase }, { on := 34, ground := Ground.phase }, { on := 35, ground := Ground.phase }, { on := 36, ground := Ground.phase }, { on := 37, ground := Ground.phase }], guard := none }) (v := ?_) rfl (by kernel_rfl) (by kernel_rfl) (by kernel_rfl) (fun _ _ _ h => h) (Or.inl ⟨by rfl, ?_⟩) (by assumption) ?_
              rotate_left 1
              · intro w hSw; (try dsimp only at hSw); go_simp; try (with_reducible rfl)
              try simp only [Act.put, List.setIfInBounds_toArray, List.set_cons_zero, List.set_cons_succ]
              refine wpAnyH_done (by kernel_rfl) ?_ _
              refine NoPanic.normal ?_
              go_wp2
              go_ret
              exact ⟨rfl, F27.bel⟩
            · have HO1 : Hid (∀ (w : World) (A B : Nat), B ≤ w.heap.size → ∀ (ka : Option Addr) (kc : Nat) (ea : Option Addr) (ec : Nat), KidsAt w A B ka q2.ks.length kc q2.ks → EntsAt w A B ea q2.es.length ec q2.es → Calls Try.prog 29 #[.agg #[.int .i64 q2.kind, .int .i64 q2.tx, .int .i64 q2.id, .int .i64 q2.root, .int .i64 q2.count, .slice ka q2.ks.length kc, .slice ea q2.es.length ec, .int .i64 q2.next, .string q2.data]] w fun e w' => ∃ a n c, e = .returned (.slice a n c) ∧ BytesAt w' w.heap.size w'.heap.size a n c l2 ∧ Below w.heap.size w w') := by
                intro w A B hB ka kc ea ec hk he
                refine (Old.encodeOld_any q2 (HB2.out rfl).2 ka kc ea ec w A B hB hk he).mono ?_
                rintro e w' ⟨v, rfl, hO, hbel⟩
                rw [(HB2.out rfl).1] at hO
                obtain ⟨a, c, rfl⟩ := own_shape hO
                exact ⟨a, l2.length, c, rfl, bytesAt_row hO HYB.out, hbel⟩
              refine wpAnyH_take (i := 31) (oi := { dst := some 110, op := Op.fieldAddr 32 (Operand.tmp 14) 1, type := 0, pos := "laws.go:540", after := #[{ on := 30, ground := Ground.guard }], guard := some (30, false) }) (v := ?_) rfl (by kernel_rfl) (by kernel_rfl) (by kernel_rfl) (fun _ _ _ h => h) (Or.inl ⟨by rfl, ?_⟩) (by assumption) ?_
              rotate_left 1
              · intro w hSw; (try dsimp only at hSw); go_simp; try (with_reducible rfl)
              try simp only [Act.put, List.setIfInBounds_toArray, List.set_cons_zero, List.set_cons_succ]
              refine wpAnyH_take (i := 32) (oi := { dst := some 111, op := Op.load 28 (Operand.tmp 110), type := 28, pos := "laws.go:540", after := #[{ on := 31, ground := Ground.data }, { on := 30, ground := Ground.guard }], guard := some (30, false) }) (v := ?_) rfl (by kernel_rfl) (by kernel_rfl) (by kernel_rfl) (fun _ _ _ h => h) (Or.inl ⟨by rfl, ?_⟩) (by assumption) ?_
              rotate_left 1
              · intro w hSw; (try dsimp only at hSw); go_simp; try (with_reducible rfl)
              try simp only [Act.put, List.setIfInBounds_toArray, List.set_cons_zero, List.set_cons_succ]
              refine wpAnyH_take (i := 34) (oi := { dst := some 113, op := Op.move (Operand.tmp 12), type := 22, pos := "laws.go:540", after := #[{ on := 30, ground := Ground.guard }], guard := some (30, false) }) (v := ?_) rfl (by kernel_rfl) (by kernel_rfl) (by kernel_rfl) (fun _ _ _ h => h) (Or.inl ⟨by rfl, ?_⟩) (by assumption) ?_
              rotate_left 1
              · intro w hSw; (try dsimp only at hSw); go_simp; try (with_reducible rfl)
              try simp only [Act.put, List.setIfInBounds_toArray, List.set_cons_zero, List.set_cons_succ]
              refine wpAnyH_ready (rs := [33]) (by kernel_rfl) (by simp) ?_
              refine AllReadyH.cons (o := { dst := some 112, op := Op.call { callee := Callee.value (Operand.func 29), args := #[Operand.tmp 111], argTypes := #[28] }, type := 22, pos := "laws.go:540", after := #[{ on := 32, ground := Ground.data }, { on := 30, ground := Ground.chain }, { on := 30, ground := Ground.guard }], guard := some (30, false) }) rfl (fun K hK => ?_) AllReadyH.nil
              go_simp
              refine (HO1.out _ _ _ F27.top ka2 kc2_ ea2 ec2_ F27.k2 F27.e2).mono ?_; rintro e w29 ⟨a29, n29, c29, rfl, hB29, hb29⟩; have F29 := F27.below hb29
              go_wp2_with fail
              obtain ⟨c0, c1, c2, c3, c4, c5, c6, c7, c8, c9⟩ := box_tenP F29.r1; obtain ⟨d0, d1, d2, d3, d4, d5, d6, d7, d8, d9⟩ := box_tenP F29.r2
              refine hK.out _ _ ⟨c0, c1, c2, c3, c4, c5, c6, c7, c8, c9, d0, d1, d2, d3, d4, d5, d6, d7, d8, d9⟩ (fun hHeld => ?_)
              clear hK K c0 c1 c2 c3 c4 c5 c6 c7 c8 c9 d0 d1 d2 d3 d4 d5 d6 d7 d8 d9
              try simp only [Act.put, List.setIfInBounds_toArray, List.set_cons_zero, List.set_cons_succ]
              refine wpAnyH_ready (rs := [35]) (by kernel_rfl) (by simp) ?_
              refine AllReadyH.cons (o := { dst := some 114, op := Op.call { callee := Callee.value (Operand.func 11), args := #[Operand.tmp 112, Operand.tmp 113], argTypes := #[22, 22] }, type := 4, pos := "laws.go:540", after := #[{ on := 33, ground := Ground.data }, { on := 34, ground := Ground.data }, { on := 33, ground := Ground.chain }, { on := 30, ground := Ground.guard }], guard := some (30, false) }) rfl (fun K hK => ?_) AllReadyH.nil
              go_simp
              refine (HLW.out l2 a29 n29 c29 ya yn yc _ _ _ _ _ hB29 F29.y).mono ?_; rintro e w29x ⟨rfl, rfl⟩
              go_wp2_with fail
              obtain ⟨c0, c1, c2, c3, c4, c5, c6, c7, c8, c9⟩ := box_tenP F29.r1; obtain ⟨d0, d1, d2, d3, d4, d5, d6, d7, d8, d9⟩ := box_tenP F29.r2
              refine hK.out _ _ ⟨c0, c1, c2, c3, c4, c5, c6, c7, c8, c9, d0, d1, d2, d3, d4, d5, d6, d7, d8, d9⟩ (fun hHeld => ?_)
              clear hK K c0 c1 c2 c3 c4 c5 c6 c7 c8 c9 d0 d1 d2 d3 d4 d5 d6 d7 d8 d9
              try simp only [Act.put, List.setIfInBounds_toArray, List.set_cons_zero, List.set_cons_succ]
              refine wpAnyH_take (i := 36) (oi := { dst := some 115, op := Op.pick (Operand.tmp 109) (Operand.const (Value.bool true)) (Operand.tmp 114), type := 4, pos := "laws.go:540", after := #[{ on := 30, ground := Ground.data }, { on := 35, ground := Ground.data }, { on := 26, ground := Ground.guard }], guard := some (26, true) }) (v := ?_) rfl (by kernel_rfl) (by kernel_rfl) (by kernel_rfl) (fun _ _ _ h => h) (Or.inl ⟨by rfl, ?_⟩) (by assumption) ?_
              rotate_left 1
              · intro w hSw; (try dsimp only at hSw); go_simp; try (with_reducible rfl)
              try simp only [Act.put, List.setIfInBounds_toArray, List.set_cons_zero, List.set_cons_succ]
              refine wpAnyH_take (i := 37) (oi := { dst := some 116, op := Op.pick (Operand.tmp 105) (Operand.tmp 115) (Operand.const (Value.bool false)), type := 4, pos := "laws.go:540", after := #[{ on := 26, ground := Ground.data }, { on := 36, ground := Ground.data }], guard := none }) (v := ?_) rfl (by kernel_rfl) (by kernel_rfl) (by kernel_rfl) (fun _ _ _ h => h) (Or.inl ⟨by rfl, ?_⟩) (by assumption) ?_
              rotate_left 1
              · intro w hSw; (try dsimp only at hSw); go_simp; try (with_reducible rfl)
              try simp only [Act.put, List.setIfInBounds_toArray, List.set_cons_zero, List.set_cons_succ]
              refine wpAnyH_take (i := 38) (oi := { dst := some 4, op := Op.assign (Operand.tmp 116), type := 4, pos := "laws.go:540", after := #[{ on := 37, ground := Ground.data }, { on := 35, ground := Ground.chain }, { on := 0, ground := Ground.phase }, { on := 1, ground := Ground.phase }, { on := 2, ground := Ground.phase }, { on := 3, ground := Ground.phase }, { on := 4, ground := Ground.phase }, { on := 5, ground := Ground.phase }, { on := 6, ground := Ground.phase }, { on := 7, ground := Ground.phase }, { on := 8, ground := Ground.phase }, { on := 9, ground := Ground.phase }, { on := 10, ground := Ground.phase }, { on := 11, ground := Ground.phase }, { on := 12, ground := Ground.phase }, { on := 13, ground := Ground.phase }, { on := 14, ground := Ground.phase }, { on := 15, ground := Ground.phase }, { on := 16, ground := Ground.phase }, { on := 17, ground := Ground.phase }, { on := 18, ground := Ground.phase }, { on := 19, ground := Ground.phase }, { on := 20, ground := Ground.phase }, { on := 21, ground := Ground.phase }, { on := 22, ground := Ground.phase }, { on := 23, ground := Ground.phase }, { on := 24, ground := Ground.phase }, { on := 25, ground := Ground.phase }, { on := 26, ground := Ground.phase }, { on := 27, ground := Ground.phase }, { on := 28, ground := Ground.phase }, { on := 29, ground := Ground.phase }, { on := 30, ground := Ground.phase }, { on := 31, ground := Ground.phase }, { on := 32, ground := Ground.phase }, { on := 33, ground := Ground.phase }, { on := 34, ground := Ground.phase }, { on := 35, ground := Ground.phase }, { on := 36, ground := Ground.phase }, { on := 37, ground := Ground.phase }], guard := none }) (v := ?_) rfl (by kernel_rfl) (by kernel_rfl) (by kernel_rfl) (fun _ _ _ h => h) (Or.inl ⟨by rfl, ?_⟩) (by assumption) ?_
              rotate_left 1
              · intro w hSw; (try dsimp only at hSw); go_simp; try (with_reducible rfl)
              try simp only [Act.put, List.setIfInBounds_toArray, List.set_cons_zero, List.set_cons_succ]
              refine wpAnyH_done (by kernel_rfl) ?_ _
              refine NoPanic.normal ?_
              go_wp2
              go_ret
              exact ⟨rfl, F29.bel⟩
          · have HN1 : Hid (∀ (w : World) (A B : Nat), B ≤ w.heap.size → ∀ (ka : Option Addr) (kc : Nat) (ea : Option Addr) (ec : Nat), KidsAt w A B ka q1.ks.length kc q1.ks → EntsAt w A B ea q1.es.length ec q1.es → Calls Try.prog 22 #[.agg #[.int .i64 q1.kind, .int .i64 q1.tx, .int .i64 q1.id, .int .i64 q1.root, .int .i64 q1.count, .slice ka q1.ks.length kc, .slice ea q1.es.length ec, .int .i64 q1.next, .string q1.data]] w fun e w' => ∃ a n c, e = .returned (.slice a n c) ∧ BytesAt w' w.heap.size w'.heap.size a n c l1 ∧ Below w.heap.size w w') := by
              intro w A B hB ka kc ea ec hk he
              refine (New.encodePage_any q1 (HB1.out rfl).2 ka kc ea ec w A B hB hk he).mono ?_
              rintro e w' ⟨v, rfl, hO, hbel⟩
              rw [(HB1.out rfl).1] at hO
              obtain ⟨a, c, rfl⟩ := own_shape hO
              exact ⟨a, l1.length, c, rfl, bytesAt_row hO HXB.out, hbel⟩
            refine wpAnyH_take (i := 19) (oi := { dst := some 98, op := Op.fieldAddr 32 (Operand.tmp 13) 1, type := 0, pos := "laws.go:540", after := #[{ on := 18, ground := Ground.guard }], guard := some (18, false) }) (v := ?_) rfl (by kernel_rfl) (by kernel_rfl) (by kernel_rfl) (fun _ _ _ h => h) (Or.inl ⟨by rfl, ?_⟩) (by assumption) ?_
            rotate_left 1
            · intro w hSw; (try dsimp only at hSw); go_simp; try (with_reducible rfl)
            try simp only [Act.put, List.setIfInBounds_toArray, List.set_cons_zero, List.set_cons_succ]
            refine wpAnyH_take (i := 20) (oi := { dst := some 99, op := Op.load 28 (Operand.tmp 98), type := 28, pos := "laws.go:540", after := #[{ on := 19, ground := Ground.data }, { on := 18, ground := Ground.guard }], guard := some (18, false) }) (v := ?_) rfl (by kernel_rfl) (by kernel_rfl) (by kernel_rfl) (fun _ _ _ h => h) (Or.inl ⟨by rfl, ?_⟩) (by assumption) ?_
            rotate_left 1
            · intro w hSw; (try dsimp only at hSw); go_simp; try (with_reducible rfl)
            try simp only [Act.put, List.setIfInBounds_toArray, List.set_cons_zero, List.set_cons_succ]
            refine wpAnyH_take (i := 22) (oi := { dst := some 101, op := Op.move (Operand.tmp 11), type := 22, pos := "laws.go:540", after := #[{ on := 18, ground := Ground.guard }], guard := some (18, false) }) (v := ?_) rfl (by kernel_rfl) (by kernel_rfl) (by kernel_rfl) (fun _ _ _ h => h) (Or.inl ⟨by rfl, ?_⟩) (by assumption) ?_
            rotate_left 1
            · intro w hSw; (try dsimp only at hSw); go_simp; try (with_reducible rfl)
            try simp only [Act.put, List.setIfInBounds_toArray, List.set_cons_zero, List.set_cons_succ]
            refine wpAnyH_ready (rs := [21]) (by kernel_rfl) (by simp) ?_
            refine AllReadyH.cons (o := { dst := some 100, op := Op.call { callee := Callee.value (Operand.func 22), args := #[Operand.tmp 99], argTypes := #[28] }, type := 22, pos := "laws.go:540", after := #[{ on := 20, ground := Ground.data }, { on := 18, ground := Ground.chain }, { on := 18, ground := Ground.guard }], guard := some (18, false) }) rfl (fun K hK => ?_) AllReadyH.nil
            go_simp
            refine (HN1.out w27 _ _ F27.top ka1 kc1 ea1 ec1 F27.k1 F27.e1).mono ?_; rintro e w28 ⟨a28, n28, c28, rfl, hB28, hb28⟩; have F28 := F27.below hb28
            go_wp2_with fail
            obtain ⟨c0, c1, c2, c3, c4, c5, c6, c7, c8, c9⟩ := box_tenP F28.r1; obtain ⟨d0, d1, d2, d3, d4, d5, d6, d7, d8, d9⟩ := box_tenP F28.r2
            refine hK.out _ _ ⟨c0, c1, c2, c3, c4, c5, c6, c7, c8, c9, d0, d1, d2, d3, d4, d5, d6, d7, d8, d9⟩ (fun hHeld => ?_)
            clear hK K c0 c1 c2 c3 c4 c5 c6 c7 c8 c9 d0 d1 d2 d3 d4 d5 d6 d7 d8 d9
            try simp only [Act.put, List.setIfInBounds_toArray, List.set_cons_zero, List.set_cons_succ]
            refine wpAnyH_ready (rs := [23]) (by kernel_rfl) (by simp) ?_
            refine AllReadyH.cons (o := { dst := some 102, op := Op.call { callee := Callee.value (Operand.func 11), args := #[Operand.tmp 100, Operand.tmp 101], argTypes := #[22, 22] }, type := 4, pos := "laws.go:540", after := #[{ on := 21, ground := Ground.data }, { on := 22, ground := Ground.data }, { on := 21, ground := Ground.chain }, { on := 18, ground := Ground.guard }], guard := some (18, false) }) rfl (fun K hK => ?_) AllReadyH.nil
            go_simp
            refine (HLW.out l1 a28 n28 c28 xa xn xc _ _ _ _ _ hB28 F28.x).mono ?_; rintro e w28x ⟨rfl, rfl⟩
            go_wp2_with fail
            obtain ⟨c0, c1, c2, c3, c4, c5, c6, c7, c8, c9⟩ := box_tenP F28.r1; obtain ⟨d0, d1, d2, d3, d4, d5, d6, d7, d8, d9⟩ := box_tenP F28.r2
            refine hK.out _ _ ⟨c0, c1, c2, c3, c4, c5, c6, c7, c8, c9, d0, d1, d2, d3, d4, d5, d6, d7, d8, d9⟩ (fun hHeld => ?_)
            clear hK K c0 c1 c2 c3 c4 c5 c6 c7 c8 c9 d0 d1 d2 d3 d4 d5 d6 d7 d8 d9
            try simp only [Act.put, List.setIfInBounds_toArray, List.set_cons_zero, List.set_cons_succ]
            refine wpAnyH_take (i := 24) (oi := { dst := some 103, op := Op.pick (Operand.tmp 97) (Operand.const (Value.bool true)) (Operand.tmp 102), type := 4, pos := "laws.go:540", after := #[{ on := 18, ground := Ground.data }, { on := 23, ground := Ground.data }, { on := 14, ground := Ground.guard }], guard := some (14, true) }) (v := ?_) rfl (by kernel_rfl) (by kernel_rfl) (by kernel_rfl) (fun _ _ _ h => h) (Or.inl ⟨by rfl, ?_⟩) (by assumption) ?_
            rotate_left 1
            · intro w hSw; (try dsimp only at hSw); go_simp; try (with_reducible rfl)
            try simp only [Act.put, List.setIfInBounds_toArray, List.set_cons_zero, List.set_cons_succ]
            refine wpAnyH_take (i := 25) (oi := { dst := some 104, op := Op.pick (Operand.tmp 93) (Operand.tmp 103) (Operand.const (Value.bool false)), type := 4, pos := "laws.go:540", after := #[{ on := 14, ground := Ground.data }, { on := 24, ground := Ground.data }], guard := none }) (v := ?_) rfl (by kernel_rfl) (by kernel_rfl) (by kernel_rfl) (fun _ _ _ h => h) (Or.inl ⟨by rfl, ?_⟩) (by assumption) ?_
            rotate_left 1
            · intro w hSw; (try dsimp only at hSw); go_simp; try (with_reducible rfl)
            try simp only [Act.put, List.setIfInBounds_toArray, List.set_cons_zero, List.set_cons_succ]
            refine wpAnyH_take (i := 26) (oi := { dst := some 105, op := Op.move (Operand.tmp 104), type := 4, pos := "laws.go:540", after := #[{ on := 25, ground := Ground.data }, { on := 23, ground := Ground.chain }], guard := none }) (v := ?_) rfl (by kernel_rfl) (by kernel_rfl) (by kernel_rfl) (fun _ _ _ h => h) (Or.inl ⟨by rfl, ?_⟩) (by assumption) ?_
            rotate_left 1
            · intro w hSw; (try dsimp only at hSw); go_simp; try (with_reducible rfl)
            try simp only [Act.put, List.setIfInBounds_toArray, List.set_cons_zero, List.set_cons_succ]
            refine wpAnyH_take (i := 27) (oi := { dst := some 106, op := Op.fieldAddr 32 (Operand.tmp 14) 0, type := 0, pos := "laws.go:540", after := #[{ on := 26, ground := Ground.guard }], guard := some (26, true) }) (v := ?_) rfl (by kernel_rfl) (by kernel_rfl) (by kernel_rfl) (fun _ _ _ h => h) (Or.inl ⟨by rfl, ?_⟩) (by assumption) ?_
            rotate_left 1
            · intro w hSw; (try dsimp only at hSw); go_simp; try (with_reducible rfl)
            try simp only [Act.put, List.setIfInBounds_toArray, List.set_cons_zero, List.set_cons_succ]
            refine wpAnyH_take (i := 28) (oi := { dst := some 107, op := Op.load 4 (Operand.tmp 106), type := 4, pos := "laws.go:540", after := #[{ on := 27, ground := Ground.data }, { on := 26, ground := Ground.guard }], guard := some (26, true) }) (v := ?_) rfl (by kernel_rfl) (by kernel_rfl) (by kernel_rfl) (fun _ _ _ h => h) (Or.inl ⟨by rfl, ?_⟩) (by assumption) ?_
            rotate_left 1
            · intro w hSw; (try dsimp only at hSw); go_simp; try (with_reducible rfl)
            try simp only [Act.put, List.setIfInBounds_toArray, List.set_cons_zero, List.set_cons_succ]
            refine wpAnyH_take (i := 29) (oi := { dst := some 108, op := Op.unOp UnOp.not 4 (Operand.tmp 107), type := 4, pos := "laws.go:540", after := #[{ on := 28, ground := Ground.data }, { on := 26, ground := Ground.guard }], guard := some (26, true) }) (v := ?_) rfl (by kernel_rfl) (by kernel_rfl) (by kernel_rfl) (fun _ _ _ h => h) (Or.inl ⟨by rfl, ?_⟩) (by assumption) ?_
            rotate_left 1
            · intro w hSw; (try dsimp only at hSw); go_simp; try (with_reducible rfl)
            try simp only [Act.put, List.setIfInBounds_toArray, List.set_cons_zero, List.set_cons_succ]
            refine wpAnyH_take (i := 30) (oi := { dst := some 109, op := Op.move (Operand.tmp 108), type := 4, pos := "laws.go:540", after := #[{ on := 29, ground := Ground.data }, { on := 26, ground := Ground.chain }, { on := 26, ground := Ground.guard }], guard := some (26, true) }) (v := ?_) rfl (by kernel_rfl) (by kernel_rfl) (by kernel_rfl) (fun _ _ _ h => h) (Or.inl ⟨by rfl, ?_⟩) (by assumption) ?_
            rotate_left 1
            · intro w hSw; (try dsimp only at hSw); go_simp; try (with_reducible rfl)
            try simp only [Act.put, List.setIfInBounds_toArray, List.set_cons_zero, List.set_cons_succ]
            cases ok2
            · refine wpAnyH_take (i := 31) (oi := { dst := some 110, op := Op.fieldAddr 32 (Operand.tmp 14) 1, type := 0, pos := "laws.go:540", after := #[{ on := 30, ground := Ground.guard }], guard := some (30, false) }) (v := undef) rfl (by kernel_rfl) (by kernel_rfl) (by kernel_rfl) (fun _ _ _ h => h) (Or.inr ⟨by rfl, rfl⟩) (by assumption) ?_
              try simp only [Act.put, List.setIfInBounds_toArray, List.set_cons_zero, List.set_cons_succ]
              refine wpAnyH_take (i := 32) (oi := { dst := some 111, op := Op.load 28 (Operand.tmp 110), type := 28, pos := "laws.go:540", after := #[{ on := 31, ground := Ground.data }, { on := 30, ground := Ground.guard }], guard := some (30, false) }) (v := undef) rfl (by kernel_rfl) (by kernel_rfl) (by kernel_rfl) (fun _ _ _ h => h) (Or.inr ⟨by rfl, rfl⟩) (by assumption) ?_
              try simp only [Act.put, List.setIfInBounds_toArray, List.set_cons_zero, List.set_cons_succ]
              refine wpAnyH_take (i := 34) (oi := { dst := some 113, op := Op.move (Operand.tmp 12), type := 22, pos := "laws.go:540", after := #[{ on := 30, ground := Ground.guard }], guard := some (30, false) }) (v := undef) rfl (by kernel_rfl) (by kernel_rfl) (by kernel_rfl) (fun _ _ _ h => h) (Or.inr ⟨by rfl, rfl⟩) (by assumption) ?_
              try simp only [Act.put, List.setIfInBounds_toArray, List.set_cons_zero, List.set_cons_succ]
              refine wpAnyH_ready (rs := [33]) (by kernel_rfl) (by simp) ?_
              refine AllReadyH.cons (o := { dst := some 112, op := Op.call { callee := Callee.value (Operand.func 29), args := #[Operand.tmp 111], argTypes := #[28] }, type := 22, pos := "laws.go:540", after := #[{ on := 32, ground := Ground.data }, { on := 30, ground := Ground.chain }, { on := 30, ground := Ground.guard }], guard := some (30, false) }) rfl (fun K hK => ?_) AllReadyH.nil
              go_simp
              obtain ⟨c0, c1, c2, c3, c4, c5, c6, c7, c8, c9⟩ := box_tenP F28.r1; obtain ⟨d0, d1, d2, d3, d4, d5, d6, d7, d8, d9⟩ := box_tenP F28.r2
              refine hK.out _ _ ⟨c0, c1, c2, c3, c4, c5, c6, c7, c8, c9, d0, d1, d2, d3, d4, d5, d6, d7, d8, d9⟩ (fun hHeld => ?_)
              clear hK K c0 c1 c2 c3 c4 c5 c6 c7 c8 c9 d0 d1 d2 d3 d4 d5 d6 d7 d8 d9
              try simp only [Act.put, List.setIfInBounds_toArray, List.set_cons_zero, List.set_cons_succ]
              refine wpAnyH_ready (rs := [35]) (by kernel_rfl) (by simp) ?_
              refine AllReadyH.cons (o := { dst := some 114, op := Op.call { callee := Callee.value (Operand.func 11), args := #[Operand.tmp 112, Operand.tmp 113], argTypes := #[22, 22] }, type := 4, pos := "laws.go:540", after := #[{ on := 33, ground := Ground.data }, { on := 34, ground := Ground.data }, { on := 33, ground := Ground.chain }, { on := 30, ground := Ground.guard }], guard := some (30, false) }) rfl (fun K hK => ?_) AllReadyH.nil
              go_simp
              obtain ⟨c0, c1, c2, c3, c4, c5, c6, c7, c8, c9⟩ := box_tenP F28.r1; obtain ⟨d0, d1, d2, d3, d4, d5, d6, d7, d8, d9⟩ := box_tenP F28.r2
              refine hK.out _ _ ⟨c0, c1, c2, c3, c4, c5, c6, c7, c8, c9, d0, d1, d2, d3, d4, d5, d6, d7, d8, d9⟩ (fun hHeld => ?_)
              clear hK K c0 c1 c2 c3 c4 c5 c6 c7 c8 c9 d0 d1 d2 d3 d4 d5 d6 d7 d8 d9
              try simp only [Act.put, List.setIfInBounds_toArray, List.set_cons_zero, List.set_cons_succ]
              refine wpAnyH_take (i := 36) (oi := { dst := some 115, op := Op.pick (Operand.tmp 109) (Operand.const (Value.bool true)) (Operand.tmp 114), type := 4, pos := "laws.go:540", after := #[{ on := 30, ground := Ground.data }, { on := 35, ground := Ground.data }, { on := 26, ground := Ground.guard }], guard := some (26, true) }) (v := ?_) rfl (by kernel_rfl) (by kernel_rfl) (by kernel_rfl) (fun _ _ _ h => h) (Or.inl ⟨by rfl, ?_⟩) (by assumption) ?_
              rotate_left 1
              · intro w hSw; (try dsimp only at hSw); go_simp; try (with_reducible rfl)
              try simp only [Act.put, List.setIfInBounds_toArray, List.set_cons_zero, List.set_cons_succ]
              refine wpAnyH_take (i := 37) (oi := { dst := some 116, op := Op.pick (Operand.tmp 105) (Operand.tmp 115) (Operand.const (Value.bool false)), type := 4, pos := "laws.go:540", after := #[{ on := 26, ground := Ground.data }, { on := 36, ground := Ground.data }], guard := none }) (v := ?_) rfl (by kernel_rfl) (by kernel_rfl) (by kernel_rfl) (fun _ _ _ h => h) (Or.inl ⟨by rfl, ?_⟩) (by assumption) ?_
              rotate_left 1
              · intro w hSw; (try dsimp only at hSw); go_simp; try (with_reducible rfl)
              try simp only [Act.put, List.setIfInBounds_toArray, List.set_cons_zero, List.set_cons_succ]
              refine wpAnyH_take (i := 38) (oi := { dst := some 4, op := Op.assign (Operand.tmp 116), type := 4, pos := "laws.go:540", after := #[{ on := 37, ground := Ground.data }, { on := 35, ground := Ground.chain }, { on := 0, ground := Ground.phase }, { on := 1, ground := Ground.phase }, { on := 2, ground := Ground.phase }, { on := 3, ground := Ground.phase }, { on := 4, ground := Ground.phase }, { on := 5, ground := Ground.phase }, { on := 6, ground := Ground.phase }, { on := 7, ground := Ground.phase }, { on := 8, ground := Ground.phase }, { on := 9, ground := Ground.phase }, { on := 10, ground := Ground.phase }, { on := 11, ground := Ground.phase }, { on := 12, ground := Ground.phase }, { on := 13, ground := Ground.phase }, { on := 14, ground := Ground.phase }, { on := 15, ground := Ground.phase }, { on := 16, ground := Ground.phase }, { on := 17, ground := Ground.phase }, { on := 18, ground := Ground.phase }, { on := 19, ground := Ground.phase }, { on := 20, ground := Ground.phase }, { on := 21, ground := Ground.phase }, { on := 22, ground := Ground.phase }, { on := 23, ground := Ground.phase }, { on := 24, ground := Ground.phase }, { on := 25, ground := Ground.phase }, { on := 26, ground := Ground.phase }, { on := 27, ground := Ground.phase }, { on := 28, ground := Ground.phase }, { on := 29, ground := Ground.phase }, { on := 30, ground := Ground.phase }, { on := 31, ground := Ground.phase }, { on := 32, ground := Ground.phase }, { on := 33, ground := Ground.phase }, { on := 34, ground := Ground.phase }, { on := 35, ground := Ground.phase }, { on := 36, ground := Ground.phase }, { on := 37, ground := Ground.phase }], guard := none }) (v := ?_) rfl (by kernel_rfl) (by kernel_rfl) (by kernel_rfl) (fun _ _ _ h => h) (Or.inl ⟨by rfl, ?_⟩) (by assumption) ?_
              rotate_left 1
              · intro w hSw; (try dsimp only at hSw); go_simp; try (with_reducible rfl)
              try simp only [Act.put, List.setIfInBounds_toArray, List.set_cons_zero, List.set_cons_succ]
              refine wpAnyH_done (by kernel_rfl) ?_ _
              refine NoPanic.normal ?_
              go_wp2
              go_ret
              exact ⟨rfl, F28.bel⟩
            · have HO1 : Hid (∀ (w : World) (A B : Nat), B ≤ w.heap.size → ∀ (ka : Option Addr) (kc : Nat) (ea : Option Addr) (ec : Nat), KidsAt w A B ka q2.ks.length kc q2.ks → EntsAt w A B ea q2.es.length ec q2.es → Calls Try.prog 29 #[.agg #[.int .i64 q2.kind, .int .i64 q2.tx, .int .i64 q2.id, .int .i64 q2.root, .int .i64 q2.count, .slice ka q2.ks.length kc, .slice ea q2.es.length ec, .int .i64 q2.next, .string q2.data]] w fun e w' => ∃ a n c, e = .returned (.slice a n c) ∧ BytesAt w' w.heap.size w'.heap.size a n c l2 ∧ Below w.heap.size w w') := by
                intro w A B hB ka kc ea ec hk he
                refine (Old.encodeOld_any q2 (HB2.out rfl).2 ka kc ea ec w A B hB hk he).mono ?_
                rintro e w' ⟨v, rfl, hO, hbel⟩
                rw [(HB2.out rfl).1] at hO
                obtain ⟨a, c, rfl⟩ := own_shape hO
                exact ⟨a, l2.length, c, rfl, bytesAt_row hO HYB.out, hbel⟩
              refine wpAnyH_take (i := 31) (oi := { dst := some 110, op := Op.fieldAddr 32 (Operand.tmp 14) 1, type := 0, pos := "laws.go:540", after := #[{ on := 30, ground := Ground.guard }], guard := some (30, false) }) (v := ?_) rfl (by kernel_rfl) (by kernel_rfl) (by kernel_rfl) (fun _ _ _ h => h) (Or.inl ⟨by rfl, ?_⟩) (by assumption) ?_
              rotate_left 1
              · intro w hSw; (try dsimp only at hSw); go_simp; try (with_reducible rfl)
              try simp only [Act.put, List.setIfInBounds_toArray, List.set_cons_zero, List.set_cons_succ]
              refine wpAnyH_take (i := 32) (oi := { dst := some 111, op := Op.load 28 (Operand.tmp 110), type := 28, pos := "laws.go:540", after := #[{ on := 31, ground := Ground.data }, { on := 30, ground := Ground.guard }], guard := some (30, false) }) (v := ?_) rfl (by kernel_rfl) (by kernel_rfl) (by kernel_rfl) (fun _ _ _ h => h) (Or.inl ⟨by rfl, ?_⟩) (by assumption) ?_
              rotate_left 1
              · intro w hSw; (try dsimp only at hSw); go_simp; try (with_reducible rfl)
              try simp only [Act.put, List.setIfInBounds_toArray, List.set_cons_zero, List.set_cons_succ]
              refine wpAnyH_take (i := 34) (oi := { dst := some 113, op := Op.move (Operand.tmp 12), type := 22, pos := "laws.go:540", after := #[{ on := 30, ground := Ground.guard }], guard := some (30, false) }) (v := ?_) rfl (by kernel_rfl) (by kernel_rfl) (by kernel_rfl) (fun _ _ _ h => h) (Or.inl ⟨by rfl, ?_⟩) (by assumption) ?_
              rotate_left 1
              · intro w hSw; (try dsimp only at hSw); go_simp; try (with_reducible rfl)
              try simp only [Act.put, List.setIfInBounds_toArray, List.set_cons_zero, List.set_cons_succ]
              refine wpAnyH_ready (rs := [33]) (by kernel_rfl) (by simp) ?_
              refine AllReadyH.cons (o := { dst := some 112, op := Op.call { callee := Callee.value (Operand.func 29), args := #[Operand.tmp 111], argTypes := #[28] }, type := 22, pos := "laws.go:540", after := #[{ on := 32, ground := Ground.data }, { on := 30, ground := Ground.chain }, { on := 30, ground := Ground.guard }], guard := some (30, false) }) rfl (fun K hK => ?_) AllReadyH.nil
              go_simp
              refine (HO1.out _ _ _ F28.top ka2 kc2_ ea2 ec2_ F28.k2 F28.e2).mono ?_; rintro e w29 ⟨a29, n29, c29, rfl, hB29, hb29⟩; have F29 := F28.below hb29
              go_wp2_with fail
              obtain ⟨c0, c1, c2, c3, c4, c5, c6, c7, c8, c9⟩ := box_tenP F29.r1; obtain ⟨d0, d1, d2, d3, d4, d5, d6, d7, d8, d9⟩ := box_tenP F29.r2
              refine hK.out _ _ ⟨c0, c1, c2, c3, c4, c5, c6, c7, c8, c9, d0, d1, d2, d3, d4, d5, d6, d7, d8, d9⟩ (fun hHeld => ?_)
              clear hK K c0 c1 c2 c3 c4 c5 c6 c7 c8 c9 d0 d1 d2 d3 d4 d5 d6 d7 d8 d9
              try simp only [Act.put, List.setIfInBounds_toArray, List.set_cons_zero, List.set_cons_succ]
              refine wpAnyH_ready (rs := [35]) (by kernel_rfl) (by simp) ?_
              refine AllReadyH.cons (o := { dst := some 114, op := Op.call { callee := Callee.value (Operand.func 11), args := #[Operand.tmp 112, Operand.tmp 113], argTypes := #[22, 22] }, type := 4, pos := "laws.go:540", after := #[{ on := 33, ground := Ground.data }, { on := 34, ground := Ground.data }, { on := 33, ground := Ground.chain }, { on := 30, ground := Ground.guard }], guard := some (30, false) }) rfl (fun K hK => ?_) AllReadyH.nil
              go_simp
              refine (HLW.out l2 a29 n29 c29 ya yn yc _ _ _ _ _ hB29 F29.y).mono ?_; rintro e w29x ⟨rfl, rfl⟩
              go_wp2_with fail
              obtain ⟨c0, c1, c2, c3, c4, c5, c6, c7, c8, c9⟩ := box_tenP F29.r1; obtain ⟨d0, d1, d2, d3, d4, d5, d6, d7, d8, d9⟩ := box_tenP F29.r2
              refine hK.out _ _ ⟨c0, c1, c2, c3, c4, c5, c6, c7, c8, c9, d0, d1, d2, d3, d4, d5, d6, d7, d8, d9⟩ (fun hHeld => ?_)
              clear hK K c0 c1 c2 c3 c4 c5 c6 c7 c8 c9 d0 d1 d2 d3 d4 d5 d6 d7 d8 d9
              try simp only [Act.put, List.setIfInBounds_toArray, List.set_cons_zero, List.set_cons_succ]
              refine wpAnyH_take (i := 36) (oi := { dst := some 115, op := Op.pick (Operand.tmp 109) (Operand.const (Value.bool true)) (Operand.tmp 114), type := 4, pos := "laws.go:540", after := #[{ on := 30, ground := Ground.data }, { on := 35, ground := Ground.data }, { on := 26, ground := Ground.guard }], guard := some (26, true) }) (v := ?_) rfl (by kernel_rfl) (by kernel_rfl) (by kernel_rfl) (fun _ _ _ h => h) (Or.inl ⟨by rfl, ?_⟩) (by assumption) ?_
              rotate_left 1
              · intro w hSw; (try dsimp only at hSw); go_simp; try (with_reducible rfl)
              try simp only [Act.put, List.setIfInBounds_toArray, List.set_cons_zero, List.set_cons_succ]
              refine wpAnyH_take (i := 37) (oi := { dst := some 116, op := Op.pick (Operand.tmp 105) (Operand.tmp 115) (Operand.const (Value.bool false)), type := 4, pos := "laws.go:540", after := #[{ on := 26, ground := Ground.data }, { on := 36, ground := Ground.data }], guard := none }) (v := ?_) rfl (by kernel_rfl) (by kernel_rfl) (by kernel_rfl) (fun _ _ _ h => h) (Or.inl ⟨by rfl, ?_⟩) (by assumption) ?_
              rotate_left 1
              · intro w hSw; (try dsimp only at hSw); go_simp; try (with_reducible rfl)
              try simp only [Act.put, List.setIfInBounds_toArray, List.set_cons_zero, List.set_cons_succ]
              refine wpAnyH_take (i := 38) (oi := { dst := some 4, op := Op.assign (Operand.tmp 116), type := 4, pos := "laws.go:540", after := #[{ on := 37, ground := Ground.data }, { on := 35, ground := Ground.chain }, { on := 0, ground := Ground.phase }, { on := 1, ground := Ground.phase }, { on := 2, ground := Ground.phase }, { on := 3, ground := Ground.phase }, { on := 4, ground := Ground.phase }, { on := 5, ground := Ground.phase }, { on := 6, ground := Ground.phase }, { on := 7, ground := Ground.phase }, { on := 8, ground := Ground.phase }, { on := 9, ground := Ground.phase }, { on := 10, ground := Ground.phase }, { on := 11, ground := Ground.phase }, { on := 12, ground := Ground.phase }, { on := 13, ground := Ground.phase }, { on := 14, ground := Ground.phase }, { on := 15, ground := Ground.phase }, { on := 16, ground := Ground.phase }, { on := 17, ground := Ground.phase }, { on := 18, ground := Ground.phase }, { on := 19, ground := Ground.phase }, { on := 20, ground := Ground.phase }, { on := 21, ground := Ground.phase }, { on := 22, ground := Ground.phase }, { on := 23, ground := Ground.phase }, { on := 24, ground := Ground.phase }, { on := 25, ground := Ground.phase }, { on := 26, ground := Ground.phase }, { on := 27, ground := Ground.phase }, { on := 28, ground := Ground.phase }, { on := 29, ground := Ground.phase }, { on := 30, ground := Ground.phase }, { on := 31, ground := Ground.phase }, { on := 32, ground := Ground.phase }, { on := 33, ground := Ground.phase }, { on := 34, ground := Ground.phase }, { on := 35, ground := Ground.phase }, { on := 36, ground := Ground.phase }, { on := 37, ground := Ground.phase }], guard := none }) (v := ?_) rfl (by kernel_rfl) (by kernel_rfl) (by kernel_rfl) (fun _ _ _ h => h) (Or.inl ⟨by rfl, ?_⟩) (by assumption) ?_
              rotate_left 1
              · intro w hSw; (try dsimp only at hSw); go_simp; try (with_reducible rfl)
              try simp only [Act.put, List.setIfInBounds_toArray, List.set_cons_zero, List.set_cons_succ]
              refine wpAnyH_done (by kernel_rfl) ?_ _
              refine NoPanic.normal ?_
              go_wp2
              go_ret
              exact ⟨rfl, F29.bel⟩
    · go_wp2
      go_ret
      exact ⟨rfl, Below.refl _ _⟩
  · go_wp2
    go_ret
    exact ⟨rfl, Below.refl _ _⟩
end Go.Proofs.Ytcmhobbpeaeebaa
