import Derived.Test.YtcmhobbpeaeebaaVb
namespace Go.Proofs.Ytcmhobbpeaeebaa
open Go.RowKit
set_option linter.unusedVariables false
set_option maxRecDepth 100000

set_option maxHeartbeats 3200000 in
theorem leafValid_any (M : Nat) (ea : Option Addr) (n ec : Nat) (es : List PE) (low last : Int) (hlow : 1 ≤ low) (w : World) (A B : Nat) (hB : B ≤ w.heap.size) (hE : EntsAt w A B ea n ec es) (hM : w.heap[M]? = some (.cells #[.slice ea n ec] 142)) :
    Calls Try.prog 137 #[.pointer (some ⟨M, 0, none⟩), .agg #[.int .i64 low, .int .i64 last]] w fun e w' => e = .returned (.bool (decide (n ≤ 4) && entsOk low last es)) ∧ Below w.heap.size w w' := by
  have m0 := box_one hM
  have hlt : M < w.heap.size := (Array.getElem?_eq_some_iff.1 hM).1
  have hn63 := Nat.le_trans hE.2.1 hE.2.2.1
  have HL : Hid (es.length = n) := hE.1
  unfold maxLen at hn63
  by_cases h4 : 4 < n
  · go_enter Try.func137, Try.ntmps137
    go_wp2
    go_ret
    refine ⟨?_, (Below.refl _ _).alloc (Nat.le_refl _) _⟩
    rw [show decide (n ≤ 4) = false by simp; omega]
    rfl
  · have HD : Hid ((decide (n ≤ 4) && entsOk low last es) = entsOk low last es) := by
      show _ = _
      rw [show decide (n ≤ 4) = true by simp; omega]
      rfl
    go_enter Try.func137, Try.ntmps137
    go_wp2_with fail
    go_loopw [18] (fun iv wr => ∃ i : Nat, i ≤ n ∧ iv = .int .i64 i ∧ Hid ((List.range i).all (entOk low last es) = true) ∧ Below w.heap.size w wr ∧ Hid (wr.heap[w.heap.size]? = some (.cells #[.int .i64 low, .int .i64 last] 89))) (fun iv _ => n - (intOf iv).toNat)
    case atStart => exact ⟨0, Nat.zero_le _, rfl, rfl, (Below.refl _ _).alloc (Nat.le_refl _) _, heap_alloc_new w _⟩
    case round =>
      obtain ⟨i, hi, rfl, hok, hbel, hsp⟩ := hrel
      by_cases hli : i < n
      · obtain ⟨b, off, rfl, hb, hfk, f0, f1, f2, f3⟩ := EntsAt.at (hE.below (hbel.mono hB)) (i := i) hli
        have HEO : Hid (entOk low last es i = (keyB (es.getD i dE).1 && (shortB (es.getD i dE) || longB low last (es.getD i dE)) && !(decide (0 < i) && geB (es.getD (i - 1) dE).1 (es.getD i dE).1))) := rfl
        have hnk : n ≤ es.length := by have := HL.out; omega
        generalize hkd : es.getD i dE = kd at f0 f1 f2 f3 HEO hfk
        clear hkd
        have hws := hbel.size
        have hspl : w.heap.size < wr.heap.size := (Array.getElem?_eq_some_iff.1 hsp.out).1
        have hbw : b < wr.heap.size := by omega
        have HB0 := hbel.alloc (o := (.cells #[.string kd.1, .string kd.2.1, .int .i64 kd.2.2.1, .int .i64 kd.2.2.2] 102)) hws
        have HE0 : (wr.alloc (.cells #[.string kd.1, .string kd.2.1, .int .i64 kd.2.2.1, .int .i64 kd.2.2.2] 102)).heap[wr.heap.size]? = some (.cells #[.string kd.1, .string kd.2.1, .int .i64 kd.2.2.1, .int .i64 kd.2.2.2] 102) := heap_alloc_new wr _
        have HS0 := eb_call hsp.out ((Below.refl _ wr).alloc (Nat.le_refl _) (.cells #[.string kd.1, .string kd.2.1, .int .i64 kd.2.2.1, .int .i64 kd.2.2.2] 102))
        have hE1 := hE.below (HB0.mono hB)
        go_wp2_with fail
        generalize wr.alloc (.cells #[.string kd.1, .string kd.2.1, .int .i64 kd.2.2.1, .int .i64 kd.2.2.2] 102) = W0 at HB0 HE0 HS0 hE1 ⊢
        generalize wr.heap.size = E at HE0 ⊢
        clear hbel hsp f0 f1 f2 f3 hws hspl hbw
        obtain ⟨y0, y1, y2, y3⟩ := box_four HE0
        obtain ⟨x0, x1⟩ := box_two HS0
        have m1 := (HB0.cell (p := ⟨M, 0, none⟩) hlt).trans m0
        have hbq : ∀ q, Below w.heap.size w (W0.drewN q) := fun q => HB0.trans ⟨rfl, rfl, rfl, Nat.le_refl _, fun _ _ => rfl⟩
        have HALL : ∀ q, Below w.heap.size w (W0.drewN q) ∧ (W0.drewN q).heap[E]? = some (.cells #[.string kd.1, .string kd.2.1, .int .i64 kd.2.2.1, .int .i64 kd.2.2.2] 102) ∧ (W0.drewN q).heap[w.heap.size]? = some (.cells #[.int .i64 low, .int .i64 last] 89) := fun q => ⟨hbq q, HE0, HS0⟩
        by_cases t2 : keyB kd.1 = true
        · by_cases t4 : 0 < i
          · obtain ⟨b'', off'', hbo, hb'', hfj, g0, _⟩ := EntsAt.at hE1 (i := i - 1) (by omega)
            simp only [Option.some.injEq, Addr.mk.injEq, and_true] at hbo
            obtain ⟨rfl, rfl⟩ := hbo
            generalize hpd : es.getD (i - 1) dE = pd at g0 HEO
            clear hpd hE1
            obtain ⟨k1, hk1⟩ : ∃ k1, k1 = i - 1 := ⟨_, rfl⟩
            rw [← hk1] at g0
            have i2 : (i : Int) - 1 = (k1 : Int) := by omega
            have i1 : k1 < n := by omega
            have i3 : IntKind.i64.wrap (k1 : Int) = (k1 : Int) := by rw [IntKind.wrap_i64]; omega
            have s4 : decide ((0 : Int) < (i : Int)) = true := by simp; omega
            clear hk1
            by_cases t5 : geB pd.1 kd.1 = true
            · have HB : Hid (entsOk low last es = false) := all_range_false (k := i) (by omega) (by rw [HEO.out]; simp [t4, t5])
              have s5 : Op.bytesLess pd.1.toList kd.1.toList = false := by simpa [geB] using t5
              go_wp2_with fail
              go_quiet ((go_at_call 132; exact Calls.quiet_of_same (isKey_any _ hfk.1 _)))
              go_wp2
              go_ret
              exact ⟨by rw [HD.out, HB.out]; rfl, hbq _⟩
            · have s5 : Op.bytesLess pd.1.toList kd.1.toList = true := by simpa [geB] using t5
              have t5' : geB pd.1 kd.1 = false := by simpa using t5
              go_wp2_with fail
              go_quiet ((go_at_call 132; exact Calls.quiet_of_same (isKey_any _ hfk.1 _)))
              go_wp2_with fail
              obtain ⟨HBw, HEw, HSw⟩ := HALL nq
              generalize W0.drewN nq = W1 at HBw HEw HSw ⊢
              clear HALL hbq HE0 HS0 HB0 y0 y1 y2 y3 x0 x1
              refine (validEnt_any kd hfk low last hlow W1).mono ?_
              rintro e w2 ⟨rfl, hb2⟩
              have HB2 := HBw.trans (hb2.mono HBw.size)
              have HS2 := eb_call HSw hb2
              by_cases t1 : (shortB kd || longB low last kd) = true
              · have HB : Hid ((List.range (i + 1)).all (entOk low last es) = true) := all_range_succ hok.out (by rw [HEO.out]; simp only [t2, t5', t1]; simp)
                go_wp2
                go_roundw
                case rel => exact ⟨i + 1, by omega, by go_num, HB, HB2, HS2⟩
                case measure => simp [intOf]; omega
              · have t1' : (shortB kd || longB low last kd) = false := by simpa using t1
                have HB : Hid (entsOk low last es = false) := all_range_false (k := i) (by omega) (by rw [HEO.out, t1']; simp)
                go_wp2
                go_ret
                exact ⟨by rw [HD.out, HB.out]; rfl, HB2⟩
          · have s4 : decide ((0 : Int) < (i : Int)) = false := by simp; omega
            have t4' : decide (0 < i) = false := by simpa using t4
            clear hE1
            go_wp2_with fail
            go_quiet ((go_at_call 132; exact Calls.quiet_of_same (isKey_any _ hfk.1 _)))
            go_wp2_with fail
            obtain ⟨HBw, HEw, HSw⟩ := HALL nq
            generalize W0.drewN nq = W1 at HBw HEw HSw ⊢
            clear HALL hbq HE0 HS0 HB0 y0 y1 y2 y3 x0 x1
            refine (validEnt_any kd hfk low last hlow W1).mono ?_
            rintro e w2 ⟨rfl, hb2⟩
            have HB2 := HBw.trans (hb2.mono HBw.size)
            have HS2 := eb_call HSw hb2
            by_cases t1 : (shortB kd || longB low last kd) = true
            · have HB : Hid ((List.range (i + 1)).all (entOk low last es) = true) := all_range_succ hok.out (by rw [HEO.out]; simp only [t2, t4', t1]; simp)
              go_wp2
              go_roundw
              case rel => exact ⟨i + 1, by omega, by go_num, HB, HB2, HS2⟩
              case measure => simp [intOf]; omega
            · have t1' : (shortB kd || longB low last kd) = false := by simpa using t1
              have HB : Hid (entsOk low last es = false) := all_range_false (k := i) (by omega) (by rw [HEO.out, t1']; simp)
              go_wp2
              go_ret
              exact ⟨by rw [HD.out, HB.out]; rfl, HB2⟩
        · have HB : Hid (entsOk low last es = false) := all_range_false (k := i) (by omega) (by rw [HEO.out]; simp [t2])
          have t2' : keyB kd.1 = false := by simpa using t2
          clear hE1
          go_wp2_with fail
          go_quiet ((go_at_call 132; exact Calls.quiet_of_same (isKey_any _ hfk.1 _)))
          go_wp2
          go_ret
          exact ⟨by rw [HD.out, HB.out]; rfl, hbq _⟩
      · have HB : Hid (entsOk low last es = true) := by have := hok.out; rw [show i = n by omega, ← HL.out] at this; exact this
        go_wp2
        go_ret
        exact ⟨by rw [HD.out, HB.out]; rfl, hbel⟩
end Go.Proofs.Ytcmhobbpeaeebaa
