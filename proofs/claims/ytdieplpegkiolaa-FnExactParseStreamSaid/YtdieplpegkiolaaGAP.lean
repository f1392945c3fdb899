import Derived.Test.YtdieplpegkiolaaGAM
import Derived.Test.YtdieplpegkiolaaGAO
import Derived.Laws.EntriesVeiled
import Derived.WideLaws
import Derived.Deep.RegionHeld3
namespace Go.Proofs.Ytdieplpegkiolaa
open Go.RowKit
set_option linter.unusedVariables false
set_option maxRecDepth 100000

set_option maxHeartbeats 3200000 in
theorem leafValid_any (M : Nat) (ea : Option Addr) (n ec : Nat) (es : List PE) (low last : Int) (hlow : 1 ≤ low) (w : World) (A B : Nat) (hB : B ≤ w.heap.size) (hE : EntsAt w A B ea n ec es) (hM : w.heap[M]? = some (.cells #[.slice ea n ec] 121)) :
    Calls Try.prog 104 #[.pointer (some ⟨M, 0, none⟩), .agg #[.int .i64 low, .int .i64 last]] w fun e w' => e = .returned (.bool (decide (n ≤ 4) && entsOk low last es)) ∧ Below w.heap.size w w' := by
  have m0 := box_one hM
  have hlt : M < w.heap.size := (Array.getElem?_eq_some_iff.1 hM).1
  have hn63 := Nat.le_trans hE.2.1 hE.2.2.1
  have HL : Hid (es.length = n) := hE.1
  unfold maxLen at hn63
  by_cases h4 : 4 < n
  · go_enter Try.func104, Try.ntmps104
    go_wp2
    go_ret
    refine ⟨?_, (Below.refl _ _).alloc (Nat.le_refl _) _⟩
    rw [show decide (n ≤ 4) = false by simp; omega]
    rfl
  · have HD : Hid ((decide (n ≤ 4) && entsOk low last es) = entsOk low last es) := by
      show _ = _
      rw [show decide (n ≤ 4) = true by simp; omega]
      rfl
    go_enter Try.func104, Try.ntmps104
    go_wp2_with fail
    go_loopw [18] (fun iv wr => ∃ i : Nat, i ≤ n ∧ iv = .int .i64 i ∧ Hid ((List.range i).all (entOk low last es) = true) ∧ Below w.heap.size w wr ∧ Hid (wr.heap[w.heap.size]? = some (.cells #[.int .i64 low, .int .i64 last] 76))) (fun iv _ => n - (intOf iv).toNat)
    case atStart => exact ⟨0, Nat.zero_le _, rfl, rfl, (Below.refl _ _).alloc (Nat.le_refl _) _, heap_alloc_new w _⟩
    case round =>
      obtain ⟨i, hi, rfl, hok, hbel, hsp⟩ := hrel
      by_cases hli : i < n
      · obtain ⟨b, off, rfl, hb, hfk, f0, f1, f2, f3⟩ := EntsAt.at (hE.below (hbel.mono hB)) (i := i) hli
        have HEO : Hid (entOk low last es i = (keyB (es.getD i dE).1 && (shortB (es.getD i dE) || longB low last (es.getD i dE)) && !(decide (0 < i) && geB (es.getD (i - 1) dE).1 (es.getD i dE).1))) := rfl
        have hnk : n ≤ es.length := by have := HL.out; omega
        generalize hkd : es.getD i dE = kd at f0 f1 f2 f3 HEO hfk
        clear hkd
        have hws := hbel.size
        have hspl : w.heap.size < wr.heap.size := (Array.getElem?_eq_some_iff.1 hsp.out).1
        have hbw : b < wr.heap.size := by omega
        have HB0 := hbel.alloc (o := (.cells #[.string kd.1, .string kd.2.1, .int .i64 kd.2.2.1, .int .i64 kd.2.2.2] 93)) hws
        have HE0 : (wr.alloc (.cells #[.string kd.1, .string kd.2.1, .int .i64 kd.2.2.1, .int .i64 kd.2.2.2] 93)).heap[wr.heap.size]? = some (.cells #[.string kd.1, .string kd.2.1, .int .i64 kd.2.2.1, .int .i64 kd.2.2.2] 93) := heap_alloc_new wr _
        have HS0 := eb_call hsp.out ((Below.refl _ wr).alloc (Nat.le_refl _) (.cells #[.string kd.1, .string kd.2.1, .int .i64 kd.2.2.1, .int .i64 kd.2.2.2] 93))
        have hE1 := hE.below (HB0.mono hB)
        go_wp2_with fail
        generalize wr.alloc (.cells #[.string kd.1, .string kd.2.1, .int .i64 kd.2.2.1, .int .i64 kd.2.2.2] 93) = W0 at HB0 HE0 HS0 hE1 ⊢
        generalize wr.heap.size = E at HE0 ⊢
        clear hbel hsp f0 f1 f2 f3 hws hspl hbw
        obtain ⟨y0, y1, y2, y3⟩ := box_four HE0
        obtain ⟨x0, x1⟩ := box_two HS0
        have m1 := (HB0.cell (p := ⟨M, 0, none⟩) hlt).trans m0
        have hbq : ∀ q, Below w.heap.size w (W0.drewN q) := fun q => HB0.trans ⟨rfl, rfl, rfl, Nat.le_refl _, fun _ _ => rfl⟩
        have HALL : ∀ q, Below w.heap.size w (W0.drewN q) ∧ (W0.drewN q).heap[E]? = some (.cells #[.string kd.1, .string kd.2.1, .int .i64 kd.2.2.1, .int .i64 kd.2.2.2] 93) ∧ (W0.drewN q).heap[w.heap.size]? = some (.cells #[.int .i64 low, .int .i64 last] 76) := fun q => ⟨hbq q, HE0, HS0⟩
        by_cases t2 : keyB kd.1 = true
        · by_cases t4 : 0 < i
          · obtain ⟨b'', off'', hbo, hb'', hfj, g0, _⟩ := EntsAt.at hE1 (i := i - 1) (by omega)
            simp only [Option.some.injEq, Addr.mk.injEq, and_true] at hbo
            obtain ⟨rfl, rfl⟩ := hbo
            generalize hpd : es.getD (i - 1) dE = pd at g0 HEO
            clear hpd hE1
            obtain ⟨k1, hk1⟩ : ∃ k1, k1 = i - 1 := ⟨_, rfl⟩
            rw [← hk1] at g0
            have i2 : (i : Int) - 1 = (k1 : Int) := by omega
            have i1 : k1 < n := by omega
            have i3 : IntKind.i64.wrap (k1 : Int) = (k1 : Int) := by rw [IntKind.wrap_i64]; omega
            have s4 : decide ((0 : Int) < (i : Int)) = true := by simp; omega
            clear hk1
            by_cases t5 : geB pd.1 kd.1 = true
            · have HB : Hid (entsOk low last es = false) := all_range_false (k := i) (by omega) (by rw [HEO.out]; simp [t4, t5])
              have s5 : Op.bytesLess pd.1.toList kd.1.toList = false := by simpa [geB] using t5
              go_wp2_with fail
              go_quiet ((go_at_call 99; exact Calls.quiet_of_same (isKey_any _ hfk.1 _)))
              go_wp2
              go_ret
              exact ⟨by rw [HD.out, HB.out]; rfl, hbq _⟩
            · have s5 : Op.bytesLess pd.1.toList kd.1.toList = true := by simpa [geB] using t5
              have t5' : geB pd.1 kd.1 = false := by simpa using t5
              go_wp2_with fail
              go_quiet ((go_at_call 99; exact Calls.quiet_of_same (isKey_any _ hfk.1 _)))
              go_wp2_with fail
              obtain ⟨HBw, HEw, HSw⟩ := HALL nq
              generalize W0.drewN nq = W1 at HBw HEw HSw ⊢
              clear HALL hbq HE0 HS0 HB0 y0 y1 y2 y3 x0 x1
              refine (validEnt_any kd hfk low last hlow W1).mono ?_
              rintro e w2 ⟨rfl, hb2⟩
              have HB2 := HBw.trans (hb2.mono HBw.size)
              have HS2 := eb_call HSw hb2
              by_cases t1 : (shortB kd || longB low last kd) = true
              · have HB : Hid ((List.range (i + 1)).all (entOk low last es) = true) := all_range_succ hok.out (by rw [HEO.out]; simp only [t2, t5', t1]; simp)
                go_wp2
                go_roundw
                case rel => exact ⟨i + 1, by omega, by go_num, HB, HB2, HS2⟩
                case measure => simp [intOf]; omega
              · have t1' : (shortB kd || longB low last kd) = false := by simpa using t1
                have HB : Hid (entsOk low last es = false) := all_range_false (k := i) (by omega) (by rw [HEO.out, t1']; simp)
                go_wp2
                go_ret
                exact ⟨by rw [HD.out, HB.out]; rfl, HB2⟩
          · have s4 : decide ((0 : Int) < (i : Int)) = false := by simp; omega
            have t4' : decide (0 < i) = false := by simpa using t4
            clear hE1
            go_wp2_with fail
            go_quiet ((go_at_call 99; exact Calls.quiet_of_same (isKey_any _ hfk.1 _)))
            go_wp2_with fail
            obtain ⟨HBw, HEw, HSw⟩ := HALL nq
            generalize W0.drewN nq = W1 at HBw HEw HSw ⊢
            clear HALL hbq HE0 HS0 HB0 y0 y1 y2 y3 x0 x1
            refine (validEnt_any kd hfk low last hlow W1).mono ?_
            rintro e w2 ⟨rfl, hb2⟩
            have HB2 := HBw.trans (hb2.mono HBw.size)
            have HS2 := eb_call HSw hb2
            by_cases t1 : (shortB kd || longB low last kd) = true
            · have HB : Hid ((List.range (i + 1)).all (entOk low last es) = true) := all_range_succ hok.out (by rw [HEO.out]; simp only [t2, t4', t1]; simp)
              go_wp2
              go_roundw
              case rel => exact ⟨i + 1, by omega, by go_num, HB, HB2, HS2⟩
              case measure => simp [intOf]; omega
            · have t1' : (shortB kd || longB low last kd) = false := by simpa using t1
              have HB : Hid (entsOk low last es = false) := all_range_false (k := i) (by omega) (by rw [HEO.out, t1']; simp)
              go_wp2
              go_ret
              exact ⟨by rw [HD.out, HB.out]; rfl, HB2⟩
        · have HB : Hid (entsOk low last es = false) := all_range_false (k := i) (by omega) (by rw [HEO.out]; simp [t2])
          have t2' : keyB kd.1 = false := by simpa using t2
          clear hE1
          go_wp2_with fail
          go_quiet ((go_at_call 99; exact Calls.quiet_of_same (isKey_any _ hfk.1 _)))
          go_wp2
          go_ret
          exact ⟨by rw [HD.out, HB.out]; rfl, hbq _⟩
      · have HB : Hid (entsOk low last es = true) := by have := hok.out; rw [show i = n by omega, ← HL.out] at this; exact this
        go_wp2
        go_ret
        exact ⟨by rw [HD.out, HB.out]; rfl, hbel⟩
end Go.Proofs.Ytdieplpegkiolaa
namespace Go.Proofs.Ytdieplpegkiolaa
open Go.RowKit
set_option linter.unusedVariables false
set_option maxRecDepth 100000

theorem box_oneS {w : World} {N : Nat} {v0 : Value} {t : TypeId} (h : w.heap[N]? = some (.cells #[v0] t)) : w.cell? ⟨N, 0, none⟩ = some v0 := by simp [World.cell?, h]
theorem box_twoS {w : World} {N : Nat} {v0 v1 : Value} {t : TypeId} (h : w.heap[N]? = some (.cells #[v0, v1] t)) : w.cell? ⟨N, 0, none⟩ = some v0 ∧ w.cell? ⟨N, 1, none⟩ = some v1 := by
  refine ⟨?_, ?_⟩ <;> simp [World.cell?, h]
theorem equalK_len (a a2 : Option Addr) (n c n2 c2 : Nat) (h : n ≠ n2) (w : World) :
    Calls Try.prog 66 #[.slice a n c, .slice a2 n2 c2] w fun e w' => e = .returned (.bool false) ∧ w' = w := by
  have hne : ((n : Int) != (n2 : Int)) = true := by simp; omega
  go_enter Try.func66, Try.ntmps66
  go_wp2
  go_ret
  exact ⟨rfl, rfl⟩
set_option maxHeartbeats 400000 in
theorem equalK_same (a a2 : Option Addr) (n c c2 : Nat) (ks : List PK) (w : World) (A B A2 B2 : Nat) (h : KidsAt w A B a n c ks) (h2 : KidsAt w A2 B2 a2 n c2 ks) :
    Calls Try.prog 66 #[.slice a n c, .slice a2 n c2] w fun e w' => e = .returned (.bool true) ∧ ∃ m, w' = w.drewN m := by
  have hc := h.2.2.1
  have hnc := h.2.1
  unfold maxLen at hc
  have hne : ((n : Int) != (n : Int)) = false := by simp
  go_enter Try.func66, Try.ntmps66
  go_wp2_with fail
  go_loopw [13] (fun iv wr => ∃ i : Nat, i ≤ n ∧ iv = .int .i64 i ∧ Hid (∃ m, wr = w.drewN m)) (fun iv _ => n - (intOf iv).toNat)
  case atStart => exact ⟨0, Nat.zero_le _, rfl, 0, rfl⟩
  case round =>
    obtain ⟨i, hi, rfl, hq⟩ := hrel
    have HD : Hid (∀ q, ∃ m, wr.drewN q = w.drewN m) := by
      obtain ⟨q0, h0⟩ := hq.out
      intro q
      exact ⟨q0 + q, by rw [h0, World.drewN_drewN]⟩
    have h' : KidsAt wr A B a n c ks := by
      obtain ⟨q0, h0⟩ := hq.out
      rw [h0]; exact h
    have h2' : KidsAt wr A2 B2 a2 n c2 ks := by
      obtain ⟨q0, h0⟩ := hq.out
      rw [h0]; exact h2
    clear h h2
    by_cases hlt : i < n
    · obtain ⟨b, off, rfl, hb, hfit, e0, e1⟩ := KidsAt.at h' hlt
      obtain ⟨b2, off2, rfl, hb2, hfit2, f0, f1⟩ := KidsAt.at h2' hlt
      generalize ks.getD i dK = kd at e0 e1 f0 f1
      clear h' h2' hfit hfit2
      go_wp2_with fail
      go_quiet (fail)
      go_wp2
      go_roundw
      case rel => exact ⟨i + 1, by omega, by go_num, HD.out _⟩
      case measure => simp [intOf]; omega
    · go_wp2
      go_ret
      exact ⟨rfl, hq.out⟩
theorem equalE_len (a a2 : Option Addr) (n c n2 c2 : Nat) (h : n ≠ n2) (w : World) :
    Calls Try.prog 67 #[.slice a n c, .slice a2 n2 c2] w fun e w' => e = .returned (.bool false) ∧ w' = w := by
  have hne : ((n : Int) != (n2 : Int)) = true := by simp; omega
  go_enter Try.func67, Try.ntmps67
  go_wp2
  go_ret
  exact ⟨rfl, rfl⟩
set_option maxHeartbeats 400000 in
theorem equalE_same (a a2 : Option Addr) (n c c2 : Nat) (ks : List PE) (w : World) (A B A2 B2 : Nat) (h : EntsAt w A B a n c ks) (h2 : EntsAt w A2 B2 a2 n c2 ks) :
    Calls Try.prog 67 #[.slice a n c, .slice a2 n c2] w fun e w' => e = .returned (.bool true) ∧ ∃ m, w' = w.drewN m := by
  have hc := h.2.2.1
  have hnc := h.2.1
  unfold maxLen at hc
  have hne : ((n : Int) != (n : Int)) = false := by simp
  go_enter Try.func67, Try.ntmps67
  go_wp2_with fail
  go_loopw [13] (fun iv wr => ∃ i : Nat, i ≤ n ∧ iv = .int .i64 i ∧ Hid (∃ m, wr = w.drewN m)) (fun iv _ => n - (intOf iv).toNat)
  case atStart => exact ⟨0, Nat.zero_le _, rfl, 0, rfl⟩
  case round =>
    obtain ⟨i, hi, rfl, hq⟩ := hrel
    have HD : Hid (∀ q, ∃ m, wr.drewN q = w.drewN m) := by
      obtain ⟨q0, h0⟩ := hq.out
      intro q
      exact ⟨q0 + q, by rw [h0, World.drewN_drewN]⟩
    have h' : EntsAt wr A B a n c ks := by
      obtain ⟨q0, h0⟩ := hq.out
      rw [h0]; exact h
    have h2' : EntsAt wr A2 B2 a2 n c2 ks := by
      obtain ⟨q0, h0⟩ := hq.out
      rw [h0]; exact h2
    clear h h2
    by_cases hlt : i < n
    · obtain ⟨b, off, rfl, hb, hfit, e0, e1, e2, e3⟩ := EntsAt.at h' hlt
      obtain ⟨b2, off2, rfl, hb2, hfit2, f0, f1, f2, f3⟩ := EntsAt.at h2' hlt
      generalize ks.getD i dE = kd at e0 e1 e2 e3 f0 f1 f2 f3
      clear h' h2' hfit hfit2
      go_wp2_with fail
      go_quiet (fail)
      go_wp2
      go_roundw
      case rel => exact ⟨i + 1, by omega, by go_num, HD.out _⟩
      case measure => simp [intOf]; omega
    · go_wp2
      go_ret
      exact ⟨rfl, hq.out⟩

-- the bodies: count, page
theorem metaCount_any (M : Nat) (w : World) : Calls Try.prog 84 #[.pointer (some ⟨M, 0, none⟩)] w fun e w' => e = .returned (.int .i64 0) ∧ w' = w := by
  go_enter Try.func84, Try.ntmps84
  go_wp2
  go_ret
  exact ⟨rfl, rfl⟩
theorem overCount_any (M : Nat) (w : World) : Calls Try.prog 108 #[.pointer (some ⟨M, 0, none⟩)] w fun e w' => e = .returned (.int .i64 0) ∧ w' = w := by
  go_enter Try.func108, Try.ntmps108
  go_wp2
  go_ret
  exact ⟨rfl, rfl⟩
theorem branchCount_any (M : Nat) (ka : Option Addr) (n kc : Nat) (w : World) (hM : w.heap[M]? = some (.cells #[.slice ka n kc] 118)) : Calls Try.prog 93 #[.pointer (some ⟨M, 0, none⟩)] w fun e w' => e = .returned (.int .i64 n) ∧ w' = w := by
  have m0 := box_oneS hM
  go_enter Try.func93, Try.ntmps93
  go_wp2
  go_ret
  exact ⟨rfl, rfl⟩
theorem leafCount_any (M : Nat) (ka : Option Addr) (n kc : Nat) (w : World) (hM : w.heap[M]? = some (.cells #[.slice ka n kc] 121)) : Calls Try.prog 101 #[.pointer (some ⟨M, 0, none⟩)] w fun e w' => e = .returned (.int .i64 n) ∧ w' = w := by
  have m0 := box_oneS hM
  go_enter Try.func101, Try.ntmps101
  go_wp2
  go_ret
  exact ⟨rfl, rfl⟩
theorem metaPage_any (M : Nat) (id root count : Int) (w : World) (hM : w.heap[M]? = some (.cells #[.int .i64 id, .int .i64 root, .int .i64 count] 115)) : Calls Try.prog 85 #[.pointer (some ⟨M, 0, none⟩)] w fun e w' => e = .returned (.agg #[.int .i64 1, .int .i64 0, .int .i64 id, .int .i64 root, .int .i64 count, .slice none 0 0, .slice none 0 0, .int .i64 0, .string ByteArray.empty]) ∧ Below w.heap.size w w' := by
  obtain ⟨m0, m1, m2⟩ := box_form hM
  have hlt : M < w.heap.size := (Array.getElem?_eq_some_iff.1 hM).1
  go_enter Try.func85, Try.ntmps85
  go_wp2
  exact bodyPost_ret (v := .agg #[.int .i64 1, .int .i64 0, .int .i64 id, .int .i64 root, .int .i64 count, .slice none 0 0, .slice none 0 0, .int .i64 0, .string ByteArray.empty]) (by simp [results, Try.results85, go_sem]; first | done | rfl) rfl ⟨rfl, by first | exact Below.refl _ _ | exact (Below.refl _ _).alloc (Nat.le_refl _) _ | exact ((Below.refl _ _).alloc (Nat.le_refl _) _).alloc (by simp) _⟩
theorem branchPage_any (M : Nat) (ka : Option Addr) (n kc : Nat) (w : World) (hM : w.heap[M]? = some (.cells #[.slice ka n kc] 118)) : Calls Try.prog 94 #[.pointer (some ⟨M, 0, none⟩)] w fun e w' => e = .returned (.agg #[.int .i64 2, .int .i64 0, .int .i64 0, .int .i64 0, .int .i64 0, .slice ka n kc, .slice none 0 0, .int .i64 0, .string ByteArray.empty]) ∧ Below w.heap.size w w' := by
  have m0 := box_oneS hM
  have hlt : M < w.heap.size := (Array.getElem?_eq_some_iff.1 hM).1
  go_enter Try.func94, Try.ntmps94
  go_wp2
  exact bodyPost_ret (v := .agg #[.int .i64 2, .int .i64 0, .int .i64 0, .int .i64 0, .int .i64 0, .slice ka n kc, .slice none 0 0, .int .i64 0, .string ByteArray.empty]) (by simp [results, Try.results94, go_sem]; first | done | rfl) rfl ⟨rfl, by first | exact Below.refl _ _ | exact (Below.refl _ _).alloc (Nat.le_refl _) _ | exact ((Below.refl _ _).alloc (Nat.le_refl _) _).alloc (by simp) _⟩
theorem leafPage_any (M : Nat) (ka : Option Addr) (n kc : Nat) (w : World) (hM : w.heap[M]? = some (.cells #[.slice ka n kc] 121)) : Calls Try.prog 102 #[.pointer (some ⟨M, 0, none⟩)] w fun e w' => e = .returned (.agg #[.int .i64 3, .int .i64 0, .int .i64 0, .int .i64 0, .int .i64 0, .slice none 0 0, .slice ka n kc, .int .i64 0, .string ByteArray.empty]) ∧ Below w.heap.size w w' := by
  have m0 := box_oneS hM
  have hlt : M < w.heap.size := (Array.getElem?_eq_some_iff.1 hM).1
  go_enter Try.func102, Try.ntmps102
  go_wp2
  exact bodyPost_ret (v := .agg #[.int .i64 3, .int .i64 0, .int .i64 0, .int .i64 0, .int .i64 0, .slice none 0 0, .slice ka n kc, .int .i64 0, .string ByteArray.empty]) (by simp [results, Try.results102, go_sem]; first | done | rfl) rfl ⟨rfl, by first | exact Below.refl _ _ | exact (Below.refl _ _).alloc (Nat.le_refl _) _ | exact ((Below.refl _ _).alloc (Nat.le_refl _) _).alloc (by simp) _⟩
theorem overPage_any (M : Nat) (next : Int) (data : ByteArray) (w : World) (hM : w.heap[M]? = some (.cells #[.int .i64 next, .string data] 124)) : Calls Try.prog 109 #[.pointer (some ⟨M, 0, none⟩)] w fun e w' => e = .returned (.agg #[.int .i64 4, .int .i64 0, .int .i64 0, .int .i64 0, .int .i64 0, .slice none 0 0, .slice none 0 0, .int .i64 next, .string data]) ∧ Below w.heap.size w w' := by
  obtain ⟨m0, m1⟩ := box_twoS hM
  have hlt : M < w.heap.size := (Array.getElem?_eq_some_iff.1 hM).1
  go_enter Try.func109, Try.ntmps109
  go_wp2_with fail
  go_region_held3 (fun w' => w'.cell? ⟨M, 0, none⟩ = some (.int .i64 next) ∧ w'.cell? ⟨M, 1, none⟩ = some (.string data)) (go_keep) (fail)
  go_wp2
  exact bodyPost_ret (v := .agg #[.int .i64 4, .int .i64 0, .int .i64 0, .int .i64 0, .int .i64 0, .slice none 0 0, .slice none 0 0, .int .i64 next, .string data]) (by simp [results, Try.results109, go_sem]; first | done | rfl) rfl ⟨rfl, by first | exact below_dn2 (Below.refl _ _) (Nat.le_refl _) | exact (((Below.refl _ _).alloc (Nat.le_refl _) _).alloc (by simp) _).trans ⟨rfl, rfl, rfl, Nat.le_refl _, fun _ _ => rfl⟩ | exact (Below.refl _ w).trans ⟨rfl, rfl, rfl, Nat.le_refl _, fun _ _ => rfl⟩⟩
theorem kindBody_meta (tx id root count : Int) (ka : Option Addr) (kn kc : Nat) (ea : Option Addr) (en ec : Nat) (next : Int) (data : ByteArray) (w : World) :
    Calls Try.prog 62 #[.agg #[.int .i64 1, .int .i64 tx, .int .i64 id, .int .i64 root, .int .i64 count, .slice ka kn kc, .slice ea en ec, .int .i64 next, .string data]] w fun e w' => ∃ M, e = .returned (.iface 113 (.pointer (some ⟨M, 0, none⟩))) ∧ w.heap.size ≤ M ∧ w'.heap[M]? = some (.cells #[.int .i64 id, .int .i64 root, .int .i64 count] 115) ∧ Below w.heap.size w w' := by
  go_enter Try.func62, Try.ntmps62
  go_wp2
  go_ret
  refine ⟨w.heap.size + 1, rfl, by omega, ?_, ((Below.refl _ _).alloc (Nat.le_refl _) _).alloc (by simp) _⟩
  have := heap_alloc_new (w.alloc (.cells #[.int .i64 1, .int .i64 tx, .int .i64 id, .int .i64 root, .int .i64 count, .slice ka kn kc, .slice ea en ec, .int .i64 next, .string data] 56)) (.cells #[.int .i64 id, .int .i64 root, .int .i64 count] 115)
  simpa using this
theorem kindBody_branch (tx id root count : Int) (ka : Option Addr) (kn kc : Nat) (ea : Option Addr) (en ec : Nat) (next : Int) (data : ByteArray) (w : World) :
    Calls Try.prog 62 #[.agg #[.int .i64 2, .int .i64 tx, .int .i64 id, .int .i64 root, .int .i64 count, .slice ka kn kc, .slice ea en ec, .int .i64 next, .string data]] w fun e w' => ∃ M, e = .returned (.iface 116 (.pointer (some ⟨M, 0, none⟩))) ∧ w.heap.size ≤ M ∧ w'.heap[M]? = some (.cells #[.slice ka kn kc] 118) ∧ Below w.heap.size w w' := by
  go_enter Try.func62, Try.ntmps62
  go_wp2
  go_ret
  refine ⟨w.heap.size + 1, rfl, by omega, ?_, ((Below.refl _ _).alloc (Nat.le_refl _) _).alloc (by simp) _⟩
  have := heap_alloc_new (w.alloc (.cells #[.int .i64 2, .int .i64 tx, .int .i64 id, .int .i64 root, .int .i64 count, .slice ka kn kc, .slice ea en ec, .int .i64 next, .string data] 56)) (.cells #[.slice ka kn kc] 118)
  simpa using this
theorem kindBody_leaf (tx id root count : Int) (ka : Option Addr) (kn kc : Nat) (ea : Option Addr) (en ec : Nat) (next : Int) (data : ByteArray) (w : World) :
    Calls Try.prog 62 #[.agg #[.int .i64 3, .int .i64 tx, .int .i64 id, .int .i64 root, .int .i64 count, .slice ka kn kc, .slice ea en ec, .int .i64 next, .string data]] w fun e w' => ∃ M, e = .returned (.iface 119 (.pointer (some ⟨M, 0, none⟩))) ∧ w.heap.size ≤ M ∧ w'.heap[M]? = some (.cells #[.slice ea en ec] 121) ∧ Below w.heap.size w w' := by
  go_enter Try.func62, Try.ntmps62
  go_wp2
  go_ret
  refine ⟨w.heap.size + 1, rfl, by omega, ?_, ((Below.refl _ _).alloc (Nat.le_refl _) _).alloc (by simp) _⟩
  have := heap_alloc_new (w.alloc (.cells #[.int .i64 3, .int .i64 tx, .int .i64 id, .int .i64 root, .int .i64 count, .slice ka kn kc, .slice ea en ec, .int .i64 next, .string data] 56)) (.cells #[.slice ea en ec] 121)
  simpa using this
theorem kindBody_over (tx id root count : Int) (ka : Option Addr) (kn kc : Nat) (ea : Option Addr) (en ec : Nat) (next : Int) (data : ByteArray) (w : World) :
    Calls Try.prog 62 #[.agg #[.int .i64 4, .int .i64 tx, .int .i64 id, .int .i64 root, .int .i64 count, .slice ka kn kc, .slice ea en ec, .int .i64 next, .string data]] w fun e w' => ∃ M, e = .returned (.iface 122 (.pointer (some ⟨M, 0, none⟩))) ∧ w.heap.size ≤ M ∧ w'.heap[M]? = some (.cells #[.int .i64 next, .string data] 124) ∧ Below w.heap.size w w' := by
  go_enter Try.func62, Try.ntmps62
  go_wp2
  go_ret
  refine ⟨w.heap.size + 1, rfl, by omega, ?_, ((Below.refl _ _).alloc (Nat.le_refl _) _).alloc (by simp) _⟩
  have := heap_alloc_new (w.alloc (.cells #[.int .i64 4, .int .i64 tx, .int .i64 id, .int .i64 root, .int .i64 count, .slice ka kn kc, .slice ea en ec, .int .i64 next, .string data] 56)) (.cells #[.int .i64 next, .string data] 124)
  simpa using this
theorem kindBody_nil (kind tx id root count : Int) (hk1 : kind ≠ 1) (hk2 : kind ≠ 2) (hk3 : kind ≠ 3) (hk4 : kind ≠ 4) (ka : Option Addr) (kn kc : Nat) (ea : Option Addr) (en ec : Nat) (next : Int) (data : ByteArray) (w : World) :
    Calls Try.prog 62 #[.agg #[.int .i64 kind, .int .i64 tx, .int .i64 id, .int .i64 root, .int .i64 count, .slice ka kn kc, .slice ea en ec, .int .i64 next, .string data]] w fun e w' => e = .returned .nilIface ∧ Below w.heap.size w w' := by
  have k1 : (kind == 1) = false := by simp; exact hk1
  have k2 : (kind == 2) = false := by simp; exact hk2
  have k3 : (kind == 3) = false := by simp; exact hk3
  have k4 : (kind == 4) = false := by simp; exact hk4
  go_enter Try.func62, Try.ntmps62
  go_wp2
  go_ret
  exact ⟨rfl, (Below.refl _ _).alloc (Nat.le_refl _) _⟩
end Go.Proofs.Ytdieplpegkiolaa
