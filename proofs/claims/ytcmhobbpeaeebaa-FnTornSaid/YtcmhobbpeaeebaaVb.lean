import Derived.Test.YtcmhobbpeaeebaaVa
namespace Go.Proofs.Ytcmhobbpeaeebaa
open Go.RowKit
set_option linter.unusedVariables false
set_option maxRecDepth 100000

theorem box_two {w : World} {N : Nat} {v0 v1 : Value} {t : TypeId} (h : w.heap[N]? = some (.cells #[v0, v1] t)) : w.cell? ⟨N, 0, none⟩ = some v0 ∧ w.cell? ⟨N, 1, none⟩ = some v1 := by
  refine ⟨?_, ?_⟩ <;> simp [World.cell?, h]
theorem box_one {w : World} {N : Nat} {v0 : Value} {t : TypeId} (h : w.heap[N]? = some (.cells #[v0] t)) : w.cell? ⟨N, 0, none⟩ = some v0 := by
  simp [World.cell?, h]

set_option maxHeartbeats 1600000 in
theorem branchValid_any (M : Nat) (ka : Option Addr) (n kc : Nat) (ks : List PK) (low last : Int) (w : World) (A B : Nat) (hB : B ≤ w.heap.size) (hK : KidsAt w A B ka n kc ks) (hM : w.heap[M]? = some (.cells #[.slice ka n kc] 139)) :
    Calls Try.prog 129 #[.pointer (some ⟨M, 0, none⟩), .agg #[.int .i64 low, .int .i64 last]] w fun e w' => e = .returned (.bool (decide (2 ≤ n) && decide (n ≤ 4) && (ks.getD 0 dK).1.toList.isEmpty && kidsOk low last ks)) ∧ Below w.heap.size w w' := by
  have m0 := box_one hM
  have hlt : M < w.heap.size := (Array.getElem?_eq_some_iff.1 hM).1
  have hn63 := Nat.le_trans hK.2.1 hK.2.2.1
  have HL : Hid (ks.length = n) := hK.1
  unfold maxLen at hn63
  by_cases h2 : n < 2
  · go_enter Try.func129, Try.ntmps129
    go_wp2
    go_ret
    refine ⟨?_, (Below.refl _ _).alloc (Nat.le_refl _) _⟩
    rw [show decide (2 ≤ n) = false by simp; omega]
    rfl
  · by_cases h4 : 4 < n
    · go_enter Try.func129, Try.ntmps129
      go_wp2
      go_ret
      refine ⟨?_, (Below.refl _ _).alloc (Nat.le_refl _) _⟩
      rw [show decide (n ≤ 4) = false by simp; omega]
      simp
    · obtain ⟨b, off, rfl, hb, hfit, e0, e1⟩ := KidsAt.at hK (i := 0) (by omega)
      simp only [Nat.zero_mul, Nat.add_zero] at e0 e1
      generalize hs0 : (ks.getD 0 dK).1 = s0 at e0
      have hbs : b < w.heap.size := by omega
      clear hs0
      have HD : Hid ((decide (2 ≤ n) && decide (n ≤ 4) && s0.toList.isEmpty && kidsOk low last ks) = (s0.toList.isEmpty && kidsOk low last ks)) := by
        show _ = _
        rw [show decide (2 ≤ n) = true by simp; omega, show decide (n ≤ 4) = true by simp; omega]
        rfl
      by_cases hse : s0.toList = []
      · have HSE : Hid (s0.toList.isEmpty = true) := by show _ = _; simp [hse]
        go_enter Try.func129, Try.ntmps129
        go_wp2_with fail
        clear e0 e1 hse
        go_loopw [36] (fun iv wr => ∃ i : Nat, i ≤ n ∧ iv = .int .i64 i ∧ Hid ((List.range i).all (kidOk low last ks) = true) ∧ Below w.heap.size w wr ∧ Hid (wr.heap[w.heap.size]? = some (.cells #[.int .i64 low, .int .i64 last] 89))) (fun iv _ => n - (intOf iv).toNat)
        case atStart => exact ⟨0, Nat.zero_le _, rfl, rfl, (Below.refl _ _).alloc (Nat.le_refl _) _, heap_alloc_new w _⟩
        case round =>
          obtain ⟨i, hi, rfl, hok, hbel, hsp⟩ := hrel
          by_cases hli : i < n
          · obtain ⟨b', off', hbo, hb', hfk, f0, f1⟩ := KidsAt.at (hK.below (hbel.mono hB)) (i := i) hli
            simp only [Option.some.injEq, Addr.mk.injEq, and_true] at hbo
            obtain ⟨rfl, rfl⟩ := hbo
            have HKO : Hid (kidOk low last ks i = (inB low last (ks.getD i dK).2 && !(decide (0 < i) && (!keyB (ks.getD i dK).1 || geB (ks.getD (i - 1) dK).1 (ks.getD i dK).1)))) := rfl
            have hnk : n ≤ ks.length := by have := HL.out; omega
            generalize hkd : ks.getD i dK = kd at f0 f1 HKO hfk
            clear hkd
            have hws := hbel.size
            have hspl : w.heap.size < wr.heap.size := (Array.getElem?_eq_some_iff.1 hsp.out).1
            obtain ⟨x0, x1⟩ := box_two hsp.out
            have hMb : M < wr.heap.size := by omega
            -- the kid's box
            have HB0 := hbel.alloc (o := .cells #[.string kd.1, .int .i64 kd.2] 100) hws
            have HE0 : (wr.alloc (.cells #[.string kd.1, .int .i64 kd.2] 100)).heap[wr.heap.size]? = some (.cells #[.string kd.1, .int .i64 kd.2] 100) := heap_alloc_new wr _
            have HS0 := eb_call hsp.out ((Below.refl _ wr).alloc (Nat.le_refl _) (.cells #[.string kd.1, .int .i64 kd.2] 100))
            have hbw : b < wr.heap.size := by omega
            go_wp2_with fail
            generalize wr.alloc (.cells #[.string kd.1, .int .i64 kd.2] 100) = W0 at HB0 HE0 HS0 ⊢
            generalize wr.heap.size = E at HE0 ⊢
            clear hbel hsp x0 x1 f0 f1 hws hspl hMb hbw
            refine (has_any low last kd.2 W0).mono ?_
            rintro e w1 ⟨rfl, hb1⟩
            have HB1 := HB0.trans (hb1.mono HB0.size)
            have HE1 := eb_call HE0 hb1
            have HS1 := eb_call HS0 hb1
            obtain ⟨y0, y1⟩ := box_two HE1
            have m1 := (HB1.cell (p := ⟨M, 0, none⟩) hlt).trans m0
            have hbq : ∀ q, Below w.heap.size w (w1.drewN q) := fun q => HB1.trans ⟨rfl, rfl, rfl, Nat.le_refl _, fun _ _ => rfl⟩
            have HSPq : ∀ q, Hid ((w1.drewN q).heap[w.heap.size]? = some (.cells #[.int .i64 low, .int .i64 last] 89)) := fun q => HS1
            have hK1 := hK.below (HB1.mono hB)
            clear HB0 HE0 HS0 hb1 HE1 HS1
            by_cases t1 : inB low last kd.2 = true
            · by_cases t4 : 0 < i
              · obtain ⟨b'', off'', hbo, hb'', hfj, g0, g1⟩ := KidsAt.at hK1 (i := i - 1) (by omega)
                simp only [Option.some.injEq, Addr.mk.injEq, and_true] at hbo
                obtain ⟨rfl, rfl⟩ := hbo
                generalize hpd : ks.getD (i - 1) dK = pd at g0 g1 HKO
                clear hpd hK1
                obtain ⟨k1, hk1⟩ : ∃ k1, k1 = i - 1 := ⟨_, rfl⟩
                rw [← hk1] at g0
                have i2 : (i : Int) - 1 = (k1 : Int) := by omega
                have i1 : k1 < n := by omega
                have i3 : IntKind.i64.wrap (k1 : Int) = (k1 : Int) := by rw [IntKind.wrap_i64]; omega
                have s4 : decide ((0 : Int) < (i : Int)) = true := by simp; omega
                clear hk1
                by_cases t2 : keyB kd.1 = true
                · by_cases t5 : geB pd.1 kd.1 = true
                  · have HB : Hid (kidsOk low last ks = false) := all_range_false (k := i) (by omega) (by rw [HKO.out]; simp [t2, t4, t5])
                    have s5 : Op.bytesLess pd.1.toList kd.1.toList = false := by simpa [geB] using t5
                    go_wp2_with fail
                    go_quiet ((go_at_call 132; exact Calls.quiet_of_same (isKey_any _ hfk.1 _)))
                    go_wp2
                    go_ret
                    exact ⟨by rw [HD.out, HSE.out, HB.out]; rfl, hbq _⟩
                  · have HB : Hid ((List.range (i + 1)).all (kidOk low last ks) = true) := all_range_succ hok.out (by rw [HKO.out]; simp [t1, t2, t5])
                    have s5 : Op.bytesLess pd.1.toList kd.1.toList = true := by simpa [geB] using t5
                    go_wp2_with fail
                    go_quiet ((go_at_call 132; exact Calls.quiet_of_same (isKey_any _ hfk.1 _)))
                    go_wp2
                    go_roundw
                    case rel => exact ⟨i + 1, by omega, by go_num, HB, hbq _, HSPq _⟩
                    case measure => simp [intOf]; omega
                · have HB : Hid (kidsOk low last ks = false) := all_range_false (k := i) (by omega) (by rw [HKO.out]; simp [t2, t4])
                  have t2' : keyB kd.1 = false := by simpa using t2
                  go_wp2_with fail
                  go_quiet ((go_at_call 132; exact Calls.quiet_of_same (isKey_any _ hfk.1 _)))
                  go_wp2
                  go_ret
                  exact ⟨by rw [HD.out, HSE.out, HB.out]; rfl, hbq _⟩
              · have HB : Hid ((List.range (i + 1)).all (kidOk low last ks) = true) := all_range_succ hok.out (by rw [HKO.out]; simp [t1, t4])
                have s4 : decide ((0 : Int) < (i : Int)) = false := by simp; omega
                clear hK1
                go_wp2_with fail
                go_quiet ((go_at_call 132; exact Calls.quiet_of_same (isKey_any _ hfk.1 _)))
                go_wp2
                go_roundw
                case rel => exact ⟨i + 1, by omega, by go_num, HB, hbq _, HSPq _⟩
                case measure => simp [intOf]; omega
            · have t1' : inB low last kd.2 = false := by simpa using t1
              have HB : Hid (kidsOk low last ks = false) := all_range_false (k := i) (by omega) (by rw [HKO.out]; simp [t1'])
              clear hK1
              go_wp2
              go_ret
              exact ⟨by rw [HD.out, HSE.out, HB.out]; rfl, hbq 0⟩
          · have HB : Hid (kidsOk low last ks = true) := by have := hok.out; rw [show i = n by omega, ← HL.out] at this; exact this
            go_wp2
            go_ret
            exact ⟨by rw [HD.out, HSE.out, HB.out]; rfl, hbel⟩
      · have hse2 : s0.toList.isEmpty = false := by simp [hse]
        go_enter Try.func129, Try.ntmps129
        go_wp2
        go_ret
        refine ⟨?_, (Below.refl _ _).alloc (Nat.le_refl _) _⟩
        rw [HD.out, hse2]
        rfl
end Go.Proofs.Ytcmhobbpeaeebaa
