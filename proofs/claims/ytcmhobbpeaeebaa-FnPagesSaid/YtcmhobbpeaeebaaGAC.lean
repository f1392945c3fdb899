import Derived.Test.YtcmhobbpeaeebaaGAA
import Derived.Test.YtcmhobbpeaeebaaGAB
import Derived.Deep.RegionHeld3
namespace Go.Proofs.Ytcmhobbpeaeebaa
open Go.RowKit
set_option linter.unusedVariables false
set_option maxRecDepth 100000

theorem box_slice {w : World} {N : Nat} {v0 v1 v2 v3 v4 v5 v6 v7 v8 : Value} {t : TypeId} (h : w.heap[N]? = some (.cells #[v0, v1, v2, v3, v4, v5, v6, v7, v8] t)) : w.cell? ⟨N, 5, none⟩ = some v5 ∧ w.cell? ⟨N, 6, none⟩ = some v6 ∧ w.cell? ⟨N, 0, none⟩ = some v0 ∧ w.cell? ⟨N, 2, none⟩ = some v2 ∧ w.cell? ⟨N, 3, none⟩ = some v3 ∧ w.cell? ⟨N, 4, none⟩ = some v4 ∧ w.cell? ⟨N, 7, none⟩ = some v7 ∧ w.cell? ⟨N, 8, none⟩ = some v8 ∧ w.cell? ⟨N, 1, none⟩ = some v1 := by
  refine ⟨?_, ?_, ?_, ?_, ?_, ?_, ?_, ?_, ?_⟩ <;> simp [World.cell?, h]
theorem below_dn2 {S : Nat} {w wr : World} {o : Obj} {q : Nat} (h : Below S w wr) (hS : S ≤ wr.heap.size) : Below S w ((wr.alloc o).drewN q) :=
  (h.alloc hS o).trans ⟨rfl, rfl, rfl, Nat.le_refl _, fun _ _ => rfl⟩

set_option maxHeartbeats 4000000 in
theorem l2Body_leaf1 (tx : Int) (ka : Option Addr) (kc : Nat) (es : List PE) (n : Nat) (ea : Option Addr) (ec : Nat) (data : ByteArray) (low last : Int) (hlow : 1 ≤ low) (w : World) (A B : Nat) (hB : B ≤ w.heap.size) (hE : EntsAt w A B ea n ec es) (hd : data.toList = []) (h4 : n ≤ 4) :
    Calls Try.prog 39 #[.agg #[.int .i64 3, .int .i64 tx, .int .i64 0, .int .i64 0, .int .i64 0, .slice ka 0 kc, .slice ea n ec, .int .i64 0, .string data], .int .i64 low, .int .i64 last] w fun e w' => e = .returned (.bool (entsOk low last es)) ∧ Below w.heap.size w w' := by
  have hb0 : Below w.heap.size w (w.alloc (.cells #[.int .i64 3, .int .i64 tx, .int .i64 0, .int .i64 0, .int .i64 0, .slice ka 0 kc, .slice ea n ec, .int .i64 0, .string data] 28)) := (Below.refl _ _).alloc (Nat.le_refl _) _
  have HL : Hid (es.length = n) := hE.1
  go_enter Try.func39, Try.ntmps39
  go_wp2_with fail
  go_loopw [9] (fun i wr => ∃ k : Nat, k ≤ n ∧ i = .int .i64 k ∧ Hid ((List.range k).all (entOk low last es) = true) ∧ Below w.heap.size w wr ∧ Hid (wr.heap[w.heap.size]? = some (.cells #[.int .i64 3, .int .i64 tx, .int .i64 0, .int .i64 0, .int .i64 0, .slice ka 0 kc, .slice ea n ec, .int .i64 0, .string data] 28))) (fun i _ => n - (intOf i).toNat)
  case atStart => exact ⟨0, Nat.zero_le _, rfl, rfl, hb0, heap_alloc_new w _⟩
  case round =>
    clear hb0
    obtain ⟨k, hk, rfl, hok, hbel, hbox⟩ := hrel
    have x6 := (box_slice hbox.out).2.1
    by_cases hlt : k < n
    · obtain ⟨b, off, rfl, hb, hfk, f0, f1, f2, f3⟩ := EntsAt.at (hE.below (hbel.mono hB)) (i := k) hlt
      have HEO : Hid (entOk low last es k = (keyB (es.getD k dE).1 && (shortB (es.getD k dE) || longB low last (es.getD k dE)) && !(decide (0 < k) && geB (es.getD (k - 1) dE).1 (es.getD k dE).1))) := rfl
      have hnk : n ≤ es.length := by have := HL.out; omega
      have hbk : b < wr.heap.size := by have := hbel.size; omega
      have hwl : w.heap.size < wr.heap.size := (Array.getElem?_eq_some_iff.1 hbox.out).1
      have HBX : Hid (∀ o q, ((wr.alloc o).drewN q).heap[w.heap.size]? = some (.cells #[.int .i64 3, .int .i64 tx, .int .i64 0, .int .i64 0, .int .i64 0, .slice ka 0 kc, .slice (some ⟨b, off, none⟩) n ec, .int .i64 0, .string data] 28)) := fun o q => (Below.heap_alloc _ _ _ (Array.getElem?_eq_some_iff.1 hbox.out).1).trans hbox.out
      have hE2 := hE.below (hbel.mono hB)
      clear hE
      generalize hkd : es.getD k dE = kd at f0 f1 f2 f3 HEO hfk
      clear hkd
      have hv := hfk.2.1
      unfold maxLen at hv
      by_cases t1 : kd.2.2.1 = 0
      · have s1 : (kd.2.2.1 == 0) = true := by simpa using t1
        have l1 : decide (low ≤ kd.2.2.1 ∧ kd.2.2.1 ≤ last) = false := decide_eq_false (by omega)
        have LB : longB low last kd = false := by simp [longB, inB]; omega
        by_cases t2 : kd.2.2.2 = (kd.2.1.size : Int)
        · have s2 : (kd.2.2.2 == (kd.2.1.size : Int)) = true := by simpa using t2
          by_cases t3 : kd.2.1.size ≤ 8
          · have s3 : decide ((kd.2.1.size : Int) ≤ 8) = true := by simp; omega
            have SB : shortB kd = true := by simp [shortB, t1, t2, t3]
            clear t1 t2 t3
            by_cases tk : keyB kd.1 = true
            · by_cases t4 : 0 < k
              · obtain ⟨b'', off'', hbo, hb'', hfj, g0, _⟩ := EntsAt.at hE2 (i := k - 1) (by omega)
                simp only [Option.some.injEq, Addr.mk.injEq, and_true] at hbo
                obtain ⟨rfl, rfl⟩ := hbo
                generalize hpd : es.getD (k - 1) dE = pd at g0 HEO
                clear hpd
                obtain ⟨k1, hk1⟩ : ∃ k1, k1 = k - 1 := ⟨_, rfl⟩
                rw [← hk1] at g0
                have i2 : (k : Int) - 1 = (k1 : Int) := by omega
                have i1 : k1 < n := by omega
                have i3 : IntKind.i64.wrap (k1 : Int) = (k1 : Int) := by rw [IntKind.wrap_i64]; omega
                have s4 : decide ((0 : Int) < (k : Int)) = true := by simp; omega
                clear hk1
                by_cases t5 : geB pd.1 kd.1 = true
                · have s5 : Op.bytesLess pd.1.toList kd.1.toList = false := by simpa [geB] using t5
                  have HB : Hid (entsOk low last es = false) := all_range_false (k := k) (by omega) (by rw [HEO.out]; simp [SB, tk, t4, t5])
                  clear HEO hE2
                  go_wp2_with (go_at_call 38; refine (l1In_any _ _ _ _).mono ?_; rintro e w1 ⟨rfl, rfl⟩)
                  go_quiet (first | (go_at_call 38; exact Calls.quiet_of_same (l1In_any _ _ _ _)) | (go_at_call 78; exact Calls.quiet_of_same (l2Key_any _ hfk.1 _)))
                  go_wp2
                  go_ret
                  exact ⟨by rw [HB.out]; rfl, below_dn2 hbel hbel.size⟩
                · have s5 : Op.bytesLess pd.1.toList kd.1.toList = true := by simpa [geB] using t5
                  have HB : Hid ((List.range (k + 1)).all (entOk low last es) = true) := all_range_succ hok.out (by rw [HEO.out]; simp [SB, tk, t5])
                  clear HEO hE2
                  go_wp2_with (go_at_call 38; refine (l1In_any _ _ _ _).mono ?_; rintro e w1 ⟨rfl, rfl⟩)
                  go_quiet (first | (go_at_call 38; exact Calls.quiet_of_same (l1In_any _ _ _ _)) | (go_at_call 78; exact Calls.quiet_of_same (l2Key_any _ hfk.1 _)))
                  go_wp2
                  go_roundw
                  case rel => exact ⟨k + 1, by omega, by go_num, HB, below_dn2 hbel hbel.size, HBX.out _ _⟩
                  case measure => simp [intOf]; omega
              · have s4 : decide ((0 : Int) < (k : Int)) = false := by simp; omega
                have HB : Hid ((List.range (k + 1)).all (entOk low last es) = true) := all_range_succ hok.out (by rw [HEO.out]; simp [SB, tk, t4])
                clear HEO hE2
                go_wp2_with (go_at_call 38; refine (l1In_any _ _ _ _).mono ?_; rintro e w1 ⟨rfl, rfl⟩)
                go_quiet (first | (go_at_call 38; exact Calls.quiet_of_same (l1In_any _ _ _ _)) | (go_at_call 78; exact Calls.quiet_of_same (l2Key_any _ hfk.1 _)))
                go_wp2
                go_roundw
                case rel => exact ⟨k + 1, by omega, by go_num, HB, below_dn2 hbel hbel.size, HBX.out _ _⟩
                case measure => simp [intOf]; omega
            · have tk' : keyB kd.1 = false := by simpa using tk
              have HB : Hid (entsOk low last es = false) := all_range_false (k := k) (by omega) (by rw [HEO.out]; simp [tk])
              clear HEO hE2
              go_wp2_with (go_at_call 38; refine (l1In_any _ _ _ _).mono ?_; rintro e w1 ⟨rfl, rfl⟩)
              go_quiet (first | (go_at_call 38; exact Calls.quiet_of_same (l1In_any _ _ _ _)) | (go_at_call 78; exact Calls.quiet_of_same (l2Key_any _ hfk.1 _)))
              go_wp2
              go_ret
              exact ⟨by rw [HB.out]; rfl, below_dn2 hbel hbel.size⟩
          · have s3 : decide ((kd.2.1.size : Int) ≤ 8) = false := by simp; omega
            have SB : shortB kd = false := by simp [shortB, t3]
            clear t1 t2 t3
            by_cases tk : keyB kd.1 = true
            · -- the key is good, the value not
              have HB : Hid (entsOk low last es = false) := all_range_false (k := k) (by omega) (by rw [HEO.out]; simp [SB, LB])
              clear HEO hE2
              go_wp2_with (go_at_call 38; refine (l1In_any _ _ _ _).mono ?_; rintro e w1 ⟨rfl, rfl⟩)
              go_quiet (first | (go_at_call 38; exact Calls.quiet_of_same (l1In_any _ _ _ _)) | (go_at_call 78; exact Calls.quiet_of_same (l2Key_any _ hfk.1 _)))
              go_wp2
              go_ret
              exact ⟨by rw [HB.out]; rfl, below_dn2 hbel hbel.size⟩
            · have tk' : keyB kd.1 = false := by simpa using tk
              have HB : Hid (entsOk low last es = false) := all_range_false (k := k) (by omega) (by rw [HEO.out]; simp [tk])
              clear HEO hE2
              go_wp2_with (go_at_call 38; refine (l1In_any _ _ _ _).mono ?_; rintro e w1 ⟨rfl, rfl⟩)
              go_quiet (first | (go_at_call 38; exact Calls.quiet_of_same (l1In_any _ _ _ _)) | (go_at_call 78; exact Calls.quiet_of_same (l2Key_any _ hfk.1 _)))
              go_wp2
              go_ret
              exact ⟨by rw [HB.out]; rfl, below_dn2 hbel hbel.size⟩
        · have s2 : (kd.2.2.2 == (kd.2.1.size : Int)) = false := by simpa using t2
          have SB : shortB kd = false := by simp [shortB, t2]
          clear t1 t2
          by_cases tk : keyB kd.1 = true
          · -- the key is good, the value not
            have HB : Hid (entsOk low last es = false) := all_range_false (k := k) (by omega) (by rw [HEO.out]; simp [SB, LB])
            clear HEO hE2
            go_wp2_with (go_at_call 38; refine (l1In_any _ _ _ _).mono ?_; rintro e w1 ⟨rfl, rfl⟩)
            go_quiet (first | (go_at_call 38; exact Calls.quiet_of_same (l1In_any _ _ _ _)) | (go_at_call 78; exact Calls.quiet_of_same (l2Key_any _ hfk.1 _)))
            go_wp2
            go_ret
            exact ⟨by rw [HB.out]; rfl, below_dn2 hbel hbel.size⟩
          · have tk' : keyB kd.1 = false := by simpa using tk
            have HB : Hid (entsOk low last es = false) := all_range_false (k := k) (by omega) (by rw [HEO.out]; simp [tk])
            clear HEO hE2
            go_wp2_with (go_at_call 38; refine (l1In_any _ _ _ _).mono ?_; rintro e w1 ⟨rfl, rfl⟩)
            go_quiet (first | (go_at_call 38; exact Calls.quiet_of_same (l1In_any _ _ _ _)) | (go_at_call 78; exact Calls.quiet_of_same (l2Key_any _ hfk.1 _)))
            go_wp2
            go_ret
            exact ⟨by rw [HB.out]; rfl, below_dn2 hbel hbel.size⟩
      · have s1 : (kd.2.2.1 == 0) = false := by simpa using t1
        have SB : shortB kd = false := by simp [shortB, t1]
        clear t1
        by_cases a1 : low ≤ kd.2.2.1 ∧ kd.2.2.1 ≤ last
        · have l1 : decide (low ≤ kd.2.2.1 ∧ kd.2.2.1 ≤ last) = true := decide_eq_true a1
          by_cases a2 : kd.2.1.toList = []
          · have l2 : kd.2.1.toList.isEmpty = true := by simp [a2]
            by_cases a3 : 9 ≤ kd.2.2.2 ∧ kd.2.2.2 ≤ 400
            · have l3 : decide ((9 : Int) ≤ kd.2.2.2 ∧ kd.2.2.2 ≤ 400) = true := decide_eq_true a3
              have LB : longB low last kd = true := by simp [longB, inB, a1, a2, a3]
              clear a1 a3
              by_cases tk : keyB kd.1 = true
              · by_cases t4 : 0 < k
                · obtain ⟨b'', off'', hbo, hb'', hfj, g0, _⟩ := EntsAt.at hE2 (i := k - 1) (by omega)
                  simp only [Option.some.injEq, Addr.mk.injEq, and_true] at hbo
                  obtain ⟨rfl, rfl⟩ := hbo
                  generalize hpd : es.getD (k - 1) dE = pd at g0 HEO
                  clear hpd
                  obtain ⟨k1, hk1⟩ : ∃ k1, k1 = k - 1 := ⟨_, rfl⟩
                  rw [← hk1] at g0
                  have i2 : (k : Int) - 1 = (k1 : Int) := by omega
                  have i1 : k1 < n := by omega
                  have i3 : IntKind.i64.wrap (k1 : Int) = (k1 : Int) := by rw [IntKind.wrap_i64]; omega
                  have s4 : decide ((0 : Int) < (k : Int)) = true := by simp; omega
                  clear hk1
                  by_cases t5 : geB pd.1 kd.1 = true
                  · have s5 : Op.bytesLess pd.1.toList kd.1.toList = false := by simpa [geB] using t5
                    have HB : Hid (entsOk low last es = false) := all_range_false (k := k) (by omega) (by rw [HEO.out]; simp [LB, tk, t4, t5])
                    clear HEO hE2
                    go_wp2_with (go_at_call 38; refine (l1In_any _ _ _ _).mono ?_; rintro e w1 ⟨rfl, rfl⟩)
                    go_quiet (first | (go_at_call 38; exact Calls.quiet_of_same (l1In_any _ _ _ _)) | (go_at_call 78; exact Calls.quiet_of_same (l2Key_any _ hfk.1 _)))
                    go_wp2
                    go_ret
                    exact ⟨by rw [HB.out]; rfl, below_dn2 hbel hbel.size⟩
                  · have s5 : Op.bytesLess pd.1.toList kd.1.toList = true := by simpa [geB] using t5
                    have HB : Hid ((List.range (k + 1)).all (entOk low last es) = true) := all_range_succ hok.out (by rw [HEO.out]; simp [LB, tk, t5])
                    clear HEO hE2
                    go_wp2_with (go_at_call 38; refine (l1In_any _ _ _ _).mono ?_; rintro e w1 ⟨rfl, rfl⟩)
                    go_quiet (first | (go_at_call 38; exact Calls.quiet_of_same (l1In_any _ _ _ _)) | (go_at_call 78; exact Calls.quiet_of_same (l2Key_any _ hfk.1 _)))
                    go_wp2
                    go_roundw
                    case rel => exact ⟨k + 1, by omega, by go_num, HB, below_dn2 hbel hbel.size, HBX.out _ _⟩
                    case measure => simp [intOf]; omega
                · have s4 : decide ((0 : Int) < (k : Int)) = false := by simp; omega
                  have HB : Hid ((List.range (k + 1)).all (entOk low last es) = true) := all_range_succ hok.out (by rw [HEO.out]; simp [LB, tk, t4])
                  clear HEO hE2
                  go_wp2_with (go_at_call 38; refine (l1In_any _ _ _ _).mono ?_; rintro e w1 ⟨rfl, rfl⟩)
                  go_quiet (first | (go_at_call 38; exact Calls.quiet_of_same (l1In_any _ _ _ _)) | (go_at_call 78; exact Calls.quiet_of_same (l2Key_any _ hfk.1 _)))
                  go_wp2
                  go_roundw
                  case rel => exact ⟨k + 1, by omega, by go_num, HB, below_dn2 hbel hbel.size, HBX.out _ _⟩
                  case measure => simp [intOf]; omega
              · have tk' : keyB kd.1 = false := by simpa using tk
                have HB : Hid (entsOk low last es = false) := all_range_false (k := k) (by omega) (by rw [HEO.out]; simp [tk])
                clear HEO hE2
                go_wp2_with (go_at_call 38; refine (l1In_any _ _ _ _).mono ?_; rintro e w1 ⟨rfl, rfl⟩)
                go_quiet (first | (go_at_call 38; exact Calls.quiet_of_same (l1In_any _ _ _ _)) | (go_at_call 78; exact Calls.quiet_of_same (l2Key_any _ hfk.1 _)))
                go_wp2
                go_ret
                exact ⟨by rw [HB.out]; rfl, below_dn2 hbel hbel.size⟩
            · have l3 : decide ((9 : Int) ≤ kd.2.2.2 ∧ kd.2.2.2 ≤ 400) = false := decide_eq_false a3
              have LB : longB low last kd = false := by simp [longB, inB, a1, a2]; omega
              clear a1 a3
              by_cases tk : keyB kd.1 = true
              · -- the key is good, the value not
                have HB : Hid (entsOk low last es = false) := all_range_false (k := k) (by omega) (by rw [HEO.out]; simp [SB, LB])
                clear HEO hE2
                go_wp2_with (go_at_call 38; refine (l1In_any _ _ _ _).mono ?_; rintro e w1 ⟨rfl, rfl⟩)
                go_quiet (first | (go_at_call 38; exact Calls.quiet_of_same (l1In_any _ _ _ _)) | (go_at_call 78; exact Calls.quiet_of_same (l2Key_any _ hfk.1 _)))
                go_wp2
                go_ret
                exact ⟨by rw [HB.out]; rfl, below_dn2 hbel hbel.size⟩
              · have tk' : keyB kd.1 = false := by simpa using tk
                have HB : Hid (entsOk low last es = false) := all_range_false (k := k) (by omega) (by rw [HEO.out]; simp [tk])
                clear HEO hE2
                go_wp2_with (go_at_call 38; refine (l1In_any _ _ _ _).mono ?_; rintro e w1 ⟨rfl, rfl⟩)
                go_quiet (first | (go_at_call 38; exact Calls.quiet_of_same (l1In_any _ _ _ _)) | (go_at_call 78; exact Calls.quiet_of_same (l2Key_any _ hfk.1 _)))
                go_wp2
                go_ret
                exact ⟨by rw [HB.out]; rfl, below_dn2 hbel hbel.size⟩
          · have l2 : kd.2.1.toList.isEmpty = false := by simp [a2]
            have LB : longB low last kd = false := by simp [longB, a2]
            clear a1
            by_cases tk : keyB kd.1 = true
            · -- the key is good, the value not
              have HB : Hid (entsOk low last es = false) := all_range_false (k := k) (by omega) (by rw [HEO.out]; simp [SB, LB])
              clear HEO hE2
              go_wp2_with (go_at_call 38; refine (l1In_any _ _ _ _).mono ?_; rintro e w1 ⟨rfl, rfl⟩)
              go_quiet (first | (go_at_call 38; exact Calls.quiet_of_same (l1In_any _ _ _ _)) | (go_at_call 78; exact Calls.quiet_of_same (l2Key_any _ hfk.1 _)))
              go_wp2
              go_ret
              exact ⟨by rw [HB.out]; rfl, below_dn2 hbel hbel.size⟩
            · have tk' : keyB kd.1 = false := by simpa using tk
              have HB : Hid (entsOk low last es = false) := all_range_false (k := k) (by omega) (by rw [HEO.out]; simp [tk])
              clear HEO hE2
              go_wp2_with (go_at_call 38; refine (l1In_any _ _ _ _).mono ?_; rintro e w1 ⟨rfl, rfl⟩)
              go_quiet (first | (go_at_call 38; exact Calls.quiet_of_same (l1In_any _ _ _ _)) | (go_at_call 78; exact Calls.quiet_of_same (l2Key_any _ hfk.1 _)))
              go_wp2
              go_ret
              exact ⟨by rw [HB.out]; rfl, below_dn2 hbel hbel.size⟩
        · have l1 : decide (low ≤ kd.2.2.1 ∧ kd.2.2.1 ≤ last) = false := decide_eq_false a1
          have LB : longB low last kd = false := by simp [longB, inB]; omega
          clear a1
          by_cases tk : keyB kd.1 = true
          · -- the key is good, the value not
            have HB : Hid (entsOk low last es = false) := all_range_false (k := k) (by omega) (by rw [HEO.out]; simp [SB, LB])
            clear HEO hE2
            go_wp2_with (go_at_call 38; refine (l1In_any _ _ _ _).mono ?_; rintro e w1 ⟨rfl, rfl⟩)
            go_quiet (first | (go_at_call 38; exact Calls.quiet_of_same (l1In_any _ _ _ _)) | (go_at_call 78; exact Calls.quiet_of_same (l2Key_any _ hfk.1 _)))
            go_wp2
            go_ret
            exact ⟨by rw [HB.out]; rfl, below_dn2 hbel hbel.size⟩
          · have tk' : keyB kd.1 = false := by simpa using tk
            have HB : Hid (entsOk low last es = false) := all_range_false (k := k) (by omega) (by rw [HEO.out]; simp [tk])
            clear HEO hE2
            go_wp2_with (go_at_call 38; refine (l1In_any _ _ _ _).mono ?_; rintro e w1 ⟨rfl, rfl⟩)
            go_quiet (first | (go_at_call 38; exact Calls.quiet_of_same (l1In_any _ _ _ _)) | (go_at_call 78; exact Calls.quiet_of_same (l2Key_any _ hfk.1 _)))
            go_wp2
            go_ret
            exact ⟨by rw [HB.out]; rfl, below_dn2 hbel hbel.size⟩
    · have HB : Hid (entsOk low last es = true) := by have := hok.out; rw [show k = n by omega, ← HL.out] at this; exact this
      go_wp2
      go_ret
      exact ⟨by rw [HB.out]; rfl, hbel⟩
end Go.Proofs.Ytcmhobbpeaeebaa
namespace Go.Proofs.Ytcmhobbpeaeebaa
open Go.RowKit
set_option linter.unusedVariables false
set_option maxRecDepth 100000

/-- append(v, x...), as one step of a region that draws. -/
theorem step_ab {w : World} {ops : Array Oper} {o : Oper} {a : Act} {K : Act → World → Prop} {Q : Exit → Act → World → Prop} {E : Prop} (hgd : o.guard = none) (s x : Operand)
    (ho : o.op = .call { callee := .builtin .append, args := #[s, x], argTypes := #[22, 22] })
    (base : Nat) (v : Value) (n : Nat) (bs : List Int) (hs : a.eval s = v) (hown : w.ownsRow base 5 1 v n (u8s bs))
    (ad : Option Addr) (m c : Nat) (cs : List Int) (A B : Nat) (hx : a.eval x = .slice ad m c) (hB : BytesAt w A B ad m c cs) (hnm : n + m ≤ 1073741824) (hbase : base ≤ w.heap.size)
    (h : ∀ v' w', w'.ownsRow base 5 1 v' (n + m) (u8s (bs ++ cs)) → w.grownBy w' v.ownBlock → K (a.put o.dst v') w') :
    if Region.wanted o (yielded ops a.tmps) = true then Oper.wp Try.prog o a w K Q else E := by
  obtain ⟨i0, hi, hz0, hz1, hz2⟩ := info_parts info_u8
  obtain ⟨hl, hnc, hc, hw, hcell, hnil⟩ := hB
  rcases ad with _ | ad
  · have hm0 : m = 0 := by
      by_cases h0 : m = 0
      · exact h0
      · obtain ⟨_, _, h1, _⟩ := hcell (by omega); cases h1
    subst hm0
    have hc0 := hnil rfl
    subst hc0
    rw [if_pos (by simp [Region.wanted, hgd])]
    have hrun := run_append_owned_none (P := Try.prog) (w := w) base 22 o.type 5 i0 1 Try.underlying22 hi v n (u8s bs) hown
    unfold Oper.wp
    simp [execOp, ho, resolve, invoke, builtin, hs, hx, hrun, Result.andThen]
    refine h v w ?_ ⟨rfl, rfl, rfl, Nat.le_refl _, fun _ _ _ => rfl⟩
    rw [List.eq_nil_of_length_eq_zero hl, List.append_nil]
    exact hown
  · refine step_append_own hgd s x 22 ho base 5 i0 (.int .u8 0) 1 1 Try.underlying22 hi hz0 hz1 hz2 rfl (by decide) v n (u8s bs) hs hown ad m c (u8s cs) hx (by simp [u8s, hl]) ?_ ?_ (by unfold maxLen; omega) (by omega) hbase ?_
    · intro j u hj
      have hjn : j < m := by
        have := (List.getElem?_eq_some_iff.1 hj).1
        simp [u8s] at this; omega
      obtain ⟨b, off, h1, h2, h3⟩ := hcell (by omega)
      cases h1
      have h4 := h3 j hjn
      have h5 : (⟨b, off, none⟩ : Addr).add j = ⟨b, off + j, none⟩ := by simp [Addr.add]
      rw [h5, h4]
      simp [u8s, List.getElem?_map] at hj
      obtain ⟨y, hy, rfl⟩ := hj
      simp [List.getD, hy]
    · intro u hu; simp [u8s] at hu; obtain ⟨y, _, rfl⟩ := hu; rfl
    · intro v' w' h1 h2
      rw [← u8s_append] at h1
      exact h v' w' h1 h2
/-- append(v, s...), s a string. -/
theorem step_as {w : World} {ops : Array Oper} {o : Oper} {a : Act} {K : Act → World → Prop} {Q : Exit → Act → World → Prop} {E : Prop} (hgd : o.guard = none) (s x : Operand)
    (ho : o.op = .call { callee := .builtin .append, args := #[s, x], argTypes := #[22, 9] })
    (base : Nat) (v : Value) (n : Nat) (bs : List Int) (hs : a.eval s = v) (hown : w.ownsRow base 5 1 v n (u8s bs))
    (t : ByteArray) (hx : a.eval x = .string t) (hnm : n + t.size ≤ 1073741824) (hbase : base ≤ w.heap.size)
    (h : ∀ v' w', w'.ownsRow base 5 1 v' (n + t.size) (u8s (bs ++ strB t)) → w.grownBy w' v.ownBlock → K (a.put o.dst v') w') :
    if Region.wanted o (yielded ops a.tmps) = true then Oper.wp Try.prog o a w K Q else E := by
  obtain ⟨i0, hi, hz0, hz1, hz2⟩ := info_parts info_u8
  rw [if_pos (by simp [Region.wanted, hgd])]
  obtain ⟨v', w', hr, h2, h3, h4⟩ := Lib.run_append_own_string (P := Try.prog) w base 22 9 o.type 5 i0 Try.underlying22 Try.underlying9 hi hz0 hz1 hz2 v n (u8s bs) hown t (by unfold maxLen; omega) (by omega) hbase
  unfold Oper.wp execOp
  simp only [ho, resolve, invoke, builtin, Sem.run_bind, Sem.run_pure, Result.andThen_ok, List.map_toArray, List.map_cons, List.map_nil, hs, hx, hr]
  rw [← u8s_strB, ← u8s_append] at h2
  exact h v' w' h2 h3

/-- Bytes that are gathered, in a row of one's own behind the blocks N and N + 1, which hold what they held. -/
structure Acc (w : World) (N : Nat) (box box2 : Obj) (w' : World) (v : Value) (bs : List Int) : Prop where
  own : w'.ownsRow (N + 2) 5 1 v bs.length (u8s bs)
  box : w'.heap[N]? = some box
  box2 : w'.heap[N + 1]? = some box2
  bel : Below N w w'
section
variable {w w' w'' : World} {N : Nat} {box box2 : Obj} {v v' : Value} {bs cs : List Int}
theorem Acc.lt (h : Acc w N box box2 w' v bs) : N + 1 < w'.heap.size := (Array.getElem?_eq_some_iff.1 h.box2).1
theorem Acc.call (h : Acc w N box box2 w' v bs) (hb : Below w'.heap.size w' w'') : Acc w N box box2 w'' v bs :=
  ⟨owns_below h.own hb, (hb.block N (by have := h.lt; omega)).trans h.box, (hb.block (N + 1) h.lt).trans h.box2, h.bel.trans (hb.mono (by have := h.lt; omega))⟩
theorem Acc.alloc (h : Acc w N box box2 w' v bs) (o : Obj) : Acc w N box box2 (w'.alloc o) v bs := h.call ((Below.refl _ _).alloc (Nat.le_refl _) _)
theorem Acc.drew (h : Acc w N box box2 w' v bs) : Acc w N box box2 w'.drew v bs := h.call (Below.refl _ _).drew
theorem Acc.grown {n : Nat} (h : Acc w N box box2 w' v bs) (ho : w''.ownsRow (N + 2) 5 1 v' n (u8s (bs ++ cs))) (hg : w'.grownBy w'' v.ownBlock) : Acc w N box box2 w'' v' (bs ++ cs) := by
  have hn : n = (bs ++ cs).length := by have := ho.1; simp [u8s] at this; simp; omega
  have hl := h.lt
  exact ⟨hn ▸ ho, (hg.block N (by omega) (fun e => by have := (h.own.lt N e.symm).1; omega)).trans h.box, (hg.block (N + 1) (by omega) (fun e => by have := (h.own.lt (N + 1) e.symm).1; omega)).trans h.box2, h.bel.grown hg (by omega) (fun g e => by have := (h.own.lt g e).1; omega)⟩
/-- Cells below N are as they were. -/
theorem Acc.cell (h : Acc w N box box2 w' v bs) {b o : Nat} (hb : b < N) : w'.cell? ⟨b, o, none⟩ = w.cell? ⟨b, o, none⟩ := h.bel.cell (p := ⟨b, o, none⟩) hb
theorem Acc.row (h : Acc w N box box2 w' v bs) : w'.ownsRow (N + 2) 5 1 v bs.length (u8s bs) := h.own
end
end Go.Proofs.Ytcmhobbpeaeebaa
namespace Go.Proofs.Ytcmhobbpeaeebaa
open Go.RowKit
set_option linter.unusedVariables false
set_option maxRecDepth 100000

def smallW (high : Bool) : Nat := if high then 2 else 4
def metaB (high : Bool) (p : Pg) : List Int := if high then beB 2 p.root ++ beB 4 p.count ++ beB 4 p.id else leB 4 p.id ++ leB 4 p.root ++ leB 4 p.count ++ [67, 79, 87, 50]

theorem beB_byte (n : Nat) (x : Int) : ∀ y ∈ beB n x, 0 ≤ y ∧ y ≤ 255 := numB_byte true n x

theorem box_form {w : World} {N : Nat} {v0 v1 v2 : Value} {t : TypeId} (h : w.heap[N]? = some (.cells #[v0, v1, v2] t)) : w.cell? ⟨N, 0, none⟩ = some v0 ∧ w.cell? ⟨N, 1, none⟩ = some v1 ∧ w.cell? ⟨N, 2, none⟩ = some v2 := by
  refine ⟨?_, ?_, ?_⟩ <;> simp [World.cell?, h]
/-- The state in which the writing of a body begins. -/
theorem acc_start (w : World) (b1 b2 : Obj) : Acc w w.heap.size b1 b2 (((w.alloc b1).alloc b2).alloc (.cells #[] 5)) (.slice (some ⟨w.heap.size + 1 + 1, 0, none⟩) 0 0) [] := by
  refine ⟨?_, ?_, ?_, (((Below.refl _ _).alloc (Nat.le_refl _) _).alloc (by simp) _).alloc (by simp; omega) _⟩
  · have := World.ownsRow_made ((w.alloc b1).alloc b2) #[] (base := w.heap.size + 2) (e := 5) (size := 1) 0 (by simp) (by unfold maxLen; omega) (by simp)
    simpa [u8s] using this
  · show (((w.heap.push b1).push b2).push _)[w.heap.size]? = _
    rw [Array.getElem?_push, if_neg (by simp; omega), Array.getElem?_push, if_neg (by simp), Array.getElem?_push, if_pos rfl]
  · show (((w.heap.push b1).push b2).push _)[w.heap.size + 1]? = _
    rw [Array.getElem?_push, if_neg (by simp), Array.getElem?_push, if_pos (by simp)]

set_option maxHeartbeats 1600000 in
theorem l2WriteBody_metaOld (tx id root count : Int) (hi : I64 id) (hr : I64 root) (hc : I64 count) (ka : Option Addr) (kn kc : Nat) (ea : Option Addr) (en ec : Nat) (next : Int) (data : ByteArray) (w : World) :
    Calls Try.prog 43 #[.agg #[.int .i64 1, .int .i64 tx, .int .i64 id, .int .i64 root, .int .i64 count, .slice ka kn kc, .slice ea en ec, .int .i64 next, .string data], .agg #[.bool true, .int .i64 2, .bool true]] w fun e w' => ∃ v, e = .returned v ∧ w'.ownsRow w.heap.size 5 1 v 10 (u8s (beB 2 root ++ beB 4 count ++ beB 4 id)) ∧ Below w.heap.size w w' := by
  have HA := acc_start w (.cells #[.int .i64 1, .int .i64 tx, .int .i64 id, .int .i64 root, .int .i64 count, .slice ka kn kc, .slice ea en ec, .int .i64 next, .string data] 28) (.cells #[.bool true, .int .i64 2, .bool true] 63)
  go_enter Try.func43, Try.ntmps43
  go_wp2_with fail
  generalize ((w.alloc (.cells #[.int .i64 1, .int .i64 tx, .int .i64 id, .int .i64 root, .int .i64 count, .slice ka kn kc, .slice ea en ec, .int .i64 next, .string data] 28)).alloc (.cells #[.bool true, .int .i64 2, .bool true] 63)).alloc (.cells #[] 5) = W at HA ⊢
  obtain ⟨_, _, _, x2, x3, x4, _⟩ := box_slice HA.box
  go_region_held3 (fun w' => w'.cell? ⟨w.heap.size, 2, none⟩ = some (.int .i64 id) ∧ w'.cell? ⟨w.heap.size, 3, none⟩ = some (.int .i64 root) ∧ w'.cell? ⟨w.heap.size, 4, none⟩ = some (.int .i64 count)) (go_keep)
    (first
      | (refine step_ab rfl _ _ rfl (w.heap.size + 2) v4 _ _ (by simp [Act.eval]) HA5.row a5 4 c5 _ _ _ (by simp [Act.eval]) hB5 (by first | (simp; done) | (simp [numB_len]; done)) (by have := HA5.lt; omega) ?_; intro v6 w6 hO6 hg6; have HA6 := HA5.grown hO6 hg6; obtain ⟨_, _, _, z2, z3, z4, _⟩ := box_slice HA6.box)
      | (go_at_call 40; refine (l2Put_any true id hi 4 (by omega) w4).mono ?_; rintro e w5 ⟨a5, c5, rfl, _, hB5, hb5⟩; have HA5 := HA4.call hb5; obtain ⟨_, _, _, y2, y3, y4, _⟩ := box_slice HA5.box)
      | (refine step_ab rfl _ _ rfl (w.heap.size + 2) v2 _ _ (by simp [Act.eval]) HA3.row a3 4 c3 _ _ _ (by simp [Act.eval]) hB3 (by first | (simp; done) | (simp [numB_len]; done)) (by have := HA3.lt; omega) ?_; intro v4 w4 hO4 hg4; have HA4 := HA3.grown hO4 hg4; obtain ⟨_, _, _, z2, z3, z4, _⟩ := box_slice HA4.box)
      | (go_at_call 40; refine (l2Put_any true count hc 4 (by omega) w2).mono ?_; rintro e w3 ⟨a3, c3, rfl, _, hB3, hb3⟩; have HA3 := HA2.call hb3; obtain ⟨_, _, _, y2, y3, y4, _⟩ := box_slice HA3.box)
      | (refine step_ab rfl _ _ rfl (w.heap.size + 2) _ _ [] (by simp [Act.eval]) HA1.row a1 2 c1 _ _ _ (by simp [Act.eval]) hB1 (by simp) (by have := HA1.lt; omega) ?_; intro v2 w2 hO2 hg2; have HA2 := HA1.grown hO2 hg2; obtain ⟨_, _, _, z2, z3, z4, _⟩ := box_slice HA2.box)
      | (go_at_call 40; refine (l2Put_any true root hr 2 (by omega) W.drew).mono ?_; rintro e w1 ⟨a1, c1, rfl, _, hB1, hb1⟩; have HA1 := HA.drew.call hb1; obtain ⟨_, _, _, y2, y3, y4, _⟩ := box_slice HA1.box))
  have R : Hid (w6.ownsRow w.heap.size 5 1 v6 10 (u8s (beB 2 root ++ beB 4 count ++ beB 4 id))) := by
    have h := owns_base HA6.row (base' := w.heap.size) (by omega)
    have e : ([] ++ numB true 2 root ++ numB true 4 count ++ numB true 4 id) = beB 2 root ++ beB 4 count ++ beB 4 id := rfl
    rw [e] at h
    have el : (beB 2 root ++ beB 4 count ++ beB 4 id).length = 10 := by simp [beB_len]
    rw [el] at h
    exact h
  have RB : Hid (Below w.heap.size w w6) := HA6.bel
  clear HA HA1 HA2 HA3 HA4 HA5 HA6 hB1 hB3 hB5 hb1 hb3 hb5 hO2 hO4 hO6 hg2 hg4 hg6
  go_wp2
  go_ret
  exact ⟨_, rfl, R.out, RB.out⟩

theorem bytesAt_lit4 (w : World) (x0 x1 x2 x3 : Int) (h : ∀ x ∈ [x0, x1, x2, x3], 0 ≤ x ∧ x ≤ 255) : BytesAt (w.alloc (.cells #[.int .u8 x0, .int .u8 x1, .int .u8 x2, .int .u8 x3] 5)) w.heap.size (w.heap.size + 1) (some ⟨w.heap.size, 0, none⟩) 4 4 [x0, x1, x2, x3] := by
  refine ⟨rfl, Nat.le_refl _, by unfold maxLen; omega, h, fun _ => ⟨w.heap.size, 0, rfl, ⟨Nat.le_refl _, Nat.lt_succ_self _⟩, fun i hi => ?_⟩, fun h => by cases h⟩
  match i, hi with
  | 0, _ => simp
  | 1, _ => simp
  | 2, _ => simp
  | 3, _ => simp

set_option maxHeartbeats 1600000 in
theorem l2WriteBody_metaNew (tx id root count : Int) (hi : I64 id) (hr : I64 root) (hc : I64 count) (ka : Option Addr) (kn kc : Nat) (ea : Option Addr) (en ec : Nat) (next : Int) (data : ByteArray) (w : World) :
    Calls Try.prog 43 #[.agg #[.int .i64 1, .int .i64 tx, .int .i64 id, .int .i64 root, .int .i64 count, .slice ka kn kc, .slice ea en ec, .int .i64 next, .string data], .agg #[.bool false, .int .i64 4, .bool false]] w fun e w' => ∃ v, e = .returned v ∧ w'.ownsRow w.heap.size 5 1 v 16 (u8s (leB 4 id ++ leB 4 root ++ leB 4 count ++ [67, 79, 87, 50])) ∧ Below w.heap.size w w' := by
  have HA := acc_start w (.cells #[.int .i64 1, .int .i64 tx, .int .i64 id, .int .i64 root, .int .i64 count, .slice ka kn kc, .slice ea en ec, .int .i64 next, .string data] 28) (.cells #[.bool false, .int .i64 4, .bool false] 63)
  go_enter Try.func43, Try.ntmps43
  go_wp2_with fail
  generalize ((w.alloc (.cells #[.int .i64 1, .int .i64 tx, .int .i64 id, .int .i64 root, .int .i64 count, .slice ka kn kc, .slice ea en ec, .int .i64 next, .string data] 28)).alloc (.cells #[.bool false, .int .i64 4, .bool false] 63)).alloc (.cells #[] 5) = W at HA ⊢
  obtain ⟨_, _, _, x2, x3, x4, _⟩ := box_slice HA.box
  go_region_held3 (fun w' => w'.cell? ⟨w.heap.size, 2, none⟩ = some (.int .i64 id) ∧ w'.cell? ⟨w.heap.size, 3, none⟩ = some (.int .i64 root) ∧ w'.cell? ⟨w.heap.size, 4, none⟩ = some (.int .i64 count)) (go_keep)
    (first
      | (refine step_ab rfl _ _ rfl (w.heap.size + 2) v4 _ _ (by simp [Act.eval]) HA5.row a5 4 c5 _ _ _ (by simp [Act.eval]) hB5 (by first | (simp; done) | (simp [numB_len]; done)) (by have := HA5.lt; omega) ?_; intro v6 w6 hO6 hg6; have HA6 := HA5.grown hO6 hg6; obtain ⟨_, _, _, y2, y3, y4, _⟩ := box_slice HA6.box)
      | (go_at_call 40; refine (l2Put_any false count hc 4 (by omega) w4).mono ?_; rintro e w5 ⟨a5, c5, rfl, _, hB5, hb5⟩; have HA5 := HA4.call hb5; obtain ⟨_, _, _, y2, y3, y4, _⟩ := box_slice HA5.box)
      | (refine step_ab rfl _ _ rfl (w.heap.size + 2) v2 _ _ (by simp [Act.eval]) HA3.row a3 4 c3 _ _ _ (by simp [Act.eval]) hB3 (by first | (simp; done) | (simp [numB_len]; done)) (by have := HA3.lt; omega) ?_; intro v4 w4 hO4 hg4; have HA4 := HA3.grown hO4 hg4; obtain ⟨_, _, _, y2, y3, y4, _⟩ := box_slice HA4.box)
      | (go_at_call 40; refine (l2Put_any false root hr 4 (by omega) w2).mono ?_; rintro e w3 ⟨a3, c3, rfl, _, hB3, hb3⟩; have HA3 := HA2.call hb3; obtain ⟨_, _, _, y2, y3, y4, _⟩ := box_slice HA3.box)
      | (refine step_ab rfl _ _ rfl (w.heap.size + 2) _ _ [] (by simp [Act.eval]) HA1.row a1 4 c1 _ _ _ (by simp [Act.eval]) hB1 (by first | (simp; done) | (simp [numB_len]; done)) (by have := HA1.lt; omega) ?_; intro v2 w2 hO2 hg2; have HA2 := HA1.grown hO2 hg2; obtain ⟨_, _, _, y2, y3, y4, _⟩ := box_slice HA2.box)
      | (go_at_call 40; refine (l2Put_any false id hi 4 (by omega) W.drew).mono ?_; rintro e w1 ⟨a1, c1, rfl, _, hB1, hb1⟩; have HA1 := HA.drew.call hb1; obtain ⟨_, _, _, y2, y3, y4, _⟩ := box_slice HA1.box))
  have e : ([] ++ numB false 4 id ++ numB false 4 root ++ numB false 4 count) = leB 4 id ++ leB 4 root ++ leB 4 count := rfl
  rw [e] at HA6
  have el : (leB 4 id ++ leB 4 root ++ leB 4 count).length = 12 := by simp [leB_len]
  generalize hl : leB 4 id ++ leB 4 root ++ leB 4 count = l at HA6 el ⊢
  have HLL : Hid (leB 4 id ++ leB 4 root ++ leB 4 count = l) := hl
  clear hl
  clear HA HA1 HA2 HA3 HA4 HA5 hB1 hB3 hB5 hb1 hb3 hb5 hO2 hO4 hO6 hg2 hg4 hg6 e
  have hL := bytesAt_lit4 w6 67 79 87 50 (by intro x hx; simp at hx; omega)
  have HA7 := HA6.alloc (.cells #[.int .u8 67, .int .u8 79, .int .u8 87, .int .u8 50] 5)
  have hN := HA6.lt
  go_wp2_with (at_builtin; refine wpList_ab rfl _ _ rfl (w.heap.size + 2) v6 _ l rfl HA7.row _ 4 4 _ _ _ rfl hL (by omega) (by simp; omega) ?_; intro v8 w8 hO8 hg8)
  have HA8 := HA7.grown hO8 hg8
  go_ret
  refine ⟨_, rfl, ?_, HA8.bel⟩
  have h := owns_base HA8.row (base' := w.heap.size) (by omega)
  rw [List.length_append, el] at h
  rw [HLL.out]
  exact h
end Go.Proofs.Ytcmhobbpeaeebaa
namespace Go.Proofs.Ytcmhobbpeaeebaa
open Go.RowKit
set_option linter.unusedVariables false
set_option maxRecDepth 100000

/-- A text with its length ahead. -/
def textB (s : ByteArray) : List Int := (s.size : Int) :: strB s
theorem textB_eq (s : ByteArray) : textB s = [(s.size : Int)] ++ strB s := rfl
theorem u8_in (x : Int) (h : 0 ≤ x ∧ x ≤ 255) : IntKind.u8.wrap x = x := by rw [IntKind.wrap_u8']; omega
theorem BytesAt.grown {w w' : World} {A B : Nat} {a : Option Addr} {n c : Nat} {bs : List Int} {row : Option Nat} (h : BytesAt w A B a n c bs) (hg : w.grownBy w' row) (hB : B ≤ w.heap.size) (hr : ∀ g, row = some g → g < A ∨ B ≤ g) : BytesAt w' A B a n c bs :=
  h.keep fun k h1 h2 => hg.block k (by omega) (fun e => by have := hr k e.symm; omega)

set_option maxHeartbeats 1600000 in
theorem l2WriteBody_over (hi : Bool) (nw : Nat) (hnw : nw ≤ 8) (tx id root count : Int) (ka : Option Addr) (kn kc : Nat) (ea : Option Addr) (en ec : Nat) (next : Int) (hn : I64 next) (data : ByteArray) (hd : data.size ≤ 96) (w : World) :
    Calls Try.prog 43 #[.agg #[.int .i64 4, .int .i64 tx, .int .i64 id, .int .i64 root, .int .i64 count, .slice ka kn kc, .slice ea en ec, .int .i64 next, .string data], .agg #[.bool hi, .int .i64 nw, .bool hi]] w fun e w' => ∃ v n, e = .returned v ∧ w'.ownsRow w.heap.size 5 1 v n (u8s (numB hi nw next ++ textB data)) ∧ Below w.heap.size w w' := by
  have HA := acc_start w (.cells #[.int .i64 4, .int .i64 tx, .int .i64 id, .int .i64 root, .int .i64 count, .slice ka kn kc, .slice ea en ec, .int .i64 next, .string data] 28) (.cells #[.bool hi, .int .i64 nw, .bool hi] 63)
  go_enter Try.func43, Try.ntmps43
  go_wp2_with fail
  generalize ((w.alloc (.cells #[.int .i64 4, .int .i64 tx, .int .i64 id, .int .i64 root, .int .i64 count, .slice ka kn kc, .slice ea en ec, .int .i64 next, .string data] 28)).alloc (.cells #[.bool hi, .int .i64 nw, .bool hi] 63)).alloc (.cells #[] 5) = W at HA ⊢
  obtain ⟨_, _, _, _, _, _, x7, x8, _⟩ := box_slice HA.box
  obtain ⟨f0, f1, _⟩ := box_form HA.box2
  have hwr := u8_in (data.size : Int) (by omega)
  go_region_held3 (fun w' => w'.cell? ⟨w.heap.size, 7, none⟩ = some (.int .i64 next) ∧ w'.cell? ⟨w.heap.size, 8, none⟩ = some (.string data) ∧ w'.cell? ⟨w.heap.size + 1, 0, none⟩ = some (.bool hi) ∧ w'.cell? ⟨w.heap.size + 1, 1, none⟩ = some (.int .i64 nw)) (go_keep)
    (first
      | (refine step_as rfl _ _ rfl (w.heap.size + 2) v4 _ _ (by simp [Act.eval]) HA4.row data (by simp [Act.eval]) (by simp [numB_len]; omega) (by have := HA4.lt; omega) ?_; intro v6 w6 hO6 hg6; have HA6 := HA4.grown hO6 hg6; obtain ⟨_, _, _, _, _, _, y7, y8, _⟩ := box_slice HA6.box; obtain ⟨g0, g1, _⟩ := box_form HA6.box2)
      | (refine step_ab rfl _ _ rfl (w.heap.size + 2) v2 _ _ (by simp [Act.eval]) HA3.row _ 1 1 _ _ _ (by simp [Act.eval]) hB3 (by simp [numB_len]; omega) (by have := HA3.lt; omega) ?_; intro v4 w4 hO4 hg4; have HA4 := HA3.grown hO4 hg4; obtain ⟨_, _, _, _, _, _, y7, y8, _⟩ := box_slice HA4.box; obtain ⟨g0, g1, _⟩ := box_form HA4.box2)
      | (refine step_ab rfl _ _ rfl (w.heap.size + 2) _ _ [] (by simp [Act.eval]) HA1c.row a1 nw c1 _ _ _ (by simp [Act.eval]) hB1 (by simp; omega) (by have := HA1c.lt; omega) ?_; intro v2 w2 hO2 hg2; have HA3 := HA1c.grown hO2 hg2; have hB3 := hBc.grown hg2 (Nat.le_trans (Nat.le_of_eq (by simp)) hb1.size) (fun g e => .inl (HA.drew.own.lt g e).2); obtain ⟨_, _, _, _, _, _, y7, y8, _⟩ := box_slice HA3.box; obtain ⟨g0, g1, _⟩ := box_form HA3.box2)
      | (refine step_ab rfl _ _ rfl (w.heap.size + 2) _ _ [] (by simp [Act.eval]) HA1.row a1 nw c1 _ _ _ (by simp [Act.eval]) hB1 (by simp; omega) (by have := HA1.lt; omega) ?_; intro v2 w2 hO2 hg2; have HA2 := HA1.grown hO2 hg2; have HA3 := HA2.alloc (.cells #[.int .u8 (data.size : Int)] 5); have hB3 := bytesAt_one w2 (data.size : Int) (by omega); obtain ⟨_, _, _, _, _, _, y7, y8, _⟩ := box_slice HA2.box; obtain ⟨g0, g1, _⟩ := box_form HA2.box2)
      | (refine step_ab (w := w1.alloc (.cells #[.int .u8 (data.size : Int)] 5)) rfl _ _ rfl (w.heap.size + 2) _ _ [] (by simp [Act.eval]) (HA1.alloc (.cells #[.int .u8 (data.size : Int)] 5)).row a1 nw c1 _ _ _ (by simp [Act.eval]) (hB1.below ((Below.refl w1.heap.size w1).alloc (Nat.le_refl _) (.cells #[.int .u8 (data.size : Int)] 5))) (by simp; omega) (by have := HA1.lt; simp; omega) ?_; intro v2 w2 hO2 hg2; have HA3 := (HA1.alloc (.cells #[.int .u8 (data.size : Int)] 5)).grown hO2 hg2; have hB3 := (bytesAt_one w1 (data.size : Int) (by omega)).grown hg2 (by simp) (fun g e => by have := (HA1.own.lt g e).2; omega); obtain ⟨_, _, _, _, _, _, y7, y8, _⟩ := box_slice HA3.box; obtain ⟨g0, g1, _⟩ := box_form HA3.box2)
      | (go_at_call 40; refine (l2Put_any hi next hn nw hnw W.drew).mono ?_; rintro e w1 ⟨a1, c1, rfl, _, hB1, hb1⟩; have HA1 := HA.drew.call hb1; obtain ⟨_, _, _, _, _, _, y7, y8, _⟩ := box_slice HA1.box; obtain ⟨g0, g1, _⟩ := box_form HA1.box2)
      | (go_at_call 40; refine (l2Put_any hi next hn nw hnw (W.drew.alloc (.cells #[.int .u8 (data.size : Int)] 5))).mono ?_; rintro e w1 ⟨a1, c1, rfl, _, hB1, hb1⟩; have HA1c := (HA.drew.alloc (.cells #[.int .u8 (data.size : Int)] 5)).call hb1; have hBc := (bytesAt_one W.drew (data.size : Int) (by omega)).below (hb1.mono (by simp)); obtain ⟨_, _, _, _, _, _, y7, y8, _⟩ := box_slice HA1c.box; obtain ⟨g0, g1, _⟩ := box_form HA1c.box2))
  all_goals
    have R : Hid (∃ n, w6.ownsRow w.heap.size 5 1 v6 n (u8s (numB hi nw next ++ textB data))) := by
      have h := owns_base HA6.row (base' := w.heap.size) (by omega)
      rw [textB_eq, ← List.append_assoc]
      exact ⟨_, h⟩
    have RB : Hid (Below w.heap.size w w6) := HA6.bel
    clear HA HA3 HA4 HA6 hB1 hB3 hb1 hO2 hO4 hO6 hg2 hg4 hg6
    go_wp2
    go_ret
    obtain ⟨n, hn⟩ := R.out
    exact ⟨_, n, rfl, hn, RB.out⟩
end Go.Proofs.Ytcmhobbpeaeebaa
namespace Go.Proofs.Ytcmhobbpeaeebaa
open Go.RowKit
set_option linter.unusedVariables false
set_option maxRecDepth 100000

def kidB (hi : Bool) (nw i : Nat) (k : PK) : List Int := (if 0 < i then textB k.1 else []) ++ numB hi nw k.2
def kidsB (hi : Bool) (nw : Nat) (ks : List PK) : Nat → List Int
  | 0 => []
  | i + 1 => kidsB hi nw ks i ++ kidB hi nw i (ks.getD i dK)
theorem textB_len (s : ByteArray) : (textB s).length = s.size + 1 := by simp [textB, strB_len]

set_option maxHeartbeats 1600000 in
theorem l2WriteBody_branch (hi : Bool) (nw : Nat) (hnw : nw ≤ 8) (tx id root count : Int) (ka : Option Addr) (n kc : Nat) (ks : List PK) (ea : Option Addr) (en ec : Nat) (next : Int) (data : ByteArray) (w : World) (A B : Nat) (hB : B ≤ w.heap.size) (hK : KidsAt w A B ka n kc ks) (hn : n ≤ 4) (hs : ∀ i, i < n → 0 < i → (ks.getD i dK).1.size ≤ 8) :
    Calls Try.prog 43 #[.agg #[.int .i64 2, .int .i64 tx, .int .i64 id, .int .i64 root, .int .i64 count, .slice ka n kc, .slice ea en ec, .int .i64 next, .string data], .agg #[.bool hi, .int .i64 nw, .bool hi]] w fun e w' => ∃ v m, e = .returned v ∧ w'.ownsRow w.heap.size 5 1 v m (u8s (kidsB hi nw ks n)) ∧ Below w.heap.size w w' := by
  have HA := acc_start w (.cells #[.int .i64 2, .int .i64 tx, .int .i64 id, .int .i64 root, .int .i64 count, .slice ka n kc, .slice ea en ec, .int .i64 next, .string data] 28) (.cells #[.bool hi, .int .i64 nw, .bool hi] 63)
  go_enter Try.func43, Try.ntmps43
  go_wp2_with fail
  generalize ((w.alloc (.cells #[.int .i64 2, .int .i64 tx, .int .i64 id, .int .i64 root, .int .i64 count, .slice ka n kc, .slice ea en ec, .int .i64 next, .string data] 28)).alloc (.cells #[.bool hi, .int .i64 nw, .bool hi] 63)).alloc (.cells #[] 5) = W at HA ⊢
  go_loopw [5, 6] (fun v i wr => ∃ k : Nat, k ≤ n ∧ i = .int .i64 k ∧ Hid (Acc w w.heap.size (.cells #[.int .i64 2, .int .i64 tx, .int .i64 id, .int .i64 root, .int .i64 count, .slice ka n kc, .slice ea en ec, .int .i64 next, .string data] 28) (.cells #[.bool hi, .int .i64 nw, .bool hi] 63) wr v (kidsB hi nw ks k)) ∧ Hid ((kidsB hi nw ks k).length ≤ 20 * k)) (fun _ i _ => n - (intOf i).toNat)
  case atStart => exact ⟨0, Nat.zero_le _, rfl, HA, Nat.le_refl _⟩
  case round =>
    clear HA
    obtain ⟨k, hk, rfl, HA, HLen⟩ := hrel
    obtain ⟨x5, _⟩ := box_slice HA.out.box
    by_cases hlt : k < n
    · obtain ⟨b, off, rfl, hb, hfk, e0, e1⟩ := KidsAt.at hK (i := k) hlt
      have hs' := hs k hlt
      have HK : Hid (kidsB hi nw ks (k + 1) = kidsB hi nw ks k ++ kidB hi nw k (ks.getD k dK)) := rfl
      generalize ks.getD k dK = kd at e0 e1 hfk hs' HK
      have E0 : Hid (w.cell? ⟨b, off + k * 2, none⟩ = some (.string kd.1)) := e0
      have E1 : Hid (w.cell? ⟨b, off + k * 2 + 1, none⟩ = some (.int .i64 kd.2)) := e1
      have hpg : I64 kd.2 := hfk.2
      generalize kidsB hi nw ks k = l at HA HLen HK
      have hl := HLen.out
      have hbn : b < w.heap.size := by omega
      have q0 := (HA.out.cell hbn).trans E0.out
      have q1 := (HA.out.cell hbn).trans E1.out
      clear e0 e1
      clear hK hs
      have hN := HA.out.lt
      obtain ⟨f0, f1, _⟩ := box_form HA.out.box2
      by_cases h0 : 0 < k
      · have hsz := hs' h0
        have hwr := u8_in (kd.1.size : Int) (by omega)
        have s4 : decide ((0 : Int) < (k : Int)) = true := by simp; omega
        clear hs'
        go_wp2_with fail
        have HA1 := HA.out.drew.alloc (.cells #[.int .u8 (kd.1.size : Int)] 5)
        have hB1 := bytesAt_one wr.drew (kd.1.size : Int) (by omega)
        go_region_held3 (fun w' => w'.cell? ⟨w.heap.size, 5, none⟩ = some (.slice (some ⟨b, off, none⟩) n kc) ∧ w'.cell? ⟨b, off + k * 2, none⟩ = some (.string kd.1) ∧ w'.cell? ⟨b, off + k * 2 + 1, none⟩ = some (.int .i64 kd.2) ∧ w'.cell? ⟨w.heap.size + 1, 0, none⟩ = some (.bool hi) ∧ w'.cell? ⟨w.heap.size + 1, 1, none⟩ = some (.int .i64 nw)) (go_keep)
          (first
            | (refine step_as rfl _ _ rfl (w.heap.size + 2) v2 _ _ (by simp [Act.eval]) HA2.row kd.1 (by simp [Act.eval]) (by simp; omega) (by have := HA2.lt; omega) ?_; intro v4 w4 hO4 hg4; have HA4 := HA2.grown hO4 hg4; obtain ⟨y5, _⟩ := box_slice HA4.box; obtain ⟨g0, g1, _⟩ := box_form HA4.box2; have r0 := (HA4.cell hbn).trans E0.out; have r1 := (HA4.cell hbn).trans E1.out)
            | (refine step_ab rfl _ _ rfl (w.heap.size + 2) u5 _ l (by simp [Act.eval]) HA1.row _ 1 1 _ _ _ (by simp [Act.eval]) hB1 (by omega) HA1.lt ?_; intro v2 w2 hO2 hg2; have HA2 := HA1.grown hO2 hg2; obtain ⟨y5, _⟩ := box_slice HA2.box; obtain ⟨g0, g1, _⟩ := box_form HA2.box2; have r0 := (HA2.cell hbn).trans E0.out; have r1 := (HA2.cell hbn).trans E1.out))
        clear HA1 HA2 hB1 hO2 hg2 hO4 hg4
        go_wp2_with fail
        go_region_held3 (fun w' => w'.cell? ⟨w.heap.size, 5, none⟩ = some (.slice (some ⟨b, off, none⟩) n kc) ∧ w'.cell? ⟨b, off + k * 2, none⟩ = some (.string kd.1) ∧ w'.cell? ⟨b, off + k * 2 + 1, none⟩ = some (.int .i64 kd.2) ∧ w'.cell? ⟨w.heap.size + 1, 0, none⟩ = some (.bool hi) ∧ w'.cell? ⟨w.heap.size + 1, 1, none⟩ = some (.int .i64 nw)) (go_keep)
          (first
            | (refine step_ab rfl _ _ rfl (w.heap.size + 2) v4 _ _ (by simp [Act.eval]) HA5.row a5 nw c5 _ _ _ (by simp [Act.eval]) hB5 (by simp [strB_len]; omega) HA5.lt ?_; intro v6 w6 hO6 hg6; have HA6 := HA5.grown hO6 hg6; obtain ⟨y5, _⟩ := box_slice HA6.box; obtain ⟨g0, g1, _⟩ := box_form HA6.box2; have r0 := (HA6.cell hbn).trans E0.out; have r1 := (HA6.cell hbn).trans E1.out)
            | (go_at_call 40; refine (l2Put_any hi kd.2 hpg nw hnw w4.drew).mono ?_; rintro e w5 ⟨a5, c5, rfl, _, hB5, hb5⟩; have HA5 := HA4.drew.call hb5; obtain ⟨y5, _⟩ := box_slice HA5.box; obtain ⟨g0, g1, _⟩ := box_form HA5.box2; have r0 := (HA5.cell hbn).trans E0.out; have r1 := (HA5.cell hbn).trans E1.out))
        have R : Hid (Acc w w.heap.size (.cells #[.int .i64 2, .int .i64 tx, .int .i64 id, .int .i64 root, .int .i64 count, .slice (some ⟨b, off, none⟩) n kc, .slice ea en ec, .int .i64 next, .string data] 28) (.cells #[.bool hi, .int .i64 nw, .bool hi] 63) w6 v6 (kidsB hi nw ks (k + 1))) := by
          rw [show kidsB hi nw ks (k + 1) = _ from HK.out, kidB, if_pos h0, textB_eq, ← List.append_assoc, ← List.append_assoc]
          exact HA6
        have RL : Hid ((kidsB hi nw ks (k + 1)).length ≤ 20 * (k + 1)) := by
          show _ ≤ _
          rw [HK.out, kidB]
          simp [numB_len]
          split <;> simp [textB_len] <;> omega
        clear HA5 HA6 hB5 hb5 hO6 hg6
        go_wp2
        go_roundw
        case rel => exact ⟨k + 1, by omega, by go_num, R, RL⟩
        case measure => simp [intOf]; omega
      · have s4 : decide ((0 : Int) < (k : Int)) = false := by simp; omega
        clear hs'
        go_wp2_with fail
        go_region_held3 (fun w' => w'.cell? ⟨w.heap.size, 5, none⟩ = some (.slice (some ⟨b, off, none⟩) n kc) ∧ w'.cell? ⟨b, off + k * 2, none⟩ = some (.string kd.1) ∧ w'.cell? ⟨b, off + k * 2 + 1, none⟩ = some (.int .i64 kd.2) ∧ w'.cell? ⟨w.heap.size + 1, 0, none⟩ = some (.bool hi) ∧ w'.cell? ⟨w.heap.size + 1, 1, none⟩ = some (.int .i64 nw)) (go_keep)
          (first
            | (refine step_ab rfl _ _ rfl (w.heap.size + 2) u5 _ _ (by simp [Act.eval]) HA5.row a5 nw c5 _ _ _ (by simp [Act.eval]) hB5 (by omega) HA5.lt ?_; intro v6 w6 hO6 hg6; have HA6 := HA5.grown hO6 hg6; obtain ⟨y5, _⟩ := box_slice HA6.box; obtain ⟨g0, g1, _⟩ := box_form HA6.box2; have r0 := (HA6.cell hbn).trans E0.out; have r1 := (HA6.cell hbn).trans E1.out)
            | (go_at_call 40; refine (l2Put_any hi kd.2 hpg nw hnw wr.drew).mono ?_; rintro e w5 ⟨a5, c5, rfl, _, hB5, hb5⟩; have HA5 := HA.out.drew.call hb5; obtain ⟨y5, _⟩ := box_slice HA5.box; obtain ⟨g0, g1, _⟩ := box_form HA5.box2; have r0 := (HA5.cell hbn).trans E0.out; have r1 := (HA5.cell hbn).trans E1.out))
        have R : Hid (Acc w w.heap.size (.cells #[.int .i64 2, .int .i64 tx, .int .i64 id, .int .i64 root, .int .i64 count, .slice (some ⟨b, off, none⟩) n kc, .slice ea en ec, .int .i64 next, .string data] 28) (.cells #[.bool hi, .int .i64 nw, .bool hi] 63) w6 v6 (kidsB hi nw ks (k + 1))) := by
          rw [show kidsB hi nw ks (k + 1) = _ from HK.out, kidB, if_neg h0, List.nil_append]
          exact HA6
        have RL : Hid ((kidsB hi nw ks (k + 1)).length ≤ 20 * (k + 1)) := by
          show _ ≤ _
          rw [HK.out, kidB]
          simp [numB_len]
          split <;> simp [textB_len] <;> omega
        clear HA5 HA6 hB5 hb5 hO6 hg6
        go_wp2
        go_roundw
        case rel => exact ⟨k + 1, by omega, by go_num, R, RL⟩
        case measure => simp [intOf]; omega
    · go_wp2
      go_ret
      obtain rfl : k = n := by omega
      exact ⟨_, _, rfl, owns_base HA.out.row (by omega), HA.out.bel⟩
end Go.Proofs.Ytcmhobbpeaeebaa
