import Derived.Test.YtcmhobbpeaeebaaPgB4
namespace Go.Proofs.Ytcmhobbpeaeebaa
open Go.RowKit
set_option linter.unusedVariables false
set_option maxRecDepth 100000

theorem box_slice {w : World} {N : Nat} {v0 v1 v2 v3 v4 v5 v6 v7 v8 : Value} {t : TypeId} (h : w.heap[N]? = some (.cells #[v0, v1, v2, v3, v4, v5, v6, v7, v8] t)) : w.cell? ⟨N, 5, none⟩ = some v5 ∧ w.cell? ⟨N, 6, none⟩ = some v6 ∧ w.cell? ⟨N, 0, none⟩ = some v0 ∧ w.cell? ⟨N, 2, none⟩ = some v2 ∧ w.cell? ⟨N, 3, none⟩ = some v3 ∧ w.cell? ⟨N, 4, none⟩ = some v4 ∧ w.cell? ⟨N, 7, none⟩ = some v7 ∧ w.cell? ⟨N, 8, none⟩ = some v8 ∧ w.cell? ⟨N, 1, none⟩ = some v1 := by
  refine ⟨?_, ?_, ?_, ?_, ?_, ?_, ?_, ?_, ?_⟩ <;> simp [World.cell?, h]
theorem below_dn2 {S : Nat} {w wr : World} {o : Obj} {q : Nat} (h : Below S w wr) (hS : S ≤ wr.heap.size) : Below S w ((wr.alloc o).drewN q) :=
  (h.alloc hS o).trans ⟨rfl, rfl, rfl, Nat.le_refl _, fun _ _ => rfl⟩

set_option maxHeartbeats 4000000 in
theorem l2Body_leaf1 (tx : Int) (ka : Option Addr) (kc : Nat) (es : List PE) (n : Nat) (ea : Option Addr) (ec : Nat) (data : ByteArray) (low last : Int) (hlow : 1 ≤ low) (w : World) (A B : Nat) (hB : B ≤ w.heap.size) (hE : EntsAt w A B ea n ec es) (hd : data.toList = []) (h4 : n ≤ 4) :
    Calls Try.prog 39 #[.agg #[.int .i64 3, .int .i64 tx, .int .i64 0, .int .i64 0, .int .i64 0, .slice ka 0 kc, .slice ea n ec, .int .i64 0, .string data], .int .i64 low, .int .i64 last] w fun e w' => e = .returned (.bool (entsOk low last es)) ∧ Below w.heap.size w w' := by
  have hb0 : Below w.heap.size w (w.alloc (.cells #[.int .i64 3, .int .i64 tx, .int .i64 0, .int .i64 0, .int .i64 0, .slice ka 0 kc, .slice ea n ec, .int .i64 0, .string data] 28)) := (Below.refl _ _).alloc (Nat.le_refl _) _
  have HL : Hid (es.length = n) := hE.1
  go_enter Try.func39, Try.ntmps39
  go_wp2_with fail
  go_loopw [9] (fun i wr => ∃ k : Nat, k ≤ n ∧ i = .int .i64 k ∧ Hid ((List.range k).all (entOk low last es) = true) ∧ Below w.heap.size w wr ∧ Hid (wr.heap[w.heap.size]? = some (.cells #[.int .i64 3, .int .i64 tx, .int .i64 0, .int .i64 0, .int .i64 0, .slice ka 0 kc, .slice ea n ec, .int .i64 0, .string data] 28))) (fun i _ => n - (intOf i).toNat)
  case atStart => exact ⟨0, Nat.zero_le _, rfl, rfl, hb0, heap_alloc_new w _⟩
  case round =>
    clear hb0
    obtain ⟨k, hk, rfl, hok, hbel, hbox⟩ := hrel
    have x6 := (box_slice hbox.out).2.1
    by_cases hlt : k < n
    · obtain ⟨b, off, rfl, hb, hfk, f0, f1, f2, f3⟩ := EntsAt.at (hE.below (hbel.mono hB)) (i := k) hlt
      have HEO : Hid (entOk low last es k = (keyB (es.getD k dE).1 && (shortB (es.getD k dE) || longB low last (es.getD k dE)) && !(decide (0 < k) && geB (es.getD (k - 1) dE).1 (es.getD k dE).1))) := rfl
      have hnk : n ≤ es.length := by have := HL.out; omega
      have hbk : b < wr.heap.size := by have := hbel.size; omega
      have hwl : w.heap.size < wr.heap.size := (Array.getElem?_eq_some_iff.1 hbox.out).1
      have HBX : Hid (∀ o q, ((wr.alloc o).drewN q).heap[w.heap.size]? = some (.cells #[.int .i64 3, .int .i64 tx, .int .i64 0, .int .i64 0, .int .i64 0, .slice ka 0 kc, .slice (some ⟨b, off, none⟩) n ec, .int .i64 0, .string data] 28)) := fun o q => (Below.heap_alloc _ _ _ (Array.getElem?_eq_some_iff.1 hbox.out).1).trans hbox.out
      have hE2 := hE.below (hbel.mono hB)
      clear hE
      generalize hkd : es.getD k dE = kd at f0 f1 f2 f3 HEO hfk
      clear hkd
      have hv := hfk.2.1
      unfold maxLen at hv
      by_cases t1 : kd.2.2.1 = 0
      · have s1 : (kd.2.2.1 == 0) = true := by simpa using t1
        have l1 : decide (low ≤ kd.2.2.1 ∧ kd.2.2.1 ≤ last) = false := decide_eq_false (by omega)
        have LB : longB low last kd = false := by simp [longB, inB]; omega
        by_cases t2 : kd.2.2.2 = (kd.2.1.size : Int)
        · have s2 : (kd.2.2.2 == (kd.2.1.size : Int)) = true := by simpa using t2
          by_cases t3 : kd.2.1.size ≤ 8
          · have s3 : decide ((kd.2.1.size : Int) ≤ 8) = true := by simp; omega
            have SB : shortB kd = true := by simp [shortB, t1, t2, t3]
            clear t1 t2 t3
            by_cases tk : keyB kd.1 = true
            · by_cases t4 : 0 < k
              · obtain ⟨b'', off'', hbo, hb'', hfj, g0, _⟩ := EntsAt.at hE2 (i := k - 1) (by omega)
                simp only [Option.some.injEq, Addr.mk.injEq, and_true] at hbo
                obtain ⟨rfl, rfl⟩ := hbo
                generalize hpd : es.getD (k - 1) dE = pd at g0 HEO
                clear hpd
                obtain ⟨k1, hk1⟩ : ∃ k1, k1 = k - 1 := ⟨_, rfl⟩
                rw [← hk1] at g0
                have i2 : (k : Int) - 1 = (k1 : Int) := by omega
                have i1 : k1 < n := by omega
                have i3 : IntKind.i64.wrap (k1 : Int) = (k1 : Int) := by rw [IntKind.wrap_i64]; omega
                have s4 : decide ((0 : Int) < (k : Int)) = true := by simp; omega
                clear hk1
                by_cases t5 : geB pd.1 kd.1 = true
                · have s5 : Op.bytesLess pd.1.toList kd.1.toList = false := by simpa [geB] using t5
                  have HB : Hid (entsOk low last es = false) := all_range_false (k := k) (by omega) (by rw [HEO.out]; simp [SB, tk, t4, t5])
                  clear HEO hE2
                  go_wp2_with (go_at_call 38; refine (l1In_any _ _ _ _).mono ?_; rintro e w1 ⟨rfl, rfl⟩)
                  go_quiet (first | (go_at_call 38; exact Calls.quiet_of_same (l1In_any _ _ _ _)) | (go_at_call 78; exact Calls.quiet_of_same (l2Key_any _ hfk.1 _)))
                  go_wp2
                  go_ret
                  exact ⟨by rw [HB.out]; rfl, below_dn2 hbel hbel.size⟩
                · have s5 : Op.bytesLess pd.1.toList kd.1.toList = true := by simpa [geB] using t5
                  have HB : Hid ((List.range (k + 1)).all (entOk low last es) = true) := all_range_succ hok.out (by rw [HEO.out]; simp [SB, tk, t5])
                  clear HEO hE2
                  go_wp2_with (go_at_call 38; refine (l1In_any _ _ _ _).mono ?_; rintro e w1 ⟨rfl, rfl⟩)
                  go_quiet (first | (go_at_call 38; exact Calls.quiet_of_same (l1In_any _ _ _ _)) | (go_at_call 78; exact Calls.quiet_of_same (l2Key_any _ hfk.1 _)))
                  go_wp2
                  go_roundw
                  case rel => exact ⟨k + 1, by omega, by go_num, HB, below_dn2 hbel hbel.size, HBX.out _ _⟩
                  case measure => simp [intOf]; omega
              · have s4 : decide ((0 : Int) < (k : Int)) = false := by simp; omega
                have HB : Hid ((List.range (k + 1)).all (entOk low last es) = true) := all_range_succ hok.out (by rw [HEO.out]; simp [SB, tk, t4])
                clear HEO hE2
                go_wp2_with (go_at_call 38; refine (l1In_any _ _ _ _).mono ?_; rintro e w1 ⟨rfl, rfl⟩)
                go_quiet (first | (go_at_call 38; exact Calls.quiet_of_same (l1In_any _ _ _ _)) | (go_at_call 78; exact Calls.quiet_of_same (l2Key_any _ hfk.1 _)))
                go_wp2
                go_roundw
                case rel => exact ⟨k + 1, by omega, by go_num, HB, below_dn2 hbel hbel.size, HBX.out _ _⟩
                case measure => simp [intOf]; omega
            · have tk' : keyB kd.1 = false := by simpa using tk
              have HB : Hid (entsOk low last es = false) := all_range_false (k := k) (by omega) (by rw [HEO.out]; simp [tk])
              clear HEO hE2
              go_wp2_with (go_at_call 38; refine (l1In_any _ _ _ _).mono ?_; rintro e w1 ⟨rfl, rfl⟩)
              go_quiet (first | (go_at_call 38; exact Calls.quiet_of_same (l1In_any _ _ _ _)) | (go_at_call 78; exact Calls.quiet_of_same (l2Key_any _ hfk.1 _)))
              go_wp2
              go_ret
              exact ⟨by rw [HB.out]; rfl, below_dn2 hbel hbel.size⟩
          · have s3 : decide ((kd.2.1.size : Int) ≤ 8) = false := by simp; omega
            have SB : shortB kd = false := by simp [shortB, t3]
            clear t1 t2 t3
            by_cases tk : keyB kd.1 = true
            · -- the key is good, the value not
              have HB : Hid (entsOk low last es = false) := all_range_false (k := k) (by omega) (by rw [HEO.out]; simp [SB, LB])
              clear HEO hE2
              go_wp2_with (go_at_call 38; refine (l1In_any _ _ _ _).mono ?_; rintro e w1 ⟨rfl, rfl⟩)
              go_quiet (first | (go_at_call 38; exact Calls.quiet_of_same (l1In_any _ _ _ _)) | (go_at_call 78; exact Calls.quiet_of_same (l2Key_any _ hfk.1 _)))
              go_wp2
              go_ret
              exact ⟨by rw [HB.out]; rfl, below_dn2 hbel hbel.size⟩
            · have tk' : keyB kd.1 = false := by simpa using tk
              have HB : Hid (entsOk low last es = false) := all_range_false (k := k) (by omega) (by rw [HEO.out]; simp [tk])
              clear HEO hE2
              go_wp2_with (go_at_call 38; refine (l1In_any _ _ _ _).mono ?_; rintro e w1 ⟨rfl, rfl⟩)
              go_quiet (first | (go_at_call 38; exact Calls.quiet_of_same (l1In_any _ _ _ _)) | (go_at_call 78; exact Calls.quiet_of_same (l2Key_any _ hfk.1 _)))
              go_wp2
              go_ret
              exact ⟨by rw [HB.out]; rfl, below_dn2 hbel hbel.size⟩
        · have s2 : (kd.2.2.2 == (kd.2.1.size : Int)) = false := by simpa using t2
          have SB : shortB kd = false := by simp [shortB, t2]
          clear t1 t2
          by_cases tk : keyB kd.1 = true
          · -- the key is good, the value not
            have HB : Hid (entsOk low last es = false) := all_range_false (k := k) (by omega) (by rw [HEO.out]; simp [SB, LB])
            clear HEO hE2
            go_wp2_with (go_at_call 38; refine (l1In_any _ _ _ _).mono ?_; rintro e w1 ⟨rfl, rfl⟩)
            go_quiet (first | (go_at_call 38; exact Calls.quiet_of_same (l1In_any _ _ _ _)) | (go_at_call 78; exact Calls.quiet_of_same (l2Key_any _ hfk.1 _)))
            go_wp2
            go_ret
            exact ⟨by rw [HB.out]; rfl, below_dn2 hbel hbel.size⟩
          · have tk' : keyB kd.1 = false := by simpa using tk
            have HB : Hid (entsOk low last es = false) := all_range_false (k := k) (by omega) (by rw [HEO.out]; simp [tk])
            clear HEO hE2
            go_wp2_with (go_at_call 38; refine (l1In_any _ _ _ _).mono ?_; rintro e w1 ⟨rfl, rfl⟩)
            go_quiet (first | (go_at_call 38; exact Calls.quiet_of_same (l1In_any _ _ _ _)) | (go_at_call 78; exact Calls.quiet_of_same (l2Key_any _ hfk.1 _)))
            go_wp2
            go_ret
            exact ⟨by rw [HB.out]; rfl, below_dn2 hbel hbel.size⟩
      · have s1 : (kd.2.2.1 == 0) = false := by simpa using t1
        have SB : shortB kd = false := by simp [shortB, t1]
        clear t1
        by_cases a1 : low ≤ kd.2.2.1 ∧ kd.2.2.1 ≤ last
        · have l1 : decide (low ≤ kd.2.2.1 ∧ kd.2.2.1 ≤ last) = true := decide_eq_true a1
          by_cases a2 : kd.2.1.toList = []
          · have l2 : kd.2.1.toList.isEmpty = true := by simp [a2]
            by_cases a3 : 9 ≤ kd.2.2.2 ∧ kd.2.2.2 ≤ 400
            · have l3 : decide ((9 : Int) ≤ kd.2.2.2 ∧ kd.2.2.2 ≤ 400) = true := decide_eq_true a3
              have LB : longB low last kd = true := by simp [longB, inB, a1, a2, a3]
              clear a1 a3
              by_cases tk : keyB kd.1 = true
              · by_cases t4 : 0 < k
                · obtain ⟨b'', off'', hbo, hb'', hfj, g0, _⟩ := EntsAt.at hE2 (i := k - 1) (by omega)
                  simp only [Option.some.injEq, Addr.mk.injEq, and_true] at hbo
                  obtain ⟨rfl, rfl⟩ := hbo
                  generalize hpd : es.getD (k - 1) dE = pd at g0 HEO
                  clear hpd
                  obtain ⟨k1, hk1⟩ : ∃ k1, k1 = k - 1 := ⟨_, rfl⟩
                  rw [← hk1] at g0
                  have i2 : (k : Int) - 1 = (k1 : Int) := by omega
                  have i1 : k1 < n := by omega
                  have i3 : IntKind.i64.wrap (k1 : Int) = (k1 : Int) := by rw [IntKind.wrap_i64]; omega
                  have s4 : decide ((0 : Int) < (k : Int)) = true := by simp; omega
                  clear hk1
                  by_cases t5 : geB pd.1 kd.1 = true
                  · have s5 : Op.bytesLess pd.1.toList kd.1.toList = false := by simpa [geB] using t5
                    have HB : Hid (entsOk low last es = false) := all_range_false (k := k) (by omega) (by rw [HEO.out]; simp [LB, tk, t4, t5])
                    clear HEO hE2
                    go_wp2_with (go_at_call 38; refine (l1In_any _ _ _ _).mono ?_; rintro e w1 ⟨rfl, rfl⟩)
                    go_quiet (first | (go_at_call 38; exact Calls.quiet_of_same (l1In_any _ _ _ _)) | (go_at_call 78; exact Calls.quiet_of_same (l2Key_any _ hfk.1 _)))
                    go_wp2
                    go_ret
                    exact ⟨by rw [HB.out]; rfl, below_dn2 hbel hbel.size⟩
                  · have s5 : Op.bytesLess pd.1.toList kd.1.toList = true := by simpa [geB] using t5
                    have HB : Hid ((List.range (k + 1)).all (entOk low last es) = true) := all_range_succ hok.out (by rw [HEO.out]; simp [LB, tk, t5])
                    clear HEO hE2
                    go_wp2_with (go_at_call 38; refine (l1In_any _ _ _ _).mono ?_; rintro e w1 ⟨rfl, rfl⟩)
                    go_quiet (first | (go_at_call 38; exact Calls.quiet_of_same (l1In_any _ _ _ _)) | (go_at_call 78; exact Calls.quiet_of_same (l2Key_any _ hfk.1 _)))
                    go_wp2
                    go_roundw
                    case rel => exact ⟨k + 1, by omega, by go_num, HB, below_dn2 hbel hbel.size, HBX.out _ _⟩
                    case measure => simp [intOf]; omega
                · have s4 : decide ((0 : Int) < (k : Int)) = false := by simp; omega
                  have HB : Hid ((List.range (k + 1)).all (entOk low last es) = true) := all_range_succ hok.out (by rw [HEO.out]; simp [LB, tk, t4])
                  clear HEO hE2
                  go_wp2_with (go_at_call 38; refine (l1In_any _ _ _ _).mono ?_; rintro e w1 ⟨rfl, rfl⟩)
                  go_quiet (first | (go_at_call 38; exact Calls.quiet_of_same (l1In_any _ _ _ _)) | (go_at_call 78; exact Calls.quiet_of_same (l2Key_any _ hfk.1 _)))
                  go_wp2
                  go_roundw
                  case rel => exact ⟨k + 1, by omega, by go_num, HB, below_dn2 hbel hbel.size, HBX.out _ _⟩
                  case measure => simp [intOf]; omega
              · have tk' : keyB kd.1 = false := by simpa using tk
                have HB : Hid (entsOk low last es = false) := all_range_false (k := k) (by omega) (by rw [HEO.out]; simp [tk])
                clear HEO hE2
                go_wp2_with (go_at_call 38; refine (l1In_any _ _ _ _).mono ?_; rintro e w1 ⟨rfl, rfl⟩)
                go_quiet (first | (go_at_call 38; exact Calls.quiet_of_same (l1In_any _ _ _ _)) | (go_at_call 78; exact Calls.quiet_of_same (l2Key_any _ hfk.1 _)))
                go_wp2
                go_ret
                exact ⟨by rw [HB.out]; rfl, below_dn2 hbel hbel.size⟩
            · have l3 : decide ((9 : Int) ≤ kd.2.2.2 ∧ kd.2.2.2 ≤ 400) = false := decide_eq_false a3
              have LB : longB low last kd = false := by simp [longB, inB, a1, a2]; omega
              clear a1 a3
              by_cases tk : keyB kd.1 = true
              · -- the key is good, the value not
                have HB : Hid (entsOk low last es = false) := all_range_false (k := k) (by omega) (by rw [HEO.out]; simp [SB, LB])
                clear HEO hE2
                go_wp2_with (go_at_call 38; refine (l1In_any _ _ _ _).mono ?_; rintro e w1 ⟨rfl, rfl⟩)
                go_quiet (first | (go_at_call 38; exact Calls.quiet_of_same (l1In_any _ _ _ _)) | (go_at_call 78; exact Calls.quiet_of_same (l2Key_any _ hfk.1 _)))
                go_wp2
                go_ret
                exact ⟨by rw [HB.out]; rfl, below_dn2 hbel hbel.size⟩
              · have tk' : keyB kd.1 = false := by simpa using tk
                have HB : Hid (entsOk low last es = false) := all_range_false (k := k) (by omega) (by rw [HEO.out]; simp [tk])
                clear HEO hE2
                go_wp2_with (go_at_call 38; refine (l1In_any _ _ _ _).mono ?_; rintro e w1 ⟨rfl, rfl⟩)
                go_quiet (first | (go_at_call 38; exact Calls.quiet_of_same (l1In_any _ _ _ _)) | (go_at_call 78; exact Calls.quiet_of_same (l2Key_any _ hfk.1 _)))
                go_wp2
                go_ret
                exact ⟨by rw [HB.out]; rfl, below_dn2 hbel hbel.size⟩
          · have l2 : kd.2.1.toList.isEmpty = false := by simp [a2]
            have LB : longB low last kd = false := by simp [longB, a2]
            clear a1
            by_cases tk : keyB kd.1 = true
            · -- the key is good, the value not
              have HB : Hid (entsOk low last es = false) := all_range_false (k := k) (by omega) (by rw [HEO.out]; simp [SB, LB])
              clear HEO hE2
              go_wp2_with (go_at_call 38; refine (l1In_any _ _ _ _).mono ?_; rintro e w1 ⟨rfl, rfl⟩)
              go_quiet (first | (go_at_call 38; exact Calls.quiet_of_same (l1In_any _ _ _ _)) | (go_at_call 78; exact Calls.quiet_of_same (l2Key_any _ hfk.1 _)))
              go_wp2
              go_ret
              exact ⟨by rw [HB.out]; rfl, below_dn2 hbel hbel.size⟩
            · have tk' : keyB kd.1 = false := by simpa using tk
              have HB : Hid (entsOk low last es = false) := all_range_false (k := k) (by omega) (by rw [HEO.out]; simp [tk])
              clear HEO hE2
              go_wp2_with (go_at_call 38; refine (l1In_any _ _ _ _).mono ?_; rintro e w1 ⟨rfl, rfl⟩)
              go_quiet (first | (go_at_call 38; exact Calls.quiet_of_same (l1In_any _ _ _ _)) | (go_at_call 78; exact Calls.quiet_of_same (l2Key_any _ hfk.1 _)))
              go_wp2
              go_ret
              exact ⟨by rw [HB.out]; rfl, below_dn2 hbel hbel.size⟩
        · have l1 : decide (low ≤ kd.2.2.1 ∧ kd.2.2.1 ≤ last) = false := decide_eq_false a1
          have LB : longB low last kd = false := by simp [longB, inB]; omega
          clear a1
          by_cases tk : keyB kd.1 = true
          · -- the key is good, the value not
            have HB : Hid (entsOk low last es = false) := all_range_false (k := k) (by omega) (by rw [HEO.out]; simp [SB, LB])
            clear HEO hE2
            go_wp2_with (go_at_call 38; refine (l1In_any _ _ _ _).mono ?_; rintro e w1 ⟨rfl, rfl⟩)
            go_quiet (first | (go_at_call 38; exact Calls.quiet_of_same (l1In_any _ _ _ _)) | (go_at_call 78; exact Calls.quiet_of_same (l2Key_any _ hfk.1 _)))
            go_wp2
            go_ret
            exact ⟨by rw [HB.out]; rfl, below_dn2 hbel hbel.size⟩
          · have tk' : keyB kd.1 = false := by simpa using tk
            have HB : Hid (entsOk low last es = false) := all_range_false (k := k) (by omega) (by rw [HEO.out]; simp [tk])
            clear HEO hE2
            go_wp2_with (go_at_call 38; refine (l1In_any _ _ _ _).mono ?_; rintro e w1 ⟨rfl, rfl⟩)
            go_quiet (first | (go_at_call 38; exact Calls.quiet_of_same (l1In_any _ _ _ _)) | (go_at_call 78; exact Calls.quiet_of_same (l2Key_any _ hfk.1 _)))
            go_wp2
            go_ret
            exact ⟨by rw [HB.out]; rfl, below_dn2 hbel hbel.size⟩
    · have HB : Hid (entsOk low last es = true) := by have := hok.out; rw [show k = n by omega, ← HL.out] at this; exact this
      go_wp2
      go_ret
      exact ⟨by rw [HB.out]; rfl, hbel⟩
end Go.Proofs.Ytcmhobbpeaeebaa
