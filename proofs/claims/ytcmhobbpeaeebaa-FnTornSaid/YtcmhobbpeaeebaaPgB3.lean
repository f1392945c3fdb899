import Derived.Test.YtcmhobbpeaeebaaPgB2
import Derived.WalkLawsBesides
namespace Go.Proofs.Ytcmhobbpeaeebaa
open Go.RowKit
set_option linter.unusedVariables false
set_option maxRecDepth 100000

theorem all_range {f : Nat → Bool} {k n : Nat} (h : (List.range n).all f = true) (hk : k < n) : f k = true := by
  rw [List.all_eq_true] at h; exact h k (List.mem_range.2 hk)
theorem all_range_false {f : Nat → Bool} {k n : Nat} (hk : k < n) (h : f k = false) : (List.range n).all f = false := by
  rw [List.all_eq_false]; exact ⟨k, List.mem_range.2 hk, by simp [h]⟩
theorem all_range_succ {f : Nat → Bool} {k : Nat} (h : (List.range k).all f = true) (h2 : f k = true) : (List.range (k + 1)).all f = true := by
  rw [List.range_succ, List.all_append, h]; simp [h2]

set_option maxHeartbeats 1600000 in
theorem l2Body_branch1 (tx : Int) (ka : Option Addr) (kc : Nat) (ks : List PK) (n : Nat) (ea : Option Addr) (ec : Nat) (data : ByteArray) (low last : Int) (w : World) (A B : Nat) (hB : B ≤ w.heap.size) (hK : KidsAt w A B ka n kc ks) (hd : data.toList = []) (h2 : 2 ≤ n) (h4 : n ≤ 4) :
    Calls Try.prog 39 #[.agg #[.int .i64 2, .int .i64 tx, .int .i64 0, .int .i64 0, .int .i64 0, .slice ka n kc, .slice ea 0 ec, .int .i64 0, .string data], .int .i64 low, .int .i64 last] w fun e w' => e = .returned (.bool ((ks.getD 0 dK).1.toList.isEmpty && kidsOk low last ks)) ∧ Below w.heap.size w w' := by
  have hb0 : Below w.heap.size w (w.alloc (.cells #[.int .i64 2, .int .i64 tx, .int .i64 0, .int .i64 0, .int .i64 0, .slice ka n kc, .slice ea 0 ec, .int .i64 0, .string data] 28)) := (Below.refl _ _).alloc (Nat.le_refl _) _
  have hK1 := hK.below (hb0.mono hB)
  have HL : Hid (ks.length = n) := hK.1
  clear hK
  obtain ⟨b, off, rfl, hb, hfit, e0, e1⟩ := KidsAt.at hK1 (i := 0) (by omega)
  have hbs : b < w.heap.size := by omega
  have hbn : b ≠ w.heap.size := by omega
  simp only [Nat.zero_mul, Nat.add_zero] at e0 e1
  generalize hs0 : (ks.getD 0 dK).1 = s0 at e0
  have HS0 : Hid ((ks.getD 0 dK).1 = s0) := hs0
  clear hs0
  by_cases hse : s0.toList = []
  · go_enter Try.func39, Try.ntmps39
    go_wp2_with fail
    obtain ⟨W0, hW0⟩ : ∃ W0, W0 = (w.alloc (.cells #[.int .i64 2, .int .i64 tx, .int .i64 0, .int .i64 0, .int .i64 0, .slice (some ⟨b, off, none⟩) n kc, .slice ea 0 ec, .int .i64 0, .string data] 28)) := ⟨_, rfl⟩
    have x5 : W0.cell? ⟨w.heap.size, 5, none⟩ = some (.slice (some ⟨b, off, none⟩) n kc) := by rw [hW0]; simp
    have HSE : Hid (s0.toList.isEmpty = true) := by show _ = _; simp [hse]
    clear e0 e1 hse
    rw [← hW0] at hb0 hK1 ⊢
    clear hW0
    go_loopw [8] (fun i wr => ∃ k : Nat, k ≤ n ∧ i = .int .i64 k ∧ Hid ((List.range k).all (kidOk low last ks) = true) ∧ Hid (∃ q, wr = W0.drewN q)) (fun i _ => n - (intOf i).toNat)
    case atStart => exact ⟨0, Nat.zero_le _, rfl, rfl, 0, rfl⟩
    case round =>
      obtain ⟨k, hk, rfl, hok, hq⟩ := hrel
      have HD : Hid (∀ q, ∃ q', wr.drewN q = W0.drewN q') := by
        obtain ⟨q0, h0⟩ := hq.out
        intro q
        exact ⟨q0 + q, by rw [h0, World.drewN_drewN]⟩
      have hbq : ∀ q, Below w.heap.size w (wr.drewN q) := fun q => by
        obtain ⟨q', h'⟩ := HD.out q
        rw [h']
        exact hb0.trans ⟨rfl, rfl, rfl, Nat.le_refl _, fun _ _ => rfl⟩
      have hK2 : KidsAt wr A B (some ⟨b, off, none⟩) n kc ks := by
        obtain ⟨q0, h0⟩ := hq.out
        rw [h0]
        exact hK1
      have x6 : wr.cell? ⟨w.heap.size, 5, none⟩ = some (.slice (some ⟨b, off, none⟩) n kc) := by
        obtain ⟨q0, h0⟩ := hq.out
        rw [h0]
        exact x5
      clear hK1 x5 hq
      by_cases hlt : k < n
      · obtain ⟨b', off', hbo, hb', hfk, f0, f1⟩ := KidsAt.at hK2 (i := k) hlt
        simp only [Option.some.injEq, Addr.mk.injEq, and_true] at hbo
        obtain ⟨rfl, rfl⟩ := hbo
        have HKO : Hid (kidOk low last ks k = (inB low last (ks.getD k dK).2 && !(decide (0 < k) && (!keyB (ks.getD k dK).1 || geB (ks.getD (k - 1) dK).1 (ks.getD k dK).1)))) := rfl
        have hnk : n ≤ ks.length := by have := HL.out; omega
        generalize hkd : ks.getD k dK = kd at f0 f1 HKO hfk
        clear hkd
        by_cases t1 : low ≤ kd.2 ∧ kd.2 ≤ last
        · have s1 : decide (low ≤ kd.2 ∧ kd.2 ≤ last) = true := decide_eq_true t1
          by_cases t4 : 0 < k
          · obtain ⟨b'', off'', hbo, hb'', hfj, g0, g1⟩ := KidsAt.at hK2 (i := k - 1) (by omega)
            simp only [Option.some.injEq, Addr.mk.injEq, and_true] at hbo
            obtain ⟨rfl, rfl⟩ := hbo
            generalize hpd : ks.getD (k - 1) dK = pd at g0 g1 HKO
            clear hpd hK2
            obtain ⟨k1, hk1⟩ : ∃ k1, k1 = k - 1 := ⟨_, rfl⟩
            rw [← hk1] at g0
            have i2 : (k : Int) - 1 = (k1 : Int) := by omega
            have i1 : k1 < n := by omega
            have i3 : IntKind.i64.wrap (k1 : Int) = (k1 : Int) := by rw [IntKind.wrap_i64]; omega
            have s4 : decide ((0 : Int) < (k : Int)) = true := by simp; omega
            clear hk1
            by_cases t2 : keyB kd.1 = true
            · by_cases t5 : geB pd.1 kd.1 = true
              · have HB : Hid (kidsOk low last ks = false) := all_range_false (k := k) (by omega) (by rw [HKO.out]; simp [t2, t4, t5])
                have s5 : Op.bytesLess pd.1.toList kd.1.toList = false := by simpa [geB] using t5
                go_wp2_with fail
                go_quiet (first | (go_at_call 38; exact Calls.quiet_of_same (l1In_any _ _ _ _)) | (go_at_call 78; exact Calls.quiet_of_same (l2Key_any _ hfk.1 _)))
                go_wp2
                go_ret
                exact ⟨by rw [HB.out]; simp, hbq _⟩
              · have HB : Hid ((List.range (k + 1)).all (kidOk low last ks) = true) := all_range_succ hok.out (by rw [HKO.out]; simp [t1, t2, t4, t5, inB])
                have s5 : Op.bytesLess pd.1.toList kd.1.toList = true := by simpa [geB] using t5
                go_wp2_with fail
                go_quiet (first | (go_at_call 38; exact Calls.quiet_of_same (l1In_any _ _ _ _)) | (go_at_call 78; exact Calls.quiet_of_same (l2Key_any _ hfk.1 _)))
                go_wp2
                go_roundw
                case rel => exact ⟨k + 1, by omega, by go_num, HB, HD.out _⟩
                case measure => simp [intOf]; omega
            · have HB : Hid (kidsOk low last ks = false) := all_range_false (k := k) (by omega) (by rw [HKO.out]; simp [t2, t4])
              have t2' : keyB kd.1 = false := by simpa using t2
              go_wp2_with fail
              go_quiet (first | (go_at_call 38; exact Calls.quiet_of_same (l1In_any _ _ _ _)) | (go_at_call 78; exact Calls.quiet_of_same (l2Key_any _ hfk.1 _)))
              go_wp2
              go_ret
              exact ⟨by rw [HB.out]; simp, hbq _⟩
          · have HB : Hid ((List.range (k + 1)).all (kidOk low last ks) = true) := all_range_succ hok.out (by rw [HKO.out]; simp [t1, t4, inB])
            have s4 : decide ((0 : Int) < (k : Int)) = false := by simp; omega
            clear hK2
            go_wp2_with fail
            go_quiet (first | (go_at_call 38; exact Calls.quiet_of_same (l1In_any _ _ _ _)) | (go_at_call 78; exact Calls.quiet_of_same (l2Key_any _ hfk.1 _)))
            go_wp2
            go_roundw
            case rel => exact ⟨k + 1, by omega, by go_num, HB, HD.out _⟩
            case measure => simp [intOf]; omega
        · have s1 : decide (low ≤ kd.2 ∧ kd.2 ≤ last) = false := decide_eq_false t1
          have HB : Hid (kidsOk low last ks = false) := all_range_false (k := k) (by omega) (by rw [HKO.out]; simp [inB, t1])
          clear hK2
          go_wp2_with fail
          go_quiet (first | (go_at_call 38; exact Calls.quiet_of_same (l1In_any _ _ _ _)) | (go_at_call 78; exact Calls.quiet_of_same (l2Key_any _ hfk.1 _)))
          go_wp2
          go_ret
          exact ⟨by rw [HB.out]; simp, hbq _⟩
      · have HB : Hid (kidsOk low last ks = true) := by have := hok.out; rw [show k = n by omega, ← HL.out] at this; exact this
        go_wp2
        go_ret
        exact ⟨by rw [HSE.out, HB.out]; rfl, hbq 0⟩
  · have hse2 : s0.toList.isEmpty = false := by simp [hse]
    go_enter Try.func39, Try.ntmps39
    go_wp2
    go_ret
    refine ⟨?_, hb0⟩
    simp [hse]
end Go.Proofs.Ytcmhobbpeaeebaa
