import Derived.Test.YtcmhobbpeaeebaaGAD
import Derived.Laws.EntriesVeiled
import Derived.WideLaws
import Derived.Deep.RegionHeld3
namespace Go.Proofs.Ytcmhobbpeaeebaa
open Go.RowKit
set_option linter.unusedVariables false
set_option maxRecDepth 100000

set_option maxHeartbeats 400000 in
theorem isKey_any (s : ByteArray) (hs : s.size ≤ maxLen) (w : World) :
    Calls Try.prog 132 #[.string s] w fun e w' => e = .returned (.bool (keyB s)) ∧ w' = w := by
  unfold maxLen at hs
  by_cases h1 : 1 ≤ s.size
  · go_enter Try.func132, Try.ntmps132
    go_wp2
    go_ret
    exact ⟨by simp [keyB, h1]; omega, rfl⟩
  · have hd : decide ((1 : Int) ≤ s.size) = false := by simp; omega
    go_enter Try.func132, Try.ntmps132
    go_wp2
    go_ret
    exact ⟨by simp [keyB, h1], rfl⟩
set_option maxHeartbeats 400000 in
theorem has_any (low last x : Int) (w : World) :
    Calls Try.prog 117 #[.agg #[.int .i64 low, .int .i64 last], .int .i64 x] w fun e w' => e = .returned (.bool (inB low last x)) ∧ Below w.heap.size w w' := by
  by_cases h1 : low ≤ x
  · go_enter Try.func117, Try.ntmps117
    go_wp2
    all_goals go_ret
    all_goals exact ⟨by simp [inB, h1], (Below.refl _ _).alloc (Nat.le_refl _) _⟩
  · have hd : decide (low ≤ x) = false := by simp; omega
    go_enter Try.func117, Try.ntmps117
    go_wp2
    all_goals go_ret
    all_goals exact ⟨by simp [inB]; omega, (Below.refl _ _).alloc (Nat.le_refl _) _⟩
set_option maxHeartbeats 1600000 in
theorem validEnt_any (e : PE) (he : entFit e) (low last : Int) (hlow : 1 ≤ low) (w : World) :
    Calls Try.prog 139 #[.agg #[.string e.1, .string e.2.1, .int .i64 e.2.2.1, .int .i64 e.2.2.2], .agg #[.int .i64 low, .int .i64 last]] w fun r w' => r = .returned (.bool (shortB e || longB low last e)) ∧ Below w.heap.size w w' := by
  have hs := he.2.1
  unfold maxLen at hs
  by_cases h0 : e.2.2.1 = 0
  · have s0 : (e.2.2.1 == 0) = true := by simpa using h0
    have HL : Hid (longB low last e = false) := by show _ = _; simp [longB, inB]; omega
    have HS : Hid (shortB e = (decide (e.2.1.size ≤ 8) && decide (e.2.2.2 = (e.2.1.size : Int)))) := by show _ = _; simp [shortB, h0, Bool.and_comm]
    clear h0
    go_enter Try.func139, Try.ntmps139
    go_wp2
    all_goals go_ret
    all_goals refine ⟨?_, by first | exact ((Below.refl _ _).alloc (Nat.le_refl _) _).alloc (by simp) _ | exact (Below.refl _ _).alloc (Nat.le_refl _) _⟩
    all_goals rw [HL.out, HS.out]
    all_goals simp
    all_goals first | omega | (rw [Bool.eq_iff_iff]; simp; omega)
  · have s0 : (e.2.2.1 == 0) = false := by simpa using h0
    have HS : Hid (shortB e = false) := by show _ = _; simp [shortB, h0]
    clear h0
    go_enter Try.func139, Try.ntmps139
    go_wp2_with (go_at_call 117; refine (has_any low last _ _).mono ?_; rintro e w1 ⟨rfl, hb1⟩; obtain ⟨hc1, hf1⟩ := bcell hb1)
    all_goals go_ret
    all_goals refine ⟨?_, by first | exact (((Below.refl _ _).alloc (Nat.le_refl _) _).alloc (by simp) _).trans (hb1.mono (by simp; omega)) | exact ((Below.refl _ _).alloc (Nat.le_refl _) _).alloc (by simp) _⟩
    all_goals rw [HS.out, longB]
    all_goals simp [*]
    all_goals (unfold inB; rw [Bool.eq_iff_iff]; simp; omega)
set_option maxHeartbeats 1600000 in
theorem metaValid_any (M : Nat) (id root count low last : Int) (w : World) (hM : w.heap[M]? = some (.cells #[.int .i64 id, .int .i64 root, .int .i64 count] 136)) :
    Calls Try.prog 121 #[.pointer (some ⟨M, 0, none⟩), .agg #[.int .i64 low, .int .i64 last]] w fun e w' => e = .returned (.bool (inB 1 2000000000 id && inB low last root && inB 0 2000000000 count)) ∧ Below w.heap.size w w' := by
  obtain ⟨m0, m1, m2⟩ := box_form hM
  have hlt : M < w.heap.size := (Array.getElem?_eq_some_iff.1 hM).1
  go_enter Try.func121, Try.ntmps121
  go_wp2_with (go_at_call 117; refine (has_any low last _ _).mono ?_; rintro e w1 ⟨rfl, hb1⟩; obtain ⟨hc1, hf1⟩ := bcell hb1)
  all_goals go_ret
  all_goals refine ⟨?_, by first | exact (((Below.refl _ _).alloc (Nat.le_refl _) _).alloc (by simp) _).trans (hb1.mono (by simp; omega)) | exact ((Below.refl _ _).alloc (Nat.le_refl _) _).alloc (by simp) _⟩
  all_goals simp [inB, *]
  all_goals first | omega | (simp [inB] at *; omega)
set_option maxHeartbeats 1600000 in
theorem overValid_any (M : Nat) (next : Int) (data : ByteArray) (hd : data.size ≤ maxLen) (low last : Int) (w : World) (hM : w.heap[M]? = some (.cells #[.int .i64 next, .string data] 145)) :
    Calls Try.prog 144 #[.pointer (some ⟨M, 0, none⟩), .agg #[.int .i64 low, .int .i64 last]] w fun e w' => e = .returned (.bool (decide (1 ≤ data.size) && decide (data.size ≤ 96) && (decide (next = 0) || (inB low last next && decide (data.size = 96))))) ∧ Below w.heap.size w w' := by
  have m0 : w.cell? ⟨M, 0, none⟩ = some (.int .i64 next) := by simp [World.cell?, hM]
  have m1 : w.cell? ⟨M, 1, none⟩ = some (.string data) := by simp [World.cell?, hM]
  have hlt : M < w.heap.size := (Array.getElem?_eq_some_iff.1 hM).1
  unfold maxLen at hd
  go_enter Try.func144, Try.ntmps144
  go_wp2_with (go_at_call 117; refine (has_any low last _ _).mono ?_; rintro e w1 ⟨rfl, hb1⟩; obtain ⟨hc1, hf1⟩ := bcell hb1)
  · go_ret
    refine ⟨?_, (Below.refl _ _).alloc (Nat.le_refl _) _⟩
    have hn : next = 0 := by simpa using ‹(next == 0) = true›
    show Ending.returned (Value.bool (decide ((data.size : Int) ≤ 96))) = _
    rw [show (decide (1 ≤ data.size) && decide (data.size ≤ 96) && (decide (next = 0) || (inB low last next && decide (data.size = 96)))) = decide ((data.size : Int) ≤ 96) by
      rw [Bool.eq_iff_iff]; simp [hn]; omega]
  · go_ret
    refine ⟨?_, (Below.refl _ _).alloc (Nat.le_refl _) _⟩
    have : ¬ 1 ≤ data.size := by omega
    simp [this]
  · have hn : ¬ next = 0 := by simpa using ‹(next == 0) = false›
    by_cases hin : inB low last next = true
    · go_region_held3 (fun w' => w'.cell? ⟨w.heap.size, 0, none⟩ = some (.int .i64 low) ∧ w'.cell? ⟨w.heap.size, 1, none⟩ = some (.int .i64 last) ∧ w'.cell? ⟨M, 0, none⟩ = some (.int .i64 next) ∧ w'.cell? ⟨M, 1, none⟩ = some (.string data)) (go_keep)
        (first | (go_at_call 117; have HA := has_any low last next ((w.alloc (.cells #[.int .i64 low, .int .i64 last] 89)).drew); rw [hin] at HA; refine HA.mono ?_; rintro e w1 ⟨rfl, hb1⟩; obtain ⟨hc1, hf1⟩ := bcell hb1; have hbW : Below w.heap.size w w1 := (((Below.refl _ w).alloc (Nat.le_refl _) _).drew).trans (hb1.mono (by simp)); have p0 := (hbW.cell (p := ⟨M, 0, none⟩) hlt).trans m0; have p1 := (hbW.cell (p := ⟨M, 1, none⟩) hlt).trans m1))
      all_goals
        clear hc1 hf1 hb1
        go_wp2
        go_ret
        refine ⟨?_, hbW⟩
        simp [hn, hin]
        rw [Bool.eq_iff_iff]
        simp
        omega
    · have hin' : inB low last next = false := by simpa using hin
      first
        | (go_region_with (first | (go_at_call 117; have HA := has_any low last next ((w.alloc (.cells #[.int .i64 low, .int .i64 last] 89)).drew); rw [hin'] at HA; refine HA.mono ?_; rintro e w1 ⟨rfl, hb1⟩; obtain ⟨hc1, hf1⟩ := bcell hb1; have hbW : Below w.heap.size w w1 := (((Below.refl _ w).alloc (Nat.le_refl _) _).drew).trans (hb1.mono (by simp)); have p0 := (hbW.cell (p := ⟨M, 0, none⟩) hlt).trans m0; have p1 := (hbW.cell (p := ⟨M, 1, none⟩) hlt).trans m1)))
        | fail
      all_goals
        clear hc1 hf1 hb1
        go_wp2
        go_ret
        refine ⟨?_, hbW⟩
        rw [show (decide (1 ≤ data.size) && decide (data.size ≤ 96) && (decide (next = 0) || (inB low last next && decide (data.size = 96)))) = false by simp [hn, hin']]
        rfl
end Go.Proofs.Ytcmhobbpeaeebaa
namespace Go.Proofs.Ytcmhobbpeaeebaa
open Go.RowKit
set_option linter.unusedVariables false
set_option maxRecDepth 100000

theorem box_two {w : World} {N : Nat} {v0 v1 : Value} {t : TypeId} (h : w.heap[N]? = some (.cells #[v0, v1] t)) : w.cell? ⟨N, 0, none⟩ = some v0 ∧ w.cell? ⟨N, 1, none⟩ = some v1 := by
  refine ⟨?_, ?_⟩ <;> simp [World.cell?, h]
theorem box_one {w : World} {N : Nat} {v0 : Value} {t : TypeId} (h : w.heap[N]? = some (.cells #[v0] t)) : w.cell? ⟨N, 0, none⟩ = some v0 := by
  simp [World.cell?, h]

set_option maxHeartbeats 1600000 in
theorem branchValid_any (M : Nat) (ka : Option Addr) (n kc : Nat) (ks : List PK) (low last : Int) (w : World) (A B : Nat) (hB : B ≤ w.heap.size) (hK : KidsAt w A B ka n kc ks) (hM : w.heap[M]? = some (.cells #[.slice ka n kc] 139)) :
    Calls Try.prog 129 #[.pointer (some ⟨M, 0, none⟩), .agg #[.int .i64 low, .int .i64 last]] w fun e w' => e = .returned (.bool (decide (2 ≤ n) && decide (n ≤ 4) && (ks.getD 0 dK).1.toList.isEmpty && kidsOk low last ks)) ∧ Below w.heap.size w w' := by
  have m0 := box_one hM
  have hlt : M < w.heap.size := (Array.getElem?_eq_some_iff.1 hM).1
  have hn63 := Nat.le_trans hK.2.1 hK.2.2.1
  have HL : Hid (ks.length = n) := hK.1
  unfold maxLen at hn63
  by_cases h2 : n < 2
  · go_enter Try.func129, Try.ntmps129
    go_wp2
    go_ret
    refine ⟨?_, (Below.refl _ _).alloc (Nat.le_refl _) _⟩
    rw [show decide (2 ≤ n) = false by simp; omega]
    rfl
  · by_cases h4 : 4 < n
    · go_enter Try.func129, Try.ntmps129
      go_wp2
      go_ret
      refine ⟨?_, (Below.refl _ _).alloc (Nat.le_refl _) _⟩
      rw [show decide (n ≤ 4) = false by simp; omega]
      simp
    · obtain ⟨b, off, rfl, hb, hfit, e0, e1⟩ := KidsAt.at hK (i := 0) (by omega)
      simp only [Nat.zero_mul, Nat.add_zero] at e0 e1
      generalize hs0 : (ks.getD 0 dK).1 = s0 at e0
      have hbs : b < w.heap.size := by omega
      clear hs0
      have HD : Hid ((decide (2 ≤ n) && decide (n ≤ 4) && s0.toList.isEmpty && kidsOk low last ks) = (s0.toList.isEmpty && kidsOk low last ks)) := by
        show _ = _
        rw [show decide (2 ≤ n) = true by simp; omega, show decide (n ≤ 4) = true by simp; omega]
        rfl
      by_cases hse : s0.toList = []
      · have HSE : Hid (s0.toList.isEmpty = true) := by show _ = _; simp [hse]
        go_enter Try.func129, Try.ntmps129
        go_wp2_with fail
        clear e0 e1 hse
        go_loopw [36] (fun iv wr => ∃ i : Nat, i ≤ n ∧ iv = .int .i64 i ∧ Hid ((List.range i).all (kidOk low last ks) = true) ∧ Below w.heap.size w wr ∧ Hid (wr.heap[w.heap.size]? = some (.cells #[.int .i64 low, .int .i64 last] 89))) (fun iv _ => n - (intOf iv).toNat)
        case atStart => exact ⟨0, Nat.zero_le _, rfl, rfl, (Below.refl _ _).alloc (Nat.le_refl _) _, heap_alloc_new w _⟩
        case round =>
          obtain ⟨i, hi, rfl, hok, hbel, hsp⟩ := hrel
          by_cases hli : i < n
          · obtain ⟨b', off', hbo, hb', hfk, f0, f1⟩ := KidsAt.at (hK.below (hbel.mono hB)) (i := i) hli
            simp only [Option.some.injEq, Addr.mk.injEq, and_true] at hbo
            obtain ⟨rfl, rfl⟩ := hbo
            have HKO : Hid (kidOk low last ks i = (inB low last (ks.getD i dK).2 && !(decide (0 < i) && (!keyB (ks.getD i dK).1 || geB (ks.getD (i - 1) dK).1 (ks.getD i dK).1)))) := rfl
            have hnk : n ≤ ks.length := by have := HL.out; omega
            generalize hkd : ks.getD i dK = kd at f0 f1 HKO hfk
            clear hkd
            have hws := hbel.size
            have hspl : w.heap.size < wr.heap.size := (Array.getElem?_eq_some_iff.1 hsp.out).1
            obtain ⟨x0, x1⟩ := box_two hsp.out
            have hMb : M < wr.heap.size := by omega
            -- the kid's box
            have HB0 := hbel.alloc (o := .cells #[.string kd.1, .int .i64 kd.2] 100) hws
            have HE0 : (wr.alloc (.cells #[.string kd.1, .int .i64 kd.2] 100)).heap[wr.heap.size]? = some (.cells #[.string kd.1, .int .i64 kd.2] 100) := heap_alloc_new wr _
            have HS0 := eb_call hsp.out ((Below.refl _ wr).alloc (Nat.le_refl _) (.cells #[.string kd.1, .int .i64 kd.2] 100))
            have hbw : b < wr.heap.size := by omega
            go_wp2_with fail
            generalize wr.alloc (.cells #[.string kd.1, .int .i64 kd.2] 100) = W0 at HB0 HE0 HS0 ⊢
            generalize wr.heap.size = E at HE0 ⊢
            clear hbel hsp x0 x1 f0 f1 hws hspl hMb hbw
            refine (has_any low last kd.2 W0).mono ?_
            rintro e w1 ⟨rfl, hb1⟩
            have HB1 := HB0.trans (hb1.mono HB0.size)
            have HE1 := eb_call HE0 hb1
            have HS1 := eb_call HS0 hb1
            obtain ⟨y0, y1⟩ := box_two HE1
            have m1 := (HB1.cell (p := ⟨M, 0, none⟩) hlt).trans m0
            have hbq : ∀ q, Below w.heap.size w (w1.drewN q) := fun q => HB1.trans ⟨rfl, rfl, rfl, Nat.le_refl _, fun _ _ => rfl⟩
            have HSPq : ∀ q, Hid ((w1.drewN q).heap[w.heap.size]? = some (.cells #[.int .i64 low, .int .i64 last] 89)) := fun q => HS1
            have hK1 := hK.below (HB1.mono hB)
            clear HB0 HE0 HS0 hb1 HE1 HS1
            by_cases t1 : inB low last kd.2 = true
            · by_cases t4 : 0 < i
              · obtain ⟨b'', off'', hbo, hb'', hfj, g0, g1⟩ := KidsAt.at hK1 (i := i - 1) (by omega)
                simp only [Option.some.injEq, Addr.mk.injEq, and_true] at hbo
                obtain ⟨rfl, rfl⟩ := hbo
                generalize hpd : ks.getD (i - 1) dK = pd at g0 g1 HKO
                clear hpd hK1
                obtain ⟨k1, hk1⟩ : ∃ k1, k1 = i - 1 := ⟨_, rfl⟩
                rw [← hk1] at g0
                have i2 : (i : Int) - 1 = (k1 : Int) := by omega
                have i1 : k1 < n := by omega
                have i3 : IntKind.i64.wrap (k1 : Int) = (k1 : Int) := by rw [IntKind.wrap_i64]; omega
                have s4 : decide ((0 : Int) < (i : Int)) = true := by simp; omega
                clear hk1
                by_cases t2 : keyB kd.1 = true
                · by_cases t5 : geB pd.1 kd.1 = true
                  · have HB : Hid (kidsOk low last ks = false) := all_range_false (k := i) (by omega) (by rw [HKO.out]; simp [t2, t4, t5])
                    have s5 : Op.bytesLess pd.1.toList kd.1.toList = false := by simpa [geB] using t5
                    go_wp2_with fail
                    go_quiet ((go_at_call 132; exact Calls.quiet_of_same (isKey_any _ hfk.1 _)))
                    go_wp2
                    go_ret
                    exact ⟨by rw [HD.out, HSE.out, HB.out]; rfl, hbq _⟩
                  · have HB : Hid ((List.range (i + 1)).all (kidOk low last ks) = true) := all_range_succ hok.out (by rw [HKO.out]; simp [t1, t2, t5])
                    have s5 : Op.bytesLess pd.1.toList kd.1.toList = true := by simpa [geB] using t5
                    go_wp2_with fail
                    go_quiet ((go_at_call 132; exact Calls.quiet_of_same (isKey_any _ hfk.1 _)))
                    go_wp2
                    go_roundw
                    case rel => exact ⟨i + 1, by omega, by go_num, HB, hbq _, HSPq _⟩
                    case measure => simp [intOf]; omega
                · have HB : Hid (kidsOk low last ks = false) := all_range_false (k := i) (by omega) (by rw [HKO.out]; simp [t2, t4])
                  have t2' : keyB kd.1 = false := by simpa using t2
                  go_wp2_with fail
                  go_quiet ((go_at_call 132; exact Calls.quiet_of_same (isKey_any _ hfk.1 _)))
                  go_wp2
                  go_ret
                  exact ⟨by rw [HD.out, HSE.out, HB.out]; rfl, hbq _⟩
              · have HB : Hid ((List.range (i + 1)).all (kidOk low last ks) = true) := all_range_succ hok.out (by rw [HKO.out]; simp [t1, t4])
                have s4 : decide ((0 : Int) < (i : Int)) = false := by simp; omega
                clear hK1
                go_wp2_with fail
                go_quiet ((go_at_call 132; exact Calls.quiet_of_same (isKey_any _ hfk.1 _)))
                go_wp2
                go_roundw
                case rel => exact ⟨i + 1, by omega, by go_num, HB, hbq _, HSPq _⟩
                case measure => simp [intOf]; omega
            · have t1' : inB low last kd.2 = false := by simpa using t1
              have HB : Hid (kidsOk low last ks = false) := all_range_false (k := i) (by omega) (by rw [HKO.out]; simp [t1'])
              clear hK1
              go_wp2
              go_ret
              exact ⟨by rw [HD.out, HSE.out, HB.out]; rfl, hbq 0⟩
          · have HB : Hid (kidsOk low last ks = true) := by have := hok.out; rw [show i = n by omega, ← HL.out] at this; exact this
            go_wp2
            go_ret
            exact ⟨by rw [HD.out, HSE.out, HB.out]; rfl, hbel⟩
      · have hse2 : s0.toList.isEmpty = false := by simp [hse]
        go_enter Try.func129, Try.ntmps129
        go_wp2
        go_ret
        refine ⟨?_, (Below.refl _ _).alloc (Nat.le_refl _) _⟩
        rw [HD.out, hse2]
        rfl
end Go.Proofs.Ytcmhobbpeaeebaa
namespace Go.Proofs.Ytcmhobbpeaeebaa
open Go.RowKit
set_option linter.unusedVariables false
set_option maxRecDepth 100000

set_option maxHeartbeats 3200000 in
theorem leafValid_any (M : Nat) (ea : Option Addr) (n ec : Nat) (es : List PE) (low last : Int) (hlow : 1 ≤ low) (w : World) (A B : Nat) (hB : B ≤ w.heap.size) (hE : EntsAt w A B ea n ec es) (hM : w.heap[M]? = some (.cells #[.slice ea n ec] 142)) :
    Calls Try.prog 137 #[.pointer (some ⟨M, 0, none⟩), .agg #[.int .i64 low, .int .i64 last]] w fun e w' => e = .returned (.bool (decide (n ≤ 4) && entsOk low last es)) ∧ Below w.heap.size w w' := by
  have m0 := box_one hM
  have hlt : M < w.heap.size := (Array.getElem?_eq_some_iff.1 hM).1
  have hn63 := Nat.le_trans hE.2.1 hE.2.2.1
  have HL : Hid (es.length = n) := hE.1
  unfold maxLen at hn63
  by_cases h4 : 4 < n
  · go_enter Try.func137, Try.ntmps137
    go_wp2
    go_ret
    refine ⟨?_, (Below.refl _ _).alloc (Nat.le_refl _) _⟩
    rw [show decide (n ≤ 4) = false by simp; omega]
    rfl
  · have HD : Hid ((decide (n ≤ 4) && entsOk low last es) = entsOk low last es) := by
      show _ = _
      rw [show decide (n ≤ 4) = true by simp; omega]
      rfl
    go_enter Try.func137, Try.ntmps137
    go_wp2_with fail
    go_loopw [18] (fun iv wr => ∃ i : Nat, i ≤ n ∧ iv = .int .i64 i ∧ Hid ((List.range i).all (entOk low last es) = true) ∧ Below w.heap.size w wr ∧ Hid (wr.heap[w.heap.size]? = some (.cells #[.int .i64 low, .int .i64 last] 89))) (fun iv _ => n - (intOf iv).toNat)
    case atStart => exact ⟨0, Nat.zero_le _, rfl, rfl, (Below.refl _ _).alloc (Nat.le_refl _) _, heap_alloc_new w _⟩
    case round =>
      obtain ⟨i, hi, rfl, hok, hbel, hsp⟩ := hrel
      by_cases hli : i < n
      · obtain ⟨b, off, rfl, hb, hfk, f0, f1, f2, f3⟩ := EntsAt.at (hE.below (hbel.mono hB)) (i := i) hli
        have HEO : Hid (entOk low last es i = (keyB (es.getD i dE).1 && (shortB (es.getD i dE) || longB low last (es.getD i dE)) && !(decide (0 < i) && geB (es.getD (i - 1) dE).1 (es.getD i dE).1))) := rfl
        have hnk : n ≤ es.length := by have := HL.out; omega
        generalize hkd : es.getD i dE = kd at f0 f1 f2 f3 HEO hfk
        clear hkd
        have hws := hbel.size
        have hspl : w.heap.size < wr.heap.size := (Array.getElem?_eq_some_iff.1 hsp.out).1
        have hbw : b < wr.heap.size := by omega
        have HB0 := hbel.alloc (o := (.cells #[.string kd.1, .string kd.2.1, .int .i64 kd.2.2.1, .int .i64 kd.2.2.2] 102)) hws
        have HE0 : (wr.alloc (.cells #[.string kd.1, .string kd.2.1, .int .i64 kd.2.2.1, .int .i64 kd.2.2.2] 102)).heap[wr.heap.size]? = some (.cells #[.string kd.1, .string kd.2.1, .int .i64 kd.2.2.1, .int .i64 kd.2.2.2] 102) := heap_alloc_new wr _
        have HS0 := eb_call hsp.out ((Below.refl _ wr).alloc (Nat.le_refl _) (.cells #[.string kd.1, .string kd.2.1, .int .i64 kd.2.2.1, .int .i64 kd.2.2.2] 102))
        have hE1 := hE.below (HB0.mono hB)
        go_wp2_with fail
        generalize wr.alloc (.cells #[.string kd.1, .string kd.2.1, .int .i64 kd.2.2.1, .int .i64 kd.2.2.2] 102) = W0 at HB0 HE0 HS0 hE1 ⊢
        generalize wr.heap.size = E at HE0 ⊢
        clear hbel hsp f0 f1 f2 f3 hws hspl hbw
        obtain ⟨y0, y1, y2, y3⟩ := box_four HE0
        obtain ⟨x0, x1⟩ := box_two HS0
        have m1 := (HB0.cell (p := ⟨M, 0, none⟩) hlt).trans m0
        have hbq : ∀ q, Below w.heap.size w (W0.drewN q) := fun q => HB0.trans ⟨rfl, rfl, rfl, Nat.le_refl _, fun _ _ => rfl⟩
        have HALL : ∀ q, Below w.heap.size w (W0.drewN q) ∧ (W0.drewN q).heap[E]? = some (.cells #[.string kd.1, .string kd.2.1, .int .i64 kd.2.2.1, .int .i64 kd.2.2.2] 102) ∧ (W0.drewN q).heap[w.heap.size]? = some (.cells #[.int .i64 low, .int .i64 last] 89) := fun q => ⟨hbq q, HE0, HS0⟩
        by_cases t2 : keyB kd.1 = true
        · by_cases t4 : 0 < i
          · obtain ⟨b'', off'', hbo, hb'', hfj, g0, _⟩ := EntsAt.at hE1 (i := i - 1) (by omega)
            simp only [Option.some.injEq, Addr.mk.injEq, and_true] at hbo
            obtain ⟨rfl, rfl⟩ := hbo
            generalize hpd : es.getD (i - 1) dE = pd at g0 HEO
            clear hpd hE1
            obtain ⟨k1, hk1⟩ : ∃ k1, k1 = i - 1 := ⟨_, rfl⟩
            rw [← hk1] at g0
            have i2 : (i : Int) - 1 = (k1 : Int) := by omega
            have i1 : k1 < n := by omega
            have i3 : IntKind.i64.wrap (k1 : Int) = (k1 : Int) := by rw [IntKind.wrap_i64]; omega
            have s4 : decide ((0 : Int) < (i : Int)) = true := by simp; omega
            clear hk1
            by_cases t5 : geB pd.1 kd.1 = true
            · have HB : Hid (entsOk low last es = false) := all_range_false (k := i) (by omega) (by rw [HEO.out]; simp [t4, t5])
              have s5 : Op.bytesLess pd.1.toList kd.1.toList = false := by simpa [geB] using t5
              go_wp2_with fail
              go_quiet ((go_at_call 132; exact Calls.quiet_of_same (isKey_any _ hfk.1 _)))
              go_wp2
              go_ret
              exact ⟨by rw [HD.out, HB.out]; rfl, hbq _⟩
            · have s5 : Op.bytesLess pd.1.toList kd.1.toList = true := by simpa [geB] using t5
              have t5' : geB pd.1 kd.1 = false := by simpa using t5
              go_wp2_with fail
              go_quiet ((go_at_call 132; exact Calls.quiet_of_same (isKey_any _ hfk.1 _)))
              go_wp2_with fail
              obtain ⟨HBw, HEw, HSw⟩ := HALL nq
              generalize W0.drewN nq = W1 at HBw HEw HSw ⊢
              clear HALL hbq HE0 HS0 HB0 y0 y1 y2 y3 x0 x1
              refine (validEnt_any kd hfk low last hlow W1).mono ?_
              rintro e w2 ⟨rfl, hb2⟩
              have HB2 := HBw.trans (hb2.mono HBw.size)
              have HS2 := eb_call HSw hb2
              by_cases t1 : (shortB kd || longB low last kd) = true
              · have HB : Hid ((List.range (i + 1)).all (entOk low last es) = true) := all_range_succ hok.out (by rw [HEO.out]; simp only [t2, t5', t1]; simp)
                go_wp2
                go_roundw
                case rel => exact ⟨i + 1, by omega, by go_num, HB, HB2, HS2⟩
                case measure => simp [intOf]; omega
              · have t1' : (shortB kd || longB low last kd) = false := by simpa using t1
                have HB : Hid (entsOk low last es = false) := all_range_false (k := i) (by omega) (by rw [HEO.out, t1']; simp)
                go_wp2
                go_ret
                exact ⟨by rw [HD.out, HB.out]; rfl, HB2⟩
          · have s4 : decide ((0 : Int) < (i : Int)) = false := by simp; omega
            have t4' : decide (0 < i) = false := by simpa using t4
            clear hE1
            go_wp2_with fail
            go_quiet ((go_at_call 132; exact Calls.quiet_of_same (isKey_any _ hfk.1 _)))
            go_wp2_with fail
            obtain ⟨HBw, HEw, HSw⟩ := HALL nq
            generalize W0.drewN nq = W1 at HBw HEw HSw ⊢
            clear HALL hbq HE0 HS0 HB0 y0 y1 y2 y3 x0 x1
            refine (validEnt_any kd hfk low last hlow W1).mono ?_
            rintro e w2 ⟨rfl, hb2⟩
            have HB2 := HBw.trans (hb2.mono HBw.size)
            have HS2 := eb_call HSw hb2
            by_cases t1 : (shortB kd || longB low last kd) = true
            · have HB : Hid ((List.range (i + 1)).all (entOk low last es) = true) := all_range_succ hok.out (by rw [HEO.out]; simp only [t2, t4', t1]; simp)
              go_wp2
              go_roundw
              case rel => exact ⟨i + 1, by omega, by go_num, HB, HB2, HS2⟩
              case measure => simp [intOf]; omega
            · have t1' : (shortB kd || longB low last kd) = false := by simpa using t1
              have HB : Hid (entsOk low last es = false) := all_range_false (k := i) (by omega) (by rw [HEO.out, t1']; simp)
              go_wp2
              go_ret
              exact ⟨by rw [HD.out, HB.out]; rfl, HB2⟩
        · have HB : Hid (entsOk low last es = false) := all_range_false (k := i) (by omega) (by rw [HEO.out]; simp [t2])
          have t2' : keyB kd.1 = false := by simpa using t2
          clear hE1
          go_wp2_with fail
          go_quiet ((go_at_call 132; exact Calls.quiet_of_same (isKey_any _ hfk.1 _)))
          go_wp2
          go_ret
          exact ⟨by rw [HD.out, HB.out]; rfl, hbq _⟩
      · have HB : Hid (entsOk low last es = true) := by have := hok.out; rw [show i = n by omega, ← HL.out] at this; exact this
        go_wp2
        go_ret
        exact ⟨by rw [HD.out, HB.out]; rfl, hbel⟩
end Go.Proofs.Ytcmhobbpeaeebaa
namespace Go.Proofs.Ytcmhobbpeaeebaa
open Go.RowKit
set_option linter.unusedVariables false
set_option maxRecDepth 100000

theorem box_oneS {w : World} {N : Nat} {v0 : Value} {t : TypeId} (h : w.heap[N]? = some (.cells #[v0] t)) : w.cell? ⟨N, 0, none⟩ = some v0 := by simp [World.cell?, h]
theorem box_twoS {w : World} {N : Nat} {v0 v1 : Value} {t : TypeId} (h : w.heap[N]? = some (.cells #[v0, v1] t)) : w.cell? ⟨N, 0, none⟩ = some v0 ∧ w.cell? ⟨N, 1, none⟩ = some v1 := by
  refine ⟨?_, ?_⟩ <;> simp [World.cell?, h]
theorem equalK_len (a a2 : Option Addr) (n c n2 c2 : Nat) (h : n ≠ n2) (w : World) :
    Calls Try.prog 99 #[.slice a n c, .slice a2 n2 c2] w fun e w' => e = .returned (.bool false) ∧ w' = w := by
  have hne : ((n : Int) != (n2 : Int)) = true := by simp; omega
  go_enter Try.func99, Try.ntmps99
  go_wp2
  go_ret
  exact ⟨rfl, rfl⟩
set_option maxHeartbeats 400000 in
theorem equalK_same (a a2 : Option Addr) (n c c2 : Nat) (ks : List PK) (w : World) (A B A2 B2 : Nat) (h : KidsAt w A B a n c ks) (h2 : KidsAt w A2 B2 a2 n c2 ks) :
    Calls Try.prog 99 #[.slice a n c, .slice a2 n c2] w fun e w' => e = .returned (.bool true) ∧ ∃ m, w' = w.drewN m := by
  have hc := h.2.2.1
  have hnc := h.2.1
  unfold maxLen at hc
  have hne : ((n : Int) != (n : Int)) = false := by simp
  go_enter Try.func99, Try.ntmps99
  go_wp2_with fail
  go_loopw [13] (fun iv wr => ∃ i : Nat, i ≤ n ∧ iv = .int .i64 i ∧ Hid (∃ m, wr = w.drewN m)) (fun iv _ => n - (intOf iv).toNat)
  case atStart => exact ⟨0, Nat.zero_le _, rfl, 0, rfl⟩
  case round =>
    obtain ⟨i, hi, rfl, hq⟩ := hrel
    have HD : Hid (∀ q, ∃ m, wr.drewN q = w.drewN m) := by
      obtain ⟨q0, h0⟩ := hq.out
      intro q
      exact ⟨q0 + q, by rw [h0, World.drewN_drewN]⟩
    have h' : KidsAt wr A B a n c ks := by
      obtain ⟨q0, h0⟩ := hq.out
      rw [h0]; exact h
    have h2' : KidsAt wr A2 B2 a2 n c2 ks := by
      obtain ⟨q0, h0⟩ := hq.out
      rw [h0]; exact h2
    clear h h2
    by_cases hlt : i < n
    · obtain ⟨b, off, rfl, hb, hfit, e0, e1⟩ := KidsAt.at h' hlt
      obtain ⟨b2, off2, rfl, hb2, hfit2, f0, f1⟩ := KidsAt.at h2' hlt
      generalize ks.getD i dK = kd at e0 e1 f0 f1
      clear h' h2' hfit hfit2
      go_wp2_with fail
      go_quiet (fail)
      go_wp2
      go_roundw
      case rel => exact ⟨i + 1, by omega, by go_num, HD.out _⟩
      case measure => simp [intOf]; omega
    · go_wp2
      go_ret
      exact ⟨rfl, hq.out⟩
theorem equalE_len (a a2 : Option Addr) (n c n2 c2 : Nat) (h : n ≠ n2) (w : World) :
    Calls Try.prog 100 #[.slice a n c, .slice a2 n2 c2] w fun e w' => e = .returned (.bool false) ∧ w' = w := by
  have hne : ((n : Int) != (n2 : Int)) = true := by simp; omega
  go_enter Try.func100, Try.ntmps100
  go_wp2
  go_ret
  exact ⟨rfl, rfl⟩
set_option maxHeartbeats 400000 in
theorem equalE_same (a a2 : Option Addr) (n c c2 : Nat) (ks : List PE) (w : World) (A B A2 B2 : Nat) (h : EntsAt w A B a n c ks) (h2 : EntsAt w A2 B2 a2 n c2 ks) :
    Calls Try.prog 100 #[.slice a n c, .slice a2 n c2] w fun e w' => e = .returned (.bool true) ∧ ∃ m, w' = w.drewN m := by
  have hc := h.2.2.1
  have hnc := h.2.1
  unfold maxLen at hc
  have hne : ((n : Int) != (n : Int)) = false := by simp
  go_enter Try.func100, Try.ntmps100
  go_wp2_with fail
  go_loopw [13] (fun iv wr => ∃ i : Nat, i ≤ n ∧ iv = .int .i64 i ∧ Hid (∃ m, wr = w.drewN m)) (fun iv _ => n - (intOf iv).toNat)
  case atStart => exact ⟨0, Nat.zero_le _, rfl, 0, rfl⟩
  case round =>
    obtain ⟨i, hi, rfl, hq⟩ := hrel
    have HD : Hid (∀ q, ∃ m, wr.drewN q = w.drewN m) := by
      obtain ⟨q0, h0⟩ := hq.out
      intro q
      exact ⟨q0 + q, by rw [h0, World.drewN_drewN]⟩
    have h' : EntsAt wr A B a n c ks := by
      obtain ⟨q0, h0⟩ := hq.out
      rw [h0]; exact h
    have h2' : EntsAt wr A2 B2 a2 n c2 ks := by
      obtain ⟨q0, h0⟩ := hq.out
      rw [h0]; exact h2
    clear h h2
    by_cases hlt : i < n
    · obtain ⟨b, off, rfl, hb, hfit, e0, e1, e2, e3⟩ := EntsAt.at h' hlt
      obtain ⟨b2, off2, rfl, hb2, hfit2, f0, f1, f2, f3⟩ := EntsAt.at h2' hlt
      generalize ks.getD i dE = kd at e0 e1 e2 e3 f0 f1 f2 f3
      clear h' h2' hfit hfit2
      go_wp2_with fail
      go_quiet (fail)
      go_wp2
      go_roundw
      case rel => exact ⟨i + 1, by omega, by go_num, HD.out _⟩
      case measure => simp [intOf]; omega
    · go_wp2
      go_ret
      exact ⟨rfl, hq.out⟩

-- the bodies: count, page
theorem metaCount_any (M : Nat) (w : World) : Calls Try.prog 118 #[.pointer (some ⟨M, 0, none⟩)] w fun e w' => e = .returned (.int .i64 0) ∧ w' = w := by
  go_enter Try.func118, Try.ntmps118
  go_wp2
  go_ret
  exact ⟨rfl, rfl⟩
theorem overCount_any (M : Nat) (w : World) : Calls Try.prog 141 #[.pointer (some ⟨M, 0, none⟩)] w fun e w' => e = .returned (.int .i64 0) ∧ w' = w := by
  go_enter Try.func141, Try.ntmps141
  go_wp2
  go_ret
  exact ⟨rfl, rfl⟩
theorem branchCount_any (M : Nat) (ka : Option Addr) (n kc : Nat) (w : World) (hM : w.heap[M]? = some (.cells #[.slice ka n kc] 139)) : Calls Try.prog 126 #[.pointer (some ⟨M, 0, none⟩)] w fun e w' => e = .returned (.int .i64 n) ∧ w' = w := by
  have m0 := box_oneS hM
  go_enter Try.func126, Try.ntmps126
  go_wp2
  go_ret
  exact ⟨rfl, rfl⟩
theorem leafCount_any (M : Nat) (ka : Option Addr) (n kc : Nat) (w : World) (hM : w.heap[M]? = some (.cells #[.slice ka n kc] 142)) : Calls Try.prog 134 #[.pointer (some ⟨M, 0, none⟩)] w fun e w' => e = .returned (.int .i64 n) ∧ w' = w := by
  have m0 := box_oneS hM
  go_enter Try.func134, Try.ntmps134
  go_wp2
  go_ret
  exact ⟨rfl, rfl⟩
theorem metaPage_any (M : Nat) (id root count : Int) (w : World) (hM : w.heap[M]? = some (.cells #[.int .i64 id, .int .i64 root, .int .i64 count] 136)) : Calls Try.prog 119 #[.pointer (some ⟨M, 0, none⟩)] w fun e w' => e = .returned (.agg #[.int .i64 1, .int .i64 0, .int .i64 id, .int .i64 root, .int .i64 count, .slice none 0 0, .slice none 0 0, .int .i64 0, .string ByteArray.empty]) ∧ Below w.heap.size w w' := by
  obtain ⟨m0, m1, m2⟩ := box_form hM
  have hlt : M < w.heap.size := (Array.getElem?_eq_some_iff.1 hM).1
  go_enter Try.func119, Try.ntmps119
  go_wp2
  exact bodyPost_ret (v := .agg #[.int .i64 1, .int .i64 0, .int .i64 id, .int .i64 root, .int .i64 count, .slice none 0 0, .slice none 0 0, .int .i64 0, .string ByteArray.empty]) (by simp [results, Try.results119, go_sem]; first | done | rfl) rfl ⟨rfl, by first | exact Below.refl _ _ | exact (Below.refl _ _).alloc (Nat.le_refl _) _ | exact ((Below.refl _ _).alloc (Nat.le_refl _) _).alloc (by simp) _⟩
theorem branchPage_any (M : Nat) (ka : Option Addr) (n kc : Nat) (w : World) (hM : w.heap[M]? = some (.cells #[.slice ka n kc] 139)) : Calls Try.prog 127 #[.pointer (some ⟨M, 0, none⟩)] w fun e w' => e = .returned (.agg #[.int .i64 2, .int .i64 0, .int .i64 0, .int .i64 0, .int .i64 0, .slice ka n kc, .slice none 0 0, .int .i64 0, .string ByteArray.empty]) ∧ Below w.heap.size w w' := by
  have m0 := box_oneS hM
  have hlt : M < w.heap.size := (Array.getElem?_eq_some_iff.1 hM).1
  go_enter Try.func127, Try.ntmps127
  go_wp2
  exact bodyPost_ret (v := .agg #[.int .i64 2, .int .i64 0, .int .i64 0, .int .i64 0, .int .i64 0, .slice ka n kc, .slice none 0 0, .int .i64 0, .string ByteArray.empty]) (by simp [results, Try.results127, go_sem]; first | done | rfl) rfl ⟨rfl, by first | exact Below.refl _ _ | exact (Below.refl _ _).alloc (Nat.le_refl _) _ | exact ((Below.refl _ _).alloc (Nat.le_refl _) _).alloc (by simp) _⟩
theorem leafPage_any (M : Nat) (ka : Option Addr) (n kc : Nat) (w : World) (hM : w.heap[M]? = some (.cells #[.slice ka n kc] 142)) : Calls Try.prog 135 #[.pointer (some ⟨M, 0, none⟩)] w fun e w' => e = .returned (.agg #[.int .i64 3, .int .i64 0, .int .i64 0, .int .i64 0, .int .i64 0, .slice none 0 0, .slice ka n kc, .int .i64 0, .string ByteArray.empty]) ∧ Below w.heap.size w w' := by
  have m0 := box_oneS hM
  have hlt : M < w.heap.size := (Array.getElem?_eq_some_iff.1 hM).1
  go_enter Try.func135, Try.ntmps135
  go_wp2
  exact bodyPost_ret (v := .agg #[.int .i64 3, .int .i64 0, .int .i64 0, .int .i64 0, .int .i64 0, .slice none 0 0, .slice ka n kc, .int .i64 0, .string ByteArray.empty]) (by simp [results, Try.results135, go_sem]; first | done | rfl) rfl ⟨rfl, by first | exact Below.refl _ _ | exact (Below.refl _ _).alloc (Nat.le_refl _) _ | exact ((Below.refl _ _).alloc (Nat.le_refl _) _).alloc (by simp) _⟩
theorem overPage_any (M : Nat) (next : Int) (data : ByteArray) (w : World) (hM : w.heap[M]? = some (.cells #[.int .i64 next, .string data] 145)) : Calls Try.prog 142 #[.pointer (some ⟨M, 0, none⟩)] w fun e w' => e = .returned (.agg #[.int .i64 4, .int .i64 0, .int .i64 0, .int .i64 0, .int .i64 0, .slice none 0 0, .slice none 0 0, .int .i64 next, .string data]) ∧ Below w.heap.size w w' := by
  obtain ⟨m0, m1⟩ := box_twoS hM
  have hlt : M < w.heap.size := (Array.getElem?_eq_some_iff.1 hM).1
  go_enter Try.func142, Try.ntmps142
  go_wp2_with fail
  go_region_held3 (fun w' => w'.cell? ⟨M, 0, none⟩ = some (.int .i64 next) ∧ w'.cell? ⟨M, 1, none⟩ = some (.string data)) (go_keep) (fail)
  go_wp2
  exact bodyPost_ret (v := .agg #[.int .i64 4, .int .i64 0, .int .i64 0, .int .i64 0, .int .i64 0, .slice none 0 0, .slice none 0 0, .int .i64 next, .string data]) (by simp [results, Try.results142, go_sem]; first | done | rfl) rfl ⟨rfl, by first | exact below_dn2 (Below.refl _ _) (Nat.le_refl _) | exact (((Below.refl _ _).alloc (Nat.le_refl _) _).alloc (by simp) _).trans ⟨rfl, rfl, rfl, Nat.le_refl _, fun _ _ => rfl⟩ | exact (Below.refl _ w).trans ⟨rfl, rfl, rfl, Nat.le_refl _, fun _ _ => rfl⟩⟩
theorem kindBody_meta (tx id root count : Int) (ka : Option Addr) (kn kc : Nat) (ea : Option Addr) (en ec : Nat) (next : Int) (data : ByteArray) (w : World) :
    Calls Try.prog 81 #[.agg #[.int .i64 1, .int .i64 tx, .int .i64 id, .int .i64 root, .int .i64 count, .slice ka kn kc, .slice ea en ec, .int .i64 next, .string data]] w fun e w' => ∃ M, e = .returned (.iface 134 (.pointer (some ⟨M, 0, none⟩))) ∧ w.heap.size ≤ M ∧ w'.heap[M]? = some (.cells #[.int .i64 id, .int .i64 root, .int .i64 count] 136) ∧ Below w.heap.size w w' := by
  go_enter Try.func81, Try.ntmps81
  go_wp2
  go_ret
  refine ⟨w.heap.size + 1, rfl, by omega, ?_, ((Below.refl _ _).alloc (Nat.le_refl _) _).alloc (by simp) _⟩
  have := heap_alloc_new (w.alloc (.cells #[.int .i64 1, .int .i64 tx, .int .i64 id, .int .i64 root, .int .i64 count, .slice ka kn kc, .slice ea en ec, .int .i64 next, .string data] 28)) (.cells #[.int .i64 id, .int .i64 root, .int .i64 count] 136)
  simpa using this
theorem kindBody_branch (tx id root count : Int) (ka : Option Addr) (kn kc : Nat) (ea : Option Addr) (en ec : Nat) (next : Int) (data : ByteArray) (w : World) :
    Calls Try.prog 81 #[.agg #[.int .i64 2, .int .i64 tx, .int .i64 id, .int .i64 root, .int .i64 count, .slice ka kn kc, .slice ea en ec, .int .i64 next, .string data]] w fun e w' => ∃ M, e = .returned (.iface 137 (.pointer (some ⟨M, 0, none⟩))) ∧ w.heap.size ≤ M ∧ w'.heap[M]? = some (.cells #[.slice ka kn kc] 139) ∧ Below w.heap.size w w' := by
  go_enter Try.func81, Try.ntmps81
  go_wp2
  go_ret
  refine ⟨w.heap.size + 1, rfl, by omega, ?_, ((Below.refl _ _).alloc (Nat.le_refl _) _).alloc (by simp) _⟩
  have := heap_alloc_new (w.alloc (.cells #[.int .i64 2, .int .i64 tx, .int .i64 id, .int .i64 root, .int .i64 count, .slice ka kn kc, .slice ea en ec, .int .i64 next, .string data] 28)) (.cells #[.slice ka kn kc] 139)
  simpa using this
theorem kindBody_leaf (tx id root count : Int) (ka : Option Addr) (kn kc : Nat) (ea : Option Addr) (en ec : Nat) (next : Int) (data : ByteArray) (w : World) :
    Calls Try.prog 81 #[.agg #[.int .i64 3, .int .i64 tx, .int .i64 id, .int .i64 root, .int .i64 count, .slice ka kn kc, .slice ea en ec, .int .i64 next, .string data]] w fun e w' => ∃ M, e = .returned (.iface 140 (.pointer (some ⟨M, 0, none⟩))) ∧ w.heap.size ≤ M ∧ w'.heap[M]? = some (.cells #[.slice ea en ec] 142) ∧ Below w.heap.size w w' := by
  go_enter Try.func81, Try.ntmps81
  go_wp2
  go_ret
  refine ⟨w.heap.size + 1, rfl, by omega, ?_, ((Below.refl _ _).alloc (Nat.le_refl _) _).alloc (by simp) _⟩
  have := heap_alloc_new (w.alloc (.cells #[.int .i64 3, .int .i64 tx, .int .i64 id, .int .i64 root, .int .i64 count, .slice ka kn kc, .slice ea en ec, .int .i64 next, .string data] 28)) (.cells #[.slice ea en ec] 142)
  simpa using this
theorem kindBody_over (tx id root count : Int) (ka : Option Addr) (kn kc : Nat) (ea : Option Addr) (en ec : Nat) (next : Int) (data : ByteArray) (w : World) :
    Calls Try.prog 81 #[.agg #[.int .i64 4, .int .i64 tx, .int .i64 id, .int .i64 root, .int .i64 count, .slice ka kn kc, .slice ea en ec, .int .i64 next, .string data]] w fun e w' => ∃ M, e = .returned (.iface 143 (.pointer (some ⟨M, 0, none⟩))) ∧ w.heap.size ≤ M ∧ w'.heap[M]? = some (.cells #[.int .i64 next, .string data] 145) ∧ Below w.heap.size w w' := by
  go_enter Try.func81, Try.ntmps81
  go_wp2
  go_ret
  refine ⟨w.heap.size + 1, rfl, by omega, ?_, ((Below.refl _ _).alloc (Nat.le_refl _) _).alloc (by simp) _⟩
  have := heap_alloc_new (w.alloc (.cells #[.int .i64 4, .int .i64 tx, .int .i64 id, .int .i64 root, .int .i64 count, .slice ka kn kc, .slice ea en ec, .int .i64 next, .string data] 28)) (.cells #[.int .i64 next, .string data] 145)
  simpa using this
theorem kindBody_nil (kind tx id root count : Int) (hk1 : kind ≠ 1) (hk2 : kind ≠ 2) (hk3 : kind ≠ 3) (hk4 : kind ≠ 4) (ka : Option Addr) (kn kc : Nat) (ea : Option Addr) (en ec : Nat) (next : Int) (data : ByteArray) (w : World) :
    Calls Try.prog 81 #[.agg #[.int .i64 kind, .int .i64 tx, .int .i64 id, .int .i64 root, .int .i64 count, .slice ka kn kc, .slice ea en ec, .int .i64 next, .string data]] w fun e w' => e = .returned .nilIface ∧ Below w.heap.size w w' := by
  have k1 : (kind == 1) = false := by simp; exact hk1
  have k2 : (kind == 2) = false := by simp; exact hk2
  have k3 : (kind == 3) = false := by simp; exact hk3
  have k4 : (kind == 4) = false := by simp; exact hk4
  go_enter Try.func81, Try.ntmps81
  go_wp2
  go_ret
  exact ⟨rfl, (Below.refl _ _).alloc (Nat.le_refl _) _⟩
end Go.Proofs.Ytcmhobbpeaeebaa
namespace Go.Proofs.Ytcmhobbpeaeebaa
open Go.RowKit
set_option linter.unusedVariables false
set_option maxRecDepth 100000

theorem equalK_nil (a : Option Addr) (n c : Nat) (ks : List PK) (w : World) (A B : Nat) (h : KidsAt w A B a n c ks) :
    Calls Try.prog 99 #[.slice none 0 0, .slice a n c] w fun e w' => e = .returned (.bool (decide (n = 0))) ∧ ∃ q, w' = w.drewN q := by
  by_cases h0 : n = 0
  · subst h0
    have hk : ks = [] := List.eq_nil_of_length_eq_zero h.1
    subst hk
    exact equalK_same none a 0 0 c [] w 0 0 A B ⟨rfl, Nat.le_refl _, Nat.zero_le _, fun i hi => absurd hi (Nat.not_lt_zero _), fun hi => absurd hi (Nat.lt_irrefl _)⟩ h
  · refine (equalK_len none a 0 0 n c (fun e => h0 e.symm) w).mono ?_
    rintro e w' ⟨rfl, rfl⟩
    exact ⟨by simp [h0], 0, rfl⟩
theorem equalE_nil (a : Option Addr) (n c : Nat) (ks : List PE) (w : World) (A B : Nat) (h : EntsAt w A B a n c ks) :
    Calls Try.prog 100 #[.slice none 0 0, .slice a n c] w fun e w' => e = .returned (.bool (decide (n = 0))) ∧ ∃ q, w' = w.drewN q := by
  by_cases h0 : n = 0
  · subst h0
    have hk : ks = [] := List.eq_nil_of_length_eq_zero h.1
    subst hk
    exact equalE_same none a 0 0 c [] w 0 0 A B ⟨rfl, Nat.le_refl _, Nat.zero_le _, fun i hi => absurd hi (Nat.not_lt_zero _), fun hi => absurd hi (Nat.lt_irrefl _)⟩ h
  · refine (equalE_len none a 0 0 n c (fun e => h0 e.symm) w).mono ?_
    rintro e w' ⟨rfl, rfl⟩
    exact ⟨by simp [h0], 0, rfl⟩
theorem below_two (w : World) (a b : Obj) : Below w.heap.size w ((w.alloc a).alloc b) := ((Below.refl _ _).alloc (Nat.le_refl _) _).alloc (by simp) _
theorem below_two_dn (w : World) (a b : Obj) (q : Nat) : Below w.heap.size w (((w.alloc a).alloc b).drewN q) := (below_two w a b).trans ⟨rfl, rfl, rfl, Nat.le_refl _, fun _ _ => rfl⟩
set_option maxHeartbeats 3200000 in
theorem same_meta (tx id root count : Int) (ka : Option Addr) (n kc : Nat) (ks : List PK) (ea : Option Addr) (m ec : Nat) (es : List PE) (next : Int) (data : ByteArray) (w : World) (A B : Nat) (hB : B ≤ w.heap.size) (hK : KidsAt w A B ka n kc ks) (hE : EntsAt w A B ea m ec es) :
    Calls Try.prog 93 #[.agg #[.int .i64 1, .int .i64 tx, .int .i64 id, .int .i64 root, .int .i64 count, .slice none 0 0, .slice none 0 0, .int .i64 0, .string ByteArray.empty], .agg #[.int .i64 1, .int .i64 tx, .int .i64 id, .int .i64 root, .int .i64 count, .slice ka n kc, .slice ea m ec, .int .i64 next, .string data]] w fun e w' => e = .returned (.bool (decide (n = 0) && decide (m = 0) && decide (next = 0) && data.toList.isEmpty)) ∧ Below w.heap.size w w' := by
  by_cases h_n : n = 0
  · subst h_n
    by_cases h_m : m = 0
    · subst h_m
      by_cases h_next : next = 0
      · subst h_next
        go_enter Try.func93, Try.ntmps93
        go_wp2_with (first | (go_at_call 99; refine (equalK_nil _ _ kc ks _ A B (hK.below ((below_two w _ _).mono hB))).mono ?_; rintro e w1 ⟨rfl, q1, rfl⟩) | (go_at_call 100; refine (equalE_nil _ _ ec es _ A B (hE.below ((below_two_dn w _ _ q1).mono hB))).mono ?_; rintro e w2 ⟨rfl, q2, rfl⟩))
        go_ret
        refine ⟨?_, by first | exact below_two _ _ _ | exact below_two_dn _ _ _ _ | (rw [World.drewN_drewN]; exact below_two_dn _ _ _ _)⟩
        first | (simp [*]; done) | rfl
      · have hx1 : ¬ 0 = next := fun e => h_next e.symm
        go_enter Try.func93, Try.ntmps93
        go_wp2_with (first | (go_at_call 99; refine (equalK_nil _ _ kc ks _ A B (hK.below ((below_two w _ _).mono hB))).mono ?_; rintro e w1 ⟨rfl, q1, rfl⟩) | (go_at_call 100; refine (equalE_nil _ _ ec es _ A B (hE.below ((below_two_dn w _ _ q1).mono hB))).mono ?_; rintro e w2 ⟨rfl, q2, rfl⟩))
        go_ret
        refine ⟨?_, by first | exact below_two _ _ _ | exact below_two_dn _ _ _ _ | (rw [World.drewN_drewN]; exact below_two_dn _ _ _ _)⟩
        first | (simp [*]; done) | rfl
    · go_enter Try.func93, Try.ntmps93
      go_wp2_with (first | (go_at_call 99; refine (equalK_nil _ _ kc ks _ A B (hK.below ((below_two w _ _).mono hB))).mono ?_; rintro e w1 ⟨rfl, q1, rfl⟩) | (go_at_call 100; refine (equalE_nil _ _ ec es _ A B (hE.below ((below_two_dn w _ _ q1).mono hB))).mono ?_; rintro e w2 ⟨rfl, q2, rfl⟩))
      go_ret
      refine ⟨?_, by first | exact below_two _ _ _ | exact below_two_dn _ _ _ _ | (rw [World.drewN_drewN]; exact below_two_dn _ _ _ _)⟩
      first | (simp [*]; done) | rfl
  · go_enter Try.func93, Try.ntmps93
    go_wp2_with (first | (go_at_call 99; refine (equalK_nil _ _ kc ks _ A B (hK.below ((below_two w _ _).mono hB))).mono ?_; rintro e w1 ⟨rfl, q1, rfl⟩) | (go_at_call 100; refine (equalE_nil _ _ ec es _ A B (hE.below ((below_two_dn w _ _ q1).mono hB))).mono ?_; rintro e w2 ⟨rfl, q2, rfl⟩))
    go_ret
    refine ⟨?_, by first | exact below_two _ _ _ | exact below_two_dn _ _ _ _ | (rw [World.drewN_drewN]; exact below_two_dn _ _ _ _)⟩
    first | (simp [*]; done) | rfl
set_option maxHeartbeats 3200000 in
theorem same_branch (tx id root count : Int) (ka : Option Addr) (n kc : Nat) (ks : List PK) (ea : Option Addr) (m ec : Nat) (es : List PE) (next : Int) (data : ByteArray) (w : World) (A B : Nat) (hB : B ≤ w.heap.size) (hK : KidsAt w A B ka n kc ks) (hE : EntsAt w A B ea m ec es) :
    Calls Try.prog 93 #[.agg #[.int .i64 2, .int .i64 tx, .int .i64 0, .int .i64 0, .int .i64 0, .slice ka n kc, .slice none 0 0, .int .i64 0, .string ByteArray.empty], .agg #[.int .i64 2, .int .i64 tx, .int .i64 id, .int .i64 root, .int .i64 count, .slice ka n kc, .slice ea m ec, .int .i64 next, .string data]] w fun e w' => e = .returned (.bool (decide (id = 0 ∧ root = 0 ∧ count = 0) && decide (m = 0) && decide (next = 0) && data.toList.isEmpty)) ∧ Below w.heap.size w w' := by
  refine meta_cases id root count ?_ ?_ ?_ ?_
  · rintro rfl rfl rfl
    by_cases h_m : m = 0
    · subst h_m
      by_cases h_next : next = 0
      · subst h_next
        go_enter Try.func93, Try.ntmps93
        go_wp2_with (first | (go_at_call 99; refine (equalK_same _ _ _ kc kc ks _ A B A B (hK.below ((below_two w _ _).mono hB)) (hK.below ((below_two w _ _).mono hB))).mono ?_; rintro e w1 ⟨rfl, q1, rfl⟩) | (go_at_call 100; refine (equalE_nil _ _ ec es _ A B (hE.below ((below_two_dn w _ _ q1).mono hB))).mono ?_; rintro e w2 ⟨rfl, q2, rfl⟩))
        go_ret
        refine ⟨?_, by first | exact below_two _ _ _ | exact below_two_dn _ _ _ _ | (rw [World.drewN_drewN]; exact below_two_dn _ _ _ _)⟩
        first | (simp [*]; done) | rfl
      · have hx1 : ¬ 0 = next := fun e => h_next e.symm
        go_enter Try.func93, Try.ntmps93
        go_wp2_with (first | (go_at_call 99; refine (equalK_same _ _ _ kc kc ks _ A B A B (hK.below ((below_two w _ _).mono hB)) (hK.below ((below_two w _ _).mono hB))).mono ?_; rintro e w1 ⟨rfl, q1, rfl⟩) | (go_at_call 100; refine (equalE_nil _ _ ec es _ A B (hE.below ((below_two_dn w _ _ q1).mono hB))).mono ?_; rintro e w2 ⟨rfl, q2, rfl⟩))
        go_ret
        refine ⟨?_, by first | exact below_two _ _ _ | exact below_two_dn _ _ _ _ | (rw [World.drewN_drewN]; exact below_two_dn _ _ _ _)⟩
        first | (simp [*]; done) | rfl
    · go_enter Try.func93, Try.ntmps93
      go_wp2_with (first | (go_at_call 99; refine (equalK_same _ _ _ kc kc ks _ A B A B (hK.below ((below_two w _ _).mono hB)) (hK.below ((below_two w _ _).mono hB))).mono ?_; rintro e w1 ⟨rfl, q1, rfl⟩) | (go_at_call 100; refine (equalE_nil _ _ ec es _ A B (hE.below ((below_two_dn w _ _ q1).mono hB))).mono ?_; rintro e w2 ⟨rfl, q2, rfl⟩))
      go_ret
      refine ⟨?_, by first | exact below_two _ _ _ | exact below_two_dn _ _ _ _ | (rw [World.drewN_drewN]; exact below_two_dn _ _ _ _)⟩
      first | (simp [*]; done) | rfl
  · intro h1
    have h1' : ¬ 0 = id := fun e => h1 e.symm
    go_enter Try.func93, Try.ntmps93
    go_wp2_with (first | (go_at_call 99; refine (equalK_same _ _ _ kc kc ks _ A B A B (hK.below ((below_two w _ _).mono hB)) (hK.below ((below_two w _ _).mono hB))).mono ?_; rintro e w1 ⟨rfl, q1, rfl⟩) | (go_at_call 100; refine (equalE_nil _ _ ec es _ A B (hE.below ((below_two_dn w _ _ q1).mono hB))).mono ?_; rintro e w2 ⟨rfl, q2, rfl⟩))
    go_ret
    refine ⟨?_, by first | exact below_two _ _ _ | exact below_two_dn _ _ _ _ | (rw [World.drewN_drewN]; exact below_two_dn _ _ _ _)⟩
    first | (simp [*]; done) | rfl
  · intro h0 h1
    subst h0
    have h1' : ¬ 0 = root := fun e => h1 e.symm
    go_enter Try.func93, Try.ntmps93
    go_wp2_with (first | (go_at_call 99; refine (equalK_same _ _ _ kc kc ks _ A B A B (hK.below ((below_two w _ _).mono hB)) (hK.below ((below_two w _ _).mono hB))).mono ?_; rintro e w1 ⟨rfl, q1, rfl⟩) | (go_at_call 100; refine (equalE_nil _ _ ec es _ A B (hE.below ((below_two_dn w _ _ q1).mono hB))).mono ?_; rintro e w2 ⟨rfl, q2, rfl⟩))
    go_ret
    refine ⟨?_, by first | exact below_two _ _ _ | exact below_two_dn _ _ _ _ | (rw [World.drewN_drewN]; exact below_two_dn _ _ _ _)⟩
    first | (simp [*]; done) | rfl
  · intro h0 h2 h1
    subst h0 h2
    have h1' : ¬ 0 = count := fun e => h1 e.symm
    go_enter Try.func93, Try.ntmps93
    go_wp2_with (first | (go_at_call 99; refine (equalK_same _ _ _ kc kc ks _ A B A B (hK.below ((below_two w _ _).mono hB)) (hK.below ((below_two w _ _).mono hB))).mono ?_; rintro e w1 ⟨rfl, q1, rfl⟩) | (go_at_call 100; refine (equalE_nil _ _ ec es _ A B (hE.below ((below_two_dn w _ _ q1).mono hB))).mono ?_; rintro e w2 ⟨rfl, q2, rfl⟩))
    go_ret
    refine ⟨?_, by first | exact below_two _ _ _ | exact below_two_dn _ _ _ _ | (rw [World.drewN_drewN]; exact below_two_dn _ _ _ _)⟩
    first | (simp [*]; done) | rfl
set_option maxHeartbeats 3200000 in
theorem same_leaf (tx id root count : Int) (ka : Option Addr) (n kc : Nat) (ks : List PK) (ea : Option Addr) (m ec : Nat) (es : List PE) (next : Int) (data : ByteArray) (w : World) (A B : Nat) (hB : B ≤ w.heap.size) (hK : KidsAt w A B ka n kc ks) (hE : EntsAt w A B ea m ec es) :
    Calls Try.prog 93 #[.agg #[.int .i64 3, .int .i64 tx, .int .i64 0, .int .i64 0, .int .i64 0, .slice none 0 0, .slice ea m ec, .int .i64 0, .string ByteArray.empty], .agg #[.int .i64 3, .int .i64 tx, .int .i64 id, .int .i64 root, .int .i64 count, .slice ka n kc, .slice ea m ec, .int .i64 next, .string data]] w fun e w' => e = .returned (.bool (decide (id = 0 ∧ root = 0 ∧ count = 0) && decide (n = 0) && decide (next = 0) && data.toList.isEmpty)) ∧ Below w.heap.size w w' := by
  refine meta_cases id root count ?_ ?_ ?_ ?_
  · rintro rfl rfl rfl
    by_cases h_n : n = 0
    · subst h_n
      by_cases h_next : next = 0
      · subst h_next
        go_enter Try.func93, Try.ntmps93
        go_wp2_with (first | (go_at_call 99; refine (equalK_nil _ _ kc ks _ A B (hK.below ((below_two w _ _).mono hB))).mono ?_; rintro e w1 ⟨rfl, q1, rfl⟩) | (go_at_call 100; refine (equalE_same _ _ _ ec ec es _ A B A B (hE.below ((below_two_dn w _ _ q1).mono hB)) (hE.below ((below_two_dn w _ _ q1).mono hB))).mono ?_; rintro e w2 ⟨rfl, q2, rfl⟩))
        go_ret
        refine ⟨?_, by first | exact below_two _ _ _ | exact below_two_dn _ _ _ _ | (rw [World.drewN_drewN]; exact below_two_dn _ _ _ _)⟩
        first | (simp [*]; done) | rfl
      · have hx1 : ¬ 0 = next := fun e => h_next e.symm
        go_enter Try.func93, Try.ntmps93
        go_wp2_with (first | (go_at_call 99; refine (equalK_nil _ _ kc ks _ A B (hK.below ((below_two w _ _).mono hB))).mono ?_; rintro e w1 ⟨rfl, q1, rfl⟩) | (go_at_call 100; refine (equalE_same _ _ _ ec ec es _ A B A B (hE.below ((below_two_dn w _ _ q1).mono hB)) (hE.below ((below_two_dn w _ _ q1).mono hB))).mono ?_; rintro e w2 ⟨rfl, q2, rfl⟩))
        go_ret
        refine ⟨?_, by first | exact below_two _ _ _ | exact below_two_dn _ _ _ _ | (rw [World.drewN_drewN]; exact below_two_dn _ _ _ _)⟩
        first | (simp [*]; done) | rfl
    · go_enter Try.func93, Try.ntmps93
      go_wp2_with (first | (go_at_call 99; refine (equalK_nil _ _ kc ks _ A B (hK.below ((below_two w _ _).mono hB))).mono ?_; rintro e w1 ⟨rfl, q1, rfl⟩) | (go_at_call 100; refine (equalE_same _ _ _ ec ec es _ A B A B (hE.below ((below_two_dn w _ _ q1).mono hB)) (hE.below ((below_two_dn w _ _ q1).mono hB))).mono ?_; rintro e w2 ⟨rfl, q2, rfl⟩))
      go_ret
      refine ⟨?_, by first | exact below_two _ _ _ | exact below_two_dn _ _ _ _ | (rw [World.drewN_drewN]; exact below_two_dn _ _ _ _)⟩
      first | (simp [*]; done) | rfl
  · intro h1
    have h1' : ¬ 0 = id := fun e => h1 e.symm
    go_enter Try.func93, Try.ntmps93
    go_wp2_with (first | (go_at_call 99; refine (equalK_nil _ _ kc ks _ A B (hK.below ((below_two w _ _).mono hB))).mono ?_; rintro e w1 ⟨rfl, q1, rfl⟩) | (go_at_call 100; refine (equalE_same _ _ _ ec ec es _ A B A B (hE.below ((below_two_dn w _ _ q1).mono hB)) (hE.below ((below_two_dn w _ _ q1).mono hB))).mono ?_; rintro e w2 ⟨rfl, q2, rfl⟩))
    go_ret
    refine ⟨?_, by first | exact below_two _ _ _ | exact below_two_dn _ _ _ _ | (rw [World.drewN_drewN]; exact below_two_dn _ _ _ _)⟩
    first | (simp [*]; done) | rfl
  · intro h0 h1
    subst h0
    have h1' : ¬ 0 = root := fun e => h1 e.symm
    go_enter Try.func93, Try.ntmps93
    go_wp2_with (first | (go_at_call 99; refine (equalK_nil _ _ kc ks _ A B (hK.below ((below_two w _ _).mono hB))).mono ?_; rintro e w1 ⟨rfl, q1, rfl⟩) | (go_at_call 100; refine (equalE_same _ _ _ ec ec es _ A B A B (hE.below ((below_two_dn w _ _ q1).mono hB)) (hE.below ((below_two_dn w _ _ q1).mono hB))).mono ?_; rintro e w2 ⟨rfl, q2, rfl⟩))
    go_ret
    refine ⟨?_, by first | exact below_two _ _ _ | exact below_two_dn _ _ _ _ | (rw [World.drewN_drewN]; exact below_two_dn _ _ _ _)⟩
    first | (simp [*]; done) | rfl
  · intro h0 h2 h1
    subst h0 h2
    have h1' : ¬ 0 = count := fun e => h1 e.symm
    go_enter Try.func93, Try.ntmps93
    go_wp2_with (first | (go_at_call 99; refine (equalK_nil _ _ kc ks _ A B (hK.below ((below_two w _ _).mono hB))).mono ?_; rintro e w1 ⟨rfl, q1, rfl⟩) | (go_at_call 100; refine (equalE_same _ _ _ ec ec es _ A B A B (hE.below ((below_two_dn w _ _ q1).mono hB)) (hE.below ((below_two_dn w _ _ q1).mono hB))).mono ?_; rintro e w2 ⟨rfl, q2, rfl⟩))
    go_ret
    refine ⟨?_, by first | exact below_two _ _ _ | exact below_two_dn _ _ _ _ | (rw [World.drewN_drewN]; exact below_two_dn _ _ _ _)⟩
    first | (simp [*]; done) | rfl
set_option maxHeartbeats 3200000 in
theorem same_over (tx id root count : Int) (ka : Option Addr) (n kc : Nat) (ks : List PK) (ea : Option Addr) (m ec : Nat) (es : List PE) (next : Int) (data : ByteArray) (w : World) (A B : Nat) (hB : B ≤ w.heap.size) (hK : KidsAt w A B ka n kc ks) (hE : EntsAt w A B ea m ec es) :
    Calls Try.prog 93 #[.agg #[.int .i64 4, .int .i64 tx, .int .i64 0, .int .i64 0, .int .i64 0, .slice none 0 0, .slice none 0 0, .int .i64 next, .string data], .agg #[.int .i64 4, .int .i64 tx, .int .i64 id, .int .i64 root, .int .i64 count, .slice ka n kc, .slice ea m ec, .int .i64 next, .string data]] w fun e w' => e = .returned (.bool (decide (id = 0 ∧ root = 0 ∧ count = 0) && decide (n = 0) && decide (m = 0))) ∧ Below w.heap.size w w' := by
  refine meta_cases id root count ?_ ?_ ?_ ?_
  · rintro rfl rfl rfl
    by_cases h_n : n = 0
    · subst h_n
      by_cases h_m : m = 0
      · subst h_m
        go_enter Try.func93, Try.ntmps93
        go_wp2_with (first | (go_at_call 99; refine (equalK_nil _ _ kc ks _ A B (hK.below ((below_two w _ _).mono hB))).mono ?_; rintro e w1 ⟨rfl, q1, rfl⟩) | (go_at_call 100; refine (equalE_nil _ _ ec es _ A B (hE.below ((below_two_dn w _ _ q1).mono hB))).mono ?_; rintro e w2 ⟨rfl, q2, rfl⟩))
        go_ret
        refine ⟨?_, by first | exact below_two _ _ _ | exact below_two_dn _ _ _ _ | (rw [World.drewN_drewN]; exact below_two_dn _ _ _ _)⟩
        first | (simp [*]; done) | rfl
      · go_enter Try.func93, Try.ntmps93
        go_wp2_with (first | (go_at_call 99; refine (equalK_nil _ _ kc ks _ A B (hK.below ((below_two w _ _).mono hB))).mono ?_; rintro e w1 ⟨rfl, q1, rfl⟩) | (go_at_call 100; refine (equalE_nil _ _ ec es _ A B (hE.below ((below_two_dn w _ _ q1).mono hB))).mono ?_; rintro e w2 ⟨rfl, q2, rfl⟩))
        go_ret
        refine ⟨?_, by first | exact below_two _ _ _ | exact below_two_dn _ _ _ _ | (rw [World.drewN_drewN]; exact below_two_dn _ _ _ _)⟩
        first | (simp [*]; done) | rfl
    · go_enter Try.func93, Try.ntmps93
      go_wp2_with (first | (go_at_call 99; refine (equalK_nil _ _ kc ks _ A B (hK.below ((below_two w _ _).mono hB))).mono ?_; rintro e w1 ⟨rfl, q1, rfl⟩) | (go_at_call 100; refine (equalE_nil _ _ ec es _ A B (hE.below ((below_two_dn w _ _ q1).mono hB))).mono ?_; rintro e w2 ⟨rfl, q2, rfl⟩))
      go_ret
      refine ⟨?_, by first | exact below_two _ _ _ | exact below_two_dn _ _ _ _ | (rw [World.drewN_drewN]; exact below_two_dn _ _ _ _)⟩
      first | (simp [*]; done) | rfl
  · intro h1
    have h1' : ¬ 0 = id := fun e => h1 e.symm
    go_enter Try.func93, Try.ntmps93
    go_wp2_with (first | (go_at_call 99; refine (equalK_nil _ _ kc ks _ A B (hK.below ((below_two w _ _).mono hB))).mono ?_; rintro e w1 ⟨rfl, q1, rfl⟩) | (go_at_call 100; refine (equalE_nil _ _ ec es _ A B (hE.below ((below_two_dn w _ _ q1).mono hB))).mono ?_; rintro e w2 ⟨rfl, q2, rfl⟩))
    go_ret
    refine ⟨?_, by first | exact below_two _ _ _ | exact below_two_dn _ _ _ _ | (rw [World.drewN_drewN]; exact below_two_dn _ _ _ _)⟩
    first | (simp [*]; done) | rfl
  · intro h0 h1
    subst h0
    have h1' : ¬ 0 = root := fun e => h1 e.symm
    go_enter Try.func93, Try.ntmps93
    go_wp2_with (first | (go_at_call 99; refine (equalK_nil _ _ kc ks _ A B (hK.below ((below_two w _ _).mono hB))).mono ?_; rintro e w1 ⟨rfl, q1, rfl⟩) | (go_at_call 100; refine (equalE_nil _ _ ec es _ A B (hE.below ((below_two_dn w _ _ q1).mono hB))).mono ?_; rintro e w2 ⟨rfl, q2, rfl⟩))
    go_ret
    refine ⟨?_, by first | exact below_two _ _ _ | exact below_two_dn _ _ _ _ | (rw [World.drewN_drewN]; exact below_two_dn _ _ _ _)⟩
    first | (simp [*]; done) | rfl
  · intro h0 h2 h1
    subst h0 h2
    have h1' : ¬ 0 = count := fun e => h1 e.symm
    go_enter Try.func93, Try.ntmps93
    go_wp2_with (first | (go_at_call 99; refine (equalK_nil _ _ kc ks _ A B (hK.below ((below_two w _ _).mono hB))).mono ?_; rintro e w1 ⟨rfl, q1, rfl⟩) | (go_at_call 100; refine (equalE_nil _ _ ec es _ A B (hE.below ((below_two_dn w _ _ q1).mono hB))).mono ?_; rintro e w2 ⟨rfl, q2, rfl⟩))
    go_ret
    refine ⟨?_, by first | exact below_two _ _ _ | exact below_two_dn _ _ _ _ | (rw [World.drewN_drewN]; exact below_two_dn _ _ _ _)⟩
    first | (simp [*]; done) | rfl
end Go.Proofs.Ytcmhobbpeaeebaa
