import Derived.Test.YtcmhobbpeaeebaaGAK
import Derived.Laws.EntriesVeiled
import Derived.WideLaws
import Derived.Deep.RegionHeld3
namespace Go.Proofs.Ytcmhobbpeaeebaa
open Go.RowKit
set_option linter.unusedVariables false
set_option maxRecDepth 100000

theorem box_oneS {w : World} {N : Nat} {v0 : Value} {t : TypeId} (h : w.heap[N]? = some (.cells #[v0] t)) : w.cell? ⟨N, 0, none⟩ = some v0 := by simp [World.cell?, h]
theorem box_twoS {w : World} {N : Nat} {v0 v1 : Value} {t : TypeId} (h : w.heap[N]? = some (.cells #[v0, v1] t)) : w.cell? ⟨N, 0, none⟩ = some v0 ∧ w.cell? ⟨N, 1, none⟩ = some v1 := by
  refine ⟨?_, ?_⟩ <;> simp [World.cell?, h]
theorem equalK_len (a a2 : Option Addr) (n c n2 c2 : Nat) (h : n ≠ n2) (w : World) :
    Calls Try.prog 99 #[.slice a n c, .slice a2 n2 c2] w fun e w' => e = .returned (.bool false) ∧ w' = w := by
  have hne : ((n : Int) != (n2 : Int)) = true := by simp; omega
  go_enter Try.func99, Try.ntmps99
  go_wp2
  go_ret
  exact ⟨rfl, rfl⟩
set_option maxHeartbeats 400000 in
theorem equalK_same (a a2 : Option Addr) (n c c2 : Nat) (ks : List PK) (w : World) (A B A2 B2 : Nat) (h : KidsAt w A B a n c ks) (h2 : KidsAt w A2 B2 a2 n c2 ks) :
    Calls Try.prog 99 #[.slice a n c, .slice a2 n c2] w fun e w' => e = .returned (.bool true) ∧ ∃ m, w' = w.drewN m := by
  have hc := h.2.2.1
  have hnc := h.2.1
  unfold maxLen at hc
  have hne : ((n : Int) != (n : Int)) = false := by simp
  go_enter Try.func99, Try.ntmps99
  go_wp2_with fail
  go_loopw [13] (fun iv wr => ∃ i : Nat, i ≤ n ∧ iv = .int .i64 i ∧ Hid (∃ m, wr = w.drewN m)) (fun iv _ => n - (intOf iv).toNat)
  case atStart => exact ⟨0, Nat.zero_le _, rfl, 0, rfl⟩
  case round =>
    obtain ⟨i, hi, rfl, hq⟩ := hrel
    have HD : Hid (∀ q, ∃ m, wr.drewN q = w.drewN m) := by
      obtain ⟨q0, h0⟩ := hq.out
      intro q
      exact ⟨q0 + q, by rw [h0, World.drewN_drewN]⟩
    have h' : KidsAt wr A B a n c ks := by
      obtain ⟨q0, h0⟩ := hq.out
      rw [h0]; exact h
    have h2' : KidsAt wr A2 B2 a2 n c2 ks := by
      obtain ⟨q0, h0⟩ := hq.out
      rw [h0]; exact h2
    clear h h2
    by_cases hlt : i < n
    · obtain ⟨b, off, rfl, hb, hfit, e0, e1⟩ := KidsAt.at h' hlt
      obtain ⟨b2, off2, rfl, hb2, hfit2, f0, f1⟩ := KidsAt.at h2' hlt
      generalize ks.getD i dK = kd at e0 e1 f0 f1
      clear h' h2' hfit hfit2
      go_wp2_with fail
      go_quiet (fail)
      go_wp2
      go_roundw
      case rel => exact ⟨i + 1, by omega, by go_num, HD.out _⟩
      case measure => simp [intOf]; omega
    · go_wp2
      go_ret
      exact ⟨rfl, hq.out⟩
theorem equalE_len (a a2 : Option Addr) (n c n2 c2 : Nat) (h : n ≠ n2) (w : World) :
    Calls Try.prog 100 #[.slice a n c, .slice a2 n2 c2] w fun e w' => e = .returned (.bool false) ∧ w' = w := by
  have hne : ((n : Int) != (n2 : Int)) = true := by simp; omega
  go_enter Try.func100, Try.ntmps100
  go_wp2
  go_ret
  exact ⟨rfl, rfl⟩
set_option maxHeartbeats 400000 in
theorem equalE_same (a a2 : Option Addr) (n c c2 : Nat) (ks : List PE) (w : World) (A B A2 B2 : Nat) (h : EntsAt w A B a n c ks) (h2 : EntsAt w A2 B2 a2 n c2 ks) :
    Calls Try.prog 100 #[.slice a n c, .slice a2 n c2] w fun e w' => e = .returned (.bool true) ∧ ∃ m, w' = w.drewN m := by
  have hc := h.2.2.1
  have hnc := h.2.1
  unfold maxLen at hc
  have hne : ((n : Int) != (n : Int)) = false := by simp
  go_enter Try.func100, Try.ntmps100
  go_wp2_with fail
  go_loopw [13] (fun iv wr => ∃ i : Nat, i ≤ n ∧ iv = .int .i64 i ∧ Hid (∃ m, wr = w.drewN m)) (fun iv _ => n - (intOf iv).toNat)
  case atStart => exact ⟨0, Nat.zero_le _, rfl, 0, rfl⟩
  case round =>
    obtain ⟨i, hi, rfl, hq⟩ := hrel
    have HD : Hid (∀ q, ∃ m, wr.drewN q = w.drewN m) := by
      obtain ⟨q0, h0⟩ := hq.out
      intro q
      exact ⟨q0 + q, by rw [h0, World.drewN_drewN]⟩
    have h' : EntsAt wr A B a n c ks := by
      obtain ⟨q0, h0⟩ := hq.out
      rw [h0]; exact h
    have h2' : EntsAt wr A2 B2 a2 n c2 ks := by
      obtain ⟨q0, h0⟩ := hq.out
      rw [h0]; exact h2
    clear h h2
    by_cases hlt : i < n
    · obtain ⟨b, off, rfl, hb, hfit, e0, e1, e2, e3⟩ := EntsAt.at h' hlt
      obtain ⟨b2, off2, rfl, hb2, hfit2, f0, f1, f2, f3⟩ := EntsAt.at h2' hlt
      generalize ks.getD i dE = kd at e0 e1 e2 e3 f0 f1 f2 f3
      clear h' h2' hfit hfit2
      go_wp2_with fail
      go_quiet (fail)
      go_wp2
      go_roundw
      case rel => exact ⟨i + 1, by omega, by go_num, HD.out _⟩
      case measure => simp [intOf]; omega
    · go_wp2
      go_ret
      exact ⟨rfl, hq.out⟩

-- the bodies: count, page
theorem metaCount_any (M : Nat) (w : World) : Calls Try.prog 118 #[.pointer (some ⟨M, 0, none⟩)] w fun e w' => e = .returned (.int .i64 0) ∧ w' = w := by
  go_enter Try.func118, Try.ntmps118
  go_wp2
  go_ret
  exact ⟨rfl, rfl⟩
theorem overCount_any (M : Nat) (w : World) : Calls Try.prog 141 #[.pointer (some ⟨M, 0, none⟩)] w fun e w' => e = .returned (.int .i64 0) ∧ w' = w := by
  go_enter Try.func141, Try.ntmps141
  go_wp2
  go_ret
  exact ⟨rfl, rfl⟩
theorem branchCount_any (M : Nat) (ka : Option Addr) (n kc : Nat) (w : World) (hM : w.heap[M]? = some (.cells #[.slice ka n kc] 139)) : Calls Try.prog 126 #[.pointer (some ⟨M, 0, none⟩)] w fun e w' => e = .returned (.int .i64 n) ∧ w' = w := by
  have m0 := box_oneS hM
  go_enter Try.func126, Try.ntmps126
  go_wp2
  go_ret
  exact ⟨rfl, rfl⟩
theorem leafCount_any (M : Nat) (ka : Option Addr) (n kc : Nat) (w : World) (hM : w.heap[M]? = some (.cells #[.slice ka n kc] 142)) : Calls Try.prog 134 #[.pointer (some ⟨M, 0, none⟩)] w fun e w' => e = .returned (.int .i64 n) ∧ w' = w := by
  have m0 := box_oneS hM
  go_enter Try.func134, Try.ntmps134
  go_wp2
  go_ret
  exact ⟨rfl, rfl⟩
theorem metaPage_any (M : Nat) (id root count : Int) (w : World) (hM : w.heap[M]? = some (.cells #[.int .i64 id, .int .i64 root, .int .i64 count] 136)) : Calls Try.prog 119 #[.pointer (some ⟨M, 0, none⟩)] w fun e w' => e = .returned (.agg #[.int .i64 1, .int .i64 0, .int .i64 id, .int .i64 root, .int .i64 count, .slice none 0 0, .slice none 0 0, .int .i64 0, .string ByteArray.empty]) ∧ Below w.heap.size w w' := by
  obtain ⟨m0, m1, m2⟩ := box_form hM
  have hlt : M < w.heap.size := (Array.getElem?_eq_some_iff.1 hM).1
  go_enter Try.func119, Try.ntmps119
  go_wp2
  exact bodyPost_ret (v := .agg #[.int .i64 1, .int .i64 0, .int .i64 id, .int .i64 root, .int .i64 count, .slice none 0 0, .slice none 0 0, .int .i64 0, .string ByteArray.empty]) (by simp [results, Try.results119, go_sem]; first | done | rfl) rfl ⟨rfl, by first | exact Below.refl _ _ | exact (Below.refl _ _).alloc (Nat.le_refl _) _ | exact ((Below.refl _ _).alloc (Nat.le_refl _) _).alloc (by simp) _⟩
theorem branchPage_any (M : Nat) (ka : Option Addr) (n kc : Nat) (w : World) (hM : w.heap[M]? = some (.cells #[.slice ka n kc] 139)) : Calls Try.prog 127 #[.pointer (some ⟨M, 0, none⟩)] w fun e w' => e = .returned (.agg #[.int .i64 2, .int .i64 0, .int .i64 0, .int .i64 0, .int .i64 0, .slice ka n kc, .slice none 0 0, .int .i64 0, .string ByteArray.empty]) ∧ Below w.heap.size w w' := by
  have m0 := box_oneS hM
  have hlt : M < w.heap.size := (Array.getElem?_eq_some_iff.1 hM).1
  go_enter Try.func127, Try.ntmps127
  go_wp2
  exact bodyPost_ret (v := .agg #[.int .i64 2, .int .i64 0, .int .i64 0, .int .i64 0, .int .i64 0, .slice ka n kc, .slice none 0 0, .int .i64 0, .string ByteArray.empty]) (by simp [results, Try.results127, go_sem]; first | done | rfl) rfl ⟨rfl, by first | exact Below.refl _ _ | exact (Below.refl _ _).alloc (Nat.le_refl _) _ | exact ((Below.refl _ _).alloc (Nat.le_refl _) _).alloc (by simp) _⟩
theorem leafPage_any (M : Nat) (ka : Option Addr) (n kc : Nat) (w : World) (hM : w.heap[M]? = some (.cells #[.slice ka n kc] 142)) : Calls Try.prog 135 #[.pointer (some ⟨M, 0, none⟩)] w fun e w' => e = .returned (.agg #[.int .i64 3, .int .i64 0, .int .i64 0, .int .i64 0, .int .i64 0, .slice none 0 0, .slice ka n kc, .int .i64 0, .string ByteArray.empty]) ∧ Below w.heap.size w w' := by
  have m0 := box_oneS hM
  have hlt : M < w.heap.size := (Array.getElem?_eq_some_iff.1 hM).1
  go_enter Try.func135, Try.ntmps135
  go_wp2
  exact bodyPost_ret (v := .agg #[.int .i64 3, .int .i64 0, .int .i64 0, .int .i64 0, .int .i64 0, .slice none 0 0, .slice ka n kc, .int .i64 0, .string ByteArray.empty]) (by simp [results, Try.results135, go_sem]; first | done | rfl) rfl ⟨rfl, by first | exact Below.refl _ _ | exact (Below.refl _ _).alloc (Nat.le_refl _) _ | exact ((Below.refl _ _).alloc (Nat.le_refl _) _).alloc (by simp) _⟩
theorem overPage_any (M : Nat) (next : Int) (data : ByteArray) (w : World) (hM : w.heap[M]? = some (.cells #[.int .i64 next, .string data] 145)) : Calls Try.prog 142 #[.pointer (some ⟨M, 0, none⟩)] w fun e w' => e = .returned (.agg #[.int .i64 4, .int .i64 0, .int .i64 0, .int .i64 0, .int .i64 0, .slice none 0 0, .slice none 0 0, .int .i64 next, .string data]) ∧ Below w.heap.size w w' := by
  obtain ⟨m0, m1⟩ := box_twoS hM
  have hlt : M < w.heap.size := (Array.getElem?_eq_some_iff.1 hM).1
  go_enter Try.func142, Try.ntmps142
  go_wp2_with fail
  go_region_held3 (fun w' => w'.cell? ⟨M, 0, none⟩ = some (.int .i64 next) ∧ w'.cell? ⟨M, 1, none⟩ = some (.string data)) (go_keep) (fail)
  go_wp2
  exact bodyPost_ret (v := .agg #[.int .i64 4, .int .i64 0, .int .i64 0, .int .i64 0, .int .i64 0, .slice none 0 0, .slice none 0 0, .int .i64 next, .string data]) (by simp [results, Try.results142, go_sem]; first | done | rfl) rfl ⟨rfl, by first | exact below_dn2 (Below.refl _ _) (Nat.le_refl _) | exact (((Below.refl _ _).alloc (Nat.le_refl _) _).alloc (by simp) _).trans ⟨rfl, rfl, rfl, Nat.le_refl _, fun _ _ => rfl⟩ | exact (Below.refl _ w).trans ⟨rfl, rfl, rfl, Nat.le_refl _, fun _ _ => rfl⟩⟩
theorem kindBody_meta (tx id root count : Int) (ka : Option Addr) (kn kc : Nat) (ea : Option Addr) (en ec : Nat) (next : Int) (data : ByteArray) (w : World) :
    Calls Try.prog 81 #[.agg #[.int .i64 1, .int .i64 tx, .int .i64 id, .int .i64 root, .int .i64 count, .slice ka kn kc, .slice ea en ec, .int .i64 next, .string data]] w fun e w' => ∃ M, e = .returned (.iface 134 (.pointer (some ⟨M, 0, none⟩))) ∧ w.heap.size ≤ M ∧ w'.heap[M]? = some (.cells #[.int .i64 id, .int .i64 root, .int .i64 count] 136) ∧ Below w.heap.size w w' := by
  go_enter Try.func81, Try.ntmps81
  go_wp2
  go_ret
  refine ⟨w.heap.size + 1, rfl, by omega, ?_, ((Below.refl _ _).alloc (Nat.le_refl _) _).alloc (by simp) _⟩
  have := heap_alloc_new (w.alloc (.cells #[.int .i64 1, .int .i64 tx, .int .i64 id, .int .i64 root, .int .i64 count, .slice ka kn kc, .slice ea en ec, .int .i64 next, .string data] 28)) (.cells #[.int .i64 id, .int .i64 root, .int .i64 count] 136)
  simpa using this
theorem kindBody_branch (tx id root count : Int) (ka : Option Addr) (kn kc : Nat) (ea : Option Addr) (en ec : Nat) (next : Int) (data : ByteArray) (w : World) :
    Calls Try.prog 81 #[.agg #[.int .i64 2, .int .i64 tx, .int .i64 id, .int .i64 root, .int .i64 count, .slice ka kn kc, .slice ea en ec, .int .i64 next, .string data]] w fun e w' => ∃ M, e = .returned (.iface 137 (.pointer (some ⟨M, 0, none⟩))) ∧ w.heap.size ≤ M ∧ w'.heap[M]? = some (.cells #[.slice ka kn kc] 139) ∧ Below w.heap.size w w' := by
  go_enter Try.func81, Try.ntmps81
  go_wp2
  go_ret
  refine ⟨w.heap.size + 1, rfl, by omega, ?_, ((Below.refl _ _).alloc (Nat.le_refl _) _).alloc (by simp) _⟩
  have := heap_alloc_new (w.alloc (.cells #[.int .i64 2, .int .i64 tx, .int .i64 id, .int .i64 root, .int .i64 count, .slice ka kn kc, .slice ea en ec, .int .i64 next, .string data] 28)) (.cells #[.slice ka kn kc] 139)
  simpa using this
theorem kindBody_leaf (tx id root count : Int) (ka : Option Addr) (kn kc : Nat) (ea : Option Addr) (en ec : Nat) (next : Int) (data : ByteArray) (w : World) :
    Calls Try.prog 81 #[.agg #[.int .i64 3, .int .i64 tx, .int .i64 id, .int .i64 root, .int .i64 count, .slice ka kn kc, .slice ea en ec, .int .i64 next, .string data]] w fun e w' => ∃ M, e = .returned (.iface 140 (.pointer (some ⟨M, 0, none⟩))) ∧ w.heap.size ≤ M ∧ w'.heap[M]? = some (.cells #[.slice ea en ec] 142) ∧ Below w.heap.size w w' := by
  go_enter Try.func81, Try.ntmps81
  go_wp2
  go_ret
  refine ⟨w.heap.size + 1, rfl, by omega, ?_, ((Below.refl _ _).alloc (Nat.le_refl _) _).alloc (by simp) _⟩
  have := heap_alloc_new (w.alloc (.cells #[.int .i64 3, .int .i64 tx, .int .i64 id, .int .i64 root, .int .i64 count, .slice ka kn kc, .slice ea en ec, .int .i64 next, .string data] 28)) (.cells #[.slice ea en ec] 142)
  simpa using this
theorem kindBody_over (tx id root count : Int) (ka : Option Addr) (kn kc : Nat) (ea : Option Addr) (en ec : Nat) (next : Int) (data : ByteArray) (w : World) :
    Calls Try.prog 81 #[.agg #[.int .i64 4, .int .i64 tx, .int .i64 id, .int .i64 root, .int .i64 count, .slice ka kn kc, .slice ea en ec, .int .i64 next, .string data]] w fun e w' => ∃ M, e = .returned (.iface 143 (.pointer (some ⟨M, 0, none⟩))) ∧ w.heap.size ≤ M ∧ w'.heap[M]? = some (.cells #[.int .i64 next, .string data] 145) ∧ Below w.heap.size w w' := by
  go_enter Try.func81, Try.ntmps81
  go_wp2
  go_ret
  refine ⟨w.heap.size + 1, rfl, by omega, ?_, ((Below.refl _ _).alloc (Nat.le_refl _) _).alloc (by simp) _⟩
  have := heap_alloc_new (w.alloc (.cells #[.int .i64 4, .int .i64 tx, .int .i64 id, .int .i64 root, .int .i64 count, .slice ka kn kc, .slice ea en ec, .int .i64 next, .string data] 28)) (.cells #[.int .i64 next, .string data] 145)
  simpa using this
theorem kindBody_nil (kind tx id root count : Int) (hk1 : kind ≠ 1) (hk2 : kind ≠ 2) (hk3 : kind ≠ 3) (hk4 : kind ≠ 4) (ka : Option Addr) (kn kc : Nat) (ea : Option Addr) (en ec : Nat) (next : Int) (data : ByteArray) (w : World) :
    Calls Try.prog 81 #[.agg #[.int .i64 kind, .int .i64 tx, .int .i64 id, .int .i64 root, .int .i64 count, .slice ka kn kc, .slice ea en ec, .int .i64 next, .string data]] w fun e w' => e = .returned .nilIface ∧ Below w.heap.size w w' := by
  have k1 : (kind == 1) = false := by simp; exact hk1
  have k2 : (kind == 2) = false := by simp; exact hk2
  have k3 : (kind == 3) = false := by simp; exact hk3
  have k4 : (kind == 4) = false := by simp; exact hk4
  go_enter Try.func81, Try.ntmps81
  go_wp2
  go_ret
  exact ⟨rfl, (Below.refl _ _).alloc (Nat.le_refl _) _⟩
end Go.Proofs.Ytcmhobbpeaeebaa
