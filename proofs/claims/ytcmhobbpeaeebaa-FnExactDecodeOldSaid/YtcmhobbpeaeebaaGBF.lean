import Derived.Test.YtcmhobbpeaeebaaGAA
import Derived.Test.YtcmhobbpeaeebaaGAK
import Derived.Test.YtcmhobbpeaeebaaGBE
import Derived.Deep.RegionHeld3
namespace Go.Proofs.Ytcmhobbpeaeebaa
open Go.RowKit
set_option linter.unusedVariables false
set_option maxRecDepth 100000

theorem eqKid_same (k : PK) (w : World) :
    Calls Try.prog 94 #[.agg #[.string k.1, .int .i64 k.2], .agg #[.string k.1, .int .i64 k.2]] w fun e w' => e = .returned (.bool true) ∧ Below w.heap.size w w' := by
  have e2 : (k.2 != k.2) = false := by simp
  go_enter Try.func94, Try.ntmps94
  go_wp2
  go_ret
  exact ⟨rfl, ((Below.refl _ _).alloc (Nat.le_refl _) _).alloc (by simp) _⟩
theorem eqEnt_same (k : PE) (w : World) :
    Calls Try.prog 95 #[.agg #[.string k.1, .string k.2.1, .int .i64 k.2.2.1, .int .i64 k.2.2.2], .agg #[.string k.1, .string k.2.1, .int .i64 k.2.2.1, .int .i64 k.2.2.2]] w fun e w' => e = .returned (.bool true) ∧ Below w.heap.size w w' := by
  have e1 : (k.2.2.1 != k.2.2.1) = false := by simp
  have e2 : (k.2.2.2 != k.2.2.2) = false := by simp
  go_enter Try.func95, Try.ntmps95
  go_wp2
  go_ret
  exact ⟨rfl, ((Below.refl _ _).alloc (Nat.le_refl _) _).alloc (by simp) _⟩
theorem eqMeta_same (id root count : Int) (w : World) :
    Calls Try.prog 63 #[.agg #[.int .i64 id, .int .i64 root, .int .i64 count], .agg #[.int .i64 id, .int .i64 root, .int .i64 count]] w fun e w' => e = .returned (.bool true) ∧ Below w.heap.size w w' := by
  have e1 : (id != id) = false := by simp
  have e2 : (root != root) = false := by simp
  have e3 : (count != count) = false := by simp
  go_enter Try.func63, Try.ntmps63
  go_wp2
  go_ret
  exact ⟨rfl, ((Below.refl _ _).alloc (Nat.le_refl _) _).alloc (by simp) _⟩
theorem kids_at {fit : PK → Prop} {w : World} {A B : Nat} {a : Option Addr} {n c : Nat} {ks : List PK} (h : RowsAt w A B 2 kidCells fit dK a n c ks) {i : Nat} (hi : i < n) :
    ∃ b off, a = some ⟨b, off, none⟩ ∧ (A ≤ b ∧ b < B) ∧ fit (ks.getD i dK) ∧ w.cell? ⟨b, off + i * 2, none⟩ = some (.string (ks.getD i dK).1) ∧ w.cell? ⟨b, off + i * 2 + 1, none⟩ = some (.int .i64 (ks.getD i dK).2) := by
  obtain ⟨h1, h2, h3, h4, h5⟩ := h
  obtain ⟨b, off, rfl, hlt, hc⟩ := h5 (by omega)
  exact ⟨b, off, rfl, hlt, h4 i hi, by simpa [kidCells] using hc i hi 0 (by omega), by simpa [kidCells] using hc i hi 1 (by omega)⟩
theorem ents_at {fit : PE → Prop} {w : World} {A B : Nat} {a : Option Addr} {n c : Nat} {es : List PE} (h : RowsAt w A B 4 entCells fit dE a n c es) {i : Nat} (hi : i < n) :
    ∃ b off, a = some ⟨b, off, none⟩ ∧ (A ≤ b ∧ b < B) ∧ fit (es.getD i dE) ∧ w.cell? ⟨b, off + i * 4, none⟩ = some (.string (es.getD i dE).1) ∧ w.cell? ⟨b, off + i * 4 + 1, none⟩ = some (.string (es.getD i dE).2.1) ∧ w.cell? ⟨b, off + i * 4 + 2, none⟩ = some (.int .i64 (es.getD i dE).2.2.1) ∧ w.cell? ⟨b, off + i * 4 + 3, none⟩ = some (.int .i64 (es.getD i dE).2.2.2) := by
  obtain ⟨h1, h2, h3, h4, h5⟩ := h
  obtain ⟨b, off, rfl, hlt, hc⟩ := h5 (by omega)
  exact ⟨b, off, rfl, hlt, h4 i hi, by simpa [entCells] using hc i hi 0 (by omega), by simpa [entCells] using hc i hi 1 (by omega), by simpa [entCells] using hc i hi 2 (by omega), by simpa [entCells] using hc i hi 3 (by omega)⟩
set_option maxHeartbeats 400000 in
theorem eqKidS_same {fit fit2 : PK → Prop} (a : Option Addr) (n c : Nat) (a2 : Option Addr) (c2 : Nat) (ks : List PK) (w : World) (A B A2 B2 : Nat) (hB : B ≤ w.heap.size) (hB2 : B2 ≤ w.heap.size) (h : RowsAt w A B 2 kidCells fit dK a n c ks) (k2 : RowsAt w A2 B2 2 kidCells fit2 dK a2 n c2 ks) :
    Calls Try.prog 64 #[.slice a n c, .slice a2 n c2] w fun e w' => e = .returned (.bool true) ∧ Below w.heap.size w w' := by
  have hc := h.2.2.1
  have hnc := h.2.1
  unfold maxLen at hc
  have hne : ((n : Int) != (n : Int)) = false := by simp
  go_enter Try.func64, Try.ntmps64
  go_wp2
  go_loopw [5] (fun i wr => ∃ k : Nat, k ≤ n ∧ i = .int .i64 k ∧ Below w.heap.size w wr) (fun i _ => n - (intOf i).toNat)
  case atStart => exact ⟨0, Nat.zero_le _, rfl, Below.refl _ _⟩
  case round =>
    obtain ⟨k, hk, rfl, hbel⟩ := hrel
    by_cases hlt : k < n
    · obtain ⟨b, off, rfl, hb, hfit, e0, e1⟩ := kids_at (h.below (hbel.mono hB)) hlt
      obtain ⟨b2, off2, rfl, hb2, hfit2, f0, f1⟩ := kids_at (k2.below (hbel.mono hB2)) hlt
      generalize ks.getD k dK = kd at e0 e1 f0 f1 hfit
      clear h k2 hfit2
      have hs := hbel.size
      go_wp2
      go_region_with (go_at_call 94; refine (eqKid_same kd _).mono ?_; rintro e w1 ⟨rfl, hb1⟩)
      all_goals
        go_wp2
        go_roundw
        case rel => exact ⟨k + 1, by omega, by go_num, (hbel.drew).trans (hb1.mono hs)⟩
        case measure => simp [intOf]; omega
    · go_wp2
      go_ret
      exact ⟨rfl, hbel⟩
set_option maxHeartbeats 400000 in
theorem eqEntS_same {fit fit2 : PE → Prop} (a : Option Addr) (n c : Nat) (a2 : Option Addr) (c2 : Nat) (ks : List PE) (w : World) (A B A2 B2 : Nat) (hB : B ≤ w.heap.size) (hB2 : B2 ≤ w.heap.size) (h : RowsAt w A B 4 entCells fit dE a n c ks) (k2 : RowsAt w A2 B2 4 entCells fit2 dE a2 n c2 ks) :
    Calls Try.prog 65 #[.slice a n c, .slice a2 n c2] w fun e w' => e = .returned (.bool true) ∧ Below w.heap.size w w' := by
  have hc := h.2.2.1
  have hnc := h.2.1
  unfold maxLen at hc
  have hne : ((n : Int) != (n : Int)) = false := by simp
  go_enter Try.func65, Try.ntmps65
  go_wp2
  go_loopw [5] (fun i wr => ∃ k : Nat, k ≤ n ∧ i = .int .i64 k ∧ Below w.heap.size w wr) (fun i _ => n - (intOf i).toNat)
  case atStart => exact ⟨0, Nat.zero_le _, rfl, Below.refl _ _⟩
  case round =>
    obtain ⟨k, hk, rfl, hbel⟩ := hrel
    by_cases hlt : k < n
    · obtain ⟨b, off, rfl, hb, hfit, e0, e1, e2, e3⟩ := ents_at (h.below (hbel.mono hB)) hlt
      obtain ⟨b2, off2, rfl, hb2, hfit2, f0, f1, f2, f3⟩ := ents_at (k2.below (hbel.mono hB2)) hlt
      generalize ks.getD k dE = kd at e0 e1 e2 e3 f0 f1 f2 f3 hfit
      clear h k2 hfit2
      have hs := hbel.size
      go_wp2
      go_region_with (go_at_call 95; refine (eqEnt_same kd _).mono ?_; rintro e w1 ⟨rfl, hb1⟩)
      all_goals
        go_wp2
        go_roundw
        case rel => exact ⟨k + 1, by omega, by go_num, (hbel.drew).trans (hb1.mono hs)⟩
        case measure => simp [intOf]; omega
    · go_wp2
      go_ret
      exact ⟨rfl, hbel⟩
set_option maxHeartbeats 800000 in
theorem eqPage_same {fit fit2 : PK → Prop} {fie fie2 : PE → Prop} (kind tx id root count : Int) (ka : Option Addr) (kn kc : Nat) (ks : List PK) (ea : Option Addr) (en ec : Nat) (es : List PE) (ka2 : Option Addr) (kc2 : Nat) (ea2 : Option Addr) (ec2 : Nat) (next : Int) (data : ByteArray) (w : World) (A B A2 B2 : Nat) (hB : B ≤ w.heap.size) (hB2 : B2 ≤ w.heap.size) (hK : RowsAt w A B 2 kidCells fit dK ka kn kc ks) (hE : RowsAt w A B 4 entCells fie dE ea en ec es) (hK2 : RowsAt w A2 B2 2 kidCells fit2 dK ka2 kn kc2 ks) (hE2 : RowsAt w A2 B2 4 entCells fie2 dE ea2 en ec2 es) :
    Calls Try.prog 23 #[.agg #[.int .i64 kind, .int .i64 tx, .int .i64 id, .int .i64 root, .int .i64 count, .slice ka kn kc, .slice ea en ec, .int .i64 next, .string data], .agg #[.int .i64 kind, .int .i64 tx, .int .i64 id, .int .i64 root, .int .i64 count, .slice ka2 kn kc2, .slice ea2 en ec2, .int .i64 next, .string data]] w fun e w' => e = .returned (.bool true) ∧ Below w.heap.size w w' := by
  have hb0 : Below w.heap.size w ((w.alloc (.cells #[.int .i64 kind, .int .i64 tx, .int .i64 id, .int .i64 root, .int .i64 count, .slice ka kn kc, .slice ea en ec, .int .i64 next, .string data] 28)).alloc (.cells #[.int .i64 kind, .int .i64 tx, .int .i64 id, .int .i64 root, .int .i64 count, .slice ka2 kn kc2, .slice ea2 en ec2, .int .i64 next, .string data] 28)) := ((Below.refl _ _).alloc (Nat.le_refl _) _).alloc (by simp) _
  have e1 : (kind != kind) = false := by simp
  have e2 : (tx != tx) = false := by simp
  have e3 : (next != next) = false := by simp
  go_enter Try.func23, Try.ntmps23
  go_wp2_with fail
  refine (eqMeta_same id root count _).mono ?_
  rintro e w1 ⟨rfl, hb1⟩
  have hb2 := hb0.trans (hb1.mono (by simp; omega))
  have hz := hb1.size
  simp at hz
  have hz2 : w.heap.size < w1.heap.size := by omega
  have hz3 : w.heap.size + 1 < w1.heap.size := by omega
  obtain ⟨hc1, hf1⟩ := bcell hb1
  clear hb0 hb1
  go_wp2_with fail
  refine (eqKidS_same _ _ _ _ _ ks _ A B A2 B2 (by omega) (by omega) (hK.below (hb2.mono hB)) (hK2.below (hb2.mono hB2))).mono ?_
  rintro e w2 ⟨rfl, hb3⟩
  have hb4 := hb2.trans (hb3.mono (by omega))
  have hy := hb3.size
  have hy2 : w.heap.size < w2.heap.size := by omega
  have hy3 : w.heap.size + 1 < w2.heap.size := by omega
  obtain ⟨hc2, hf2⟩ := bcell hb3
  clear hb2 hb3
  go_wp2_with fail
  refine (eqEntS_same _ _ _ _ _ es _ A B A2 B2 (by omega) (by omega) (hE.below (hb4.mono hB)) (hE2.below (hb4.mono hB2))).mono ?_
  rintro e w3 ⟨rfl, hb5⟩
  have hb6 := hb4.trans (hb5.mono (by omega))
  have hx := hb5.size
  have hx2 : w.heap.size < w3.heap.size := by omega
  have hx3 : w.heap.size + 1 < w3.heap.size := by omega
  obtain ⟨hc3, hf3⟩ := bcell hb5
  clear hb4 hb5
  go_wp2
  go_ret
  exact ⟨rfl, hb6⟩
end Go.Proofs.Ytcmhobbpeaeebaa
namespace Go.Proofs.Ytcmhobbpeaeebaa
open Go.RowKit
set_option linter.unusedVariables false
set_option maxRecDepth 100000

set_option maxHeartbeats 400000 in
theorem heldKidS_any (a : Option Addr) (n c k : Nat) (w : World) (A B : Nat) (hB : B ≤ w.heap.size) (h : KidsAt w A B a n c (markK k n)) (hk : k + 2 * n ≤ 1099511627776) :
    Calls Try.prog 87 #[.slice a n c, .int .i64 k] w fun e w' => e = .returned (.int .i64 ((k + 2 * n : Nat) : Int)) ∧ Below w.heap.size w w' := by
  have hc := h.2.2.1
  have hnc := h.2.1
  unfold maxLen at hc
  go_enter Try.func87, Try.ntmps87
  go_wp2
  go_loopw [1, 5] (fun kv i wr => ∃ j : Nat, j ≤ n ∧ i = .int .i64 j ∧ kv = .int .i64 ((k + 2 * j : Nat) : Int) ∧ Below w.heap.size w wr) (fun _ i _ => n - (intOf i).toNat)
  case atStart => exact ⟨0, Nat.zero_le _, rfl, rfl, Below.refl _ _⟩
  case round =>
    obtain ⟨j, hj, rfl, rfl, hbel⟩ := hrel
    by_cases hlt : j < n
    · have h' := h.below (hbel.mono hB)
      obtain ⟨b, off, rfl, hb, hfit, e0, e1⟩ := KidsAt.at h' hlt
      have hs := hbel.size
      have hbw : b < wr.heap.size := by omega
      rw [markK_get k n j hlt] at e0 e1
      obtain ⟨kj, hkj⟩ : ∃ kj, kj = k + 2 * j := ⟨_, rfl⟩
      rw [← hkj] at e0 e1 ⊢
      have HKJ : Hid (kj = k + 2 * j) := hkj
      have hkb : kj ≤ 1099511627776 := by omega
      have n1 : (((kj + 1 : Nat) : Int) != (kj : Int) + 1) = false := by simp
      clear hkj h h' hfit
      go_wp2
      go_region_held3 (fun w' => w'.cell? ⟨b, off + j * 2, none⟩ = some (.string (mkS kj))) (go_keep)
        (first
          | (go_at_call 96; refine (markText_any kj wr.drew hkb).mono ?_; rintro e w1 ⟨rfl, hb1⟩; have q0 := (hb1.cell (p := ⟨b, off + j * 2, none⟩) hbw).trans e0))
      have q1 := (hb1.cell (p := ⟨b, off + j * 2 + 1, none⟩) hbw).trans e1
      have HK2 : Hid (((kj : Int) + 1 + 1) = ((k + 2 * (j + 1) : Nat) : Int)) := by show _ = _; have := HKJ.out; omega
      go_wp2
      go_roundw
      case rel => exact ⟨j + 1, by omega, by go_num, by rw [HK2.out], (hbel.drew).trans (hb1.mono hs)⟩
      case measure => simp [intOf]; omega
    · go_wp2
      go_ret
      have hkn : j = n := by omega
      subst hkn
      exact ⟨rfl, hbel⟩
set_option maxHeartbeats 800000 in
theorem heldEntS_any (a : Option Addr) (n c k : Nat) (w : World) (A B : Nat) (hB : B ≤ w.heap.size) (h : EntsAt w A B a n c (markE k n)) (hk : k + 4 * n ≤ 1099511627776) :
    Calls Try.prog 88 #[.slice a n c, .int .i64 k] w fun e w' => e = .returned (.int .i64 ((k + 4 * n : Nat) : Int)) ∧ Below w.heap.size w w' := by
  have hc := h.2.2.1
  have hnc := h.2.1
  unfold maxLen at hc
  go_enter Try.func88, Try.ntmps88
  go_wp2
  go_loopw [1, 5] (fun kv i wr => ∃ j : Nat, j ≤ n ∧ i = .int .i64 j ∧ kv = .int .i64 ((k + 4 * j : Nat) : Int) ∧ Below w.heap.size w wr) (fun _ i _ => n - (intOf i).toNat)
  case atStart => exact ⟨0, Nat.zero_le _, rfl, rfl, Below.refl _ _⟩
  case round =>
    obtain ⟨j, hj, rfl, rfl, hbel⟩ := hrel
    by_cases hlt : j < n
    · have h' := h.below (hbel.mono hB)
      obtain ⟨b, off, rfl, hb, hfit, e0, e1, e2, e3⟩ := EntsAt.at h' hlt
      have hs := hbel.size
      have hbw : b < wr.heap.size := by omega
      rw [markE_get k n j hlt] at e0 e1 e2 e3
      obtain ⟨kj, hkj⟩ : ∃ kj, kj = k + 4 * j := ⟨_, rfl⟩
      rw [← hkj] at e0 e1 e2 e3 ⊢
      have HKJ : Hid (kj = k + 4 * j) := hkj
      have hkb : kj + 4 ≤ 1099511627776 := by omega
      have hkb0 : kj ≤ 1099511627776 := by omega
      have hkb1 : kj + 1 ≤ 1099511627776 := by omega
      have n2 : (((kj + 2 : Nat) : Int) != (kj : Int) + 1 + 1) = false := by simp; omega
      have n3 : (((kj + 3 : Nat) : Int) != (kj : Int) + 1 + 1 + 1) = false := by simp; omega
      clear hkj h h' hfit
      go_wp2
      go_region_held3 (fun w' => w'.cell? ⟨b, off + j * 4, none⟩ = some (.string (mkS kj))) (go_keep)
        (first
          | (go_at_call 96; refine (markText_any kj wr.drew hkb0).mono ?_; rintro e w1 ⟨rfl, hb1⟩; have q0 := (hb1.cell (p := ⟨b, off + j * 4, none⟩) hbw).trans e0))
      have hbel1 := (hbel.drew).trans (hb1.mono hs)
      have hs1 := hbel1.size
      have q1 := (hb1.cell (p := ⟨b, off + j * 4 + 1, none⟩) hbw).trans e1
      have q2 := (hb1.cell (p := ⟨b, off + j * 4 + 2, none⟩) hbw).trans e2
      have q3 := (hb1.cell (p := ⟨b, off + j * 4 + 3, none⟩) hbw).trans e3
      have hbw1 : b < w1.heap.size := by omega
      clear e0 e1 e2 e3 q0 hb1
      go_wp2
      go_region_held3 (fun w' => w'.cell? ⟨b, off + j * 4 + 1, none⟩ = some (.string (mkS (kj + 1)))) (go_keep)
        (first
          | (go_at_call 96; refine (markText_any (kj + 1) w1.drew hkb1).mono ?_; rintro e w2 ⟨rfl, hb2⟩; have q0 := (hb2.cell (p := ⟨b, off + j * 4 + 1, none⟩) hbw1).trans q1))
      have r2 := (hb2.cell (p := ⟨b, off + j * 4 + 2, none⟩) hbw1).trans q2
      have r3 := (hb2.cell (p := ⟨b, off + j * 4 + 3, none⟩) hbw1).trans q3
      have HK2 : Hid (((kj : Int) + 1 + 1 + 1 + 1) = ((k + 4 * (j + 1) : Nat) : Int)) := by show _ = _; have := HKJ.out; omega
      go_wp2
      go_roundw
      case rel => exact ⟨j + 1, by omega, by go_num, by rw [HK2.out], (hbel1.drew).trans (hb2.mono hs1)⟩
      case measure => simp [intOf]; omega
    · go_wp2
      go_ret
      have hkn : j = n := by omega
      subst hkn
      exact ⟨rfl, hbel⟩
set_option maxHeartbeats 800000 in
theorem heldPage_any (kind tx id root count : Int) (ka : Option Addr) (kn kc : Nat) (ea : Option Addr) (en ec : Nat) (next : Int) (data : ByteArray) (k : Nat) (w : World) (A B : Nat) (hB : B ≤ w.heap.size) (hK : KidsAt w A B ka kn kc (markK k kn)) (hE : EntsAt w A B ea en ec (markE (k + 2 * kn) en)) (hk : k + 2 * kn + 4 * en ≤ 1099511627776) :
    Calls Try.prog 53 #[.agg #[.int .i64 kind, .int .i64 tx, .int .i64 id, .int .i64 root, .int .i64 count, .slice ka kn kc, .slice ea en ec, .int .i64 next, .string data], .int .i64 k] w fun e w' => e = .returned (.int .i64 ((k + 2 * kn + 4 * en : Nat) : Int)) ∧ Below w.heap.size w w' := by
  have hb0 : Below w.heap.size w (w.alloc (.cells #[.int .i64 kind, .int .i64 tx, .int .i64 id, .int .i64 root, .int .i64 count, .slice ka kn kc, .slice ea en ec, .int .i64 next, .string data] 28)) := (Below.refl _ _).alloc (Nat.le_refl _) _
  have X0 := heap_alloc_new w (.cells #[.int .i64 kind, .int .i64 tx, .int .i64 id, .int .i64 root, .int .i64 count, .slice ka kn kc, .slice ea en ec, .int .i64 next, .string data] 28)
  go_enter Try.func53, Try.ntmps53
  go_wp2_with fail
  generalize w.alloc (.cells #[.int .i64 kind, .int .i64 tx, .int .i64 id, .int .i64 root, .int .i64 count, .slice ka kn kc, .slice ea en ec, .int .i64 next, .string data] 28) = W0 at hb0 X0 ⊢
  refine (heldKidS_any ka kn kc k W0 A B (Nat.le_trans hB hb0.size) (hK.below (hb0.mono hB)) (by omega)).mono ?_
  rintro e w1 ⟨rfl, hb1⟩
  have b1 := hb0.trans (hb1.mono hb0.size)
  have X1 := eb_call X0 hb1
  obtain ⟨c5, c6, c0, c2, c3, c4, c7, c8, c1⟩ := box_slice X1
  have hk1 : ¬ ((k + 2 * kn : Nat) : Int) < 0 := by omega
  clear hb0 X0 hb1
  go_wp2_with fail
  refine (heldEntS_any ea en ec (k + 2 * kn) w1 A B (Nat.le_trans hB b1.size) (hE.below (b1.mono hB)) (by omega)).mono ?_
  rintro e w2 ⟨rfl, hb2⟩
  have b2 := b1.trans (hb2.mono b1.size)
  have hk2 : ¬ ((k + 2 * kn + 4 * en : Nat) : Int) < 0 := by omega
  clear hK hE
  go_wp2
  go_ret
  exact ⟨rfl, b2⟩

theorem box_res {w : World} {N : Nat} {v0 v1 v2 v3 v4 v5 v6 v7 v8 v9 : Value} {t : TypeId} (h : w.heap[N]? = some (.cells #[v0, v1, v2, v3, v4, v5, v6, v7, v8, v9] t)) : w.cell? ⟨N, 0, none⟩ = some v0 ∧ w.cell? ⟨N, 1, none⟩ = some v1 ∧ w.cell? ⟨N, 2, none⟩ = some v2 ∧ w.cell? ⟨N, 3, none⟩ = some v3 ∧ w.cell? ⟨N, 4, none⟩ = some v4 ∧ w.cell? ⟨N, 5, none⟩ = some v5 ∧ w.cell? ⟨N, 6, none⟩ = some v6 ∧ w.cell? ⟨N, 7, none⟩ = some v7 ∧ w.cell? ⟨N, 8, none⟩ = some v8 ∧ w.cell? ⟨N, 9, none⟩ = some v9 := by
  refine ⟨?_, ?_, ?_, ?_, ?_, ?_, ?_, ?_, ?_, ?_⟩ <;> simp [World.cell?, h]
set_option maxHeartbeats 800000 in
theorem eqPageRes_same (ok : Bool) (kind tx id root count : Int) (ka : Option Addr) (kn kc : Nat) (ks : List PK) (ea : Option Addr) (en ec : Nat) (es : List PE) (ka2 : Option Addr) (kc2 : Nat) (ea2 : Option Addr) (ec2 : Nat) (next : Int) (data : ByteArray) (w : World) (A B A2 B2 : Nat) (hB : B ≤ w.heap.size) (hB2 : B2 ≤ w.heap.size) (hK : KidsAt w A B ka kn kc ks) (hE : EntsAt w A B ea en ec es) (hK2 : KidsAt w A2 B2 ka2 kn kc2 ks) (hE2 : EntsAt w A2 B2 ea2 en ec2 es) :
    Calls Try.prog 15 #[.agg #[.bool ok, .int .i64 kind, .int .i64 tx, .int .i64 id, .int .i64 root, .int .i64 count, .slice ka kn kc, .slice ea en ec, .int .i64 next, .string data], .agg #[.bool ok, .int .i64 kind, .int .i64 tx, .int .i64 id, .int .i64 root, .int .i64 count, .slice ka2 kn kc2, .slice ea2 en ec2, .int .i64 next, .string data]] w fun e w' => e = .returned (.bool true) ∧ Below w.heap.size w w' := by
  have hb0 : Below w.heap.size w ((w.alloc (.cells #[.bool ok, .int .i64 kind, .int .i64 tx, .int .i64 id, .int .i64 root, .int .i64 count, .slice ka kn kc, .slice ea en ec, .int .i64 next, .string data] 32)).alloc (.cells #[.bool ok, .int .i64 kind, .int .i64 tx, .int .i64 id, .int .i64 root, .int .i64 count, .slice ka2 kn kc2, .slice ea2 en ec2, .int .i64 next, .string data] 32)) := ((Below.refl _ _).alloc (Nat.le_refl _) _).alloc (by simp) _
  have e1 : (ok != ok) = false := by simp
  go_enter Try.func15, Try.ntmps15
  go_wp2_with fail
  refine (eqPage_same kind tx id root count ka kn kc ks ea en ec es ka2 kc2 ea2 ec2 next data _ A B A2 B2 (Nat.le_trans hB hb0.size) (Nat.le_trans hB2 hb0.size) (hK.below (hb0.mono hB)) (hE.below (hb0.mono hB)) (hK2.below (hb0.mono hB2)) (hE2.below (hb0.mono hB2))).mono ?_
  rintro e w1 ⟨rfl, hb1⟩
  have b1 := hb0.trans (hb1.mono hb0.size)
  clear hb0 hb1 hK hE hK2 hE2
  go_wp2
  go_ret
  exact ⟨rfl, b1⟩
set_option maxHeartbeats 800000 in
theorem markPageRes_any (ok : Bool) (kind tx id root count : Int) (ka : Option Addr) (kn kc : Nat) (ea : Option Addr) (en ec : Nat) (next : Int) (data : ByteArray) (k base : Nat) (xs ys : List Value) (w : World) (hK : w.ownsRow base 100 2 (.slice ka kn kc) kn xs) (hE : w.ownsRow base 102 4 (.slice ea en ec) en ys) (hne : ∀ g, (Value.slice ka kn kc).ownBlock = some g → (Value.slice ea en ec).ownBlock = some g → False) (hk : k + 2 * kn + 4 * en ≤ 1099511627776) :
    Calls Try.prog 18 #[.agg #[.bool ok, .int .i64 kind, .int .i64 tx, .int .i64 id, .int .i64 root, .int .i64 count, .slice ka kn kc, .slice ea en ec, .int .i64 next, .string data], .int .i64 k] w fun e w' => e = .returned (.int .i64 ((k + 2 * kn + 4 * en : Nat) : Int)) ∧ w'.ownsRow base 100 2 (.slice ka kn kc) kn (rowsOf kidCells (markK k kn)) ∧ w'.ownsRow base 102 4 (.slice ea en ec) en (rowsOf entCells (markE (k + 2 * kn) en)) ∧ Fr (fun g => (Value.slice ka kn kc).ownBlock = some g ∨ (Value.slice ea en ec).ownBlock = some g) w w' := by
  have hb0 : Below w.heap.size w (w.alloc (.cells #[.bool ok, .int .i64 kind, .int .i64 tx, .int .i64 id, .int .i64 root, .int .i64 count, .slice ka kn kc, .slice ea en ec, .int .i64 next, .string data] 32)) := (Below.refl _ _).alloc (Nat.le_refl _) _
  have hK0 := hK.alloc (.cells #[.bool ok, .int .i64 kind, .int .i64 tx, .int .i64 id, .int .i64 root, .int .i64 count, .slice ka kn kc, .slice ea en ec, .int .i64 next, .string data] 32)
  have hE0 := hE.alloc (.cells #[.bool ok, .int .i64 kind, .int .i64 tx, .int .i64 id, .int .i64 root, .int .i64 count, .slice ka kn kc, .slice ea en ec, .int .i64 next, .string data] 32)
  go_enter Try.func18, Try.ntmps18
  go_wp2_with fail
  generalize w.alloc (.cells #[.bool ok, .int .i64 kind, .int .i64 tx, .int .i64 id, .int .i64 root, .int .i64 count, .slice ka kn kc, .slice ea en ec, .int .i64 next, .string data] 32) = W0 at hb0 hK0 hE0 ⊢
  refine (markPage_any kind tx id root count ka kn kc ea en ec next data k base xs ys W0 hK0 hE0 hne hk).mono ?_
  rintro e w1 ⟨rfl, hO1, hP1, hF1⟩
  have F1 : Fr (fun g => (Value.slice ka kn kc).ownBlock = some g ∨ (Value.slice ea en ec).ownBlock = some g) w w1 := (Fr.of_below hb0).trans hF1
  clear hb0 hK0 hE0 hF1 hK hE
  go_wp2
  go_ret
  exact ⟨rfl, hO1, hP1, F1⟩
set_option maxHeartbeats 800000 in
theorem heldPageRes_any (ok : Bool) (kind tx id root count : Int) (ka : Option Addr) (kn kc : Nat) (ea : Option Addr) (en ec : Nat) (next : Int) (data : ByteArray) (k : Nat) (w : World) (A B : Nat) (hB : B ≤ w.heap.size) (hK : KidsAt w A B ka kn kc (markK k kn)) (hE : EntsAt w A B ea en ec (markE (k + 2 * kn) en)) (hk : k + 2 * kn + 4 * en ≤ 1099511627776) :
    Calls Try.prog 19 #[.agg #[.bool ok, .int .i64 kind, .int .i64 tx, .int .i64 id, .int .i64 root, .int .i64 count, .slice ka kn kc, .slice ea en ec, .int .i64 next, .string data], .int .i64 k] w fun e w' => e = .returned (.int .i64 ((k + 2 * kn + 4 * en : Nat) : Int)) ∧ Below w.heap.size w w' := by
  have hb0 : Below w.heap.size w (w.alloc (.cells #[.bool ok, .int .i64 kind, .int .i64 tx, .int .i64 id, .int .i64 root, .int .i64 count, .slice ka kn kc, .slice ea en ec, .int .i64 next, .string data] 32)) := (Below.refl _ _).alloc (Nat.le_refl _) _
  go_enter Try.func19, Try.ntmps19
  go_wp2_with fail
  generalize w.alloc (.cells #[.bool ok, .int .i64 kind, .int .i64 tx, .int .i64 id, .int .i64 root, .int .i64 count, .slice ka kn kc, .slice ea en ec, .int .i64 next, .string data] 32) = W0 at hb0 ⊢
  refine (heldPage_any kind tx id root count ka kn kc ea en ec next data k W0 A B (Nat.le_trans hB hb0.size) (hK.below (hb0.mono hB)) (hE.below (hb0.mono hB)) hk).mono ?_
  rintro e w1 ⟨rfl, hb1⟩
  have b1 := hb0.trans (hb1.mono hb0.size)
  have hk1 : ¬ ((k + 2 * kn + 4 * en : Nat) : Int) < 0 := by omega
  clear hb0 hb1 hK hE
  go_wp2
  go_ret
  exact ⟨rfl, b1⟩
set_option maxHeartbeats 400000 in
/-- toByteS, with what is owned. -/
theorem toByteS_own (a : Option Addr) (n c : Nat) (bs : List Int) (w : World) (A B : Nat) (hB : B ≤ w.heap.size) (h : BytesAt w A B a n c bs) (hn : n ≤ 1048576) :
    Calls Try.prog 13 #[.slice a n c] w fun e w' => ∃ g xs, w.heap.size ≤ g ∧ e = .returned (.slice (some ⟨g, 0, none⟩) n n) ∧ w'.ownsRow w.heap.size 5 1 (.slice (some ⟨g, 0, none⟩) n n) n xs ∧ BytesAt w' w.heap.size w'.heap.size (some ⟨g, 0, none⟩) n n bs ∧ Below w.heap.size w w' := by
  obtain ⟨hl, hnc, hc, hw, hcell, _⟩ := h
  obtain ⟨i0, hi, hz0, hz1, hz2⟩ := info_parts info_u8
  go_enter Try.func13, Try.ntmps13
  go_wp2_with (at_make; refine wpList_make_full _ rfl _ _ 22 rfl w.heap.size 5 i0 (.int .u8 0) 1 Try.underlying22 hi hz0 hz1 .i64 .i64 n n n rfl rfl rfl rfl (by rw [hz2]; omega) (by unfold maxLen; omega) (Nat.le_refl _) ?_; intro w1 hown hgr)
  have hb1 : Below w.heap.size w w1 := (Below.refl _ _).grown hgr (Nat.le_refl _) (by simp)
  go_loopw [4] (fun i wr => ∃ k : Nat, k ≤ n ∧ i = .int .i64 k ∧ Below w.heap.size w wr ∧ ∃ xs, wr.ownsRow w.heap.size 5 1 (.slice (some ⟨w.heap.size, 0, none⟩) n n) n xs ∧ ∀ j, j < k → xs[j]? = some (.int .u8 (bs.getD j 0))) (fun i _ => n - (intOf i).toNat)
  case atStart => exact ⟨0, Nat.zero_le _, rfl, hb1, _, hown, fun j hj => absurd hj (Nat.not_lt_zero _)⟩
  case round =>
    clear hown hgr hb1
    obtain ⟨k, hk, rfl, hbel, xs, hown, hxs⟩ := hrel
    have HX : Hid (∀ j, j < k → xs[j]? = some (.int .u8 (bs.getD j 0))) := hxs
    clear hxs
    by_cases hlt : k < n
    · obtain ⟨b, off, rfl, hb, hcb⟩ := hcell (by omega)
      have e1 := (hbel.cell (p := ⟨b, off + k, none⟩) (by show b < _; omega)).trans (hcb k hlt)
      clear hcell hcb
      have hf := hown.frozenAt k
      have hxl := hown.1
      obtain ⟨u, hu⟩ : ∃ u, wr.cell? ⟨w.heap.size, k, none⟩ = some u := ⟨xs[k]'(by omega), by rw [hown.cellAt k (by omega)]; exact List.getElem?_eq_getElem _⟩
      have R := hown.stored k (.int .u8 (bs.getD k 0))
      have HR : Hid (∀ j, j < k + 1 → (xs.set k (.int .u8 (bs.getD k 0)))[j]? = some (.int .u8 (bs.getD j 0))) := by
        intro j hj
        by_cases hjk : j = k
        · subst hjk; rw [List.getElem?_set_self (by omega)]
        · rw [List.getElem?_set_ne (by omega)]; exact HX.out j (by omega)
      have hb2 := hbel.setCell (p := ⟨w.heap.size, k, none⟩) (Nat.le_refl _) (.int .u8 (bs.getD k 0))
      generalize bs.getD k 0 = x at e1 R HR hb2
      clear hown
      obtain ⟨R1, R2⟩ := R
      go_wp2
      go_roundw
      case rel => exact ⟨k + 1, by omega, by go_num, hb2, _, R1, HR.out⟩
      case measure => simp [intOf]; omega
    · go_wp2
      go_ret
      exact ⟨w.heap.size, _, Nat.le_refl _, rfl, hown, bytes_of_owns hown hl (fun j hj => HX.out j (by omega)) hw, hbel⟩
end Go.Proofs.Ytcmhobbpeaeebaa
