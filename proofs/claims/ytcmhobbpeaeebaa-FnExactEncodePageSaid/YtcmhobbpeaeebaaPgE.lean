import Derived.Test.YtcmhobbpeaeebaaPgM
namespace Go.Proofs.Ytcmhobbpeaeebaa
open Go.RowKit
set_option linter.unusedVariables false
set_option maxRecDepth 100000

theorem eqKid_same (k : PK) (w : World) :
    Calls Try.prog 94 #[.agg #[.string k.1, .int .i64 k.2], .agg #[.string k.1, .int .i64 k.2]] w fun e w' => e = .returned (.bool true) ∧ Below w.heap.size w w' := by
  have e2 : (k.2 != k.2) = false := by simp
  go_enter Try.func94, Try.ntmps94
  go_wp2
  go_ret
  exact ⟨rfl, ((Below.refl _ _).alloc (Nat.le_refl _) _).alloc (by simp) _⟩
theorem eqEnt_same (k : PE) (w : World) :
    Calls Try.prog 95 #[.agg #[.string k.1, .string k.2.1, .int .i64 k.2.2.1, .int .i64 k.2.2.2], .agg #[.string k.1, .string k.2.1, .int .i64 k.2.2.1, .int .i64 k.2.2.2]] w fun e w' => e = .returned (.bool true) ∧ Below w.heap.size w w' := by
  have e1 : (k.2.2.1 != k.2.2.1) = false := by simp
  have e2 : (k.2.2.2 != k.2.2.2) = false := by simp
  go_enter Try.func95, Try.ntmps95
  go_wp2
  go_ret
  exact ⟨rfl, ((Below.refl _ _).alloc (Nat.le_refl _) _).alloc (by simp) _⟩
theorem eqMeta_same (id root count : Int) (w : World) :
    Calls Try.prog 63 #[.agg #[.int .i64 id, .int .i64 root, .int .i64 count], .agg #[.int .i64 id, .int .i64 root, .int .i64 count]] w fun e w' => e = .returned (.bool true) ∧ Below w.heap.size w w' := by
  have e1 : (id != id) = false := by simp
  have e2 : (root != root) = false := by simp
  have e3 : (count != count) = false := by simp
  go_enter Try.func63, Try.ntmps63
  go_wp2
  go_ret
  exact ⟨rfl, ((Below.refl _ _).alloc (Nat.le_refl _) _).alloc (by simp) _⟩
theorem kids_at {fit : PK → Prop} {w : World} {A B : Nat} {a : Option Addr} {n c : Nat} {ks : List PK} (h : RowsAt w A B 2 kidCells fit dK a n c ks) {i : Nat} (hi : i < n) :
    ∃ b off, a = some ⟨b, off, none⟩ ∧ (A ≤ b ∧ b < B) ∧ fit (ks.getD i dK) ∧ w.cell? ⟨b, off + i * 2, none⟩ = some (.string (ks.getD i dK).1) ∧ w.cell? ⟨b, off + i * 2 + 1, none⟩ = some (.int .i64 (ks.getD i dK).2) := by
  obtain ⟨h1, h2, h3, h4, h5⟩ := h
  obtain ⟨b, off, rfl, hlt, hc⟩ := h5 (by omega)
  exact ⟨b, off, rfl, hlt, h4 i hi, by simpa [kidCells] using hc i hi 0 (by omega), by simpa [kidCells] using hc i hi 1 (by omega)⟩
theorem ents_at {fit : PE → Prop} {w : World} {A B : Nat} {a : Option Addr} {n c : Nat} {es : List PE} (h : RowsAt w A B 4 entCells fit dE a n c es) {i : Nat} (hi : i < n) :
    ∃ b off, a = some ⟨b, off, none⟩ ∧ (A ≤ b ∧ b < B) ∧ fit (es.getD i dE) ∧ w.cell? ⟨b, off + i * 4, none⟩ = some (.string (es.getD i dE).1) ∧ w.cell? ⟨b, off + i * 4 + 1, none⟩ = some (.string (es.getD i dE).2.1) ∧ w.cell? ⟨b, off + i * 4 + 2, none⟩ = some (.int .i64 (es.getD i dE).2.2.1) ∧ w.cell? ⟨b, off + i * 4 + 3, none⟩ = some (.int .i64 (es.getD i dE).2.2.2) := by
  obtain ⟨h1, h2, h3, h4, h5⟩ := h
  obtain ⟨b, off, rfl, hlt, hc⟩ := h5 (by omega)
  exact ⟨b, off, rfl, hlt, h4 i hi, by simpa [entCells] using hc i hi 0 (by omega), by simpa [entCells] using hc i hi 1 (by omega), by simpa [entCells] using hc i hi 2 (by omega), by simpa [entCells] using hc i hi 3 (by omega)⟩
set_option maxHeartbeats 400000 in
theorem eqKidS_same {fit fit2 : PK → Prop} (a : Option Addr) (n c : Nat) (a2 : Option Addr) (c2 : Nat) (ks : List PK) (w : World) (A B A2 B2 : Nat) (hB : B ≤ w.heap.size) (hB2 : B2 ≤ w.heap.size) (h : RowsAt w A B 2 kidCells fit dK a n c ks) (k2 : RowsAt w A2 B2 2 kidCells fit2 dK a2 n c2 ks) :
    Calls Try.prog 64 #[.slice a n c, .slice a2 n c2] w fun e w' => e = .returned (.bool true) ∧ Below w.heap.size w w' := by
  have hc := h.2.2.1
  have hnc := h.2.1
  unfold maxLen at hc
  have hne : ((n : Int) != (n : Int)) = false := by simp
  go_enter Try.func64, Try.ntmps64
  go_wp2
  go_loopw [5] (fun i wr => ∃ k : Nat, k ≤ n ∧ i = .int .i64 k ∧ Below w.heap.size w wr) (fun i _ => n - (intOf i).toNat)
  case atStart => exact ⟨0, Nat.zero_le _, rfl, Below.refl _ _⟩
  case round =>
    obtain ⟨k, hk, rfl, hbel⟩ := hrel
    by_cases hlt : k < n
    · obtain ⟨b, off, rfl, hb, hfit, e0, e1⟩ := kids_at (h.below (hbel.mono hB)) hlt
      obtain ⟨b2, off2, rfl, hb2, hfit2, f0, f1⟩ := kids_at (k2.below (hbel.mono hB2)) hlt
      generalize ks.getD k dK = kd at e0 e1 f0 f1 hfit
      clear h k2 hfit2
      have hs := hbel.size
      go_wp2
      go_region_with (go_at_call 94; refine (eqKid_same kd _).mono ?_; rintro e w1 ⟨rfl, hb1⟩)
      all_goals
        go_wp2
        go_roundw
        case rel => exact ⟨k + 1, by omega, by go_num, (hbel.drew).trans (hb1.mono hs)⟩
        case measure => simp [intOf]; omega
    · go_wp2
      go_ret
      exact ⟨rfl, hbel⟩
set_option maxHeartbeats 400000 in
theorem eqEntS_same {fit fit2 : PE → Prop} (a : Option Addr) (n c : Nat) (a2 : Option Addr) (c2 : Nat) (ks : List PE) (w : World) (A B A2 B2 : Nat) (hB : B ≤ w.heap.size) (hB2 : B2 ≤ w.heap.size) (h : RowsAt w A B 4 entCells fit dE a n c ks) (k2 : RowsAt w A2 B2 4 entCells fit2 dE a2 n c2 ks) :
    Calls Try.prog 65 #[.slice a n c, .slice a2 n c2] w fun e w' => e = .returned (.bool true) ∧ Below w.heap.size w w' := by
  have hc := h.2.2.1
  have hnc := h.2.1
  unfold maxLen at hc
  have hne : ((n : Int) != (n : Int)) = false := by simp
  go_enter Try.func65, Try.ntmps65
  go_wp2
  go_loopw [5] (fun i wr => ∃ k : Nat, k ≤ n ∧ i = .int .i64 k ∧ Below w.heap.size w wr) (fun i _ => n - (intOf i).toNat)
  case atStart => exact ⟨0, Nat.zero_le _, rfl, Below.refl _ _⟩
  case round =>
    obtain ⟨k, hk, rfl, hbel⟩ := hrel
    by_cases hlt : k < n
    · obtain ⟨b, off, rfl, hb, hfit, e0, e1, e2, e3⟩ := ents_at (h.below (hbel.mono hB)) hlt
      obtain ⟨b2, off2, rfl, hb2, hfit2, f0, f1, f2, f3⟩ := ents_at (k2.below (hbel.mono hB2)) hlt
      generalize ks.getD k dE = kd at e0 e1 e2 e3 f0 f1 f2 f3 hfit
      clear h k2 hfit2
      have hs := hbel.size
      go_wp2
      go_region_with (go_at_call 95; refine (eqEnt_same kd _).mono ?_; rintro e w1 ⟨rfl, hb1⟩)
      all_goals
        go_wp2
        go_roundw
        case rel => exact ⟨k + 1, by omega, by go_num, (hbel.drew).trans (hb1.mono hs)⟩
        case measure => simp [intOf]; omega
    · go_wp2
      go_ret
      exact ⟨rfl, hbel⟩
set_option maxHeartbeats 800000 in
theorem eqPage_same {fit fit2 : PK → Prop} {fie fie2 : PE → Prop} (kind tx id root count : Int) (ka : Option Addr) (kn kc : Nat) (ks : List PK) (ea : Option Addr) (en ec : Nat) (es : List PE) (ka2 : Option Addr) (kc2 : Nat) (ea2 : Option Addr) (ec2 : Nat) (next : Int) (data : ByteArray) (w : World) (A B A2 B2 : Nat) (hB : B ≤ w.heap.size) (hB2 : B2 ≤ w.heap.size) (hK : RowsAt w A B 2 kidCells fit dK ka kn kc ks) (hE : RowsAt w A B 4 entCells fie dE ea en ec es) (hK2 : RowsAt w A2 B2 2 kidCells fit2 dK ka2 kn kc2 ks) (hE2 : RowsAt w A2 B2 4 entCells fie2 dE ea2 en ec2 es) :
    Calls Try.prog 23 #[.agg #[.int .i64 kind, .int .i64 tx, .int .i64 id, .int .i64 root, .int .i64 count, .slice ka kn kc, .slice ea en ec, .int .i64 next, .string data], .agg #[.int .i64 kind, .int .i64 tx, .int .i64 id, .int .i64 root, .int .i64 count, .slice ka2 kn kc2, .slice ea2 en ec2, .int .i64 next, .string data]] w fun e w' => e = .returned (.bool true) ∧ Below w.heap.size w w' := by
  have hb0 : Below w.heap.size w ((w.alloc (.cells #[.int .i64 kind, .int .i64 tx, .int .i64 id, .int .i64 root, .int .i64 count, .slice ka kn kc, .slice ea en ec, .int .i64 next, .string data] 28)).alloc (.cells #[.int .i64 kind, .int .i64 tx, .int .i64 id, .int .i64 root, .int .i64 count, .slice ka2 kn kc2, .slice ea2 en ec2, .int .i64 next, .string data] 28)) := ((Below.refl _ _).alloc (Nat.le_refl _) _).alloc (by simp) _
  have e1 : (kind != kind) = false := by simp
  have e2 : (tx != tx) = false := by simp
  have e3 : (next != next) = false := by simp
  go_enter Try.func23, Try.ntmps23
  go_wp2_with fail
  refine (eqMeta_same id root count _).mono ?_
  rintro e w1 ⟨rfl, hb1⟩
  have hb2 := hb0.trans (hb1.mono (by simp; omega))
  have hz := hb1.size
  simp at hz
  have hz2 : w.heap.size < w1.heap.size := by omega
  have hz3 : w.heap.size + 1 < w1.heap.size := by omega
  obtain ⟨hc1, hf1⟩ := bcell hb1
  clear hb0 hb1
  go_wp2_with fail
  refine (eqKidS_same _ _ _ _ _ ks _ A B A2 B2 (by omega) (by omega) (hK.below (hb2.mono hB)) (hK2.below (hb2.mono hB2))).mono ?_
  rintro e w2 ⟨rfl, hb3⟩
  have hb4 := hb2.trans (hb3.mono (by omega))
  have hy := hb3.size
  have hy2 : w.heap.size < w2.heap.size := by omega
  have hy3 : w.heap.size + 1 < w2.heap.size := by omega
  obtain ⟨hc2, hf2⟩ := bcell hb3
  clear hb2 hb3
  go_wp2_with fail
  refine (eqEntS_same _ _ _ _ _ es _ A B A2 B2 (by omega) (by omega) (hE.below (hb4.mono hB)) (hE2.below (hb4.mono hB2))).mono ?_
  rintro e w3 ⟨rfl, hb5⟩
  have hb6 := hb4.trans (hb5.mono (by omega))
  have hx := hb5.size
  have hx2 : w.heap.size < w3.heap.size := by omega
  have hx3 : w.heap.size + 1 < w3.heap.size := by omega
  obtain ⟨hc3, hf3⟩ := bcell hb5
  clear hb4 hb5
  go_wp2
  go_ret
  exact ⟨rfl, hb6⟩
end Go.Proofs.Ytcmhobbpeaeebaa
