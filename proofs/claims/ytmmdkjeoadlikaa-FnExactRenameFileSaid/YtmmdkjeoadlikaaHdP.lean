import Derived.Test.YtmmdkjeoadlikaaMkP
import Derived.Deep.RegionLaw
import Derived.Deep.RegionHeld3
namespace Go.Proofs.Ytmmdkjeoadlikaa
open Go.RowKit
set_option linter.unusedVariables false
set_option maxRecDepth 100000

theorem markP_get (k : Nat) (fs : List PP) (j : Nat) (h : j < fs.length) (d : PP) : (markP k fs).getD j d = (mkS (kP k (fs.take j)), ((kP k (fs.take j) + 1 : Nat) : Int), marks (kP k (fs.take j) + 2) fs[j].2.2.length) := by
  induction fs generalizing k j with
  | nil => simp at h
  | cons a r ih =>
    cases j with
    | zero => simp [markP, kP]
    | succ j =>
      have h' : j < r.length := by simpa using h
      simpa [markP, kP] using ih (k + 2 + a.2.2.length) j h'

set_option maxHeartbeats 400000 in
theorem heldPendS_any (a : Option Addr) (n c k A B : Nat) (fs : List PP) (w : World) (h : PendsAt w A B a n c (markP k fs)) (hB : B ≤ w.heap.size) (hk : kP k fs ≤ 1099511627776) :
    Calls Try.prog 78 #[.slice a n c, .int .i64 k] w fun e w' => e = .returned (.int .i64 ((kP k fs : Nat) : Int)) ∧ Below w.heap.size w w' := by
  obtain ⟨hl, hnc, hc, hcell⟩ := h
  rw [markP_length] at hl
  have hnb : n ≤ 1099511627776 := by have := kP_le k fs; omega
  replace hl : Hid (n = fs.length) := hl.symm
  go_enter Try.func78, Try.ntmps78
  go_wp2
  go_loopw [1, 5] (fun kv i wr => ∃ (j : Nat), j ≤ n ∧ i = .int .i64 j ∧ kv = .int .i64 ((kP k (fs.take j) : Nat) : Int) ∧ Below w.heap.size w wr) (fun _ i _ => n - (intOf i).toNat)
  case atStart => exact ⟨0, Nat.zero_le _, rfl, by simp [kP], Below.refl _ _⟩
  case round =>
    obtain ⟨j, hj, rfl, rfl, hbel⟩ := hrel
    by_cases hlt : j < n
    · have hjf : j < fs.length := by have := hl.out; omega
      obtain ⟨b, off, rfl, hb, hcb⟩ := hcell (by omega)
      have e1 := (hcb j hlt).below hb (hbel.mono hB)
      rw [markP_get k fs j hjf] at e1
      clear hcell hcb
      have hK := kP_take k fs j hjf
      have hKle := kP_take_le k fs (j + 1)
      obtain ⟨kj, hkj⟩ : ∃ kj, kj = kP k (fs.take j) := ⟨_, rfl⟩
      rw [← hkj] at hK e1 ⊢
      obtain ⟨ln, hln⟩ : ∃ ln, ln = fs[j].2.2.length := ⟨_, rfl⟩
      rw [← hln] at hK e1
      have hkb : kj + 2 + ln ≤ 1099511627776 := by omega
      obtain ⟨p1, p2, p5, p6, pa, pn, pc, p3, p4⟩ := e1
      have hpl := p4.1
      rw [marks_length] at hpl
      subst hpl
      have HK : Hid (kP k (fs.take (j + 1)) = kj + 2 + ln) := hK
      have hs := hbel.size
      have hbk : b < wr.heap.size := by omega
      have HP : Hid (BytesAt wr A B pa ln pc (marks (kj + 2) ln)) := p4
      clear hK hKle hkj hln hjf p4
      go_wp2
      go_region_held3 (fun w' => w'.cell? ⟨b, off + j * 3, none⟩ = some (.string (mkS kj))) (go_keep)
        (first | (go_at_call 74; refine (markText_any kj wr.drew (by omega)).mono ?_; rintro e w1 ⟨rfl, hb1⟩; replace hb1 : Below wr.heap.size wr w1 := ((Below.refl _ wr).drew).trans hb1; have z1 := (hb1.cell (p := ⟨b, off + j * 3, none⟩) hbk).trans p1))
      have z5 := (hb1.cell (p := ⟨b, off + j * 3 + 1, none⟩) hbk).trans p5
      have z3 := (hb1.cell (p := ⟨b, off + j * 3 + 2, none⟩) hbk).trans p3
      have HP1 : Hid (BytesAt w1 A B pa ln pc (marks (kj + 2) ln)) := HP.out.below (hb1.mono (by omega))
      have hbw : Below w.heap.size w w1 := hbel.trans (hb1.mono hs)
      have hd : decide ((kj : Int) + 2 + (ln : Int) < 0) = false := by simp; omega
      have hK2 := HK.out
      clear hb1 hbel p1 p3 p5 p6 HP HK
      go_wp2_with (first | (go_at_call 15; refine (heldByteS_any pa ln pc (kj + 2) w1 A B HP1.out hkb).mono ?_; rintro e w2 ⟨rfl, rfl⟩))
      go_roundw
      case rel => exact ⟨j + 1, by omega, by go_num, by rw [hK2]; go_num, hbw⟩
      case measure => simp [intOf]; omega
    · have hj2 : fs.take j = fs := List.take_of_length_le (by have := hl.out; omega)
      rw [hj2]
      clear hj2
      go_wp2
      go_ret
      exact ⟨rfl, hbel⟩
end Go.Proofs.Ytmmdkjeoadlikaa
