import Derived.Test.YtmmdkjeoadlikaaTo
import Derived.Test.YtmmdkjeoadlikaaEq
import Derived.Test.YtmmdkjeoadlikaaSz
import Derived.Test.YtmmdkjeoadlikaaSeen
namespace Go.Proofs.Ytmmdkjeoadlikaa
open Go.RowKit Go.Maps
set_option linter.unusedVariables false
set_option maxRecDepth 100000

theorem box5' {wr : World} {N : Nat} {v0 v1 v2 v3 v4 : Value} {t : TypeId} (h : wr.heap[N]? = some (.cells #[v0, v1, v2, v3, v4] t)) : wr.cell? ⟨N, 0, none⟩ = some v0 ∧ wr.cell? ⟨N, 1, none⟩ = some v1 ∧ wr.cell? ⟨N, 2, none⟩ = some v2 ∧ wr.cell? ⟨N, 3, none⟩ = some v3 ∧ wr.cell? ⟨N, 4, none⟩ = some v4 := by
  refine ⟨?_, ?_, ?_, ?_, ?_⟩
  · rw [cell_of_row wr N 0 _ _ _ h]; rfl
  · rw [cell_of_row wr N 1 _ _ _ h]; rfl
  · rw [cell_of_row wr N 2 _ _ _ h]; rfl
  · rw [cell_of_row wr N 3 _ _ _ h]; rfl
  · rw [cell_of_row wr N 4 _ _ _ h]; rfl

/-- How many pages a file has as seen, or -1. -/
def pageC (fs : List PF) (ps : List PP) (cp fu : Int) (nm : ByteArray) : Int :=
  if implV fs ps cp fu = true then (if findN (lastF ps fs) nm < (lastF ps fs).length then lenI (lastF ps fs) nm else -1) else -1
theorem inv_last : ∀ (ps : List PP) (fs : List PF), Inv fs → Inv (lastF ps fs)
  | [], _, h => h
  | p :: r, fs, h => by
    simp only [lastF]
    exact inv_last r _ (doP_inv h)
theorem specV_parts {fs : List PF} {ps : List PP} {cp fu : Int} (h : specV fs ps cp fu = true) : fs.length ≤ 12 ∧ cp ≤ 1000 ∧ totalI fs ≤ cp ∧ cacheS cp ps fs = true ∧ filesOk fs = true := by
  simp only [specV, headB, Bool.and_eq_true, decide_eq_true_eq] at h
  obtain ⟨⟨⟨⟨⟨⟨a1, a2⟩, a3⟩, a4⟩, a5⟩, a6⟩, a7⟩ := h
  exact ⟨a1, a2.2, a6, a7, a5⟩

set_option maxHeartbeats 1000000 in
theorem implPageCount_any (a : Option Addr) (n c : Nat) (fs : List PF) (b : Option Addr) (m d : Nat) (ps : List PP) (cp fu : Int) (de : Bool) (nm : ByteArray) (w : World) (A B : Nat) (hB : B ≤ w.heap.size) (hF : FilesAt w A B a n c fs) (hP : PendsAt w A B b m d ps) (hs : nm.size ≤ maxLen)
    (hall : ∀ j, j < n → (fs.getD j (ByteArray.empty, [])).2.length ≤ 1048576) :
    Calls Try.prog 79 #[.agg #[.slice a n c, .slice b m d, .int .i64 cp, .int .i64 fu, .bool de], .string nm] w fun e w' => e = .returned (.int .i64 (pageC fs ps cp fu nm)) ∧ Below w.heap.size w w' := by
  have hb0 : Below w.heap.size w (w.alloc (.cells #[.slice a n c, .slice b m d, .int .i64 cp, .int .i64 fu, .bool de] 32)) := (Below.refl _ _).alloc (Nat.le_refl _) _
  go_enter Try.func79, Try.ntmps79
  go_wp2_with fail
  refine (countSeen_any _ _ _ fs _ _ _ ps _ _ _ _ A B (by simp; omega) (hF.below (hb0.mono hB)) (hP.below (hb0.mono hB)) hall).mono ?_
  rintro e w1 ⟨r, t, ok, rfl, hok, hb1, hyes⟩
  have hg1 := hb0.trans (hb1.mono (by simp))
  have hz1 : w.heap.size + 1 ≤ w1.heap.size := by simpa using hb1.size
  cases ok with
  | false =>
    have HR : Hid (pageC fs ps cp fu nm = -1) := by show _ = _; unfold pageC; rw [← hok]; simp
    clear hok hyes
    go_wp2_with fail
    go_ret
    exact ⟨ret_int HR.out.symm, hg1.alloc (by omega) _⟩
  | true =>
    obtain ⟨ht, mb, k, D, rfl, hmb, hM, hR⟩ := hyes rfl
    have hI : Inv (lastF ps fs) := by
      refine inv_last _ _ (inv_all ?_)
      have h2 := hok
      simp only [implV, Bool.true_eq, Bool.and_eq_true] at h2
      exact h2.1.1.2
    have hl0 := (lenI_le_total (lastF ps fs) nm).1
    have hlk := look_at (w := w1.alloc (.cells #[.map (some mb), .int .i64 t] 99)) (hM.keep (Below.heap_alloc _ _ _ hM.lt)) hR hs 0
    have hlk' : (Instr.lookup 97 (.map (some mb)) (.string nm) false).run Try.prog (w1.alloc (.cells #[.map (some mb), .int .i64 t] 99)) = .ok (.int .i64 (lenI (lastF ps fs) nm)) (w1.alloc (.cells #[.map (some mb), .int .i64 t] 99)) := hlk
    have HPC : Hid (pageC fs ps cp fu nm = if lenI (lastF ps fs) nm = 0 then -1 else lenI (lastF ps fs) nm) := by
      show _ = _
      unfold pageC
      rw [if_pos hok.symm]
      by_cases hf : findN (lastF ps fs) nm < (lastF ps fs).length
      · have := lenI_pos hI hf
        rw [if_pos hf, if_neg (by omega)]
      · rw [if_neg hf, lenI_none hf]; rfl
    clear hlk hok hyes hI hM hR ht
    generalize lenI (lastF ps fs) nm = ln at *
    by_cases t1 : ln = 0
    · have s1 : (ln == 0) = true := by simp [t1]
      have HR : Hid (pageC fs ps cp fu nm = -1) := by show _ = _; rw [HPC.out, if_pos t1]
      clear t1
      go_wp2_with fail
      go_ret
      exact ⟨ret_int HR.out.symm, hg1.alloc (by omega) _⟩
    · have s1 : (ln == 0) = false := by simp [t1]
      have HR : Hid (pageC fs ps cp fu nm = ln) := by show _ = _; rw [HPC.out, if_neg t1]
      go_wp2_with fail
      go_ret
      exact ⟨ret_int HR.out.symm, hg1.alloc (by omega) _⟩
end Go.Proofs.Ytmmdkjeoadlikaa
