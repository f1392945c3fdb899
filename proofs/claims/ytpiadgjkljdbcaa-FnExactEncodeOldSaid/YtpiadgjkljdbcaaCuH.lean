import Derived.Test.YtpiadgjkljdbcaaCu
namespace Go.Proofs.Ytpiadgjkljdbcaa
open Go.RowKit
set_option linter.unusedVariables false
set_option maxRecDepth 100000

set_option maxHeartbeats 800000 in
theorem putHigh_any (C G k pf gf : Nat) (old : Bool) (L : List Int) (x : Int) (hx : I64 x) (n : Nat) (hn : n ≤ 8) (w : World) (h : Cur w C G old pf gf k L) (hk : k + n ≤ 128) :
    Calls Try.prog 104 #[.pointer (some ⟨C, 0, none⟩), .int .i64 x, .int .i64 n] w fun e w' => e = .returned (.tuple #[]) ∧ Wrote w w' C G old pf gf k L (beB n x) := by
  go_enter Try.func104, Try.ntmps104
  go_wp2_with fail
  go_loopw [8] (fun iv wr => ∃ i : Nat, i ≤ n ∧ iv = .int .i64 i ∧ Hid (Wrote w wr C G old pf gf k L ((beB n x).take i))) (fun iv _ => n - (intOf iv).toNat)
  case atStart => exact ⟨0, Nat.zero_le _, rfl, by show Wrote _ _ _ _ _ _ _ _ _ _; simpa using wrote_nil h⟩
  case round =>
    obtain ⟨i, hi, rfl, HW⟩ := hrel
    by_cases hlt : i < n
    · have HS : Hid ((beB n x).take (i + 1) = (beB n x).take i ++ [x / 2 ^ (8 * (n - 1 - i)) % 256]) := beB_take x hlt
      have hc := HW.out.1
      have hll : ((beB n x).take i).length = i := by simp [beB_len]; omega
      rw [hll] at hc
      go_wp2_with fail
      refine (putByte_any C G (k + i) pf gf old _ (x / 2 ^ (8 * (n - 1 - i)) % 256) wr hc (by omega)).mono ?_
      rintro e w1 ⟨rfl, hw1⟩
      have R : Hid (Wrote w w1 C G old pf gf k L ((beB n x).take (i + 1))) := by
        show Wrote _ _ _ _ _ _ _ _ _ _
        rw [HS.out]
        exact HW.out.trans (by rw [hll, h.len]; omega) (by rw [hll]; exact hw1)
      clear hw1 hc HW
      go_wp2
      go_roundw
      case rel => exact ⟨i + 1, by omega, by go_num, R⟩
      case measure => simp [intOf]; omega
    · go_wp2
      go_end0
      have := HW.out
      rw [List.take_of_length_le (by rw [beB_len]; omega)] at this
      exact ⟨rfl, this⟩
theorem putHigh_num (C G gf : Nat) : PutNum C G true 104 gf := fun k L x n w hx hn h hk => putHigh_any C G k _ gf true L x hx n hn w h hk
end Go.Proofs.Ytpiadgjkljdbcaa
