import Derived.Test.YtpiadgjkljdbcaaCuH
namespace Go.Proofs.Ytpiadgjkljdbcaa
namespace Old
open Go.RowKit
/-- The cursor's way of writing numbers. -/
theorem Put (C G : Nat) : ∀ (k : Nat) (L : List Int) (x : Int) (n : Nat) (w : World), I64 x → n ≤ 8 → Cur w C G true 104 105 k L → k + n ≤ 128 →
    Calls Try.prog 104 #[.pointer (some ⟨C, 0, none⟩), .int .i64 x, .int .i64 n] w fun e w' => e = .returned (.tuple #[]) ∧ Wrote w w' C G true 104 105 k L (numB true n x) :=
  fun k L x n w hx hn h hk => putHigh_any C G k _ _ true L x hx n hn w h hk
end Old
end Go.Proofs.Ytpiadgjkljdbcaa
