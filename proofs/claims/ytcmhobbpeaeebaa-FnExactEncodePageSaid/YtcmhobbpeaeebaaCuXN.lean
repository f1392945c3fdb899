import Derived.Test.YtcmhobbpeaeebaaCuL
namespace Go.Proofs.Ytcmhobbpeaeebaa
namespace New
open Go.RowKit
/-- The cursor's way of writing numbers. -/
theorem Put (C G : Nat) : ∀ (k : Nat) (L : List Int) (x : Int) (n : Nat) (w : World), I64 x → n ≤ 8 → Cur w C G false 79 80 k L → k + n ≤ 128 →
    Calls Try.prog 79 #[.pointer (some ⟨C, 0, none⟩), .int .i64 x, .int .i64 n] w fun e w' => e = .returned (.tuple #[]) ∧ Wrote w w' C G false 79 80 k L (numB false n x) :=
  fun k L x n w hx hn h hk => putLow_any C G k _ _ false L x hx n hn w h hk
end New
end Go.Proofs.Ytcmhobbpeaeebaa
