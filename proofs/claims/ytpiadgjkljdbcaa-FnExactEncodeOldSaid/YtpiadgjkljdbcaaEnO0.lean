import Derived.Test.YtpiadgjkljdbcaaWrLO
import Derived.Test.YtpiadgjkljdbcaaVl
import Derived.Test.YtpiadgjkljdbcaaSm
namespace Go.Proofs.Ytpiadgjkljdbcaa
namespace Old
open Go.RowKit
set_option linter.unusedVariables false
set_option maxRecDepth 100000

theorem oldPages_any (w : World) : Calls Try.prog 71 #[] w fun e w' => e = .returned (.agg #[.int .i64 1, .int .i64 998]) ∧ Below w.heap.size w w' := by
  go_enter Try.func71, Try.ntmps71
  go_wp2
  exact bodyPost_ret (v := .agg #[.int .i64 1, .int .i64 998]) (by simp [results, Try.results71, go_sem]) rfl ⟨rfl, by first | exact Below.refl _ _ | exact (Below.refl _ _).alloc (Nat.le_refl _) _⟩
theorem oldCursor_any (G : Nat) (L : List Int) (hl : L.length = 128) (w : World) (hr : w.ownsRow 0 5 1 (.slice (some ⟨G, 0, none⟩) 128 128) 128 (u8s L)) :
    Calls Try.prog 72 #[.slice (some ⟨G, 0, none⟩) 128 128] w fun e w' => e = .returned (.pointer (some ⟨w.heap.size, 0, none⟩)) ∧ Cur w' w.heap.size G true 104 105 0 L ∧ Below w.heap.size w w' := by
  go_enter Try.func72, Try.ntmps72
  go_wp2
  go_ret
  exact ⟨rfl, ⟨heap_alloc_new w _, hr.alloc _, hl⟩, (Below.refl _ _).alloc (Nat.le_refl _) _⟩

theorem lay_zero {n : Nat} {bs : List Int} (h : bs.length ≤ n) : lay (List.replicate n 0) 0 bs = padB n bs := by
  simp [lay, padB]
theorem pad_take {bs : List Int} (h : bs.length ≤ 127) : (padB 128 bs).take 127 = padB 127 bs := by
  unfold padB
  rw [List.take_append, List.take_of_length_le h, List.take_replicate]
  congr 2
  omega
theorem pad_lay {bs : List Int} (s : Int) (h : bs.length ≤ 127) : lay (padB 128 bs) 127 [s] = padB 127 bs ++ [s] := by
  have hl : (padB 128 bs).length = 128 := by simp [padB]; omega
  unfold lay
  rw [pad_take h, List.drop_eq_nil_of_le (by simp [hl])]
  simp
theorem padB_len {n : Nat} {bs : List Int} (h : bs.length ≤ n) : (padB n bs).length = n := by simp [padB]; omega
theorem padB_byte {n : Nat} {bs : List Int} (h : ∀ x ∈ bs, 0 ≤ x ∧ x ≤ 255) : ∀ x ∈ padB n bs, 0 ≤ x ∧ x ≤ 255 := bytes_app h (by intro x hx; have := List.eq_of_mem_replicate hx; omega)
theorem be1 (s : Int) : beB 1 s = [s % 256] := rfl
theorem str_O : strB ⟨#[79]⟩ = [79] := by decide
end Old
end Go.Proofs.Ytpiadgjkljdbcaa
