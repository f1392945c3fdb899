import Derived.Test.YtakdaandbdbdnaaOpen
import Derived.Test.YtakdaandbdbdnaaJE
namespace Go.Proofs.Ytakdaandbdbdnaa
open Go.RowKit Go.Deep Go.ChangeShapes Go.WideShapes Go.ChangeAt
set_option linter.unusedVariables false
set_option maxRecDepth 100000
section
variable {H : Type} {enc : TypeId × Value → H} {w : World} {spare : Nat → Bool} {held : Bool}

theorem cellsBls : Try.prog.cellsOf 32 = 1 := by kernel_rfl
theorem cellsLCr : Try.prog.cellsOf 52 = 3 := by kernel_rfl
theorem bools_open {fuel : Nat} {cs : List Value} {x : DataW H × List MemPlace} (h : DataW.trod enc Try.prog w 0 spare held fuel 32 cs = some x) : ∃ a n c ks, cs = [.slice a n c] ∧ BoolsAt w 0 w.heap.size a n c ks := by
  rcases open_slice Try.underlying32 h with ⟨rfl, _⟩ | ⟨a, len, cap, m, k, D, Pl, rfl, _, hl, hm, hmm, _, he⟩
  · exact ⟨none, 0, 0, [], rfl, rfl, Nat.le_refl _, Nat.zero_le _, fun h => absurd h (Nat.lt_irrefl _)⟩
  · have hml : len ≤ m := by rw [hmm]; split <;> omega
    by_cases h0 : len = 0
    · subst h0
      exact ⟨some a, 0, cap, [], rfl, rfl, hl, hm, fun h => absurd h (Nat.lt_irrefl _)⟩
    · rw [cellsBool] at he
      obtain ⟨cs0, hc0, _⟩ := he 0 (by omega)
      obtain ⟨_, hl0, hg0⟩ := World.cells?_some hc0
      have h00 := hg0 0 (by omega)
      rw [List.getElem?_eq_getElem (by omega)] at h00
      obtain ⟨b, off, rfl, hlt⟩ : ∃ b off, a = ⟨b, off, none⟩ ∧ b < w.heap.size := addr_of (by simpa [Addr.add] using h00)
      have hadd : ∀ k, (⟨b, off, none⟩ : Addr).add k = ⟨b, off + k, none⟩ := fun k => by simp [Addr.add]
      obtain ⟨F, hF⟩ := choose_lt (α := Bool) (n := len) (p := fun i f => w.cell? ⟨b, off + i, none⟩ = some (.bool f)) (fun i hi => by
        obtain ⟨cs', hc', ht⟩ := he i (by omega)
        obtain ⟨_, hl', hg'⟩ := World.cells?_some hc'
        match cs', hl' with
        | [v], _ =>
          obtain ⟨f, e0, _⟩ := DataW.trod_bool Try.underlying4 ht
          simp only [List.cons.injEq, and_true] at e0
          subst e0
          have h9 := hg' 0 (by omega)
          rw [hadd, show (⟨b, off + i * 1, none⟩ : Addr).add 0 = ⟨b, off + i, none⟩ by simp [Addr.add]] at h9
          exact ⟨f, h9⟩)
      refine ⟨some ⟨b, off, none⟩, len, cap, (List.range len).map F, rfl, by simp, hl, hm, fun _ => ⟨b, off, rfl, ⟨Nat.zero_le _, hlt⟩, fun i hi => ?_⟩⟩
      rw [getD_range _ _ _ _ hi]
      exact hF i hi
theorem crash_open {r : Reach} {b0 : Nat} {v : Value} {d : DataW H} {p : List MemPlace} (hv : Value.okWide Try.prog w r b0 52 v) (h : DataW.Trod enc Try.prog w 0 spare held 52 v d p) :
    ∃ ka kn kc ks tr ta, v = .agg #[.slice ka kn kc, .int .i64 tr, .int .i64 ta] ∧ BoolsAt w 0 w.heap.size ka kn kc ks := by
  obtain ⟨cs, rfl, hsz⟩ := okWide_struct Try.underlying52 hv
  obtain ⟨l⟩ := cs
  rw [cellsLCr] at hsz
  obtain ⟨fuel, hf⟩ := h
  match l, hsz with
  | [v0, v1, v2], _ =>
    obtain ⟨xs, n, _, _, hl, hlen, hff⟩ := DataW.trod_struct Try.underlying52 hf
    match xs, hlen with
    | [y0, y1, y2], _ =>
      have h0 : DataW.trod enc Try.prog w 0 spare held n 32 [v0] = some y0 := by simpa [Value.cells, cellsBls] using hff 0 _ rfl
      have h1 : DataW.trod enc Try.prog w 0 spare held n 2 [v1] = some y1 := by simpa [Value.cells, cellsI64] using hff 1 _ rfl
      have h2 : DataW.trod enc Try.prog w 0 spare held n 2 [v2] = some y2 := by simpa [Value.cells, cellsI64] using hff 2 _ rfl
      obtain ⟨a, n, c, ks, e0, hK⟩ := bools_open h0
      obtain ⟨tr, e1, _, w1⟩ := DataW.trod_int Try.underlying2 h1
      obtain ⟨ta, e2, _, w2⟩ := DataW.trod_int Try.underlying2 h2
      simp only [List.cons.injEq, and_true] at e0 e1 e2
      subst e0 e1 e2
      exact ⟨a, n, c, ks, tr, ta, rfl, hK⟩
end
end Go.Proofs.Ytakdaandbdbdnaa
