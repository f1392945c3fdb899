import Derived.Test.YtpmagndofiaooaaJB2
import Derived.Test.YtpmagndofiaooaaRows
import Derived.Test.YtpmagndofiaooaaChecked
import Derived.Deep.Slices
import Derived.WalkKit
import Derived.ProofKit
import Derived.OpenShut
import Derived.ShutString
import Derived.ChangeOld
import Derived.Below
namespace Go.Proofs.Ytpmagndofiaooaa
open Go.RowKit Go.Deep Go.ChangeShapes Go.WideShapes Go.ChangeAt
open Go.ChangeMaps (open_string shut_string)
set_option linter.unusedVariables false
set_option maxRecDepth 100000
section
variable {H : Type} {enc : TypeId × Value → H} {w : World} {spare : Nat → Bool} {held : Bool}
theorem tbStr : Try.prog.cellsOf 9 = 1 := by kernel_rfl
theorem tbPair : Try.prog.cellsOf 51 = 2 := by kernel_rfl
theorem addr_ofB {a : Addr} {v : Value} (h : w.cell? a = some v) : ∃ b off, a = ⟨b, off, none⟩ ∧ b < w.heap.size := by
  obtain ⟨b, off, spot⟩ := a
  have hspot : spot = none := World.cell?_spot h
  subst hspot
  exact ⟨b, off, rfl, lt_of_cell h⟩
theorem str_openB {fuel : Nat} {cs : List Value} {x : DataW H × List MemPlace} (h : DataW.trod enc Try.prog w 0 spare held fuel 9 cs = some x) : ∃ s : ByteArray, s.size ≤ maxLen ∧ cs = [.string s] := by
  obtain ⟨s, e0, _, hs⟩ := DataW.trod_string Try.underlying9 h
  exact ⟨s, hs, e0⟩
theorem pair_openB {fuel : Nat} {cs : List Value} {x : DataW H × List MemPlace} (h : DataW.trod enc Try.prog w 0 spare held fuel 51 cs = some x) : ∃ z : ByteArray × ByteArray, (z.1.size ≤ maxLen ∧ z.2.size ≤ maxLen) ∧ cs = [.string z.1, .string z.2] := by
  obtain ⟨xs, n, _, _, hl, hlen, hf⟩ := DataW.trod_struct Try.underlying51 h
  rw [tbPair] at hl
  match cs, hl with
  | [v0, v1], _ =>
    match xs, hlen with
    | [y0, y1], _ =>
      have h0 : DataW.trod enc Try.prog w 0 spare held n 9 [v0] = some y0 := by simpa [tbStr] using hf 0 _ rfl
      have h1 : DataW.trod enc Try.prog w 0 spare held n 9 [v1] = some y1 := by simpa [tbStr] using hf 1 _ rfl
      obtain ⟨s, hs, e0⟩ := str_openB h0
      obtain ⟨v, hv, e1⟩ := str_openB h1
      simp only [List.cons.injEq, and_true] at e0 e1
      subst e0 e1
      exact ⟨(s, v), ⟨hs, hv⟩, rfl⟩
theorem pairs_openB {fuel : Nat} {cs : List Value} {x : DataW H × List MemPlace} (h : DataW.trod enc Try.prog w 0 spare held fuel 22 cs = some x) : ∃ a n c zs, cs = [.slice a n c] ∧ PrAt w w.heap.size a n c zs ∧ ∀ i, i < n → (zs.getD i dP).1.size ≤ maxLen ∧ (zs.getD i dP).2.size ≤ maxLen := by
  rcases open_slice Try.underlying22 h with ⟨rfl, _⟩ | ⟨a, len, cap, m, k, D, Pl, rfl, _, hl, hm, hmm, _, he⟩
  · exact ⟨none, 0, 0, [], rfl, ⟨rfl, Nat.le_refl _, Nat.zero_le _, fun h => absurd h (Nat.lt_irrefl _)⟩, fun i hi => absurd hi (Nat.not_lt_zero _)⟩
  · have hml : len ≤ m := by rw [hmm]; split <;> omega
    by_cases h0 : len = 0
    · subst h0
      exact ⟨some a, 0, cap, [], rfl, ⟨rfl, hl, hm, fun h => absurd h (Nat.lt_irrefl _)⟩, fun i hi => absurd hi (Nat.not_lt_zero _)⟩
    · rw [tbPair] at he
      obtain ⟨cs0, hc0, _⟩ := he 0 (by omega)
      obtain ⟨_, hl0, hg0⟩ := World.cells?_some hc0
      have h00 := hg0 0 (by omega)
      rw [List.getElem?_eq_getElem (by omega)] at h00
      obtain ⟨b, off, rfl, hlt⟩ : ∃ b off, a = ⟨b, off, none⟩ ∧ b < w.heap.size := addr_ofB (by simpa [Addr.add] using h00)
      have hadd : ∀ k, (⟨b, off, none⟩ : Addr).add k = ⟨b, off + k, none⟩ := fun k => by simp [Addr.add]
      have hinh : Inhabited (ByteArray × ByteArray) := ⟨dP⟩
      obtain ⟨F, hF⟩ := choose_lt (α := ByteArray × ByteArray) (n := len) (p := fun i z => (z.1.size ≤ maxLen ∧ z.2.size ≤ maxLen) ∧ w.cell? ⟨b, off + i * 2, none⟩ = some (.string z.1) ∧ w.cell? ⟨b, off + i * 2 + 1, none⟩ = some (.string z.2)) (fun i hi => by
        obtain ⟨cs', hc', ht⟩ := he i (by omega)
        obtain ⟨_, hl', hg'⟩ := World.cells?_some hc'
        obtain ⟨z, hz, hop⟩ := pair_openB ht
        have hcell : ∀ j, j < 2 → w.cell? ⟨b, off + i * 2 + j, none⟩ = cs'[j]? := fun j hj => by
          have := hg' j hj
          rwa [hadd, show (⟨b, off + i * 2, none⟩ : Addr).add j = ⟨b, off + i * 2 + j, none⟩ by simp [Addr.add]] at this
        rw [hop] at hcell
        exact ⟨z, hz, by simpa using hcell 0 (by omega), by simpa using hcell 1 (by omega)⟩)
      have hgd : ∀ i, i < len → ((List.range len).map F).getD i dP = F i := fun i hi => by simp [List.getD, hi]
      refine ⟨some ⟨b, off, none⟩, len, cap, (List.range len).map F, rfl, ⟨by simp, hl, hm, fun _ => ⟨b, off, rfl, hlt, fun i hi => ?_⟩⟩, fun i hi => ?_⟩
      · have h9 := hgd i hi
        unfold dP at h9
        rw [h9]
        exact (hF i hi).2
      · rw [hgd i hi]
        exact (hF i hi).1
end
theorem ownB : ownKnob Try.prog.godebug = none := by kernel_rfl
theorem laidOutB2 : laidOutB Try.prog = true := by kernel_rfl

set_option maxRecDepth 100000 in
theorem liftedB (os : Os) (started : os.Started) (H : Type) (enc : TypeId × Value → H) :
    ReturnsInHanded {} Try.checked os 3 .any (Rows.fnExactTreeBulkSpec.pre6 enc Try.prog Try.f3 Rows.fnExactTreeBulkRow.domain false) (Rows.fnExactTreeBulkSpec.post enc Try.prog Try.f3 false true false false) := by
  refine returnsInHanded_of_change (C := Try.checked) ownB started (by kernel_rfl) Try.func3
    (ChangeSpec.witness6 (enc := enc) (C := Try.checked) false ⟨#[], #[.slice none 0 0], []⟩ 8 (by kernel_rfl) (by kernel_rfl) (by kernel_rfl) (by kernel_rfl)) ?_
  intro W base args ds gs before hval0 hW hcnd _
  have hval : ∀ (j : Nat) t v, Try.f3.params[j]? = some t → args[j]? = some v → Value.okWide Try.prog W .any base t v := hval0
  have hW' := hW
  obtain ⟨p, q, hA0, hV, rfl, hfz, hnd⟩ := hW
  have hA : DataW.TrodAll enc Try.prog W 0 (fun _ => true) true Try.f3.params.toList args.toList ds p := hA0
  rw [Try.params3] at hA hval
  obtain ⟨v1, vs1, d1, ds1, p1, q1, hargs, rfl, rfl, hs1, r1⟩ := trodAll_cons hA
  obtain ⟨rfl, rfl, rfl⟩ := trodAll_nil r1
  obtain rfl : args = #[v1] := by cases args; simp_all
  obtain ⟨rfl, rfl⟩ := trodVars_none hV
  have k1 := hs1
  have lt1 : ∀ x ∈ p1, x.block < W.heap.size := by obtain ⟨m, hm⟩ := k1; exact DataW.trod_lt m _ _ _ hm
  obtain ⟨a, n, c, rfl⟩ := okWide_slice Try.underlying22 (hval 0 22 v1 rfl rfl)
  obtain ⟨fuel, hf⟩ := hs1
  obtain ⟨a', n', c', zs, hcs, hB, hz⟩ := pairs_openB hf
  simp only [Value.cells, List.cons.injEq, Value.slice.injEq, and_true] at hcs
  obtain ⟨rfl, rfl, rfl⟩ := hcs
  clear hA0 hval0
  refine (law_TreeBulk a n c zs W hB hz).mono fun e W' ⟨he, bel⟩ => ?_
  subst he
  exact ⟨_, rfl, _, _, _, [], _, [], hW', trodAll_mk1 (shut_bool Try.underlying4 _), (trodAll_cons_mk (Below.trod laidOutB2 (by kernel_rfl) (of_decide_eq_true (by kernel_rfl)) k1 bel lt1) trodAll_mk0), rfl, bel.frame _, fun h => by cases h⟩

/-- The statement. -/
theorem treeBulk_holds : Rows.FnExactTreeBulkSaid :=
  OpenClaim.holds_of_wide 3 Try.f3 rfl rfl rfl rfl rfl rfl rfl ⟨rfl, rfl, rfl, rfl, rfl⟩ rfl rfl rfl rfl rfl (by kernel_rfl) Try.func3 (by kernel_rfl)
    (of_decide_eq_true (by kernel_rfl)) (by unfold Func.isWrapper; first | (rw [if_pos (by decide +kernel)]; kernel_rfl) | (rw [if_neg (by decide +kernel)]; exact ⟨rfl, rfl⟩))
    (fun os started H enc _ => liftedB os started H enc)
#print axioms treeBulk_holds
end Go.Proofs.Ytpmagndofiaooaa
