import Derived.Test.YtmlpmglmnhjajaaTld
import Derived.Test.YtmlpmglmnhjajaaAp2
import Derived.Test.YtmlpmglmnhjajaaTto
import Derived.Deep.QuietTactic
import Derived.BigQuiet
import Derived.Deep.RegionLaw
import Derived.WalkSpells
namespace Go.Proofs.Ytmlpmglmnhjajaa
open Go.RowKit
set_option linter.unusedVariables false
set_option linter.unusedSimpArgs false
set_option maxRecDepth 100000

/-- The pairs of a list of slots, as rows. -/
def prCells (s : ByteArray × ByteArray × Int) : List Value := [.string s.1, .string s.2.1]
theorem pr2 : ∀ x, (prCells x).length = 2 := fun _ => rfl
theorem info_Pair : (Try.prog.info? 39).map (fun i => (i.zero, i.size, i.bytes)) = some (some (.agg #[.string ByteArray.empty, .string ByteArray.empty]), 2, 32) := by kernel_rfl
theorem cell_two_newT (w : World) (a b : Value) (t : TypeId) : ∀ j u, [a, b][j]? = some u → (w.alloc (.cells #[a, b] t)).cell? ((⟨w.heap.size, 0, none⟩ : Addr).add j) = some u := by
  intro j u h
  match j, h with
  | 0, h => simpa [Addr.add] using h
  | 1, h => simpa [Addr.add] using h
theorem rowsOf_append {α : Type} (cs : α → List Value) (xs ys : List α) : rowsOf cs (xs ++ ys) = rowsOf cs xs ++ rowsOf cs ys := by simp [rowsOf]
theorem owns_empty (w : World) (e size : Nat) : (w.alloc (.cells #[] e)).ownsRow w.heap.size e size (.slice (some ⟨w.heap.size, 0, none⟩) 0 0) 0 [] := by
  have := World.ownsRow_made w #[] (base := w.heap.size) (e := e) (size := size) 0 (by simp) (by unfold maxLen; omega) (by simp)
  simpa using this
theorem slots_leaf {t : T} {n : Nat} (hs : Shape t) (hl : t.leaf = true) (h1 : t.keys.length = n) (h2 : t.vals.length = n) (h3 : t.over.length = n) : t.slots.length = n ∧ ∀ j, j < n → t.slots.take (j + 1) = t.slots.take j ++ [(t.keys.getD j ByteArray.empty, t.vals.getD j ByteArray.empty, t.over.getD j 0)] := by
  have e : t.slots = t.keys.zip (t.vals.zip t.over) := by
    rw [T.slots_eq, hl, ((shape_eq t).1 hs).1 hl]; simp
  rw [e]
  have hlen : (t.keys.zip (t.vals.zip t.over)).length = n := by simp; omega
  refine ⟨hlen, fun j hj => ?_⟩
  rw [List.take_succ_eq_append_getElem (by omega)]
  have := zip3_get h1 h2 h3 hj
  rw [List.getElem?_eq_getElem (by omega)] at this
  simp only [Option.some.injEq] at this
  rw [this]
theorem slots_inner {t : T} (hl : t.leaf = false) : t.slots = (t.kids.map T.slots).flatten := by rw [T.slots_eq, hl]; simp
theorem flat_take {t k : T} {j : Nat} (h : t.kids[j]? = some k) : ((t.kids.map T.slots).take (j + 1)).flatten = ((t.kids.map T.slots).take j).flatten ++ k.slots := by
  obtain ⟨hj, e⟩ := List.getElem?_eq_some_iff.1 h
  rw [List.take_succ_eq_append_getElem (by simpa using hj), List.flatten_append]
  simp [e]
theorem flat_take_le {α : Type} (l : List (List α)) (j : Nat) : (l.take j).flatten.length ≤ l.flatten.length := by
  have := congrArg List.flatten (List.take_append_drop j l)
  rw [List.flatten_append] at this
  have h2 := congrArg List.length this
  rw [List.length_append] at h2
  omega
theorem addr0_add (g q : Nat) : (⟨g, 0, none⟩ : Addr).add q = ⟨g, q, none⟩ := by
  simp [Addr.add]
  omega
theorem slots_pos (t : T) : Shape t → t.good false = true → 0 < t.slots.length := by
  induction t using T.ind with
  | h t ih =>
    intro hs hg
    by_cases hl : t.leaf = true
    · have h2 := (good_true hg).2
      have hg2 := hg
      rw [T.good_eq, hl] at hg2
      simp only [Bool.and_eq_true, decide_eq_true_eq, Bool.not_true, Bool.false_or] at hg2
      have := (slots_leaf hs hl rfl hg2.1.1.2.1.1 hg2.1.1.2.1.2).1
      unfold T.size at h2
      rw [if_pos hl] at h2
      omega
    · have hl2 : t.leaf = false := by simpa using hl
      have h2 := (good_two hg hl2).1
      rw [slots_inner hl2]
      match e : t.kids with
      | [] => rw [e] at h2; simp at h2
      | k :: r =>
        have hk : k ∈ t.kids := by rw [e]; exact List.mem_cons_self ..
        have := ih k hk (((shape_eq t).1 hs).2 k hk) (good_kid hg hk)
        simp
        omega
/-- What l3Pairs answers. -/
def PairsAns (t : T) (w : World) (e : Ending) (w' : World) : Prop := ∃ g c, e = .returned (.slice (some ⟨g, 0, none⟩) t.slots.length c) ∧ w'.ownsRow w.heap.size 39 2 (.slice (some ⟨g, 0, none⟩) t.slots.length c) t.slots.length (rowsOf prCells t.slots) ∧ Below w.heap.size w w'
theorem some_of_owns {w : World} {base e size n : Nat} {v : Value} {xs : List Value} (h : w.ownsRow base e size v n xs) (hs : v.ownBlock ≠ none) : ∃ g c, v = .slice (some ⟨g, 0, none⟩) n c := by
  rcases h.2 with ⟨rfl, rfl⟩ | ⟨g, cap, cur, rfl, _⟩
  · simp [Value.ownBlock] at hs
  · exact ⟨g, cap, rfl⟩
theorem some_of_pos {w : World} {base e size n : Nat} {v : Value} {xs : List Value} (h : w.ownsRow base e size v n xs) (hn : 0 < n) : ∃ g c, v = .slice (some ⟨g, 0, none⟩) n c := by
  rcases h.2 with ⟨_, e0⟩ | ⟨g, cap, cur, rfl, _⟩
  · omega
  · exact ⟨g, cap, rfl⟩
end Go.Proofs.Ytmlpmglmnhjajaa
