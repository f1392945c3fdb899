import Derived.Test.YtpmagndofiaooaaByt
import Derived.Test.YtpmagndofiaooaaChecked
namespace Go.Proofs.Ytpmagndofiaooaa
open Go.RowKit
set_option linter.unusedVariables false
set_option maxRecDepth 100000

/-- A kid and an entry of a page as plain data. -/
abbrev PK := ByteArray × Int
abbrev PE := ByteArray × ByteArray × Int × Int
def dK : PK := (ByteArray.empty, 0)
def dE : PE := (ByteArray.empty, ByteArray.empty, 0, 0)
def I64 (x : Int) : Prop := -9223372036854775808 ≤ x ∧ x ≤ 9223372036854775807
def kidCells (k : PK) : List Value := [.string k.1, .int .i64 k.2]
def entCells (e : PE) : List Value := [.string e.1, .string e.2.1, .int .i64 e.2.2.1, .int .i64 e.2.2.2]
def kidFit (k : PK) : Prop := k.1.size ≤ maxLen ∧ I64 k.2
def entFit (e : PE) : Prop := e.1.size ≤ maxLen ∧ e.2.1.size ≤ maxLen ∧ I64 e.2.2.1 ∧ I64 e.2.2.2

/-- A list of plain structs behind a slice: m cells each, 'cs' the cells of one. -/
def RowsAt {α : Type} (w : World) (A B : Nat) (m : Nat) (cs : α → List Value) (fit : α → Prop) (d : α) (a : Option Addr) (n c : Nat) (xs : List α) : Prop :=
  xs.length = n ∧ n ≤ c ∧ c ≤ maxLen ∧ (∀ i, i < n → fit (xs.getD i d)) ∧ (0 < n → ∃ b off, a = some ⟨b, off, none⟩ ∧ (A ≤ b ∧ b < B) ∧ ∀ i, i < n → ∀ j, j < m → w.cell? ⟨b, off + i * m + j, none⟩ = (cs (xs.getD i d))[j]?)
abbrev KidsAt (w : World) (A B : Nat) (a : Option Addr) (n c : Nat) (ks : List PK) : Prop := RowsAt w A B 2 kidCells kidFit dK a n c ks
abbrev EntsAt (w : World) (A B : Nat) (a : Option Addr) (n c : Nat) (es : List PE) : Prop := RowsAt w A B 4 entCells entFit dE a n c es

theorem RowsAt.keep {α : Type} {w w' : World} {A B m : Nat} {cs : α → List Value} {fit : α → Prop} {d : α} {a : Option Addr} {n c : Nat} {xs : List α} (h : RowsAt w A B m cs fit d a n c xs) (hk : Keeps A B w w') : RowsAt w' A B m cs fit d a n c xs := by
  obtain ⟨h1, h2, h3, h4, h5⟩ := h
  refine ⟨h1, h2, h3, h4, fun hn => ?_⟩
  obtain ⟨b, off, rfl, hlt, hc⟩ := h5 hn
  exact ⟨b, off, rfl, hlt, fun i hi j hj => (hk.cell hlt.1 hlt.2).trans (hc i hi j hj)⟩
theorem RowsAt.below {α : Type} {w w' : World} {A B m : Nat} {cs : α → List Value} {fit : α → Prop} {d : α} {a : Option Addr} {n c : Nat} {xs : List α} (h : RowsAt w A B m cs fit d a n c xs) (hb : Below B w w') : RowsAt w' A B m cs fit d a n c xs := h.keep (.of_below hb)
theorem RowsAt.up {α : Type} {w : World} {A B A' B' m : Nat} {cs : α → List Value} {fit : α → Prop} {d : α} {a : Option Addr} {n c : Nat} {xs : List α} (h : RowsAt w A B m cs fit d a n c xs) (hA : A' ≤ A) (hB : B ≤ B') : RowsAt w A' B' m cs fit d a n c xs := by
  obtain ⟨h1, h2, h3, h4, h5⟩ := h
  refine ⟨h1, h2, h3, h4, fun hn => ?_⟩
  obtain ⟨b, off, rfl, hlt, hc⟩ := h5 hn
  exact ⟨b, off, rfl, ⟨by omega, by omega⟩, hc⟩
/-- The blocks that stay as they were outside S. -/
theorem RowsAt.fr {α : Type} {S : Nat → Prop} {w w' : World} {A B m : Nat} {cs : α → List Value} {fit : α → Prop} {d : α} {a : Option Addr} {n c : Nat} {xs : List α} (h : RowsAt w A B m cs fit d a n c xs) (hf : Fr S w w') (hB : B ≤ w.heap.size) (hS : ∀ g, S g → g < A ∨ B ≤ g) : RowsAt w' A B m cs fit d a n c xs :=
  h.keep fun k h1 h2 => hf.block k (by omega) (fun hs => by have := hS k hs; omega)

/-- The cells of one element. -/
theorem KidsAt.at {w : World} {A B : Nat} {a : Option Addr} {n c : Nat} {ks : List PK} (h : KidsAt w A B a n c ks) {i : Nat} (hi : i < n) :
    ∃ b off, a = some ⟨b, off, none⟩ ∧ (A ≤ b ∧ b < B) ∧ kidFit (ks.getD i dK) ∧ w.cell? ⟨b, off + i * 2, none⟩ = some (.string (ks.getD i dK).1) ∧ w.cell? ⟨b, off + i * 2 + 1, none⟩ = some (.int .i64 (ks.getD i dK).2) := by
  obtain ⟨h1, h2, h3, h4, h5⟩ := h
  obtain ⟨b, off, rfl, hlt, hc⟩ := h5 (by omega)
  exact ⟨b, off, rfl, hlt, h4 i hi, by simpa [kidCells] using hc i hi 0 (by omega), by simpa [kidCells] using hc i hi 1 (by omega)⟩
theorem EntsAt.at {w : World} {A B : Nat} {a : Option Addr} {n c : Nat} {es : List PE} (h : EntsAt w A B a n c es) {i : Nat} (hi : i < n) :
    ∃ b off, a = some ⟨b, off, none⟩ ∧ (A ≤ b ∧ b < B) ∧ entFit (es.getD i dE) ∧ w.cell? ⟨b, off + i * 4, none⟩ = some (.string (es.getD i dE).1) ∧ w.cell? ⟨b, off + i * 4 + 1, none⟩ = some (.string (es.getD i dE).2.1) ∧ w.cell? ⟨b, off + i * 4 + 2, none⟩ = some (.int .i64 (es.getD i dE).2.2.1) ∧ w.cell? ⟨b, off + i * 4 + 3, none⟩ = some (.int .i64 (es.getD i dE).2.2.2) := by
  obtain ⟨h1, h2, h3, h4, h5⟩ := h
  obtain ⟨b, off, rfl, hlt, hc⟩ := h5 (by omega)
  exact ⟨b, off, rfl, hlt, h4 i hi, by simpa [entCells] using hc i hi 0 (by omega), by simpa [entCells] using hc i hi 1 (by omega), by simpa [entCells] using hc i hi 2 (by omega), by simpa [entCells] using hc i hi 3 (by omega)⟩

/-- The cells of a list, one element behind the other. -/
def rowsOf {α : Type} (cs : α → List Value) (xs : List α) : List Value := xs.flatMap cs
theorem rowsOf_get {α : Type} {m : Nat} {cs : α → List Value} (hm : ∀ x, (cs x).length = m) (d : α) : ∀ (xs : List α) (i j : Nat), i < xs.length → j < m → (rowsOf cs xs)[i * m + j]? = (cs (xs.getD i d))[j]?
  | [], i, j, hi, _ => by simp at hi
  | x :: r, 0, j, _, hj => by simp [rowsOf, List.getElem?_append_left (show j < (cs x).length by rw [hm]; exact hj)]
  | x :: r, i + 1, j, hi, hj => by
    rw [show (i + 1) * m + j = m + (i * m + j) by rw [Nat.add_mul]; omega]
    have := rowsOf_get hm d r i j (by simpa using hi) hj
    simp only [rowsOf, List.flatMap_cons] at this ⊢
    rw [List.getElem?_append_right (by rw [hm]; omega), hm, show m + (i * m + j) - m = i * m + j by omega, this]
    simp
theorem rowsOf_length {α : Type} {m : Nat} {cs : α → List Value} (hm : ∀ x, (cs x).length = m) : ∀ (xs : List α), (rowsOf cs xs).length = xs.length * m
  | [] => by simp [rowsOf]
  | x :: r => by
    have := rowsOf_length hm r
    simp only [rowsOf, List.flatMap_cons, List.length_append, List.length_cons, hm] at this ⊢
    rw [this, Nat.add_mul]; omega
/-- What is owned is there. -/
theorem RowsAt.of_owns {α : Type} {w : World} {base e m n : Nat} {cs : α → List Value} {fit : α → Prop} {d : α} {v : Value} {xs : List α} (hm : ∀ x, (cs x).length = m) (h : w.ownsRow base e m v n (rowsOf cs xs)) (hl : xs.length = n) (hf : ∀ i, i < n → fit (xs.getD i d)) : ∃ a c, v = .slice a n c ∧ RowsAt w base w.heap.size m cs fit d a n c xs := by
  rcases h.2 with ⟨rfl, rfl⟩ | ⟨g, cap, cur, rfl, hg, hgg, h1, h2, _⟩
  · exact ⟨none, 0, rfl, hl, Nat.le_refl _, Nat.zero_le _, hf, fun h => absurd h (Nat.lt_irrefl _)⟩
  · refine ⟨_, _, rfl, hl, h1, h2, hf, fun hn => ⟨g, 0, rfl, h.lt g rfl, fun i hi j hj => ?_⟩⟩
    have hlen : i * m + j < n * m := by
      have : (i + 1) * m ≤ n * m := Nat.mul_le_mul_right m (by omega)
      rw [Nat.add_mul] at this; omega
    rw [Nat.zero_add, h.cellAt (i * m + j) hlen, rowsOf_get hm d xs i j (by omega) hj]
theorem owns_set {w : World} {base e size : Nat} {v : Value} {n : Nat} {xs : List Value} (h : w.ownsRow base e size v n xs) {p : Addr} (hp : ∀ g, v.ownBlock = some g → p.block ≠ g) (u : Value) : (w.setCell p u).ownsRow base e size v n xs := by
  refine ⟨h.1, ?_⟩
  rcases h.2 with hn | ⟨g, cap, cur, rfl, hbg, hgg, rest⟩
  · exact .inl hn
  · exact .inr ⟨g, cap, cur, rfl, hbg, (Below.heap_setCell w p u g (fun e => hp g rfl e.symm)).trans hgg, rest⟩
theorem owns_base {w : World} {base base' e size : Nat} {v : Value} {n : Nat} {xs : List Value} (h : w.ownsRow base e size v n xs) (hb : base' ≤ base) : w.ownsRow base' e size v n xs := by
  refine ⟨h.1, ?_⟩
  rcases h.2 with hn | ⟨g, cap, cur, rfl, hbg, rest⟩
  · exact .inl hn
  · exact .inr ⟨g, cap, cur, rfl, Nat.le_trans hb hbg, rest⟩
theorem kc2 : ∀ x, (kidCells x).length = 2 := fun _ => rfl
theorem ec4 : ∀ x, (entCells x).length = 4 := fun _ => rfl
end Go.Proofs.Ytpmagndofiaooaa
