import Derived.Test.YtjbifddhbcfdcaaGreatByt
import Derived.Lib.AppendStr
import Derived.Test.YtjbifddhbcfdcaaGreatChecked
namespace Go.Proofs.YtjbifddhbcfdcaaGreat
open Go.RowKit
set_option linter.unusedVariables false
set_option maxRecDepth 100000

/-- The bytes of a string. -/
def strB (s : ByteArray) : List Int := s.data.toList.map fun b => (b.toNat : Int)
theorem strB_len (s : ByteArray) : (strB s).length = s.size := by simp [strB]
theorem strB_byte (s : ByteArray) : ∀ x ∈ strB s, 0 ≤ x ∧ x ≤ 255 := by
  intro x hx
  simp only [strB, List.mem_map] at hx
  obtain ⟨b, _, rfl⟩ := hx
  have := b.toNat_lt
  omega
theorem u8s_strB (s : ByteArray) : u8s (strB s) = Lib.strCells s := by simp [u8s, strB, Lib.strCells]
theorem u8s_append (a b : List Int) : u8s (a ++ b) = u8s a ++ u8s b := by simp [u8s]

/-- append(v, x...), both bytes, v one's own. -/
theorem wpList_ab {w : World} {ops : Array Oper} {rest : List Oper} {o : Oper} {a : Act} {Q : Exit → Act → World → Prop} (hgd : o.guard = none) (s x : Operand)
    (ho : o.op = .call { callee := .builtin .append, args := #[s, x], argTypes := #[43, 43] })
    (base : Nat) (v : Value) (n : Nat) (bs : List Int) (hs : a.eval s = v) (hown : w.ownsRow base 5 1 v n (u8s bs))
    (ad : Option Addr) (m c : Nat) (cs : List Int) (A B : Nat) (hx : a.eval x = .slice ad m c) (hB : BytesAt w A B ad m c cs) (hnm : n + m ≤ 1073741824) (hbase : base ≤ w.heap.size)
    (h : ∀ v' w', w'.ownsRow base 5 1 v' (n + m) (u8s (bs ++ cs)) → w.grownBy w' v.ownBlock → wpList Tryz.prog ops Q rest (a.put o.dst v') w') : wpList Tryz.prog ops Q (o :: rest) a w := by
  obtain ⟨i0, hi, hz0, hz1, hz2⟩ := info_parts info_u8
  obtain ⟨hl, hnc, hc, hw, hcell, hnil⟩ := hB
  rcases ad with _ | ad
  · have hm0 : m = 0 := by
      by_cases h0 : m = 0
      · exact h0
      · obtain ⟨_, _, h1, _⟩ := hcell (by omega); cases h1
    subst hm0
    have hc0 := hnil rfl
    subst hc0
    refine wpList_append_own_none hgd s x 43 ho base 5 i0 1 Tryz.underlying43 hi v n (u8s bs) hs hown hx ?_
    refine h v w ?_ ⟨rfl, rfl, rfl, Nat.le_refl _, fun _ _ _ => rfl⟩
    rw [List.eq_nil_of_length_eq_zero hl, List.append_nil]
    exact hown
  · refine wpList_append_own w hgd s x 43 ho base 5 i0 (.int .u8 0) 1 1 Tryz.underlying43 hi hz0 hz1 hz2 rfl (by decide) v n (u8s bs) hs hown ad m c (u8s cs) hx (by simp [u8s, hl]) ?_ ?_ (by unfold maxLen; omega) (by omega) hbase ?_
    · intro j u hj
      have hjn : j < m := by
        have := (List.getElem?_eq_some_iff.1 hj).1
        simp [u8s] at this; omega
      obtain ⟨b, off, h1, h2, h3⟩ := hcell (by omega)
      cases h1
      have h4 := h3 j hjn
      have h5 : (⟨b, off, none⟩ : Addr).add j = ⟨b, off + j, none⟩ := by simp [Addr.add]
      rw [h5, h4]
      simp [u8s, List.getElem?_map] at hj
      obtain ⟨y, hy, rfl⟩ := hj
      simp [List.getD, hy]
    · intro u hu; simp [u8s] at hu; obtain ⟨y, _, rfl⟩ := hu; rfl
    · intro v' w' h1 h2 _
      rw [← u8s_append] at h1
      exact h v' w' h1 h2
/-- append(v, s...), s a string. -/
theorem wpList_as {w : World} {ops : Array Oper} {rest : List Oper} {o : Oper} {a : Act} {Q : Exit → Act → World → Prop} (hgd : o.guard = none) (s x : Operand)
    (ho : o.op = .call { callee := .builtin .append, args := #[s, x], argTypes := #[43, 9] })
    (base : Nat) (v : Value) (n : Nat) (bs : List Int) (hs : a.eval s = v) (hown : w.ownsRow base 5 1 v n (u8s bs))
    (t : ByteArray) (hx : a.eval x = .string t) (hnm : n + t.size ≤ 1073741824) (hbase : base ≤ w.heap.size)
    (h : ∀ v' w', w'.ownsRow base 5 1 v' (n + t.size) (u8s (bs ++ strB t)) → w.grownBy w' v.ownBlock → wpList Tryz.prog ops Q rest (a.put o.dst v') w') : wpList Tryz.prog ops Q (o :: rest) a w := by
  obtain ⟨i0, hi, hz0, hz1, hz2⟩ := info_parts info_u8
  refine Lib.wpList_append_own_string w hgd s x 43 9 ho base 5 i0 Tryz.underlying43 Tryz.underlying9 hi hz0 hz1 hz2 v n (u8s bs) hs hown t hx (by unfold maxLen; omega) (by omega) hbase ?_
  intro v' w' h1 h2 _
  rw [← u8s_strB, ← u8s_append] at h1
  exact h v' w' h1 h2
end Go.Proofs.YtjbifddhbcfdcaaGreat
namespace Go.Proofs.YtjbifddhbcfdcaaGreat
open Go.RowKit
set_option linter.unusedVariables false
set_option maxRecDepth 100000

/-- A kid and an entry of a page as plain data. -/
abbrev PK := ByteArray × Int
abbrev PE := ByteArray × ByteArray × Int × Int
def dK : PK := (ByteArray.empty, 0)
def dE : PE := (ByteArray.empty, ByteArray.empty, 0, 0)
def I64 (x : Int) : Prop := -9223372036854775808 ≤ x ∧ x ≤ 9223372036854775807
def kidCells (k : PK) : List Value := [.string k.1, .int .i64 k.2]
def entCells (e : PE) : List Value := [.string e.1, .string e.2.1, .int .i64 e.2.2.1, .int .i64 e.2.2.2]
def kidFit (k : PK) : Prop := k.1.size ≤ maxLen ∧ I64 k.2
def entFit (e : PE) : Prop := e.1.size ≤ maxLen ∧ e.2.1.size ≤ maxLen ∧ I64 e.2.2.1 ∧ I64 e.2.2.2

/-- A list of plain structs behind a slice: m cells each, 'cs' the cells of one. -/
def RowsAt {α : Type} (w : World) (A B : Nat) (m : Nat) (cs : α → List Value) (fit : α → Prop) (d : α) (a : Option Addr) (n c : Nat) (xs : List α) : Prop :=
  xs.length = n ∧ n ≤ c ∧ c ≤ maxLen ∧ (∀ i, i < n → fit (xs.getD i d)) ∧ (0 < n → ∃ b off, a = some ⟨b, off, none⟩ ∧ (A ≤ b ∧ b < B) ∧ ∀ i, i < n → ∀ j, j < m → w.cell? ⟨b, off + i * m + j, none⟩ = (cs (xs.getD i d))[j]?)
abbrev KidsAt (w : World) (A B : Nat) (a : Option Addr) (n c : Nat) (ks : List PK) : Prop := RowsAt w A B 2 kidCells kidFit dK a n c ks
abbrev EntsAt (w : World) (A B : Nat) (a : Option Addr) (n c : Nat) (es : List PE) : Prop := RowsAt w A B 4 entCells entFit dE a n c es

theorem RowsAt.keep {α : Type} {w w' : World} {A B m : Nat} {cs : α → List Value} {fit : α → Prop} {d : α} {a : Option Addr} {n c : Nat} {xs : List α} (h : RowsAt w A B m cs fit d a n c xs) (hk : Keeps A B w w') : RowsAt w' A B m cs fit d a n c xs := by
  obtain ⟨h1, h2, h3, h4, h5⟩ := h
  refine ⟨h1, h2, h3, h4, fun hn => ?_⟩
  obtain ⟨b, off, rfl, hlt, hc⟩ := h5 hn
  exact ⟨b, off, rfl, hlt, fun i hi j hj => (hk.cell hlt.1 hlt.2).trans (hc i hi j hj)⟩
theorem RowsAt.below {α : Type} {w w' : World} {A B m : Nat} {cs : α → List Value} {fit : α → Prop} {d : α} {a : Option Addr} {n c : Nat} {xs : List α} (h : RowsAt w A B m cs fit d a n c xs) (hb : Below B w w') : RowsAt w' A B m cs fit d a n c xs := h.keep (.of_below hb)
theorem RowsAt.up {α : Type} {w : World} {A B A' B' m : Nat} {cs : α → List Value} {fit : α → Prop} {d : α} {a : Option Addr} {n c : Nat} {xs : List α} (h : RowsAt w A B m cs fit d a n c xs) (hA : A' ≤ A) (hB : B ≤ B') : RowsAt w A' B' m cs fit d a n c xs := by
  obtain ⟨h1, h2, h3, h4, h5⟩ := h
  refine ⟨h1, h2, h3, h4, fun hn => ?_⟩
  obtain ⟨b, off, rfl, hlt, hc⟩ := h5 hn
  exact ⟨b, off, rfl, ⟨by omega, by omega⟩, hc⟩
/-- The blocks that stay as they were outside S. -/
theorem RowsAt.fr {α : Type} {S : Nat → Prop} {w w' : World} {A B m : Nat} {cs : α → List Value} {fit : α → Prop} {d : α} {a : Option Addr} {n c : Nat} {xs : List α} (h : RowsAt w A B m cs fit d a n c xs) (hf : Fr S w w') (hB : B ≤ w.heap.size) (hS : ∀ g, S g → g < A ∨ B ≤ g) : RowsAt w' A B m cs fit d a n c xs :=
  h.keep fun k h1 h2 => hf.block k (by omega) (fun hs => by have := hS k hs; omega)

/-- The cells of one element. -/
theorem KidsAt.at {w : World} {A B : Nat} {a : Option Addr} {n c : Nat} {ks : List PK} (h : KidsAt w A B a n c ks) {i : Nat} (hi : i < n) :
    ∃ b off, a = some ⟨b, off, none⟩ ∧ (A ≤ b ∧ b < B) ∧ kidFit (ks.getD i dK) ∧ w.cell? ⟨b, off + i * 2, none⟩ = some (.string (ks.getD i dK).1) ∧ w.cell? ⟨b, off + i * 2 + 1, none⟩ = some (.int .i64 (ks.getD i dK).2) := by
  obtain ⟨h1, h2, h3, h4, h5⟩ := h
  obtain ⟨b, off, rfl, hlt, hc⟩ := h5 (by omega)
  exact ⟨b, off, rfl, hlt, h4 i hi, by simpa [kidCells] using hc i hi 0 (by omega), by simpa [kidCells] using hc i hi 1 (by omega)⟩
theorem EntsAt.at {w : World} {A B : Nat} {a : Option Addr} {n c : Nat} {es : List PE} (h : EntsAt w A B a n c es) {i : Nat} (hi : i < n) :
    ∃ b off, a = some ⟨b, off, none⟩ ∧ (A ≤ b ∧ b < B) ∧ entFit (es.getD i dE) ∧ w.cell? ⟨b, off + i * 4, none⟩ = some (.string (es.getD i dE).1) ∧ w.cell? ⟨b, off + i * 4 + 1, none⟩ = some (.string (es.getD i dE).2.1) ∧ w.cell? ⟨b, off + i * 4 + 2, none⟩ = some (.int .i64 (es.getD i dE).2.2.1) ∧ w.cell? ⟨b, off + i * 4 + 3, none⟩ = some (.int .i64 (es.getD i dE).2.2.2) := by
  obtain ⟨h1, h2, h3, h4, h5⟩ := h
  obtain ⟨b, off, rfl, hlt, hc⟩ := h5 (by omega)
  exact ⟨b, off, rfl, hlt, h4 i hi, by simpa [entCells] using hc i hi 0 (by omega), by simpa [entCells] using hc i hi 1 (by omega), by simpa [entCells] using hc i hi 2 (by omega), by simpa [entCells] using hc i hi 3 (by omega)⟩

/-- The cells of a list, one element behind the other. -/
def rowsOf {α : Type} (cs : α → List Value) (xs : List α) : List Value := xs.flatMap cs
theorem rowsOf_get {α : Type} {m : Nat} {cs : α → List Value} (hm : ∀ x, (cs x).length = m) (d : α) : ∀ (xs : List α) (i j : Nat), i < xs.length → j < m → (rowsOf cs xs)[i * m + j]? = (cs (xs.getD i d))[j]?
  | [], i, j, hi, _ => by simp at hi
  | x :: r, 0, j, _, hj => by simp [rowsOf, List.getElem?_append_left (show j < (cs x).length by rw [hm]; exact hj)]
  | x :: r, i + 1, j, hi, hj => by
    rw [show (i + 1) * m + j = m + (i * m + j) by rw [Nat.add_mul]; omega]
    have := rowsOf_get hm d r i j (by simpa using hi) hj
    simp only [rowsOf, List.flatMap_cons] at this ⊢
    rw [List.getElem?_append_right (by rw [hm]; omega), hm, show m + (i * m + j) - m = i * m + j by omega, this]
    simp
theorem rowsOf_length {α : Type} {m : Nat} {cs : α → List Value} (hm : ∀ x, (cs x).length = m) : ∀ (xs : List α), (rowsOf cs xs).length = xs.length * m
  | [] => by simp [rowsOf]
  | x :: r => by
    have := rowsOf_length hm r
    simp only [rowsOf, List.flatMap_cons, List.length_append, List.length_cons, hm] at this ⊢
    rw [this, Nat.add_mul]; omega
/-- What is owned is there. -/
theorem RowsAt.of_owns {α : Type} {w : World} {base e m n : Nat} {cs : α → List Value} {fit : α → Prop} {d : α} {v : Value} {xs : List α} (hm : ∀ x, (cs x).length = m) (h : w.ownsRow base e m v n (rowsOf cs xs)) (hl : xs.length = n) (hf : ∀ i, i < n → fit (xs.getD i d)) : ∃ a c, v = .slice a n c ∧ RowsAt w base w.heap.size m cs fit d a n c xs := by
  rcases h.2 with ⟨rfl, rfl⟩ | ⟨g, cap, cur, rfl, hg, hgg, h1, h2, _⟩
  · exact ⟨none, 0, rfl, hl, Nat.le_refl _, Nat.zero_le _, hf, fun h => absurd h (Nat.lt_irrefl _)⟩
  · refine ⟨_, _, rfl, hl, h1, h2, hf, fun hn => ⟨g, 0, rfl, h.lt g rfl, fun i hi j hj => ?_⟩⟩
    have hlen : i * m + j < n * m := by
      have : (i + 1) * m ≤ n * m := Nat.mul_le_mul_right m (by omega)
      rw [Nat.add_mul] at this; omega
    rw [Nat.zero_add, h.cellAt (i * m + j) hlen, rowsOf_get hm d xs i j (by omega) hj]
theorem owns_set {w : World} {base e size : Nat} {v : Value} {n : Nat} {xs : List Value} (h : w.ownsRow base e size v n xs) {p : Addr} (hp : ∀ g, v.ownBlock = some g → p.block ≠ g) (u : Value) : (w.setCell p u).ownsRow base e size v n xs := by
  refine ⟨h.1, ?_⟩
  rcases h.2 with hn | ⟨g, cap, cur, rfl, hbg, hgg, rest⟩
  · exact .inl hn
  · exact .inr ⟨g, cap, cur, rfl, hbg, (Below.heap_setCell w p u g (fun e => hp g rfl e.symm)).trans hgg, rest⟩
theorem owns_base {w : World} {base base' e size : Nat} {v : Value} {n : Nat} {xs : List Value} (h : w.ownsRow base e size v n xs) (hb : base' ≤ base) : w.ownsRow base' e size v n xs := by
  refine ⟨h.1, ?_⟩
  rcases h.2 with hn | ⟨g, cap, cur, rfl, hbg, rest⟩
  · exact .inl hn
  · exact .inr ⟨g, cap, cur, rfl, Nat.le_trans hb hbg, rest⟩
theorem kc2 : ∀ x, (kidCells x).length = 2 := fun _ => rfl
theorem ec4 : ∀ x, (entCells x).length = 4 := fun _ => rfl
end Go.Proofs.YtjbifddhbcfdcaaGreat
namespace Go.Proofs.YtjbifddhbcfdcaaGreat
open Go.RowKit
set_option linter.unusedVariables false
set_option maxRecDepth 100000

theorem info_Kid : (Tryz.prog.info? 119).map (fun i => (i.zero, i.size, i.bytes)) = some (some (.agg #[.string ByteArray.empty, .int .i64 0]), 2, 24) := by kernel_rfl
theorem info_Ent : (Tryz.prog.info? 121).map (fun i => (i.zero, i.size, i.bytes)) = some (some (.agg #[.string ByteArray.empty, .string ByteArray.empty, .int .i64 0, .int .i64 0]), 4, 48) := by kernel_rfl

end Go.Proofs.YtjbifddhbcfdcaaGreat
