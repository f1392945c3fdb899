import Derived.Test.YtpmagndofiaooaaTlm
namespace Go.Proofs.Ytpmagndofiaooaa
open Go.RowKit
set_option linter.unusedVariables false
set_option linter.unusedSimpArgs false
set_option maxRecDepth 100000

/-- The state while an inner node's numbers and keys are laid out. -/
structure FIn (w wr : World) (N : Nat) (bx : Array Value) (p : Int) (ka : Option Addr) (kc : Nat) (ya : Option Addr) (yc : Nat) (ks : List ByteArray) (ys : List Int) : Prop where
  x : XSt w wr N bx #[.bool false, .int .i64 p, .slice ka ks.length kc, .slice none 0 0, .slice none 0 0, .slice ya ys.length yc]
  rk : wr.ownsRow (N + 2) 9 1 (.slice ka ks.length kc) ks.length (rowsOf strCells ks)
  ry : wr.ownsRow (N + 2) 2 1 (.slice ya ys.length yc) ys.length (rowsOf intCells ys)
  ne : ∀ g, (Value.slice ka ks.length kc).ownBlock = some g → (Value.slice ya ys.length yc).ownBlock = some g → False
theorem FIn.below {w wr w1 : World} {N : Nat} {bx : Array Value} {p : Int} {ka : Option Addr} {kc : Nat} {ya : Option Addr} {yc : Nat} {ks : List ByteArray} {ys : List Int} (h : FIn w wr N bx p ka kc ya yc ks ys) (hb : Below wr.heap.size wr w1) : FIn w w1 N bx p ka kc ya yc ks ys :=
  ⟨h.x.below hb, owns_below h.rk hb, owns_below h.ry hb, h.ne⟩
theorem grown_fr {w w' : World} {row : Option Nat} (h : w.grownBy w' row) : Fr (fun k => some k = row) w w' := ⟨h.os, h.tape, h.output, h.size, fun k hk hn => h.block k hk hn⟩
/-- One number more. -/
theorem FIn.pushY {w wr w4 : World} {N : Nat} {bx : Array Value} {p : Int} {ka : Option Addr} {kc : Nat} {ya : Option Addr} {yc : Nat} {ks : List ByteArray} {ys : List Int} (h : FIn w wr N bx p ka kc ya yc ks ys) {y : Int} {v' : Value} (hown : w4.ownsRow (N + 2) 2 1 v' (ys.length + 1) (rowsOf intCells ys ++ [.int .i64 y])) (hgr : wr.grownBy w4 (Value.slice ya ys.length yc).ownBlock) (hat : v'.ownBlock = (Value.slice ya ys.length yc).ownBlock ∨ ∀ g, v'.ownBlock = some g → wr.heap.size ≤ g) :
    ∃ ya' yc', v' = .slice ya' (ys.length + 1) yc' ∧ FIn w (w4.setCell ⟨N + 1, 5, none⟩ v') N bx p ka kc ya' yc' ks (ys ++ [y]) ∧ w4.heap[N + 1]? = some (.cells #[.bool false, .int .i64 p, .slice ka ks.length kc, .slice none 0 0, .slice none 0 0, .slice ya ys.length yc] 92) := by
  obtain ⟨ya', yc', rfl⟩ := own_shape hown
  have X4 := h.x.fr (grown_fr hgr) (fun k hk e => by have := (h.ry.lt k e.symm).1; omega)
  have X5 := X4.set 5 (.slice ya' (ys.length + 1) yc')
  have hz : (ys ++ [y]).length = ys.length + 1 := by simp
  refine ⟨ya', yc', rfl, ⟨?_, ?_, ?_, ?_⟩, X4.xn⟩
  · rw [hz]; simpa using X5
  · refine owns_fr (owns_fr h.rk (grown_fr hgr) (fun g hg e => h.ne g hg e.symm)) (fr_setT w4 (N + 1) 5 _) (fun g hg e => ?_)
    have := (h.rk.lt g hg).1
    omega
  · rw [hz, rowsOf_append]
    exact owns_fr hown (fr_setT w4 (N + 1) 5 _) (fun g hg e => by have := (hown.lt g hg).1; omega)
  · intro g h1 h2
    rw [hz] at h2
    rcases hat with e | e
    · rw [e] at h2; exact h.ne g h1 h2
    · have := e g h2
      have := (h.rk.lt g h1).2
      omega
/-- One key more. -/
theorem FIn.pushK {w wr w4 : World} {N : Nat} {bx : Array Value} {p : Int} {ka : Option Addr} {kc : Nat} {ya : Option Addr} {yc : Nat} {ks : List ByteArray} {ys : List Int} (h : FIn w wr N bx p ka kc ya yc ks ys) {y : ByteArray} {v' : Value} (hown : w4.ownsRow (N + 2) 9 1 v' (ks.length + 1) (rowsOf strCells ks ++ [.string y])) (hgr : wr.grownBy w4 (Value.slice ka ks.length kc).ownBlock) (hat : v'.ownBlock = (Value.slice ka ks.length kc).ownBlock ∨ ∀ g, v'.ownBlock = some g → wr.heap.size ≤ g) :
    ∃ ka' kc', v' = .slice ka' (ks.length + 1) kc' ∧ FIn w (w4.setCell ⟨N + 1, 2, none⟩ v') N bx p ka' kc' ya yc (ks ++ [y]) ys ∧ w4.heap[N + 1]? = some (.cells #[.bool false, .int .i64 p, .slice ka ks.length kc, .slice none 0 0, .slice none 0 0, .slice ya ys.length yc] 92) := by
  obtain ⟨ka', kc', rfl⟩ := own_shape hown
  have X4 := h.x.fr (grown_fr hgr) (fun k hk e => by have := (h.rk.lt k e.symm).1; omega)
  have X5 := X4.set 2 (.slice ka' (ks.length + 1) kc')
  have hz : (ks ++ [y]).length = ks.length + 1 := by simp
  refine ⟨ka', kc', rfl, ⟨?_, ?_, ?_, ?_⟩, X4.xn⟩
  · rw [hz]; simpa using X5
  · rw [hz, rowsOf_append]
    exact owns_fr hown (fr_setT w4 (N + 1) 2 _) (fun g hg e => by have := (hown.lt g hg).1; omega)
  · refine owns_fr (owns_fr h.ry (grown_fr hgr) (fun g hg e => h.ne g e.symm hg)) (fr_setT w4 (N + 1) 2 _) (fun g hg e => ?_)
    have := (h.ry.lt g hg).1
    omega
  · intro g h1 h2
    rw [hz] at h1
    rcases hat with e | e
    · rw [e] at h1; exact h.ne g h1 h2
    · have := e g h1
      have := (h.ry.lt g h2).2
      omega
theorem starts_take (s : Nat) (ns : List Nat) (j : Nat) (hj : j < ns.length) : (startsN s ns).take (j + 1) = (startsN s ns).take j ++ [((s + (ns.take j).sum : Nat) : Int)] := by
  induction ns generalizing s j with
  | nil => simp at hj
  | cons a r ih =>
    cases j with
    | zero => simp [startsN]
    | succ j =>
      have := ih (s + a) j (by simpa using hj)
      simp only [startsN, List.take_succ_cons, List.sum_cons, List.cons_append]
      rw [this]
      congr 3
      push_cast
      omega
theorem tail_take {α : Type} (l : List α) (j : Nat) (hj : j < l.length) (h0 : 0 < j) : (l.take (j + 1)).tail = (l.take j).tail ++ [l[j]] := by
  rw [List.take_succ_eq_append_getElem hj, List.tail_append_of_ne_nil]
  intro e
  have := congrArg List.length e
  simp only [List.length_take, List.length_nil] at this
  omega
theorem offs_take (s : Nat) (l : List (Nat → List TN)) (j : Nat) (hj : j < l.length) : offs s (l.take (j + 1)) = offs s (l.take j) ++ l[j] (s + (offs s (l.take j)).length) := by
  induction l generalizing s j with
  | nil => simp at hj
  | cons a r ih =>
    cases j with
    | zero => simp [offs]
    | succ j =>
      have := ih (s + (a s).length) j (by simpa using hj)
      simp only [List.take_succ_cons, offs, List.getElem_cons_succ, List.append_assoc]
      rw [this, List.length_append, Nat.add_assoc]
theorem offs_take_le (s : Nat) (l : List (Nat → List TN)) (j : Nat) : (offs s (l.take j)).length ≤ (offs s l).length := by
  induction l generalizing s j with
  | nil => simp
  | cons a r ih =>
    cases j with
    | zero => simp [offs]
    | succ j =>
      have := ih (s + (a s).length) j
      simp only [List.take_succ_cons, offs, List.length_append]
      omega
/-- A row of one's own, nil or not, as a list elsewhere. -/
theorem off_any {α : Type} {w : World} {base e gx n c lo : Nat} {a : Option Addr} {cs : α → List Value} {fit : α → Prop} {d : α} {xs : List α} (hm : ∀ x, (cs x).length = 1) (h : w.ownsRow base e 1 (.slice a n c) n (rowsOf cs xs)) (hl : xs.length = n) (hf : ∀ i, i < n → fit (xs.getD i d)) (hlo : lo ≤ base) (hg : gx < base) (hb : base < w.heap.size) : Off w lo gx (fun w A B => RowsAt w A B 1 cs fit d a n c xs) := by
  rcases h.2 with ⟨e, e2⟩ | ⟨g, cap, cur, e, _⟩
  · simp only [Value.slice.injEq] at e
    obtain ⟨rfl, rfl, rfl⟩ := e
    exact ⟨base, hlo, by omega, hb, hl, Nat.le_refl _, Nat.zero_le _, hf, fun h => absurd h (Nat.lt_irrefl _)⟩
  · simp only [Value.slice.injEq] at e
    obtain ⟨rfl, _, rfl⟩ := e
    exact off_rows hm h hl hf hlo hg
end Go.Proofs.Ytpmagndofiaooaa
