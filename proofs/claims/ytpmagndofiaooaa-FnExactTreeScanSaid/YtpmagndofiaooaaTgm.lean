import Derived.Test.YtpmagndofiaooaaTga
import Derived.Test.YtpmagndofiaooaaByt
import Derived.Test.YtpmagndofiaooaaPgM
namespace Go.Proofs.Ytpmagndofiaooaa
open Go.RowKit
set_option linter.unusedVariables false
set_option linter.unusedSimpArgs false
set_option maxRecDepth 100000

/-- A node of the program's that may be written into: all that is below it in blocks of P, no block used twice. -/
def GM (w : World) (P : Nat → Prop) : T → Value → Prop
  | ⟨l, p, k, v, o, y⟩, u => if l then ∃ (L : Nat) (a : Option Addr) (n c : Nat), u = .iface 94 (.pointer (some ⟨L, 0, none⟩)) ∧ P L ∧ w.heap[L]? = some (.cells #[.int .i64 p, .slice a n c] 98) ∧ w.ownsRow 0 86 3 (.slice a n c) n (rowsOf slCells (k.zip (v.zip o))) ∧ (∀ g, (Value.slice a n c).ownBlock = some g → P g ∧ g ≠ L) ∧ n = k.length
    else ∃ (L : Nat) (a : Option Addr) (n c : Nat) (ul : List Value) (Q : Nat → Nat → Prop), u = .iface 99 (.pointer (some ⟨L, 0, none⟩)) ∧ P L ∧ w.heap[L]? = some (.cells #[.int .i64 p, .slice a n c] 101) ∧ w.ownsRow 0 70 1 (.slice a n c) n ul ∧ (∀ g, (Value.slice a n c).ownBlock = some g → P g ∧ g ≠ L) ∧ n = y.length ∧ (∀ i j b, Q i b → Q j b → i = j) ∧ (∀ i b, Q i b → P b ∧ b ≠ L ∧ (Value.slice a n c).ownBlock ≠ some b) ∧ ∀ i, ∀ t ∈ y, y[i]? = some t → GM w (Q i) t (ul.getD i .nilIface)
structure GML (w : World) (P : Nat → Prop) (t : T) (L : Nat) (a : Option Addr) (n c : Nat) : Prop where
  at' : P L
  box : w.heap[L]? = some (.cells #[.int .i64 t.page, .slice a n c] 98)
  row : w.ownsRow 0 86 3 (.slice a n c) n (rowsOf slCells (t.keys.zip (t.vals.zip t.over)))
  blk : ∀ g, (Value.slice a n c).ownBlock = some g → P g ∧ g ≠ L
  len : n = t.keys.length
structure GMI (w : World) (P : Nat → Prop) (t : T) (L : Nat) (a : Option Addr) (n c : Nat) (ul : List Value) (Q : Nat → Nat → Prop) : Prop where
  at' : P L
  box : w.heap[L]? = some (.cells #[.int .i64 t.page, .slice a n c] 101)
  row : w.ownsRow 0 70 1 (.slice a n c) n ul
  blk : ∀ g, (Value.slice a n c).ownBlock = some g → P g ∧ g ≠ L
  len : n = t.kids.length
  dis : ∀ i j b, Q i b → Q j b → i = j
  sub : ∀ i b, Q i b → P b ∧ b ≠ L ∧ (Value.slice a n c).ownBlock ≠ some b
  kid : ∀ i, ∀ k ∈ t.kids, t.kids[i]? = some k → GM w (Q i) k (ul.getD i .nilIface)
theorem GM.leaf {w : World} {P : Nat → Prop} {t : T} {u : Value} (h : GM w P t u) (hl : t.leaf = true) : ∃ L a n c, u = .iface 94 (.pointer (some ⟨L, 0, none⟩)) ∧ GML w P t L a n c := by
  obtain ⟨l, p, k, v, o, y⟩ := t
  simp only at hl
  rw [GM.eq_def] at h
  simp only [hl, if_true] at h
  obtain ⟨L, a, n, c, e, h1, h2, h3, h4, h5⟩ := h
  exact ⟨L, a, n, c, e, h1, h2, h3, h4, h5⟩
theorem GM.inner {w : World} {P : Nat → Prop} {t : T} {u : Value} (h : GM w P t u) (hl : t.leaf = false) : ∃ L a n c ul Q, u = .iface 99 (.pointer (some ⟨L, 0, none⟩)) ∧ GMI w P t L a n c ul Q := by
  obtain ⟨l, p, k, v, o, y⟩ := t
  simp only at hl
  rw [GM.eq_def] at h
  simp only [hl, Bool.false_eq_true, if_false] at h
  obtain ⟨L, a, n, c, ul, Q, e, h1, h2, h3, h4, h5, h6, h7, h8⟩ := h
  exact ⟨L, a, n, c, ul, Q, e, h1, h2, h3, h4, h5, h6, h7, h8⟩
theorem GML.is {w : World} {P : Nat → Prop} {t : T} {L : Nat} {a : Option Addr} {n c : Nat} (h : GML w P t L a n c) (hl : t.leaf = true) : GM w P t (.iface 94 (.pointer (some ⟨L, 0, none⟩))) := by
  obtain ⟨l, p, k, v, o, y⟩ := t
  simp only at hl
  rw [GM.eq_def]
  simp only [hl, if_true]
  exact ⟨L, a, n, c, rfl, h.at', h.box, h.row, h.blk, h.len⟩
theorem GMI.is {w : World} {P : Nat → Prop} {t : T} {L : Nat} {a : Option Addr} {n c : Nat} {ul : List Value} {Q : Nat → Nat → Prop} (h : GMI w P t L a n c ul Q) (hl : t.leaf = false) : GM w P t (.iface 99 (.pointer (some ⟨L, 0, none⟩))) := by
  obtain ⟨l, p, k, v, o, y⟩ := t
  simp only at hl
  rw [GM.eq_def]
  simp only [hl, Bool.false_eq_true, if_false]
  exact ⟨L, a, n, c, ul, Q, rfl, h.at', h.box, h.row, h.blk, h.len, h.dis, h.sub, h.kid⟩
theorem owns_keepG {w w' : World} {base e size : Nat} {v : Value} {n : Nat} {xs : List Value} (h : w.ownsRow base e size v n xs) (hp : ∀ g, v.ownBlock = some g → w'.heap[g]? = w.heap[g]?) : w'.ownsRow base e size v n xs := by
  refine ⟨h.1, ?_⟩
  rcases h.2 with h | ⟨g, cap, cur, e1, h1, h2, h3⟩
  · exact .inl h
  · exact .inr ⟨g, cap, cur, e1, h1, (hp g (by rw [e1]; rfl)).trans h2, h3⟩
theorem GM.keep {w w' : World} : ∀ (t : T) (P Q : Nat → Prop) (u : Value), (∀ b, P b → w'.heap[b]? = w.heap[b]?) → (∀ b, P b → Q b) → GM w P t u → GM w' Q t u := by
  intro t
  induction t using T.ind with
  | h t ih =>
    intro P R u hp hQ h
    cases hl : t.leaf
    · obtain ⟨L, a, n, c, ul, Q, rfl, q⟩ := h.inner hl
      exact GMI.is (Q := Q) ⟨hQ L q.at', (hp L q.at').trans q.box, owns_keepG q.row (fun g hg => hp g (q.blk g hg).1), fun g hg => ⟨hQ g (q.blk g hg).1, (q.blk g hg).2⟩, q.len, q.dis, fun i b hb => ⟨hQ b (q.sub i b hb).1, (q.sub i b hb).2⟩, fun i k hm hi => ih k hm (Q i) (Q i) _ (fun b hb => hp b (q.sub i b hb).1) (fun _ hb => hb) (q.kid i k hm hi)⟩ hl
    · obtain ⟨L, a, n, c, rfl, q⟩ := h.leaf hl
      exact GML.is ⟨hQ L q.at', (hp L q.at').trans q.box, owns_keepG q.row (fun g hg => hp g (q.blk g hg).1), fun g hg => ⟨hQ g (q.blk g hg).1, (q.blk g hg).2⟩, q.len⟩ hl
theorem GML.see {w : World} {P : Nat → Prop} {t : T} {L : Nat} {a : Option Addr} {n c : Nat} (h : GML w P t L a n c) : GLeaf w P t L a n c := by
  have hrow := h.row
  have hzl : (t.keys.zip (t.vals.zip t.over)).length = n := by
    have := hrow.1
    rw [rowsOf_length sl3] at this
    omega
  refine ⟨h.at', h.box, ?_, h.len⟩
  rcases hrow.2 with ⟨e, e2⟩ | ⟨g, cap, cur, e, h1, h2, h3, h4, _⟩
  · simp only [Value.slice.injEq] at e
    obtain ⟨_, e3, e4⟩ := e
    exact ⟨hzl, by omega, by omega, fun h => by omega⟩
  · simp only [Value.slice.injEq] at e
    obtain ⟨rfl, _, rfl⟩ := e
    exact ⟨hzl, h3, h4, fun hn => ⟨g, rfl, (h.blk g rfl).1, fun r hr => hrow.cellAt r hr⟩⟩
theorem GM.see {w : World} : ∀ (t : T) (P : Nat → Prop) (u : Value), GM w P t u → GIs w P t u := by
  intro t
  induction t using T.ind with
  | h t ih =>
    intro P u h
    cases hl : t.leaf
    · obtain ⟨L, a, n, c, ul, Q, rfl, q⟩ := h.inner hl
      have hrow := q.row
      refine GInner.is (us := fun i => ul.getD i .nilIface) ⟨q.at', q.box, ?_, ?_, fun i k hm hi => GIs.keep (fun _ _ => rfl) (fun b hb => (q.sub i b hb).1) k _ (ih k hm (Q i) _ (q.kid i k hm hi))⟩ hl
      · rcases hrow.2 with ⟨e, e2⟩ | ⟨g, cap, cur, e, h1, h2, h3, h4, _⟩
        · simp only [Value.slice.injEq] at e
          exact ⟨q.len, by omega, by omega⟩
        · simp only [Value.slice.injEq] at e
          obtain ⟨_, _, rfl⟩ := e
          exact ⟨q.len, h3, h4⟩
      · intro hn
        rcases hrow.2 with ⟨e, e2⟩ | ⟨g, cap, cur, e, h1, h2, h3, h4, _⟩
        · omega
        · simp only [Value.slice.injEq] at e
          obtain ⟨rfl, _, rfl⟩ := e
          refine ⟨g, rfl, (q.blk g rfl).1, fun i hi => ?_⟩
          rw [hrow.cellAt i (by omega)]
          have hul := hrow.1
          simp [List.getD, show i < ul.length by omega]
    · obtain ⟨L, a, n, c, rfl, q⟩ := h.leaf hl
      exact q.see.is hl
theorem GM.drew {w : World} {P : Nat → Prop} {t : T} {u : Value} (h : GM w P t u) : GM w.drew P t u := GM.keep (w := w) (w' := w.drew) t P P u (fun _ _ => rfl) (fun _ h => h) h
theorem GM.shape {w : World} {P : Nat → Prop} {t : T} {u : Value} (h : GM w P t u) : ∃ ty v, u = .iface ty v := (GM.see t P u h).shape
end Go.Proofs.Ytpmagndofiaooaa
