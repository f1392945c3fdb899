import Derived.Test.YtdieplpegkiolaaGAB
import Derived.Test.YtdieplpegkiolaaChecked
import Derived.Deep.QuietTactic
import Derived.BigQuiet
import Derived.WalkLawsBesides
import Derived.OwnWalk
import Derived.Laws.AppendOwnNone
import Derived.Deep.RegionLaw
import Derived.ArgAppend
import Derived.Deep.RegionHeld3
namespace Go.Proofs.Ytdieplpegkiolaa
open Go.RowKit
set_option linter.unusedVariables false
set_option maxRecDepth 100000

end Go.Proofs.Ytdieplpegkiolaa
namespace Go.Proofs.Ytdieplpegkiolaa
open Go.RowKit
set_option linter.unusedVariables false
set_option maxRecDepth 100000



set_option maxHeartbeats 400000 in
theorem l1Bytes_any' (a : Option Addr) (n c : Nat) (bs : List Int) (w : World) (A B : Nat) (hB : B ≤ w.heap.size) (h : BytesAt w A B a n c bs) (hn : n ≤ 1073741824) :
    Calls Try.prog 16 #[.slice a n c] w fun e w' => ∃ v, e = .returned v ∧ w'.ownsRow w.heap.size 5 1 v n (u8s bs) ∧ Below w.heap.size w w' := by
  obtain ⟨hl, hnc, hc, hw, hcell, hnil⟩ := h
  obtain ⟨i0, hi, hz0, hz1, hz2⟩ := info_parts info_u8
  have hown : (w.alloc (.cells #[] 5)).ownsRow w.heap.size 5 1 (.slice (some ⟨w.heap.size, 0, none⟩) 0 0) 0 [] := World.ownsRow_made w #[] 0 (Nat.le_refl _) (by unfold maxLen; omega) (by simp)
  have hb0 : Below w.heap.size w (w.alloc (.cells #[] 5)) := (Below.refl _ _).alloc (Nat.le_refl _) _
  rcases a with _ | ad
  · have hn0 : n = 0 := by
      by_cases h0 : n = 0
      · exact h0
      · obtain ⟨_, _, h1, _⟩ := hcell (by omega); cases h1
    subst hn0
    have hc0 := hnil rfl
    subst hc0
    go_enter Try.func16, Try.ntmps16
    go_wp2_with (at_builtin; refine wpList_append_own_none rfl _ _ 22 rfl w.heap.size 5 i0 1 Try.underlying22 hi _ 0 [] rfl hown rfl ?_)
    go_ret
    exact ⟨_, rfl, by rw [List.eq_nil_of_length_eq_zero hl]; exact hown, hb0⟩
  · have hnews : ∀ j u, (u8s bs)[j]? = some u → (w.alloc (.cells #[] 5)).cell? (ad.add j) = some u := by
      intro j u hj
      have hjn : j < n := by
        have := (List.getElem?_eq_some_iff.1 hj).1
        simp [u8s] at this; omega
      obtain ⟨b, off, h1, h2, h3⟩ := hcell (by omega)
      cases h1
      have h4 := h3 j hjn
      have h5 : (⟨b, off, none⟩ : Addr).add j = ⟨b, off + j, none⟩ := by simp [Addr.add]
      rw [h5, World.cell?_alloc_lt _ _ _ (by show b < _; omega), h4]
      simp [u8s, List.getElem?_map] at hj
      obtain ⟨x, hx, rfl⟩ := hj
      simp [List.getD, hx]
    have HN := hnews
    go_enter Try.func16, Try.ntmps16
    go_wp2_with (at_builtin; refine wpList_append_own _ rfl _ _ 22 rfl w.heap.size 5 i0 (.int .u8 0) 1 1 Try.underlying22 hi hz0 hz1 hz2 rfl (by decide) _ _ _ rfl hown ad n c (u8s bs) rfl ?c1 hnews ?c2 ?c3 ?c4 ?c5 ?_)
    case c1 => simp [u8s, hl]
    case c2 => intro u hu; simp [u8s] at hu; obtain ⟨x, _, rfl⟩ := hu; rfl
    case c3 => unfold maxLen; omega
    case c4 => omega
    case c5 => simp
    intro v' w1 hown' hgr _
    have hb1 := hb0.grown hgr (by simp) (by intro k hk; simp [Value.ownBlock] at hk; omega)
    clear hgr hown hnews
    go_wp2_with fail
    go_ret
    exact ⟨_, rfl, hown', hb1⟩
theorem l1Bytes_any (a : Option Addr) (n c : Nat) (bs : List Int) (w : World) (A B : Nat) (hB : B ≤ w.heap.size) (h : BytesAt w A B a n c bs) (hn : n ≤ 1073741824) :
    Calls Try.prog 16 #[.slice a n c] w fun e w' => ∃ va vc, e = .returned (.slice va n vc) ∧ w'.ownsRow w.heap.size 5 1 (.slice va n vc) n (u8s bs) ∧ Below w.heap.size w w' := by
  refine (l1Bytes_any' a n c bs w A B hB h hn).mono ?_
  rintro e w' ⟨v, rfl, h1, h2⟩
  obtain ⟨va, vc, rfl⟩ := own_shape h1
  exact ⟨va, vc, rfl, h1, h2⟩

theorem getD_snoc_lt {α : Type} (l : List α) (x d : α) (j : Nat) (h : j < l.length) : (l ++ [x]).getD j d = l.getD j d := by
  simp [List.getD, List.getElem?_append_left h]
theorem getD_snoc_eq {α : Type} (l : List α) (x d : α) : (l ++ [x]).getD l.length d = x := by
  simp [List.getD]

end Go.Proofs.Ytdieplpegkiolaa
namespace Go.Proofs.Ytdieplpegkiolaa
open Go.RowKit
set_option linter.unusedVariables false
set_option maxRecDepth 100000

theorem below_alloc' {wr w1 : World} {o : Obj} (h1 : w1.os = wr.os) (h2 : w1.tape = wr.tape) (h3 : w1.output = wr.output) (h4 : w1.heap = wr.heap.push o) : Below wr.heap.size wr w1 :=
  ⟨h1, h2, h3, by rw [h4]; simp, fun k hk => by rw [h4, Array.getElem?_push, if_neg (by omega)]⟩
theorem grown_below {S : Nat} {w wr w1 w2 : World} {row : Option Nat} (hbel : Below S w wr) (h1 : Below wr.heap.size wr w1) (hgr : w1.grownBy w2 row) (hS : S ≤ wr.heap.size) (hr : ∀ k, row = some k → S ≤ k) : Below S w w2 :=
  (hbel.trans (h1.mono hS)).grown hgr (Nat.le_trans hS h1.size) hr
theorem grown_box {S : Nat} {wr w1 w2 : World} {row : Option Nat} {o : Obj} (hbox : wr.heap[S]? = some o) (h1 : Below wr.heap.size wr w1) (hgr : w1.grownBy w2 row) (hr : ∀ k, row = some k → S < k) : w2.heap[S]? = some o := by
  have hS : S < wr.heap.size := (Array.getElem?_eq_some_iff.1 hbox).1
  rw [hgr.block S (Nat.lt_of_lt_of_le hS h1.size) (fun e => by have := hr S e.symm; omega), h1.block S hS, hbox]

theorem app_after {S : Nat} {w wr w1 w2 : World} {row : Option Nat} {o ob : Obj} (hgr : w1.grownBy w2 row) (e1 : w1.os = wr.os) (e2 : w1.tape = wr.tape) (e3 : w1.output = wr.output) (e4 : w1.heap = wr.heap.push o) (hbel : Below S w wr) (hS : S + 1 ≤ wr.heap.size) (hbox : wr.heap[S]? = some ob) (hr : ∀ k, row = some k → S + 1 ≤ k) :
    Below S w w2 ∧ w2.heap[S]? = some ob ∧ S + 1 ≤ w2.heap.size := by
  have hB1 := below_alloc' e1 e2 e3 e4
  exact ⟨grown_below hbel hB1 hgr (by omega) (fun g hg => by have := hr g hg; omega), grown_box hbox hB1 hgr (fun g hg => hr g hg), by have := hgr.size; have := hB1.size; omega⟩

/-- 'a > b' on names. -/
def gtB (a b : ByteArray) : Bool := !Op.bytesLess a.toList b.toList && !(a.toList == b.toList)

theorem own_lower {w : World} {b b' e size : Nat} {v : Value} {n : Nat} {xs : List Value} (h : w.ownsRow b e size v n xs) (hb : b' ≤ b) : w.ownsRow b' e size v n xs := by
  refine ⟨h.1, ?_⟩
  rcases h.2 with hn | ⟨g, cap, cur, e1, e2, e3⟩
  · exact .inl hn
  · exact .inr ⟨g, cap, cur, e1, Nat.le_trans hb e2, e3⟩

/-- A row of files as cells. -/
def RowF (w : World) (B : Nat) (a : Option Addr) (n c : Nat) (xs : List Value) (nms : Nat → ByteArray) : Prop :=
  xs.length = n * 2 ∧ n ≤ c ∧ c ≤ maxLen ∧ (∀ i, i < n → xs[i * 2]? = some (.string (nms i)) ∧ ∃ a' n' c', xs[i * 2 + 1]? = some (.slice a' n' c')) ∧ (0 < n → ∃ b off, a = some ⟨b, off, none⟩ ∧ b < B ∧ ∀ j, j < n * 2 → w.cell? ⟨b, off + j, none⟩ = xs[j]?)

theorem take_two (xs : List Value) (k : Nat) (u v : Value) (h1 : xs[k * 2]? = some u) (h2 : xs[k * 2 + 1]? = some v) : xs.take ((k + 1) * 2) = xs.take (k * 2) ++ [u, v] := by
  obtain ⟨l1, e1⟩ := List.getElem?_eq_some_iff.1 h1
  obtain ⟨l2, e2⟩ := List.getElem?_eq_some_iff.1 h2
  rw [show (k + 1) * 2 = k * 2 + 1 + 1 by omega, List.take_succ_eq_append_getElem l2, List.take_succ_eq_append_getElem l1, e1, e2]
  simp

/-- Where the walk of l1Insert stands after k rounds. -/
def InsAt (xs : List Value) (nms : Nat → ByteArray) (nm : ByteArray) (u : Value) (k : Nat) (t : Bool) (m : Nat) (ys : List Value) : Prop :=
  (t = false ∧ m = k ∧ ys = xs.take (k * 2) ∧ ∀ i, i < k → gtB (nms i) nm = false) ∨
  (t = true ∧ m = k + 1 ∧ ∃ p, p < k ∧ gtB (nms p) nm = true ∧ (∀ i, i < p → gtB (nms i) nm = false) ∧ ys = xs.take (p * 2) ++ [.string nm, u] ++ (xs.take (k * 2)).drop (p * 2))

theorem InsAt.go {xs : List Value} {nms : Nat → ByteArray} {nm : ByteArray} {u : Value} {k : Nat} {t : Bool} {m : Nat} {ys : List Value} {x y : Value} (h : InsAt xs nms nm u k t m ys) (h1 : xs[k * 2]? = some x) (h2 : xs[k * 2 + 1]? = some y) (hc : t = true ∨ gtB (nms k) nm = false) :
    InsAt xs nms nm u (k + 1) t (m + 1) (ys ++ [x, y]) := by
  have ht := take_two xs k x y h1 h2
  have hlen : k * 2 ≤ xs.length := by
    have := (List.getElem?_eq_some_iff.1 h1).1; omega
  rcases h with ⟨rfl, rfl, rfl, h⟩ | ⟨rfl, rfl, p, hp, hg, h, rfl⟩
  · rcases hc with hc | hc
    · cases hc
    · refine .inl ⟨rfl, rfl, ht.symm, fun i hi => ?_⟩
      by_cases hik : i = m
      · subst hik; exact hc
      · exact h i (by omega)
  · refine .inr ⟨rfl, rfl, p, by omega, hg, h, ?_⟩
    rw [ht, List.drop_append_of_le_length (by simp; omega)]
    simp
theorem InsAt.put {xs : List Value} {nms : Nat → ByteArray} {nm : ByteArray} {u : Value} {k : Nat} {m : Nat} {ys : List Value} {x y : Value} (h : InsAt xs nms nm u k false m ys) (h1 : xs[k * 2]? = some x) (h2 : xs[k * 2 + 1]? = some y) (hc : gtB (nms k) nm = true) :
    InsAt xs nms nm u (k + 1) true (m + 1 + 1) (ys ++ [.string nm, u] ++ [x, y]) := by
  have ht := take_two xs k x y h1 h2
  have hlen : k * 2 ≤ xs.length := by
    have := (List.getElem?_eq_some_iff.1 h1).1; omega
  rcases h with ⟨_, rfl, rfl, h⟩ | ⟨h, _⟩
  · refine .inr ⟨rfl, rfl, m, by omega, hc, h, ?_⟩
    rw [ht, List.drop_append_of_le_length (by simp; omega)]
    simp
  · cases h

/-- Where a new name goes. -/
def insPos (n : Nat) (nms : Nat → ByteArray) (nm : ByteArray) (p : Nat) : Prop := p ≤ n ∧ (∀ i, i < p → gtB (nms i) nm = false) ∧ (p < n → gtB (nms p) nm = true)

end Go.Proofs.Ytdieplpegkiolaa
namespace Go.Proofs.Ytdieplpegkiolaa
open Go.RowKit
set_option linter.unusedVariables false
set_option maxRecDepth 100000

theorem grown_weak {w w' : World} {row : Option Nat} (h : w.grownBy w' none) : w.grownBy w' row :=
  ⟨h.os, h.tape, h.output, h.size, fun k hk _ => h.block k hk (by simp)⟩

/-- 'append' to a slice of one's own, and where the answer lies: where it lay, or in a new block. -/
theorem run_append_own2 {P : Program} (w : World) (base : Nat) (t ty e : TypeId) (i : TypeInfo) (z : Value) (size bytes : Nat) (ht : P.underlying t = some (.slice e)) (hi : P.info? e = some i) (hz : i.zero = some z)
    (hsize : i.size = size) (hby : i.bytes = bytes) (hzs : z.cells.size = size) (hsz : 0 < size)
    (v : Value) (n : Nat) (xs : List Value) (hown : w.ownsRow base e size v n xs)
    (a : Addr) (m c : Nat) (news : List Value) (hl : news.length = m * size) (hnews : ∀ j u, news[j]? = some u → w.cell? (a.add j) = some u) (h1 : ∀ u ∈ news, u.oneCell' = true)
    (h63 : n + m ≤ maxLen) (hbytes : (n + m) * bytes ≤ 140737488355328) (hbase : base ≤ w.heap.size) :
    ∃ v' w', (Builtin.append_ #[t, t] ty #[v, .slice (some a) m c]).run P w = .ok v' w' ∧ w'.ownsRow base e size v' (n + m) (xs ++ news) ∧ w.grownBy w' v.ownBlock ∧
      (v'.ownBlock = v.ownBlock ∨ ∀ g, v'.ownBlock = some g → w.heap.size ≤ g) := by
  rcases hown.2 with ⟨rfl, rfl⟩ | ⟨g, cap, cur, rfl, hbg, hg, hnc, hcm, hcs, htake⟩
  · have hx : xs = [] := List.eq_nil_of_length_eq_zero (by simpa using hown.1)
    subst hx
    obtain ⟨v', w', hr, ho, hgr, _⟩ := run_append_own (P := P) w w.heap.size t ty e i z size bytes ht hi hz hsize hby hzs hsz _ 0 [] (World.ownsRow_nil w _ e size) a m c news hl hnews h1 h63 hbytes (Nat.le_refl _)
    exact ⟨v', w', hr, own_lower ho hbase, hgr, .inr fun k hk => (ho.lt k hk).1⟩
  · by_cases hroom : n + m ≤ cap
    · obtain ⟨v', w', hr, ho, hgr, _⟩ := run_append_own (P := P) w base t ty e i z size bytes ht hi hz hsize hby hzs hsz _ n xs hown a m c news hl hnews h1 h63 hbytes hbase
      subst hsize
      have hfit : n * i.size + news.length ≤ cur.size := by rw [hl, hcs, ← Nat.add_mul]; exact Nat.mul_le_mul_right _ hroom
      have hr2 := run_append_room (P := P) w t ty e i ht hi g n cap cur hg a m c news hl hnews h1 hroom hfit
      rw [hr] at hr2
      injection hr2 with e1 e2
      exact ⟨v', w', hr, ho, hgr, .inl (by rw [e1]; rfl)⟩
    · have holds : ∀ j u, xs[j]? = some u → w.cell? ((⟨g, 0, none⟩ : Addr).add j) = some u := hown.cells (g := g) rfl
      obtain ⟨v', w', hr, ho, hgr⟩ := run_append_arg_grows (P := P) w t ty e i z size bytes ht hi hz hsize hby hzs hsz ⟨g, 0, none⟩ n cap xs hown.1 holds a m c news hl hnews (by omega) h63 hbytes
      exact ⟨v', w', hr, own_lower ho hbase, grown_weak hgr, .inr fun k hk => (ho.lt k hk).1⟩

theorem wpList_append_own2 {P : Program} (w : World) {ops : Array Oper} {rest : List Oper} {o : Oper} {a : Act} {Q : Exit → Act → World → Prop} (hgd : o.guard = none) (s x : Operand) (t : TypeId)
    (ho : o.op = .call { callee := .builtin .append, args := #[s, x], argTypes := #[t, t] })
    (base : Nat) (e : TypeId) (i : TypeInfo) (z : Value) (size bytes : Nat) (ht : P.underlying t = some (.slice e)) (hi : P.info? e = some i) (hz : i.zero = some z)
    (hsize : i.size = size) (hby : i.bytes = bytes) (hzs : z.cells.size = size) (hsz : 0 < size)
    (v : Value) (n : Nat) (xs : List Value) (hs : a.eval s = v) (hown : w.ownsRow base e size v n xs)
    (ad : Addr) (m c : Nat) (news : List Value) (hx : a.eval x = .slice (some ad) m c) (hl : news.length = m * size) (hnews : ∀ j u, news[j]? = some u → w.cell? (ad.add j) = some u) (h1 : ∀ u ∈ news, u.oneCell' = true)
    (h63 : n + m ≤ maxLen) (hbytes : (n + m) * bytes ≤ 140737488355328) (hbase : base ≤ w.heap.size)
    (h : ∀ v' w', w'.ownsRow base e size v' (n + m) (xs ++ news) → w.grownBy w' v.ownBlock → (v'.ownBlock = v.ownBlock ∨ ∀ g, v'.ownBlock = some g → w.heap.size ≤ g) → wpList P ops Q rest (a.put o.dst v') w') : wpList P ops Q (o :: rest) a w := by
  refine wpList_plain hgd fun _ hK => ?_
  obtain ⟨v', w', hr, h2, h3, h4⟩ := run_append_own2 (P := P) w base t o.type e i z size bytes ht hi hz hsize hby hzs hsz v n xs hown ad m c news hl hnews h1 h63 hbytes hbase
  unfold Oper.wp execOp
  simp only [ho, resolve, invoke, builtin, Sem.run_bind, Sem.run_pure, Result.andThen_ok, List.map_toArray, List.map_cons, List.map_nil, hs, hx, hr]
  exact hK _ _ (h v' w' h2 h3 h4)

/-- The bytes of a file while they grow and are written: everything else of the list stays. -/
structure Edit (w1 wr : World) (base : Nat) (v0 v : Value) (l : List Int) : Prop where
  row : wr.ownsRow base 5 1 v l.length (u8s l)
  grown : w1.grownBy wr v0.ownBlock
  at_ : v.ownBlock = v0.ownBlock ∨ ∀ g, v.ownBlock = some g → w1.heap.size ≤ g

theorem Edit.start {w1 : World} {base : Nat} {v0 : Value} {l : List Int} (h : w1.ownsRow base 5 1 v0 l.length (u8s l)) : Edit w1 w1 base v0 v0 l :=
  ⟨h, ⟨rfl, rfl, rfl, Nat.le_refl _, fun _ _ _ => rfl⟩, .inl rfl⟩
theorem Edit.app {w1 wr w2 w3 : World} {base : Nat} {v0 v v' : Value} {l : List Int} {o : Obj} {l' : List Int} (h : Edit w1 wr base v0 v l) (hgr : w2.grownBy w3 v.ownBlock) (e1 : w2.os = wr.os) (e2 : w2.tape = wr.tape) (e3 : w2.output = wr.output) (e4 : w2.heap = wr.heap.push o)
    (hrow : w3.ownsRow base 5 1 v' l'.length (u8s l')) (hat : v'.ownBlock = v.ownBlock ∨ ∀ g, v'.ownBlock = some g → w2.heap.size ≤ g) : Edit w1 w3 base v0 v' l' := by
  have hB := below_alloc' e1 e2 e3 e4
  refine ⟨hrow, ⟨hgr.os.trans (e1.trans h.grown.os), hgr.tape.trans (e2.trans h.grown.tape), hgr.output.trans (e3.trans h.grown.output), Nat.le_trans h.grown.size (Nat.le_trans hB.size hgr.size), fun k hk hne => ?_⟩, ?_⟩
  · have hkr : k < wr.heap.size := Nat.lt_of_lt_of_le hk h.grown.size
    rw [hgr.block k (Nat.lt_of_lt_of_le hkr hB.size) (fun e => ?_), hB.block k hkr, h.grown.block k hk hne]
    rcases h.at_ with h1 | h1
    · exact hne (e.trans h1)
    · have := h1 k e.symm; omega
  · rcases hat with h1 | h1
    · rcases h.at_ with h2 | h2
      · exact .inl (h1.trans h2)
      · exact .inr fun g hg => h2 g (h1 ▸ hg)
    · exact .inr fun g hg => Nat.le_trans h.grown.size (Nat.le_trans hB.size (h1 g hg))
theorem u8s_set (l : List Int) (j : Nat) (x : Int) : (u8s l).set j (.int .u8 x) = u8s (l.set j x) := by simp [u8s, List.map_set]
theorem Edit.put {w1 wr : World} {base g n c : Nat} {v0 : Value} {l : List Int} (h : Edit w1 wr base v0 (.slice (some ⟨g, 0, none⟩) n c) l) (hl : l.length = n) (j : Nat) (x : Int) :
    Edit w1 (wr.setCell ⟨g, j, none⟩ (.int .u8 x)) base v0 (.slice (some ⟨g, 0, none⟩) n c) (l.set j x) := by
  have hr := h.row
  rw [hl] at hr
  obtain ⟨h1, h2⟩ := hr.stored j (.int .u8 x)
  refine ⟨by rw [← u8s_set]; simpa [hl] using h1, ⟨h2.os.trans h.grown.os, h2.tape.trans h.grown.tape, h2.output.trans h.grown.output, Nat.le_trans h.grown.size h2.size, fun k hk hne => ?_⟩, h.at_⟩
  rw [h2.block k (Nat.lt_of_lt_of_le hk h.grown.size) (fun e => ?_), h.grown.block k hk hne]
  rcases h.at_ with h3 | h3
  · exact hne (by rw [← h3, e]; rfl)
  · have := h3 g rfl
    simp at e; omega
theorem Edit.below {w1 wr : World} {base : Nat} {v0 v : Value} {l : List Int} (h : Edit w1 wr base v0 v l) (hb : base ≤ w1.heap.size) (h0 : ∀ g, v0.ownBlock = some g → base ≤ g) : Below base w1 wr :=
  (Below.refl _ _).grown h.grown hb h0
end Go.Proofs.Ytdieplpegkiolaa
namespace Go.Proofs.Ytdieplpegkiolaa
open Go.RowKit
set_option linter.unusedVariables false
set_option maxRecDepth 100000

theorem getD_ins {α : Type} (l : List α) (x d : α) (p j : Nat) (hp : p ≤ l.length) : (l.take p ++ x :: l.drop p).getD j d = if j < p then l.getD j d else if j = p then x else l.getD (j - 1) d := by
  simp only [List.getD]
  by_cases h1 : j < p
  · rw [if_pos h1, List.getElem?_append_left (by simp; omega), List.getElem?_take, if_pos h1]
  · rw [if_neg h1, List.getElem?_append_right (by simp; omega)]
    by_cases h2 : j = p
    · subst h2; simp [Nat.min_eq_left hp]
    · rw [if_neg h2]
      have : j - (l.take p).length = (j - 1 - p) + 1 := by simp [Nat.min_eq_left hp]; omega
      rw [this, List.getElem?_cons_succ, List.getElem?_drop]
      congr 2; omega
theorem cells_ins (xs : List Value) (s u : Value) (n p : Nat) (hx : xs.length = n * 2) (hp : p ≤ n) (j : Nat) :
    (xs.take (p * 2) ++ [s, u] ++ xs.drop (p * 2))[j * 2]? = (if j < p then xs[j * 2]? else if j = p then some s else xs[(j - 1) * 2]?) ∧
    (xs.take (p * 2) ++ [s, u] ++ xs.drop (p * 2))[j * 2 + 1]? = (if j < p then xs[j * 2 + 1]? else if j = p then some u else xs[(j - 1) * 2 + 1]?) := by
  have hl : (xs.take (p * 2)).length = p * 2 := by simp; omega
  by_cases h1 : j < p
  · rw [if_pos h1, if_pos h1, List.append_assoc, List.getElem?_append_left (by omega), List.getElem?_append_left (by omega), List.getElem?_take, List.getElem?_take, if_pos (by omega), if_pos (by omega)]
    exact ⟨rfl, rfl⟩
  · have key : ∀ q, p * 2 ≤ q → (xs.take (p * 2) ++ [s, u] ++ xs.drop (p * 2))[q]? = ([s, u] ++ xs.drop (p * 2))[q - p * 2]? := by
      intro q hq
      rw [List.append_assoc, List.getElem?_append_right (by omega), hl]
    rw [if_neg h1, if_neg h1, key _ (by omega), key _ (by omega)]
    by_cases h2 : j = p
    · subst h2
      rw [if_pos rfl, if_pos rfl, show j * 2 - j * 2 = 0 by omega, show j * 2 + 1 - j * 2 = 1 by omega]
      exact ⟨rfl, rfl⟩
    · have k2 : ∀ q, 2 ≤ q → ([s, u] ++ xs.drop (p * 2))[q]? = xs[p * 2 + (q - 2)]? := by
        intro q hq
        rw [List.getElem?_append_right (by simpa using hq), List.getElem?_drop]; simp
      rw [if_neg h2, if_neg h2, k2 _ (by omega), k2 _ (by omega)]
      exact ⟨by congr 1; omega, by congr 1; omega⟩

theorem getD_set {α : Type} (l : List α) (x d : α) (i j : Nat) (hi : i < l.length) : (l.set i x).getD j d = if j = i then x else l.getD j d := by
  simp only [List.getD]
  by_cases h : j = i
  · subst h; rw [if_pos rfl, List.getElem?_set_self hi]; rfl
  · rw [if_neg h, List.getElem?_set_ne (by omega)]

end Go.Proofs.Ytdieplpegkiolaa
namespace Go.Proofs.Ytdieplpegkiolaa
open Go.RowKit
set_option linter.unusedVariables false
set_option maxRecDepth 100000

/-- What marking files makes of them, and the number that is next. -/
def markF : Nat → List PF → List PF
  | _, [] => []
  | k, f :: r => (mkS k, marks (k + 1) f.2.length) :: markF (k + 1 + f.2.length) r
def kF : Nat → List PF → Nat
  | k, [] => k
  | k, f :: r => kF (k + 1 + f.2.length) r
theorem kF_snoc (k : Nat) (l : List PF) (f : PF) : kF k (l ++ [f]) = kF k l + 1 + f.2.length := by
  induction l generalizing k with
  | nil => rfl
  | cons a r ih => simp only [List.cons_append, kF]; exact ih _
theorem markF_snoc (k : Nat) (l : List PF) (f : PF) : markF k (l ++ [f]) = markF k l ++ [(mkS (kF k l), marks (kF k l + 1) f.2.length)] := by
  induction l generalizing k with
  | nil => rfl
  | cons a r ih => simp only [List.cons_append, markF, kF]; rw [ih]
theorem markF_length (k : Nat) (l : List PF) : (markF k l).length = l.length := by
  induction l generalizing k with
  | nil => rfl
  | cons a r ih => simp only [markF, List.length_cons, ih]
theorem kF_le (k : Nat) (l : List PF) : k + l.length ≤ kF k l := by
  induction l generalizing k with
  | nil => simp [kF]
  | cons a r ih => have := ih (k + 1 + a.2.length); simp only [kF, List.length_cons]; omega
theorem kF_append (k : Nat) (a b : List PF) : kF k (a ++ b) = kF (kF k a) b := by
  induction a generalizing k with
  | nil => rfl
  | cons x r ih => simp only [List.cons_append, kF]; exact ih _
def stF (k : Nat) (fs : List PF) (j : Nat) : List PF := markF k (fs.take j) ++ fs.drop j
theorem stF_length (k : Nat) (fs : List PF) (j : Nat) (h : j ≤ fs.length) : (stF k fs j).length = fs.length := by
  simp [stF, markF_length]; omega
theorem stF_get (k : Nat) (fs : List PF) (j : Nat) (h : j < fs.length) (d : PF) : (stF k fs j).getD j d = fs[j] := by
  have h1 : (markF k (fs.take j)).length = j := by rw [markF_length, List.length_take]; omega
  simp [stF, List.getD, List.getElem?_append_right, h1, h]
theorem stF_succ (k : Nat) (fs : List PF) (j : Nat) (h : j < fs.length) : stF k fs (j + 1) = (stF k fs j).set j (mkS (kF k (fs.take j)), marks (kF k (fs.take j) + 1) fs[j].2.length) := by
  have h1 : (markF k (fs.take j)).length = j := by rw [markF_length, List.length_take]; omega
  unfold stF
  rw [List.set_append_right _ _ (by omega), h1, Nat.sub_self, List.drop_eq_getElem_cons h, List.set_cons_zero, List.take_succ_eq_append_getElem h, markF_snoc]
  simp
theorem kF_take (k : Nat) (fs : List PF) (j : Nat) (h : j < fs.length) : kF k (fs.take (j + 1)) = kF k (fs.take j) + 1 + fs[j].2.length := by
  rw [List.take_succ_eq_append_getElem h, kF_snoc]
theorem kF_take_le (k : Nat) (fs : List PF) (j : Nat) : kF k (fs.take j) ≤ kF k fs := by
  have h1 : kF k fs = kF (kF k (fs.take j)) (fs.drop j) := by rw [← kF_append, List.take_append_drop]
  have := kF_le (kF k (fs.take j)) (fs.drop j)
  omega
theorem mkS_size (k : Nat) : (mkS k).size ≤ maxLen := by
  have hd : ∀ f k (o : List UInt8), (digF f k o).length ≤ f + o.length := by
    intro f
    induction f with
    | zero => intro k o; simp [digF]
    | succ f ih =>
      intro k o
      unfold digF
      split
      · omega
      · have := ih (k / 10) (UInt8.ofNat (48 + k % 10) :: o); rw [List.length_cons] at this; omega
  unfold mkS
  split
  · show 2 ≤ maxLen; unfold maxLen; omega
  · have := hd 40 k []
    show ((109 :: digF 40 k []).toArray).size ≤ maxLen
    unfold maxLen
    simp at this ⊢; omega

/-- The blocks of a list. -/
def Blk (v : Value) (vs : List Value) (g : Nat) : Prop := v.ownBlock = some g ∨ ∃ j, j < vs.length ∧ (vs.getD j (.slice none 0 0)).ownBlock = some g
theorem marks_length (k n : Nat) : (marks k n).length = n := by simp [marks]
end Go.Proofs.Ytdieplpegkiolaa
namespace Go.Proofs.Ytdieplpegkiolaa
open Go.RowKit
set_option linter.unusedVariables false
set_option maxRecDepth 100000

end Go.Proofs.Ytdieplpegkiolaa
namespace Go.Proofs.Ytdieplpegkiolaa
open Go.RowKit
set_option linter.unusedVariables false
set_option maxRecDepth 100000

/-- What marking writes makes of them, and the number that is next. -/
def markP : Nat → List PP → List PP
  | _, [] => []
  | k, f :: r => (mkS k, ((k + 1 : Nat) : Int), marks (k + 2) f.2.2.length) :: markP (k + 2 + f.2.2.length) r
def kP : Nat → List PP → Nat
  | k, [] => k
  | k, f :: r => kP (k + 2 + f.2.2.length) r
theorem kP_snoc (k : Nat) (l : List PP) (f : PP) : kP k (l ++ [f]) = kP k l + 2 + f.2.2.length := by
  induction l generalizing k with
  | nil => rfl
  | cons a r ih => simp only [List.cons_append, kP]; exact ih _
theorem markP_snoc (k : Nat) (l : List PP) (f : PP) : markP k (l ++ [f]) = markP k l ++ [(mkS (kP k l), ((kP k l + 1 : Nat) : Int), marks (kP k l + 2) f.2.2.length)] := by
  induction l generalizing k with
  | nil => rfl
  | cons a r ih => simp only [List.cons_append, markP, kP]; rw [ih]
theorem markP_length (k : Nat) (l : List PP) : (markP k l).length = l.length := by
  induction l generalizing k with
  | nil => rfl
  | cons a r ih => simp only [markP, List.length_cons, ih]
theorem kP_le (k : Nat) (l : List PP) : k + l.length ≤ kP k l := by
  induction l generalizing k with
  | nil => simp [kP]
  | cons a r ih => have := ih (k + 2 + a.2.2.length); simp only [kP, List.length_cons]; omega
theorem kP_append (k : Nat) (a b : List PP) : kP k (a ++ b) = kP (kP k a) b := by
  induction a generalizing k with
  | nil => rfl
  | cons x r ih => simp only [List.cons_append, kP]; exact ih _
def stP (k : Nat) (fs : List PP) (j : Nat) : List PP := markP k (fs.take j) ++ fs.drop j
theorem stP_length (k : Nat) (fs : List PP) (j : Nat) (h : j ≤ fs.length) : (stP k fs j).length = fs.length := by
  simp [stP, markP_length]; omega
theorem stP_get (k : Nat) (fs : List PP) (j : Nat) (h : j < fs.length) (d : PP) : (stP k fs j).getD j d = fs[j] := by
  have h1 : (markP k (fs.take j)).length = j := by rw [markP_length, List.length_take]; omega
  simp [stP, List.getD, List.getElem?_append_right, h1, h]
theorem stP_succ (k : Nat) (fs : List PP) (j : Nat) (h : j < fs.length) : stP k fs (j + 1) = (stP k fs j).set j (mkS (kP k (fs.take j)), ((kP k (fs.take j) + 1 : Nat) : Int), marks (kP k (fs.take j) + 2) fs[j].2.2.length) := by
  have h1 : (markP k (fs.take j)).length = j := by rw [markP_length, List.length_take]; omega
  unfold stP
  rw [List.set_append_right _ _ (by omega), h1, Nat.sub_self, List.drop_eq_getElem_cons h, List.set_cons_zero, List.take_succ_eq_append_getElem h, markP_snoc]
  simp
theorem kP_take (k : Nat) (fs : List PP) (j : Nat) (h : j < fs.length) : kP k (fs.take (j + 1)) = kP k (fs.take j) + 2 + fs[j].2.2.length := by
  rw [List.take_succ_eq_append_getElem h, kP_snoc]
theorem kP_take_le (k : Nat) (fs : List PP) (j : Nat) : kP k (fs.take j) ≤ kP k fs := by
  have h1 : kP k fs = kP (kP k (fs.take j)) (fs.drop j) := by rw [← kP_append, List.take_append_drop]
  have := kP_le (kP k (fs.take j)) (fs.drop j)
  omega

/-- Rows of other types lie in other blocks. -/
theorem own_ne2 {w : World} {b1 b2 e1 e2 s1 s2 : Nat} {v u : Value} {n m : Nat} {xs ys : List Value} (hne : e1 ≠ e2) (h : w.ownsRow b1 e1 s1 v n xs) (k : w.ownsRow b2 e2 s2 u m ys) : u.ownBlock = none ∨ u.ownBlock ≠ v.ownBlock := by
  rcases k.2 with ⟨rfl, _⟩ | ⟨g, cap, cur, rfl, _, hg, _⟩
  · exact .inl rfl
  · refine .inr fun e => ?_
    rcases h.2 with ⟨rfl, _⟩ | ⟨g', cap', cur', rfl, _, hg', _⟩
    · simp [Value.ownBlock] at e
    · simp [Value.ownBlock] at e
      subst e
      rw [hg] at hg'
      simp at hg'
      exact hne hg'.2.symm

end Go.Proofs.Ytdieplpegkiolaa
namespace Go.Proofs.Ytdieplpegkiolaa
open Go.RowKit
set_option linter.unusedVariables false
set_option maxRecDepth 100000

end Go.Proofs.Ytdieplpegkiolaa
namespace Go.Proofs.Ytdieplpegkiolaa
open Go.RowKit
set_option linter.unusedVariables false
set_option maxRecDepth 100000

theorem markF_get (k : Nat) (fs : List PF) (j : Nat) (h : j < fs.length) (d : PF) : (markF k fs).getD j d = (mkS (kF k (fs.take j)), marks (kF k (fs.take j) + 1) fs[j].2.length) := by
  induction fs generalizing k j with
  | nil => simp at h
  | cons a r ih =>
    cases j with
    | zero => simp [markF, kF]
    | succ j =>
      have h' : j < r.length := by simpa using h
      simpa [markF, kF] using ih (k + 1 + a.2.length) j h'

end Go.Proofs.Ytdieplpegkiolaa
namespace Go.Proofs.Ytdieplpegkiolaa
open Go.RowKit
set_option linter.unusedVariables false
set_option maxRecDepth 100000

theorem markP_get (k : Nat) (fs : List PP) (j : Nat) (h : j < fs.length) (d : PP) : (markP k fs).getD j d = (mkS (kP k (fs.take j)), ((kP k (fs.take j) + 1 : Nat) : Int), marks (kP k (fs.take j) + 2) fs[j].2.2.length) := by
  induction fs generalizing k j with
  | nil => simp at h
  | cons a r ih =>
    cases j with
    | zero => simp [markP, kP]
    | succ j =>
      have h' : j < r.length := by simpa using h
      simpa [markP, kP] using ih (k + 2 + a.2.2.length) j h'

end Go.Proofs.Ytdieplpegkiolaa
namespace Go.Proofs.Ytdieplpegkiolaa
open Go.RowKit
set_option linter.unusedVariables false
set_option maxRecDepth 100000

end Go.Proofs.Ytdieplpegkiolaa
namespace Go.Proofs.Ytdieplpegkiolaa
open Go.RowKit
set_option linter.unusedVariables false
set_option maxRecDepth 100000

end Go.Proofs.Ytdieplpegkiolaa
namespace Go.Proofs.Ytdieplpegkiolaa
open Go.RowKit
set_option linter.unusedVariables false
set_option maxRecDepth 100000

end Go.Proofs.Ytdieplpegkiolaa
namespace Go.Proofs.Ytdieplpegkiolaa
open Go.RowKit
set_option linter.unusedVariables false
set_option maxRecDepth 100000

theorem take_snocP (l : List PP) (k : Nat) (d : PP) (h : k < l.length) : l.take (k + 1) = l.take k ++ [l.getD k d] := by
  rw [List.take_succ_eq_append_getElem h]
  simp [List.getD, h]

theorem heap_setCell_at {w : World} {b t : Nat} {cs : Array Value} (h : w.heap[b]? = some (.cells cs t (0, 0))) (o : Nat) (v : Value) : (w.setCell ⟨b, o, none⟩ v).heap[b]? = some (.cells (cs.setIfInBounds o v) t (0, 0)) := by
  obtain ⟨hlt, hk⟩ := Array.getElem?_eq_some_iff.1 h
  show (w.heap.modify b _)[b]? = _
  rw [Array.getElem?_eq_getElem (by rw [Array.size_modify]; exact hlt), Array.getElem_modify_self, hk]
  rfl

theorem cell_three_new (w : World) (a b c : Value) (t : TypeId) : ∀ j u, [a, b, c][j]? = some u → (w.alloc (.cells #[a, b, c] t)).cell? ((⟨w.heap.size, 0, none⟩ : Addr).add j) = some u := by
  intro j u h
  match j, h with
  | 0, h => simpa [Addr.add] using h
  | 1, h => simpa [Addr.add] using h
  | 2, h => simpa [Addr.add] using h
theorem fr_setCell (w : World) (b o : Nat) (v : Value) : Fr (fun k => k = b) w (w.setCell ⟨b, o, none⟩ v) :=
  ⟨rfl, rfl, rfl, by simp [World.setCell], fun k _ hk => by
    show (w.heap.modify b _)[k]? = _
    rw [Array.getElem?_modify, if_neg (fun e => hk e.symm)]⟩

theorem box_after {w w' : World} {b t : Nat} {cs : Array Value} {row : Option Nat} (h : w.heap[b]? = some (.cells cs t (0, 0))) (hg : w.grownBy w' row) (hb : b < w.heap.size) (hr : ∀ g, row = some g → b ≠ g) : w'.heap[b]? = some (.cells cs t (0, 0)) ∧ ∀ o, w'.frozen? ⟨b, o, none⟩ = false := by
  have e : w'.heap[b]? = some (.cells cs t (0, 0)) := (hg.block b hb (fun e => hr b e.symm rfl)).trans h
  exact ⟨e, fun o => by simp [World.frozen?, e]⟩

end Go.Proofs.Ytdieplpegkiolaa
