import Derived.Test.YtmmdkjeoadlikaaOwn
import Derived.Deep.QuietTactic
import Derived.BigQuiet
import Derived.WalkLawsBesides
namespace Go.Proofs.Ytmmdkjeoadlikaa
open Go.RowKit
set_option linter.unusedVariables false
set_option maxRecDepth 100000

theorem below_alloc' {wr w1 : World} {o : Obj} (h1 : w1.os = wr.os) (h2 : w1.tape = wr.tape) (h3 : w1.output = wr.output) (h4 : w1.heap = wr.heap.push o) : Below wr.heap.size wr w1 :=
  ⟨h1, h2, h3, by rw [h4]; simp, fun k hk => by rw [h4, Array.getElem?_push, if_neg (by omega)]⟩
theorem grown_below {S : Nat} {w wr w1 w2 : World} {row : Option Nat} (hbel : Below S w wr) (h1 : Below wr.heap.size wr w1) (hgr : w1.grownBy w2 row) (hS : S ≤ wr.heap.size) (hr : ∀ k, row = some k → S ≤ k) : Below S w w2 :=
  (hbel.trans (h1.mono hS)).grown hgr (Nat.le_trans hS h1.size) hr
theorem grown_box {S : Nat} {wr w1 w2 : World} {row : Option Nat} {o : Obj} (hbox : wr.heap[S]? = some o) (h1 : Below wr.heap.size wr w1) (hgr : w1.grownBy w2 row) (hr : ∀ k, row = some k → S < k) : w2.heap[S]? = some o := by
  have hS : S < wr.heap.size := (Array.getElem?_eq_some_iff.1 hbox).1
  rw [hgr.block S (Nat.lt_of_lt_of_le hS h1.size) (fun e => by have := hr S e.symm; omega), h1.block S hS, hbox]

theorem app_after {S : Nat} {w wr w1 w2 : World} {row : Option Nat} {o ob : Obj} (hgr : w1.grownBy w2 row) (e1 : w1.os = wr.os) (e2 : w1.tape = wr.tape) (e3 : w1.output = wr.output) (e4 : w1.heap = wr.heap.push o) (hbel : Below S w wr) (hS : S + 1 ≤ wr.heap.size) (hbox : wr.heap[S]? = some ob) (hr : ∀ k, row = some k → S + 1 ≤ k) :
    Below S w w2 ∧ w2.heap[S]? = some ob ∧ S + 1 ≤ w2.heap.size := by
  have hB1 := below_alloc' e1 e2 e3 e4
  exact ⟨grown_below hbel hB1 hgr (by omega) (fun g hg => by have := hr g hg; omega), grown_box hbox hB1 hgr (fun g hg => hr g hg), by have := hgr.size; have := hB1.size; omega⟩

/-- 'a > b' on names. -/
def gtB (a b : ByteArray) : Bool := !Op.bytesLess a.toList b.toList && !(a.toList == b.toList)

theorem own_lower {w : World} {b b' e size : Nat} {v : Value} {n : Nat} {xs : List Value} (h : w.ownsRow b e size v n xs) (hb : b' ≤ b) : w.ownsRow b' e size v n xs := by
  refine ⟨h.1, ?_⟩
  rcases h.2 with hn | ⟨g, cap, cur, e1, e2, e3⟩
  · exact .inl hn
  · exact .inr ⟨g, cap, cur, e1, Nat.le_trans hb e2, e3⟩

/-- A row of files as cells. -/
def RowF (w : World) (B : Nat) (a : Option Addr) (n c : Nat) (xs : List Value) (nms : Nat → ByteArray) : Prop :=
  xs.length = n * 2 ∧ n ≤ c ∧ c ≤ maxLen ∧ (∀ i, i < n → xs[i * 2]? = some (.string (nms i)) ∧ ∃ a' n' c', xs[i * 2 + 1]? = some (.slice a' n' c')) ∧ (0 < n → ∃ b off, a = some ⟨b, off, none⟩ ∧ b < B ∧ ∀ j, j < n * 2 → w.cell? ⟨b, off + j, none⟩ = xs[j]?)

theorem take_two (xs : List Value) (k : Nat) (u v : Value) (h1 : xs[k * 2]? = some u) (h2 : xs[k * 2 + 1]? = some v) : xs.take ((k + 1) * 2) = xs.take (k * 2) ++ [u, v] := by
  obtain ⟨l1, e1⟩ := List.getElem?_eq_some_iff.1 h1
  obtain ⟨l2, e2⟩ := List.getElem?_eq_some_iff.1 h2
  rw [show (k + 1) * 2 = k * 2 + 1 + 1 by omega, List.take_succ_eq_append_getElem l2, List.take_succ_eq_append_getElem l1, e1, e2]
  simp

/-- Where the walk of l1Insert stands after k rounds. -/
def InsAt (xs : List Value) (nms : Nat → ByteArray) (nm : ByteArray) (u : Value) (k : Nat) (t : Bool) (m : Nat) (ys : List Value) : Prop :=
  (t = false ∧ m = k ∧ ys = xs.take (k * 2) ∧ ∀ i, i < k → gtB (nms i) nm = false) ∨
  (t = true ∧ m = k + 1 ∧ ∃ p, p < k ∧ gtB (nms p) nm = true ∧ (∀ i, i < p → gtB (nms i) nm = false) ∧ ys = xs.take (p * 2) ++ [.string nm, u] ++ (xs.take (k * 2)).drop (p * 2))

theorem InsAt.go {xs : List Value} {nms : Nat → ByteArray} {nm : ByteArray} {u : Value} {k : Nat} {t : Bool} {m : Nat} {ys : List Value} {x y : Value} (h : InsAt xs nms nm u k t m ys) (h1 : xs[k * 2]? = some x) (h2 : xs[k * 2 + 1]? = some y) (hc : t = true ∨ gtB (nms k) nm = false) :
    InsAt xs nms nm u (k + 1) t (m + 1) (ys ++ [x, y]) := by
  have ht := take_two xs k x y h1 h2
  have hlen : k * 2 ≤ xs.length := by
    have := (List.getElem?_eq_some_iff.1 h1).1; omega
  rcases h with ⟨rfl, rfl, rfl, h⟩ | ⟨rfl, rfl, p, hp, hg, h, rfl⟩
  · rcases hc with hc | hc
    · cases hc
    · refine .inl ⟨rfl, rfl, ht.symm, fun i hi => ?_⟩
      by_cases hik : i = m
      · subst hik; exact hc
      · exact h i (by omega)
  · refine .inr ⟨rfl, rfl, p, by omega, hg, h, ?_⟩
    rw [ht, List.drop_append_of_le_length (by simp; omega)]
    simp
theorem InsAt.put {xs : List Value} {nms : Nat → ByteArray} {nm : ByteArray} {u : Value} {k : Nat} {m : Nat} {ys : List Value} {x y : Value} (h : InsAt xs nms nm u k false m ys) (h1 : xs[k * 2]? = some x) (h2 : xs[k * 2 + 1]? = some y) (hc : gtB (nms k) nm = true) :
    InsAt xs nms nm u (k + 1) true (m + 1 + 1) (ys ++ [.string nm, u] ++ [x, y]) := by
  have ht := take_two xs k x y h1 h2
  have hlen : k * 2 ≤ xs.length := by
    have := (List.getElem?_eq_some_iff.1 h1).1; omega
  rcases h with ⟨_, rfl, rfl, h⟩ | ⟨h, _⟩
  · refine .inr ⟨rfl, rfl, m, by omega, hc, h, ?_⟩
    rw [ht, List.drop_append_of_le_length (by simp; omega)]
    simp
  · cases h

/-- Where a new name goes. -/
def insPos (n : Nat) (nms : Nat → ByteArray) (nm : ByteArray) (p : Nat) : Prop := p ≤ n ∧ (∀ i, i < p → gtB (nms i) nm = false) ∧ (p < n → gtB (nms p) nm = true)

def InsRes (w w' : World) (n : Nat) (xs : List Value) (nms : Nat → ByteArray) (nm : ByteArray) (u v' : Value) : Prop :=
  ∃ p, insPos n nms nm p ∧ w'.ownsRow w.heap.size 83 2 v' (n + 1) (xs.take (p * 2) ++ [.string nm, u] ++ xs.drop (p * 2)) ∧ Below w.heap.size w w'

set_option maxHeartbeats 1000000 in
theorem l1Insert_any (a : Option Addr) (n c : Nat) (xs : List Value) (nms : Nat → ByteArray) (nm : ByteArray) (fa : Option Addr) (fn fc : Nat) (w : World) (B : Nat) (hB : B ≤ w.heap.size) (h : RowF w B a n c xs nms) (hn : n ≤ 1048576) :
    Calls Try.prog 54 #[.slice a n c, .agg #[.string nm, .slice fa fn fc]] w fun e w' => ∃ v', e = .returned v' ∧ InsRes w w' n xs nms nm (.slice fa fn fc) v' := by
  obtain ⟨hl, hnc, hc, hx, hcell⟩ := h
  obtain ⟨i0, hi, hz0, hz1, hz2⟩ := info_parts info_File
  go_enter Try.func54, Try.ntmps54
  go_wp2
  go_loopw [5, 6, 7] (fun v t i wr => ∃ (k m : Nat) (tb : Bool) (ys : List Value), k ≤ n ∧ i = .int .i64 k ∧ t = .bool tb ∧ wr.ownsRow (w.heap.size + 1) 83 2 v m ys ∧ InsAt xs nms nm (.slice fa fn fc) k tb m ys ∧ Below w.heap.size w wr ∧ wr.heap[w.heap.size]? = some (.cells #[.string nm, .slice fa fn fc] 83) ∧ w.heap.size + 1 ≤ wr.heap.size) (fun _ _ i _ => n - (intOf i).toNat)
  case atStart =>
    refine ⟨0, 0, false, [], Nat.zero_le _, rfl, rfl, ?_, .inl ⟨rfl, rfl, by simp, fun i hi => absurd hi (Nat.not_lt_zero _)⟩, ((Below.refl _ _).alloc (Nat.le_refl _) _).alloc (by simp) _, ?_, by simp⟩
    · have := World.ownsRow_made (base := w.heap.size + 1) (e := 83) (size := 2) (w.alloc (.cells #[.string nm, .slice fa fn fc] 83)) #[] 0 (by simp) (by unfold maxLen; omega) (by simp)
      simpa using this
    · rw [Below.heap_alloc _ _ _ (by simp)]; exact heap_alloc_new w _
  case round =>
    obtain ⟨k, m, tb, ys, hk, rfl, rfl, hown, hI, hbel, hbox, hsz⟩ := hrel
    have hm : m ≤ k + 1 := by rcases hI with ⟨_, h, _⟩ | ⟨_, h, _⟩ <;> omega
    have q0 : wr.cell? ⟨w.heap.size, 0, none⟩ = some (.string nm) := by rw [cell_of_row wr w.heap.size 0 _ _ _ hbox]; rfl
    have q1 : wr.cell? ⟨w.heap.size, 1, none⟩ = some (.slice fa fn fc) := by rw [cell_of_row wr w.heap.size 1 _ _ _ hbox]; rfl
    by_cases hlt : k < n
    · obtain ⟨b, off, rfl, hb, hcb⟩ := hcell (by omega)
      obtain ⟨x1, a', n', c', x2⟩ := hx k hlt
      have HE1 : Hid (w.cell? ⟨b, off + k * 2, none⟩ = some (.string (nms k))) := (hcb (k * 2) (by omega)).trans x1
      have HE2 : Hid (w.cell? ⟨b, off + k * 2 + 1, none⟩ = some (.slice a' n' c')) := (hcb (k * 2 + 1) (by omega)).trans x2
      have hbw : b < w.heap.size := by omega
      have e1 : wr.cell? ⟨b, off + k * 2, none⟩ = some (.string (nms k)) := (hbel.cell (p := ⟨b, off + k * 2, none⟩) (by show b < _; omega)).trans ((hcb (k * 2) (by omega)).trans x1)
      have e2 : wr.cell? ⟨b, off + k * 2 + 1, none⟩ = some (.slice a' n' c') := (hbel.cell (p := ⟨b, off + k * 2 + 1, none⟩) (by show b < _; omega)).trans ((hcb (k * 2 + 1) (by omega)).trans x2)
      have hbk : b < wr.heap.size := by omega
      clear hcb hx hcell
      have hI1 := fun (hc : tb = true ∨ gtB (nms k) nm = false) => InsAt.go hI x1 x2 hc
      have HI1 : Hid (tb = true ∨ gtB (nms k) nm = false → InsAt xs nms nm (.slice fa fn fc) (k + 1) tb (m + 1) (ys ++ [.string (nms k), .slice a' n' c'])) := hI1
      clear hI1
      rcases tb with _ | _
      · by_cases hg : gtB (nms k) nm = true
        · have R := InsAt.put hI x1 x2 hg
          have hg' : (!Op.bytesLess (nms k).toList nm.toList && !((nms k).toList == nm.toList)) = true := by simpa [gtB] using hg
          clear HI1 hI
          go_wp2
          go_quiet (fail)
          go_wp2_with (first | (at_builtin; refine wpList_append_own _ rfl (.tmp 27) (.tmp 29) 29 rfl (w.heap.size + 1) 83 i0 _ 2 40 Try.underlying29 hi hz0 hz1 hz2 rfl (by decide) u5 m ys rfl (hown.alloc _) ⟨wr.heap.size, 0, none⟩ 1 1 [.string nm, .slice fa fn fc] rfl rfl (cell_two_new _ _ _ _) (by simp [Value.oneCell']) (by unfold maxLen; omega) (by omega) (by simp; omega) ?_; intro v1 w1 hown1 hgr1 _; obtain ⟨hb3, hx3, hs3⟩ := app_after (wr := wr) hgr1 rfl rfl rfl rfl hbel hsz hbox (fun g hg => (hown.lt g hg).1); have f1 := (hb3.cell (p := ⟨b, off + k * 2, none⟩) hbw).trans HE1.out; have f2 := (hb3.cell (p := ⟨b, off + k * 2 + 1, none⟩) hbw).trans HE2.out) | (at_builtin; refine wpList_append_own _ rfl (.tmp 31) (.tmp 36) 29 rfl (w.heap.size + 1) 83 i0 _ 2 40 Try.underlying29 hi hz0 hz1 hz2 rfl (by decide) v1 (m + 1) (ys ++ [.string nm, .slice fa fn fc]) rfl (hown1.alloc _) ⟨w1.heap.size, 0, none⟩ 1 1 [.string (nms k), .slice a' n' c'] rfl rfl (cell_two_new _ _ _ _) (by simp [Value.oneCell']) (by unfold maxLen; omega) (by omega) (by simp; omega) ?_; intro v2 w2 hown2 hgr2 _))
          obtain ⟨hb4, hx4, hs4⟩ := app_after (wr := w1) hgr2 rfl rfl rfl rfl hb3 hs3 hx3 (fun g hg => (hown1.lt g hg).1)
          clear hgr1 hgr2 hown hown1 hbel hb3
          go_wp2
          go_roundw
          case rel => exact ⟨k + 1, _, _, _, by omega, by go_num, rfl, hown2, R, hb4, hx4, hs4⟩
          case measure => simp [intOf]; omega
        · have R := HI1.out (.inr (by simpa using hg))
          have hg' : (!Op.bytesLess (nms k).toList nm.toList && !((nms k).toList == nm.toList)) = false := by simpa [gtB] using hg
          clear HI1 hI
          go_wp2
          go_quiet (fail)
          go_wp2_with (at_builtin; refine wpList_append_own _ rfl (.tmp 31) (.tmp 36) 29 rfl (w.heap.size + 1) 83 i0 _ 2 40 Try.underlying29 hi hz0 hz1 hz2 rfl (by decide) u5 m ys rfl (hown.alloc _) ⟨wr.heap.size, 0, none⟩ 1 1 [.string (nms k), .slice a' n' c'] rfl rfl (cell_two_new _ _ _ _) (by simp [Value.oneCell']) (by unfold maxLen; omega) (by omega) (by simp; omega) ?_; intro v' w2 hown' hgr _)
          obtain ⟨hb3, hx3, hs3⟩ := app_after (wr := wr) hgr rfl rfl rfl rfl hbel hsz hbox (fun g hg => (hown.lt g hg).1)
          clear hgr hown hbel
          go_wp2
          go_roundw
          case rel => exact ⟨k + 1, _, _, _, by omega, by go_num, rfl, hown', R, hb3, hx3, hs3⟩
          case measure => simp [intOf]; omega
      · have R := HI1.out (.inl rfl)
        clear HI1 hI
        go_wp2
        go_quiet (fail)
        go_wp2_with (at_builtin; refine wpList_append_own _ rfl (.tmp 31) (.tmp 36) 29 rfl (w.heap.size + 1) 83 i0 _ 2 40 Try.underlying29 hi hz0 hz1 hz2 rfl (by decide) u5 m ys rfl (hown.alloc _) ⟨wr.heap.size, 0, none⟩ 1 1 [.string (nms k), .slice a' n' c'] rfl rfl (cell_two_new _ _ _ _) (by simp [Value.oneCell']) (by unfold maxLen; omega) (by omega) (by simp; omega) ?_; intro v' w2 hown' hgr _)
        obtain ⟨hb3, hx3, hs3⟩ := app_after (wr := wr) hgr rfl rfl rfl rfl hbel hsz hbox (fun g hg => (hown.lt g hg).1)
        clear hgr hown hbel
        go_wp2
        go_roundw
        case rel => exact ⟨k + 1, _, _, _, by omega, by go_num, rfl, hown', R, hb3, hx3, hs3⟩
        case measure => simp [intOf]; omega
    · rcases tb with _ | _
      · rcases hI with ⟨_, rfl, rfl, hno⟩ | ⟨h, _⟩
        · have hkn : m = n := by omega
          have HN : Hid (insPos n nms nm m) := ⟨by omega, hno, fun h => absurd h (by omega)⟩
          have HX : Hid (xs.take (m * 2) ++ [.string nm, .slice fa fn fc] ++ xs.drop (m * 2) = xs.take (m * 2) ++ [.string nm, .slice fa fn fc]) := by
            show _ = _
            rw [List.drop_eq_nil_of_le (by omega)]; simp
          clear hno
          go_wp2_with (at_builtin; refine wpList_append_own _ rfl (.tmp 40) (.tmp 42) 29 rfl (w.heap.size + 1) 83 i0 _ 2 40 Try.underlying29 hi hz0 hz1 hz2 rfl (by decide) u5 m (xs.take (m * 2)) rfl (hown.alloc _) ⟨wr.heap.size, 0, none⟩ 1 1 [.string nm, .slice fa fn fc] rfl rfl (cell_two_new _ _ _ _) (by simp [Value.oneCell']) (by unfold maxLen; omega) (by omega) (by simp; omega) ?_; intro v' w2 hown' hgr _)
          obtain ⟨hb3, hx3, hs3⟩ := app_after (wr := wr) hgr rfl rfl rfl rfl hbel hsz hbox (fun g hg => (hown.lt g hg).1)
          clear hgr hown hbel
          go_wp2
          go_ret
          refine ⟨v', rfl, m, HN.out, ?_, hb3⟩
          rw [HX.out]
          subst hkn
          exact own_lower hown' (by omega)
        · cases h
      · rcases hI with ⟨h, _⟩ | ⟨_, rfl, p, hp, hg, hno, rfl⟩
        · cases h
        · have hkn : k = n := by omega
          go_wp2
          go_ret
          refine ⟨u5, rfl, p, ⟨by omega, hno, fun _ => hg⟩, ?_, hbel⟩
          subst hkn
          rw [show xs.take (k * 2) = xs from List.take_of_length_le (by omega)] at hown
          exact own_lower hown (by omega)
end Go.Proofs.Ytmmdkjeoadlikaa
