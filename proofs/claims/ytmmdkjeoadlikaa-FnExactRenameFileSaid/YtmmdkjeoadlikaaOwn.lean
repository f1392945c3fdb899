import Derived.Test.YtmmdkjeoadlikaaPlain
import Derived.Test.YtmmdkjeoadlikaaTo
import Derived.Test.YtmmdkjeoadlikaaRd
import Derived.Test.YtmmdkjeoadlikaaChecked
import Derived.OwnWalk
import Derived.Laws.AppendOwnNone
import Derived.Deep.RegionLaw
namespace Go.Proofs.Ytmmdkjeoadlikaa
open Go.RowKit
set_option linter.unusedVariables false
set_option maxRecDepth 100000



set_option maxHeartbeats 400000 in
theorem l1Bytes_any' (a : Option Addr) (n c : Nat) (bs : List Int) (w : World) (A B : Nat) (hB : B ≤ w.heap.size) (h : BytesAt w A B a n c bs) (hn : n ≤ 1073741824) :
    Calls Try.prog 48 #[.slice a n c] w fun e w' => ∃ v, e = .returned v ∧ w'.ownsRow w.heap.size 5 1 v n (u8s bs) ∧ Below w.heap.size w w' := by
  obtain ⟨hl, hnc, hc, hw, hcell, hnil⟩ := h
  obtain ⟨i0, hi, hz0, hz1, hz2⟩ := info_parts info_u8
  have hown : (w.alloc (.cells #[] 5)).ownsRow w.heap.size 5 1 (.slice (some ⟨w.heap.size, 0, none⟩) 0 0) 0 [] := World.ownsRow_made w #[] 0 (Nat.le_refl _) (by unfold maxLen; omega) (by simp)
  have hb0 : Below w.heap.size w (w.alloc (.cells #[] 5)) := (Below.refl _ _).alloc (Nat.le_refl _) _
  rcases a with _ | ad
  · have hn0 : n = 0 := by
      by_cases h0 : n = 0
      · exact h0
      · obtain ⟨_, _, h1, _⟩ := hcell (by omega); cases h1
    subst hn0
    have hc0 := hnil rfl
    subst hc0
    go_enter Try.func48, Try.ntmps48
    go_wp2_with (at_builtin; refine wpList_append_own_none rfl _ _ 27 rfl w.heap.size 5 i0 1 Try.underlying27 hi _ 0 [] rfl hown rfl ?_)
    go_ret
    exact ⟨_, rfl, by rw [List.eq_nil_of_length_eq_zero hl]; exact hown, hb0⟩
  · have hnews : ∀ j u, (u8s bs)[j]? = some u → (w.alloc (.cells #[] 5)).cell? (ad.add j) = some u := by
      intro j u hj
      have hjn : j < n := by
        have := (List.getElem?_eq_some_iff.1 hj).1
        simp [u8s] at this; omega
      obtain ⟨b, off, h1, h2, h3⟩ := hcell (by omega)
      cases h1
      have h4 := h3 j hjn
      have h5 : (⟨b, off, none⟩ : Addr).add j = ⟨b, off + j, none⟩ := by simp [Addr.add]
      rw [h5, World.cell?_alloc_lt _ _ _ (by show b < _; omega), h4]
      simp [u8s, List.getElem?_map] at hj
      obtain ⟨x, hx, rfl⟩ := hj
      simp [List.getD, hx]
    have HN := hnews
    go_enter Try.func48, Try.ntmps48
    go_wp2_with (at_builtin; refine wpList_append_own _ rfl _ _ 27 rfl w.heap.size 5 i0 (.int .u8 0) 1 1 Try.underlying27 hi hz0 hz1 hz2 rfl (by decide) _ _ _ rfl hown ad n c (u8s bs) rfl ?c1 hnews ?c2 ?c3 ?c4 ?c5 ?_)
    case c1 => simp [u8s, hl]
    case c2 => intro u hu; simp [u8s] at hu; obtain ⟨x, _, rfl⟩ := hu; rfl
    case c3 => unfold maxLen; omega
    case c4 => omega
    case c5 => simp
    intro v' w1 hown' hgr _
    have hb1 := hb0.grown hgr (by simp) (by intro k hk; simp [Value.ownBlock] at hk; omega)
    clear hgr hown hnews
    go_wp2_with fail
    go_ret
    exact ⟨_, rfl, hown', hb1⟩
theorem l1Bytes_any (a : Option Addr) (n c : Nat) (bs : List Int) (w : World) (A B : Nat) (hB : B ≤ w.heap.size) (h : BytesAt w A B a n c bs) (hn : n ≤ 1073741824) :
    Calls Try.prog 48 #[.slice a n c] w fun e w' => ∃ va vc, e = .returned (.slice va n vc) ∧ w'.ownsRow w.heap.size 5 1 (.slice va n vc) n (u8s bs) ∧ Below w.heap.size w w' := by
  refine (l1Bytes_any' a n c bs w A B hB h hn).mono ?_
  rintro e w' ⟨v, rfl, h1, h2⟩
  obtain ⟨va, vc, rfl⟩ := own_shape h1
  exact ⟨va, vc, rfl, h1, h2⟩

/-- A list of files in memory of one's own: the row of the files, and for each a row of its bytes; no two share a block. -/
structure OwnF (w : World) (base : Nat) (v : Value) (fs : List PF) (xs vs : List Value) : Prop where
  row : w.ownsRow base 83 2 v fs.length xs
  len : vs.length = fs.length
  name : ∀ j, j < fs.length → xs[j * 2]? = some (.string (fs.getD j (ByteArray.empty, [])).1) ∧ (fs.getD j (ByteArray.empty, [])).1.size ≤ maxLen
  val : ∀ j, j < fs.length → xs[j * 2 + 1]? = some (vs.getD j (.slice none 0 0))
  data : ∀ j, j < fs.length → w.ownsRow base 5 1 (vs.getD j (.slice none 0 0)) (fs.getD j (ByteArray.empty, [])).2.length (u8s (fs.getD j (ByteArray.empty, [])).2)
  byte : ∀ j, j < fs.length → ∀ x ∈ (fs.getD j (ByteArray.empty, [])).2, 0 ≤ x ∧ x ≤ 255
  apart : ∀ i j, i < j → j < fs.length → ∀ g, (vs.getD i (.slice none 0 0)).ownBlock = some g → (vs.getD j (.slice none 0 0)).ownBlock ≠ some g

theorem OwnF.below {w w' : World} {base : Nat} {v : Value} {fs : List PF} {xs vs : List Value} (h : OwnF w base v fs xs vs) (hb : Below w.heap.size w w') : OwnF w' base v fs xs vs :=
  ⟨owns_below h.row hb, h.len, h.name, h.val, fun j hj => owns_below (h.data j hj) hb, h.byte, h.apart⟩

theorem OwnF.nil {w : World} {base : Nat} {v : Value} (h : w.ownsRow base 83 2 v 0 []) : OwnF w base v [] [] [] :=
  ⟨h, rfl, fun j hj => absurd hj (Nat.not_lt_zero _), fun j hj => absurd hj (Nat.not_lt_zero _), fun j hj => absurd hj (Nat.not_lt_zero _), fun j hj => absurd hj (Nat.not_lt_zero _), fun i j hij hj => absurd hj (Nat.not_lt_zero _)⟩

/-- Rows of files and rows of bytes lie in other blocks. -/
theorem own_ne {w : World} {b1 b2 : Nat} {v u : Value} {n m : Nat} {xs ys : List Value} (h : w.ownsRow b1 83 2 v n xs) (k : w.ownsRow b2 5 1 u m ys) : u.ownBlock = none ∨ u.ownBlock ≠ v.ownBlock := by
  rcases k.2 with ⟨rfl, _⟩ | ⟨g, cap, cur, rfl, _, hg, _⟩
  · exact .inl rfl
  · refine .inr fun e => ?_
    rcases h.2 with ⟨rfl, _⟩ | ⟨g', cap', cur', rfl, _, hg', _⟩
    · simp [Value.ownBlock] at e
    · simp [Value.ownBlock] at e
      subst e
      rw [hg] at hg'
      simp at hg'

theorem getD_snoc_lt {α : Type} (l : List α) (x d : α) (j : Nat) (h : j < l.length) : (l ++ [x]).getD j d = l.getD j d := by
  simp [List.getD, List.getElem?_append_left h]
theorem getD_snoc_eq {α : Type} (l : List α) (x d : α) : (l ++ [x]).getD l.length d = x := by
  simp [List.getD]

/-- One file more, its bytes in a new row. -/
theorem OwnF.push {w0 w1 w2 w3 : World} {base : Nat} {v v' vb : Value} {fs : List PF} {xs vs : List Value} {f : PF} (h : OwnF w0 base v fs xs vs) (hbase : base ≤ w0.heap.size) (hb : Below w0.heap.size w0 w1)
    (hvb : w1.ownsRow w0.heap.size 5 1 vb f.2.length (u8s f.2)) (hs : f.1.size ≤ maxLen) (hby : ∀ x ∈ f.2, 0 ≤ x ∧ x ≤ 255) (hb2 : Below w1.heap.size w1 w2)
    (hrow : w3.ownsRow base 83 2 v' (fs.length + 1) (xs ++ [.string f.1, vb])) (hgr : w2.grownBy w3 v.ownBlock) : OwnF w3 base v' (fs ++ [f]) (xs ++ [.string f.1, vb]) (vs ++ [vb]) := by
  have h1 := (h.below hb).below hb2
  have hvb2 := owns_below hvb hb2
  have hx := h.row.1
  have hbb : w3.ownsRow base 5 1 vb f.2.length (u8s f.2) := by
    have := hvb2.kept hgr (own_ne h1.row hvb2)
    refine ⟨this.1, ?_⟩
    rcases this.2 with hn | ⟨g, cap, cur, e1, e2, e3⟩
    · exact .inl hn
    · exact .inr ⟨g, cap, cur, e1, Nat.le_trans hbase e2, e3⟩
  have hvl := h.len
  refine ⟨by simpa using hrow, by simp [hvl], ?_, ?_, ?_, ?_, ?_⟩
  · intro j hj
    simp at hj
    by_cases hjk : j < fs.length
    · rw [getD_snoc_lt _ _ _ _ hjk, List.getElem?_append_left (by omega)]; exact h.name j hjk
    · obtain rfl : j = fs.length := by omega
      rw [getD_snoc_eq, List.getElem?_append_right (by omega)]
      exact ⟨by simp [hx], hs⟩
  · intro j hj
    simp at hj
    by_cases hjk : j < fs.length
    · rw [getD_snoc_lt _ _ _ _ (by omega), List.getElem?_append_left (by omega)]; exact h.val j hjk
    · obtain rfl : j = fs.length := by omega
      rw [show fs.length = vs.length from hvl.symm, getD_snoc_eq, List.getElem?_append_right (by omega)]
      simp [hx, hvl]
  · intro j hj
    simp at hj
    by_cases hjk : j < fs.length
    · rw [getD_snoc_lt _ _ _ _ (by omega), getD_snoc_lt _ _ _ _ hjk]
      exact (h1.data j hjk).kept hgr (own_ne h1.row (h1.data j hjk))
    · obtain rfl : j = fs.length := by omega
      rw [getD_snoc_eq, show fs.length = vs.length from hvl.symm, getD_snoc_eq]
      exact hbb
  · intro j hj
    simp at hj
    by_cases hjk : j < fs.length
    · rw [getD_snoc_lt _ _ _ _ hjk]; exact h.byte j hjk
    · obtain rfl : j = fs.length := by omega
      rw [getD_snoc_eq]; exact hby
  · intro i j hij hj g hg
    simp at hj
    rw [getD_snoc_lt _ _ _ _ (by omega)] at hg
    by_cases hjk : j < fs.length
    · rw [getD_snoc_lt _ _ _ _ (by omega)]; exact h.apart i j hij hjk g hg
    · obtain rfl : j = fs.length := by omega
      rw [show fs.length = vs.length from hvl.symm, getD_snoc_eq]
      intro e
      have e1 := (hvb.lt g e).1
      have e2 := ((h.data i (by omega)).lt g hg).2
      omega

/-- What is owned so can be read. -/
theorem OwnF.files {w : World} {base : Nat} {v : Value} {fs : List PF} {xs vs : List Value} (h : OwnF w base v fs xs vs) : ∃ a n c, v = .slice a n c ∧ n = fs.length ∧ FilesAt w base w.heap.size a n c fs := by
  rcases h.row.2 with ⟨rfl, hn⟩ | ⟨g, cap, cur, rfl, hb, hg, h1, h2, _⟩
  · exact ⟨none, 0, 0, rfl, hn.symm, hn, Nat.le_refl _, Nat.zero_le _, fun h => absurd h (Nat.lt_irrefl _)⟩
  · refine ⟨some ⟨g, 0, none⟩, fs.length, cap, rfl, rfl, rfl, h1, h2, fun hn => ⟨g, 0, rfl, h.row.lt g rfl, fun i hi => ?_⟩⟩
    obtain ⟨a, n, c, e, hby⟩ := bytesAt_of_own (h.data i hi) (h.byte i hi)
    refine ⟨?_, (h.name i hi).2, a, n, c, ?_, hby⟩
    · rw [Nat.zero_add, h.row.cellAt (i * 2) (by omega)]; exact (h.name i hi).1
    · rw [Nat.zero_add, h.row.cellAt (i * 2 + 1) (by omega), h.val i hi, e]
end Go.Proofs.Ytmmdkjeoadlikaa
