import Derived.Test.YtdieplpegkiolaaGAB
import Derived.Test.YtdieplpegkiolaaGAV
import Derived.Test.YtdieplpegkiolaaRap
namespace Go.Proofs.Ytdieplpegkiolaa
open Go.RowKit
set_option linter.unusedVariables false
set_option maxRecDepth 100000

set_option maxHeartbeats 400000 in
/-- markByteS at bytes of one's own, whatever type their block bears. -/
theorem markByteT_any (ty : TypeId) (a : Option Addr) (n c k base : Nat) (xs : List Value) (w : World) (h : w.ownsRow base ty 1 (.slice a n c) n xs) (hk : k + n ≤ 1099511627776) :
    Calls Try.prog 9 #[.slice a n c, .int .i64 k] w fun e w' => e = .returned (.int .i64 ((k + n : Nat) : Int)) ∧ (w'.ownsRow base ty 1 (.slice a n c) n (u8s (marks k n)) ∧ w.grownBy w' (Value.slice a n c).ownBlock) := by
  go_enter Try.func9, Try.ntmps9
  go_wp2
  go_loopw [1, 5] (fun kv i wr => ∃ (j : Nat) (ys : List Value), j ≤ n ∧ i = .int .i64 j ∧ kv = .int .i64 ((k + j : Nat) : Int) ∧ wr.ownsRow base ty 1 (.slice a n c) n ys ∧ Hid (∀ i, i < j → ys[i]? = some (.int .u8 (((k + i : Nat) : Int) % 256))) ∧ w.grownBy wr (Value.slice a n c).ownBlock) (fun _ i _ => n - (intOf i).toNat)
  case atStart => exact ⟨0, xs, Nat.zero_le _, rfl, rfl, h, fun i hi => absurd hi (Nat.not_lt_zero _), grown_refl _ _⟩
  case round =>
    clear h
    obtain ⟨j, ys, hj, rfl, rfl, hown, hys, hgr⟩ := hrel
    by_cases hlt : j < n
    · obtain ⟨g, rfl⟩ : ∃ g, a = some ⟨g, 0, none⟩ := by
        rcases hown.2 with ⟨_, h0⟩ | ⟨g, cap, cur, h0, _⟩
        · omega
        · injection h0 with h1; exact ⟨g, h1⟩
      have hf := hown.frozenAt j
      have hxl := hown.1
      obtain ⟨u, hu⟩ : ∃ u, wr.cell? ⟨g, j, none⟩ = some u := ⟨ys[j]'(by omega), by rw [hown.cellAt j (by omega)]; exact List.getElem?_eq_getElem _⟩
      obtain ⟨R1, R2⟩ := hown.stored j (.int .u8 (((k : Int) + (j : Int)) % 256))
      have HY : Hid (∀ i, i < j + 1 → (ys.set j (.int .u8 (((k : Int) + (j : Int)) % 256)))[i]? = some (.int .u8 (((k + i : Nat) : Int) % 256))) := by
        intro i hi
        by_cases hij : i = j
        · subst hij; rw [List.getElem?_set_self (by omega)]; simp
        · rw [List.getElem?_set_ne (by omega)]; exact hys.out i (by omega)
      have hgr2 : w.grownBy (wr.setCell ⟨g, j, none⟩ (.int .u8 (((k : Int) + (j : Int)) % 256))) (Value.slice (some ⟨g, 0, none⟩) n c).ownBlock := grown_trans hgr R2
      clear hown R2 hgr
      go_wp2
      go_roundw
      case rel => exact ⟨j + 1, _, by omega, by go_num, by go_num, R1, HY, hgr2⟩
      case measure => simp [intOf]; omega
    · obtain rfl : j = n := by omega
      have HR : Hid (wr.ownsRow base ty 1 (.slice a j c) j (u8s (marks k j))) := by
        have hxl := hown.1
        have e : ys = u8s (marks k j) := by
          apply List.ext_getElem?
          intro i
          by_cases hi : i < j
          · rw [hys.out i hi]; simp [u8s, marks, hi]
          · rw [List.getElem?_eq_none (by omega), List.getElem?_eq_none (by simp [u8s, marks]; omega)]
        rw [← e]; exact hown
      go_wp2
      go_ret
      exact ⟨rfl, HR.out, hgr⟩
end Go.Proofs.Ytdieplpegkiolaa
namespace Go.Proofs.Ytdieplpegkiolaa
open Go.RowKit
set_option linter.unusedVariables false
set_option maxRecDepth 100000

theorem own_to {w w' : World} {base e size : Nat} {v : Value} {n : Nat} {xs : List Value} (h : w.ownsRow base e size v n xs) (hb : ∀ g, v.ownBlock = some g → w'.heap[g]? = w.heap[g]?) : w'.ownsRow base e size v n xs := by
  obtain ⟨h1, h2⟩ := h
  refine ⟨h1, ?_⟩
  rcases h2 with h3 | ⟨g, cap, cur, rfl, h4, h5, h6⟩
  · exact .inl h3
  · exact .inr ⟨g, cap, cur, rfl, h4, (hb g rfl).trans h5, h6⟩
/-- Bytes of one's own, in the blocks from lo to hi. -/
structure RowZ (w : World) (lo hi : Nat) (a : Option Addr) (n c : Nat) (bs : List Int) : Prop where
  row : ∃ ty, w.ownsRow lo ty 1 (.slice a n c) n (u8s bs)
  top : ∀ x, a = some x → x.block < hi
  bys : ∀ x ∈ bs, 0 ≤ x ∧ x ≤ 255
theorem RowZ.mk' {w : World} {lo ty n c : Nat} {a : Option Addr} {bs : List Int} (h : w.ownsRow lo ty 1 (.slice a n c) n (u8s bs)) (hb : ∀ x ∈ bs, 0 ≤ x ∧ x ≤ 255) : RowZ w lo w.heap.size a n c bs :=
  ⟨⟨ty, h⟩, fun x e => by subst e; exact (h.lt _ rfl).2, hb⟩
theorem RowZ.fr {S : Nat → Prop} {w w' : World} {lo hi n c : Nat} {a : Option Addr} {bs : List Int} (h : RowZ w lo hi a n c bs) (hf : Fr S w w') (hS : ∀ g, S g → g < lo ∨ hi ≤ g) : RowZ w' lo hi a n c bs := by
  obtain ⟨⟨ty, h1⟩, h2, h3⟩ := h
  refine ⟨⟨ty, own_to h1 (fun g hg => ?_)⟩, h2, h3⟩
  have h4 := h1.lt g hg
  cases a with
  | none => cases hg
  | some x =>
    have h5 : x.block = g := by simpa [Value.ownBlock] using hg
    have h6 := h2 x rfl
    exact hf.block g h4.2 (fun e => by have := hS g e; omega)
theorem RowZ.below {w w' : World} {lo hi n c : Nat} {a : Option Addr} {bs : List Int} (h : RowZ w lo hi a n c bs) (hb : Below w.heap.size w w') : RowZ w' lo hi a n c bs := h.fr (Fr.of_below (S := fun _ => False) hb) (fun g e => e.elim)
theorem RowZ.bytes {w : World} {lo hi n c : Nat} {a : Option Addr} {bs : List Int} (h : RowZ w lo hi a n c bs) : BytesAt w lo w.heap.size a n c bs := by
  obtain ⟨⟨ty, h1⟩, h2, h3⟩ := h
  have hl : bs.length = n := by have := h1.1; simpa [u8s] using this
  rcases h1.2 with ⟨e, rfl⟩ | ⟨g, cap, cur, e, _⟩
  · simp only [Value.slice.injEq] at e
    obtain ⟨rfl, _, rfl⟩ := e
    exact ⟨hl, Nat.le_refl _, by unfold maxLen; omega, h3, fun h => absurd h (Nat.lt_irrefl _), fun _ => rfl⟩
  · have e2 := e
    simp only [Value.slice.injEq] at e2
    obtain ⟨rfl, _, rfl⟩ := e2
    refine bytes_of_owns h1 hl (fun j hj => ?_) h3
    simp [u8s, List.getD, List.getElem?_eq_getElem (show j < bs.length by omega)]
theorem markByteS_z (a : Option Addr) (n c k lo hi : Nat) (bs : List Int) (w : World) (h : RowZ w lo hi a n c bs) (hk : k + n ≤ 1099511627776) :
    Calls Try.prog 9 #[.slice a n c, .int .i64 k] w fun e w' => e = .returned (.int .i64 ((k + n : Nat) : Int)) ∧ RowZ w' lo hi a n c (marks k n) ∧ Fr (fun g => lo ≤ g ∧ g < hi) w w' := by
  obtain ⟨⟨ty, h1⟩, h2, h3⟩ := h
  refine (markByteT_any ty a n c k lo _ w h1 hk).mono ?_
  rintro e w' ⟨rfl, hO, hg⟩
  refine ⟨rfl, ⟨⟨ty, hO⟩, h2, marks_byte k n⟩, hg.os, hg.tape, hg.output, hg.size, fun g hl hS => hg.block g hl (fun e => ?_)⟩
  have h4 := h1.lt g e.symm
  cases a with
  | none => cases e
  | some x =>
    have h5 : g = x.block := by simpa [Value.ownBlock] using e
    have h6 := h2 x rfl
    exact hS ⟨h4.1, by omega⟩
theorem eqByteS_z (a : Option Addr) (n c : Nat) (a2 : Option Addr) (c2 : Nat) (bs : List Int) (w : World) (lo hi lo2 hi2 : Nat) (h : RowZ w lo hi a n c bs) (k : RowZ w lo2 hi2 a2 n c2 bs) :
    Calls Try.prog 8 #[.slice a n c, .slice a2 n c2] w fun e w' => e = .returned (.bool true) ∧ Below w.heap.size w w' := by
  refine (eqByteS_same a n c a2 c2 bs w _ _ _ _ h.bytes k.bytes).mono ?_
  rintro e w' ⟨rfl, m, rfl⟩
  exact ⟨rfl, rfl, rfl, rfl, Nat.le_refl _, fun _ _ => rfl⟩
end Go.Proofs.Ytdieplpegkiolaa
namespace Go.Proofs.Ytdieplpegkiolaa
open Go.RowKit
set_option linter.unusedVariables false
set_option linter.unusedSimpArgs false
set_option maxRecDepth 100000

/-- A numbered page as plain data. -/
abbrev PN := Int × List Int
/-- One file at an address: its name, then its bytes' slice. -/
def NumIs (w : World) (A B b o : Nat) (f : PN) : Prop :=
  w.cell? ⟨b, o, none⟩ = some (.int .i64 f.1) ∧ True ∧ ∃ a n c, w.cell? ⟨b, o + 1, none⟩ = some (.slice a n c) ∧ BytesAt w A B a n c f.2
def NumsAt (w : World) (A B : Nat) (a : Option Addr) (n c : Nat) (fs : List PN) : Prop :=
  fs.length = n ∧ n ≤ c ∧ c ≤ maxLen ∧ (0 < n → ∃ b off, a = some ⟨b, off, none⟩ ∧ (A ≤ b ∧ b < B) ∧ ∀ i, i < n → NumIs w A B b (off + i * 2) (fs.getD i (0, [])))
theorem NumIs.keep {w w' : World} {A B b o : Nat} {f : PN} (h : NumIs w A B b o f) (hlt : A ≤ b ∧ b < B) (hk : Keeps A B w w') : NumIs w' A B b o f := by
  obtain ⟨h1, h2, a, n, c, h3, hz⟩ := h
  exact ⟨(hk.cell hlt.1 hlt.2).trans h1, h2, a, n, c, (hk.cell hlt.1 hlt.2).trans h3, hz.keep hk⟩
theorem NumIs.below {w w' : World} {A B b o : Nat} {f : PN} (h : NumIs w A B b o f) (hlt : A ≤ b ∧ b < B) (hb : Below B w w') : NumIs w' A B b o f := h.keep hlt (.of_below hb)
theorem NumIs.up {w : World} {A B A' B' b o : Nat} {f : PN} (h : NumIs w A B b o f) (hA : A' ≤ A) (hB : B ≤ B') : NumIs w A' B' b o f := by
  obtain ⟨h1, h2, a, n, c, h3, hz⟩ := h
  exact ⟨h1, h2, a, n, c, h3, hz.up hA hB⟩
theorem NumsAt.keep {w w' : World} {A B : Nat} {a : Option Addr} {n c : Nat} {fs : List PN} (h : NumsAt w A B a n c fs) (hk : Keeps A B w w') : NumsAt w' A B a n c fs := by
  obtain ⟨h1, h2, h3, h4⟩ := h
  refine ⟨h1, h2, h3, fun hn => ?_⟩
  obtain ⟨b, off, rfl, hlt, hc⟩ := h4 hn
  exact ⟨b, off, rfl, hlt, fun i hi => (hc i hi).keep hlt hk⟩
theorem NumsAt.below {w w' : World} {A B : Nat} {a : Option Addr} {n c : Nat} {fs : List PN} (h : NumsAt w A B a n c fs) (hb : Below B w w') : NumsAt w' A B a n c fs := h.keep (.of_below hb)
theorem NumsAt.up {w : World} {A B A' B' : Nat} {a : Option Addr} {n c : Nat} {fs : List PN} (h : NumsAt w A B a n c fs) (hA : A' ≤ A) (hB : B ≤ B') : NumsAt w A' B' a n c fs := by
  obtain ⟨h1, h2, h3, h4⟩ := h
  refine ⟨h1, h2, h3, fun hn => ?_⟩
  obtain ⟨b, off, rfl, hlt, hc⟩ := h4 hn
  exact ⟨b, off, rfl, ⟨by omega, by omega⟩, fun i hi => (hc i hi).up hA hB⟩
/-- A list of files in memory of one's own: the row of the files, and for each a row of its bytes; no two share a block. -/
structure OwnN (w : World) (base : Nat) (v : Value) (fs : List PN) (xs vs : List Value) : Prop where
  row : w.ownsRow base 41 2 v fs.length xs
  len : vs.length = fs.length
  name : ∀ j, j < fs.length → xs[j * 2]? = some (.int .i64 (fs.getD j (0, [])).1) ∧ True
  val : ∀ j, j < fs.length → xs[j * 2 + 1]? = some (vs.getD j (.slice none 0 0))
  data : ∀ j, j < fs.length → w.ownsRow base 5 1 (vs.getD j (.slice none 0 0)) (fs.getD j (0, [])).2.length (u8s (fs.getD j (0, [])).2)
  byte : ∀ j, j < fs.length → ∀ x ∈ (fs.getD j (0, [])).2, 0 ≤ x ∧ x ≤ 255
  apart : ∀ i j, i < j → j < fs.length → ∀ g, (vs.getD i (.slice none 0 0)).ownBlock = some g → (vs.getD j (.slice none 0 0)).ownBlock ≠ some g
theorem OwnN.below {w w' : World} {base : Nat} {v : Value} {fs : List PN} {xs vs : List Value} (h : OwnN w base v fs xs vs) (hb : Below w.heap.size w w') : OwnN w' base v fs xs vs :=
  ⟨owns_below h.row hb, h.len, h.name, h.val, fun j hj => owns_below (h.data j hj) hb, h.byte, h.apart⟩
theorem OwnN.nil {w : World} {base : Nat} {v : Value} (h : w.ownsRow base 41 2 v 0 []) : OwnN w base v [] [] [] :=
  ⟨h, rfl, fun j hj => absurd hj (Nat.not_lt_zero _), fun j hj => absurd hj (Nat.not_lt_zero _), fun j hj => absurd hj (Nat.not_lt_zero _), fun j hj => absurd hj (Nat.not_lt_zero _), fun i j hij hj => absurd hj (Nat.not_lt_zero _)⟩
/-- Rows of files and rows of bytes lie in other blocks. -/
theorem own_neN {w : World} {b1 b2 : Nat} {v u : Value} {n m : Nat} {xs ys : List Value} (h : w.ownsRow b1 41 2 v n xs) (k : w.ownsRow b2 5 1 u m ys) : u.ownBlock = none ∨ u.ownBlock ≠ v.ownBlock := by
  rcases k.2 with ⟨rfl, _⟩ | ⟨g, cap, cur, rfl, _, hg, _⟩
  · exact .inl rfl
  · refine .inr fun e => ?_
    rcases h.2 with ⟨rfl, _⟩ | ⟨g', cap', cur', rfl, _, hg', _⟩
    · simp [Value.ownBlock] at e
    · simp [Value.ownBlock] at e
      subst e
      rw [hg] at hg'
      simp at hg'
/-- One file more, its bytes in a new row. -/
theorem OwnN.push {w0 w1 w2 w3 : World} {base : Nat} {v v' vb : Value} {fs : List PN} {xs vs : List Value} {f : PN} (h : OwnN w0 base v fs xs vs) (hbase : base ≤ w0.heap.size) (hb : Below w0.heap.size w0 w1)
    (hvb : w1.ownsRow w0.heap.size 5 1 vb f.2.length (u8s f.2)) (hs : True) (hby : ∀ x ∈ f.2, 0 ≤ x ∧ x ≤ 255) (hb2 : Below w1.heap.size w1 w2)
    (hrow : w3.ownsRow base 41 2 v' (fs.length + 1) (xs ++ [.int .i64 f.1, vb])) (hgr : w2.grownBy w3 v.ownBlock) : OwnN w3 base v' (fs ++ [f]) (xs ++ [.int .i64 f.1, vb]) (vs ++ [vb]) := by
  have h1 := (h.below hb).below hb2
  have hvb2 := owns_below hvb hb2
  have hx := h.row.1
  have hbb : w3.ownsRow base 5 1 vb f.2.length (u8s f.2) := by
    have := hvb2.kept hgr (own_neN h1.row hvb2)
    refine ⟨this.1, ?_⟩
    rcases this.2 with hn | ⟨g, cap, cur, e1, e2, e3⟩
    · exact .inl hn
    · exact .inr ⟨g, cap, cur, e1, Nat.le_trans hbase e2, e3⟩
  have hvl := h.len
  refine ⟨by simpa using hrow, by simp [hvl], ?_, ?_, ?_, ?_, ?_⟩
  · intro j hj
    simp at hj
    by_cases hjk : j < fs.length
    · rw [getD_snoc_lt _ _ _ _ hjk, List.getElem?_append_left (by omega)]; exact h.name j hjk
    · obtain rfl : j = fs.length := by omega
      rw [getD_snoc_eq, List.getElem?_append_right (by omega)]
      exact ⟨by simp [hx], hs⟩
  · intro j hj
    simp at hj
    by_cases hjk : j < fs.length
    · rw [getD_snoc_lt _ _ _ _ (by omega), List.getElem?_append_left (by omega)]; exact h.val j hjk
    · obtain rfl : j = fs.length := by omega
      rw [show fs.length = vs.length from hvl.symm, getD_snoc_eq, List.getElem?_append_right (by omega)]
      simp [hx, hvl]
  · intro j hj
    simp at hj
    by_cases hjk : j < fs.length
    · rw [getD_snoc_lt _ _ _ _ (by omega), getD_snoc_lt _ _ _ _ hjk]
      exact (h1.data j hjk).kept hgr (own_neN h1.row (h1.data j hjk))
    · obtain rfl : j = fs.length := by omega
      rw [getD_snoc_eq, show fs.length = vs.length from hvl.symm, getD_snoc_eq]
      exact hbb
  · intro j hj
    simp at hj
    by_cases hjk : j < fs.length
    · rw [getD_snoc_lt _ _ _ _ hjk]; exact h.byte j hjk
    · obtain rfl : j = fs.length := by omega
      rw [getD_snoc_eq]; exact hby
  · intro i j hij hj g hg
    simp at hj
    rw [getD_snoc_lt _ _ _ _ (by omega)] at hg
    by_cases hjk : j < fs.length
    · rw [getD_snoc_lt _ _ _ _ (by omega)]; exact h.apart i j hij hjk g hg
    · obtain rfl : j = fs.length := by omega
      rw [show fs.length = vs.length from hvl.symm, getD_snoc_eq]
      intro e
      have e1 := (hvb.lt g e).1
      have e2 := ((h.data i (by omega)).lt g hg).2
      omega
/-- What is owned so can be read. -/
theorem OwnN.files {w : World} {base : Nat} {v : Value} {fs : List PN} {xs vs : List Value} (h : OwnN w base v fs xs vs) : ∃ a n c, v = .slice a n c ∧ n = fs.length ∧ NumsAt w base w.heap.size a n c fs := by
  rcases h.row.2 with ⟨rfl, hn⟩ | ⟨g, cap, cur, rfl, hb, hg, h1, h2, _⟩
  · exact ⟨none, 0, 0, rfl, hn.symm, hn, Nat.le_refl _, Nat.zero_le _, fun h => absurd h (Nat.lt_irrefl _)⟩
  · refine ⟨some ⟨g, 0, none⟩, fs.length, cap, rfl, rfl, rfl, h1, h2, fun hn => ⟨g, 0, rfl, h.row.lt g rfl, fun i hi => ?_⟩⟩
    obtain ⟨a, n, c, e, hby⟩ := bytesAt_of_own (h.data i hi) (h.byte i hi)
    refine ⟨?_, (h.name i hi).2, a, n, c, ?_, hby⟩
    · rw [Nat.zero_add, h.row.cellAt (i * 2) (by omega)]; exact (h.name i hi).1
    · rw [Nat.zero_add, h.row.cellAt (i * 2 + 1) (by omega), h.val i hi, e]
theorem OwnN.apart2 {w : World} {base : Nat} {v : Value} {fs : List PN} {xs vs : List Value} (h : OwnN w base v fs xs vs) {i j g : Nat} (hij : i ≠ j) (hi : i < fs.length) (hj : j < fs.length) (hg : (vs.getD i (.slice none 0 0)).ownBlock = some g) : (vs.getD j (.slice none 0 0)).ownBlock ≠ some g := by
  by_cases hlt : i < j
  · exact h.apart i j hlt hj g hg
  · intro e
    exact h.apart j i (by omega) hi g e hg
/-- What marking files makes of them, and the number that is next. -/
def markN : Nat → List PN → List PN
  | _, [] => []
  | k, f :: r => ((k : Int), marks (k + 1) f.2.length) :: markN (k + 1 + f.2.length) r
def kN : Nat → List PN → Nat
  | k, [] => k
  | k, f :: r => kN (k + 1 + f.2.length) r
theorem kN_snoc (k : Nat) (l : List PN) (f : PN) : kN k (l ++ [f]) = kN k l + 1 + f.2.length := by
  induction l generalizing k with
  | nil => rfl
  | cons a r ih => simp only [List.cons_append, kN]; exact ih _
theorem markN_snoc (k : Nat) (l : List PN) (f : PN) : markN k (l ++ [f]) = markN k l ++ [(((kN k l : Nat) : Int), marks (kN k l + 1) f.2.length)] := by
  induction l generalizing k with
  | nil => rfl
  | cons a r ih => simp only [List.cons_append, markN, kN]; rw [ih]
theorem markN_length (k : Nat) (l : List PN) : (markN k l).length = l.length := by
  induction l generalizing k with
  | nil => rfl
  | cons a r ih => simp only [markN, List.length_cons, ih]
theorem kN_le (k : Nat) (l : List PN) : k + l.length ≤ kN k l := by
  induction l generalizing k with
  | nil => simp [kN]
  | cons a r ih => have := ih (k + 1 + a.2.length); simp only [kN, List.length_cons]; omega
theorem kN_append (k : Nat) (a b : List PN) : kN k (a ++ b) = kN (kN k a) b := by
  induction a generalizing k with
  | nil => rfl
  | cons x r ih => simp only [List.cons_append, kN]; exact ih _
def stN (k : Nat) (fs : List PN) (j : Nat) : List PN := markN k (fs.take j) ++ fs.drop j
theorem stN_length (k : Nat) (fs : List PN) (j : Nat) (h : j ≤ fs.length) : (stN k fs j).length = fs.length := by
  simp [stN, markN_length]; omega
theorem stN_get (k : Nat) (fs : List PN) (j : Nat) (h : j < fs.length) (d : PN) : (stN k fs j).getD j d = fs[j] := by
  have h1 : (markN k (fs.take j)).length = j := by rw [markN_length, List.length_take]; omega
  simp [stN, List.getD, List.getElem?_append_right, h1, h]
theorem stN_succ (k : Nat) (fs : List PN) (j : Nat) (h : j < fs.length) : stN k fs (j + 1) = (stN k fs j).set j (((kN k (fs.take j) : Nat) : Int), marks (kN k (fs.take j) + 1) fs[j].2.length) := by
  have h1 : (markN k (fs.take j)).length = j := by rw [markN_length, List.length_take]; omega
  unfold stN
  rw [List.set_append_right _ _ (by omega), h1, Nat.sub_self, List.drop_eq_getElem_cons h, List.set_cons_zero, List.take_succ_eq_append_getElem h, markN_snoc]
  simp
theorem kN_take (k : Nat) (fs : List PN) (j : Nat) (h : j < fs.length) : kN k (fs.take (j + 1)) = kN k (fs.take j) + 1 + fs[j].2.length := by
  rw [List.take_succ_eq_append_getElem h, kN_snoc]
theorem kN_take_le (k : Nat) (fs : List PN) (j : Nat) : kN k (fs.take j) ≤ kN k fs := by
  have h1 : kN k fs = kN (kN k (fs.take j)) (fs.drop j) := by rw [← kN_append, List.take_append_drop]
  have := kN_le (kN k (fs.take j)) (fs.drop j)
  omega
/-- A file's name is stored. -/
theorem OwnN.rename {w : World} {base g n c i : Nat} {fs : List PN} {xs vs : List Value} {nm : Int} (h : OwnN w base (.slice (some ⟨g, 0, none⟩) n c) fs xs vs) (hi : i < fs.length) (hs : True) :
    OwnN (w.setCell ⟨g, i * 2, none⟩ (.int .i64 nm)) base (.slice (some ⟨g, 0, none⟩) n c) (fs.set i (nm, (fs.getD i (0, [])).2)) (xs.set (i * 2) (.int .i64 nm)) vs ∧ w.grownBy (w.setCell ⟨g, i * 2, none⟩ (.int .i64 nm)) (some g) := by
  have hvl := h.len
  have hx := h.row.1
  obtain ⟨hn, hrow⟩ : fs.length = n ∧ w.ownsRow base 41 2 (.slice (some ⟨g, 0, none⟩) n c) fs.length xs := by
    refine ⟨?_, h.row⟩
    rcases h.row.2 with ⟨h', _⟩ | ⟨g', cap', cur, h', _⟩
    · simp at h'
    · simp at h'; omega
  subst hn
  obtain ⟨hst, hsg⟩ := hrow.stored (i * 2) (.int .i64 nm)
  have hne : ∀ {b2 m : Nat} {u : Value} {ys : List Value}, w.ownsRow b2 5 1 u m ys → (w.setCell ⟨g, i * 2, none⟩ (.int .i64 nm)).ownsRow b2 5 1 u m ys := fun hk => hk.kept hsg (own_neN hrow hk)
  refine ⟨⟨by simpa using hst, by simp [hvl], ?_, ?_, ?_, ?_, ?_⟩, hsg⟩
  · intro j hj
    simp at hj
    rw [getD_set _ _ _ _ _ hi]
    split
    · rename_i e; subst e; rw [List.getElem?_set_self (by omega)]; exact ⟨rfl, hs⟩
    · rw [List.getElem?_set_ne (by omega)]; exact h.name j hj
  · intro j hj
    simp at hj
    rw [List.getElem?_set_ne (by omega)]; exact h.val j hj
  · intro j hj
    simp at hj
    rw [getD_set _ _ _ _ _ hi]
    split
    · rename_i e; subst e; exact hne (h.data j hj)
    · exact hne (h.data j hj)
  · intro j hj
    simp at hj
    rw [getD_set _ _ _ _ _ hi]
    split
    · rename_i e; subst e; exact h.byte j hj
    · exact h.byte j hj
  · intro a b hab hb k hk
    simp at hb
    exact h.apart a b hab hb k hk
/-- A file's bytes are written over where they lie. -/
theorem OwnN.over {w w' : World} {base i : Nat} {v : Value} {fs : List PN} {xs vs : List Value} {l : List Int} (h : OwnN w base v fs xs vs) (hi : i < fs.length) (hr : w'.ownsRow base 5 1 (vs.getD i (.slice none 0 0)) l.length (u8s l)) (hg : w.grownBy w' (vs.getD i (.slice none 0 0)).ownBlock) (hl : ∀ x ∈ l, 0 ≤ x ∧ x ≤ 255) :
    OwnN w' base v (fs.set i ((fs.getD i (0, [])).1, l)) xs vs := by
  have hvl := h.len
  have hrow := h.row.kept hg (by
      rcases own_neN h.row (h.data i hi) with h1 | h1
      · rw [h1]
        cases v.ownBlock
        · exact .inl rfl
        · exact .inr (by simp)
      · exact .inr (Ne.symm h1))
  refine ⟨by simpa using hrow, by simp [hvl], ?_, ?_, ?_, ?_, ?_⟩
  · intro j hj
    simp at hj
    rw [getD_set _ _ _ _ _ hi]
    split
    · rename_i e; subst e; exact h.name j hj
    · exact h.name j hj
  · intro j hj
    simp at hj
    exact h.val j hj
  · intro j hj
    simp at hj
    rw [getD_set _ _ _ _ _ hi]
    split
    · rename_i e; subst e; exact hr
    · rename_i e
      refine (h.data j hj).kept hg ?_
      cases hb : (vs.getD j (.slice none 0 0)).ownBlock
      · exact .inl rfl
      · exact .inr (fun e2 => h.apart2 (i := j) (j := i) (by omega) hj hi hb e2.symm)
  · intro j hj
    simp at hj
    rw [getD_set _ _ _ _ _ hi]
    split
    · exact hl
    · exact h.byte j hj
  · intro a b hab hb k hk
    simp at hb
    exact h.apart a b hab hb k hk
theorem OwnN.fr {S : Nat → Prop} {w w' : World} {base : Nat} {v : Value} {fs : List PN} {xs vs : List Value} (h : OwnN w base v fs xs vs) (hf : Fr S w w') (hS : ∀ g, Blk v vs g → ¬ S g) : OwnN w' base v fs xs vs :=
  ⟨owns_fr h.row hf (fun g hg => hS g (.inl hg)), h.len, h.name, h.val, fun j hj => owns_fr (h.data j hj) hf (fun g hg => hS g (.inr ⟨j, by rw [h.len]; exact hj, hg⟩)), h.byte, h.apart⟩
theorem markN_get (k : Nat) (fs : List PN) (j : Nat) (h : j < fs.length) (d : PN) : (markN k fs).getD j d = (((kN k (fs.take j) : Nat) : Int), marks (kN k (fs.take j) + 1) fs[j].2.length) := by
  induction fs generalizing k j with
  | nil => simp at h
  | cons a r ih =>
    cases j with
    | zero => simp [markN, kN]
    | succ j =>
      have h' : j < r.length := by simpa using h
      simpa [markN, kN] using ih (k + 1 + a.2.length) j h'
set_option maxHeartbeats 400000 in
theorem eqNum_same (s : Int) (a : Option Addr) (n c : Nat) (a2 : Option Addr) (c2 : Nat) (bs : List Int) (w : World) (A B A2 B2 : Nat) (hB : B ≤ w.heap.size) (hB2 : B2 ≤ w.heap.size) (h : BytesAt w A B a n c bs) (k : BytesAt w A2 B2 a2 n c2 bs) :
    Calls Try.prog 44 #[.agg #[.int .i64 s, .slice a n c], .agg #[.int .i64 s, .slice a2 n c2]] w fun e w' => e = .returned (.bool true) ∧ Below w.heap.size w w' := by
  have hb : ∀ m, Below w.heap.size w (((w.alloc (.cells #[.int .i64 s, .slice a n c] 41)).alloc (.cells #[.int .i64 s, .slice a2 n c2] 41)).drewN m) := by
    intro m
    exact ((Below.refl _ _).alloc (Nat.le_refl _) _ |>.alloc (by simp) _).trans ⟨rfl, rfl, rfl, Nat.le_refl _, fun _ _ => rfl⟩
  go_enter Try.func44, Try.ntmps44
  go_wp2_with fail
  refine (eqByteS_same _ _ _ _ _ bs _ A B A2 B2 (h.below ((hb 0).mono hB)) (k.below ((hb 0).mono hB2))).mono ?_
  rintro e w1 ⟨rfl, m, rfl⟩
  go_wp2_with fail
  go_ret
  exact ⟨rfl, hb _⟩
set_option maxHeartbeats 400000 in
theorem eqNumS_same (a : Option Addr) (n c : Nat) (a2 : Option Addr) (c2 : Nat) (fs : List PN) (w : World) (A B A2 B2 : Nat) (hB : B ≤ w.heap.size) (hB2 : B2 ≤ w.heap.size) (h : NumsAt w A B a n c fs) (k : NumsAt w A2 B2 a2 n c2 fs) :
    Calls Try.prog 27 #[.slice a n c, .slice a2 n c2] w fun e w' => e = .returned (.bool true) ∧ Below w.heap.size w w' := by
  obtain ⟨hl, hnc, hc, hcell⟩ := h
  obtain ⟨_, _, _, kcell⟩ := k
  unfold maxLen at hc
  have hne : ((n : Int) != (n : Int)) = false := by simp
  go_enter Try.func27, Try.ntmps27
  go_wp2
  go_loopw [5] (fun i wr => ∃ k : Nat, k ≤ n ∧ i = .int .i64 k ∧ Below w.heap.size w wr) (fun i _ => n - (intOf i).toNat)
  case atStart => exact ⟨0, Nat.zero_le _, rfl, Below.refl _ _⟩
  case round =>
    obtain ⟨k, hk, rfl, hbel⟩ := hrel
    by_cases hlt : k < n
    · obtain ⟨b, off, rfl, hb, hcb⟩ := hcell (by omega)
      obtain ⟨b2, off2, rfl, hb2, hcb2⟩ := kcell (by omega)
      have e1 := (hcb k hlt).below hb (hbel.mono hB)
      have e2 := (hcb2 k hlt).below hb2 (hbel.mono hB2)
      clear hcell kcell hcb hcb2
      generalize fs.getD k (0, []) = f at e1 e2
      obtain ⟨p1, p2, pa, pn, pc, p3, p4⟩ := e1
      obtain ⟨q1, q2, qa, qn, qc, q3, q4⟩ := e2
      obtain rfl : qn = pn := q4.1.symm.trans p4.1
      have hs := hbel.size
      go_wp2
      go_region_with (go_at_call 44; refine (eqNum_same _ _ _ _ _ _ f.2 _ A B A2 B2 ?_ ?_ ?_ ?_).mono ?_; exact Nat.le_trans hB hs; exact Nat.le_trans hB2 hs; exact p4; exact q4; rintro e w1 ⟨rfl, hb1⟩)
      all_goals
        go_wp2
        go_roundw
        case rel => exact ⟨k + 1, by omega, by go_num, (hbel.drew).trans (hb1.mono hs)⟩
        case measure => simp [intOf]; omega
    · go_wp2
      go_ret
      exact ⟨rfl, hbel⟩
theorem markNum_step {w : World} {base g n c j ln : Nat} {va : Option Addr} {vc : Nat} {fs : List PN} {ys vs : List Value} (nm : Int) (h : OwnN w base (.slice (some ⟨g, 0, none⟩) n c) fs ys vs) (hj : j < fs.length) (hv : vs.getD j (.slice none 0 0) = .slice va ln vc) :
    Hid (OwnN (w.setCell ⟨g, j * 2, none⟩ (.int .i64 nm)) base (.slice (some ⟨g, 0, none⟩) n c) (fs.set j (nm, (fs.getD j (0, [])).2)) (ys.set (j * 2) (.int .i64 nm)) vs ∧ w.grownBy (w.setCell ⟨g, j * 2, none⟩ (.int .i64 nm)) (some g)) ∧
    (∃ u, w.cell? ⟨g, j * 2, none⟩ = some (.int .i64 u)) ∧ (w.setCell ⟨g, j * 2, none⟩ (.int .i64 nm)).cell? ⟨g, j * 2 + 1, none⟩ = some (.slice va ln vc) ∧ w.frozen? ⟨g, j * 2, none⟩ = false := by
  have hn : n = fs.length := by
    rcases h.row.2 with ⟨h', _⟩ | ⟨g', cap', cur, h', _⟩
    · simp at h'
    · simp at h'; omega
  subst hn
  have hr := h.rename (nm := nm) hj trivial
  refine ⟨hr, ⟨(fs.getD j (0, [])).1, ?_⟩, ?_, h.row.frozenAt _⟩
  · rw [h.row.cellAt _ (by omega)]; exact (h.name j hj).1
  · have h2 := hr.1
    have hrow := h2.row
    simp only [List.length_set] at hrow
    rw [hrow.cellAt _ (by omega), h2.val j (by simpa using hj), hv]
theorem markNum_call {w : World} {base j ln kj : Nat} {v : Value} {va : Option Addr} {vc : Nat} {fs : List PN} {ys vs : List Value} {nm : Int} {P : Prop} (h : OwnN w base v (fs.set j (nm, (fs.getD j (0, [])).2)) ys vs ∧ P) (hj : j < fs.length) (hv : vs.getD j (.slice none 0 0) = .slice va ln vc) (hg : (fs.getD j (0, [])).2.length = ln) (hk : kj + 1 + ln ≤ 1099511627776) :
    Calls Try.prog 9 #[.slice va ln vc, .int .i64 ((kj : Int) + 1)] w fun e w' => e = .returned (.int .i64 ((kj + 1 + ln : Nat) : Int)) ∧ w'.ownsRow base 5 1 (.slice va ln vc) ln (u8s (marks (kj + 1) ln)) ∧ w.grownBy w' (Value.slice va ln vc).ownBlock := by
  have h1 := h.1.data j (by simpa using hj)
  rw [hv, getD_set _ _ _ _ _ hj, if_pos rfl, hg] at h1
  exact markByteS_any va ln vc (kj + 1) base _ w h1 hk
set_option maxHeartbeats 400000 in
theorem markNumPageS_any (a : Option Addr) (n c k base : Nat) (fs : List PN) (xs vs : List Value) (w : World) (h : OwnN w base (.slice a n c) fs xs vs) (hn : n = fs.length) (hb : base ≤ w.heap.size) (hk : kN k fs ≤ 1099511627776) :
    Calls Try.prog 28 #[.slice a n c, .int .i64 k] w fun e w' => e = .returned (.int .i64 ((kN k fs : Nat) : Int)) ∧ ∃ ys, OwnN w' base (.slice a n c) (markN k fs) ys vs ∧ Fr (Blk (.slice a n c) vs) w w' := by
  have hnb : n ≤ 1099511627776 := by have := kN_le k fs; omega
  replace hn : Hid (n = fs.length) := hn
  go_enter Try.func28, Try.ntmps28
  go_wp2
  go_loopw [1, 5] (fun kv i wr => ∃ (j : Nat) (ys : List Value), j ≤ n ∧ i = .int .i64 j ∧ kv = .int .i64 ((kN k (fs.take j) : Nat) : Int) ∧ Hid (OwnN wr base (.slice a n c) (stN k fs j) ys vs ∧ Fr (Blk (.slice a n c) vs) w wr)) (fun _ i _ => n - (intOf i).toNat)
  case atStart => exact ⟨0, xs, Nat.zero_le _, rfl, by simp [kN], by simpa [stN, markN] using h, Fr.refl _ _⟩
  case round =>
    clear h
    obtain ⟨j, ys, hj, rfl, rfl, HX⟩ := hrel
    by_cases hlt : j < n
    · obtain ⟨g, rfl⟩ : ∃ g, a = some ⟨g, 0, none⟩ := by
        rcases HX.out.1.row.2 with ⟨h0, h1⟩ | ⟨g, cap, cur, h0, _⟩
        · have := hn.out; rw [stN_length _ _ _ (by omega)] at h1; omega
        · injection h0 with h1; exact ⟨g, h1⟩
      have hjf : j < fs.length := by have := hn.out; omega
      have hsl := stN_length k fs j (by omega)
      have hget := stN_get k fs j hjf (0, [])
      have hK := kN_take k fs j hjf
      have hKle := kN_take_le k fs (j + 1)
      obtain ⟨kj, hkj⟩ : ∃ kj, kj = kN k (fs.take j) := ⟨_, rfl⟩
      rw [← hkj] at hK ⊢
      obtain ⟨va, vc, hv⟩ := own_shape (HX.out.1.data j (by omega))
      rw [hget] at hv
      obtain ⟨ln, hln⟩ : ∃ ln, ln = fs[j].2.length := ⟨_, rfl⟩
      rw [← hln] at hK hv
      have hkb : kj + 1 + ln ≤ 1099511627776 := by omega
      have HV : Hid (vs.getD j (.slice none 0 0) = .slice va ln vc) := hv
      have HS : Hid (stN k fs (j + 1) = (stN k fs j).set j ((kj : Int), marks (kj + 1) ln)) := by
        show _ = _
        rw [stN_succ k fs j hjf, ← hkj, ← hln]
      have HG : Hid (((stN k fs j).getD j (0, [])).2.length = ln) := by show _ = _; rw [hget, hln]
      have HK : Hid (kN k (fs.take (j + 1)) = kj + 1 + ln) := hK
      have HL : Hid (j < (stN k fs j).length) := by show _ < _; omega
      obtain ⟨HR1, ⟨u0, c0⟩, c1, f0⟩ := markNum_step (kj : Int) HX.out.1 HL.out HV.out
      have hgl : g < wr.heap.size := (HX.out.1.row.lt g rfl).2
      clear hv hget hK hKle hkj hln hsl hjf
      go_wp2_with fail
      refine (markNum_call HR1.out HL.out HV.out HG.out hkb).mono ?_
      rintro e w2 ⟨rfl, hM1, hM2⟩
      have R : Hid (OwnN w2 base (.slice (some ⟨g, 0, none⟩) n c) (stN k fs (j + 1)) (ys.set (j * 2) (.int .i64 (kj : Int))) vs ∧ Fr (Blk (.slice (some ⟨g, 0, none⟩) n c) vs) w w2) := by
        have hv := HV.out
        have hl := HL.out
        obtain ⟨r1, r2⟩ := HR1.out
        have h2 := r1.over (i := j) (w' := w2) (l := marks (kj + 1) ln) (by simpa using hl) (by rw [hv, marks_length]; exact hM1) (by rw [hv]; exact hM2) (marks_byte _ _)
        rw [getD_set _ _ _ _ _ hl, if_pos rfl, List.set_set] at h2
        rw [HS.out]
        have hvl := HX.out.1.len
        exact ⟨h2, (HX.out.2.trans (Fr.of_grown r2 (fun _ e => .inl e))).trans (Fr.of_grown hM2 (fun _ e => .inr ⟨j, by omega, by rw [hv]; exact e⟩))⟩
      have hK2 := HK.out
      clear hM1 hM2 HR1 HX c0 c1 f0
      go_wp2_with fail
      go_roundw
      case rel => exact ⟨j + 1, _, by omega, by go_num, by rw [hK2]; go_num, R⟩
      case measure => simp [intOf]; omega
    · have hj2 : fs.take j = fs := List.take_of_length_le (by have := hn.out; omega)
      have hj3 : stN k fs j = markN k fs := by
        unfold stN
        rw [hj2, List.drop_eq_nil_of_le (by have := hn.out; omega), List.append_nil]
      rw [hj3] at HX
      rw [hj2]
      clear hj2 hj3
      go_wp2
      go_ret
      exact ⟨rfl, ys, HX.out.1, HX.out.2⟩
set_option maxHeartbeats 400000 in
theorem heldNumPageS_any (a : Option Addr) (n c k A B : Nat) (fs : List PN) (w : World) (h : NumsAt w A B a n c (markN k fs)) (hB : B ≤ w.heap.size) (hk : kN k fs ≤ 1099511627776) :
    Calls Try.prog 29 #[.slice a n c, .int .i64 k] w fun e w' => e = .returned (.int .i64 ((kN k fs : Nat) : Int)) ∧ Below w.heap.size w w' := by
  obtain ⟨hl, hnc, hc, hcell⟩ := h
  rw [markN_length] at hl
  have hnb : n ≤ 1099511627776 := by have := kN_le k fs; omega
  replace hl : Hid (n = fs.length) := hl.symm
  go_enter Try.func29, Try.ntmps29
  go_wp2
  go_loopw [1, 5] (fun kv i wr => ∃ (j : Nat), j ≤ n ∧ i = .int .i64 j ∧ kv = .int .i64 ((kN k (fs.take j) : Nat) : Int) ∧ Below w.heap.size w wr) (fun _ i _ => n - (intOf i).toNat)
  case atStart => exact ⟨0, Nat.zero_le _, rfl, by simp [kN], Below.refl _ _⟩
  case round =>
    obtain ⟨j, hj, rfl, rfl, hbel⟩ := hrel
    by_cases hlt : j < n
    · have hjf : j < fs.length := by have := hl.out; omega
      obtain ⟨b, off, rfl, hb, hcb⟩ := hcell (by omega)
      have e1 := (hcb j hlt).below hb (hbel.mono hB)
      rw [markN_get k fs j hjf] at e1
      clear hcell hcb
      have hK := kN_take k fs j hjf
      have hKle := kN_take_le k fs (j + 1)
      obtain ⟨kj, hkj⟩ : ∃ kj, kj = kN k (fs.take j) := ⟨_, rfl⟩
      rw [← hkj] at hK e1 ⊢
      obtain ⟨ln, hln⟩ : ∃ ln, ln = fs[j].2.length := ⟨_, rfl⟩
      rw [← hln] at hK e1
      have hkb : kj + 1 + ln ≤ 1099511627776 := by omega
      obtain ⟨p1, p2, pa, pn, pc, p3, p4⟩ := e1
      have hpl := p4.1
      rw [marks_length] at hpl
      subst hpl
      have HK : Hid (kN k (fs.take (j + 1)) = kj + 1 + ln) := hK
      have hs := hbel.size
      have hbk : b < wr.heap.size := by omega
      have HP : Hid (BytesAt wr A B pa ln pc (marks (kj + 1) ln)) := p4
      have hneq : ((kj : Int) != (kj : Int)) = false := by simp
      have hd : decide ((kj : Int) + 1 + (ln : Int) < 0) = false := by simp; omega
      have hK2 := HK.out
      simp only at p1
      clear hK hKle hkj hln hjf p4 HK
      go_wp2_with fail
      refine (heldByteS_any pa ln pc (kj + 1) wr A B HP.out hkb).mono ?_
      rintro e w2 ⟨rfl, e2⟩
      subst e2
      go_wp2_with fail
      go_roundw
      case rel => exact ⟨j + 1, by omega, by go_num, by rw [hK2]; go_num, hbel⟩
      case measure => simp [intOf]; omega
    · have hj2 : fs.take j = fs := List.take_of_length_le (by have := hl.out; omega)
      rw [hj2]
      clear hj2
      go_wp2
      go_ret
      exact ⟨rfl, hbel⟩
end Go.Proofs.Ytdieplpegkiolaa
