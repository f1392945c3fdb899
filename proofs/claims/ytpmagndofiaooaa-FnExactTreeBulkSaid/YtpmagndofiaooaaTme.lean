import Derived.Test.YtpmagndofiaooaaTmd
import Derived.Test.YtpmagndofiaooaaTlf
namespace Go.Proofs.Ytpmagndofiaooaa
open Go.RowKit
set_option linter.unusedVariables false
set_option linter.unusedSimpArgs false
set_option maxRecDepth 100000

/-- A node as it lies in memory: its head, and the cells of its four lists. -/
structure ND where
  leaf : Bool
  page : Int
  l : Nat → List Value
def dN : ND := ⟨false, 0, fun _ => []⟩
def ety (r : Nat) : Nat := if r < 2 then 9 else 2
def hdC (n : ND) (u : Nat → Value) : List Value := [.bool n.leaf, .int .i64 n.page, u 0, u 1, u 2, u 3]
/-- A list of nodes in memory of one's own: no two of their lists share a block. -/
structure OwnT (w : World) (base : Nat) (v : Value) (ns : List ND) (us : Nat → Nat → Value) : Prop where
  row : w.ownsRow base 92 6 v ns.length (rowsC (fun i => hdC (ns.getD i dN) (us i)) ns.length)
  data : ∀ i, i < ns.length → ∀ r, r < 4 → w.ownsRow base (ety r) 1 (us i r) ((ns.getD i dN).l r).length ((ns.getD i dN).l r)
  apart : ∀ i r j s, i < ns.length → j < ns.length → r < 4 → s < 4 → ¬ (i = j ∧ r = s) → ∀ g, (us i r).ownBlock = some g → (us j s).ownBlock ≠ some g
theorem hdC_len (n : ND) (u : Nat → Value) : (hdC n u).length = 6 := rfl
theorem ety_ne (r : Nat) : ety r ≠ 92 := by unfold ety; split <;> decide
theorem own_neT {w : World} {b1 b2 : Nat} {v u : Value} {n m r : Nat} {xs ys : List Value} (h : w.ownsRow b1 92 6 v n xs) (k : w.ownsRow b2 (ety r) 1 u m ys) (g : Nat) (hu : u.ownBlock = some g) : v.ownBlock ≠ some g := by
  intro hv
  rcases k.2 with ⟨rfl, _⟩ | ⟨g1, cap, cur, rfl, _, hg, _⟩
  · simp [Value.ownBlock] at hu
  · rcases h.2 with ⟨rfl, _⟩ | ⟨g', cap', cur', rfl, _, hg', _⟩
    · simp [Value.ownBlock] at hv
    · simp [Value.ownBlock] at hu hv
      subst hu hv
      rw [hg] at hg'
      simp only [Option.some.injEq, Obj.cells.injEq] at hg'
      exact ety_ne r hg'.2.1
/-- The blocks of a list of nodes. -/
def BlkT (v : Value) (n : Nat) (us : Nat → Nat → Value) (g : Nat) : Prop := v.ownBlock = some g ∨ ∃ i r, i < n ∧ r < 4 ∧ (us i r).ownBlock = some g
theorem OwnT.blk {w : World} {base : Nat} {v : Value} {ns : List ND} {us : Nat → Nat → Value} (h : OwnT w base v ns us) {g : Nat} (hg : BlkT v ns.length us g) : base ≤ g ∧ g < w.heap.size := by
  rcases hg with hg | ⟨i, r, hi, hr, hg⟩
  · exact h.row.lt g hg
  · exact (h.data i hi r hr).lt g hg
theorem OwnT.fr {S : Nat → Prop} {w w' : World} {base : Nat} {v : Value} {ns : List ND} {us : Nat → Nat → Value} (h : OwnT w base v ns us) (hf : Fr S w w') (hS : ∀ g, BlkT v ns.length us g → ¬ S g) : OwnT w' base v ns us :=
  ⟨owns_fr h.row hf (fun g hg => hS g (.inl hg)), fun i hi r hr => owns_fr (h.data i hi r hr) hf (fun g hg => hS g (.inr ⟨i, r, hi, hr, hg⟩)), h.apart⟩
theorem OwnT.below {w w' : World} {base : Nat} {v : Value} {ns : List ND} {us : Nat → Nat → Value} (h : OwnT w base v ns us) (hb : Below w.heap.size w w') : OwnT w' base v ns us := h.fr (S := fun _ => False) (Fr.of_below hb) (fun _ _ e => e)
theorem own_lowerT {w : World} {b b' e size : Nat} {v : Value} {n : Nat} {xs : List Value} (h : w.ownsRow b e size v n xs) (hb : b' ≤ b) : w.ownsRow b' e size v n xs := by
  refine ⟨h.1, ?_⟩
  rcases h.2 with hn | ⟨g, cap, cur, e1, e2, e3⟩
  · exact .inl hn
  · exact .inr ⟨g, cap, cur, e1, Nat.le_trans hb e2, e3⟩
theorem OwnT.lower {w : World} {base b' : Nat} {v : Value} {ns : List ND} {us : Nat → Nat → Value} (h : OwnT w base v ns us) (hb : b' ≤ base) : OwnT w b' v ns us :=
  ⟨own_lowerT h.row hb, fun i hi r hr => own_lowerT (h.data i hi r hr) hb, h.apart⟩
theorem OwnT.nil (w : World) (base : Nat) (us : Nat → Nat → Value) : OwnT w base (.slice none 0 0) [] us :=
  ⟨World.ownsRow_nil _ _ _ _, fun i hi => absurd hi (Nat.not_lt_zero _), fun i r j s hi => absurd hi (Nat.not_lt_zero _)⟩
theorem OwnT.cell {w : World} {base g n c : Nat} {ns : List ND} {us : Nat → Nat → Value} (h : OwnT w base (.slice (some ⟨g, 0, none⟩) n c) ns us) {i j : Nat} (hi : i < ns.length) (hj : j < 6) : w.cell? ⟨g, i * 6 + j, none⟩ = (hdC (ns.getD i dN) (us i))[j]? := by
  have hl := (rowsC_get (css := fun i => hdC (ns.getD i dN) (us i)) (m := ns.length) (fun i hi => hdC_len _ _))
  rcases h.row.2 with ⟨h', _⟩ | ⟨g', cap', cur, h', _⟩
  · simp at h'
  · have hn : n = ns.length := by simp at h'; omega
    have hr := h.row
    subst hn
    rw [hr.cellAt (i * 6 + j) (by omega)]
    exact hl.2 i j hi hj
theorem OwnT.thaw {w : World} {base g n c : Nat} {ns : List ND} {us : Nat → Nat → Value} (h : OwnT w base (.slice (some ⟨g, 0, none⟩) n c) ns us) (j : Nat) : w.frozen? ⟨g, j, none⟩ = false := by
  rcases h.row.2 with ⟨h', _⟩ | ⟨g', cap', cur, h', _⟩
  · simp at h'
  · have hn : n = ns.length := by simp at h'; omega
    have hr := h.row
    subst hn
    exact hr.frozenAt j
theorem getD_setN {α : Type} (l : List α) (x d : α) (i j : Nat) (hi : i < l.length) : (l.set i x).getD j d = if j = i then x else l.getD j d := by
  by_cases h : j = i
  · subst h; rw [if_pos rfl]; simp [List.getD, hi]
  · rw [if_neg h]; simp [List.getD, List.getElem?_set_ne (Ne.symm h)]
/-- The head of a node is stored. -/
theorem OwnT.head {w : World} {base g n c : Nat} {ns : List ND} {us : Nat → Nat → Value} (h : OwnT w base (.slice (some ⟨g, 0, none⟩) n c) ns us) {j : Nat} (hj : j < ns.length) (lf : Bool) (p : Int) :
    OwnT ((w.setCell ⟨g, j * 6, none⟩ (.bool lf)).setCell ⟨g, j * 6 + 1, none⟩ (.int .i64 p)) base (.slice (some ⟨g, 0, none⟩) n c) (ns.set j ⟨lf, p, (ns.getD j dN).l⟩) us ∧ Fr (fun x => x = g) w ((w.setCell ⟨g, j * 6, none⟩ (.bool lf)).setCell ⟨g, j * 6 + 1, none⟩ (.int .i64 p)) := by
  have hfr : Fr (fun x => x = g) w ((w.setCell ⟨g, j * 6, none⟩ (.bool lf)).setCell ⟨g, j * 6 + 1, none⟩ (.int .i64 p)) := (fr_setT w g (j * 6) (.bool lf)).trans (fr_setT _ g (j * 6 + 1) (.int .i64 p))
  have hn : n = ns.length := by
    rcases h.row.2 with ⟨h', _⟩ | ⟨g', cap', cur, h', _⟩
    · simp at h'
    · simp at h'; omega
  have hrow := h.row
  subst hn
  have r1 := (hrow.stored (j * 6) (.bool lf)).1
  have r2 := (r1.stored (j * 6 + 1) (.int .i64 p)).1
  refine ⟨⟨?_, ?_, ?_⟩, hfr⟩
  · rw [List.length_set]
    have hx : ((rowsC (fun i => hdC (ns.getD i dN) (us i)) ns.length).set (j * 6) (.bool lf)).set (j * 6 + 1) (.int .i64 p) = rowsC (fun i => hdC ((ns.set j ⟨lf, p, (ns.getD j dN).l⟩).getD i dN) (us i)) ns.length := by
      have ha := rowsC_get (css := fun i => hdC (ns.getD i dN) (us i)) (m := ns.length) (fun i hi => hdC_len _ _)
      have hb := rowsC_get (css := fun i => hdC ((ns.set j ⟨lf, p, (ns.getD j dN).l⟩).getD i dN) (us i)) (m := ns.length) (fun i hi => hdC_len _ _)
      refine List.ext_getElem? (fun q => ?_)
      by_cases hq : q < ns.length * 6
      · have hi : q / 6 < ns.length := by omega
        have hr : q % 6 < 6 := by omega
        have e := hb.2 (q / 6) (q % 6) hi hr
        have e2 := ha.2 (q / 6) (q % 6) hi hr
        rw [show q / 6 * 6 + q % 6 = q by omega] at e e2
        rw [e]
        show _ = (hdC ((ns.set j ⟨lf, p, (ns.getD j dN).l⟩).getD (q / 6) dN) (us (q / 6)))[q % 6]?
        rw [getD_setN _ _ _ _ _ hj]
        by_cases hij : q / 6 = j
        · rw [if_pos hij]
          have hc : q % 6 = 0 ∨ q % 6 = 1 ∨ 2 ≤ q % 6 := by omega
          rcases hc with hc | hc | hc
          · have hqe : q = j * 6 := by omega
            rw [List.getElem?_set_ne (by omega), hqe, List.getElem?_set_self (by omega), ← hqe, hc]
            rfl
          · have hqe : q = j * 6 + 1 := by omega
            rw [hqe, List.getElem?_set_self (by rw [List.length_set]; omega), ← hqe, hc]
            rfl
          · rw [List.getElem?_set_ne (by omega), List.getElem?_set_ne (by omega), e2, hij]
            have hc2 : q % 6 = 2 ∨ q % 6 = 3 ∨ q % 6 = 4 ∨ q % 6 = 5 := by omega
            rcases hc2 with h | h | h | h <;> rw [h] <;> rfl
        · rw [if_neg hij, List.getElem?_set_ne (by omega), List.getElem?_set_ne (by omega), e2]
      · rw [List.getElem?_eq_none (by simp only [List.length_set]; omega), List.getElem?_eq_none (by omega)]
    rw [← hx]
    exact r2
  · intro i hi r hr
    rw [List.length_set] at hi
    have e : ((ns.set j ⟨lf, p, (ns.getD j dN).l⟩).getD i dN).l r = (ns.getD i dN).l r := by
      rw [getD_setN _ _ _ _ _ hj]
      split
      · rename_i hh; rw [hh]
      · rfl
    rw [e]
    exact owns_fr (h.data i hi r hr) hfr (fun q hq e2 => by rw [e2] at hq; exact own_neT hrow (h.data i hi r hr) g hq rfl)
  · intro i r k s hi hk
    rw [List.length_set] at hi hk
    exact h.apart i r k s hi hk
/-- One of the lists of a node is written where it lies. -/
theorem OwnT.over {w w' : World} {base : Nat} {v : Value} {ns : List ND} {us : Nat → Nat → Value} (h : OwnT w base v ns us) {j q : Nat} (hj : j < ns.length) (hq : q < 4) {zs : List Value} (hz : zs.length = ((ns.getD j dN).l q).length) (hr : w'.ownsRow base (ety q) 1 (us j q) zs.length zs) (hf : Fr (fun b => some b = (us j q).ownBlock) w w') :
    OwnT w' base v (ns.set j ⟨(ns.getD j dN).leaf, (ns.getD j dN).page, fun r => if r = q then zs else (ns.getD j dN).l r⟩) us := by
  refine ⟨?_, ?_, ?_⟩
  · rw [List.length_set, rowsC_congr (css := fun i => hdC (ns.getD i dN) (us i)) (fun i hi => ?_)]
    · refine owns_fr h.row hf (fun g hg e => ?_)
      exact own_neT h.row (h.data j hj q hq) g e.symm hg
    · show hdC ((ns.set j _).getD i dN) (us i) = hdC (ns.getD i dN) (us i)
      rw [getD_setN _ _ _ _ _ hj]
      split
      · rename_i hh; rw [hh]; rfl
      · rfl
  · intro i hi r hr2
    rw [List.length_set] at hi
    rw [getD_setN _ _ _ _ _ hj]
    by_cases hij : i = j
    · subst hij
      rw [if_pos rfl]
      by_cases hrq : r = q
      · subst hrq
        simp only [if_true]
        exact hr
      · simp only [hrq, if_false]
        exact owns_fr (h.data i hi r hr2) hf (fun g hg e => h.apart i r i q hi hi hr2 hq (fun e => hrq e.2) g hg e.symm)
    · rw [if_neg hij]
      exact owns_fr (h.data i hi r hr2) hf (fun g hg e => h.apart i r j q hi hj hr2 hq (fun e => hij e.1) g hg e.symm)
  · intro i r k s hi hk
    rw [List.length_set] at hi hk
    exact h.apart i r k s hi hk
/-- What marking makes of a node: the number k for its head, then its lists. -/
def ndLen (n : ND) : Nat := 2 + (n.l 0).length + (n.l 1).length + (n.l 2).length + (n.l 3).length
def mkN (k : Nat) (n : ND) : ND := ⟨((k : Int) % 3) == 0, (k : Int) + 1, fun r => if r = 0 then rowsOf strCells (mkSs (k + 2) (n.l 0).length) else if r = 1 then rowsOf strCells (mkSs (k + 2 + (n.l 0).length) (n.l 1).length) else if r = 2 then rowsOf intCells (mkIs (k + 2 + (n.l 0).length + (n.l 1).length) (n.l 2).length) else if r = 3 then rowsOf intCells (mkIs (k + 2 + (n.l 0).length + (n.l 1).length + (n.l 2).length) (n.l 3).length) else n.l r⟩
def mkNs : Nat → List ND → List ND
  | _, [] => []
  | k, n :: r => mkN k n :: mkNs (k + ndLen n) r
def kT : Nat → List ND → Nat
  | k, [] => k
  | k, n :: r => kT (k + ndLen n) r
theorem kT_snoc (k : Nat) (l : List ND) (f : ND) : kT k (l ++ [f]) = kT k l + ndLen f := by
  induction l generalizing k with
  | nil => rfl
  | cons a r ih => simp only [List.cons_append, kT]; exact ih _
theorem mkNs_snoc (k : Nat) (l : List ND) (f : ND) : mkNs k (l ++ [f]) = mkNs k l ++ [mkN (kT k l) f] := by
  induction l generalizing k with
  | nil => rfl
  | cons a r ih => simp only [List.cons_append, mkNs, kT]; rw [ih]
theorem mkNs_length (k : Nat) (l : List ND) : (mkNs k l).length = l.length := by
  induction l generalizing k with
  | nil => rfl
  | cons a r ih => simp only [mkNs, List.length_cons, ih]
theorem kT_le (k : Nat) (l : List ND) : k + l.length ≤ kT k l := by
  induction l generalizing k with
  | nil => simp [kT]
  | cons a r ih => have := ih (k + ndLen a); simp only [kT, List.length_cons, ndLen] at this ⊢; omega
theorem kT_append (k : Nat) (a b : List ND) : kT k (a ++ b) = kT (kT k a) b := by
  induction a generalizing k with
  | nil => rfl
  | cons x r ih => simp only [List.cons_append, kT]; exact ih _
def stT (k : Nat) (ns : List ND) (j : Nat) : List ND := mkNs k (ns.take j) ++ ns.drop j
theorem stT_length (k : Nat) (ns : List ND) (j : Nat) (h : j ≤ ns.length) : (stT k ns j).length = ns.length := by
  simp [stT, mkNs_length]; omega
theorem stT_get (k : Nat) (ns : List ND) (j : Nat) (h : j < ns.length) (d : ND) : (stT k ns j).getD j d = ns[j] := by
  have h1 : (mkNs k (ns.take j)).length = j := by rw [mkNs_length, List.length_take]; omega
  simp [stT, List.getD, List.getElem?_append_right, h1, h]
theorem stT_succ (k : Nat) (ns : List ND) (j : Nat) (h : j < ns.length) : stT k ns (j + 1) = (stT k ns j).set j (mkN (kT k (ns.take j)) ns[j]) := by
  have h1 : (mkNs k (ns.take j)).length = j := by rw [mkNs_length, List.length_take]; omega
  unfold stT
  rw [List.set_append_right _ _ (by omega), h1, Nat.sub_self, List.drop_eq_getElem_cons h, List.set_cons_zero, List.take_succ_eq_append_getElem h, mkNs_snoc]
  simp
theorem kT_take (k : Nat) (ns : List ND) (j : Nat) (h : j < ns.length) : kT k (ns.take (j + 1)) = kT k (ns.take j) + ndLen ns[j] := by
  rw [List.take_succ_eq_append_getElem h, kT_snoc]
theorem kT_take_le (k : Nat) (ns : List ND) (j : Nat) : kT k (ns.take j) ≤ kT k ns := by
  have h1 : kT k ns = kT (kT k (ns.take j)) (ns.drop j) := by rw [← kT_append, List.take_append_drop]
  have := kT_le (kT k (ns.take j)) (ns.drop j)
  omega
theorem mkNs_get (k : Nat) (ns : List ND) (j : Nat) (h : j < ns.length) (d : ND) : (mkNs k ns).getD j d = mkN (kT k (ns.take j)) ns[j] := by
  induction ns generalizing k j with
  | nil => simp at h
  | cons a r ih =>
    cases j with
    | zero => simp [mkNs, kT]
    | succ j =>
      have h' : j < r.length := by simpa using h
      simpa [mkNs, kT] using ih (k + ndLen a) j h'
theorem OwnT.over' {w w' : World} {base : Nat} {v : Value} {S : List ND} {M : ND} {us : Nat → Nat → Value} {j q : Nat} (h : OwnT w base v (S.set j M) us) (hj : j < S.length) (hq : q < 4) {zs : List Value} (hz : zs.length = (M.l q).length) (hr : w'.ownsRow base (ety q) 1 (us j q) zs.length zs) (hf : Fr (fun b => some b = (us j q).ownBlock) w w') :
    OwnT w' base v (S.set j ⟨M.leaf, M.page, fun r => if r = q then zs else M.l r⟩) us := by
  have hj' : j < (S.set j M).length := by simpa using hj
  have e : (S.set j M).getD j dN = M := by rw [getD_setN _ _ _ _ _ hj, if_pos rfl]
  have := h.over hj' hq (by rw [e]; exact hz) hr hf
  rw [e, List.set_set] at this
  exact this
theorem OwnT.list {w : World} {base : Nat} {v : Value} {S : List ND} {M : ND} {us : Nat → Nat → Value} {j : Nat} (h : OwnT w base v (S.set j M) us) (hj : j < S.length) (q : Nat) (hq : q < 4) : w.ownsRow base (ety q) 1 (us j q) (M.l q).length (M.l q) := by
  have := h.data j (by simpa using hj) q hq
  rwa [getD_setN _ _ _ _ _ hj, if_pos rfl] at this
theorem ownT_shape {w : World} {base e size : Nat} {v : Value} {n : Nat} {xs : List Value} (h : w.ownsRow base e size v n xs) : ∃ a c, v = .slice a n c := by
  rcases h.2 with ⟨rfl, rfl⟩ | ⟨g, cap, cur, rfl, _⟩
  · exact ⟨none, 0, rfl⟩
  · exact ⟨_, _, rfl⟩
end Go.Proofs.Ytpmagndofiaooaa
