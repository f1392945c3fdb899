import Derived.Test.YtpmagndofiaooaaTp
import Derived.Test.YtpmagndofiaooaaTmg
namespace Go.Proofs.Ytpmagndofiaooaa
open Go.RowKit
set_option linter.unusedVariables false
set_option linter.unusedSimpArgs false
set_option maxRecDepth 100000

/-- A told node as it lies in memory. -/
def TN.nd (t : TN) : ND := ⟨t.leaf, t.page, fun r => if r = 0 then rowsOf strCells t.keys else if r = 1 then rowsOf strCells t.vals else if r = 2 then rowsOf intCells t.over else if r = 3 then rowsOf intCells t.kids else []⟩
theorem rowsC_snoc {ns : List ND} {nd : ND} {us : Nat → Nat → Value} {u : Nat → Value} : rowsC (fun i => hdC ((ns ++ [nd]).getD i dN) (if i = ns.length then u else us i)) (ns ++ [nd]).length = rowsC (fun i => hdC (ns.getD i dN) (us i)) ns.length ++ hdC nd u := by
  have e1 : (ns ++ [nd]).length = ns.length + 1 := by simp
  rw [e1, rowsC_succ, rowsC_congr (css := fun i => hdC (ns.getD i dN) (us i)) (fun i hi => ?_)]
  · congr 1
    show hdC ((ns ++ [nd]).getD ns.length dN) (if ns.length = ns.length then u else us ns.length) = hdC nd u
    rw [if_pos rfl]
    simp [List.getD]
  · show hdC ((ns ++ [nd]).getD i dN) (if i = ns.length then u else us i) = hdC (ns.getD i dN) (us i)
    rw [if_neg (by omega)]
    simp [List.getD, List.getElem?_append_left hi]
theorem getD_snocN (ns : List ND) (nd : ND) (i : Nat) : (ns ++ [nd]).getD i dN = if i = ns.length then nd else ns.getD i dN := by
  by_cases h : i = ns.length
  · rw [if_pos h, h]; simp [List.getD]
  · rw [if_neg h]
    by_cases h2 : i < ns.length
    · simp [List.getD, List.getElem?_append_left h2]
    · simp [List.getD, List.getElem?_append_right (by omega : ns.length ≤ i), show ¬ i < ns.length by omega, List.getElem?_eq_none (by simp; omega : [nd].length ≤ i - ns.length)]
/-- A node more, its lists in blocks from M on. -/
theorem OwnT.push {w1 w2 w3 : World} {base M : Nat} {v v' : Value} {ns : List ND} {nd : ND} {us : Nat → Nat → Value} {u : Nat → Value} (h : OwnT w1 base v ns us) (hM : ∀ g, BlkT v ns.length us g → g < M) (hb : base ≤ M) (hk : Fr (fun g => M ≤ g) w1 w2)
    (hl : ∀ r, r < 4 → w2.ownsRow M (ety r) 1 (u r) (nd.l r).length (nd.l r)) (ha : ∀ r s, r < 4 → s < 4 → r ≠ s → ∀ g, (u r).ownBlock = some g → (u s).ownBlock ≠ some g)
    (hrow : w3.ownsRow base 92 6 v' (ns.length + 1) (rowsC (fun i => hdC (ns.getD i dN) (us i)) ns.length ++ hdC nd u)) (hgr : w2.grownBy w3 v.ownBlock) :
    OwnT w3 base v' (ns ++ [nd]) (fun i => if i = ns.length then u else us i) := by
  have h2 := h.fr hk (fun g hg e => by have := hM g hg; omega)
  have hf3 : Fr (fun g => v.ownBlock = some g) w2 w3 := Fr.of_grown hgr (fun g e => e)
  refine ⟨?_, ?_, ?_⟩
  · rw [rowsC_snoc, show (ns ++ [nd]).length = ns.length + 1 by simp]
    exact hrow
  · intro i hi r hr
    rw [show (ns ++ [nd]).length = ns.length + 1 by simp] at hi
    rw [getD_snocN]
    by_cases he : i = ns.length
    · rw [if_pos he]
      simp only [he, if_true]
      exact owns_fr (own_lowerT (hl r hr) hb) hf3 (fun g hg e => by have h3 := (hl r hr).lt g hg; have := hM g (.inl e); omega)
    · rw [if_neg he]
      simp only [he, if_false]
      have hi2 : i < ns.length := by omega
      exact owns_fr (h2.data i hi2 r hr) hf3 (fun g hg e => own_neT h2.row (h2.data i hi2 r hr) g hg e)
  · intro i r j s hi hj hr hs hne g hg
    rw [show (ns ++ [nd]).length = ns.length + 1 by simp] at hi hj
    by_cases hei : i = ns.length <;> by_cases hej : j = ns.length
    · simp only [hei, hej, if_true] at hg ⊢
      exact ha r s hr hs (fun e => hne ⟨by omega, e⟩) g hg
    · simp only [hei, if_true] at hg
      simp only [hej, if_false]
      intro e
      have h3 := ((hl r hr).lt g hg).1
      have := hM g (.inr ⟨j, s, by omega, hs, e⟩)
      omega
    · simp only [hei, if_false] at hg
      simp only [hej, if_true]
      intro e
      have h3 := ((hl s hs).lt g e).1
      have := hM g (.inr ⟨i, r, by omega, hr, hg⟩)
      omega
    · simp only [hei, if_false] at hg
      simp only [hej, if_false]
      exact h.apart i r j s (by omega) (by omega) hr hs hne g hg
/-- One of the lists of a node grows, and is stored. -/
theorem OwnT.app {w w2 : World} {base g n c : Nat} {ns : List ND} {us : Nat → Nat → Value} (h : OwnT w base (.slice (some ⟨g, 0, none⟩) n c) ns us) {j q : Nat} (hj : j < ns.length) (hq : q < 4) {v' : Value} {zs : List Value}
    (hr : w2.ownsRow base (ety q) 1 v' zs.length zs) (hgr : w.grownBy w2 (us j q).ownBlock) (hat : v'.ownBlock = (us j q).ownBlock ∨ ∀ b, v'.ownBlock = some b → w.heap.size ≤ b) :
    OwnT (w2.setCell ⟨g, j * 6 + 2 + q, none⟩ v') base (.slice (some ⟨g, 0, none⟩) n c) (ns.set j ⟨(ns.getD j dN).leaf, (ns.getD j dN).page, fun r => if r = q then zs else (ns.getD j dN).l r⟩) (fun i r => if i = j ∧ r = q then v' else us i r) ∧ Fr (fun b => b = g ∨ (us j q).ownBlock = some b) w (w2.setCell ⟨g, j * 6 + 2 + q, none⟩ v') := by
  have hf2 : Fr (fun b => (us j q).ownBlock = some b) w w2 := Fr.of_grown hgr (fun b e => e)
  have hf3 : Fr (fun b => b = g) w2 (w2.setCell ⟨g, j * 6 + 2 + q, none⟩ v') := fr_setT w2 g _ v'
  have hn : n = ns.length := by
    rcases h.row.2 with ⟨h', _⟩ | ⟨g', cap', cur, h', _⟩
    · simp at h'
    · simp at h'; omega
  have hgl := h.row.lt g rfl
  have hrow2 : w2.ownsRow base 92 6 (.slice (some ⟨g, 0, none⟩) n c) ns.length (rowsC (fun i => hdC (ns.getD i dN) (us i)) ns.length) := owns_fr h.row hf2 (fun b hb e => own_neT h.row (h.data j hj q hq) b e hb)
  have hvg : v'.ownBlock ≠ some g := by
    rcases hat with e | e
    · rw [e]; intro e2; exact own_neT h.row (h.data j hj q hq) g e2 rfl
    · intro e2; have := e g e2; omega
  have hoth : ∀ i r, i < ns.length → r < 4 → ¬ (i = j ∧ r = q) → ∀ b, (us i r).ownBlock = some b → v'.ownBlock ≠ some b := fun i r hi hr2 hne b hb => by
    rcases hat with e | e
    · rw [e]; exact h.apart i r j q hi hj hr2 hq hne b hb
    · intro e2; have := e b e2; have := (h.data i hi r hr2).lt b hb; omega
  subst hn
  have r1 := (hrow2.stored (j * 6 + 2 + q) v').1
  refine ⟨⟨?_, ?_, ?_⟩, (hf2.weak (fun b e => .inr e)).trans (hf3.weak (fun b e => .inl e))⟩
  · rw [List.length_set]
    have hx : (rowsC (fun i => hdC (ns.getD i dN) (us i)) ns.length).set (j * 6 + 2 + q) v' = rowsC (fun i => hdC ((ns.set j ⟨(ns.getD j dN).leaf, (ns.getD j dN).page, fun r => if r = q then zs else (ns.getD j dN).l r⟩).getD i dN) (fun r => if i = j ∧ r = q then v' else us i r)) ns.length := by
      have ha := rowsC_get (css := fun i => hdC (ns.getD i dN) (us i)) (m := ns.length) (fun i hi => hdC_len _ _)
      have hb := rowsC_get (css := fun i => hdC ((ns.set j ⟨(ns.getD j dN).leaf, (ns.getD j dN).page, fun r => if r = q then zs else (ns.getD j dN).l r⟩).getD i dN) (fun r => if i = j ∧ r = q then v' else us i r)) (m := ns.length) (fun i hi => hdC_len _ _)
      refine List.ext_getElem? (fun p => ?_)
      by_cases hp : p < ns.length * 6
      · have hi : p / 6 < ns.length := by omega
        have hr6 : p % 6 < 6 := by omega
        have e := hb.2 (p / 6) (p % 6) hi hr6
        have e2 := ha.2 (p / 6) (p % 6) hi hr6
        rw [show p / 6 * 6 + p % 6 = p by omega] at e e2
        rw [e]
        show _ = (hdC ((ns.set j _).getD (p / 6) dN) (fun r => if p / 6 = j ∧ r = q then v' else us (p / 6) r))[p % 6]?
        rw [getD_setN _ _ _ _ _ hj]
        by_cases hij : p / 6 = j
        · rw [if_pos hij]
          have hc : p % 6 = 0 ∨ p % 6 = 1 ∨ p % 6 = 2 ∨ p % 6 = 3 ∨ p % 6 = 4 ∨ p % 6 = 5 := by omega
          by_cases hpq : p = j * 6 + 2 + q
          · rw [hpq, List.getElem?_set_self (by omega), ← hpq]
            have hc2 : p % 6 = 2 + q := by omega
            rw [hc2]
            have hq4 : q = 0 ∨ q = 1 ∨ q = 2 ∨ q = 3 := by omega
            rcases hq4 with rfl | rfl | rfl | rfl <;> simp [hdC, hij]
          · rw [List.getElem?_set_ne (by omega), e2, hij]
            rcases hc with hc | hc | hc | hc | hc | hc <;> rw [hc] <;> simp [hdC] <;> intro e3 <;> omega
        · rw [if_neg hij, List.getElem?_set_ne (by omega), e2]
          simp [hij]
      · rw [List.getElem?_eq_none (by simp only [List.length_set]; omega), List.getElem?_eq_none (by omega)]
    rw [← hx]
    exact r1
  · intro i hi r hr2
    rw [List.length_set] at hi
    rw [getD_setN _ _ _ _ _ hj]
    by_cases hc : i = j ∧ r = q
    · obtain ⟨rfl, rfl⟩ := hc
      simp only [if_true, and_self]
      exact owns_fr hr hf3 (fun b hb e => by rw [e] at hb; exact hvg hb)
    · have hd : w2.ownsRow base (ety r) 1 (us i r) ((ns.getD i dN).l r).length ((ns.getD i dN).l r) := owns_fr (h.data i hi r hr2) hf2 (fun b hb e => h.apart i r j q hi hj hr2 hq hc b hb e)
      have hd2 := owns_fr hd hf3 (fun b hb e => by rw [e] at hb; exact own_neT h.row (h.data i hi r hr2) g hb rfl)
      simp only [hc, if_false]
      by_cases hij : i = j
      · subst hij
        have hrq : ¬ r = q := fun e => hc ⟨rfl, e⟩
        simp only [if_true, hrq, if_false]
        exact hd2
      · simp only [hij, if_false]
        exact hd2
  · intro i r k s hi hk hr2 hs hne b hb
    rw [List.length_set] at hi hk
    by_cases h1 : i = j ∧ r = q <;> by_cases h2 : k = j ∧ s = q
    · exact absurd ⟨h1.1.trans h2.1.symm, h1.2.trans h2.2.symm⟩ hne
    · simp only [h1, and_self, if_true] at hb
      simp only [h2, if_false]
      exact fun e => hoth k s hk hs h2 b e hb
    · simp only [h1, if_false] at hb
      simp only [h2, and_self, if_true]
      exact hoth i r hi hr2 h1 b hb
    · simp only [h1, if_false] at hb
      simp only [h2, if_false]
      exact h.apart i r k s hi hk hr2 hs hne b hb
end Go.Proofs.Ytpmagndofiaooaa
