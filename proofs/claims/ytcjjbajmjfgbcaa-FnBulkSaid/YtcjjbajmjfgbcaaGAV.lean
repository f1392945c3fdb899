import Derived.Test.YtcjjbajmjfgbcaaGAA
import Derived.Test.YtcjjbajmjfgbcaaTu
import Derived.Test.YtcjjbajmjfgbcaaGAG
import Derived.Test.YtcjjbajmjfgbcaaGAK
import Derived.WalkSpells
import Derived.WalkLawsBesides
import Derived.Laws.IdiomStrings
import Derived.Deep.RegionWith
import Derived.Deep.DeepCutAuto
import Derived.Deep.QuietTactic
import Derived.BigQuiet
namespace Go.Proofs.Ytcjjbajmjfgbcaa
open Go.RowKit
set_option linter.unusedVariables false
set_option linter.unusedSimpArgs false
set_option maxRecDepth 100000
def digF : Nat → Nat → List UInt8 → List UInt8
 | 0, _, out => out
 | f + 1, k, out => if k = 0 then out else digF f (k / 10) (UInt8.ofNat (48 + k % 10) :: out)
def mkS (k : Nat) : ByteArray := if k = 0 then ⟨#[109, 48]⟩ else ⟨(109 :: digF 40 k []).toArray⟩
def marks (k : Nat) (n : Nat) : List Int := (List.range n).map fun j => ((k + j : Nat) : Int) % 256
def MarkRes (w w' : World) (base : Nat) (v : Value) (n k : Nat) : Prop := w'.ownsRow base 5 1 v n (u8s (marks k n)) ∧ w.grownBy w' v.ownBlock
structure MkW (lo hi : Nat) (w w' : World) : Prop where
 fr : Fr (fun k => lo ≤ k ∧ k < hi) w w'
 room : ∀ b o, b < w.heap.size → (∃ v, w.cell? ⟨b, o, none⟩ = some v) → w.frozen? ⟨b, o, none⟩ = false → (∃ v, w'.cell? ⟨b, o, none⟩ = some v) ∧ w'.frozen? ⟨b, o, none⟩ = false
def RoomU (w : World) (lo hi : Nat) (a : Option Addr) (n : Nat) : Prop := 0 < n → ∃ b off, a = some ⟨b, off, none⟩ ∧ (lo ≤ b ∧ b < hi) ∧ ∀ i, i < n → (∃ v, w.cell? ⟨b, off + i, none⟩ = some v) ∧ w.frozen? ⟨b, off + i, none⟩ = false
def MarkU (w : World) (lo hi g n : Nat) (ts : List TN) : Prop := g < hi ∧ ∃ xs, w.ownsRow lo 92 6 (.slice (some ⟨g, 0, none⟩) n n) n xs ∧ ts.length = n ∧ ∀ j, j < n → ∃ ka kn kc va vn vc oa on oc ya yn yc, xs[j * 6 + 2]? = some (.slice ka kn kc) ∧ xs[j * 6 + 3]? = some (.slice va vn vc) ∧ xs[j * 6 + 4]? = some (.slice oa on oc) ∧ xs[j * 6 + 5]? = some (.slice ya yn yc) ∧
 (kn = (ts.getD j dT).keys.length ∧ vn = (ts.getD j dT).vals.length ∧ on = (ts.getD j dT).over.length ∧ yn = (ts.getD j dT).kids.length) ∧ (RoomU w (g + 1) hi ka kn ∧ RoomU w (g + 1) hi va vn ∧ RoomU w (g + 1) hi oa on ∧ RoomU w (g + 1) hi ya yn)
def mLen (t : TN) : Nat := 2 + t.keys.length + t.vals.length + t.over.length + t.kids.length
def mLens (ts : List TN) : Nat := (ts.map mLen).sum
def HdOk (xs ys : List Value) (n : Nat) : Prop := ∀ i, i < n → ∀ r, 2 ≤ r → r < 6 → ys[i * 6 + r]? = xs[i * 6 + r]?
def mkSs (k n : Nat) : List ByteArray := (List.range n).map fun j => mkS (k + j)
def mkIs (k n : Nat) : List Int := (List.range n).map fun j => ((k + j : Nat) : Int)

structure ND where
 leaf : Bool
 page : Int
 l : Nat → List Value
def dN : ND := ⟨false, 0, fun _ => []⟩
def ety (r : Nat) : Nat := if r < 2 then 9 else 2
def hdC (n : ND) (u : Nat → Value) : List Value := [.bool n.leaf, .int .i64 n.page, u 0, u 1, u 2, u 3]
structure OwnT (w : World) (base : Nat) (v : Value) (ns : List ND) (us : Nat → Nat → Value) : Prop where
 row : w.ownsRow base 92 6 v ns.length (rowsC (fun i => hdC (ns.getD i dN) (us i)) ns.length)
 data : ∀ i, i < ns.length → ∀ r, r < 4 → w.ownsRow base (ety r) 1 (us i r) ((ns.getD i dN).l r).length ((ns.getD i dN).l r)
 apart : ∀ i r j s, i < ns.length → j < ns.length → r < 4 → s < 4 → ¬ (i = j ∧ r = s) → ∀ g, (us i r).ownBlock = some g → (us j s).ownBlock ≠ some g
theorem hdC_len (n : ND) (u : Nat → Value) : (hdC n u).length = 6 := rfl
theorem ety_ne (r : Nat) : ety r ≠ 92 := by unfold ety; split <;> decide
theorem own_neT {w : World} {b1 b2 : Nat} {v u : Value} {n m r : Nat} {xs ys : List Value} (h : w.ownsRow b1 92 6 v n xs) (k : w.ownsRow b2 (ety r) 1 u m ys) (g : Nat) (hu : u.ownBlock = some g) : v.ownBlock ≠ some g := by
 intro hv
 rcases k.2 with ⟨rfl, _⟩ | ⟨g1, cap, cur, rfl, _, hg, _⟩
 ·simp [Value.ownBlock] at hu
 ·rcases h.2 with ⟨rfl, _⟩ | ⟨g', cap', cur', rfl, _, hg', _⟩
  ·simp [Value.ownBlock] at hv
  ·simp [Value.ownBlock] at hu hv
   subst hu hv
   rw [hg] at hg'
   simp only [Option.some.injEq, Obj.cells.injEq] at hg'
   exact ety_ne r hg'.2.1
def BlkT (v : Value) (n : Nat) (us : Nat → Nat → Value) (g : Nat) : Prop := v.ownBlock = some g ∨ ∃ i r, i < n ∧ r < 4 ∧ (us i r).ownBlock = some g
theorem OwnT.blk {w : World} {base : Nat} {v : Value} {ns : List ND} {us : Nat → Nat → Value} (h : OwnT w base v ns us) {g : Nat} (hg : BlkT v ns.length us g) : base ≤ g ∧ g < w.heap.size := by
 rcases hg with hg | ⟨i, r, hi, hr, hg⟩
 ·exact h.row.lt g hg
 ·exact (h.data i hi r hr).lt g hg
theorem OwnT.fr {S : Nat → Prop} {w w' : World} {base : Nat} {v : Value} {ns : List ND} {us : Nat → Nat → Value} (h : OwnT w base v ns us) (hf : Fr S w w') (hS : ∀ g, BlkT v ns.length us g → ¬ S g) : OwnT w' base v ns us :=
 ⟨owns_fr h.row hf (fun g hg => hS g (.inl hg)), fun i hi r hr => owns_fr (h.data i hi r hr) hf (fun g hg => hS g (.inr ⟨i, r, hi, hr, hg⟩)), h.apart⟩
theorem OwnT.below {w w' : World} {base : Nat} {v : Value} {ns : List ND} {us : Nat → Nat → Value} (h : OwnT w base v ns us) (hb : Below w.heap.size w w') : OwnT w' base v ns us := h.fr (S := fun _ => False) (Fr.of_below hb) (fun _ _ e => e)
theorem own_lowerT {w : World} {b b' e size : Nat} {v : Value} {n : Nat} {xs : List Value} (h : w.ownsRow b e size v n xs) (hb : b' ≤ b) : w.ownsRow b' e size v n xs := by
 refine ⟨h.1, ?_⟩
 rcases h.2 with hn | ⟨g, cap, cur, e1, e2, e3⟩
 ·exact .inl hn
 ·exact .inr ⟨g, cap, cur, e1, Nat.le_trans hb e2, e3⟩
theorem OwnT.lower {w : World} {base b' : Nat} {v : Value} {ns : List ND} {us : Nat → Nat → Value} (h : OwnT w base v ns us) (hb : b' ≤ base) : OwnT w b' v ns us :=
 ⟨own_lowerT h.row hb, fun i hi r hr => own_lowerT (h.data i hi r hr) hb, h.apart⟩
theorem OwnT.nil (w : World) (base : Nat) (us : Nat → Nat → Value) : OwnT w base (.slice none 0 0) [] us :=
 ⟨World.ownsRow_nil _ _ _ _, fun i hi => absurd hi (Nat.not_lt_zero _), fun i r j s hi => absurd hi (Nat.not_lt_zero _)⟩
theorem OwnT.cell {w : World} {base g n c : Nat} {ns : List ND} {us : Nat → Nat → Value} (h : OwnT w base (.slice (some ⟨g, 0, none⟩) n c) ns us) {i j : Nat} (hi : i < ns.length) (hj : j < 6) : w.cell? ⟨g, i * 6 + j, none⟩ = (hdC (ns.getD i dN) (us i))[j]? := by
 have hl := (rowsC_get (css := fun i => hdC (ns.getD i dN) (us i)) (m := ns.length) (fun i hi => hdC_len _ _))
 rcases h.row.2 with ⟨h', _⟩ | ⟨g', cap', cur, h', _⟩
 ·simp at h'
 ·have hn : n = ns.length := by simp at h'; omega
  have hr := h.row
  subst hn
  rw [hr.cellAt (i * 6 + j) (by omega)]
  exact hl.2 i j hi hj
theorem OwnT.thaw {w : World} {base g n c : Nat} {ns : List ND} {us : Nat → Nat → Value} (h : OwnT w base (.slice (some ⟨g, 0, none⟩) n c) ns us) (j : Nat) : w.frozen? ⟨g, j, none⟩ = false := by
 rcases h.row.2 with ⟨h', _⟩ | ⟨g', cap', cur, h', _⟩
 ·simp at h'
 ·have hn : n = ns.length := by simp at h'; omega
  have hr := h.row
  subst hn
  exact hr.frozenAt j
theorem getD_setN {α : Type} (l : List α) (x d : α) (i j : Nat) (hi : i < l.length) : (l.set i x).getD j d = if j = i then x else l.getD j d := by
 by_cases h : j = i
 ·subst h; rw [if_pos rfl]; simp [List.getD, hi]
 ·rw [if_neg h]; simp [List.getD, List.getElem?_set_ne (Ne.symm h)]
def ndLen (n : ND) : Nat := 2 + (n.l 0).length + (n.l 1).length + (n.l 2).length + (n.l 3).length
def mkN (k : Nat) (n : ND) : ND := ⟨((k : Int) % 3) == 0, (k : Int) + 1, fun r => if r = 0 then rowsOf strCells (mkSs (k + 2) (n.l 0).length) else if r = 1 then rowsOf strCells (mkSs (k + 2 + (n.l 0).length) (n.l 1).length) else if r = 2 then rowsOf intCells (mkIs (k + 2 + (n.l 0).length + (n.l 1).length) (n.l 2).length) else if r = 3 then rowsOf intCells (mkIs (k + 2 + (n.l 0).length + (n.l 1).length + (n.l 2).length) (n.l 3).length) else n.l r⟩
def mkNs : Nat → List ND → List ND
 | _, [] => []
 | k, n :: r => mkN k n :: mkNs (k + ndLen n) r
def kT : Nat → List ND → Nat
 | k, [] => k
 | k, n :: r => kT (k + ndLen n) r
def stT (k : Nat) (ns : List ND) (j : Nat) : List ND := mkNs k (ns.take j) ++ ns.drop j
theorem ownT_shape {w : World} {base e size : Nat} {v : Value} {n : Nat} {xs : List Value} (h : w.ownsRow base e size v n xs) : ∃ a c, v = .slice a n c := by
 rcases h.2 with ⟨rfl, rfl⟩ | ⟨g, cap, cur, rfl, _⟩
 ·exact ⟨none, 0, rfl⟩
 ·exact ⟨_, _, rfl⟩
theorem rows_len1 {α : Type} {cs : α → List Value} (hc : ∀ x, (cs x).length = 1) (zs : List α) : (rowsOf cs zs).length = zs.length := by rw [rowsOf_length hc]; omega

def TN.nd (t : TN) : ND := ⟨t.leaf, t.page, fun r => if r = 0 then rowsOf strCells t.keys else if r = 1 then rowsOf strCells t.vals else if r = 2 then rowsOf intCells t.over else if r = 3 then rowsOf intCells t.kids else []⟩
theorem rowsC_snoc {ns : List ND} {nd : ND} {us : Nat → Nat → Value} {u : Nat → Value} : rowsC (fun i => hdC ((ns ++ [nd]).getD i dN) (if i = ns.length then u else us i)) (ns ++ [nd]).length = rowsC (fun i => hdC (ns.getD i dN) (us i)) ns.length ++ hdC nd u := by
 have e1 : (ns ++ [nd]).length = ns.length + 1 := by simp
 rw [e1, rowsC_succ, rowsC_congr (css := fun i => hdC (ns.getD i dN) (us i)) (fun i hi => ?_)]
 ·congr 1
  show hdC ((ns ++ [nd]).getD ns.length dN) (if ns.length = ns.length then u else us ns.length) = hdC nd u
  rw [if_pos rfl]
  simp [List.getD]
 ·show hdC ((ns ++ [nd]).getD i dN) (if i = ns.length then u else us i) = hdC (ns.getD i dN) (us i)
  rw [if_neg (by omega)]
  simp [List.getD, List.getElem?_append_left hi]
theorem getD_snocN (ns : List ND) (nd : ND) (i : Nat) : (ns ++ [nd]).getD i dN = if i = ns.length then nd else ns.getD i dN := by
 by_cases h : i = ns.length
 ·rw [if_pos h, h]; simp [List.getD]
 ·rw [if_neg h]
  by_cases h2 : i < ns.length
  ·simp [List.getD, List.getElem?_append_left h2]
  ·simp [List.getD, List.getElem?_append_right (by omega : ns.length ≤ i), show ¬ i < ns.length by omega, List.getElem?_eq_none (by simp; omega : [nd].length ≤ i - ns.length)]
theorem OwnT.push {w1 w2 w3 : World} {base M : Nat} {v v' : Value} {ns : List ND} {nd : ND} {us : Nat → Nat → Value} {u : Nat → Value} (h : OwnT w1 base v ns us) (hM : ∀ g, BlkT v ns.length us g → g < M) (hb : base ≤ M) (hk : Fr (fun g => M ≤ g) w1 w2)
  (hl : ∀ r, r < 4 → w2.ownsRow M (ety r) 1 (u r) (nd.l r).length (nd.l r)) (ha : ∀ r s, r < 4 → s < 4 → r ≠ s → ∀ g, (u r).ownBlock = some g → (u s).ownBlock ≠ some g)
  (hrow : w3.ownsRow base 92 6 v' (ns.length + 1) (rowsC (fun i => hdC (ns.getD i dN) (us i)) ns.length ++ hdC nd u)) (hgr : w2.grownBy w3 v.ownBlock) :
  OwnT w3 base v' (ns ++ [nd]) (fun i => if i = ns.length then u else us i) := by
 have h2 := h.fr hk (fun g hg e => by have := hM g hg; omega)
 have hf3 : Fr (fun g => v.ownBlock = some g) w2 w3 := Fr.of_grown hgr (fun g e => e)
 refine ⟨?_, ?_, ?_⟩
 ·rw [rowsC_snoc, show (ns ++ [nd]).length = ns.length + 1 by simp]
  exact hrow
 ·intro i hi r hr
  rw [show (ns ++ [nd]).length = ns.length + 1 by simp] at hi
  rw [getD_snocN]
  by_cases he : i = ns.length
  ·rw [if_pos he]
   simp only [he, if_true]
   exact owns_fr (own_lowerT (hl r hr) hb) hf3 (fun g hg e => by have h3 := (hl r hr).lt g hg; have := hM g (.inl e); omega)
  ·rw [if_neg he]
   simp only [he, if_false]
   have hi2 : i < ns.length := by omega
   exact owns_fr (h2.data i hi2 r hr) hf3 (fun g hg e => own_neT h2.row (h2.data i hi2 r hr) g hg e)
 ·intro i r j s hi hj hr hs hne g hg
  rw [show (ns ++ [nd]).length = ns.length + 1 by simp] at hi hj
  by_cases hei : i = ns.length <;> by_cases hej : j = ns.length
  ·simp only [hei, hej, if_true] at hg ⊢
   exact ha r s hr hs (fun e => hne ⟨by omega, e⟩) g hg
  ·simp only [hei, if_true] at hg
   simp only [hej, if_false]
   intro e
   have h3 := ((hl r hr).lt g hg).1
   have := hM g (.inr ⟨j, s, by omega, hs, e⟩)
   omega
  ·simp only [hei, if_false] at hg
   simp only [hej, if_true]
   intro e
   have h3 := ((hl s hs).lt g e).1
   have := hM g (.inr ⟨i, r, by omega, hr, hg⟩)
   omega
  ·simp only [hei, if_false] at hg
   simp only [hej, if_false]
   exact h.apart i r j s (by omega) (by omega) hr hs hne g hg
theorem OwnT.app {w w2 : World} {base g n c : Nat} {ns : List ND} {us : Nat → Nat → Value} (h : OwnT w base (.slice (some ⟨g, 0, none⟩) n c) ns us) {j q : Nat} (hj : j < ns.length) (hq : q < 4) {v' : Value} {zs : List Value}
  (hr : w2.ownsRow base (ety q) 1 v' zs.length zs) (hgr : w.grownBy w2 (us j q).ownBlock) (hat : v'.ownBlock = (us j q).ownBlock ∨ ∀ b, v'.ownBlock = some b → w.heap.size ≤ b) :
  OwnT (w2.setCell ⟨g, j * 6 + 2 + q, none⟩ v') base (.slice (some ⟨g, 0, none⟩) n c) (ns.set j ⟨(ns.getD j dN).leaf, (ns.getD j dN).page, fun r => if r = q then zs else (ns.getD j dN).l r⟩) (fun i r => if i = j ∧ r = q then v' else us i r) ∧ Fr (fun b => b = g ∨ (us j q).ownBlock = some b) w (w2.setCell ⟨g, j * 6 + 2 + q, none⟩ v') := by
 have hf2 : Fr (fun b => (us j q).ownBlock = some b) w w2 := Fr.of_grown hgr (fun b e => e)
 have hf3 : Fr (fun b => b = g) w2 (w2.setCell ⟨g, j * 6 + 2 + q, none⟩ v') := fr_setT w2 g _ v'
 have hn : n = ns.length := by
  rcases h.row.2 with ⟨h', _⟩ | ⟨g', cap', cur, h', _⟩
  ·simp at h'
  ·simp at h'; omega
 have hgl := h.row.lt g rfl
 have hrow2 : w2.ownsRow base 92 6 (.slice (some ⟨g, 0, none⟩) n c) ns.length (rowsC (fun i => hdC (ns.getD i dN) (us i)) ns.length) := owns_fr h.row hf2 (fun b hb e => own_neT h.row (h.data j hj q hq) b e hb)
 have hvg : v'.ownBlock ≠ some g := by
  rcases hat with e | e
  ·rw [e]; intro e2; exact own_neT h.row (h.data j hj q hq) g e2 rfl
  ·intro e2; have := e g e2; omega
 have hoth : ∀ i r, i < ns.length → r < 4 → ¬ (i = j ∧ r = q) → ∀ b, (us i r).ownBlock = some b → v'.ownBlock ≠ some b := fun i r hi hr2 hne b hb => by
  rcases hat with e | e
  ·rw [e]; exact h.apart i r j q hi hj hr2 hq hne b hb
  ·intro e2; have := e b e2; have := (h.data i hi r hr2).lt b hb; omega
 subst hn
 have r1 := (hrow2.stored (j * 6 + 2 + q) v').1
 refine ⟨⟨?_, ?_, ?_⟩, (hf2.weak (fun b e => .inr e)).trans (hf3.weak (fun b e => .inl e))⟩
 ·rw [List.length_set]
  have hx : (rowsC (fun i => hdC (ns.getD i dN) (us i)) ns.length).set (j * 6 + 2 + q) v' = rowsC (fun i => hdC ((ns.set j ⟨(ns.getD j dN).leaf, (ns.getD j dN).page, fun r => if r = q then zs else (ns.getD j dN).l r⟩).getD i dN) (fun r => if i = j ∧ r = q then v' else us i r)) ns.length := by
   have ha := rowsC_get (css := fun i => hdC (ns.getD i dN) (us i)) (m := ns.length) (fun i hi => hdC_len _ _)
   have hb := rowsC_get (css := fun i => hdC ((ns.set j ⟨(ns.getD j dN).leaf, (ns.getD j dN).page, fun r => if r = q then zs else (ns.getD j dN).l r⟩).getD i dN) (fun r => if i = j ∧ r = q then v' else us i r)) (m := ns.length) (fun i hi => hdC_len _ _)
   refine List.ext_getElem? (fun p => ?_)
   by_cases hp : p < ns.length * 6
   ·have hi : p / 6 < ns.length := by omega
    have hr6 : p % 6 < 6 := by omega
    have e := hb.2 (p / 6) (p % 6) hi hr6
    have e2 := ha.2 (p / 6) (p % 6) hi hr6
    rw [show p / 6 * 6 + p % 6 = p by omega] at e e2
    rw [e]
    show _ = (hdC ((ns.set j _).getD (p / 6) dN) (fun r => if p / 6 = j ∧ r = q then v' else us (p / 6) r))[p % 6]?
    rw [getD_setN _ _ _ _ _ hj]
    by_cases hij : p / 6 = j
    ·rw [if_pos hij]
     have hc : p % 6 = 0 ∨ p % 6 = 1 ∨ p % 6 = 2 ∨ p % 6 = 3 ∨ p % 6 = 4 ∨ p % 6 = 5 := by omega
     by_cases hpq : p = j * 6 + 2 + q
     ·rw [hpq, List.getElem?_set_self (by omega), ← hpq]
      have hc2 : p % 6 = 2 + q := by omega
      rw [hc2]
      have hq4 : q = 0 ∨ q = 1 ∨ q = 2 ∨ q = 3 := by omega
      rcases hq4 with rfl | rfl | rfl | rfl <;> simp [hdC, hij]
     ·rw [List.getElem?_set_ne (by omega), e2, hij]
      rcases hc with hc | hc | hc | hc | hc | hc <;> rw [hc] <;> simp [hdC] <;> intro e3 <;> omega
    ·rw [if_neg hij, List.getElem?_set_ne (by omega), e2]
     simp [hij]
   ·rw [List.getElem?_eq_none (by simp only [List.length_set]; omega), List.getElem?_eq_none (by omega)]
  rw [← hx]
  exact r1
 ·intro i hi r hr2
  rw [List.length_set] at hi
  rw [getD_setN _ _ _ _ _ hj]
  by_cases hc : i = j ∧ r = q
  ·obtain ⟨rfl, rfl⟩ := hc
   simp only [if_true, and_self]
   exact owns_fr hr hf3 (fun b hb e => by rw [e] at hb; exact hvg hb)
  ·have hd : w2.ownsRow base (ety r) 1 (us i r) ((ns.getD i dN).l r).length ((ns.getD i dN).l r) := owns_fr (h.data i hi r hr2) hf2 (fun b hb e => h.apart i r j q hi hj hr2 hq hc b hb e)
   have hd2 := owns_fr hd hf3 (fun b hb e => by rw [e] at hb; exact own_neT h.row (h.data i hi r hr2) g hb rfl)
   simp only [hc, if_false]
   by_cases hij : i = j
   ·subst hij
    have hrq : ¬ r = q := fun e => hc ⟨rfl, e⟩
    simp only [if_true, hrq, if_false]
    exact hd2
   ·simp only [hij, if_false]
    exact hd2
 ·intro i r k s hi hk hr2 hs hne b hb
  rw [List.length_set] at hi hk
  by_cases h1 : i = j ∧ r = q <;> by_cases h2 : k = j ∧ s = q
  ·exact absurd ⟨h1.1.trans h2.1.symm, h1.2.trans h2.2.symm⟩ hne
  ·simp only [h1, and_self, if_true] at hb
   simp only [h2, if_false]
   exact fun e => hoth k s hk hs h2 b e hb
  ·simp only [h1, if_false] at hb
   simp only [h2, and_self, if_true]
   exact hoth i r hi hr2 h1 b hb
  ·simp only [h1, if_false] at hb
   simp only [h2, if_false]
   exact h.apart i r k s hi hk hr2 hs hne b hb
end Go.Proofs.Ytcjjbajmjfgbcaa
