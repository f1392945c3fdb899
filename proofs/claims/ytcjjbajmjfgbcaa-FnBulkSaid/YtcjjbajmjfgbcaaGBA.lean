import Derived.Test.YtcjjbajmjfgbcaaGAA
import Derived.Test.YtcjjbajmjfgbcaaGAZ
namespace Go.Proofs.Ytcjjbajmjfgbcaa
open Go.RowKit
set_option linter.unusedVariables false
set_option linter.unusedSimpArgs false
set_option maxRecDepth 100000
theorem GMI.one {w : World} {P : Nat → Prop} {t : T} {L : Nat} {a : Option Addr} {n c : Nat} {ul : List Value} {Q : Nat → Nat → Prop} (h : GMI w P t L a n c ul Q) : ∀ u ∈ ul, u.oneCell' = true := by
 intro u hu
 obtain ⟨i, hi, rfl⟩ := List.mem_iff_getElem.1 hu
 have hul := h.row.1
 have hlen := h.len
 obtain ⟨k, hk⟩ : ∃ k, t.kids[i]? = some k := ⟨_, List.getElem?_eq_getElem (by omega)⟩
 have hg := h.kid i k (List.mem_of_getElem? hk) hk
 have e : ul.getD i .nilIface = ul[i] := by simp [List.getD, hi]
 rw [e] at hg
 obtain ⟨ty, v, e2⟩ := hg.shape
 rw [e2]
 rfl
theorem part_any {w : World} {P : Nat → Prop} {t : T} {u : Value} (h : GM w P t u) (k : Nat) (hk0 : 0 < k) (hkn : k < t.size) (hn : t.size ≤ 1000) (hP : ∀ b, P b → b < w.heap.size) : Calls Try.prog 34 #[u, .int .i64 k] w fun e w' => PartAns w P t k u e w' := by
 cases hl : t.leaf
 ·obtain ⟨L, a, n, c, ul, Q, rfl, q⟩ := h.inner hl
  have hs : t.size = n := by rw [q.len]; simp [T.size, hl]
  exact partInner_any q hl k hk0 (by omega) (by omega) hP q.one
 ·obtain ⟨L, a, n, c, rfl, q⟩ := h.leaf hl
  have hs : t.size = n := by rw [q.len]; simp [T.size, hl]
  exact partLeaf_any q hl k hk0 (by omega) (by omega) hP
theorem GM.size {w : World} {P : Nat → Prop} {t : T} {ty : TypeId} {v : Value} (h : GM w P t (.iface ty v)) : Obs w ty v "loop.example/s02098/impl.size" (.int .i64 t.size) := by
 cases hl : t.leaf
 ·obtain ⟨L, a, n, c, ul, Q, e, q⟩ := h.inner hl
  cases e
  have hs : t.size = n := by rw [q.len]; simp [T.size, hl]
  refine ⟨fun w => by kernel_rfl, 98, .pointer (some ⟨L, 0, none⟩), fun w => by kernel_rfl, fun w => by kernel_rfl, ?_⟩
  rw [hs]; exact innerSize_g q.box
 ·obtain ⟨L, a, n, c, e, q⟩ := h.leaf hl
  cases e
  have hs : t.size = n := by rw [q.len]; simp [T.size, hl]
  refine ⟨fun w => by kernel_rfl, 78, .pointer (some ⟨L, 0, none⟩), fun w => by kernel_rfl, fun w => by kernel_rfl, ?_⟩
  rw [hs]; exact leafSize_g q.see
def Wider (w w' : World) (P : Nat → Prop) : Nat → Prop := fun b => (P b ∨ w.heap.size ≤ b) ∧ b < w'.heap.size
theorem getD_set {ys : List T} {m i : Nat} {k z : T} (h : (ys.set m k)[i]? = some z) : (i = m ∧ z = k ∧ m < ys.length) ∨ (i ≠ m ∧ ys[i]? = some z) := by
 rw [List.getElem?_set] at h
 split at h
 ·rename_i e
  split at h
  ·rename_i h2
   simp at h
   exact .inl ⟨e.symm, h.symm, h2⟩
  ·cases h
 ·rename_i e
  exact .inr ⟨fun e2 => e e2.symm, h⟩
theorem GMI.swap {w w' : World} {P : Nat → Prop} {t : T} {L : Nat} {a : Option Addr} {n c : Nat} {ul : List Value} {Q : Nat → Nat → Prop} (h : GMI w P t L a n c ul Q) (hP : ∀ b, P b → b < w.heap.size) {m : Nat} (hm : m < n) {R : Nat → Prop} {k : T} (hf : Fr (Q m) w w') (hk : GM w' R k (ul.getD m .nilIface)) (hR : ∀ b, R b → (Q m b ∨ w.heap.size ≤ b) ∧ b < w'.heap.size) :
  GMI w' (Wider w w' P) { t with kids := t.kids.set m k } L a n c ul (fun i b => if i = m then R b else Q i b) := by
 have hsz := hf.size
 have hL := hP L h.at'
 have hQL : ¬ Q m L := fun e => (h.sub m L e).2.1 rfl
 refine ⟨⟨.inl h.at', by omega⟩, (hf.block L hL hQL).trans h.box, owns_fr h.row hf (fun g hg e => (h.sub m g e).2.2 hg), fun g hg => ⟨⟨.inl (h.blk g hg).1, by have := hP g (h.blk g hg).1; omega⟩, (h.blk g hg).2⟩, by simpa using h.len, fun i j b hi hj => ?_, fun i b hi => ?_, fun i z hz hi => ?_⟩
 ·skip
  split at hi <;> split at hj
  ·omega
  ·rename_i e1 e2
   rcases (hR b hi).1 with e | e
   ·have := h.dis m j b e hj; omega
   ·have := hP b (h.sub j b hj).1; omega
  ·rename_i e1 e2
   rcases (hR b hj).1 with e | e
   ·have := h.dis i m b hi e; omega
   ·have := hP b (h.sub i b hi).1; omega
  ·exact h.dis i j b hi hj
 ·skip
  split at hi
  ·have h9 := hR b hi
   rcases h9.1 with e | e
   ·exact ⟨⟨.inl (h.sub m b e).1, h9.2⟩, (h.sub m b e).2⟩
   ·exact ⟨⟨.inr e, h9.2⟩, by omega, fun e2 => by have := hP b (h.blk b e2).1; omega⟩
  ·exact ⟨⟨.inl (h.sub i b hi).1, by have := hP b (h.sub i b hi).1; omega⟩, (h.sub i b hi).2⟩
 ·rcases getD_set hi with ⟨rfl, rfl, _⟩ | ⟨hne, hz2⟩
  ·simp only [if_true]; exact hk
  ·simp only [if_neg hne]
   exact GM.keep z (Q i) (Q i) _ (fun b hb => hf.block b (hP b (h.sub i b hb).1) (fun e => hne (h.dis i m b hb e))) (fun _ hb => hb) (h.kid i z (List.mem_of_getElem? hz2) hz2)
theorem GMI.ins {w w4 : World} {P : Nat → Prop} {t : T} {L : Nat} {a a' : Option Addr} {n c c' j : Nat} {ul : List Value} {Q : Nat → Nat → Prop} (h : GMI w P t L a n c ul Q) (hP : ∀ b, P b → b < w.heap.size) (hj : j ≤ n) {R : Nat → Prop} {k : T} {u : Value} (hk : GM w R k u) (hRP : ∀ b, R b → P b) (hRQ : ∀ i b, R b → ¬ Q i b) (hRL : ¬ R L) (hRg : ∀ g, (Value.slice a n c).ownBlock = some g → ¬ R g)
  (g1 : w4.ownsRow 0 51 1 (.slice a' (n + 1) c') (n + 1) (ul.take j ++ [u] ++ ul.drop j)) (g2 : w.grownBy w4 (Value.slice a n c).ownBlock) (g3 : (Value.slice a' (n + 1) c').ownBlock = (Value.slice a n c).ownBlock ∨ ∀ g, (Value.slice a' (n + 1) c').ownBlock = some g → w.heap.size ≤ g) :
  GMI (w4.setCell ⟨L, 1, none⟩ (.slice a' (n + 1) c')) (Wider w w4 P) { t with kids := t.kids.take j ++ [k] ++ t.kids.drop j } L a' (n + 1) c' (ul.take j ++ [u] ++ ul.drop j) (fun i b => if i < j then Q i b else if i = j then R b else Q (i - 1) b) ∧ w4.heap[L]? = some (.cells #[.int .i64 t.page, .slice a n c] 85) := by
 have hul : ul.length = n := by have := h.row.1; omega
 have hlen := h.len
 have hL := hP L h.at'
 have hs4 := g2.size
 have hst := fr_setT w4 L 1 (.slice a' (n + 1) c')
 have hbox4 : w4.heap[L]? = some (.cells #[.int .i64 t.page, .slice a n c] 85) := (g2.block L hL (fun e => (h.blk L e.symm).2 rfl)).trans h.box
 have hkeep : ∀ b, P b → b ≠ L → (Value.slice a n c).ownBlock ≠ some b → (w4.setCell ⟨L, 1, none⟩ (.slice a' (n + 1) c')).heap[b]? = w.heap[b]? := fun b h1 h2 h3 => (hst.block b (by have := hP b h1; omega) h2).trans (g2.block b (hP b h1) (fun e => h3 e.symm))
 have hnew : ∀ b, P b → (Value.slice a n c).ownBlock ≠ some b → (Value.slice a' (n + 1) c').ownBlock ≠ some b := fun b h1 h2 e => by
  rcases g3 with e1 | e1
  ·rw [e1] at e; exact h2 e
  ·have := e1 b e; have := hP b h1; omega
 have hnL : ∀ g, (Value.slice a' (n + 1) c').ownBlock = some g → g ≠ L := fun g hg e => by
  rcases g3 with e1 | e1
  ·rw [e1] at hg; exact (h.blk g hg).2 e
  ·have := e1 g hg; omega
 have hRo : ∀ b, R b → (Value.slice a n c).ownBlock ≠ some b := fun b hb e => hRg b e hb
 refine ⟨⟨⟨.inl h.at', by omega⟩, ?_, ?_, fun g hg => ⟨⟨?_, (g1.lt g hg).2⟩, hnL g hg⟩, ?_, fun i i' b hi hi' => ?_, fun i b hi => ?_, fun i z hz hi => ?_⟩, hbox4⟩
 ·simpa using heap_setT hbox4 1 (.slice a' (n + 1) c')
 ·exact owns_fr g1 hst (fun g hg e => hnL g hg e)
 ·rcases g3 with e1 | e1
  ·rw [e1] at hg; exact .inl (h.blk g hg).1
  ·exact .inr (e1 g hg)
 ·simp only [List.length_append, List.length_take, List.length_drop, List.length_cons, List.length_nil]; omega
 ·skip
  split at hi <;> split at hi'
  ·exact h.dis i i' b hi hi'
  ·split at hi'
   ·exact absurd hi (hRQ i b hi')
   ·have := h.dis i (i' - 1) b hi hi'; omega
  ·split at hi
   ·exact absurd hi' (hRQ i' b hi)
   ·have := h.dis (i - 1) i' b hi hi'; omega
  ·split at hi <;> split at hi'
   ·omega
   ·exact absurd hi' (hRQ _ b hi)
   ·exact absurd hi (hRQ _ b hi')
   ·have := h.dis (i - 1) (i' - 1) b hi hi'; omega
 ·skip
  have hq : ∀ i, Q i b → Wider w w4 P b ∧ b ≠ L ∧ (Value.slice a' (n + 1) c').ownBlock ≠ some b := fun i hi => by
   have h9 := h.sub i b hi
   exact ⟨⟨.inl h9.1, by have := hP b h9.1; omega⟩, h9.2.1, hnew b h9.1 h9.2.2⟩
  split at hi
  ·exact hq i hi
  ·split at hi
   ·exact ⟨⟨.inl (hRP b hi), by have := hP b (hRP b hi); omega⟩, fun e => hRL (by rw [← e]; exact hi), hnew b (hRP b hi) (hRo b hi)⟩
   ·exact hq _ hi
 ·have hkq : ∀ i z, t.kids[i]? = some z → GM (w4.setCell ⟨L, 1, none⟩ (.slice a' (n + 1) c')) (Q i) z (ul.getD i .nilIface) := fun i z hz =>
   GM.keep z (Q i) (Q i) _ (fun b hb => hkeep b (h.sub i b hb).1 (h.sub i b hb).2.1 (h.sub i b hb).2.2) (fun _ hb => hb) (h.kid i z (List.mem_of_getElem? hz) hz)
  dsimp only at hi
  rw [List.append_assoc] at hi
  by_cases h1 : i < j
  ·rw [List.getElem?_append_left (by rw [List.length_take]; omega), List.getElem?_take, if_pos h1] at hi
   have e : (ul.take j ++ [u] ++ ul.drop j).getD i .nilIface = ul.getD i .nilIface := by
    simp only [List.getD, List.append_assoc]
    rw [List.getElem?_append_left (by rw [List.length_take]; omega), List.getElem?_take, if_pos h1]
   rw [e]
   simp only [if_pos h1]
   exact hkq i z hi
  ·rw [List.getElem?_append_right (by rw [List.length_take]; omega), List.length_take, show min j t.kids.length = j by omega] at hi
   by_cases h2 : i = j
   ·subst h2
    simp at hi
    subst hi
    have e : (ul.take i ++ [u] ++ ul.drop i).getD i .nilIface = u := by
     simp only [List.getD, List.append_assoc]
     rw [List.getElem?_append_right (by rw [List.length_take]; omega), List.length_take, show min i ul.length = i by omega, Nat.sub_self]
     rfl
    rw [e]
    simp only [Nat.lt_irrefl, if_false, if_true]
    exact GM.keep k R R u (fun b hb => hkeep b (hRP b hb) (fun e => hRL (by rw [← e]; exact hb)) (hRo b hb)) (fun _ h => h) hk
   ·obtain ⟨d, rfl⟩ : ∃ d, i = j + 1 + d := ⟨i - (j + 1), by omega⟩
    have hd : j + 1 + d - j = d + 1 := by omega
    rw [hd] at hi
    simp only [List.cons_append, List.nil_append, List.getElem?_cons_succ, List.getElem?_drop] at hi
    have e : (ul.take j ++ [u] ++ ul.drop j).getD (j + 1 + d) .nilIface = ul.getD (j + d) .nilIface := by
     simp only [List.getD, List.append_assoc]
     rw [List.getElem?_append_right (by rw [List.length_take]; omega), List.length_take, show min j ul.length = j by omega, hd]
     simp only [List.cons_append, List.nil_append, List.getElem?_cons_succ, List.getElem?_drop]
    rw [e]
    simp only [if_neg h1, if_neg h2, show j + 1 + d - 1 = j + d by omega]
    exact hkq (j + d) z hi
theorem GMI.see {w : World} {P : Nat → Prop} {t : T} {L : Nat} {a : Option Addr} {n c : Nat} {ul : List Value} {Q : Nat → Nat → Prop} (q : GMI w P t L a n c ul Q) : GInner w P t L a n c (fun i => ul.getD i .nilIface) := by
 have hrow := q.row
 refine ⟨q.at', q.box, ?_, ?_, fun i k hm hi => GIs.keep (fun _ _ => rfl) (fun b hb => (q.sub i b hb).1) k _ (GM.see k (Q i) _ (q.kid i k hm hi))⟩
 ·rcases hrow.2 with ⟨e, e2⟩ | ⟨g, cap, cur, e, h1, h2, h3, h4, _⟩
  ·simp only [Value.slice.injEq] at e
   exact ⟨q.len, by omega, by omega⟩
  ·simp only [Value.slice.injEq] at e
   obtain ⟨_, _, rfl⟩ := e
   exact ⟨q.len, h3, h4⟩
 ·intro hn
  rcases hrow.2 with ⟨e, e2⟩ | ⟨g, cap, cur, e, h1, h2, h3, h4, _⟩
  ·omega
  ·simp only [Value.slice.injEq] at e
   obtain ⟨rfl, _, rfl⟩ := e
   refine ⟨g, rfl, (q.blk g rfl).1, fun i hi => ?_⟩
   rw [hrow.cellAt i (by omega)]
   have hul := hrow.1
   simp [List.getD, show i < ul.length by omega]
theorem GMI.below {w w' : World} {P : Nat → Prop} {t : T} {L : Nat} {a : Option Addr} {n c : Nat} {ul : List Value} {Q : Nat → Nat → Prop} (h : GMI w P t L a n c ul Q) (hP : ∀ b, P b → b < w.heap.size) (hb : Below w.heap.size w w') : GMI w' P t L a n c ul Q :=
 ⟨h.at', (hb.block L (hP L h.at')).trans h.box, owns_below h.row hb, h.blk, h.len, h.dis, h.sub, fun i k hm hi => GM.keep k (Q i) (Q i) _ (fun b hq => hb.block b (hP b (h.sub i b hq).1)) (fun _ h => h) (h.kid i k hm hi)⟩
theorem GMI.re {w : World} {P : Nat → Prop} {t t' : T} {L : Nat} {a : Option Addr} {n c : Nat} {ul : List Value} {Q : Nat → Nat → Prop} (h : GMI w P t L a n c ul Q) (hp : t'.page = t.page) (hk : t'.kids = t.kids) : GMI w P t' L a n c ul Q :=
 ⟨h.at', by rw [hp]; exact h.box, h.row, h.blk, by rw [hk]; exact h.len, h.dis, h.sub, fun i k hm hi => h.kid i k (by rw [← hk]; exact hm) (by rw [← hk]; exact hi)⟩
def PutOk (key val : ByteArray) (k : T) : Prop := ∀ (w : World) (P : Nat → Prop) (ty : TypeId) (v : Value), GM w P k (.iface ty v) → (∀ b, P b → b < w.heap.size) → (∀ w, (nilAhead 249 ty v "loop.example/s02098/impl.put").run Try.prog w = .ok (some false) w) ∧ ∃ f r, (∀ w, (method 249 ty v "loop.example/s02098/impl.put").run Try.prog w = .ok (f, r) w) ∧ (∀ x w, (callFunc f #[r, x]).run Try.prog w = .ok (.enter f #[r, x]) w) ∧ Calls Try.prog f #[r, .agg #[.string key, .string val, .int .i64 0]] w fun e w' => PutAns w P (putT key val k) (.iface ty v) e w'
theorem setT_one {ys : List T} {m : Nat} {k : T} (h : m < ys.length) : ys.set m k = ys.take m ++ [k] ++ ys.drop (m + 1) := by
 rw [List.set_eq_take_append_cons_drop, if_pos h]
 simp
theorem setT_two {ys : List T} {m : Nat} {x k1 k2 : T} (h : m < ys.length) : ((ys.set m x).set m k1).take (m + 1) ++ [k2] ++ ((ys.set m x).set m k1).drop (m + 1) = ys.take m ++ [k1, k2] ++ ys.drop (m + 1) := by
 rw [List.set_set, setT_one h]
 have e1 : (ys.take m ++ [k1] ++ ys.drop (m + 1)).take (m + 1) = ys.take m ++ [k1] := by
  rw [List.take_append_of_le_length (by simp; omega), List.take_of_length_le (by simp; omega)]
 have e2 : (ys.take m ++ [k1] ++ ys.drop (m + 1)).drop (m + 1) = ys.drop (m + 1) := by
  rw [List.drop_append_of_le_length (by simp; omega), List.drop_of_length_le (by simp; omega), List.nil_append]
 rw [e1, e2]
 simp
theorem GMI.set0 {w W0 W1 : World} {P : Nat → Prop} {t : T} {L : Nat} {a : Option Addr} {n c : Nat} {ul : List Value} {Q : Nat → Nat → Prop} (h : GMI w P t L a n c ul Q) (hP : ∀ b, P b → b < w.heap.size) (hb : Below w.heap.size w W0) (hW : W1 = W0.setCell ⟨L, 0, none⟩ (.int .i64 0)) : GMI W1 P { t with page := 0 } L a n c ul Q := by
 have h0 := h.below hP hb
 have f1 := fr_setT W0 L 0 (.int .i64 0)
 rw [← hW] at f1
 have hs := hb.size
 refine ⟨h.at', by rw [hW]; simpa using heap_setT h0.box 0 (.int .i64 0), owns_fr h0.row f1 (fun g hg e => (h.blk g hg).2 e), h.blk, h.len, h.dis, h.sub, fun i k hm hi => GM.keep k (Q i) (Q i) _ (fun b hq => f1.block b (by have := hP b (h.sub i b hq).1; omega) (h.sub i b hq).2.1) (fun _ h => h) (h0.kid i k hm hi)⟩
theorem getD_kid {w : World} {P : Nat → Prop} {t : T} {L : Nat} {a : Option Addr} {n c m : Nat} {ul : List Value} {Q : Nat → Nat → Prop} (h : GMI w P t L a n c ul Q) (hm : m < n) : ∃ b ty v, a = some ⟨b, 0, none⟩ ∧ ul.getD m .nilIface = .iface ty v ∧ w.cell? ⟨b, m, none⟩ = some (.iface ty v) := by
 have hl := h.len
 obtain ⟨k, hk⟩ : ∃ k, t.kids[m]? = some k := ⟨_, List.getElem?_eq_getElem (by omega)⟩
 obtain ⟨ty, v, e⟩ := (h.kid m k (List.mem_of_getElem? hk) hk).shape
 obtain ⟨b, e2, _, hc⟩ := h.see.row (by omega)
 exact ⟨b, ty, v, e2, e, (hc m hm).trans (by rw [e])⟩
set_option maxHeartbeats 4000000 in
theorem innerPut_any {w : World} {P : Nat → Prop} {t : T} {L : Nat} {a : Option Addr} {n c : Nat} {ul : List Value} {Q : Nat → Nat → Prop} (h : GMI w P t L a n c ul Q) (hl : t.leaf = false) (hn0 : 0 < n) (hn : n ≤ 4) (hP : ∀ b, P b → b < w.heap.size) (key val : ByteArray) (hko : ∀ k ∈ t.kids, k.nodes ≤ 100000 ∧ k.good false = true ∧ 0 ≤ k.ht) (hps : ∀ k ∈ t.kids, (putT key val k).size ≤ 5) (IH : ∀ k ∈ t.kids, (∃ i, TowardIs t key i ∧ t.kids[i]? = some k) → PutOk key val k) :
  Calls Try.prog 97 #[.pointer (some ⟨L, 0, none⟩), .agg #[.string key, .string val, .int .i64 0]] w fun e w' => PutAns w P (putT key val t) (.iface 82 (.pointer (some ⟨L, 0, none⟩))) e w' := by
 obtain ⟨N, hN⟩ : ∃ N, w.heap.size = N := ⟨_, rfl⟩
 have hLN : L < N := by have := hP L h.at'; omega
 have HIH : Hid (∀ k ∈ t.kids, (∃ i, TowardIs t key i ∧ t.kids[i]? = some k) → PutOk key val k) := IH
 have HKO : Hid (∀ k ∈ t.kids, k.nodes ≤ 100000 ∧ k.good false = true ∧ 0 ≤ k.ht) := hko
 have HPS : Hid (∀ k ∈ t.kids, (putT key val k).size ≤ 5) := hps
 have HLF : Hid (t.leaf = false) := hl
 have hPL := h.at'
 have ab := (Below.refl w.heap.size w).alloc (Nat.le_refl _) (.cells #[.string key, .string val, .int .i64 0] 73)
 have kb := heap_alloc_new w (.cells #[.string key, .string val, .int .i64 0] 73)
 have z0 : (w.alloc (.cells #[.string key, .string val, .int .i64 0] 73)).heap.size = N + 1 := by simp [hN]
 rw [hN] at kb
 have HH : Hid (GMI w P t L a n c ul Q) := h
 have hbox0 := (ab.block L (by omega)).trans h.box
 have hsoil := soil_any hbox0
 clear h IH hko hps hl
 go_enter Try.func97, Try.ntmps97
 go_upto_region 1 with fail
 generalize w.alloc (.cells #[.string key, .string val, .int .i64 0] 73) = W0 at *
 go_wp2_with fail
 refine hsoil.mono ?_
 rintro e W1 ⟨rfl, hW1⟩
 have f1 := fr_setT W0 L 0 (.int .i64 0)
 rw [← hW1] at f1
 have h1 := HH.out.set0 hP ab hW1
 have kb1 := (f1.block N (by omega) (by omega)).trans kb
 have s1 := f1.size
 have F1 : Fr (fun b => P b ∨ N ≤ b) w W1 := (Fr.of_below ab).trans (f1.weak (fun g e => .inl (by rw [e]; exact hPL)))
 have hP1 : ∀ b, P b → b < W1.heap.size := fun b hb => by have := hP b hb; omega
 have htow := toward_any h1.see hn0 (by omega) (fun i k hi => by
  have hi2 : t.kids[i]? = some k := hi
  have hkm : k ∈ t.kids := List.mem_of_getElem? hi2
  have hgk := h1.kid i k hkm hi2
  obtain ⟨ty, v, e⟩ := hgk.shape
  rw [e] at hgk
  obtain ⟨o1, o2, o3⟩ := HKO.out k hkm
  have hks : 0 < k.size := by
   rw [T.good_eq] at o2
   simp only [Bool.and_eq_true, decide_eq_true_eq] at o2
   have := o2.1.1.1.1.1
   simp at this
   omega
  exact ⟨ty, v, e, (GIs.obj k ty v o1 ⟨false, o2⟩ o3 (GM.see _ _ _ hgk)).least hks⟩) key
 obtain ⟨q0, q1, q2⟩ := box3w' kb1
 have lN1 : N < W1.heap.size := by omega
 have H1 : Hid _ := h1
 clear hsoil hW1 f1 hbox0 kb ab h1
 go_wp2_with fail
 refine htow.mono ?_
 rintro e wx ⟨m, rfl, hm, rfl⟩
 have hm2 : TowardIs t key m := hm
 have HTW : Hid (towN key t.kids = m) := tow_is hm2
 have hlen := HH.out.len
 have hmn : m < n := by have := hm2.1; omega
 obtain ⟨k, hk⟩ : ∃ k, t.kids[m]? = some k := ⟨_, List.getElem?_eq_getElem hm2.1⟩
 have hkm : k ∈ t.kids := List.mem_of_getElem? hk
 obtain ⟨b, ty, v, rfl, eu, hcell⟩ := getD_kid H1.out hmn
 have hgk := H1.out.kid m k hkm hk
 rw [eu] at hgk
 obtain ⟨hna, f, r, hme, hcf, hcall⟩ := HIH.out k hkm ⟨m, hm2, hk⟩ wx (Q m) ty v hgk (fun x hx => hP1 x (H1.out.sub m x hx).1)
 have hcf2 := hcf (.agg #[.string key, .string val, .int .i64 0])
 obtain ⟨c0, c1⟩ := box_twoG H1.out.box
 have l1 : L < wx.heap.size := by omega
 have hbl : b < wx.heap.size := lt_of_cellG hcell
 have hsk := HPS.out k hkm
 have HPT : Hid (putT key val t = ⟨false, 0, [], [], [], t.kids.take m ++ cutT (putT key val k) ++ t.kids.drop (m + 1)⟩) := by
  show _ = _
  have := putT_inner (key := key) (val := val) HLF.out (k := k) (by rw [HTW.out]; exact hk)
  rw [HTW.out] at this
  exact this
 have HEU : Hid (ul.getD m .nilIface = .iface ty v) := eu
 have HKL : Hid (n = t.kids.length) := hlen
 clear htow hm hm2 hk hkm hgk hcf HIH HKO HPS HTW HLF eu hlen
 generalize putT key val k = k' at *
 go_wp2_with fail
 refine hcall.mono ?_
 rintro e V ⟨rfl, ⟨Pm, hgm, hpm⟩, hfm⟩
 have sV := hfm.size
 have h2 := H1.out.swap hP1 hmn hfm (by rw [HEU.out]; exact hgm) hpm
 have FV : Fr (fun b => P b ∨ N ≤ b) w V := F1.trans (hfm.weak (fun g e => .inl (H1.out.sub m g e).1))
 have hP2 : ∀ x, Wider wx V P x → x < V.heap.size := fun x hx => hx.2
 obtain ⟨hns, f2, r2, hms, hcs2, hsize⟩ := hgm.size
 have H2 : Hid _ := h2
 have hs5 : k'.size ≤ 5 := hsk
 have HSZ : Hid (∃ s, k'.size = s) := ⟨_, rfl⟩
 obtain ⟨s, hs⟩ := HSZ.out
 have HS : Hid (k'.size = s) := hs
 rw [hs] at hsize hs5
 have hWN : ∀ x, Wider wx V P x → P x ∨ N ≤ x := fun x hx => by
  rcases hx.1 with e | e
  ·exact .inl e
  ·exact .inr (by omega)
 clear hcall c0 c1 q0 q1 q2 hcell kb1 h2 hs hsk hna hme hcf2 hP1
 go_wp2_with fail
 refine hsize.mono ?_
 rintro e wy ⟨rfl, rfl⟩
 by_cases h4 : s ≤ 4
 ·have hd : ¬ ((4 : Int) < (s : Int)) := by omega
  have HFIN : Hid (PutAns w P (putT key val t) (.iface 82 (.pointer (some ⟨L, 0, none⟩))) (.returned (.tuple #[])) wy) := by
   refine ⟨rfl, ⟨Wider wx wy P, ?_, fun x hx => ⟨by rw [hN]; exact hWN x hx, hx.2⟩⟩, fr_tight (by rw [hN]; exact FV)⟩
   rw [HPT.out]
   refine GMI.is (t := ⟨false, 0, [], [], [], _⟩) (H2.out.re rfl ?_) rfl
   show _ = t.kids.set m k'
   have hc : cutT k' = [k'] := by unfold cutT; rw [if_pos (by rw [HS.out]; exact h4)]
   rw [hc, setT_one (by have := HKL.out; omega)]
  clear hsize hms hns hcs2 FV hpm hgm hfm
  go_wp2_with fail
  go_end0
  exact ⟨rfl, HFIN.out.2⟩
 ·have hd : (4 : Int) < (s : Int) := by omega
  have hgd : GM wy.drew Pm k' (.iface ty v) := hgm.drew
  have hpart := part_any hgd 3 (by omega) (by rw [HS.out]; omega) (by rw [HS.out]; omega) (fun x hx => (hpm x hx).2)
  have HD : Hid _ := H2.out.below hP2 ((Below.refl _ wy).drew)
  have boxD := HD.out.box
  have hmw : IntKind.i64.wrap ((m : Int) + 1) = (m : Int) + 1 := by rw [IntKind.wrap_i64]; omega
  have FD : Fr (fun b => P b ∨ N ≤ b) w wy.drew := FV.trans (Fr.of_below ((Below.refl _ wy).drew))
  have HFIN : Hid (∀ e w3, PartAns wy.drew Pm k' 3 (.iface ty v) e w3 → ∃ ty2 v2, e = .returned (.iface ty2 v2) ∧ w3.heap[L]? = some (.cells #[.int .i64 0, .slice (some ⟨b, 0, none⟩) n c] 85) ∧ (w3.alloc (.cells #[.iface ty2 v2] 51)).heap[L]? = some (.cells #[.int .i64 0, .slice (some ⟨b, 0, none⟩) n c] 85) ∧ Calls Try.prog 102 #[.slice (some ⟨b, 0, none⟩) n c, .int .i64 ((m : Int) + 1), .slice (some ⟨w3.heap.size, 0, none⟩) 1 1] (w3.alloc (.cells #[.iface ty2 v2] 51)) fun e w4 => ∃ a' c', e = .returned (.slice a' (n + 1) c') ∧ w4.heap[L]? = some (.cells #[.int .i64 0, .slice (some ⟨b, 0, none⟩) n c] 85) ∧ PutAns w P (putT key val t) (.iface 82 (.pointer (some ⟨L, 0, none⟩))) (.returned (.tuple #[])) (w4.setCell ⟨L, 1, none⟩ (.slice a' (n + 1) c'))) := by
   rintro e w3 ⟨u2, rfl, ⟨P1, P2, hg1, hg2, hdis, hpp⟩, hf3⟩
   obtain ⟨ty2, v2, rfl⟩ := hg2.shape
   have s3 : wy.heap.size ≤ w3.heap.size := hf3.size
   have hDs : wy.drew.heap.size = wy.heap.size := rfl
   have HD' := HD.out
   have e3 : (fun x => if m = m then Pm x else Q m x) = Pm := by funext x; simp
   have h3 := HD'.swap (fun x hx => hx.2) (m := m) hmn (R := P1) (k := k'.fore 3) (by rw [e3]; exact hf3) (by rw [HEU.out]; exact hg1) (fun x hx => by have := hpp x (.inl hx); simpa using this)
   have ba : Below w3.heap.size w3 (w3.alloc (.cells #[.iface ty2 v2] 51)) := (Below.refl _ _).alloc (Nat.le_refl _) _
   have hA := h3.below (fun x hx => hx.2) ba
   have kA := heap_alloc_new w3 (.cells #[.iface ty2 v2] 51)
   have sA : (w3.alloc (.cells #[.iface ty2 v2] 51)).heap.size = w3.heap.size + 1 := by simp
   have hgA : GM (w3.alloc (.cells #[.iface ty2 v2] 51)) P2 (k'.rest 3) (.iface ty2 v2) := GM.keep _ P2 P2 _ (fun x hx => ba.block x (hpp x (.inr hx)).2) (fun _ h => h) hg2
   have hpm2 : ∀ x, Pm x → Wider wx wy P x ∧ x ≠ L ∧ (Value.slice (some ⟨b, 0, none⟩) n c).ownBlock ≠ some x := fun x hx => by
    have := HD'.sub m x (by rw [if_pos rfl]; exact hx)
    exact this
   have hLs : L < wy.heap.size := by have := hP2 L HD'.at'; omega
   refine ⟨ty2, v2, rfl, h3.box, hA.box, ?_⟩
   have hins := insertNode_any (m + 1) n c w3.heap.size (some ⟨b, 0, none⟩) ul [.iface ty2 v2] _ hA.row (by omega) (by omega) rfl kA (fun e => by have := (hA.blk _ e).1.2; omega) (by simp [Value.oneCell']) hA.one
   refine hins.mono ?_
   rintro e w4 ⟨a', c', rfl, g1, g2, g3⟩
   have s4 := g2.size
   have hRP : ∀ x, P2 x → Wider wy.drew w3 (Wider wx wy P) x := fun x hx => by
    have h9 := hpp x (.inr hx)
    rcases h9.1 with e | e
    ·exact ⟨.inl (hpm2 x e).1, h9.2⟩
    ·exact ⟨.inr e, h9.2⟩
   obtain ⟨hI, hbox4⟩ := hA.ins (j := m + 1) (a' := a') (c' := c') (fun x hx => by have := hx.2; omega) (by omega) hgA hRP (fun i x hx hq => by
    by_cases hi : i = m
    ·simp only [if_pos hi] at hq
     exact hdis x hq hx
    ·simp only [if_neg hi] at hq
     rcases (hpp x (.inr hx)).1 with e | e
     ·exact hi (HD'.dis i m x (by simp only [if_neg hi]; exact hq) (by rw [if_pos rfl]; exact e))
     ·have := (HD'.sub i x (by simp only [if_neg hi]; exact hq)).1.2
      omega) (fun hx => by
     rcases (hpp L (.inr hx)).1 with e | e
     ·exact (hpm2 L e).2.1 rfl
     ·omega) (fun g hg hx => by
     rcases (hpp g (.inr hx)).1 with e | e
     ·exact (hpm2 g e).2.2 hg
     ·have := (HD'.blk g hg).1.2; omega) g1 g2 g3
   refine ⟨a', c', rfl, hbox4, rfl, ⟨_, GMI.is (hI.re (t' := putT key val t) (by rw [HPT.out]) ?_) (by rw [HPT.out]), fun x hx => ?_⟩, ?_⟩
   ·rw [HPT.out]
    show t.kids.take m ++ cutT k' ++ t.kids.drop (m + 1) = ((t.kids.set m k').set m (k'.fore 3)).take (m + 1) ++ [k'.rest 3] ++ ((t.kids.set m k').set m (k'.fore 3)).drop (m + 1)
    have hc : cutT k' = [k'.fore 3, k'.rest 3] := by unfold cutT; rw [if_neg (by rw [HS.out]; omega)]
    rw [hc, setT_two (by have := HKL.out; omega)]
   ·have hx2 := hx.2
    refine ⟨?_, by simpa [World.setCell] using hx2⟩
    rw [hN]
    rcases hx.1 with e | e
    ·rcases e.1 with e | e
     ·exact hWN x e
     ·exact .inr (by omega)
    ·exact .inr (by omega)
   ·refine fr_tight ?_
    rw [hN]
    have e5 := fr_setT w4 L 1 (.slice a' (n + 1) c')
    refine (((FD.trans (hf3.weak (fun g e => hWN g (hpm2 g e).1))).trans (Fr.of_below ba)).trans (Fr.of_grown g2 (fun g hg => ?_))).trans (e5.weak (fun g e => .inl (by rw [e]; exact hPL)))
    rcases (hA.blk g hg).1.1 with e | e
    ·exact hWN g e
    ·exact .inr (by omega)
  have hLy : L < wy.heap.size := by have := HD.out.at'; exact this.2
  clear hsize hms hns hcs2 FV hpm hgm hfm FD hgd H2 hP2 hWN H1 F1
  go_upto_region 6 with fail
  refine wp_region_noPanic ?_
  refine wp_region_held_drew (S := (fun _ : World => True)) (by kernel_rfl) (trivial) (fun hHeld => ?_)
  refine tkB (i := 0) (v := .pointer (some ⟨L, 0, none⟩)) .z (by kernel_rfl) (fun _ _ _ h => h) (Or.inl ⟨by rfl, ?_⟩) (by assumption) ?_
  ·intro wq hSw; (try dsimp only at hSw); go_simp
  try simp only [Act.put, q1, q2, q3]
  refine tkB (i := 1) (v := .pointer (some ⟨L, 0, none⟩)) (.s .z) (by kernel_rfl) (fun _ _ _ h => h) (Or.inl ⟨by rfl, ?_⟩) (by assumption) ?_
  ·intro wq hSw; (try dsimp only at hSw); go_simp
  try simp only [Act.put, q1, q2, q3]
  refine tkB (i := 2) (v := .pointer (some ⟨L, 0, none⟩)) (.s (.s .z)) (by kernel_rfl) (fun _ _ _ h => h) (Or.inl ⟨by rfl, ?_⟩) (by assumption) ?_
  ·intro wq hSw; (try dsimp only at hSw); go_simp
  try simp only [Act.put, q1, q2, q3]
  refine tkB (i := 3) (v := .pointer (some ⟨L, 1, none⟩)) (.s (.s (.s .z))) (by kernel_rfl) (fun _ _ _ h => h) (Or.inl ⟨by rfl, ?_⟩) (by assumption) ?_
  ·intro wq hSw; (try dsimp only at hSw); go_simp
  try simp only [Act.put, q1, q2, q3]
  refine tkB (i := 5) (v := .int .i64 (m : Int)) (.f .z) (by kernel_rfl) (fun _ _ _ h => h) (Or.inl ⟨by rfl, ?_⟩) (by assumption) ?_
  ·intro wq hSw; (try dsimp only at hSw); go_simp
  try simp only [Act.put, q1, q2, q3]
  refine tkB (i := 6) (v := .int .i64 ((m : Int) + 1)) (.f (.s .z)) (by kernel_rfl) (fun _ _ _ h => h) (Or.inl ⟨by rfl, ?_⟩) (by assumption) ?_
  ·intro wq hSw; (try dsimp only at hSw); go_simp
  try simp only [Act.put, q1, q2, q3]
  refine tkB (i := 7) (v := .iface ty v) (.f (.s (.s .z))) (by kernel_rfl) (fun _ _ _ h => h) (Or.inl ⟨by rfl, ?_⟩) (by assumption) ?_
  ·intro wq hSw; (try dsimp only at hSw); go_simp
  try simp only [Act.put, q1, q2, q3]
  refine wpAnyH_ready (rs := [4, 8]) (by kernel_rfl) (by simp) ?_
  refine rdA (.s (.s (.s (.s .z)))) (fun K hK => ?_) ?_
  rotate_left 1
  refine rdA (.f (.s (.s (.s .z)))) (fun K hK => ?_) ?_
  rotate_left 1
  exact AllReadyH.nil
  ·obtain ⟨y0, y1⟩ := box_twoG boxD
   have hly := (Array.getElem?_eq_some_iff.1 (boxD)).1
   go_simp
   clear y0 y1 hly
   refine hK.out _ _ (trivial) (fun hHeld => ?_)
   clear hK K
   try simp only [Act.put, q1, q2, q3]
   refine wpAnyH_ready (rs := [8]) (by kernel_rfl) (by simp) ?_
   refine rdA (.f (.s (.s (.s .z)))) (fun K hK => ?_) AllReadyH.nil
   go_simp
   refine hpart.mono ?_
   intro e w3 hpa
   obtain ⟨ty2, v2, rfl, box3, boxA, hins⟩ := HFIN.out e w3 hpa
   clear hpa HFIN hpart
   go_wp2_with fail
   refine hK.out _ _ (trivial) (fun hHeld => ?_)
   clear hK K
   try simp only [Act.put, q1, q2, q3]
   refine wpAnyH_ready (rs := [9]) (by kernel_rfl) (by simp) ?_
   refine rdA (.f (.s (.s (.s (.s .z))))) (fun K hK => ?_) AllReadyH.nil
   go_simp
   refine hK.out _ _ (trivial) (fun hHeld => ?_)
   clear hK K
   try simp only [Act.put, q1, q2, q3]
   refine wpAnyH_ready (rs := [10]) (by kernel_rfl) (by simp) ?_
   refine rdA (.t .z) (fun K hK => ?_) AllReadyH.nil
   go_simp
   refine hins.mono ?_
   rintro e w4 ⟨a', c', rfl, b4, hfin⟩
   have HF2 : Hid _ := hfin.2
   clear hfin hins
   go_wp2_with fail
   refine hK.out _ _ (trivial) (fun hHeld => ?_)
   clear hK K
   try simp only [Act.put, q1, q2, q3]
   refine tkB (i := 11) (v := .pointer (some ⟨L, 0, none⟩)) (.t (.s .z)) (by kernel_rfl) (fun _ _ _ h => h) (Or.inl ⟨by rfl, ?_⟩) (by assumption) ?_
   ·intro wq hSw; (try dsimp only at hSw); go_simp
   try simp only [Act.put, q1, q2, q3]
   refine tkB (i := 12) (v := .pointer (some ⟨L, 1, none⟩)) (.t (.s (.s .z))) (by kernel_rfl) (fun _ _ _ h => h) (Or.inl ⟨by rfl, ?_⟩) (by assumption) ?_
   ·intro wq hSw; (try dsimp only at hSw); go_simp
   try simp only [Act.put, q1, q2, q3]
   refine wpAnyH_ready (rs := [13]) (by kernel_rfl) (by simp) ?_
   refine rdA (.t (.s (.s (.s .z)))) (fun K hK => ?_) AllReadyH.nil
   obtain ⟨y0, y1⟩ := box_twoG b4
   have ff := thawT b4
   have hl4 := (Array.getElem?_eq_some_iff.1 b4).1
   go_simp
   clear y0 y1 ff
   refine hK.out _ _ (trivial) (fun hHeld => ?_)
   clear hK K
   try simp only [Act.put, q1, q2, q3]
   refine wpAnyH_done (by kernel_rfl) ?_ _
   refine NoPanic.normal ?_
   clear hHeld b4
   go_wp2_with fail
   go_end0
   exact ⟨rfl, HF2.out⟩
  ·go_simp
   refine hpart.mono ?_
   intro e w3 hpa
   obtain ⟨ty2, v2, rfl, box3, boxA, hins⟩ := HFIN.out e w3 hpa
   clear hpa HFIN hpart
   go_wp2_with fail
   refine hK.out _ _ (trivial) (fun hHeld => ?_)
   clear hK K
   try simp only [Act.put, q1, q2, q3]
   refine wpAnyH_ready (rs := [4, 9]) (by kernel_rfl) (by simp) ?_
   refine rdA (.s (.s (.s (.s .z)))) (fun K hK => ?_) ?_
   rotate_left 1
   refine rdA (.f (.s (.s (.s (.s .z))))) (fun K hK => ?_) ?_
   rotate_left 1
   exact AllReadyH.nil
   ·obtain ⟨y0, y1⟩ := box_twoG box3
    have hly := (Array.getElem?_eq_some_iff.1 (box3)).1
    go_simp
    clear y0 y1 hly
    refine hK.out _ _ (trivial) (fun hHeld => ?_)
    clear hK K
    try simp only [Act.put, q1, q2, q3]
    refine wpAnyH_ready (rs := [9]) (by kernel_rfl) (by simp) ?_
    refine rdA (.f (.s (.s (.s (.s .z))))) (fun K hK => ?_) AllReadyH.nil
    go_simp
    refine hK.out _ _ (trivial) (fun hHeld => ?_)
    clear hK K
    try simp only [Act.put, q1, q2, q3]
    refine wpAnyH_ready (rs := [10]) (by kernel_rfl) (by simp) ?_
    refine rdA (.t .z) (fun K hK => ?_) AllReadyH.nil
    go_simp
    refine hins.mono ?_
    rintro e w4 ⟨a', c', rfl, b4, hfin⟩
    have HF2 : Hid _ := hfin.2
    clear hfin hins
    go_wp2_with fail
    refine hK.out _ _ (trivial) (fun hHeld => ?_)
    clear hK K
    try simp only [Act.put, q1, q2, q3]
    refine tkB (i := 11) (v := .pointer (some ⟨L, 0, none⟩)) (.t (.s .z)) (by kernel_rfl) (fun _ _ _ h => h) (Or.inl ⟨by rfl, ?_⟩) (by assumption) ?_
    ·intro wq hSw; (try dsimp only at hSw); go_simp
    try simp only [Act.put, q1, q2, q3]
    refine tkB (i := 12) (v := .pointer (some ⟨L, 1, none⟩)) (.t (.s (.s .z))) (by kernel_rfl) (fun _ _ _ h => h) (Or.inl ⟨by rfl, ?_⟩) (by assumption) ?_
    ·intro wq hSw; (try dsimp only at hSw); go_simp
    try simp only [Act.put, q1, q2, q3]
    refine wpAnyH_ready (rs := [13]) (by kernel_rfl) (by simp) ?_
    refine rdA (.t (.s (.s (.s .z)))) (fun K hK => ?_) AllReadyH.nil
    obtain ⟨y0, y1⟩ := box_twoG b4
    have ff := thawT b4
    have hl4 := (Array.getElem?_eq_some_iff.1 b4).1
    go_simp
    clear y0 y1 ff
    refine hK.out _ _ (trivial) (fun hHeld => ?_)
    clear hK K
    try simp only [Act.put, q1, q2, q3]
    refine wpAnyH_done (by kernel_rfl) ?_ _
    refine NoPanic.normal ?_
    clear hHeld b4
    go_wp2_with fail
    go_end0
    exact ⟨rfl, HF2.out⟩
   ·go_simp
    refine hK.out _ _ (trivial) (fun hHeld => ?_)
    clear hK K
    try simp only [Act.put, q1, q2, q3]
    refine wpAnyH_ready (rs := [4]) (by kernel_rfl) (by simp) ?_
    refine rdA (.s (.s (.s (.s .z)))) (fun K hK => ?_) AllReadyH.nil
    obtain ⟨y0, y1⟩ := box_twoG boxA
    have hly := (Array.getElem?_eq_some_iff.1 (boxA)).1
    go_simp
    clear y0 y1 hly
    refine hK.out _ _ (trivial) (fun hHeld => ?_)
    clear hK K
    try simp only [Act.put, q1, q2, q3]
    refine wpAnyH_ready (rs := [10]) (by kernel_rfl) (by simp) ?_
    refine rdA (.t .z) (fun K hK => ?_) AllReadyH.nil
    go_simp
    refine hins.mono ?_
    rintro e w4 ⟨a', c', rfl, b4, hfin⟩
    have HF2 : Hid _ := hfin.2
    clear hfin hins
    go_wp2_with fail
    refine hK.out _ _ (trivial) (fun hHeld => ?_)
    clear hK K
    try simp only [Act.put, q1, q2, q3]
    refine tkB (i := 11) (v := .pointer (some ⟨L, 0, none⟩)) (.t (.s .z)) (by kernel_rfl) (fun _ _ _ h => h) (Or.inl ⟨by rfl, ?_⟩) (by assumption) ?_
    ·intro wq hSw; (try dsimp only at hSw); go_simp
    try simp only [Act.put, q1, q2, q3]
    refine tkB (i := 12) (v := .pointer (some ⟨L, 1, none⟩)) (.t (.s (.s .z))) (by kernel_rfl) (fun _ _ _ h => h) (Or.inl ⟨by rfl, ?_⟩) (by assumption) ?_
    ·intro wq hSw; (try dsimp only at hSw); go_simp
    try simp only [Act.put, q1, q2, q3]
    refine wpAnyH_ready (rs := [13]) (by kernel_rfl) (by simp) ?_
    refine rdA (.t (.s (.s (.s .z)))) (fun K hK => ?_) AllReadyH.nil
    obtain ⟨y0, y1⟩ := box_twoG b4
    have ff := thawT b4
    have hl4 := (Array.getElem?_eq_some_iff.1 b4).1
    go_simp
    clear y0 y1 ff
    refine hK.out _ _ (trivial) (fun hHeld => ?_)
    clear hK K
    try simp only [Act.put, q1, q2, q3]
    refine wpAnyH_done (by kernel_rfl) ?_ _
    refine NoPanic.normal ?_
    clear hHeld b4
    go_wp2_with fail
    go_end0
    exact ⟨rfl, HF2.out⟩
end Go.Proofs.Ytcjjbajmjfgbcaa
