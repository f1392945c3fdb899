import Derived.Test.YtcmhobbpeaeebaaPgW4
import Derived.Test.YtcmhobbpeaeebaaPgB5
namespace Go.Proofs.Ytcmhobbpeaeebaa
open Go.RowKit
set_option linter.unusedVariables false
set_option maxRecDepth 100000

def bodyOk (low last : Int) (p : Pg) : Bool :=
  if p.kind = 1 then metaOk low last p else if p.kind = 2 then branchOk low last p else if p.kind = 3 then leafOk low last p else if p.kind = 4 then overOk low last p else false
def bodyB (hi : Bool) (p : Pg) : List Int :=
  if p.kind = 1 then metaB hi p else if p.kind = 2 then kidsB hi (smallW hi) p.ks p.ks.length else if p.kind = 3 then entsB hi (smallW hi) p.es p.es.length else if p.kind = 4 then numB hi (smallW hi) p.next ++ textB p.data else []
structure PgFit (p : Pg) : Prop where
  kind : I64 p.kind
  tx : I64 p.tx
  id : I64 p.id
  root : I64 p.root
  count : I64 p.count
  next : I64 p.next
  data : p.data.size ≤ maxLen

theorem l2Body_any (p : Pg) (hf : PgFit p) (ka : Option Addr) (kc : Nat) (ea : Option Addr) (ec : Nat) (low last : Int) (hlow : 1 ≤ low) (w : World) (A B : Nat) (hB : B ≤ w.heap.size) (hK : KidsAt w A B ka p.ks.length kc p.ks) (hE : EntsAt w A B ea p.es.length ec p.es) :
    Calls Try.prog 39 #[.agg #[.int .i64 p.kind, .int .i64 p.tx, .int .i64 p.id, .int .i64 p.root, .int .i64 p.count, .slice ka p.ks.length kc, .slice ea p.es.length ec, .int .i64 p.next, .string p.data], .int .i64 low, .int .i64 last] w fun e w' => e = .returned (.bool (bodyOk low last p)) ∧ Below w.heap.size w w' := by
  have hkl := Nat.le_trans hK.2.1 hK.2.2.1
  have hel := Nat.le_trans hE.2.1 hE.2.2.1
  by_cases h1 : p.kind = 1
  · simp only [bodyOk, if_pos h1]
    exact l2Body_meta p h1 ka kc ea ec hf.data low last w hkl hel
  by_cases h2 : p.kind = 2
  · simp only [bodyOk, if_neg h1, if_pos h2]
    obtain ⟨kind, tx, id, root, count, ks, es, next, data⟩ := p
    simp only at h2 hK hE hkl hel ⊢
    subst h2
    by_cases hz : id = 0 ∧ root = 0 ∧ count = 0 ∧ es.length = 0 ∧ next = 0 ∧ data.toList = [] ∧ 2 ≤ ks.length ∧ ks.length ≤ 4
    · obtain ⟨rfl, rfl, rfl, he, rfl, hd, g2, g4⟩ := hz
      have := l2Body_branch1 tx ka kc ks ks.length ea ec data low last w A B hB hK hd g2 g4
      rw [he]
      refine this.mono ?_
      rintro e w' ⟨rfl, hb⟩
      exact ⟨by simp [branchOk, noMeta, he, hd, g2, g4], hb⟩
    · refine (l2Body_branch0 tx id root count ka ks.length kc ea es.length ec next data low last w hkl hel hf.data ?_).mono ?_
      · by_cases c1 : id = 0 <;> by_cases c2 : root = 0 <;> by_cases c3 : count = 0 <;> by_cases c4 : es.length = 0 <;> by_cases c5 : next = 0 <;> by_cases c6 : data.toList = [] <;> simp_all <;> omega
      · rintro e w' ⟨rfl, hb⟩
        refine ⟨?_, hb⟩
        congr 2
        symm
        rw [Bool.eq_false_iff]
        intro hb
        apply hz
        simp [branchOk, noMeta] at hb
        obtain ⟨⟨⟨⟨⟨⟨⟨⟨a1, a2, a3⟩, a4⟩, a5⟩, a6⟩, a7⟩, a8⟩, a9⟩, _⟩ := hb
        exact ⟨a1, a2, a3, by simp [a4], a5, a6, a7, a8⟩
  by_cases h3 : p.kind = 3
  · simp only [bodyOk, if_neg h1, if_neg h2, if_pos h3]
    obtain ⟨kind, tx, id, root, count, ks, es, next, data⟩ := p
    simp only at h3 hK hE hkl hel ⊢
    subst h3
    by_cases hz : id = 0 ∧ root = 0 ∧ count = 0 ∧ ks.length = 0 ∧ next = 0 ∧ data.toList = [] ∧ es.length ≤ 4
    · obtain ⟨rfl, rfl, rfl, hk, rfl, hd, g4⟩ := hz
      have := l2Body_leaf1 tx ka kc es es.length ea ec data low last hlow w A B hB hE hd g4
      rw [hk]
      refine this.mono ?_
      rintro e w' ⟨rfl, hb⟩
      exact ⟨by simp [leafOk, noMeta, hk, hd, g4], hb⟩
    · refine (l2Body_leaf0 tx id root count ka ks.length kc ea es.length ec next data low last w hkl hel hf.data ?_).mono ?_
      · by_cases c1 : id = 0 <;> by_cases c2 : root = 0 <;> by_cases c3 : count = 0 <;> by_cases c4 : ks.length = 0 <;> by_cases c5 : next = 0 <;> by_cases c6 : data.toList = [] <;> simp_all
      · rintro e w' ⟨rfl, hb⟩
        refine ⟨?_, hb⟩
        congr 2
        symm
        rw [Bool.eq_false_iff]
        intro hb
        apply hz
        simp [leafOk, noMeta] at hb
        obtain ⟨⟨⟨⟨⟨⟨a1, a2, a3⟩, a4⟩, a5⟩, a6⟩, a7⟩, _⟩ := hb
        exact ⟨a1, a2, a3, by simp [a4], a5, a6, a7⟩
  by_cases h4 : p.kind = 4
  · simp only [bodyOk, if_neg h1, if_neg h2, if_neg h3, if_pos h4]
    exact l2Body_over p h4 ka kc ea ec hf.data low last w hkl hel
  · simp only [bodyOk, if_neg h1, if_neg h2, if_neg h3, if_neg h4]
    exact l2Body_other p h1 h2 h3 h4 ka kc ea ec low last w

theorem all_get {f : Nat → Bool} {n i : Nat} (h : (List.range n).all f = true) (hi : i < n) : f i = true := all_range h hi
theorem smallW_le (hi : Bool) : smallW hi ≤ 4 := by cases hi <;> decide
theorem kidsB_len (hi : Bool) (nw : Nat) (ks : List PK) : ∀ n, (∀ i, i < n → 0 < i → (ks.getD i dK).1.size ≤ 8) → (kidsB hi nw ks n).length ≤ n * (9 + nw)
  | 0, _ => by simp [kidsB]
  | n + 1, h => by
    have ih := kidsB_len hi nw ks n (fun i h1 h2 => h i (by omega) h2)
    have h8 := h n (by omega)
    simp only [kidsB, kidB, List.length_append, numB_len]
    rw [Nat.add_mul]
    by_cases h0 : 0 < n
    · rw [if_pos h0, textB_len]; have := h8 h0; omega
    · rw [if_neg h0]; simp; omega
theorem entB_len (hi : Bool) (nw : Nat) (e : PE) (h1 : e.1.size ≤ 8) (h2 : e.2.1.size ≤ 8) (hn : nw ≤ 4) : (entB hi nw e).length ≤ 19 := by
  simp only [entB, List.length_append, textB_len]
  have a : (if hi then List.replicate (8 - e.1.size) (0 : Int) else []).length ≤ 8 - e.1.size := by cases hi <;> simp
  have b : (if e.2.2.1 = 0 then 0 :: textB e.2.1 else 1 :: (numB hi nw e.2.2.1 ++ numB hi nw e.2.2.2)).length ≤ 10 := by
    split
    · simp [textB_len]; omega
    · simp [numB_len]; omega
  omega
theorem entsB_len (hi : Bool) (nw : Nat) (es : List PE) (hn : nw ≤ 4) : ∀ n, (∀ i, i < n → (es.getD i dE).1.size ≤ 8 ∧ (es.getD i dE).2.1.size ≤ 8) → (entsB hi nw es n).length ≤ n * 19
  | 0, _ => by simp [entsB]
  | n + 1, h => by
    have ih := entsB_len hi nw es hn n (fun i h1 => h i (by omega))
    have h8 := h n (by omega)
    have := entB_len hi nw (es.getD n dE) h8.1 h8.2 hn
    simp only [entsB, List.length_append]
    omega
/-- What a good page's kids and entries are like. -/
theorem branch_sizes {low last : Int} {p : Pg} (h : branchOk low last p = true) : p.ks.length ≤ 4 ∧ ∀ i, i < p.ks.length → 0 < i → (p.ks.getD i dK).1.size ≤ 8 := by
  simp only [branchOk, Bool.and_eq_true] at h
  obtain ⟨⟨⟨_, h4⟩, _⟩, hk⟩ := h
  refine ⟨by simpa using h4, fun i hi h0 => ?_⟩
  have := all_range hk hi
  simp [kidOk, h0, keyB] at this
  exact this.2.1.2
theorem ent_sizes {low last : Int} {e : PE} (h : shortB e = true ∨ longB low last e = true) : e.2.1.size ≤ 8 := by
  rcases h with h | h
  · simp [shortB] at h; exact h.2
  · simp [longB] at h
    have := h.1.2
    have hs : e.2.1.size = 0 := by
      have h2 : e.2.1.data.toList = [] := by simpa [ByteArray.toList_eq] using this
      have h3 : e.2.1.data.size = 0 := by rw [← Array.length_toList, h2]; rfl
      exact h3
    omega
theorem leaf_sizes {low last : Int} {p : Pg} (h : leafOk low last p = true) : p.es.length ≤ 4 ∧ ∀ i, i < p.es.length → (p.es.getD i dE).1.size ≤ 8 ∧ (p.es.getD i dE).2.1.size ≤ 8 := by
  simp only [leafOk, Bool.and_eq_true] at h
  obtain ⟨⟨_, h4⟩, hk⟩ := h
  refine ⟨by simpa using h4, fun i hi => ?_⟩
  have := all_range hk hi
  simp only [entOk, Bool.and_eq_true, Bool.or_eq_true] at this
  refine ⟨?_, ent_sizes this.1.2⟩
  have := this.1.1
  simp [keyB] at this
  exact this.2
theorem over_size {low last : Int} {p : Pg} (h : overOk low last p = true) : p.data.size ≤ 96 := by
  simp [overOk] at h
  exact h.1.2
theorem bodyB_len (hi : Bool) {low last : Int} {p : Pg} (h : bodyOk low last p = true) : (bodyB hi p).length ≤ 104 := by
  have hw := smallW_le hi
  unfold bodyOk at h
  unfold bodyB
  split at h
  · rename_i h1; rw [if_pos h1]; cases hi <;> simp [metaB, beB_len, leB_len]
  · rename_i h1
    rw [if_neg h1]
    split at h
    · rename_i h2; rw [if_pos h2]
      have ⟨h4, hs⟩ := branch_sizes h
      have := kidsB_len hi (smallW hi) p.ks _ hs
      have := Nat.mul_le_mul h4 (show 9 + smallW hi ≤ 13 by omega)
      omega
    · rename_i h2; rw [if_neg h2]
      split at h
      · rename_i h3; rw [if_pos h3]
        have ⟨h4, hs⟩ := leaf_sizes h
        have := entsB_len hi (smallW hi) p.es hw _ hs
        omega
      · rename_i h3; rw [if_neg h3]
        split at h
        · rename_i h4; rw [if_pos h4]
          have := over_size h
          simp [numB_len, textB_len]; omega
        · cases h
theorem l2WriteBody_any (hi : Bool) (p : Pg) (hf : PgFit p) (low last : Int) (hok : bodyOk low last p = true) (ka : Option Addr) (kc : Nat) (ea : Option Addr) (ec : Nat) (w : World) (A B : Nat) (hB : B ≤ w.heap.size) (hK : KidsAt w A B ka p.ks.length kc p.ks) (hE : EntsAt w A B ea p.es.length ec p.es) :
    Calls Try.prog 43 #[.agg #[.int .i64 p.kind, .int .i64 p.tx, .int .i64 p.id, .int .i64 p.root, .int .i64 p.count, .slice ka p.ks.length kc, .slice ea p.es.length ec, .int .i64 p.next, .string p.data], .agg #[.bool hi, .int .i64 (smallW hi), .bool hi]] w fun e w' => ∃ v m, e = .returned v ∧ w'.ownsRow w.heap.size 5 1 v m (u8s (bodyB hi p)) ∧ Below w.heap.size w w' := by
  have hw := smallW_le hi
  unfold bodyOk at hok
  split at hok
  · rename_i h1
    simp only [bodyB, if_pos h1]
    cases hi
    · have := l2WriteBody_metaNew p.tx p.id p.root p.count hf.id hf.root hf.count ka p.ks.length kc ea p.es.length ec p.next p.data w
      rw [← h1] at this
      exact this.mono fun e w' ⟨v, he, hv, hb⟩ => ⟨v, 16, he, hv, hb⟩
    · have := l2WriteBody_metaOld p.tx p.id p.root p.count hf.id hf.root hf.count ka p.ks.length kc ea p.es.length ec p.next p.data w
      rw [← h1] at this
      exact this.mono fun e w' ⟨v, he, hv, hb⟩ => ⟨v, 10, he, hv, hb⟩
  · rename_i h1
    split at hok
    · rename_i h2
      simp only [bodyB, if_neg h1, if_pos h2]
      have ⟨h4, hs⟩ := branch_sizes hok
      have := l2WriteBody_branch hi (smallW hi) (by omega) p.tx p.id p.root p.count ka p.ks.length kc p.ks ea p.es.length ec p.next p.data w A B hB hK h4 hs
      rw [← h2] at this
      exact this
    · rename_i h2
      split at hok
      · rename_i h3
        simp only [bodyB, if_neg h1, if_neg h2, if_pos h3]
        have ⟨h4, hs⟩ := leaf_sizes hok
        have := l2WriteBody_leaf hi (smallW hi) (by omega) p.tx p.id p.root p.count ka p.ks.length kc ea p.es.length ec p.es p.next p.data w A B hB hE h4 hs
        rw [← h3] at this
        exact this
      · rename_i h3
        split at hok
        · rename_i h4
          simp only [bodyB, if_neg h1, if_neg h2, if_neg h3, if_pos h4]
          have := l2WriteBody_over hi (smallW hi) (by omega) p.tx p.id p.root p.count ka p.ks.length kc ea p.es.length ec p.next hf.next p.data (over_size hok) w
          rw [← h4] at this
          exact this
        · cases hok
theorem l2Count_any (p : Pg) (ka : Option Addr) (kn kc : Nat) (ea : Option Addr) (en ec : Nat) (hk : kn + en ≤ 255) (w : World) :
    Calls Try.prog 41 #[.agg #[.int .i64 p.kind, .int .i64 p.tx, .int .i64 p.id, .int .i64 p.root, .int .i64 p.count, .slice ka kn kc, .slice ea en ec, .int .i64 p.next, .string p.data]] w fun e w' => e = .returned (.int .u8 ((kn + en : Nat) : Int)) ∧ Below w.heap.size w w' := by
  go_enter Try.func41, Try.ntmps41
  go_wp2
  go_ret
  refine ⟨?_, (Below.refl _ _).alloc (Nat.le_refl _) _⟩
  simp
end Go.Proofs.Ytcmhobbpeaeebaa
