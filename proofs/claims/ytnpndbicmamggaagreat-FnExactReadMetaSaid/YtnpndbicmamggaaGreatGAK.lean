import Derived.Test.YtnpndbicmamggaaGreatGAA
import Derived.Test.YtnpndbicmamggaaGreatGAB
import Derived.Test.YtnpndbicmamggaaGreatPgB5
import Derived.Test.YtnpndbicmamggaaGreatPgW4
namespace Go.Proofs.YtnpndbicmamggaaGreat
open Go.RowKit
set_option linter.unusedVariables false
set_option maxRecDepth 100000

def bodyOk (low last : Int) (p : Pg) : Bool :=
  if p.kind = 1 then metaOk low last p else if p.kind = 2 then branchOk low last p else if p.kind = 3 then leafOk low last p else if p.kind = 4 then overOk low last p else false
def bodyB (hi : Bool) (p : Pg) : List Int :=
  if p.kind = 1 then metaB hi p else if p.kind = 2 then kidsB hi (smallW hi) p.ks p.ks.length else if p.kind = 3 then entsB hi (smallW hi) p.es p.es.length else if p.kind = 4 then numB hi (smallW hi) p.next ++ textB p.data else []
structure PgFit (p : Pg) : Prop where
  kind : I64 p.kind
  tx : I64 p.tx
  id : I64 p.id
  root : I64 p.root
  count : I64 p.count
  next : I64 p.next
  data : p.data.size ≤ maxLen

theorem l2Body_any (p : Pg) (hf : PgFit p) (ka : Option Addr) (kc : Nat) (ea : Option Addr) (ec : Nat) (low last : Int) (hlow : 1 ≤ low) (w : World) (A B : Nat) (hB : B ≤ w.heap.size) (hK : KidsAt w A B ka p.ks.length kc p.ks) (hE : EntsAt w A B ea p.es.length ec p.es) :
    Calls Tryz.prog 59 #[.agg #[.int .i64 p.kind, .int .i64 p.tx, .int .i64 p.id, .int .i64 p.root, .int .i64 p.count, .slice ka p.ks.length kc, .slice ea p.es.length ec, .int .i64 p.next, .string p.data], .int .i64 low, .int .i64 last] w fun e w' => e = .returned (.bool (bodyOk low last p)) ∧ Below w.heap.size w w' := by
  have hkl := Nat.le_trans hK.2.1 hK.2.2.1
  have hel := Nat.le_trans hE.2.1 hE.2.2.1
  by_cases h1 : p.kind = 1
  · simp only [bodyOk, if_pos h1]
    exact l2Body_meta p h1 ka kc ea ec hf.data low last w hkl hel
  by_cases h2 : p.kind = 2
  · simp only [bodyOk, if_neg h1, if_pos h2]
    obtain ⟨kind, tx, id, root, count, ks, es, next, data⟩ := p
    simp only at h2 hK hE hkl hel ⊢
    subst h2
    by_cases hz : id = 0 ∧ root = 0 ∧ count = 0 ∧ es.length = 0 ∧ next = 0 ∧ data.toList = [] ∧ 2 ≤ ks.length ∧ ks.length ≤ 4
    · obtain ⟨rfl, rfl, rfl, he, rfl, hd, g2, g4⟩ := hz
      have := l2Body_branch1 tx ka kc ks ks.length ea ec data low last w A B hB hK hd g2 g4
      rw [he]
      refine this.mono ?_
      rintro e w' ⟨rfl, hb⟩
      exact ⟨by simp [branchOk, noMeta, he, hd, g2, g4], hb⟩
    · refine (l2Body_branch0 tx id root count ka ks.length kc ea es.length ec next data low last w hkl hel hf.data ?_).mono ?_
      · by_cases c1 : id = 0 <;> by_cases c2 : root = 0 <;> by_cases c3 : count = 0 <;> by_cases c4 : es.length = 0 <;> by_cases c5 : next = 0 <;> by_cases c6 : data.toList = [] <;> simp_all <;> omega
      · rintro e w' ⟨rfl, hb⟩
        refine ⟨?_, hb⟩
        congr 2
        symm
        rw [Bool.eq_false_iff]
        intro hb
        apply hz
        simp [branchOk, noMeta] at hb
        obtain ⟨⟨⟨⟨⟨⟨⟨⟨a1, a2, a3⟩, a4⟩, a5⟩, a6⟩, a7⟩, a8⟩, a9⟩, _⟩ := hb
        exact ⟨a1, a2, a3, by simp [a4], a5, a6, a7, a8⟩
  by_cases h3 : p.kind = 3
  · simp only [bodyOk, if_neg h1, if_neg h2, if_pos h3]
    obtain ⟨kind, tx, id, root, count, ks, es, next, data⟩ := p
    simp only at h3 hK hE hkl hel ⊢
    subst h3
    by_cases hz : id = 0 ∧ root = 0 ∧ count = 0 ∧ ks.length = 0 ∧ next = 0 ∧ data.toList = [] ∧ es.length ≤ 4
    · obtain ⟨rfl, rfl, rfl, hk, rfl, hd, g4⟩ := hz
      have := l2Body_leaf1 tx ka kc es es.length ea ec data low last hlow w A B hB hE hd g4
      rw [hk]
      refine this.mono ?_
      rintro e w' ⟨rfl, hb⟩
      exact ⟨by simp [leafOk, noMeta, hk, hd, g4], hb⟩
    · refine (l2Body_leaf0 tx id root count ka ks.length kc ea es.length ec next data low last w hkl hel hf.data ?_).mono ?_
      · by_cases c1 : id = 0 <;> by_cases c2 : root = 0 <;> by_cases c3 : count = 0 <;> by_cases c4 : ks.length = 0 <;> by_cases c5 : next = 0 <;> by_cases c6 : data.toList = [] <;> simp_all
      · rintro e w' ⟨rfl, hb⟩
        refine ⟨?_, hb⟩
        congr 2
        symm
        rw [Bool.eq_false_iff]
        intro hb
        apply hz
        simp [leafOk, noMeta] at hb
        obtain ⟨⟨⟨⟨⟨⟨a1, a2, a3⟩, a4⟩, a5⟩, a6⟩, a7⟩, _⟩ := hb
        exact ⟨a1, a2, a3, by simp [a4], a5, a6, a7⟩
  by_cases h4 : p.kind = 4
  · simp only [bodyOk, if_neg h1, if_neg h2, if_neg h3, if_pos h4]
    exact l2Body_over p h4 ka kc ea ec hf.data low last w hkl hel
  · simp only [bodyOk, if_neg h1, if_neg h2, if_neg h3, if_neg h4]
    exact l2Body_other p h1 h2 h3 h4 ka kc ea ec low last w

theorem all_get {f : Nat → Bool} {n i : Nat} (h : (List.range n).all f = true) (hi : i < n) : f i = true := all_range h hi
theorem smallW_le (hi : Bool) : smallW hi ≤ 4 := by cases hi <;> decide
theorem kidsB_len (hi : Bool) (nw : Nat) (ks : List PK) : ∀ n, (∀ i, i < n → 0 < i → (ks.getD i dK).1.size ≤ 8) → (kidsB hi nw ks n).length ≤ n * (9 + nw)
  | 0, _ => by simp [kidsB]
  | n + 1, h => by
    have ih := kidsB_len hi nw ks n (fun i h1 h2 => h i (by omega) h2)
    have h8 := h n (by omega)
    simp only [kidsB, kidB, List.length_append, numB_len]
    rw [Nat.add_mul]
    by_cases h0 : 0 < n
    · rw [if_pos h0, textB_len]; have := h8 h0; omega
    · rw [if_neg h0]; simp; omega
theorem entB_len (hi : Bool) (nw : Nat) (e : PE) (h1 : e.1.size ≤ 8) (h2 : e.2.1.size ≤ 8) (hn : nw ≤ 4) : (entB hi nw e).length ≤ 19 := by
  simp only [entB, List.length_append, textB_len]
  have a : (if hi then List.replicate (8 - e.1.size) (0 : Int) else []).length ≤ 8 - e.1.size := by cases hi <;> simp
  have b : (if e.2.2.1 = 0 then 0 :: textB e.2.1 else 1 :: (numB hi nw e.2.2.1 ++ numB hi nw e.2.2.2)).length ≤ 10 := by
    split
    · simp [textB_len]; omega
    · simp [numB_len]; omega
  omega
theorem entsB_len (hi : Bool) (nw : Nat) (es : List PE) (hn : nw ≤ 4) : ∀ n, (∀ i, i < n → (es.getD i dE).1.size ≤ 8 ∧ (es.getD i dE).2.1.size ≤ 8) → (entsB hi nw es n).length ≤ n * 19
  | 0, _ => by simp [entsB]
  | n + 1, h => by
    have ih := entsB_len hi nw es hn n (fun i h1 => h i (by omega))
    have h8 := h n (by omega)
    have := entB_len hi nw (es.getD n dE) h8.1 h8.2 hn
    simp only [entsB, List.length_append]
    omega
/-- What a good page's kids and entries are like. -/
theorem branch_sizes {low last : Int} {p : Pg} (h : branchOk low last p = true) : p.ks.length ≤ 4 ∧ ∀ i, i < p.ks.length → 0 < i → (p.ks.getD i dK).1.size ≤ 8 := by
  simp only [branchOk, Bool.and_eq_true] at h
  obtain ⟨⟨⟨_, h4⟩, _⟩, hk⟩ := h
  refine ⟨by simpa using h4, fun i hi h0 => ?_⟩
  have := all_range hk hi
  simp [kidOk, h0, keyB] at this
  exact this.2.1.2
theorem ent_sizes {low last : Int} {e : PE} (h : shortB e = true ∨ longB low last e = true) : e.2.1.size ≤ 8 := by
  rcases h with h | h
  · simp [shortB] at h; exact h.2
  · simp [longB] at h
    have := h.1.2
    have hs : e.2.1.size = 0 := by
      have h2 : e.2.1.data.toList = [] := by simpa [ByteArray.toList_eq] using this
      have h3 : e.2.1.data.size = 0 := by rw [← Array.length_toList, h2]; rfl
      exact h3
    omega
theorem leaf_sizes {low last : Int} {p : Pg} (h : leafOk low last p = true) : p.es.length ≤ 4 ∧ ∀ i, i < p.es.length → (p.es.getD i dE).1.size ≤ 8 ∧ (p.es.getD i dE).2.1.size ≤ 8 := by
  simp only [leafOk, Bool.and_eq_true] at h
  obtain ⟨⟨_, h4⟩, hk⟩ := h
  refine ⟨by simpa using h4, fun i hi => ?_⟩
  have := all_range hk hi
  simp only [entOk, Bool.and_eq_true, Bool.or_eq_true] at this
  refine ⟨?_, ent_sizes this.1.2⟩
  have := this.1.1
  simp [keyB] at this
  exact this.2
theorem over_size {low last : Int} {p : Pg} (h : overOk low last p = true) : p.data.size ≤ 96 := by
  simp [overOk] at h
  exact h.1.2
theorem bodyB_len (hi : Bool) {low last : Int} {p : Pg} (h : bodyOk low last p = true) : (bodyB hi p).length ≤ 104 := by
  have hw := smallW_le hi
  unfold bodyOk at h
  unfold bodyB
  split at h
  · rename_i h1; rw [if_pos h1]; cases hi <;> simp [metaB, beB_len, leB_len]
  · rename_i h1
    rw [if_neg h1]
    split at h
    · rename_i h2; rw [if_pos h2]
      have ⟨h4, hs⟩ := branch_sizes h
      have := kidsB_len hi (smallW hi) p.ks _ hs
      have := Nat.mul_le_mul h4 (show 9 + smallW hi ≤ 13 by omega)
      omega
    · rename_i h2; rw [if_neg h2]
      split at h
      · rename_i h3; rw [if_pos h3]
        have ⟨h4, hs⟩ := leaf_sizes h
        have := entsB_len hi (smallW hi) p.es hw _ hs
        omega
      · rename_i h3; rw [if_neg h3]
        split at h
        · rename_i h4; rw [if_pos h4]
          have := over_size h
          simp [numB_len, textB_len]; omega
        · cases h
theorem l2WriteBody_any (hi : Bool) (p : Pg) (hf : PgFit p) (low last : Int) (hok : bodyOk low last p = true) (ka : Option Addr) (kc : Nat) (ea : Option Addr) (ec : Nat) (w : World) (A B : Nat) (hB : B ≤ w.heap.size) (hK : KidsAt w A B ka p.ks.length kc p.ks) (hE : EntsAt w A B ea p.es.length ec p.es) :
    Calls Tryz.prog 63 #[.agg #[.int .i64 p.kind, .int .i64 p.tx, .int .i64 p.id, .int .i64 p.root, .int .i64 p.count, .slice ka p.ks.length kc, .slice ea p.es.length ec, .int .i64 p.next, .string p.data], .agg #[.bool hi, .int .i64 (smallW hi), .bool hi]] w fun e w' => ∃ v m, e = .returned v ∧ w'.ownsRow w.heap.size 5 1 v m (u8s (bodyB hi p)) ∧ Below w.heap.size w w' := by
  have hw := smallW_le hi
  unfold bodyOk at hok
  split at hok
  · rename_i h1
    simp only [bodyB, if_pos h1]
    cases hi
    · have := l2WriteBody_metaNew p.tx p.id p.root p.count hf.id hf.root hf.count ka p.ks.length kc ea p.es.length ec p.next p.data w
      rw [← h1] at this
      exact this.mono fun e w' ⟨v, he, hv, hb⟩ => ⟨v, 16, he, hv, hb⟩
    · have := l2WriteBody_metaOld p.tx p.id p.root p.count hf.id hf.root hf.count ka p.ks.length kc ea p.es.length ec p.next p.data w
      rw [← h1] at this
      exact this.mono fun e w' ⟨v, he, hv, hb⟩ => ⟨v, 10, he, hv, hb⟩
  · rename_i h1
    split at hok
    · rename_i h2
      simp only [bodyB, if_neg h1, if_pos h2]
      have ⟨h4, hs⟩ := branch_sizes hok
      have := l2WriteBody_branch hi (smallW hi) (by omega) p.tx p.id p.root p.count ka p.ks.length kc p.ks ea p.es.length ec p.next p.data w A B hB hK h4 hs
      rw [← h2] at this
      exact this
    · rename_i h2
      split at hok
      · rename_i h3
        simp only [bodyB, if_neg h1, if_neg h2, if_pos h3]
        have ⟨h4, hs⟩ := leaf_sizes hok
        have := l2WriteBody_leaf hi (smallW hi) (by omega) p.tx p.id p.root p.count ka p.ks.length kc ea p.es.length ec p.es p.next p.data w A B hB hE h4 hs
        rw [← h3] at this
        exact this
      · rename_i h3
        split at hok
        · rename_i h4
          simp only [bodyB, if_neg h1, if_neg h2, if_neg h3, if_pos h4]
          have := l2WriteBody_over hi (smallW hi) (by omega) p.tx p.id p.root p.count ka p.ks.length kc ea p.es.length ec p.next hf.next p.data (over_size hok) w
          rw [← h4] at this
          exact this
        · cases hok
theorem l2Count_any (p : Pg) (ka : Option Addr) (kn kc : Nat) (ea : Option Addr) (en ec : Nat) (hk : kn + en ≤ 255) (w : World) :
    Calls Tryz.prog 61 #[.agg #[.int .i64 p.kind, .int .i64 p.tx, .int .i64 p.id, .int .i64 p.root, .int .i64 p.count, .slice ka kn kc, .slice ea en ec, .int .i64 p.next, .string p.data]] w fun e w' => e = .returned (.int .u8 ((kn + en : Nat) : Int)) ∧ Below w.heap.size w w' := by
  go_enter Tryz.func61, Tryz.ntmps61
  go_wp2
  go_ret
  refine ⟨?_, (Below.refl _ _).alloc (Nat.le_refl _) _⟩
  simp
end Go.Proofs.YtnpndbicmamggaaGreat
namespace Go.Proofs.YtnpndbicmamggaaGreat
open Go.RowKit
set_option linter.unusedVariables false
set_option maxRecDepth 100000

def padB (n : Nat) (l : List Int) : List Int := l ++ List.replicate (n - l.length) 0
def sumI (l : List Int) : Int := l.foldl (· + ·) 0
def oldCode (p : Pg) : List Int :=
  padB 127 ([79, p.kind, ((p.ks.length + p.es.length : Nat) : Int)] ++ bodyB true p) ++ [sumI (padB 127 ([79, p.kind, ((p.ks.length + p.es.length : Nat) : Int)] ++ bodyB true p)) % 256]
def oldCodeOf (p : Pg) : List Int := if p.tx = 0 ∧ bodyOk 1 998 p = true then oldCode p else []

theorem body_count {low last : Int} {p : Pg} (h : bodyOk low last p = true) : p.ks.length + p.es.length ≤ 255 := by
  unfold bodyOk at h
  split at h
  · simp [metaOk] at h; have h1 := h.1.1.1.2; have h2 := h.1.1.2; simp [h1, h2]
  · split at h
    · have := (branch_sizes h).1; simp [branchOk] at h; have h2 := h.1.1.1.1.1.1.2; simp [h2]; omega
    · split at h
      · have := (leaf_sizes h).1; simp [leafOk] at h; have h2 := h.1.1.1.1.2; simp [h2]; omega
      · split at h
        · simp [overOk] at h; have h1 := h.1.1.1.1.2; have h2 := h.1.1.1.2; simp [h1, h2]
        · cases h
theorem body_kind {low last : Int} {p : Pg} (h : bodyOk low last p = true) : 0 ≤ p.kind ∧ p.kind ≤ 255 := by
  unfold bodyOk at h
  split at h
  · omega
  · split at h
    · omega
    · split at h
      · omega
      · split at h
        · omega
        · cases h
theorem textB_byte {s : ByteArray} (h : s.size ≤ 255) : ∀ x ∈ textB s, 0 ≤ x ∧ x ≤ 255 := by
  intro x hx
  rcases List.mem_cons.1 hx with rfl | hx
  · omega
  · exact strB_byte s x hx
theorem bytes_app {a b : List Int} (ha : ∀ x ∈ a, 0 ≤ x ∧ x ≤ 255) (hb : ∀ x ∈ b, 0 ≤ x ∧ x ≤ 255) : ∀ x ∈ a ++ b, 0 ≤ x ∧ x ≤ 255 := by
  intro x hx
  rcases List.mem_append.1 hx with h | h
  · exact ha x h
  · exact hb x h
theorem kidsB_byte (hi : Bool) (nw : Nat) (ks : List PK) : ∀ n, (∀ i, i < n → 0 < i → (ks.getD i dK).1.size ≤ 8) → ∀ x ∈ kidsB hi nw ks n, 0 ≤ x ∧ x ≤ 255
  | 0, _ => by intro x hx; cases hx
  | n + 1, h => by
    refine bytes_app (kidsB_byte hi nw ks n (fun i h1 h2 => h i (by omega) h2)) (bytes_app ?_ (numB_byte _ _ _))
    split
    · rename_i h0; exact textB_byte (by have := h n (by omega) h0; omega)
    · intro x hx; cases hx
theorem entsB_byte (hi : Bool) (nw : Nat) (es : List PE) : ∀ n, (∀ i, i < n → (es.getD i dE).1.size ≤ 8 ∧ (es.getD i dE).2.1.size ≤ 8) → ∀ x ∈ entsB hi nw es n, 0 ≤ x ∧ x ≤ 255
  | 0, _ => by intro x hx; cases hx
  | n + 1, h => by
    have h8 := h n (by omega)
    refine bytes_app (entsB_byte hi nw es n (fun i h1 => h i (by omega))) (bytes_app (bytes_app (textB_byte (by omega)) ?_) ?_)
    · split
      · intro x hx; have := List.eq_of_mem_replicate hx; omega
      · intro x hx; cases hx
    · split
      · intro x hx
        rcases List.mem_cons.1 hx with rfl | hx
        · omega
        · exact textB_byte (by omega) x hx
      · intro x hx
        rcases List.mem_cons.1 hx with rfl | hx
        · omega
        · exact bytes_app (numB_byte _ _ _) (numB_byte _ _ _) x hx
theorem bodyB_byte (hi : Bool) {low last : Int} {p : Pg} (h : bodyOk low last p = true) : ∀ x ∈ bodyB hi p, 0 ≤ x ∧ x ≤ 255 := by
  unfold bodyOk at h
  unfold bodyB
  split at h
  · rename_i h1; rw [if_pos h1]
    cases hi
    · exact bytes_app (bytes_app (bytes_app (leB_byte _ _) (leB_byte _ _)) (leB_byte _ _)) (by intro x hx; simp at hx; omega)
    · exact bytes_app (bytes_app (beB_byte _ _) (beB_byte _ _)) (beB_byte _ _)
  · rename_i h1
    rw [if_neg h1]
    split at h
    · rename_i h2; rw [if_pos h2]; exact kidsB_byte _ _ _ _ (branch_sizes h).2
    · rename_i h2; rw [if_neg h2]
      split at h
      · rename_i h3; rw [if_pos h3]; exact entsB_byte _ _ _ _ (leaf_sizes h).2
      · rename_i h3; rw [if_neg h3]
        split at h
        · rename_i h4; rw [if_pos h4]
          exact bytes_app (numB_byte _ _ _) (textB_byte (by have := over_size h; omega))
        · cases h
theorem bytesAt_row {w : World} {base n c : Nat} {a : Option Addr} {bs : List Int} (h : w.ownsRow base 5 1 (.slice a n c) n (u8s bs)) (hw : ∀ x ∈ bs, 0 ≤ x ∧ x ≤ 255) : BytesAt w base w.heap.size a n c bs := by
  have hn : n = bs.length := by have := h.1; simp [u8s] at this; omega
  subst hn
  obtain ⟨a', n', c', hv, hB⟩ := bytesAt_of_own h hw
  injection hv with h1 h2 h3
  subst h1 h2 h3
  exact hB

theorem getD_byteB {bs : List Int} (hw : ∀ x ∈ bs, 0 ≤ x ∧ x ≤ 255) (k : Nat) : 0 ≤ bs.getD k 0 ∧ bs.getD k 0 ≤ 255 := by
  by_cases h : k < bs.length
  · rw [show bs.getD k 0 = bs[k] by simp [List.getD, h]]; exact hw _ (List.getElem_mem h)
  · rw [show bs.getD k 0 = 0 by simp [List.getD, Nat.le_of_not_lt h]]; omega
theorem sumI_take {l : List Int} {k : Nat} (h : k < l.length) : sumI (l.take (k + 1)) = sumI (l.take k) + l.getD k 0 := by
  rw [sumI, ← List.take_append_getElem h, List.foldl_append]
  simp [sumI, List.getD, h]
end Go.Proofs.YtnpndbicmamggaaGreat
namespace Go.Proofs.YtnpndbicmamggaaGreat
open Go.RowKit
set_option linter.unusedVariables false
set_option maxRecDepth 100000

/-- The number that bytes are, the lowest first. -/
def leN : List Int → Int
  | [] => 0
  | b :: r => b + 256 * leN r
def numOf (high : Bool) (bs : List Int) : Int := if high then leN bs.reverse else leN bs
theorem leN_snoc : ∀ (l : List Int) (x : Int), leN (l ++ [x]) = leN l + 256 ^ l.length * x
  | [], x => by simp [leN]
  | b :: r, x => by
    rw [List.cons_append, leN, leN_snoc r x, leN, List.length_cons, Int.pow_succ]
    rw [Int.mul_add, ← Int.mul_assoc, Int.mul_comm (256 ^ r.length) 256, Int.add_assoc]
theorem leN_range : ∀ (l : List Int), (∀ x ∈ l, 0 ≤ x ∧ x ≤ 255) → 0 ≤ leN l ∧ leN l < 256 ^ l.length
  | [], _ => by simp [leN]
  | b :: r, h => by
    have h1 := h b (List.mem_cons_self ..)
    have h2 := leN_range r (fun x hx => h x (List.mem_cons_of_mem _ hx))
    rw [leN, List.length_cons, Int.pow_succ]
    omega
theorem numOf_range (high : Bool) {l : List Int} (h : ∀ x ∈ l, 0 ≤ x ∧ x ≤ 255) : 0 ≤ numOf high l ∧ numOf high l < 256 ^ l.length := by
  cases high
  · exact leN_range l h
  · have := leN_range l.reverse (fun x hx => h x (List.mem_reverse.1 hx))
    simpa [numOf] using this
theorem leN_leB : ∀ n x, 0 ≤ x → x < 256 ^ n → leN (leB n x) = x
  | 0, x, h0, h1 => by simp at h1; simp [leB, leN]; omega
  | n + 1, x, h0, h1 => by
    rw [Int.pow_succ] at h1
    rw [leB, leN, leN_leB n (x / 256) (by omega) (by omega)]
    omega
theorem numOf_numB (high : Bool) (n : Nat) (x : Int) (h0 : 0 ≤ x) (h1 : x < 256 ^ n) : numOf high (numB high n x) = x := by
  cases high
  · exact leN_leB n x h0 h1
  · simp [numOf, numB, beB, leN_leB n x h0 h1]
theorem or_comm64 (a b : Int) : bits .or .i64 a b = bits .or .i64 b a := by
  show IntKind.i64.wrap ((BitVec.ofInt 64 a ||| BitVec.ofInt 64 b).toNat : Int) = IntKind.i64.wrap ((BitVec.ofInt 64 b ||| BitVec.ofInt 64 a).toNat : Int)
  rw [BitVec.or_comm]
theorem wrap62 : ∀ n : Int, 0 ≤ n → n < 2 ^ 62 → IntKind.i64.wrap n = n := by
  intro n h0 h1
  rw [IntKind.wrap_i64]
  have : (2 : Int) ^ 62 = 4611686018427387904 := by decide
  omega
theorem or_join (i : Nat) (x y : Int) (hx0 : 0 ≤ x) (hx : x % 2 ^ i = 0) (hx1 : x < 4611686018427387904) (hy0 : 0 ≤ y) (hy : y < 2 ^ i) (hy1 : y < 4611686018427387904) : bits .or .i64 x y = x + y :=
  bits_join .i64 62 (by decide) wrap62 i x y hx0 hx (by have : (2 : Int) ^ 62 = 4611686018427387904 := by decide
                                                        omega) hy0 hy (by have : (2 : Int) ^ 62 = 4611686018427387904 := by decide
                                                                          omega)
theorem or_low0 {y x : Int} (hy : 0 ≤ y ∧ y < 256 ^ 0) (hx : 0 ≤ x ∧ x ≤ 255) : bits .or .i64 y x = y + 256 ^ 0 * x := by
  simp at hy
  obtain rfl : y = 0 := by omega
  rw [or_comm64, or_join 0 x 0 (by omega) (by simp) (by omega) (by omega) (by simp) (by omega)]
  simp
theorem or_low1 {y x : Int} (hy : 0 ≤ y ∧ y < 256 ^ 1) (hx : 0 ≤ x ∧ x ≤ 255) : bits .or .i64 y (x * 256) = y + 256 ^ 1 * x := by
  have h1 : (256 : Int) ^ 1 = 256 := by decide
  have h2 : (2 : Int) ^ 8 = 256 := by decide
  rw [h1] at hy
  rw [or_comm64, or_join 8 (x * 256) y (by omega) (by omega) (by omega) (by omega) (by omega) (by omega)]
  omega
theorem or_low2 {y x : Int} (hy : 0 ≤ y ∧ y < 256 ^ 2) (hx : 0 ≤ x ∧ x ≤ 255) : bits .or .i64 y (x * 65536) = y + 256 ^ 2 * x := by
  have h1 : (256 : Int) ^ 2 = 65536 := by decide
  have h2 : (2 : Int) ^ 16 = 65536 := by decide
  rw [h1] at hy
  rw [or_comm64, or_join 16 (x * 65536) y (by omega) (by omega) (by omega) (by omega) (by omega) (by omega)]
  omega
theorem or_low3 {y x : Int} (hy : 0 ≤ y ∧ y < 256 ^ 3) (hx : 0 ≤ x ∧ x ≤ 255) : bits .or .i64 y (x * 16777216) = y + 256 ^ 3 * x := by
  have h1 : (256 : Int) ^ 3 = 16777216 := by decide
  have h2 : (2 : Int) ^ 24 = 16777216 := by decide
  rw [h1] at hy
  rw [or_comm64, or_join 24 (x * 16777216) y (by omega) (by omega) (by omega) (by omega) (by omega) (by omega)]
  omega
theorem or_high {y x : Int} (hy : 0 ≤ y ∧ y < 16777216) (hx : 0 ≤ x ∧ x ≤ 255) : bits .or .i64 (y * 256) x = 256 * y + x := by
  have h2 : (2 : Int) ^ 8 = 256 := by decide
  rw [or_join 8 (y * 256) x (by omega) (by omega) (by omega) (by omega) (by omega) (by omega)]
  omega
set_option maxHeartbeats 800000 in
theorem getLow_any (C g o c pf gf k : Nat) (old : Bool) (n : Nat) (hn : n ≤ 4) (hk : k ≤ 128) (bs : List Int) (A B : Nat) (hBC : B ≤ C) (w : World) (hBs : B ≤ w.heap.size) (hB : BytesAt w A B (some ⟨g, o, none⟩) 128 c bs) (h : RCur w C g o c old pf gf k) :
    Calls Tryz.prog 70 #[.pointer (some ⟨C, 0, none⟩), .int .i64 n] w fun e w' => e = .returned (.int .i64 (numOf false (cutL bs k n))) ∧ Mv w w' C g o c old pf gf (min (k + n) 128) := by
  have hl := cutL_len hB.1 k n
  go_enter Tryz.func70, Tryz.ntmps70
  go_wp2_with fail
  refine (take_any C g o c pf gf k old n (by omega) hk bs A B hBC w hBs hB h).mono ?_
  rintro e w1 ⟨a1, c1, rfl, hB1, hM1⟩
  have hl4 : min (k + n) 128 - k ≤ 4 := by omega
  generalize hk' : min (k + n) 128 = k' at hB1 hM1 hl hl4 ⊢
  have HK : Hid (min (k + n) 128 = k') := hk'
  generalize k' - k = m at hB1 hl hl4 ⊢
  generalize hq : cutL bs k n = l at hB1 hl ⊢
  have HQ : Hid (cutL bs k n = l) := hq
  clear hk' hq
  have hby := hB1.2.2.2.1
  have HM1 : Hid (Mv w w1 C g o c old pf gf k') := hM1
  have HL : Hid (l.length = m) := hl
  clear hM1 hl hB h
  go_wp2_with fail
  go_loopw [5, 12] (fun x i wr => ∃ j : Nat, j ≤ m ∧ i = .int .i64 j ∧ wr = w1 ∧ x = .int .i64 (leN (l.take j))) (fun _ i _ => m - (intOf i).toNat)
  case atStart => exact ⟨0, by omega, rfl, rfl, rfl⟩
  case round =>
    obtain ⟨j, hj, rfl, rfl, rfl⟩ := hrel
    by_cases hlt : j < m
    · obtain ⟨b, off, rfl, hb, hcb⟩ := hB1.2.2.2.2.1 (by omega)
      have e1 := hcb j hlt
      have hx := getD_byteB hby j
      have hr := leN_range (l.take j) (fun x hx => hby x (List.mem_of_mem_take hx))
      have hlj : (l.take j).length = j := by have := HL.out; simp; omega
      rw [hlj] at hr
      have HS : Hid (leN (l.take (j + 1)) = leN (l.take j) + 256 ^ j * l.getD j 0) := by
        show _ = _
        have hll := HL.out
        rw [List.take_add_one, show l[j]?.toList = [l.getD j 0] by simp [List.getD, show j < l.length by omega], leN_snoc, hlj]
      generalize l.getD j 0 = x at e1 hx HS
      generalize leN (l.take j) = y at hr HS ⊢
      clear hB1 hcb hlj
      have h4 : j = 0 ∨ j = 1 ∨ j = 2 ∨ j = 3 := by omega
      rcases h4 with rfl | rfl | rfl | rfl
      · simp only [Nat.add_zero] at e1
        go_wp2
        go_roundw
        case rel => exact ⟨1, by omega, rfl, trivial, by rw [HS.out, or_low0 hr hx]⟩
        case measure => simp [intOf]; omega
      · go_wp2
        go_roundw
        case rel => exact ⟨2, by omega, rfl, trivial, by rw [HS.out, or_low1 hr hx]⟩
        case measure => simp [intOf]; omega
      · go_wp2
        go_roundw
        case rel => exact ⟨3, by omega, rfl, trivial, by rw [HS.out, or_low2 hr hx]⟩
        case measure => simp [intOf]; omega
      · go_wp2
        go_roundw
        case rel => exact ⟨4, by omega, rfl, trivial, by rw [HS.out, or_low3 hr hx]⟩
        case measure => simp [intOf]; omega
    · go_wp2
      go_ret
      obtain rfl : j = m := by omega
      rw [List.take_of_length_le (by have := HL.out; omega)]
      rw [HQ.out, HK.out]
      exact ⟨rfl, HM1.out⟩
theorem beN_take {l : List Int} {j : Nat} (h : j < l.length) : numOf true (l.take (j + 1)) = 256 * numOf true (l.take j) + l.getD j 0 := by
  rw [List.take_add_one, show l[j]?.toList = [l.getD j 0] by simp [List.getD, h]]
  simp only [numOf, if_true, List.reverse_append, List.reverse_cons, List.reverse_nil, List.nil_append, List.singleton_append, leN]
  omega
end Go.Proofs.YtnpndbicmamggaaGreat
namespace Go.Proofs.YtnpndbicmamggaaGreat
namespace New
open Go.RowKit
set_option linter.unusedVariables false
set_option maxRecDepth 100000

def rN (bs : List Int) (k n : Nat) : Int := numOf false (cutL bs k n)
def tLen (bs : List Int) (k : Nat) : Nat := (rN bs k 1).toNat
def adv (k n : Nat) : Nat := min (k + n) 128
def tStr (bs : List Int) (k : Nat) : ByteArray := toB (cutL bs (adv k 1) (tLen bs k))
def tEnd (bs : List Int) (k : Nat) : Nat := adv (adv k 1) (tLen bs k)
def kEnd (bs : List Int) (k : Nat) : Nat := if false = true then adv (tEnd bs k) (8 - (tStr bs k).size) else tEnd bs k
/-- A cursor of this format at k, over bytes that lie below it. -/
structure RAt (w : World) (C g o c A B : Nat) (bs : List Int) (k : Nat) : Prop where
  cur : RCur w C g o c false 69 70 k
  byt : BytesAt w A B (some ⟨g, o, none⟩) 128 c bs
  low : B ≤ C
  top : B ≤ w.heap.size
  pos : k ≤ 128
theorem RAt.mv {w w' : World} {C g o c A B : Nat} {bs : List Int} {k k' : Nat} (h : RAt w C g o c A B bs k) (hm : Mv w w' C g o c false 69 70 k') (hk : k' ≤ 128) : RAt w' C g o c A B bs k' :=
  ⟨hm.1, h.byt.fr hm.2 h.low h.top, h.low, Nat.le_trans h.top hm.2.size, hk⟩
theorem RAt.drew {w : World} {C g o c A B : Nat} {bs : List Int} {k : Nat} (h : RAt w C g o c A B bs k) : RAt w.drew C g o c A B bs k := ⟨h.cur.drew, h.byt, h.low, h.top, h.pos⟩
theorem adv_le (k n : Nat) : adv k n ≤ 128 := by unfold adv; omega
theorem rN_range {w : World} {C g o c A B : Nat} {bs : List Int} {k : Nat} (h : RAt w C g o c A B bs k) (j n : Nat) : 0 ≤ rN bs j n ∧ rN bs j n < 256 ^ (min (j + n) 128 - j) := by
  have := numOf_range false (l := cutL bs j n) (fun x hx => h.byt.2.2.2.1 x (List.mem_of_mem_drop (List.mem_of_mem_take hx)))
  rw [cutL_len h.byt.1] at this
  exact this
theorem rN_small {w : World} {C g o c A B : Nat} {bs : List Int} {k : Nat} (h : RAt w C g o c A B bs k) (j n : Nat) (hn : n ≤ 4) : 0 ≤ rN bs j n ∧ rN bs j n < 4294967296 := by
  have h1 := rN_range h j n
  refine ⟨h1.1, Int.lt_of_lt_of_le h1.2 ?_⟩
  have h4 : min (j + n) 128 - j ≤ 4 := by omega
  generalize min (j + n) 128 - j = m at h4
  have h5 : m = 0 ∨ m = 1 ∨ m = 2 ∨ m = 3 ∨ m = 4 := by omega
  rcases h5 with rfl | rfl | rfl | rfl | rfl <;> decide
theorem rN_one {w : World} {C g o c A B : Nat} {bs : List Int} {k : Nat} (h : RAt w C g o c A B bs k) (j : Nat) : 0 ≤ rN bs j 1 ∧ rN bs j 1 ≤ 255 := by
  have h1 := rN_range h j 1
  refine ⟨h1.1, ?_⟩
  have h4 : min (j + 1) 128 - j ≤ 1 := by omega
  generalize min (j + 1) 128 - j = m at h4 h1
  have h5 : m = 0 ∨ m = 1 := by omega
  rcases h5 with rfl | rfl <;> simp at h1 <;> omega
theorem tLen_le {w : World} {C g o c A B : Nat} {bs : List Int} {k : Nat} (h : RAt w C g o c A B bs k) (j : Nat) : tLen bs j ≤ 255 := by
  have := rN_one h j
  unfold tLen
  omega
theorem tStr_size {w : World} {C g o c A B : Nat} {bs : List Int} {k : Nat} (h : RAt w C g o c A B bs k) (j : Nat) : (tStr bs j).size ≤ 255 := by
  have h1 := tLen_le h j
  rw [tStr, toB_size, cutL_len h.byt.1]
  omega
theorem Get (C g o c A B : Nat) (bs : List Int) (k n : Nat) (hn : n ≤ 4) (w : World) (h : RAt w C g o c A B bs k) :
    Calls Tryz.prog 70 #[.pointer (some ⟨C, 0, none⟩), .int .i64 n] w fun e w' => e = .returned (.int .i64 (rN bs k n)) ∧ Mv w w' C g o c false 69 70 (adv k n) :=
  getLow_any C g o c _ _ k false n hn h.pos bs A B h.low w h.top h.byt h.cur
theorem smallWidthR (C g o c A B : Nat) (bs : List Int) (k : Nat) (w : World) (h : RAt w C g o c A B bs k) :
    Calls Tryz.prog 109 #[.pointer (some ⟨C, 0, none⟩)] w fun e w' => e = .returned (.int .i64 (smallN false)) ∧ w' = w := by
  obtain ⟨c0, c1, c2, c3, c4⟩ := h.cur.cells
  go_enter Tryz.func109, Tryz.ntmps109
  go_wp2
  go_ret
  exact ⟨rfl, rfl⟩
set_option maxHeartbeats 800000 in
theorem getSmall_any (C g o c A B : Nat) (bs : List Int) (k : Nat) (w : World) (h : RAt w C g o c A B bs k) :
    Calls Tryz.prog 106 #[.pointer (some ⟨C, 0, none⟩)] w fun e w' => e = .returned (.int .i64 (rN bs k (smallN false))) ∧ Mv w w' C g o c false 69 70 (adv k (smallN false)) := by
  obtain ⟨c0, c1, c2, c3, c4⟩ := h.cur.cells
  go_enter Tryz.func106, Tryz.ntmps106
  go_wp2_with fail
  go_region_held3 (fun w' => w'.cell? ⟨C, 4, none⟩ = some (.func (.func 70) #[.pointer (some ⟨C, 0, none⟩)] #[])) (go_keep)
    (first
      | (go_at_call 109; refine (smallWidthR C g o c A B bs k w.drew h.drew).mono ?_; rintro e w1 ⟨rfl, rfl⟩)
      | (go_at_call 70; refine (Get C g o c A B bs k (smallN false) (by decide) w.drew h.drew).mono ?_; rintro e w2 ⟨rfl, hM⟩; obtain ⟨_, _, _, _, q4⟩ := hM.1.cells))
  all_goals
    go_wp2
    go_ret
    exact ⟨rfl, hM.redraw⟩
set_option maxHeartbeats 800000 in
theorem getText_any (C g o c A B : Nat) (bs : List Int) (k : Nat) (w : World) (h : RAt w C g o c A B bs k) :
    Calls Tryz.prog 115 #[.pointer (some ⟨C, 0, none⟩)] w fun e w' => e = .returned (.string (tStr bs k)) ∧ Mv w w' C g o c false 69 70 (tEnd bs k) := by
  obtain ⟨c0, c1, c2, c3, c4⟩ := h.cur.cells
  have hone := rN_one h k
  have hw64 : IntKind.i64.wrap (rN bs k 1) = rN bs k 1 := by rw [IntKind.wrap_i64]; omega
  have HT : Hid (tStr bs k = toB (cutL bs (adv k 1) (rN bs k 1).toNat)) := rfl
  have HE : Hid (tEnd bs k = adv (adv k 1) (rN bs k 1).toNat) := rfl
  have HA := rN_one h k
  go_enter Tryz.func115, Tryz.ntmps115
  go_wp2_with fail
  refine (Get C g o c A B bs k 1 (by omega) w h).mono ?_
  rintro e w1 ⟨rfl, hM1⟩
  have h1 := h.mv hM1 (adv_le _ _)
  obtain ⟨d0, d1, d2, d3, d4⟩ := h1.cur.cells
  generalize hx : rN bs k 1 = x at hone hw64 HT HE ⊢
  obtain ⟨n, rfl⟩ : ∃ n : Nat, x = (n : Int) := ⟨x.toNat, by omega⟩
  simp only [Int.toNat_natCast] at HT HE
  clear hx c0 c1 c2 c3 c4 HA
  go_wp2_with fail
  refine (take_any C g o c _ _ (adv k 1) false n (by omega) h1.pos bs A B h1.low w1 h1.top h1.byt h1.cur).mono ?_
  rintro e w2 ⟨a2, c2, rfl, hB2, hM2⟩
  have hcv := str_conv hB2
  go_wp2
  go_ret
  rw [HT.out, HE.out]
  exact ⟨rfl, hM1.trans hM2⟩
set_option maxHeartbeats 800000 in
theorem getKey_any (C g o c A B : Nat) (bs : List Int) (k : Nat) (w : World) (h : RAt w C g o c A B bs k) :
    Calls Tryz.prog 99 #[.pointer (some ⟨C, 0, none⟩)] w fun e w' => e = .returned (.string (tStr bs k)) ∧ Mv w w' C g o c false 69 70 (kEnd bs k) := by
  have hsz := tStr_size h k
  go_enter Tryz.func99, Tryz.ntmps99
  go_wp2_with fail
  refine (getText_any C g o c A B bs k w h).mono ?_
  rintro e w1 ⟨rfl, hM1⟩
  have h1 := h.mv hM1 (adv_le _ _)
  obtain ⟨d0, d1, d2, d3, d4⟩ := h1.cur.cells
  have HK : Hid (kEnd bs k = if false = true then adv (tEnd bs k) (8 - (tStr bs k).size) else tEnd bs k) := rfl
  have HM : Hid (Mv w w1 C g o c false 69 70 (tEnd bs k)) := hM1
  clear hM1
  generalize tEnd bs k = te at h1 d1 HK HM ⊢
  generalize hts : tStr bs k = ts at hsz HK ⊢
  have HS : Hid (tStr bs k = ts) := hts
  clear hts
  by_cases h8 : ts.size ≤ 8
  · have e : (8 : Int) - (ts.size : Int) = ((8 - ts.size : Nat) : Int) := by omega
    go_wp2_with fail
    first
      | (go_ret; rw [HK.out, HS.out, if_neg (by decide)]; exact ⟨rfl, HM.out⟩)
      | (try rw [e]
         refine (take_any C g o c _ _ te false (8 - ts.size) (by omega) h1.pos bs A B h1.low w1 h1.top h1.byt h1.cur).mono ?_
         rintro e w2 ⟨a2, c2, rfl, hB2, hM2⟩
         go_wp2
         go_ret
         rw [HK.out, HS.out, if_pos (by decide)]
         exact ⟨rfl, HM.out.trans hM2⟩)
  · have e : 8 - ts.size = 0 := by omega
    have hneg : (8 : Int) - (ts.size : Int) < 0 := by omega
    go_wp2_with fail
    first
      | (go_ret; rw [HK.out, HS.out, if_neg (by decide)]; exact ⟨rfl, HM.out⟩)
      | (refine (take_any C g o c _ _ te false 0 (by omega) h1.pos bs A B h1.low w1 h1.top h1.byt h1.cur).mono ?_
         rintro e' w2 ⟨a2, c2, rfl, hB2, hM2⟩
         go_wp2
         go_ret
         rw [HK.out, HS.out, if_pos (by decide), e]
         exact ⟨rfl, HM.out.trans hM2⟩)
end New
end Go.Proofs.YtnpndbicmamggaaGreat
namespace Go.Proofs.YtnpndbicmamggaaGreat
namespace New
open Go.RowKit
set_option linter.unusedVariables false
set_option maxRecDepth 100000

theorem Fr.weaken {S T : Nat → Prop} {a b : World} (h : Fr S a b) (hst : ∀ x, S x → T x) : Fr T a b := ⟨h.1, h.2, h.3, h.4, fun k hk hT => h.block k hk (fun hs => hT (hst k hs))⟩
theorem box_frozen {w : World} {M t : Nat} {cs : Array Value} (h : w.heap[M]? = some (.cells cs t)) (j : Nat) : w.frozen? ⟨M, j, none⟩ = false := by simp [World.frozen?, h]
theorem box_two2 {w : World} {N : Nat} {v0 v1 : Value} {t : TypeId} (h : w.heap[N]? = some (.cells #[v0, v1] t)) : w.cell? ⟨N, 0, none⟩ = some v0 ∧ w.cell? ⟨N, 1, none⟩ = some v1 := by
  simp [World.cell?, h]
/-- The cursor went on to k', block M holds the box; nothing else that was there is written. -/
structure Rd (w w' : World) (C g o c A B : Nat) (bs : List Int) (k : Nat) (M : Nat) (box : Obj) : Prop where
  at' : RAt w' C g o c A B bs k
  box : w'.heap[M]? = some box
  fr : Fr (fun x => x = C ∨ x = M) w w'
theorem Rd.start {w : World} {C g o c A B : Nat} {bs : List Int} {k M : Nat} {box : Obj} (h : RAt w C g o c A B bs k) (hM : w.heap[M]? = some box) : Rd w w C g o c A B bs k M box := ⟨h, hM, Fr.refl _ _⟩
theorem Rd.mv {w w1 w2 : World} {C g o c A B : Nat} {bs : List Int} {k k' M : Nat} {box : Obj} (h : Rd w w1 C g o c A B bs k M box) (hMC : M ≠ C) (hm : Mv w1 w2 C g o c false 69 70 k') (hk : k' ≤ 128) : Rd w w2 C g o c A B bs k' M box :=
  ⟨h.at'.mv hm hk, (hm.2.block M (Array.getElem?_eq_some_iff.1 h.box).1 hMC).trans h.box, h.fr.trans (Fr.weaken hm.2 fun x hx => .inl hx)⟩
theorem Rd.drew {w w1 : World} {C g o c A B : Nat} {bs : List Int} {k M : Nat} {box : Obj} (h : Rd w w1 C g o c A B bs k M box) : Rd w w1.drew C g o c A B bs k M box := ⟨h.at'.drew, h.box, h.fr.trans (Fr.of_below (Below.refl _ _).drew)⟩
theorem Rd.redraw {w w1 : World} {C g o c A B : Nat} {bs : List Int} {k M : Nat} {box : Obj} (h : Rd w.drew w1 C g o c A B bs k M box) : Rd w w1 C g o c A B bs k M box := ⟨h.at', h.box, (Fr.of_below (Below.refl _ _).drew).trans h.fr⟩
theorem Rd.drewN {w w1 : World} {C g o c A B : Nat} {bs : List Int} {k M : Nat} {box : Obj} (h : Rd w w1 C g o c A B bs k M box) (q : Nat) : Rd w (w1.drewN q) C g o c A B bs k M box := ⟨⟨⟨h.at'.cur.box⟩, h.at'.byt, h.at'.low, h.at'.top, h.at'.pos⟩, h.box, h.fr.trans (Fr.of_below ⟨rfl, rfl, rfl, Nat.le_refl _, fun _ _ => rfl⟩)⟩
/-- A store into the box at M. -/
theorem Rd.put {w w1 : World} {C g o c A B : Nat} {bs : List Int} {k M t : Nat} {cs : Array Value} (h : Rd w w1 C g o c A B bs k M (.cells cs t)) (hMC : M ≠ C) (hBM : B ≤ M) (i : Nat) (v : Value) : Rd w (w1.setCell ⟨M, i, none⟩ v) C g o c A B bs k M (.cells (cs.setIfInBounds i v) t) := by
  have hs : ∀ x, x ≠ M → (w1.setCell ⟨M, i, none⟩ v).heap[x]? = w1.heap[x]? := fun x hx => Below.heap_setCell w1 ⟨M, i, none⟩ v x hx
  have hz : (w1.setCell ⟨M, i, none⟩ v).heap.size = w1.heap.size := by simp [World.setCell]
  refine ⟨⟨⟨(hs C (Ne.symm hMC)).trans h.at'.cur.box⟩, h.at'.byt.keep (fun x k1 k2 => hs x (by omega)), h.at'.low, by rw [hz]; exact h.at'.top, h.at'.pos⟩, ?_, h.fr.trans ⟨rfl, rfl, rfl, by rw [hz]; exact Nat.le_refl _, fun x _ hx => hs x (fun e => hx (.inr e))⟩⟩
  simp [World.setCell, Array.getElem?_modify, h.box]

def oNext (bs : List Int) (k : Nat) : Int := rN bs k (smallN false)
def oData (bs : List Int) (k : Nat) : ByteArray := tStr bs (adv k (smallN false))
def oEnd (bs : List Int) (k : Nat) : Nat := tEnd bs (adv k (smallN false))
set_option maxHeartbeats 800000 in
theorem overRead_any (C g o c A B : Nat) (bs : List Int) (k M : Nat) (count : Int) (w : World) (h : RAt w C g o c A B bs k) (hMC : M ≠ C) (hBM : B ≤ M) (n0 : Int) (d0 : ByteArray) (hM : w.heap[M]? = some (.cells #[.int .i64 n0, .string d0] 161)) :
    Calls Tryz.prog 127 #[.pointer (some ⟨M, 0, none⟩), .pointer (some ⟨C, 0, none⟩), .int .i64 count] w fun e w' => e = .returned (.tuple #[]) ∧ Rd w w' C g o c A B bs (oEnd bs k) M (.cells #[.int .i64 (oNext bs k), .string (oData bs k)] 161) := by
  have R0 := Rd.start h hM
  go_enter Tryz.func127, Tryz.ntmps127
  go_wp2_with fail
  refine (getSmall_any C g o c A B bs k w h).mono ?_
  rintro e w1 ⟨rfl, hM1⟩
  have R1 := R0.mv hMC hM1 (adv_le _ _)
  obtain ⟨x0, x1⟩ := box_two2 R1.box
  have f1 := box_frozen R1.box
  have R2 := R1.put hMC hBM 0 (.int .i64 (rN bs k (smallN false)))
  clear R0 hM1 R1
  go_wp2_with fail
  clear x0 x1 f1
  generalize w1.setCell ⟨M, 0, none⟩ (.int .i64 (rN bs k (smallN false))) = w2 at R2 ⊢
  refine (getText_any C g o c A B bs (adv k (smallN false)) w2 R2.at').mono ?_
  rintro e w3 ⟨rfl, hM3⟩
  have R3 := R2.mv hMC hM3 (adv_le _ _)
  obtain ⟨x0, x1⟩ := box_two2 (w := w3) (N := M) (by simpa using R3.box)
  have f3 := box_frozen R3.box
  have R4 := R3.put hMC hBM 1 (.string (tStr bs (adv k (smallN false))))
  clear R2 hM3 R3
  go_wp2
  go_end0
  exact ⟨rfl, by simpa [oNext, oData, oEnd] using R4⟩
end New
end Go.Proofs.YtnpndbicmamggaaGreat
namespace Go.Proofs.YtnpndbicmamggaaGreat
open Go.RowKit
set_option linter.unusedVariables false
set_option maxRecDepth 100000

theorem info_Kid : (Tryz.prog.info? 119).map (fun i => (i.zero, i.size, i.bytes)) = some (some (.agg #[.string ByteArray.empty, .int .i64 0]), 2, 24) := by kernel_rfl
theorem info_Ent : (Tryz.prog.info? 121).map (fun i => (i.zero, i.size, i.bytes)) = some (some (.agg #[.string ByteArray.empty, .string ByteArray.empty, .int .i64 0, .int .i64 0]), 4, 48) := by kernel_rfl

theorem set_twoP {xs ys : List Value} {n k : Nat} {p : PK} {cs : List PK} (hl : cs.length = n) (hk : k < n) (hp : p = cs.getD k dK) (hx : xs.length = n * 2) (h : ∀ j, j < k * 2 → xs[j]? = (rowsOf kidCells cs)[j]?) :
    ∀ j, j < (k + 1) * 2 → ((xs.set (k * 2) (.string p.1)).set (k * 2 + 1) (.int .i64 p.2))[j]? = (rowsOf kidCells cs)[j]? := by
  intro j hj
  have e0 := rowsOf_get kc2 dK cs k 0 (by omega) (by omega)
  have e1 := rowsOf_get kc2 dK cs k 1 (by omega) (by omega)
  by_cases h0 : j = k * 2
  · subst h0
    rw [List.getElem?_set_ne (by omega), List.getElem?_set_self (by omega), hp]
    simpa [kidCells] using e0.symm
  · by_cases h1 : j = k * 2 + 1
    · subst h1
      rw [List.getElem?_set_self (by simp; omega), hp]
      simpa [kidCells] using e1.symm
    · rw [List.getElem?_set_ne (by omega), List.getElem?_set_ne (by omega)]
      exact h j (by omega)
theorem set_four {xs : List Value} {n k : Nat} {p : PE} {cs : List PE} (hl : cs.length = n) (hk : k < n) (hp : p = cs.getD k dE) (hx : xs.length = n * 4) (h : ∀ j, j < k * 4 → xs[j]? = (rowsOf entCells cs)[j]?) :
    ∀ j, j < (k + 1) * 4 → ((((xs.set (k * 4) (.string p.1)).set (k * 4 + 1) (.string p.2.1)).set (k * 4 + 2) (.int .i64 p.2.2.1)).set (k * 4 + 3) (.int .i64 p.2.2.2))[j]? = (rowsOf entCells cs)[j]? := by
  intro j hj
  have e0 := rowsOf_get ec4 dE cs k 0 (by omega) (by omega)
  have e1 := rowsOf_get ec4 dE cs k 1 (by omega) (by omega)
  have e2 := rowsOf_get ec4 dE cs k 2 (by omega) (by omega)
  have e3 := rowsOf_get ec4 dE cs k 3 (by omega) (by omega)
  by_cases h0 : j = k * 4
  · subst h0
    rw [List.getElem?_set_ne (by omega), List.getElem?_set_ne (by omega), List.getElem?_set_ne (by omega), List.getElem?_set_self (by omega), hp]
    simpa [entCells] using e0.symm
  · by_cases h1 : j = k * 4 + 1
    · subst h1
      rw [List.getElem?_set_ne (by omega), List.getElem?_set_ne (by omega), List.getElem?_set_self (by simp; omega), hp]
      simpa [entCells] using e1.symm
    · by_cases h2 : j = k * 4 + 2
      · subst h2
        rw [List.getElem?_set_ne (by omega), List.getElem?_set_self (by simp; omega), hp]
        simpa [entCells] using e2.symm
      · by_cases h3 : j = k * 4 + 3
        · subst h3
          rw [List.getElem?_set_self (by simp; omega), hp]
          simpa [entCells] using e3.symm
        · rw [List.getElem?_set_ne (by omega), List.getElem?_set_ne (by omega), List.getElem?_set_ne (by omega), List.getElem?_set_ne (by omega)]
          exact h j (by omega)

end Go.Proofs.YtnpndbicmamggaaGreat
