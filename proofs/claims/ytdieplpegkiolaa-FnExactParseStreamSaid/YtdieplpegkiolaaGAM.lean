import Derived.Test.YtdieplpegkiolaaGAA
import Derived.Test.YtdieplpegkiolaaGAB
import Derived.Test.YtdieplpegkiolaaRa
import Derived.Test.YtdieplpegkiolaaPgB5
import Derived.Test.YtdieplpegkiolaaPgW4
namespace Go.Proofs.Ytdieplpegkiolaa
open Go.RowKit
set_option linter.unusedVariables false
set_option maxRecDepth 100000

def bodyOk (low last : Int) (p : Pg) : Bool :=
  if p.kind = 1 then metaOk low last p else if p.kind = 2 then branchOk low last p else if p.kind = 3 then leafOk low last p else if p.kind = 4 then overOk low last p else false
def bodyB (hi : Bool) (p : Pg) : List Int :=
  if p.kind = 1 then metaB hi p else if p.kind = 2 then kidsB hi (smallW hi) p.ks p.ks.length else if p.kind = 3 then entsB hi (smallW hi) p.es p.es.length else if p.kind = 4 then numB hi (smallW hi) p.next ++ textB p.data else []
structure PgFit (p : Pg) : Prop where
  kind : I64 p.kind
  tx : I64 p.tx
  id : I64 p.id
  root : I64 p.root
  count : I64 p.count
  next : I64 p.next
  data : p.data.size ≤ maxLen

theorem l2Body_any (p : Pg) (hf : PgFit p) (ka : Option Addr) (kc : Nat) (ea : Option Addr) (ec : Nat) (low last : Int) (hlow : 1 ≤ low) (w : World) (A B : Nat) (hB : B ≤ w.heap.size) (hK : KidsAt w A B ka p.ks.length kc p.ks) (hE : EntsAt w A B ea p.es.length ec p.es) :
    Calls Try.prog 48 #[.agg #[.int .i64 p.kind, .int .i64 p.tx, .int .i64 p.id, .int .i64 p.root, .int .i64 p.count, .slice ka p.ks.length kc, .slice ea p.es.length ec, .int .i64 p.next, .string p.data], .int .i64 low, .int .i64 last] w fun e w' => e = .returned (.bool (bodyOk low last p)) ∧ Below w.heap.size w w' := by
  have hkl := Nat.le_trans hK.2.1 hK.2.2.1
  have hel := Nat.le_trans hE.2.1 hE.2.2.1
  by_cases h1 : p.kind = 1
  · simp only [bodyOk, if_pos h1]
    exact l2Body_meta p h1 ka kc ea ec hf.data low last w hkl hel
  by_cases h2 : p.kind = 2
  · simp only [bodyOk, if_neg h1, if_pos h2]
    obtain ⟨kind, tx, id, root, count, ks, es, next, data⟩ := p
    simp only at h2 hK hE hkl hel ⊢
    subst h2
    by_cases hz : id = 0 ∧ root = 0 ∧ count = 0 ∧ es.length = 0 ∧ next = 0 ∧ data.toList = [] ∧ 2 ≤ ks.length ∧ ks.length ≤ 4
    · obtain ⟨rfl, rfl, rfl, he, rfl, hd, g2, g4⟩ := hz
      have := l2Body_branch1 tx ka kc ks ks.length ea ec data low last w A B hB hK hd g2 g4
      rw [he]
      refine this.mono ?_
      rintro e w' ⟨rfl, hb⟩
      exact ⟨by simp [branchOk, noMeta, he, hd, g2, g4], hb⟩
    · refine (l2Body_branch0 tx id root count ka ks.length kc ea es.length ec next data low last w hkl hel hf.data ?_).mono ?_
      · by_cases c1 : id = 0 <;> by_cases c2 : root = 0 <;> by_cases c3 : count = 0 <;> by_cases c4 : es.length = 0 <;> by_cases c5 : next = 0 <;> by_cases c6 : data.toList = [] <;> simp_all <;> omega
      · rintro e w' ⟨rfl, hb⟩
        refine ⟨?_, hb⟩
        congr 2
        symm
        rw [Bool.eq_false_iff]
        intro hb
        apply hz
        simp [branchOk, noMeta] at hb
        obtain ⟨⟨⟨⟨⟨⟨⟨⟨a1, a2, a3⟩, a4⟩, a5⟩, a6⟩, a7⟩, a8⟩, a9⟩, _⟩ := hb
        exact ⟨a1, a2, a3, by simp [a4], a5, a6, a7, a8⟩
  by_cases h3 : p.kind = 3
  · simp only [bodyOk, if_neg h1, if_neg h2, if_pos h3]
    obtain ⟨kind, tx, id, root, count, ks, es, next, data⟩ := p
    simp only at h3 hK hE hkl hel ⊢
    subst h3
    by_cases hz : id = 0 ∧ root = 0 ∧ count = 0 ∧ ks.length = 0 ∧ next = 0 ∧ data.toList = [] ∧ es.length ≤ 4
    · obtain ⟨rfl, rfl, rfl, hk, rfl, hd, g4⟩ := hz
      have := l2Body_leaf1 tx ka kc es es.length ea ec data low last hlow w A B hB hE hd g4
      rw [hk]
      refine this.mono ?_
      rintro e w' ⟨rfl, hb⟩
      exact ⟨by simp [leafOk, noMeta, hk, hd, g4], hb⟩
    · refine (l2Body_leaf0 tx id root count ka ks.length kc ea es.length ec next data low last w hkl hel hf.data ?_).mono ?_
      · by_cases c1 : id = 0 <;> by_cases c2 : root = 0 <;> by_cases c3 : count = 0 <;> by_cases c4 : ks.length = 0 <;> by_cases c5 : next = 0 <;> by_cases c6 : data.toList = [] <;> simp_all
      · rintro e w' ⟨rfl, hb⟩
        refine ⟨?_, hb⟩
        congr 2
        symm
        rw [Bool.eq_false_iff]
        intro hb
        apply hz
        simp [leafOk, noMeta] at hb
        obtain ⟨⟨⟨⟨⟨⟨a1, a2, a3⟩, a4⟩, a5⟩, a6⟩, a7⟩, _⟩ := hb
        exact ⟨a1, a2, a3, by simp [a4], a5, a6, a7⟩
  by_cases h4 : p.kind = 4
  · simp only [bodyOk, if_neg h1, if_neg h2, if_neg h3, if_pos h4]
    exact l2Body_over p h4 ka kc ea ec hf.data low last w hkl hel
  · simp only [bodyOk, if_neg h1, if_neg h2, if_neg h3, if_neg h4]
    exact l2Body_other p h1 h2 h3 h4 ka kc ea ec low last w

theorem all_get {f : Nat → Bool} {n i : Nat} (h : (List.range n).all f = true) (hi : i < n) : f i = true := all_range h hi
theorem smallW_le (hi : Bool) : smallW hi ≤ 4 := by cases hi <;> decide
theorem kidsB_len (hi : Bool) (nw : Nat) (ks : List PK) : ∀ n, (∀ i, i < n → 0 < i → (ks.getD i dK).1.size ≤ 8) → (kidsB hi nw ks n).length ≤ n * (9 + nw)
  | 0, _ => by simp [kidsB]
  | n + 1, h => by
    have ih := kidsB_len hi nw ks n (fun i h1 h2 => h i (by omega) h2)
    have h8 := h n (by omega)
    simp only [kidsB, kidB, List.length_append, numB_len]
    rw [Nat.add_mul]
    by_cases h0 : 0 < n
    · rw [if_pos h0, textB_len]; have := h8 h0; omega
    · rw [if_neg h0]; simp; omega
theorem entB_len (hi : Bool) (nw : Nat) (e : PE) (h1 : e.1.size ≤ 8) (h2 : e.2.1.size ≤ 8) (hn : nw ≤ 4) : (entB hi nw e).length ≤ 19 := by
  simp only [entB, List.length_append, textB_len]
  have a : (if hi then List.replicate (8 - e.1.size) (0 : Int) else []).length ≤ 8 - e.1.size := by cases hi <;> simp
  have b : (if e.2.2.1 = 0 then 0 :: textB e.2.1 else 1 :: (numB hi nw e.2.2.1 ++ numB hi nw e.2.2.2)).length ≤ 10 := by
    split
    · simp [textB_len]; omega
    · simp [numB_len]; omega
  omega
theorem entsB_len (hi : Bool) (nw : Nat) (es : List PE) (hn : nw ≤ 4) : ∀ n, (∀ i, i < n → (es.getD i dE).1.size ≤ 8 ∧ (es.getD i dE).2.1.size ≤ 8) → (entsB hi nw es n).length ≤ n * 19
  | 0, _ => by simp [entsB]
  | n + 1, h => by
    have ih := entsB_len hi nw es hn n (fun i h1 => h i (by omega))
    have h8 := h n (by omega)
    have := entB_len hi nw (es.getD n dE) h8.1 h8.2 hn
    simp only [entsB, List.length_append]
    omega
/-- What a good page's kids and entries are like. -/
theorem branch_sizes {low last : Int} {p : Pg} (h : branchOk low last p = true) : p.ks.length ≤ 4 ∧ ∀ i, i < p.ks.length → 0 < i → (p.ks.getD i dK).1.size ≤ 8 := by
  simp only [branchOk, Bool.and_eq_true] at h
  obtain ⟨⟨⟨_, h4⟩, _⟩, hk⟩ := h
  refine ⟨by simpa using h4, fun i hi h0 => ?_⟩
  have := all_range hk hi
  simp [kidOk, h0, keyB] at this
  exact this.2.1.2
theorem ent_sizes {low last : Int} {e : PE} (h : shortB e = true ∨ longB low last e = true) : e.2.1.size ≤ 8 := by
  rcases h with h | h
  · simp [shortB] at h; exact h.2
  · simp [longB] at h
    have := h.1.2
    have hs : e.2.1.size = 0 := by
      have h2 : e.2.1.data.toList = [] := by simpa [ByteArray.toList_eq] using this
      have h3 : e.2.1.data.size = 0 := by rw [← Array.length_toList, h2]; rfl
      exact h3
    omega
theorem leaf_sizes {low last : Int} {p : Pg} (h : leafOk low last p = true) : p.es.length ≤ 4 ∧ ∀ i, i < p.es.length → (p.es.getD i dE).1.size ≤ 8 ∧ (p.es.getD i dE).2.1.size ≤ 8 := by
  simp only [leafOk, Bool.and_eq_true] at h
  obtain ⟨⟨_, h4⟩, hk⟩ := h
  refine ⟨by simpa using h4, fun i hi => ?_⟩
  have := all_range hk hi
  simp only [entOk, Bool.and_eq_true, Bool.or_eq_true] at this
  refine ⟨?_, ent_sizes this.1.2⟩
  have := this.1.1
  simp [keyB] at this
  exact this.2
theorem over_size {low last : Int} {p : Pg} (h : overOk low last p = true) : p.data.size ≤ 96 := by
  simp [overOk] at h
  exact h.1.2
theorem bodyB_len (hi : Bool) {low last : Int} {p : Pg} (h : bodyOk low last p = true) : (bodyB hi p).length ≤ 104 := by
  have hw := smallW_le hi
  unfold bodyOk at h
  unfold bodyB
  split at h
  · rename_i h1; rw [if_pos h1]; cases hi <;> simp [metaB, beB_len, leB_len]
  · rename_i h1
    rw [if_neg h1]
    split at h
    · rename_i h2; rw [if_pos h2]
      have ⟨h4, hs⟩ := branch_sizes h
      have := kidsB_len hi (smallW hi) p.ks _ hs
      have := Nat.mul_le_mul h4 (show 9 + smallW hi ≤ 13 by omega)
      omega
    · rename_i h2; rw [if_neg h2]
      split at h
      · rename_i h3; rw [if_pos h3]
        have ⟨h4, hs⟩ := leaf_sizes h
        have := entsB_len hi (smallW hi) p.es hw _ hs
        omega
      · rename_i h3; rw [if_neg h3]
        split at h
        · rename_i h4; rw [if_pos h4]
          have := over_size h
          simp [numB_len, textB_len]; omega
        · cases h
theorem l2WriteBody_any (hi : Bool) (p : Pg) (hf : PgFit p) (low last : Int) (hok : bodyOk low last p = true) (ka : Option Addr) (kc : Nat) (ea : Option Addr) (ec : Nat) (w : World) (A B : Nat) (hB : B ≤ w.heap.size) (hK : KidsAt w A B ka p.ks.length kc p.ks) (hE : EntsAt w A B ea p.es.length ec p.es) :
    Calls Try.prog 52 #[.agg #[.int .i64 p.kind, .int .i64 p.tx, .int .i64 p.id, .int .i64 p.root, .int .i64 p.count, .slice ka p.ks.length kc, .slice ea p.es.length ec, .int .i64 p.next, .string p.data], .agg #[.bool hi, .int .i64 (smallW hi), .bool hi]] w fun e w' => ∃ v m, e = .returned v ∧ w'.ownsRow w.heap.size 5 1 v m (u8s (bodyB hi p)) ∧ Below w.heap.size w w' := by
  have hw := smallW_le hi
  unfold bodyOk at hok
  split at hok
  · rename_i h1
    simp only [bodyB, if_pos h1]
    cases hi
    · have := l2WriteBody_metaNew p.tx p.id p.root p.count hf.id hf.root hf.count ka p.ks.length kc ea p.es.length ec p.next p.data w
      rw [← h1] at this
      exact this.mono fun e w' ⟨v, he, hv, hb⟩ => ⟨v, 16, he, hv, hb⟩
    · have := l2WriteBody_metaOld p.tx p.id p.root p.count hf.id hf.root hf.count ka p.ks.length kc ea p.es.length ec p.next p.data w
      rw [← h1] at this
      exact this.mono fun e w' ⟨v, he, hv, hb⟩ => ⟨v, 10, he, hv, hb⟩
  · rename_i h1
    split at hok
    · rename_i h2
      simp only [bodyB, if_neg h1, if_pos h2]
      have ⟨h4, hs⟩ := branch_sizes hok
      have := l2WriteBody_branch hi (smallW hi) (by omega) p.tx p.id p.root p.count ka p.ks.length kc p.ks ea p.es.length ec p.next p.data w A B hB hK h4 hs
      rw [← h2] at this
      exact this
    · rename_i h2
      split at hok
      · rename_i h3
        simp only [bodyB, if_neg h1, if_neg h2, if_pos h3]
        have ⟨h4, hs⟩ := leaf_sizes hok
        have := l2WriteBody_leaf hi (smallW hi) (by omega) p.tx p.id p.root p.count ka p.ks.length kc ea p.es.length ec p.es p.next p.data w A B hB hE h4 hs
        rw [← h3] at this
        exact this
      · rename_i h3
        split at hok
        · rename_i h4
          simp only [bodyB, if_neg h1, if_neg h2, if_neg h3, if_pos h4]
          have := l2WriteBody_over hi (smallW hi) (by omega) p.tx p.id p.root p.count ka p.ks.length kc ea p.es.length ec p.next hf.next p.data (over_size hok) w
          rw [← h4] at this
          exact this
        · cases hok
theorem l2Count_any (p : Pg) (ka : Option Addr) (kn kc : Nat) (ea : Option Addr) (en ec : Nat) (hk : kn + en ≤ 255) (w : World) :
    Calls Try.prog 50 #[.agg #[.int .i64 p.kind, .int .i64 p.tx, .int .i64 p.id, .int .i64 p.root, .int .i64 p.count, .slice ka kn kc, .slice ea en ec, .int .i64 p.next, .string p.data]] w fun e w' => e = .returned (.int .u8 ((kn + en : Nat) : Int)) ∧ Below w.heap.size w w' := by
  go_enter Try.func50, Try.ntmps50
  go_wp2
  go_ret
  refine ⟨?_, (Below.refl _ _).alloc (Nat.le_refl _) _⟩
  simp
end Go.Proofs.Ytdieplpegkiolaa
namespace Go.Proofs.Ytdieplpegkiolaa
open Go.RowKit
set_option linter.unusedVariables false
set_option maxRecDepth 100000

def padB (n : Nat) (l : List Int) : List Int := l ++ List.replicate (n - l.length) 0
def sumI (l : List Int) : Int := l.foldl (· + ·) 0
def oldCode (p : Pg) : List Int :=
  padB 127 ([79, p.kind, ((p.ks.length + p.es.length : Nat) : Int)] ++ bodyB true p) ++ [sumI (padB 127 ([79, p.kind, ((p.ks.length + p.es.length : Nat) : Int)] ++ bodyB true p)) % 256]
def oldCodeOf (p : Pg) : List Int := if p.tx = 0 ∧ bodyOk 1 998 p = true then oldCode p else []

theorem body_count {low last : Int} {p : Pg} (h : bodyOk low last p = true) : p.ks.length + p.es.length ≤ 255 := by
  unfold bodyOk at h
  split at h
  · simp [metaOk] at h; have h1 := h.1.1.1.2; have h2 := h.1.1.2; simp [h1, h2]
  · split at h
    · have := (branch_sizes h).1; simp [branchOk] at h; have h2 := h.1.1.1.1.1.1.2; simp [h2]; omega
    · split at h
      · have := (leaf_sizes h).1; simp [leafOk] at h; have h2 := h.1.1.1.1.2; simp [h2]; omega
      · split at h
        · simp [overOk] at h; have h1 := h.1.1.1.1.2; have h2 := h.1.1.1.2; simp [h1, h2]
        · cases h
theorem body_kind {low last : Int} {p : Pg} (h : bodyOk low last p = true) : 0 ≤ p.kind ∧ p.kind ≤ 255 := by
  unfold bodyOk at h
  split at h
  · omega
  · split at h
    · omega
    · split at h
      · omega
      · split at h
        · omega
        · cases h
theorem textB_byte {s : ByteArray} (h : s.size ≤ 255) : ∀ x ∈ textB s, 0 ≤ x ∧ x ≤ 255 := by
  intro x hx
  rcases List.mem_cons.1 hx with rfl | hx
  · omega
  · exact strB_byte s x hx
theorem bytes_app {a b : List Int} (ha : ∀ x ∈ a, 0 ≤ x ∧ x ≤ 255) (hb : ∀ x ∈ b, 0 ≤ x ∧ x ≤ 255) : ∀ x ∈ a ++ b, 0 ≤ x ∧ x ≤ 255 := by
  intro x hx
  rcases List.mem_append.1 hx with h | h
  · exact ha x h
  · exact hb x h
theorem kidsB_byte (hi : Bool) (nw : Nat) (ks : List PK) : ∀ n, (∀ i, i < n → 0 < i → (ks.getD i dK).1.size ≤ 8) → ∀ x ∈ kidsB hi nw ks n, 0 ≤ x ∧ x ≤ 255
  | 0, _ => by intro x hx; cases hx
  | n + 1, h => by
    refine bytes_app (kidsB_byte hi nw ks n (fun i h1 h2 => h i (by omega) h2)) (bytes_app ?_ (numB_byte _ _ _))
    split
    · rename_i h0; exact textB_byte (by have := h n (by omega) h0; omega)
    · intro x hx; cases hx
theorem entsB_byte (hi : Bool) (nw : Nat) (es : List PE) : ∀ n, (∀ i, i < n → (es.getD i dE).1.size ≤ 8 ∧ (es.getD i dE).2.1.size ≤ 8) → ∀ x ∈ entsB hi nw es n, 0 ≤ x ∧ x ≤ 255
  | 0, _ => by intro x hx; cases hx
  | n + 1, h => by
    have h8 := h n (by omega)
    refine bytes_app (entsB_byte hi nw es n (fun i h1 => h i (by omega))) (bytes_app (bytes_app (textB_byte (by omega)) ?_) ?_)
    · split
      · intro x hx; have := List.eq_of_mem_replicate hx; omega
      · intro x hx; cases hx
    · split
      · intro x hx
        rcases List.mem_cons.1 hx with rfl | hx
        · omega
        · exact textB_byte (by omega) x hx
      · intro x hx
        rcases List.mem_cons.1 hx with rfl | hx
        · omega
        · exact bytes_app (numB_byte _ _ _) (numB_byte _ _ _) x hx
theorem bodyB_byte (hi : Bool) {low last : Int} {p : Pg} (h : bodyOk low last p = true) : ∀ x ∈ bodyB hi p, 0 ≤ x ∧ x ≤ 255 := by
  unfold bodyOk at h
  unfold bodyB
  split at h
  · rename_i h1; rw [if_pos h1]
    cases hi
    · exact bytes_app (bytes_app (bytes_app (leB_byte _ _) (leB_byte _ _)) (leB_byte _ _)) (by intro x hx; simp at hx; omega)
    · exact bytes_app (bytes_app (beB_byte _ _) (beB_byte _ _)) (beB_byte _ _)
  · rename_i h1
    rw [if_neg h1]
    split at h
    · rename_i h2; rw [if_pos h2]; exact kidsB_byte _ _ _ _ (branch_sizes h).2
    · rename_i h2; rw [if_neg h2]
      split at h
      · rename_i h3; rw [if_pos h3]; exact entsB_byte _ _ _ _ (leaf_sizes h).2
      · rename_i h3; rw [if_neg h3]
        split at h
        · rename_i h4; rw [if_pos h4]
          exact bytes_app (numB_byte _ _ _) (textB_byte (by have := over_size h; omega))
        · cases h
theorem bytesAt_row {w : World} {base n c : Nat} {a : Option Addr} {bs : List Int} (h : w.ownsRow base 5 1 (.slice a n c) n (u8s bs)) (hw : ∀ x ∈ bs, 0 ≤ x ∧ x ≤ 255) : BytesAt w base w.heap.size a n c bs := by
  have hn : n = bs.length := by have := h.1; simp [u8s] at this; omega
  subst hn
  obtain ⟨a', n', c', hv, hB⟩ := bytesAt_of_own h hw
  injection hv with h1 h2 h3
  subst h1 h2 h3
  exact hB

theorem getD_byteB {bs : List Int} (hw : ∀ x ∈ bs, 0 ≤ x ∧ x ≤ 255) (k : Nat) : 0 ≤ bs.getD k 0 ∧ bs.getD k 0 ≤ 255 := by
  by_cases h : k < bs.length
  · rw [show bs.getD k 0 = bs[k] by simp [List.getD, h]]; exact hw _ (List.getElem_mem h)
  · rw [show bs.getD k 0 = 0 by simp [List.getD, Nat.le_of_not_lt h]]; omega
theorem sumI_take {l : List Int} {k : Nat} (h : k < l.length) : sumI (l.take (k + 1)) = sumI (l.take k) + l.getD k 0 := by
  rw [sumI, ← List.take_append_getElem h, List.foldl_append]
  simp [sumI, List.getD, h]
end Go.Proofs.Ytdieplpegkiolaa
namespace Go.Proofs.Ytdieplpegkiolaa
open Go.RowKit
set_option linter.unusedVariables false
set_option maxRecDepth 100000

/-- The number that bytes are, the lowest first. -/
def leN : List Int → Int
  | [] => 0
  | b :: r => b + 256 * leN r
def numOf (high : Bool) (bs : List Int) : Int := if high then leN bs.reverse else leN bs
theorem leN_snoc : ∀ (l : List Int) (x : Int), leN (l ++ [x]) = leN l + 256 ^ l.length * x
  | [], x => by simp [leN]
  | b :: r, x => by
    rw [List.cons_append, leN, leN_snoc r x, leN, List.length_cons, Int.pow_succ]
    rw [Int.mul_add, ← Int.mul_assoc, Int.mul_comm (256 ^ r.length) 256, Int.add_assoc]
theorem leN_range : ∀ (l : List Int), (∀ x ∈ l, 0 ≤ x ∧ x ≤ 255) → 0 ≤ leN l ∧ leN l < 256 ^ l.length
  | [], _ => by simp [leN]
  | b :: r, h => by
    have h1 := h b (List.mem_cons_self ..)
    have h2 := leN_range r (fun x hx => h x (List.mem_cons_of_mem _ hx))
    rw [leN, List.length_cons, Int.pow_succ]
    omega
theorem numOf_range (high : Bool) {l : List Int} (h : ∀ x ∈ l, 0 ≤ x ∧ x ≤ 255) : 0 ≤ numOf high l ∧ numOf high l < 256 ^ l.length := by
  cases high
  · exact leN_range l h
  · have := leN_range l.reverse (fun x hx => h x (List.mem_reverse.1 hx))
    simpa [numOf] using this
theorem leN_leB : ∀ n x, 0 ≤ x → x < 256 ^ n → leN (leB n x) = x
  | 0, x, h0, h1 => by simp at h1; simp [leB, leN]; omega
  | n + 1, x, h0, h1 => by
    rw [Int.pow_succ] at h1
    rw [leB, leN, leN_leB n (x / 256) (by omega) (by omega)]
    omega
theorem numOf_numB (high : Bool) (n : Nat) (x : Int) (h0 : 0 ≤ x) (h1 : x < 256 ^ n) : numOf high (numB high n x) = x := by
  cases high
  · exact leN_leB n x h0 h1
  · simp [numOf, numB, beB, leN_leB n x h0 h1]
theorem or_comm64 (a b : Int) : bits .or .i64 a b = bits .or .i64 b a := by
  show IntKind.i64.wrap ((BitVec.ofInt 64 a ||| BitVec.ofInt 64 b).toNat : Int) = IntKind.i64.wrap ((BitVec.ofInt 64 b ||| BitVec.ofInt 64 a).toNat : Int)
  rw [BitVec.or_comm]
theorem wrap62 : ∀ n : Int, 0 ≤ n → n < 2 ^ 62 → IntKind.i64.wrap n = n := by
  intro n h0 h1
  rw [IntKind.wrap_i64]
  have : (2 : Int) ^ 62 = 4611686018427387904 := by decide
  omega
theorem or_join (i : Nat) (x y : Int) (hx0 : 0 ≤ x) (hx : x % 2 ^ i = 0) (hx1 : x < 4611686018427387904) (hy0 : 0 ≤ y) (hy : y < 2 ^ i) (hy1 : y < 4611686018427387904) : bits .or .i64 x y = x + y :=
  bits_join .i64 62 (by decide) wrap62 i x y hx0 hx (by have : (2 : Int) ^ 62 = 4611686018427387904 := by decide
                                                        omega) hy0 hy (by have : (2 : Int) ^ 62 = 4611686018427387904 := by decide
                                                                          omega)
theorem or_low0 {y x : Int} (hy : 0 ≤ y ∧ y < 256 ^ 0) (hx : 0 ≤ x ∧ x ≤ 255) : bits .or .i64 y x = y + 256 ^ 0 * x := by
  simp at hy
  obtain rfl : y = 0 := by omega
  rw [or_comm64, or_join 0 x 0 (by omega) (by simp) (by omega) (by omega) (by simp) (by omega)]
  simp
theorem or_low1 {y x : Int} (hy : 0 ≤ y ∧ y < 256 ^ 1) (hx : 0 ≤ x ∧ x ≤ 255) : bits .or .i64 y (x * 256) = y + 256 ^ 1 * x := by
  have h1 : (256 : Int) ^ 1 = 256 := by decide
  have h2 : (2 : Int) ^ 8 = 256 := by decide
  rw [h1] at hy
  rw [or_comm64, or_join 8 (x * 256) y (by omega) (by omega) (by omega) (by omega) (by omega) (by omega)]
  omega
theorem or_low2 {y x : Int} (hy : 0 ≤ y ∧ y < 256 ^ 2) (hx : 0 ≤ x ∧ x ≤ 255) : bits .or .i64 y (x * 65536) = y + 256 ^ 2 * x := by
  have h1 : (256 : Int) ^ 2 = 65536 := by decide
  have h2 : (2 : Int) ^ 16 = 65536 := by decide
  rw [h1] at hy
  rw [or_comm64, or_join 16 (x * 65536) y (by omega) (by omega) (by omega) (by omega) (by omega) (by omega)]
  omega
theorem or_low3 {y x : Int} (hy : 0 ≤ y ∧ y < 256 ^ 3) (hx : 0 ≤ x ∧ x ≤ 255) : bits .or .i64 y (x * 16777216) = y + 256 ^ 3 * x := by
  have h1 : (256 : Int) ^ 3 = 16777216 := by decide
  have h2 : (2 : Int) ^ 24 = 16777216 := by decide
  rw [h1] at hy
  rw [or_comm64, or_join 24 (x * 16777216) y (by omega) (by omega) (by omega) (by omega) (by omega) (by omega)]
  omega
theorem or_high {y x : Int} (hy : 0 ≤ y ∧ y < 16777216) (hx : 0 ≤ x ∧ x ≤ 255) : bits .or .i64 (y * 256) x = 256 * y + x := by
  have h2 : (2 : Int) ^ 8 = 256 := by decide
  rw [or_join 8 (y * 256) x (by omega) (by omega) (by omega) (by omega) (by omega) (by omega)]
  omega
set_option maxHeartbeats 800000 in
theorem getLow_any (C g o c pf gf k : Nat) (old : Bool) (n : Nat) (hn : n ≤ 4) (hk : k ≤ 128) (bs : List Int) (A B : Nat) (hBC : B ≤ C) (w : World) (hBs : B ≤ w.heap.size) (hB : BytesAt w A B (some ⟨g, o, none⟩) 128 c bs) (h : RCur w C g o c old pf gf k) :
    Calls Try.prog 54 #[.pointer (some ⟨C, 0, none⟩), .int .i64 n] w fun e w' => e = .returned (.int .i64 (numOf false (cutL bs k n))) ∧ Mv w w' C g o c old pf gf (min (k + n) 128) := by
  have hl := cutL_len hB.1 k n
  go_enter Try.func54, Try.ntmps54
  go_wp2_with fail
  refine (take_any C g o c pf gf k old n (by omega) hk bs A B hBC w hBs hB h).mono ?_
  rintro e w1 ⟨a1, c1, rfl, hB1, hM1⟩
  have hl4 : min (k + n) 128 - k ≤ 4 := by omega
  generalize hk' : min (k + n) 128 = k' at hB1 hM1 hl hl4 ⊢
  have HK : Hid (min (k + n) 128 = k') := hk'
  generalize k' - k = m at hB1 hl hl4 ⊢
  generalize hq : cutL bs k n = l at hB1 hl ⊢
  have HQ : Hid (cutL bs k n = l) := hq
  clear hk' hq
  have hby := hB1.2.2.2.1
  have HM1 : Hid (Mv w w1 C g o c old pf gf k') := hM1
  have HL : Hid (l.length = m) := hl
  clear hM1 hl hB h
  go_wp2_with fail
  go_loopw [5, 12] (fun x i wr => ∃ j : Nat, j ≤ m ∧ i = .int .i64 j ∧ wr = w1 ∧ x = .int .i64 (leN (l.take j))) (fun _ i _ => m - (intOf i).toNat)
  case atStart => exact ⟨0, by omega, rfl, rfl, rfl⟩
  case round =>
    obtain ⟨j, hj, rfl, rfl, rfl⟩ := hrel
    by_cases hlt : j < m
    · obtain ⟨b, off, rfl, hb, hcb⟩ := hB1.2.2.2.2.1 (by omega)
      have e1 := hcb j hlt
      have hx := getD_byteB hby j
      have hr := leN_range (l.take j) (fun x hx => hby x (List.mem_of_mem_take hx))
      have hlj : (l.take j).length = j := by have := HL.out; simp; omega
      rw [hlj] at hr
      have HS : Hid (leN (l.take (j + 1)) = leN (l.take j) + 256 ^ j * l.getD j 0) := by
        show _ = _
        have hll := HL.out
        rw [List.take_add_one, show l[j]?.toList = [l.getD j 0] by simp [List.getD, show j < l.length by omega], leN_snoc, hlj]
      generalize l.getD j 0 = x at e1 hx HS
      generalize leN (l.take j) = y at hr HS ⊢
      clear hB1 hcb hlj
      have h4 : j = 0 ∨ j = 1 ∨ j = 2 ∨ j = 3 := by omega
      rcases h4 with rfl | rfl | rfl | rfl
      · simp only [Nat.add_zero] at e1
        go_wp2
        go_roundw
        case rel => exact ⟨1, by omega, rfl, trivial, by rw [HS.out, or_low0 hr hx]⟩
        case measure => simp [intOf]; omega
      · go_wp2
        go_roundw
        case rel => exact ⟨2, by omega, rfl, trivial, by rw [HS.out, or_low1 hr hx]⟩
        case measure => simp [intOf]; omega
      · go_wp2
        go_roundw
        case rel => exact ⟨3, by omega, rfl, trivial, by rw [HS.out, or_low2 hr hx]⟩
        case measure => simp [intOf]; omega
      · go_wp2
        go_roundw
        case rel => exact ⟨4, by omega, rfl, trivial, by rw [HS.out, or_low3 hr hx]⟩
        case measure => simp [intOf]; omega
    · go_wp2
      go_ret
      obtain rfl : j = m := by omega
      rw [List.take_of_length_le (by have := HL.out; omega)]
      rw [HQ.out, HK.out]
      exact ⟨rfl, HM1.out⟩
theorem beN_take {l : List Int} {j : Nat} (h : j < l.length) : numOf true (l.take (j + 1)) = 256 * numOf true (l.take j) + l.getD j 0 := by
  rw [List.take_add_one, show l[j]?.toList = [l.getD j 0] by simp [List.getD, h]]
  simp only [numOf, if_true, List.reverse_append, List.reverse_cons, List.reverse_nil, List.nil_append, List.singleton_append, leN]
  omega
end Go.Proofs.Ytdieplpegkiolaa
namespace Go.Proofs.Ytdieplpegkiolaa
open Go.RowKit
set_option linter.unusedVariables false
set_option linter.unusedSimpArgs false
set_option maxRecDepth 100000

/-- A cursor at the beginning of L bytes. -/
def LCur (w : World) (C g o L c : Nat) : Prop := w.heap[C]? = some (.cells #[.slice (some ⟨g, o, none⟩) L c, .int .i64 0, .bool false, .func (.func 53) #[.pointer (some ⟨C, 0, none⟩)] #[], .func (.func 54) #[.pointer (some ⟨C, 0, none⟩)] #[]] 82)
theorem LCur.cells {w : World} {C g o L c : Nat} (h : LCur w C g o L c) : w.cell? ⟨C, 0, none⟩ = some (.slice (some ⟨g, o, none⟩) L c) ∧ w.cell? ⟨C, 1, none⟩ = some (.int .i64 0) ∧ w.cell? ⟨C, 2, none⟩ = some (.bool false) ∧ w.cell? ⟨C, 3, none⟩ = some (.func (.func 53) #[.pointer (some ⟨C, 0, none⟩)] #[]) ∧ w.cell? ⟨C, 4, none⟩ = some (.func (.func 54) #[.pointer (some ⟨C, 0, none⟩)] #[]) ∧ ∀ j, w.frozen? ⟨C, j, none⟩ = false := by
  unfold LCur at h
  refine ⟨?_, ?_, ?_, ?_, ?_, fun j => ?_⟩
  · simp [World.cell?, h]
  · simp [World.cell?, h]
  · simp [World.cell?, h]
  · simp [World.cell?, h]
  · simp [World.cell?, h]
  · simp [World.frozen?, h]
theorem lCursor_any (g o L c : Nat) (w : World) :
    Calls Try.prog 40 #[.slice (some ⟨g, o, none⟩) L c] w fun e w' => e = .returned (.pointer (some ⟨w.heap.size, 0, none⟩)) ∧ LCur w' w.heap.size g o L c ∧ Below w.heap.size w w' := by
  go_enter Try.func40, Try.ntmps40
  go_wp2
  go_ret
  exact ⟨rfl, heap_alloc_new w _, (Below.refl _ _).alloc (Nat.le_refl _) _⟩
set_option maxHeartbeats 800000 in
theorem lTake_any (C g o L c : Nat) (hL : 4 ≤ L) (hc : L ≤ c) (hcm : c ≤ maxLen) (w : World) (h : LCur w C g o L c) :
    Calls Try.prog 58 #[.pointer (some ⟨C, 0, none⟩), .int .i64 4] w fun e w' => ∃ c', e = .returned (.slice (some ⟨g, o, none⟩) 4 c') ∧ 4 ≤ c' ∧ c' ≤ maxLen ∧ Fr (fun x => x = C) w w' := by
  obtain ⟨c0, c1, c2, c3, c4, hf⟩ := h.cells
  have hf1 := hf 1
  have hcm2 : Hid (c ≤ maxLen) := hcm
  unfold maxLen at hcm
  have hgt : ¬ (L : Int) < 4 := by omega
  have HF : Hid (∀ q, Fr (fun x => x = C) w ((w.setCell ⟨C, 1, none⟩ (.int .i64 4)).drewN q)) := fun q => (fr_setCell w C 1 _).trans (Fr.of_below ⟨rfl, rfl, rfl, Nat.le_refl _, fun _ _ => rfl⟩)
  have d0 : (w.setCell ⟨C, 1, none⟩ (.int .i64 4)).cell? ⟨C, 0, none⟩ = some (.slice (some ⟨g, o, none⟩) L c) := by
    unfold LCur at h; simp [World.cell?, World.setCell, Array.getElem?_modify, h]
  have d1 : (w.setCell ⟨C, 1, none⟩ (.int .i64 4)).cell? ⟨C, 1, none⟩ = some (.int .i64 4) := by
    unfold LCur at h; simp [World.cell?, World.setCell, Array.getElem?_modify, h]
  clear h hf
  go_enter Try.func58, Try.ntmps58
  go_wp2
  generalize w.setCell ⟨C, 1, none⟩ (.int .i64 4) = w1 at HF d0 d1 ⊢
  clear c0 c1 c2 c3 c4 hf1
  have hck : ¬ c = 0 := by omega
  go_quiet (fail)
  go_wp2
  go_ret
  exact ⟨_, rfl, by omega, hcm2.out, HF.out _⟩
theorem leN_take1 {l : List Int} {j : Nat} (h : j < l.length) : leN (l.take (j + 1)) = leN (l.take j) + 256 ^ j * l.getD j 0 := by
  rw [List.take_add_one, show l[j]?.toList = [l.getD j 0] by simp [List.getD, h], leN_snoc]
  simp; rw [Nat.min_eq_left (by omega)]
set_option maxHeartbeats 800000 in
theorem lGet_any (C g o L c : Nat) (hL : 4 ≤ L) (bs : List Int) (A B : Nat) (w : World) (hB : BytesAt w A B (some ⟨g, o, none⟩) L c bs) (hBC : B ≤ C) (hCs : C ≤ w.heap.size) (h : LCur w C g o L c) :
    Calls Try.prog 54 #[.pointer (some ⟨C, 0, none⟩), .int .i64 4] w fun e w' => e = .returned (.int .i64 (leN (bs.take 4))) ∧ Fr (fun x => x = C) w w' := by
  have hl := hB.1
  go_enter Try.func54, Try.ntmps54
  go_wp2_with fail
  refine (lTake_any C g o L c hL hB.2.1 hB.2.2.1 w h).mono ?_
  rintro e w1 ⟨c', rfl, hc4, hcm, hF1⟩
  have hB1 : BytesAt w1 A B (some ⟨g, o, none⟩) L c bs := hB.keep fun k k1 k2 => hF1.block k (by omega) (by omega)
  have hby := hB1.2.2.2.1
  have HF : Hid (Fr (fun x => x = C) w w1) := hF1
  have HL : Hid (bs.length = L) := hl
  have HCell : Hid (∀ j, j < 4 → w1.cell? ⟨g, o + j, none⟩ = some (.int .u8 (bs.getD j 0))) := fun j hj => by
    obtain ⟨b, off, e, _, hcb⟩ := hB1.2.2.2.2.1 (by omega)
    cases e
    exact hcb j (by omega)
  unfold maxLen at hcm
  clear hF1 hl hB h hB1
  go_wp2_with fail
  go_loopw [5, 12] (fun x i wr => ∃ j : Nat, j ≤ 4 ∧ i = .int .i64 j ∧ wr = w1 ∧ x = .int .i64 (leN (bs.take j))) (fun _ i _ => 4 - (intOf i).toNat)
  case atStart => exact ⟨0, by omega, rfl, rfl, rfl⟩
  case round =>
    obtain ⟨j, hj, rfl, rfl, rfl⟩ := hrel
    by_cases hlt : j < 4
    · have e1 := HCell.out j hlt
      have hx := getD_byteB hby j
      have hr := leN_range (bs.take j) (fun x hx => hby x (List.mem_of_mem_take hx))
      have hlj : (bs.take j).length = j := by have := HL.out; simp; omega
      rw [hlj] at hr
      have HS : Hid (leN (bs.take (j + 1)) = leN (bs.take j) + 256 ^ j * bs.getD j 0) := leN_take1 (by have := HL.out; omega)
      generalize bs.getD j 0 = x at e1 hx HS
      generalize leN (bs.take j) = y at hr HS ⊢
      clear hlj
      have h4 : j = 0 ∨ j = 1 ∨ j = 2 ∨ j = 3 := by omega
      rcases h4 with rfl | rfl | rfl | rfl
      · simp only [Nat.add_zero] at e1
        go_wp2
        go_roundw
        case rel => exact ⟨1, by omega, rfl, trivial, by rw [HS.out, or_low0 hr hx]⟩
        case measure => simp [intOf]
      · go_wp2
        go_roundw
        case rel => exact ⟨2, by omega, rfl, trivial, by rw [HS.out, or_low1 hr hx]⟩
        case measure => simp [intOf]
      · go_wp2
        go_roundw
        case rel => exact ⟨3, by omega, rfl, trivial, by rw [HS.out, or_low2 hr hx]⟩
        case measure => simp [intOf]
      · go_wp2
        go_roundw
        case rel => exact ⟨4, by omega, rfl, trivial, by rw [HS.out, or_low3 hr hx]⟩
        case measure => simp [intOf]
    · go_wp2
      go_ret
      obtain rfl : j = 4 := by omega
      exact ⟨rfl, HF.out⟩
theorem BOff.below {w w' : World} {R : Nat} {a : Option Addr} {n c : Nat} {bs : List Int} (h : BOff w R a n c bs) (hb : Below w.heap.size w w') : BOff w' R a n c bs := h.fr (Fr.of_below hb)
set_option maxHeartbeats 800000 in
/-- A number of four bytes. -/
theorem rNum_any (R : Nat) (a : Option Addr) (n c A B : Nat) (bs : List Int) (s : Rs) (w : World) (h : RSt w R a n c A B bs s) :
    Calls Try.prog 34 #[.pointer (some ⟨R, 0, none⟩)] w fun e w' => e = .returned (.int .i64 (leN (takeV bs 4 s))) ∧ RSt w' R a n c A B bs (takeS n 4 s) ∧ Fr (fun x => x = R) w w' := by
  have hlen := takeV_len bs 4 s
  go_enter Try.func34, Try.ntmps34
  go_wp2_with fail
  refine (rTake_any R a n c A B bs s 4 (by omega) (by omega) w h).mono ?_
  rintro e w1 ⟨b, o, c', rfl, hBO, H1, hF1⟩
  go_wp2_with fail
  refine (lCursor_any b o 4 c' w1).mono ?_
  rintro e w2 ⟨rfl, hC2, hb2⟩
  have H2 := H1.below hb2
  have hBO2 := hBO.below hb2
  have hF2 : Fr (fun x => x = R) w w2 := hF1.trans (Fr.of_below hb2)
  have s1 : w.heap.size ≤ w1.heap.size := hF1.size
  have hRl := H1.lt
  have hCl := (Array.getElem?_eq_some_iff.1 hC2).1
  obtain ⟨C, hC⟩ : ∃ C, C = w1.heap.size := ⟨_, rfl⟩
  rw [← hC] at hC2 hCl hRl ⊢
  obtain ⟨c0, c1, c2, c3, c4, hf⟩ := hC2.cells
  have HQ : Hid (∃ A B, B ≤ C ∧ BytesAt w2 A B (some ⟨b, o, none⟩) 4 c' (takeV bs 4 s)) := by
    obtain ⟨A', B', q1, q2, q3⟩ := hBO
    exact ⟨A', B', by omega, q3.below (hb2.mono q1)⟩
  have HC2 : Hid (LCur w2 C b o 4 c') := hC2
  have HFR : Hid (∀ w3, Fr (fun x => x = C) w2 w3 → RSt w3 R a n c A B bs (takeS n 4 s) ∧ Fr (fun x => x = R) w w3) := fun w3 hf3 => ⟨H2.other hf3 hRl, ⟨hf3.os.trans hF2.os, hf3.tape.trans hF2.tape, hf3.output.trans hF2.output, Nat.le_trans hF2.size hf3.size, fun k hk hn => (hf3.block k (Nat.lt_of_lt_of_le hk hF2.size) (by omega)).trans (hF2.block k hk hn)⟩⟩
  clear hC hF1 hF2 hBO hBO2 H1 H2 hb2 hC2 s1 h
  go_wp2_with fail
  obtain ⟨A', B', q1, q2⟩ := HQ.out
  refine (lGet_any C b o 4 c' (by omega) _ A' B' w2 q2 q1 (by omega) HC2.out).mono ?_
  rintro e w3 ⟨rfl, hf3⟩
  rw [List.take_of_length_le (by omega)]
  go_wp2_with fail
  go_ret
  exact ⟨rfl, HFR.out _ hf3⟩
/-- Letters, one after another. -/
def stepS (bs : List Int) (f : Int) (s : Rs) (x : UInt8) : Rs := wantS ((takeV bs 1 s).getD 0 0 == (x.toNat : Int)) f (takeS bs.length 1 s)
def markS (bs : List Int) (f : Int) (L : List UInt8) (s : Rs) : Rs := L.foldl (stepS bs f) s
theorem markS_snoc (bs : List Int) (f : Int) (t : ByteArray) (k : Nat) (h : k < t.size) (s : Rs) : markS bs f (t.data.toList.take (k + 1)) s = stepS bs f (markS bs f (t.data.toList.take k) s) t[k] := by
  rw [markS, take_snocB t k h, List.foldl_append]
  rfl
set_option maxHeartbeats 1600000 in
theorem rMark_any (R : Nat) (a : Option Addr) (n c A B : Nat) (bs : List Int) (s : Rs) (t : ByteArray) (ht : t.size ≤ 100) (f : Int) (w : World) (h : RSt w R a n c A B bs s) :
    Calls Try.prog 33 #[.pointer (some ⟨R, 0, none⟩), .string t, .int .i64 f] w fun e w' => e = .returned (.tuple #[]) ∧ RSt w' R a n c A B bs (markS bs f t.data.toList s) ∧ Fr (fun x => x = R) w w' := by
  have HL : Hid (bs.length = n) := h.by_.1
  go_enter Try.func33, Try.ntmps33
  go_wp2_with fail
  go_loopw [6, 9] (fun _ i wr => ∃ k : Nat, k ≤ t.size ∧ i = .int .i64 k ∧ Hid (RSt wr R a n c A B bs (markS bs f (t.data.toList.take k) s) ∧ Fr (fun x => x = R) w wr)) (fun _ i _ => t.size - (intOf i).toNat)
  case atStart => exact ⟨0, Nat.zero_le _, rfl, ⟨h, Fr.refl _ _⟩⟩
  case round =>
    clear h
    obtain ⟨k, hk, rfl, HX⟩ := hrel
    by_cases hlt : k < t.size
    · have HS := markS_snoc bs f t k hlt s
      replace HS : Hid _ := HS
      obtain ⟨s1, hs1⟩ : ∃ s1, s1 = markS bs f (t.data.toList.take k) s := ⟨_, rfl⟩
      rw [← hs1] at HX HS
      clear hs1
      obtain ⟨y, hy⟩ : ∃ y, y = (takeV bs 1 s1).getD 0 0 := ⟨_, rfl⟩
      have HY : Hid (y = (takeV bs 1 s1).getD 0 0) := hy
      clear hy
      go_wp2_with fail
      refine wp_region_noPanic ?_
      refine wp_region_held_drew (S := (fun _ : World => True)) (by kernel_rfl) (trivial) (fun hHeld => ?_)
      refine wpAnyH_take (i := 0) (oi := { dst := some 12, op := Op.move (Operand.tmp 0), type := 44, pos := "l7_restore.go:160", after := #[], guard := none }) (v := .pointer (some ⟨R, 0, none⟩)) rfl (by kernel_rfl) (by kernel_rfl) (by kernel_rfl) (fun _ _ _ h => h) (Or.inl ⟨by rfl, ?_⟩) (by assumption) ?_
      · intro wq hSw; (try dsimp only at hSw); go_simp
      try simp only [Act.put, List.setIfInBounds_toArray, List.set_cons_zero, List.set_cons_succ]
      refine wpAnyH_take (i := 1) (oi := { dst := some 13, op := Op.move (Operand.tmp 0), type := 44, pos := "l7_restore.go:160", after := #[], guard := none }) (v := .pointer (some ⟨R, 0, none⟩)) rfl (by kernel_rfl) (by kernel_rfl) (by kernel_rfl) (fun _ _ _ h => h) (Or.inl ⟨by rfl, ?_⟩) (by assumption) ?_
      · intro wq hSw; (try dsimp only at hSw); go_simp
      try simp only [Act.put, List.setIfInBounds_toArray, List.set_cons_zero, List.set_cons_succ]
      refine wpAnyH_take (i := 5) (oi := { dst := some 17, op := Op.move (Operand.tmp 1), type := 9, pos := "l7_restore.go:160", after := #[], guard := none }) (v := .string t) rfl (by kernel_rfl) (by kernel_rfl) (by kernel_rfl) (fun _ _ _ h => h) (Or.inl ⟨by rfl, ?_⟩) (by assumption) ?_
      · intro wq hSw; (try dsimp only at hSw); go_simp
      try simp only [Act.put, List.setIfInBounds_toArray, List.set_cons_zero, List.set_cons_succ]
      refine wpAnyH_take (i := 6) (oi := { dst := some 18, op := Op.move (Operand.tmp 6), type := 3, pos := "l7_restore.go:160", after := #[], guard := none }) (v := .int .i64 k) rfl (by kernel_rfl) (by kernel_rfl) (by kernel_rfl) (fun _ _ _ h => h) (Or.inl ⟨by rfl, ?_⟩) (by assumption) ?_
      · intro wq hSw; (try dsimp only at hSw); go_simp
      try simp only [Act.put, List.setIfInBounds_toArray, List.set_cons_zero, List.set_cons_succ]
      refine wpAnyH_take (i := 7) (oi := { dst := some 19, op := Op.index 9 (Operand.tmp 17) (Operand.tmp 18), type := 5, pos := "l7_restore.go:160", after := #[{ on := 5, ground := Ground.data }, { on := 6, ground := Ground.data }], guard := none }) (v := .int .u8 (t[k].toNat : Int)) rfl (by kernel_rfl) (by kernel_rfl) (by kernel_rfl) (fun _ _ _ h => h) (Or.inl ⟨by rfl, ?_⟩) (by assumption) ?_
      · intro wq hSw; (try dsimp only at hSw); go_simp
      try simp only [Act.put, List.setIfInBounds_toArray, List.set_cons_zero, List.set_cons_succ]
      refine wpAnyH_take (i := 9) (oi := { dst := some 21, op := Op.move (Operand.tmp 2), type := 2, pos := "l7_restore.go:160", after := #[], guard := none }) (v := .int .i64 f) rfl (by kernel_rfl) (by kernel_rfl) (by kernel_rfl) (fun _ _ _ h => h) (Or.inl ⟨by rfl, ?_⟩) (by assumption) ?_
      · intro wq hSw; (try dsimp only at hSw); go_simp
      try simp only [Act.put, List.setIfInBounds_toArray, List.set_cons_zero, List.set_cons_succ]
      refine wpAnyH_ready (rs := [2]) (by kernel_rfl) (by simp) ?_
      refine AllReadyH.cons (o := { dst := some 14, op := Op.call { callee := Callee.value (Operand.func 39), args := #[Operand.tmp 13, Operand.const (Value.int IntKind.i64 1)], argTypes := #[44, 3] }, type := 22, pos := "l7_restore.go:160", after := #[{ on := 1, ground := Ground.data }], guard := none }) rfl (fun K hK => ?_) AllReadyH.nil
      go_simp
      refine (rTake_any R a n c A B bs s1 1 (by omega) (by omega) wr.drew HX.out.1.drew).mono ?_
      rintro e w1 ⟨b, o, c', rfl, hBO, H1, hF1⟩
      have hcell : w1.cell? ⟨b, o, none⟩ = some (.int .u8 y) := by
        obtain ⟨A', B', q1, q2, q3⟩ := hBO
        obtain ⟨b2, o2, e, _, hcb⟩ := q3.2.2.2.2.1 (by omega)
        cases e
        rw [HY.out]
        exact hcb 0 (by omega)
      go_wp2_with fail
      refine hK.out _ _ (trivial) (fun hHeld => ?_)
      clear hK K
      try simp only [Act.put, List.setIfInBounds_toArray, List.set_cons_zero, List.set_cons_succ]
      refine wpAnyH_take (i := 3) (oi := { dst := some 15, op := Op.indexAddr 22 (Operand.tmp 14) (Operand.const (Value.int IntKind.i64 0)), type := 0, pos := "l7_restore.go:160", after := #[{ on := 2, ground := Ground.data }], guard := none }) (v := .pointer (some ⟨b, o, none⟩)) rfl (by kernel_rfl) (by kernel_rfl) (by kernel_rfl) (fun _ _ _ h => h) (Or.inl ⟨by rfl, ?_⟩) (by assumption) ?_
      · intro wq hSw; (try dsimp only at hSw); go_simp
      try simp only [Act.put, List.setIfInBounds_toArray, List.set_cons_zero, List.set_cons_succ]
      refine wpAnyH_ready (rs := [4]) (by kernel_rfl) (by simp) ?_
      refine AllReadyH.cons (o := { dst := some 16, op := Op.load 5 (Operand.tmp 15), type := 5, pos := "l7_restore.go:160", after := #[{ on := 3, ground := Ground.data }], guard := none }) rfl (fun K hK => ?_) AllReadyH.nil
      go_simp
      refine hK.out _ _ (trivial) (fun hHeld => ?_)
      clear hK K
      try simp only [Act.put, List.setIfInBounds_toArray, List.set_cons_zero, List.set_cons_succ]
      refine wpAnyH_take (i := 8) (oi := { dst := some 20, op := Op.binOp BinOp.eql 5 (Operand.tmp 16) (Operand.tmp 19) 5, type := 4, pos := "l7_restore.go:160", after := #[{ on := 4, ground := Ground.data }, { on := 7, ground := Ground.data }], guard := none }) (v := .bool (y == (t[k].toNat : Int))) rfl (by kernel_rfl) (by kernel_rfl) (by kernel_rfl) (fun _ _ _ h => h) (Or.inl ⟨by rfl, ?_⟩) (by assumption) ?_
      · intro wq hSw; (try dsimp only at hSw); go_simp
      try simp only [Act.put, List.setIfInBounds_toArray, List.set_cons_zero, List.set_cons_succ]
      refine wpAnyH_ready (rs := [10]) (by kernel_rfl) (by simp) ?_
      refine AllReadyH.cons (o := { dst := some 22, op := Op.call { callee := Callee.value (Operand.func 35), args := #[Operand.tmp 12, Operand.tmp 20, Operand.tmp 21], argTypes := #[44, 4, 2] }, type := 0, pos := "l7_restore.go:160", after := #[{ on := 0, ground := Ground.data }, { on := 8, ground := Ground.data }, { on := 9, ground := Ground.data }, { on := 2, ground := Ground.chain }], guard := none }) rfl (fun K hK => ?_) AllReadyH.nil
      go_simp
      refine (rWant_any R a n c A B bs _ (y == (t[k].toNat : Int)) f w1 H1).mono ?_
      rintro e w2 ⟨rfl, H2, hF2⟩
      go_wp2_with fail
      refine hK.out _ _ (trivial) (fun hHeld => ?_)
      clear hK K
      try simp only [Act.put, List.setIfInBounds_toArray, List.set_cons_zero, List.set_cons_succ]
      refine wpAnyH_done (by kernel_rfl) ?_ _
      refine NoPanic.normal ?_
      have R9 : Hid (RSt w2 R a n c A B bs (markS bs f (t.data.toList.take (k + 1)) s) ∧ Fr (fun x => x = R) w w2) := by
        refine ⟨?_, HX.out.2.trans (((Fr.of_below (Below.refl _ _).drew).trans hF1).trans hF2)⟩
        rw [HS.out, stepS, HL.out, ← HY.out]
        exact H2
      clear H1 H2 hF1 hF2 HX hHeld hBO hcell
      go_wp2_with fail
      go_roundw
      case rel => exact ⟨k + 1, by omega, by go_num, R9⟩
      case measure => simp [intOf]; omega
    · obtain rfl : k = t.size := by omega
      have e : t.data.toList.take t.size = t.data.toList := List.take_of_length_le (Nat.le_of_eq (by rw [Array.length_toList]; rfl))
      rw [e] at HX
      clear e
      go_wp2_with fail
      exact bodyPost_end (v := .tuple #[]) (by simp [results, Try.results33, go_sem]) rfl ⟨rfl, HX.out.1, HX.out.2⟩
end Go.Proofs.Ytdieplpegkiolaa
namespace Go.Proofs.Ytdieplpegkiolaa
open Go.RowKit
set_option linter.unusedVariables false
set_option maxRecDepth 100000

theorem leB_take (x : Int) {n i : Nat} (h : i < n) : (leB n x).take (i + 1) = (leB n x).take i ++ [shr8 i x % 256] := by
  rw [List.take_add_one, leB_get x n i h]; rfl

set_option maxHeartbeats 800000 in
theorem putLow_any (C G k pf gf : Nat) (old : Bool) (L : List Int) (x : Int) (hx : I64 x) (n : Nat) (hn : n ≤ 8) (w : World) (h : Cur w C G old pf gf k L) (hk : k + n ≤ 128) :
    Calls Try.prog 53 #[.pointer (some ⟨C, 0, none⟩), .int .i64 x, .int .i64 n] w fun e w' => e = .returned (.tuple #[]) ∧ Wrote w w' C G old pf gf k L (leB n x) := by
  go_enter Try.func53, Try.ntmps53
  go_wp2_with fail
  go_loopw [1, 7] (fun xv iv wr => ∃ i : Nat, i ≤ n ∧ iv = .int .i64 i ∧ xv = .int .i64 (shr8 i x) ∧ Hid (Wrote w wr C G old pf gf k L ((leB n x).take i))) (fun _ iv _ => n - (intOf iv).toNat)
  case atStart => exact ⟨0, Nat.zero_le _, rfl, rfl, by show Wrote _ _ _ _ _ _ _ _ _ _; simpa using wrote_nil h⟩
  case round =>
    obtain ⟨i, hi, rfl, rfl, HW⟩ := hrel
    by_cases hlt : i < n
    · have HS : Hid ((leB n x).take (i + 1) = (leB n x).take i ++ [shr8 i x % 256]) := leB_take x hlt
      have HY : Hid (shr8 (i + 1) x = shr8 i x / 256) := rfl
      have hr := shr8_range hx i
      unfold I64 at hr
      have hc := HW.out.1
      have hll : ((leB n x).take i).length = i := by simp [leB_len]; omega
      rw [hll] at hc
      generalize shr8 i x = y at *
      go_wp2_with fail
      refine (putByte_any C G (k + i) pf gf old _ (y % 256) wr hc (by omega)).mono ?_
      rintro e w1 ⟨rfl, hw1⟩
      have R : Hid (Wrote w w1 C G old pf gf k L ((leB n x).take (i + 1))) := by
        show Wrote _ _ _ _ _ _ _ _ _ _
        rw [HS.out]
        exact HW.out.trans (by rw [hll, h.len]; omega) (by rw [hll]; exact hw1)
      clear hw1 hc HW
      go_wp2
      go_roundw
      case rel => exact ⟨i + 1, by omega, by go_num, by rw [HY.out], R⟩
      case measure => simp [intOf]; omega
    · go_wp2
      go_end0
      have := HW.out
      rw [List.take_of_length_le (by rw [leB_len]; omega)] at this
      exact ⟨rfl, this⟩
theorem putLow_num (C G gf : Nat) : PutNum C G false 53 gf := fun k L x n w hx hn h hk => putLow_any C G k _ gf false L x hx n hn w h hk
end Go.Proofs.Ytdieplpegkiolaa
namespace Go.Proofs.Ytdieplpegkiolaa
namespace New
open Go.RowKit
/-- The cursor's way of writing numbers. -/
theorem Put (C G : Nat) : ∀ (k : Nat) (L : List Int) (x : Int) (n : Nat) (w : World), I64 x → n ≤ 8 → Cur w C G false 53 54 k L → k + n ≤ 128 →
    Calls Try.prog 53 #[.pointer (some ⟨C, 0, none⟩), .int .i64 x, .int .i64 n] w fun e w' => e = .returned (.tuple #[]) ∧ Wrote w w' C G false 53 54 k L (numB false n x) :=
  fun k L x n w hx hn h hk => putLow_any C G k _ _ false L x hx n hn w h hk
end New
end Go.Proofs.Ytdieplpegkiolaa
namespace Go.Proofs.Ytdieplpegkiolaa
namespace New
open Go.RowKit
set_option linter.unusedVariables false
set_option maxRecDepth 100000

set_option maxHeartbeats 800000 in
theorem putSmall_any (C G k : Nat) (L : List Int) (x : Int) (hx : I64 x) (w : World) (h : Cur w C G false 53 54 k L) (hk : k + 4 ≤ 128) :
    Calls Try.prog 90 #[.pointer (some ⟨C, 0, none⟩), .int .i64 x] w fun e w' => e = .returned (.tuple #[]) ∧ Wrote w w' C G false 53 54 k L (numB false (smallN false) x) := by
  obtain ⟨e0, e1, e2, e3, e4⟩ := h.cells
  have hsm := smallN_le false
  go_enter Try.func90, Try.ntmps90
  go_wp2_with fail
  go_region_held3 (fun w' => w'.cell? ⟨C, 3, none⟩ = some (.func (.func 53) #[.pointer (some ⟨C, 0, none⟩)] #[])) (go_keep)
    (first
      | (go_at_call 92; refine (smallWidth_any C G k 53 54 false L w.drew h.drew).mono ?_; rintro e w1 ⟨rfl, rfl⟩)
      | (go_at_call 53; refine (Put C G k L x (smallN false) w.drew hx (by omega) h.drew (by omega)).mono ?_; rintro e w2 ⟨rfl, hW⟩; obtain ⟨_, _, _, q3, _⟩ := hW.1.cells))
  go_wp2
  go_end0
  exact ⟨rfl, hW.1, (Fr.of_below (Below.refl _ _).drew).trans hW.2⟩
end New
end Go.Proofs.Ytdieplpegkiolaa
namespace Go.Proofs.Ytdieplpegkiolaa
namespace New
open Go.RowKit
set_option linter.unusedVariables false
set_option maxRecDepth 100000

theorem numB_one (old : Bool) (x : Int) (h : 0 ≤ x ∧ x ≤ 255) : numB old 1 x = [x] := by
  have : x % 256 = x := by omega
  cases old <;> simp [numB, beB, leB, this]

set_option maxHeartbeats 800000 in
theorem putText_any (C G k : Nat) (L : List Int) (s : ByteArray) (w : World) (h : Cur w C G false 53 54 k L) (hk : k + s.size + 1 < 128) :
    Calls Try.prog 100 #[.pointer (some ⟨C, 0, none⟩), .string s] w fun e w' => e = .returned (.tuple #[]) ∧ Wrote w w' C G false 53 54 k L (textB s) := by
  obtain ⟨e0, e1, e2, e3, e4⟩ := h.cells
  go_enter Try.func100, Try.ntmps100
  go_wp2_with fail
  refine (Put C G k L (s.size : Int) 1 w (by unfold I64; omega) (by omega) h (by omega)).mono ?_
  rintro e w1 ⟨rfl, hW1⟩
  rw [numB_one _ _ (by omega)] at hW1
  clear e0 e1 e2 e3 e4
  go_wp2_with fail
  refine (putLetters_any C G (k + 1) _ _ _ (lay L k [(s.size : Int)]) s w1 hW1.1 (by omega) (by omega)).mono ?_
  rintro e w2 ⟨rfl, hW2⟩
  have hl := h.len
  have R : Hid (Wrote w w2 C G false 53 54 k L (textB s)) := hW1.trans (by simp [hl]; omega) hW2
  clear hW1 hW2 h
  go_wp2
  go_end0
  exact ⟨rfl, R.out⟩

theorem Wrote.skip {w w' : World} {C G k pf gf : Nat} {old : Bool} {L bs : List Int} (h : Wrote w w' C G old pf gf k L bs) (z : Nat) (hz : (L.drop (k + bs.length)).take z = List.replicate z 0) : Wrote w (w'.setCell ⟨C, 1, none⟩ (.int .i64 ((k + bs.length + z : Nat) : Int))) C G old pf gf k L (bs ++ List.replicate z 0) := by
  refine ⟨?_, fr_setB h.2 (.inl rfl) _⟩
  have key : L.drop (k + bs.length) = List.replicate z 0 ++ L.drop (k + bs.length + z) := by
    rw [← hz]
    have := (List.take_append_drop z (L.drop (k + bs.length))).symm
    rw [List.drop_drop] at this
    exact this
  have e : lay L k (bs ++ List.replicate z 0) = lay L k bs := by
    unfold lay
    rw [key, List.length_append, List.length_replicate, ← Nat.add_assoc]
    simp only [List.append_assoc]
  rw [e, List.length_append, List.length_replicate, ← Nat.add_assoc]
  exact h.1.move _

set_option maxHeartbeats 800000 in
theorem putKey_any (C G k : Nat) (L : List Int) (s : ByteArray) (w : World) (h : Cur w C G false 53 54 k L) (hs : s.size ≤ 8) (hk : k + 10 < 128) (hz : (L.drop (k + (s.size + 1))).take (8 - s.size) = List.replicate (8 - s.size) 0) :
    Calls Try.prog 107 #[.pointer (some ⟨C, 0, none⟩), .string s] w fun e w' => e = .returned (.tuple #[]) ∧ Wrote w w' C G false 53 54 k L (textB s ++ (if false then List.replicate (8 - s.size) 0 else [])) := by
  go_enter Try.func107, Try.ntmps107
  go_wp2_with fail
  refine (putText_any C G k L s w h (by omega)).mono ?_
  rintro e w1 ⟨rfl, hW1⟩
  obtain ⟨e0, e1, e2, e3, e4⟩ := hW1.1.cells
  have hfC : ∀ o, w1.frozen? ⟨C, o, none⟩ = false := by intro o; simp [World.frozen?, hW1.1.box]
  have HL : Hid ((textB s).length = s.size + 1) := textB_len s
  have HW : Hid (Wrote w w1 C G false 53 54 k L (textB s)) := hW1
  rw [HL.out] at e1
  clear hW1
  go_wp2
  go_end0
  refine ⟨rfl, ?_⟩
  first
    | (have R := Wrote.skip HW.out (8 - s.size) (by rw [HL.out]; exact hz)
       rw [HL.out, show ((k + (s.size + 1) + (8 - s.size) : Nat) : Int) = (k : Int) + ((s.size : Int) + 1) + (8 - (s.size : Int)) by omega] at R
       exact R)
    | (have R := HW.out
       simpa using R)
end New
end Go.Proofs.Ytdieplpegkiolaa
