import Derived.Test.YtcmhobbpeaeebaaGAH
import Derived.Test.YtcmhobbpeaeebaaGBH
namespace Go.Proofs.Ytcmhobbpeaeebaa
namespace Old
open Go.RowKit
set_option linter.unusedVariables false
set_option maxRecDepth 100000

theorem empty_of {s : ByteArray} (h : s.toList.isEmpty = true) : s = ⟨#[]⟩ := by
  rw [ByteArray.toList_eq] at h
  have h1 : s.data.toList = [] := List.isEmpty_iff.1 h
  exact ByteArray.ext (Array.ext' h1)
theorem small_of {x : Int} (h : 0 ≤ x ∧ x ≤ 999) : 0 ≤ x ∧ x < 256 ^ (smallN true) := by
  have : (65536 : Int) ≤ 256 ^ (smallN true) := by decide
  omega
theorem kids_good {low last : Int} {p : Pg} (hl : 0 ≤ low) (hh : last ≤ 999) (h : branchOk low last p = true) : (p.ks.getD 0 dK).1 = ⟨#[]⟩ ∧ (∀ i, i < p.ks.length → 0 ≤ (p.ks.getD i dK).2 ∧ (p.ks.getD i dK).2 < 256 ^ (smallN true)) := by
  simp only [branchOk, Bool.and_eq_true] at h
  refine ⟨empty_of h.1.2, fun i hi => ?_⟩
  have h2 := all_get h.2 hi
  simp only [kidOk, Bool.and_eq_true, inB, decide_eq_true_eq] at h2
  exact small_of (by omega)
theorem ents_good {low last : Int} {p : Pg} (hl : 1 ≤ low) (hh : last ≤ 999) (h : leafOk low last p = true) : ∀ i, i < p.es.length → EntGood (p.es.getD i dE) := by
  intro i hi
  have hs := leaf_sizes h
  simp only [leafOk, Bool.and_eq_true] at h
  have h2 := all_get h.2 hi
  simp only [entOk, Bool.and_eq_true, Bool.or_eq_true] at h2
  refine ⟨(hs.2 i hi).1, ?_⟩
  rcases h2.1.2 with h3 | h3
  · simp only [shortB, Bool.and_eq_true, decide_eq_true_eq] at h3
    exact .inl ⟨h3.1.1, h3.1.2, h3.2⟩
  · simp only [longB, Bool.and_eq_true, inB, decide_eq_true_eq] at h3
    have a := small_of (x := (p.es.getD i dE).2.2.1) (by omega)
    have b := small_of (x := (p.es.getD i dE).2.2.2) (by omega)
    exact .inr ⟨by omega, a.1, a.2, empty_of h3.1.2, b.1, b.2⟩
end Old
end Go.Proofs.Ytcmhobbpeaeebaa
namespace Go.Proofs.Ytcmhobbpeaeebaa
namespace Old
open Go.RowKit
set_option linter.unusedVariables false
set_option maxRecDepth 100000

theorem meta_has {L : List Int} (hL : L.length = 128) (k : Nat) (id root count : Int) (hi : 0 ≤ id ∧ id ≤ 2000000000) (hr : 0 ≤ root ∧ root ≤ 999) (hc : 0 ≤ count ∧ count ≤ 2000000000) (h : Has L k (numB true 2 root ++ numB true 4 count ++ numB true 4 id)) (hk : k + 10 ≤ 128) : mId L k = id ∧ mRoot L k = root ∧ mCount L k = count := by
  have h2 := Has.left h
  have h1 := Has.left h2
  have q3 := Has.right h
  have q2 := Has.right h2
  rw [numB_len] at q2
  rw [List.length_append, numB_len, numB_len] at q3
  obtain ⟨a1, b1⟩ := h1.num hL (by omega) (by omega) (by have hp : (256 : Int) ^ 2 = 65536 := (by decide); omega)
  obtain ⟨a2, b2⟩ := q2.num hL (by omega) (by omega) (by have hp : (256 : Int) ^ 4 = 4294967296 := (by decide); omega)
  obtain ⟨a3, b3⟩ := q3.num hL (by omega) (by omega) (by have hp : (256 : Int) ^ 4 = 4294967296 := (by decide); omega)
  refine ⟨?_, a1, ?_⟩
  · show rN L (adv (adv k 2) 4) 4 = id
    rw [b1, b2, Nat.add_assoc]; exact a3
  · show rN L (adv k 2) 4 = count
    rw [b1]; exact a2
theorem smeta_has {L : List Int} (id root count : Int) (hi : 0 ≤ id ∧ id ≤ 2000000000) (hr : 0 ≤ root ∧ root ≤ 999) (hc : 0 ≤ count ∧ count ≤ 2000000000) (h : Has L 0 (numB true 2 root ++ numB true 4 count ++ numB true 4 id)) : sMeta L = (some 10, id, root, count) := by
  have hl : (numB true 2 root ++ numB true 4 count ++ numB true 4 id).length = 10 := by simp [numB_len]
  have ht := h.sTake (h.len (by intro e; rw [e] at hl; simp at hl))
  rw [hl] at ht
  simp only [Nat.zero_add] at ht
  have hself : Has (numB true 2 root ++ numB true 4 count ++ numB true 4 id) 0 (numB true 2 root ++ numB true 4 count ++ numB true 4 id) := ⟨[], by simp⟩
  have proot : ((numB true 2 root ++ numB true 4 count ++ numB true 4 id).drop 0).take 2 = numB true 2 root := by
    have q := (Has.left (Has.left hself)).take
    rw [numB_len] at q
    exact q
  have vroot : numOf true (numB true 2 root) = root := numOf_numB _ _ _ (by omega) (by have hp : (256 : Int) ^ 2 = 65536 := (by decide); omega)
  have pcount : ((numB true 2 root ++ numB true 4 count ++ numB true 4 id).drop 2).take 4 = numB true 4 count := by
    have q := (Has.right (Has.left hself)).take
    rw [numB_len, numB_len, Nat.zero_add] at q
    exact q
  have vcount : numOf true (numB true 4 count) = count := numOf_numB _ _ _ (by omega) (by have hp : (256 : Int) ^ 4 = 4294967296 := (by decide); omega)
  have pid : ((numB true 2 root ++ numB true 4 count ++ numB true 4 id).drop 6).take 4 = numB true 4 id := by
    have q := (Has.right hself).take
    rw [List.length_append, numB_len, numB_len, numB_len, Nat.zero_add] at q
    exact q
  have vid : numOf true (numB true 4 id) = id := numOf_numB _ _ _ (by omega) (by have hp : (256 : Int) ^ 4 = 4294967296 := (by decide); omega)
  simp only [sMeta, ht, pid, proot, pcount, vid, vroot, vcount]
end Old
end Go.Proofs.Ytcmhobbpeaeebaa
namespace Go.Proofs.Ytcmhobbpeaeebaa
namespace Old
open Go.RowKit
set_option linter.unusedVariables false
set_option maxRecDepth 100000

theorem over_has {L : List Int} (hL : L.length = 128) (k : Nat) (next : Int) (data : ByteArray) (hn : 0 ≤ next ∧ next ≤ 999) (hd : data.size ≤ 96) (h : Has L k (numB true (smallN true) next ++ textB data)) (hk : k + smallN true + 1 + data.size ≤ 128) : oNext L k = next ∧ oData L k = data := by
  have hs := small_of hn
  obtain ⟨a1, b1⟩ := (Has.left h).num hL (by omega) hs.1 hs.2
  have h2 := Has.right h
  rw [numB_len] at h2
  obtain ⟨a2, b2⟩ := h2.text hL (by omega) (by omega)
  exact ⟨a1, by rw [oData, b1]; exact a2⟩
theorem sover_has {L : List Int} (next : Int) (data : ByteArray) (hn : 0 ≤ next ∧ next ≤ 999) (h : Has L 0 (numB true (smallN true) next ++ textB data)) : sOver L = (some (smallN true + 1 + data.size), next, data) := by
  have hs := small_of hn
  have hs2 : 0 < smallN true := by decide
  have hlen := h.len (by simp [textB])
  rw [List.length_append, numB_len, textB_len] at hlen
  have t1 := (Has.left h).snum hs2
  have h2 := Has.right h
  rw [numB_len] at h2
  simp only [Nat.zero_add] at t1 h2 hlen
  have t2 := (Has.left (x := [(data.size : Int)]) (y := strB data) h2).sbyte
  have h3 := Has.right (x := [(data.size : Int)]) (y := strB data) h2
  simp only [List.length_cons, List.length_nil, Nat.zero_add] at h3
  have t3 := h3.sstr (by omega)
  simp only [sOver, t1, t2, List.getD_cons_zero, Int.toNat_natCast, t3, toB_strB, numOf_numB _ _ _ hs.1 hs.2]
theorem meta_of {L : List Int} {k : Nat} {p : Pg} (h : Has L k (metaB true p)) : Has L k (numB true 2 p.root ++ numB true 4 p.count ++ numB true 4 p.id) := h
theorem meta_len (p : Pg) : 10 ≤ (metaB true p).length := by simp [metaB, beB_len]
/-- A good page is read back from its body. -/
theorem page_has {low last : Int} {p : Pg} (hl : 1 ≤ low) (hh : last ≤ 999) (hok : bodyOk low last p = true) {L : List Int} (hL : L.length = 128) (k : Nat) (h : Has L k (bodyB true p)) (hk : k + (bodyB true p).length ≤ 128) : readP L k p.kind (p.ks.length + p.es.length) = { p with tx := 0 } := by
  obtain ⟨kind, tx, id, root, count, ks, es, next, data⟩ := p
  unfold bodyOk at hok
  unfold bodyB at h hk
  unfold readP
  simp only at hok h hk ⊢
  by_cases h1 : kind = 1
  · subst h1
    simp only [if_true] at hok h hk ⊢
    simp only [metaOk, Bool.and_eq_true, inB, decide_eq_true_eq] at hok
    obtain ⟨⟨⟨⟨⟨⟨o1, o2⟩, o3⟩, o4⟩, o5⟩, o6⟩, o7⟩ := hok
    have e7 := empty_of o7
    have e4 := List.eq_nil_of_length_eq_zero o4
    have e5 := List.eq_nil_of_length_eq_zero o5
    subst e7 e4 e5 o6
    have hml := meta_len ⟨1, tx, id, root, count, [], [], 0, ⟨#[]⟩⟩
    obtain ⟨m1, m2, m3⟩ := meta_has hL k id root count (by omega) (by omega) (by omega) (meta_of h) (by omega)
    rw [m1, m2, m3]
  by_cases h2 : kind = 2
  · subst h2
    rw [if_neg (by decide), if_pos rfl] at hok h hk ⊢
    have hsz := branch_sizes hok
    have hgd := kids_good (by omega) hh hok
    simp only [branchOk, noMeta, Bool.and_eq_true, decide_eq_true_eq] at hok
    obtain ⟨⟨⟨⟨⟨⟨⟨o1, o2⟩, o3⟩, o4⟩, _⟩, _⟩, _⟩, _⟩ := hok
    obtain ⟨rfl, rfl, rfl⟩ := o1
    have e4 := empty_of o4
    have e2 := List.eq_nil_of_length_eq_zero o2
    simp only at e4 e2 o3 hsz hgd
    subst e4 e2 o3
    have hkr := kidsR_has hL k ks hgd.1 hsz.2 hgd.2 ks.length (Nat.le_refl _) h hk
    simp only [List.length_nil, Nat.add_zero, hkr, List.take_length]
  by_cases h3 : kind = 3
  · subst h3
    rw [if_neg (by decide), if_neg (by decide), if_pos rfl] at hok h hk ⊢
    have hgd := ents_good hl hh hok
    simp only [leafOk, noMeta, Bool.and_eq_true, decide_eq_true_eq] at hok
    obtain ⟨⟨⟨⟨⟨o1, o2⟩, o3⟩, o4⟩, _⟩, _⟩ := hok
    obtain ⟨rfl, rfl, rfl⟩ := o1
    have e4 := empty_of o4
    have e2 := List.eq_nil_of_length_eq_zero o2
    simp only at e4 e2 o3 hgd
    subst e4 e2 o3
    have hkr := entsR_has hL k es hgd es.length (Nat.le_refl _) h hk
    simp only [List.length_nil, Nat.zero_add, hkr, List.take_length]
  by_cases h4 : kind = 4
  · subst h4
    rw [if_neg (by decide), if_neg (by decide), if_neg (by decide), if_pos rfl] at hok h hk ⊢
    simp only [overOk, noMeta, Bool.and_eq_true, Bool.or_eq_true, inB, decide_eq_true_eq] at hok
    obtain ⟨⟨⟨⟨⟨o1, o2⟩, o3⟩, _⟩, o5⟩, o6⟩ := hok
    obtain ⟨rfl, rfl, rfl⟩ := o1
    have e2 := List.eq_nil_of_length_eq_zero o2
    have e3 := List.eq_nil_of_length_eq_zero o3
    subst e2 e3
    rw [List.length_append, numB_len, textB_len] at hk
    obtain ⟨a1, a2⟩ := over_has hL k next data (by omega) o5 h (by have hw : smallW true = smallN true := rfl; omega)
    rw [a1, a2]
  · rw [if_neg h1, if_neg h2, if_neg h3, if_neg h4] at hok
    cases hok
/-- A good page is read back by the specification. -/
theorem spage_has {low last : Int} {p : Pg} (hl : 1 ≤ low) (hh : last ≤ 999) (hok : bodyOk low last p = true) {L : List Int} (h : Has L 0 (bodyB true p)) : sRead L p.kind (p.ks.length + p.es.length) = ({ p with tx := 0 }, true) := by
  obtain ⟨kind, tx, id, root, count, ks, es, next, data⟩ := p
  unfold bodyOk at hok
  unfold bodyB at h
  unfold sRead
  simp only at hok h ⊢
  by_cases h1 : kind = 1
  · subst h1
    simp only [if_true] at hok h ⊢
    simp only [metaOk, Bool.and_eq_true, inB, decide_eq_true_eq] at hok
    obtain ⟨⟨⟨⟨⟨⟨o1, o2⟩, o3⟩, o4⟩, o5⟩, o6⟩, o7⟩ := hok
    have e7 := empty_of o7
    have e4 := List.eq_nil_of_length_eq_zero o4
    have e5 := List.eq_nil_of_length_eq_zero o5
    subst e7 e4 e5 o6
    rw [smeta_has id root count (by omega) (by omega) (by omega) (meta_of h)]
    rfl
  by_cases h2 : kind = 2
  · subst h2
    rw [if_neg (by decide), if_pos rfl] at hok h ⊢
    have hsz := branch_sizes hok
    have hgd := kids_good (by omega) hh hok
    simp only [branchOk, noMeta, Bool.and_eq_true, decide_eq_true_eq] at hok
    obtain ⟨⟨⟨⟨⟨⟨⟨o1, o2⟩, o3⟩, o4⟩, _⟩, _⟩, _⟩, _⟩ := hok
    obtain ⟨rfl, rfl, rfl⟩ := o1
    have e4 := empty_of o4
    have e2 := List.eq_nil_of_length_eq_zero o2
    simp only at e4 e2 o3 hsz hgd
    subst e4 e2 o3
    have hkr := sKids_has ks hgd.1 hsz.2 hgd.2 ks.length (Nat.le_refl _) h
    simp only [List.length_nil, Nat.add_zero, hkr, List.take_length, Option.isSome_some]
  by_cases h3 : kind = 3
  · subst h3
    rw [if_neg (by decide), if_neg (by decide), if_pos rfl] at hok h ⊢
    have hgd := ents_good hl hh hok
    simp only [leafOk, noMeta, Bool.and_eq_true, decide_eq_true_eq] at hok
    obtain ⟨⟨⟨⟨⟨o1, o2⟩, o3⟩, o4⟩, _⟩, _⟩ := hok
    obtain ⟨rfl, rfl, rfl⟩ := o1
    have e4 := empty_of o4
    have e2 := List.eq_nil_of_length_eq_zero o2
    simp only at e4 e2 o3 hgd
    subst e4 e2 o3
    have hkr := sEnts_has es hgd es.length (Nat.le_refl _) h
    simp only [List.length_nil, Nat.zero_add, hkr, List.take_length, Option.isSome_some]
  by_cases h4 : kind = 4
  · subst h4
    rw [if_neg (by decide), if_neg (by decide), if_neg (by decide), if_pos rfl] at hok h ⊢
    simp only [overOk, noMeta, Bool.and_eq_true, Bool.or_eq_true, inB, decide_eq_true_eq] at hok
    obtain ⟨⟨⟨⟨⟨o1, o2⟩, o3⟩, _⟩, o5⟩, o6⟩ := hok
    obtain ⟨rfl, rfl, rfl⟩ := o1
    have e2 := List.eq_nil_of_length_eq_zero o2
    have e3 := List.eq_nil_of_length_eq_zero o3
    subst e2 e3
    rw [sover_has next data (by omega) h]
    rfl
  · rw [if_neg h1, if_neg h2, if_neg h3, if_neg h4] at hok
    cases hok
end Old
end Go.Proofs.Ytcmhobbpeaeebaa
