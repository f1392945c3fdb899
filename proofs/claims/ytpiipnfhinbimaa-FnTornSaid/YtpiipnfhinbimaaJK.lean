import Derived.Test.YtpiipnfhinbimaaPgY
import Derived.Test.YtpiipnfhinbimaaRbN
import Derived.Test.YtpiipnfhinbimaaJL
namespace Go.Proofs.Ytpiipnfhinbimaa
namespace New
open Go.RowKit
set_option linter.unusedVariables false
set_option maxRecDepth 100000

/-- The bytes x stand in L at k. -/
def Has (L : List Int) (k : Nat) (x : List Int) : Prop := ∃ post, L.drop k = x ++ post
theorem Has.left {L : List Int} {k : Nat} {x y : List Int} (h : Has L k (x ++ y)) : Has L k x := by
  obtain ⟨p, h⟩ := h; exact ⟨y ++ p, by rw [h, List.append_assoc]⟩
theorem Has.right {L : List Int} {k : Nat} {x y : List Int} (h : Has L k (x ++ y)) : Has L (k + x.length) y := by
  obtain ⟨p, h⟩ := h
  refine ⟨p, ?_⟩
  rw [← List.drop_drop, h, List.append_assoc, List.drop_left]
theorem Has.len {L : List Int} {k : Nat} {x : List Int} (h : Has L k x) (hx : x ≠ []) : k + x.length ≤ L.length := by
  obtain ⟨p, h⟩ := h
  have h1 := congrArg List.length h
  simp at h1
  have : 0 < x.length := List.length_pos_iff.2 hx
  omega
theorem Has.take {L : List Int} {k : Nat} {x : List Int} (h : Has L k x) : (L.drop k).take x.length = x := by
  obtain ⟨p, h⟩ := h; rw [h, List.take_left]
theorem Has.cut {L : List Int} (hL : L.length = 128) {k : Nat} {x : List Int} (h : Has L k x) (hk : k + x.length ≤ 128) : cutL L k x.length = x := by
  rw [cutL, show min (k + x.length) 128 - k = x.length by omega]; exact h.take
theorem Has.num {L : List Int} (hL : L.length = 128) {k n : Nat} {v : Int} (h : Has L k (numB false n v)) (hk : k + n ≤ 128) (h0 : 0 ≤ v) (h1 : v < 256 ^ n) : rN L k n = v ∧ adv k n = k + n := by
  have hl := numB_len false n v
  have hc := h.cut hL (by omega)
  rw [hl] at hc
  exact ⟨by rw [rN, hc, numOf_numB _ _ _ h0 h1], by unfold adv; omega⟩
theorem one_num (x : Int) (h : 0 ≤ x ∧ x ≤ 255) : [x] = numB false 1 x := by
  cases hb : false <;> simp [numB, beB, leB] <;> omega
theorem Has.byte {L : List Int} (hL : L.length = 128) {k : Nat} {v : Int} (h : Has L k [v]) (hk : k + 1 ≤ 128) (hv : 0 ≤ v ∧ v ≤ 255) : rN L k 1 = v ∧ adv k 1 = k + 1 := by
  rw [one_num v hv] at h
  exact h.num hL hk hv.1 (by omega)
theorem Has.text {L : List Int} (hL : L.length = 128) {k : Nat} {s : ByteArray} (h : Has L k (textB s)) (hs : s.size ≤ 255) (hk : k + 1 + s.size ≤ 128) : tStr L k = s ∧ tEnd L k = k + 1 + s.size := by
  have h1 : Has L k [(s.size : Int)] := Has.left (y := strB s) h
  have h2 : Has L (k + 1) (strB s) := Has.right (x := [(s.size : Int)]) h
  obtain ⟨e1, e2⟩ := h1.byte hL (by omega) (by omega)
  have el : tLen L k = s.size := by rw [tLen, e1]; simp
  have hc := h2.cut hL (by rw [strB_len]; omega)
  rw [strB_len] at hc
  refine ⟨?_, ?_⟩
  · rw [tStr, el, e2, hc, toB_strB]
  · rw [tEnd, el, e2]; unfold adv; omega
theorem take_getD {α : Type} (l : List α) (d : α) {n : Nat} (h : n < l.length) : l.take (n + 1) = l.take n ++ [l.getD n d] := by
  rw [List.take_add_one]; simp [List.getD, h]
theorem kidsR_has {L : List Int} (hL : L.length = 128) (k : Nat) (ks : List PK) (h0 : (ks.getD 0 dK).1 = ⟨#[]⟩) (hs : ∀ i, i < ks.length → 0 < i → (ks.getD i dK).1.size ≤ 8) (hp : ∀ i, i < ks.length → 0 ≤ (ks.getD i dK).2 ∧ (ks.getD i dK).2 < 256 ^ (smallN false)) :
    ∀ n, n ≤ ks.length → Has L k (kidsB false (smallN false) ks n) → k + (kidsB false (smallN false) ks n).length ≤ 128 → kidsR L k n = (ks.take n, k + (kidsB false (smallN false) ks n).length)
  | 0, _, _, _ => by simp [kidsR, kidsB]
  | n + 1, hn, h, hk => by
    have hl : (kidsB false (smallN false) ks (n + 1)).length = (kidsB false (smallN false) ks n).length + (kidB false (smallN false) n (ks.getD n dK)).length := by simp [kidsB]
    have ih := kidsR_has hL k ks h0 hs hp n (by omega) (Has.left (y := kidB false (smallN false) n (ks.getD n dK)) h) (by omega)
    have h2 : Has L (k + (kidsB false (smallN false) ks n).length) (kidB false (smallN false) n (ks.getD n dK)) := Has.right h
    have hpn := hp n (by omega)
    rw [kidsR, ih, take_getD ks dK (by omega)]
    generalize (kidsB false (smallN false) ks n).length = m at *
    by_cases hz : 0 < n
    · have hsz := hs n (by omega) hz
      have ek : kidB false (smallN false) n (ks.getD n dK) = textB (ks.getD n dK).1 ++ numB false (smallN false) (ks.getD n dK).2 := by simp [kidB, hz]
      rw [ek] at h2 hl
      rw [List.length_append, textB_len, numB_len] at hl
      obtain ⟨e1, e2⟩ := (Has.left h2).text hL (by omega) (by omega)
      have h3 := Has.right h2
      rw [textB_len] at h3
      obtain ⟨e3, e4⟩ := h3.num hL (by omega) hpn.1 hpn.2
      simp only [kSep, kMid, if_pos hz, e1, e2]
      have ea : k + m + 1 + (ks.getD n dK).1.size = k + m + ((ks.getD n dK).1.size + 1) := by omega
      rw [ea, e3, e4, hl]
      refine Prod.ext rfl ?_
      show k + m + ((ks.getD n dK).1.size + 1) + smallN false = k + (m + ((ks.getD n dK).1.size + 1 + smallN false))
      omega
    · obtain rfl : n = 0 := by omega
      have ek : kidB false (smallN false) 0 (ks.getD 0 dK) = numB false (smallN false) (ks.getD 0 dK).2 := by simp [kidB]
      rw [ek] at h2 hl
      rw [numB_len] at hl
      obtain ⟨e3, e4⟩ := h2.num hL (by omega) hpn.1 hpn.2
      simp only [kSep, kMid, if_neg hz]
      rw [e3, e4, hl]
      have ep : ((⟨#[]⟩ : ByteArray), (ks.getD 0 dK).2) = ks.getD 0 dK := Prod.ext h0.symm rfl
      refine Prod.ext ?_ ?_
      · show List.take 0 ks ++ [(ByteArray.empty, (ks.getD 0 dK).2)] = List.take 0 ks ++ [ks.getD 0 dK]
        rw [← ep]; rfl
      · show k + m + smallN false = k + (m + smallN false)
        omega
/-- What an entry must be to be read back. -/
def EntGood (e : PE) : Prop := e.1.size ≤ 8 ∧ ((e.2.2.1 = 0 ∧ e.2.2.2 = (e.2.1.size : Int) ∧ e.2.1.size ≤ 8) ∨ (e.2.2.1 ≠ 0 ∧ 0 ≤ e.2.2.1 ∧ e.2.2.1 < 256 ^ (smallN false) ∧ e.2.1 = ⟨#[]⟩ ∧ 0 ≤ e.2.2.2 ∧ e.2.2.2 < 256 ^ (smallN false)))
def fillB (s : ByteArray) : List Int := if false = true then List.replicate (8 - s.size) 0 else []
theorem entB_parts (e : PE) : entB false (smallN false) e = textB e.1 ++ (fillB e.1 ++ (if e.2.2.1 = 0 then [0] ++ textB e.2.1 else [1] ++ (numB false (smallN false) e.2.2.1 ++ numB false (smallN false) e.2.2.2))) := by
  unfold entB fillB
  rw [List.append_assoc]
  congr 2
theorem entR_has {L : List Int} (hL : L.length = 128) (p : Nat) (e : PE) (hg : EntGood e) (h : Has L p (entB false (smallN false) e)) (hk : p + (entB false (smallN false) e).length ≤ 128) : entR L p = (e, p + (entB false (smallN false) e).length) := by
  obtain ⟨h8, hc⟩ := hg
  rw [entB_parts] at h hk ⊢
  obtain ⟨key, val, ov, sz⟩ := e
  simp only at h8 hc h hk ⊢
  rw [List.length_append, List.length_append, textB_len] at hk ⊢
  obtain ⟨e1, e2⟩ := (Has.left h).text hL (by omega) (by omega)
  have h2 := Has.right h
  rw [textB_len] at h2
  have h3 := Has.right h2
  have eK : kEnd L p = p + (key.size + 1) + (fillB key).length := by
    by_cases ho : false = true
    · have hf : (fillB key).length = 8 - key.size := by rw [fillB, if_pos ho]; simp
      rw [hf] at hk
      rw [kEnd, if_pos ho, e1, e2, hf]
      unfold adv
      omega
    · have hf : (fillB key).length = 0 := by rw [fillB, if_neg ho]; rfl
      rw [kEnd, if_neg ho, e2, hf]
      omega
  generalize hF : (fillB key).length = f at *
  rcases hc with ⟨rfl, rfl, hv8⟩ | ⟨hne, ho0, ho1, rfl, hs0, hs1⟩
  · rw [if_pos rfl] at h3 hk ⊢
    rw [List.length_append, textB_len] at hk ⊢
    simp only [List.length_cons, List.length_nil] at hk ⊢
    obtain ⟨e3, e4⟩ := (Has.left h3).byte hL (by omega) (by omega)
    obtain ⟨e5, e6⟩ := (Has.right h3).text hL (by omega) (by simp; omega)
    simp only [List.length_cons, List.length_nil] at e5 e6
    unfold entR
    rw [eK, e3, if_pos rfl, e1, e4, e5, e6]
    refine Prod.ext rfl ?_
    show _ = p + (key.size + 1 + (f + (0 + 1 + (val.size + 1))))
    omega
  · rw [if_neg hne] at h3 hk ⊢
    rw [List.length_append, List.length_append, numB_len, numB_len] at hk ⊢
    simp only [List.length_cons, List.length_nil] at hk ⊢
    obtain ⟨e3, e4⟩ := (Has.left h3).byte hL (by omega) (by omega)
    have h4 := Has.right h3
    simp only [List.length_cons, List.length_nil] at h4
    obtain ⟨e5, e6⟩ := (Has.left h4).num hL (by omega) ho0 ho1
    have h5 := Has.right h4
    rw [numB_len] at h5
    obtain ⟨e7, e8⟩ := h5.num hL (by omega) hs0 hs1
    unfold entR
    rw [eK, e3, if_neg (by decide), e1, e4, e5, e6, e7, e8]
    refine Prod.ext rfl ?_
    show _ = p + (key.size + 1 + (f + (0 + 1 + (smallN false + smallN false))))
    omega
theorem entsR_has {L : List Int} (hL : L.length = 128) (k : Nat) (es : List PE) (hg : ∀ i, i < es.length → EntGood (es.getD i dE)) :
    ∀ n, n ≤ es.length → Has L k (entsB false (smallN false) es n) → k + (entsB false (smallN false) es n).length ≤ 128 → entsR L k n = (es.take n, k + (entsB false (smallN false) es n).length)
  | 0, _, _, _ => by simp [entsR, entsB]
  | n + 1, hn, h, hk => by
    have hl : (entsB false (smallN false) es (n + 1)).length = (entsB false (smallN false) es n).length + (entB false (smallN false) (es.getD n dE)).length := by simp [entsB]
    have ih := entsR_has hL k es hg n (by omega) (Has.left (y := entB false (smallN false) (es.getD n dE)) h) (by omega)
    have h2 : Has L (k + (entsB false (smallN false) es n).length) (entB false (smallN false) (es.getD n dE)) := Has.right h
    rw [entsR, ih, entR_has hL _ _ (hg n (by omega)) h2 (by omega), take_getD es dE (by omega), hl, Nat.add_assoc]
end New
end Go.Proofs.Ytpiipnfhinbimaa
namespace Go.Proofs.Ytpiipnfhinbimaa
namespace New
open Go.RowKit
set_option linter.unusedVariables false
set_option maxRecDepth 100000

theorem empty_of {s : ByteArray} (h : s.toList.isEmpty = true) : s = ⟨#[]⟩ := by
  rw [ByteArray.toList_eq] at h
  have h1 : s.data.toList = [] := List.isEmpty_iff.1 h
  exact ByteArray.ext (Array.ext' h1)
theorem small_of {x : Int} (h : 0 ≤ x ∧ x ≤ 999) : 0 ≤ x ∧ x < 256 ^ (smallN false) := by
  have : (65536 : Int) ≤ 256 ^ (smallN false) := by decide
  omega
theorem kids_good {low last : Int} {p : Pg} (hl : 0 ≤ low) (hh : last ≤ 999) (h : branchOk low last p = true) : (p.ks.getD 0 dK).1 = ⟨#[]⟩ ∧ (∀ i, i < p.ks.length → 0 ≤ (p.ks.getD i dK).2 ∧ (p.ks.getD i dK).2 < 256 ^ (smallN false)) := by
  simp only [branchOk, Bool.and_eq_true] at h
  refine ⟨empty_of h.1.2, fun i hi => ?_⟩
  have h2 := all_get h.2 hi
  simp only [kidOk, Bool.and_eq_true, inB, decide_eq_true_eq] at h2
  exact small_of (by omega)
theorem ents_good {low last : Int} {p : Pg} (hl : 1 ≤ low) (hh : last ≤ 999) (h : leafOk low last p = true) : ∀ i, i < p.es.length → EntGood (p.es.getD i dE) := by
  intro i hi
  have hs := leaf_sizes h
  simp only [leafOk, Bool.and_eq_true] at h
  have h2 := all_get h.2 hi
  simp only [entOk, Bool.and_eq_true, Bool.or_eq_true] at h2
  refine ⟨(hs.2 i hi).1, ?_⟩
  rcases h2.1.2 with h3 | h3
  · simp only [shortB, Bool.and_eq_true, decide_eq_true_eq] at h3
    exact .inl ⟨h3.1.1, h3.1.2, h3.2⟩
  · simp only [longB, Bool.and_eq_true, inB, decide_eq_true_eq] at h3
    have a := small_of (x := (p.es.getD i dE).2.2.1) (by omega)
    have b := small_of (x := (p.es.getD i dE).2.2.2) (by omega)
    exact .inr ⟨by omega, a.1, a.2, empty_of h3.1.2, b.1, b.2⟩
end New
end Go.Proofs.Ytpiipnfhinbimaa
namespace Go.Proofs.Ytpiipnfhinbimaa
namespace New
open Go.RowKit
set_option linter.unusedVariables false
set_option maxRecDepth 100000

theorem meta_has {L : List Int} (hL : L.length = 128) (k : Nat) (id root count : Int) (hi : 0 ≤ id ∧ id ≤ 2000000000) (hr : 0 ≤ root ∧ root ≤ 999) (hc : 0 ≤ count ∧ count ≤ 2000000000) (h : Has L k (numB false 4 id ++ numB false 4 root ++ numB false 4 count)) (hk : k + 12 ≤ 128) : mId L k = id ∧ mRoot L k = root ∧ mCount L k = count := by
  have h2 := Has.left h
  have h1 := Has.left h2
  have q3 := Has.right h
  have q2 := Has.right h2
  rw [numB_len] at q2
  rw [List.length_append, numB_len, numB_len] at q3
  obtain ⟨a1, b1⟩ := h1.num hL (by omega) (by omega) (by have hp : (256 : Int) ^ 4 = 4294967296 := (by decide); omega)
  obtain ⟨a2, b2⟩ := q2.num hL (by omega) (by omega) (by have hp : (256 : Int) ^ 4 = 4294967296 := (by decide); omega)
  obtain ⟨a3, b3⟩ := q3.num hL (by omega) (by omega) (by have hp : (256 : Int) ^ 4 = 4294967296 := (by decide); omega)
  refine ⟨a1, ?_, ?_⟩
  · show rN L (adv k 4) 4 = root
    rw [b1]; exact a2
  · show rN L (adv (adv k 4) 4) 4 = count
    rw [b1, b2, Nat.add_assoc]; exact a3
end New
end Go.Proofs.Ytpiipnfhinbimaa
namespace Go.Proofs.Ytpiipnfhinbimaa
namespace New
open Go.RowKit
set_option linter.unusedVariables false
set_option maxRecDepth 100000

theorem over_has {L : List Int} (hL : L.length = 128) (k : Nat) (next : Int) (data : ByteArray) (hn : 0 ≤ next ∧ next ≤ 999) (hd : data.size ≤ 96) (h : Has L k (numB false (smallN false) next ++ textB data)) (hk : k + smallN false + 1 + data.size ≤ 128) : oNext L k = next ∧ oData L k = data := by
  have hs := small_of hn
  obtain ⟨a1, b1⟩ := (Has.left h).num hL (by omega) hs.1 hs.2
  have h2 := Has.right h
  rw [numB_len] at h2
  obtain ⟨a2, b2⟩ := h2.text hL (by omega) (by omega)
  exact ⟨a1, by rw [oData, b1]; exact a2⟩
theorem meta_of {L : List Int} {k : Nat} {p : Pg} (h : Has L k (metaB false p)) : Has L k (numB false 4 p.id ++ numB false 4 p.root ++ numB false 4 p.count) := Has.left h
theorem meta_len (p : Pg) : 12 ≤ (metaB false p).length := by simp [metaB, leB_len]
/-- A good page is read back from its body. -/
theorem page_has {low last : Int} {p : Pg} (hl : 1 ≤ low) (hh : last ≤ 999) (hok : bodyOk low last p = true) {L : List Int} (hL : L.length = 128) (k : Nat) (h : Has L k (bodyB false p)) (hk : k + (bodyB false p).length ≤ 128) : readP L k p.kind (p.ks.length + p.es.length) = { p with tx := 0 } := by
  obtain ⟨kind, tx, id, root, count, ks, es, next, data⟩ := p
  unfold bodyOk at hok
  unfold bodyB at h hk
  unfold readP
  simp only at hok h hk ⊢
  by_cases h1 : kind = 1
  · subst h1
    simp only [if_true] at hok h hk ⊢
    simp only [metaOk, Bool.and_eq_true, inB, decide_eq_true_eq] at hok
    obtain ⟨⟨⟨⟨⟨⟨o1, o2⟩, o3⟩, o4⟩, o5⟩, o6⟩, o7⟩ := hok
    have e7 := empty_of o7
    have e4 := List.eq_nil_of_length_eq_zero o4
    have e5 := List.eq_nil_of_length_eq_zero o5
    subst e7 e4 e5 o6
    have hml := meta_len ⟨1, tx, id, root, count, [], [], 0, ⟨#[]⟩⟩
    obtain ⟨m1, m2, m3⟩ := meta_has hL k id root count (by omega) (by omega) (by omega) (meta_of h) (by omega)
    rw [m1, m2, m3]
  by_cases h2 : kind = 2
  · subst h2
    rw [if_neg (by decide), if_pos rfl] at hok h hk ⊢
    have hsz := branch_sizes hok
    have hgd := kids_good (by omega) hh hok
    simp only [branchOk, noMeta, Bool.and_eq_true, decide_eq_true_eq] at hok
    obtain ⟨⟨⟨⟨⟨⟨⟨o1, o2⟩, o3⟩, o4⟩, _⟩, _⟩, _⟩, _⟩ := hok
    obtain ⟨rfl, rfl, rfl⟩ := o1
    have e4 := empty_of o4
    have e2 := List.eq_nil_of_length_eq_zero o2
    simp only at e4 e2 o3 hsz hgd
    subst e4 e2 o3
    have hkr := kidsR_has hL k ks hgd.1 hsz.2 hgd.2 ks.length (Nat.le_refl _) h hk
    simp only [List.length_nil, Nat.add_zero, hkr, List.take_length]
  by_cases h3 : kind = 3
  · subst h3
    rw [if_neg (by decide), if_neg (by decide), if_pos rfl] at hok h hk ⊢
    have hgd := ents_good hl hh hok
    simp only [leafOk, noMeta, Bool.and_eq_true, decide_eq_true_eq] at hok
    obtain ⟨⟨⟨⟨⟨o1, o2⟩, o3⟩, o4⟩, _⟩, _⟩ := hok
    obtain ⟨rfl, rfl, rfl⟩ := o1
    have e4 := empty_of o4
    have e2 := List.eq_nil_of_length_eq_zero o2
    simp only at e4 e2 o3 hgd
    subst e4 e2 o3
    have hkr := entsR_has hL k es hgd es.length (Nat.le_refl _) h hk
    simp only [List.length_nil, Nat.zero_add, hkr, List.take_length]
  by_cases h4 : kind = 4
  · subst h4
    rw [if_neg (by decide), if_neg (by decide), if_neg (by decide), if_pos rfl] at hok h hk ⊢
    simp only [overOk, noMeta, Bool.and_eq_true, Bool.or_eq_true, inB, decide_eq_true_eq] at hok
    obtain ⟨⟨⟨⟨⟨o1, o2⟩, o3⟩, _⟩, o5⟩, o6⟩ := hok
    obtain ⟨rfl, rfl, rfl⟩ := o1
    have e2 := List.eq_nil_of_length_eq_zero o2
    have e3 := List.eq_nil_of_length_eq_zero o3
    subst e2 e3
    rw [List.length_append, numB_len, textB_len] at hk
    obtain ⟨a1, a2⟩ := over_has hL k next data (by omega) o5 h (by have hw : smallW false = smallN false := rfl; omega)
    rw [a1, a2]
  · rw [if_neg h1, if_neg h2, if_neg h3, if_neg h4] at hok
    cases hok
end New
end Go.Proofs.Ytpiipnfhinbimaa
namespace Go.Proofs.Ytpiipnfhinbimaa
namespace New
open Go.RowKit
set_option linter.unusedVariables false
set_option maxRecDepth 100000

theorem code_formI {p : Pg} (htx : inB 1 2000000000 p.tx = true) (hok : bodyOk 2 999 p = true) : ∃ post, newCodeOf p = numB false 4 p.tx ++ ([p.kind] ++ ([((p.ks.length + p.es.length : Nat) : Int)] ++ ([0, 0] ++ (bodyB false p ++ post)))) ∧ (newCodeOf p).length = 128 := by
  have hl := bodyB_len false hok
  refine ⟨List.replicate (120 - (newHead p).length) 0 ++ leB 4 (crcOf (padB 120 (newHead p))) ++ leB 4 p.tx, ?_, ?_⟩
  · rw [newCodeOf, if_pos ⟨htx, hok⟩]
    simp [sealN, padB, newHead, numB, List.append_assoc]
  · rw [newCodeOf, if_pos ⟨htx, hok⟩]
    exact seal_len _ (by simp [newHead, leB_len]; omega)
theorem dec_codeI {p : Pg} (htx : inB 1 2000000000 p.tx = true) (hok : bodyOk 2 999 p = true) : decP (newCodeOf p) = p := by
  obtain ⟨post, hf, hlen⟩ := code_formI htx hok
  have hl := bodyB_len false hok
  have hkd := body_kind hok
  have hcn := body_count hok
  have ht : 1 ≤ p.tx ∧ p.tx ≤ 2000000000 := by simpa [inB] using htx
  have h0 : Has (newCodeOf p) 0 (numB false 4 p.tx ++ ([p.kind] ++ ([((p.ks.length + p.es.length : Nat) : Int)] ++ ([0, 0] ++ (bodyB false p ++ post))))) := ⟨[], by rw [List.drop_zero, List.append_nil]; exact hf⟩
  have g0 := Has.left h0
  have r0 := Has.right h0
  rw [numB_len] at r0
  have g1 := Has.left r0
  have r1 := Has.right r0
  have g2 := Has.left r1
  have r2 := Has.right r1
  have r3 := Has.right r2
  simp only [List.length_cons, List.length_nil, Nat.zero_add] at g1 g2 r3
  have r4 : Has (newCodeOf p) 8 (bodyB false p) := Has.left r3
  obtain ⟨a1, _⟩ := g0.num hlen (by omega) (by omega) (by have hp : (256 : Int) ^ 4 = 4294967296 := (by decide); omega)
  obtain ⟨a2, _⟩ := g1.byte hlen (by omega) hkd
  obtain ⟨a3, _⟩ := g2.byte hlen (by omega) (by omega)
  have hpg := page_has (by omega) (by omega) hok hlen 8 r4 (by omega)
  have e5 : rN (newCodeOf p) 5 1 = ((p.ks.length + p.es.length : Nat) : Int) := a3
  have e4 : rN (newCodeOf p) 4 1 = p.kind := a2
  rw [decP, a1, e4, e5, Int.toNat_natCast, hpg]
end New
end Go.Proofs.Ytpiipnfhinbimaa
