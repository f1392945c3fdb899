import Derived.Test.YtcmhobbpeaeebaaGAH
import Derived.Test.YtcmhobbpeaeebaaGAV
import Derived.Test.YtcmhobbpeaeebaaGAX
import Derived.Test.YtcmhobbpeaeebaaGAZ
namespace Go.Proofs.Ytcmhobbpeaeebaa
namespace New
open Go.RowKit
set_option linter.unusedVariables false
set_option maxRecDepth 100000

/-- The bytes x stand in L at k. -/
def Has (L : List Int) (k : Nat) (x : List Int) : Prop := ∃ post, L.drop k = x ++ post
theorem Has.left {L : List Int} {k : Nat} {x y : List Int} (h : Has L k (x ++ y)) : Has L k x := by
  obtain ⟨p, h⟩ := h; exact ⟨y ++ p, by rw [h, List.append_assoc]⟩
theorem Has.right {L : List Int} {k : Nat} {x y : List Int} (h : Has L k (x ++ y)) : Has L (k + x.length) y := by
  obtain ⟨p, h⟩ := h
  refine ⟨p, ?_⟩
  rw [← List.drop_drop, h, List.append_assoc, List.drop_left]
theorem Has.len {L : List Int} {k : Nat} {x : List Int} (h : Has L k x) (hx : x ≠ []) : k + x.length ≤ L.length := by
  obtain ⟨p, h⟩ := h
  have h1 := congrArg List.length h
  simp at h1
  have : 0 < x.length := List.length_pos_iff.2 hx
  omega
theorem Has.take {L : List Int} {k : Nat} {x : List Int} (h : Has L k x) : (L.drop k).take x.length = x := by
  obtain ⟨p, h⟩ := h; rw [h, List.take_left]
theorem Has.sTake {L : List Int} {k : Nat} {x : List Int} (h : Has L k x) (hk : k + x.length ≤ L.length) : sTake L (some k) x.length = (some (k + x.length), x) := by
  simp only [Go.Proofs.Ytcmhobbpeaeebaa.sTake, if_pos hk, h.take]
theorem Has.cut {L : List Int} (hL : L.length = 128) {k : Nat} {x : List Int} (h : Has L k x) (hk : k + x.length ≤ 128) : cutL L k x.length = x := by
  rw [cutL, show min (k + x.length) 128 - k = x.length by omega]; exact h.take
theorem Has.num {L : List Int} (hL : L.length = 128) {k n : Nat} {v : Int} (h : Has L k (numB false n v)) (hk : k + n ≤ 128) (h0 : 0 ≤ v) (h1 : v < 256 ^ n) : rN L k n = v ∧ adv k n = k + n := by
  have hl := numB_len false n v
  have hc := h.cut hL (by omega)
  rw [hl] at hc
  exact ⟨by rw [rN, hc, numOf_numB _ _ _ h0 h1], by unfold adv; omega⟩
theorem one_num (x : Int) (h : 0 ≤ x ∧ x ≤ 255) : [x] = numB false 1 x := by
  cases hb : false <;> simp [numB, beB, leB] <;> omega
theorem Has.byte {L : List Int} (hL : L.length = 128) {k : Nat} {v : Int} (h : Has L k [v]) (hk : k + 1 ≤ 128) (hv : 0 ≤ v ∧ v ≤ 255) : rN L k 1 = v ∧ adv k 1 = k + 1 := by
  rw [one_num v hv] at h
  exact h.num hL hk hv.1 (by omega)
theorem Has.text {L : List Int} (hL : L.length = 128) {k : Nat} {s : ByteArray} (h : Has L k (textB s)) (hs : s.size ≤ 255) (hk : k + 1 + s.size ≤ 128) : tStr L k = s ∧ tEnd L k = k + 1 + s.size := by
  have h1 : Has L k [(s.size : Int)] := Has.left (y := strB s) h
  have h2 : Has L (k + 1) (strB s) := Has.right (x := [(s.size : Int)]) h
  obtain ⟨e1, e2⟩ := h1.byte hL (by omega) (by omega)
  have el : tLen L k = s.size := by rw [tLen, e1]; simp
  have hc := h2.cut hL (by rw [strB_len]; omega)
  rw [strB_len] at hc
  refine ⟨?_, ?_⟩
  · rw [tStr, el, e2, hc, toB_strB]
  · rw [tEnd, el, e2]; unfold adv; omega
theorem Has.sbyte {L : List Int} {k : Nat} {v : Int} (h : Has L k [v]) : Go.Proofs.Ytcmhobbpeaeebaa.sTake L (some k) 1 = (some (k + 1), [v]) := h.sTake (h.len (by simp))
theorem Has.snum {L : List Int} {k n : Nat} {v : Int} (h : Has L k (numB false n v)) (hn : 0 < n) : Go.Proofs.Ytcmhobbpeaeebaa.sTake L (some k) n = (some (k + n), numB false n v) := by
  have hl := numB_len false n v
  have := h.sTake (h.len (by intro e; rw [e] at hl; simp at hl; omega))
  rwa [hl] at this
theorem Has.sstr {L : List Int} {k : Nat} {s : ByteArray} (h : Has L k (strB s)) (hk : k + s.size ≤ L.length) : Go.Proofs.Ytcmhobbpeaeebaa.sTake L (some k) s.size = (some (k + s.size), strB s) := by
  have := h.sTake (by rw [strB_len]; exact hk)
  rwa [strB_len] at this
theorem take_getD {α : Type} (l : List α) (d : α) {n : Nat} (h : n < l.length) : l.take (n + 1) = l.take n ++ [l.getD n d] := by
  rw [List.take_add_one]; simp [List.getD, h]
theorem kidsR_has {L : List Int} (hL : L.length = 128) (k : Nat) (ks : List PK) (h0 : (ks.getD 0 dK).1 = ⟨#[]⟩) (hs : ∀ i, i < ks.length → 0 < i → (ks.getD i dK).1.size ≤ 8) (hp : ∀ i, i < ks.length → 0 ≤ (ks.getD i dK).2 ∧ (ks.getD i dK).2 < 256 ^ (smallN false)) :
    ∀ n, n ≤ ks.length → Has L k (kidsB false (smallN false) ks n) → k + (kidsB false (smallN false) ks n).length ≤ 128 → kidsR L k n = (ks.take n, k + (kidsB false (smallN false) ks n).length)
  | 0, _, _, _ => by simp [kidsR, kidsB]
  | n + 1, hn, h, hk => by
    have hl : (kidsB false (smallN false) ks (n + 1)).length = (kidsB false (smallN false) ks n).length + (kidB false (smallN false) n (ks.getD n dK)).length := by simp [kidsB]
    have ih := kidsR_has hL k ks h0 hs hp n (by omega) (Has.left (y := kidB false (smallN false) n (ks.getD n dK)) h) (by omega)
    have h2 : Has L (k + (kidsB false (smallN false) ks n).length) (kidB false (smallN false) n (ks.getD n dK)) := Has.right h
    have hpn := hp n (by omega)
    rw [kidsR, ih, take_getD ks dK (by omega)]
    generalize (kidsB false (smallN false) ks n).length = m at *
    by_cases hz : 0 < n
    · have hsz := hs n (by omega) hz
      have ek : kidB false (smallN false) n (ks.getD n dK) = textB (ks.getD n dK).1 ++ numB false (smallN false) (ks.getD n dK).2 := by simp [kidB, hz]
      rw [ek] at h2 hl
      rw [List.length_append, textB_len, numB_len] at hl
      obtain ⟨e1, e2⟩ := (Has.left h2).text hL (by omega) (by omega)
      have h3 := Has.right h2
      rw [textB_len] at h3
      obtain ⟨e3, e4⟩ := h3.num hL (by omega) hpn.1 hpn.2
      simp only [kSep, kMid, if_pos hz, e1, e2]
      have ea : k + m + 1 + (ks.getD n dK).1.size = k + m + ((ks.getD n dK).1.size + 1) := by omega
      rw [ea, e3, e4, hl]
      refine Prod.ext rfl ?_
      show k + m + ((ks.getD n dK).1.size + 1) + smallN false = k + (m + ((ks.getD n dK).1.size + 1 + smallN false))
      omega
    · obtain rfl : n = 0 := by omega
      have ek : kidB false (smallN false) 0 (ks.getD 0 dK) = numB false (smallN false) (ks.getD 0 dK).2 := by simp [kidB]
      rw [ek] at h2 hl
      rw [numB_len] at hl
      obtain ⟨e3, e4⟩ := h2.num hL (by omega) hpn.1 hpn.2
      simp only [kSep, kMid, if_neg hz]
      rw [e3, e4, hl]
      have ep : ((⟨#[]⟩ : ByteArray), (ks.getD 0 dK).2) = ks.getD 0 dK := Prod.ext h0.symm rfl
      refine Prod.ext ?_ ?_
      · show List.take 0 ks ++ [(ByteArray.empty, (ks.getD 0 dK).2)] = List.take 0 ks ++ [ks.getD 0 dK]
        rw [← ep]; rfl
      · show k + m + smallN false = k + (m + smallN false)
        omega
/-- What an entry must be to be read back. -/
def EntGood (e : PE) : Prop := e.1.size ≤ 8 ∧ ((e.2.2.1 = 0 ∧ e.2.2.2 = (e.2.1.size : Int) ∧ e.2.1.size ≤ 8) ∨ (e.2.2.1 ≠ 0 ∧ 0 ≤ e.2.2.1 ∧ e.2.2.1 < 256 ^ (smallN false) ∧ e.2.1 = ⟨#[]⟩ ∧ 0 ≤ e.2.2.2 ∧ e.2.2.2 < 256 ^ (smallN false)))
def fillB (s : ByteArray) : List Int := if false = true then List.replicate (8 - s.size) 0 else []
theorem entB_parts (e : PE) : entB false (smallN false) e = textB e.1 ++ (fillB e.1 ++ (if e.2.2.1 = 0 then [0] ++ textB e.2.1 else [1] ++ (numB false (smallN false) e.2.2.1 ++ numB false (smallN false) e.2.2.2))) := by
  unfold entB fillB
  rw [List.append_assoc]
  congr 2
theorem entR_has {L : List Int} (hL : L.length = 128) (p : Nat) (e : PE) (hg : EntGood e) (h : Has L p (entB false (smallN false) e)) (hk : p + (entB false (smallN false) e).length ≤ 128) : entR L p = (e, p + (entB false (smallN false) e).length) := by
  obtain ⟨h8, hc⟩ := hg
  rw [entB_parts] at h hk ⊢
  obtain ⟨key, val, ov, sz⟩ := e
  simp only at h8 hc h hk ⊢
  rw [List.length_append, List.length_append, textB_len] at hk ⊢
  obtain ⟨e1, e2⟩ := (Has.left h).text hL (by omega) (by omega)
  have h2 := Has.right h
  rw [textB_len] at h2
  have h3 := Has.right h2
  have eK : kEnd L p = p + (key.size + 1) + (fillB key).length := by
    by_cases ho : false = true
    · have hf : (fillB key).length = 8 - key.size := by rw [fillB, if_pos ho]; simp
      rw [hf] at hk
      rw [kEnd, if_pos ho, e1, e2, hf]
      unfold adv
      omega
    · have hf : (fillB key).length = 0 := by rw [fillB, if_neg ho]; rfl
      rw [kEnd, if_neg ho, e2, hf]
      omega
  generalize hF : (fillB key).length = f at *
  rcases hc with ⟨rfl, rfl, hv8⟩ | ⟨hne, ho0, ho1, rfl, hs0, hs1⟩
  · rw [if_pos rfl] at h3 hk ⊢
    rw [List.length_append, textB_len] at hk ⊢
    simp only [List.length_cons, List.length_nil] at hk ⊢
    obtain ⟨e3, e4⟩ := (Has.left h3).byte hL (by omega) (by omega)
    obtain ⟨e5, e6⟩ := (Has.right h3).text hL (by omega) (by simp; omega)
    simp only [List.length_cons, List.length_nil] at e5 e6
    unfold entR
    rw [eK, e3, if_pos rfl, e1, e4, e5, e6]
    refine Prod.ext rfl ?_
    show _ = p + (key.size + 1 + (f + (0 + 1 + (val.size + 1))))
    omega
  · rw [if_neg hne] at h3 hk ⊢
    rw [List.length_append, List.length_append, numB_len, numB_len] at hk ⊢
    simp only [List.length_cons, List.length_nil] at hk ⊢
    obtain ⟨e3, e4⟩ := (Has.left h3).byte hL (by omega) (by omega)
    have h4 := Has.right h3
    simp only [List.length_cons, List.length_nil] at h4
    obtain ⟨e5, e6⟩ := (Has.left h4).num hL (by omega) ho0 ho1
    have h5 := Has.right h4
    rw [numB_len] at h5
    obtain ⟨e7, e8⟩ := h5.num hL (by omega) hs0 hs1
    unfold entR
    rw [eK, e3, if_neg (by decide), e1, e4, e5, e6, e7, e8]
    refine Prod.ext rfl ?_
    show _ = p + (key.size + 1 + (f + (0 + 1 + (smallN false + smallN false))))
    omega
theorem entsR_has {L : List Int} (hL : L.length = 128) (k : Nat) (es : List PE) (hg : ∀ i, i < es.length → EntGood (es.getD i dE)) :
    ∀ n, n ≤ es.length → Has L k (entsB false (smallN false) es n) → k + (entsB false (smallN false) es n).length ≤ 128 → entsR L k n = (es.take n, k + (entsB false (smallN false) es n).length)
  | 0, _, _, _ => by simp [entsR, entsB]
  | n + 1, hn, h, hk => by
    have hl : (entsB false (smallN false) es (n + 1)).length = (entsB false (smallN false) es n).length + (entB false (smallN false) (es.getD n dE)).length := by simp [entsB]
    have ih := entsR_has hL k es hg n (by omega) (Has.left (y := entB false (smallN false) (es.getD n dE)) h) (by omega)
    have h2 : Has L (k + (entsB false (smallN false) es n).length) (entB false (smallN false) (es.getD n dE)) := Has.right h
    rw [entsR, ih, entR_has hL _ _ (hg n (by omega)) h2 (by omega), take_getD es dE (by omega), hl, Nat.add_assoc]
theorem sEnt_has {L : List Int} (p : Nat) (e : PE) (hg : EntGood e) (h : Has L p (entB false (smallN false) e)) : sEnt L (some p) = (some (p + (entB false (smallN false) e).length), e) := by
  obtain ⟨h8, hc⟩ := hg
  rw [entB_parts] at h ⊢
  obtain ⟨key, val, ov, sz⟩ := e
  simp only at h8 hc h ⊢
  have hs2 : 0 < smallN false := by decide
  have h1 : Has L p [(key.size : Int)] := Has.left (y := strB key) (Has.left h)
  have t1 := h1.sbyte
  have hh : Has L p ([(key.size : Int)] ++ ((strB key ++ fillB key) ++ (if ov = 0 then [0] ++ textB val else [1] ++ (numB false (smallN false) ov ++ numB false (smallN false) sz)))) := by
    have := h; rw [textB] at this; simpa using this
  have h2 := Has.right hh
  simp only [List.length_cons, List.length_nil, Nat.zero_add] at h2
  have hkl : (strB key ++ fillB key).length = key.size := by
    rw [List.length_append, strB_len]
    simp [fillB]
    try omega
  have h3 := Has.right h2
  have hne : (if ov = 0 then [0] ++ textB val else [1] ++ (numB false (smallN false) ov ++ numB false (smallN false) sz)) ≠ ([] : List Int) := by split <;> simp
  have hb3 := h3.len hne
  have t2 := (Has.left h2).sTake (by omega)
  rw [hkl] at t2 h3 hb3
  have ttk : (strB key ++ fillB key).take key.size = strB key := by rw [← strB_len, List.take_left]
  have hn8 : ¬ 8 < key.size := by omega
  have etot : (textB key ++ (fillB key ++ (if ov = 0 then [0] ++ textB val else [1] ++ (numB false (smallN false) ov ++ numB false (smallN false) sz)))).length = 1 + key.size + (if ov = 0 then [0] ++ textB val else [1] ++ (numB false (smallN false) ov ++ numB false (smallN false) sz)).length := by
    have hk2 := hkl
    rw [List.length_append, strB_len] at hk2
    rw [List.length_append, List.length_append, textB_len]
    omega
  rw [etot]
  rcases hc with ⟨rfl, rfl, hv8⟩ | ⟨hne2, ho0, ho1, rfl, hs0, hs1⟩
  · rw [if_pos rfl] at h3 hb3 ⊢
    rw [List.length_append, textB_len] at hb3 ⊢
    simp only [List.length_cons, List.length_nil] at hb3 ⊢
    have t3 := (Has.left h3).sbyte
    have h4 := Has.right h3
    simp only [List.length_cons, List.length_nil, Nat.zero_add] at h4
    have t4 := (Has.left (x := [(val.size : Int)]) (y := strB val) h4).sbyte
    have t5 := (Has.right (x := [(val.size : Int)]) (y := strB val) h4).sstr (by simp; omega)
    simp only [List.length_cons, List.length_nil, Nat.zero_add] at t5
    have z1 : ¬ (0 : Int) = 1 := by decide
    simp only [sEnt, t1, List.getD_cons_zero, Int.toNat_natCast, if_neg hn8, if_false, Bool.false_eq_true, t2, ttk, toB_strB, t3, if_neg z1, t4, t5]
    refine Prod.ext ?_ rfl
    show some _ = some _
    first | rfl | (congr 1; omega)
  · rw [if_neg hne2] at h3 hb3 ⊢
    rw [List.length_append, List.length_append, numB_len, numB_len] at hb3 ⊢
    simp only [List.length_cons, List.length_nil] at hb3 ⊢
    have t3 := (Has.left h3).sbyte
    have h4 := Has.right h3
    simp only [List.length_cons, List.length_nil, Nat.zero_add] at h4
    have t4 := (Has.left h4).snum hs2
    have h5 := Has.right h4
    rw [numB_len] at h5
    have t5 := h5.snum hs2
    simp only [sEnt, t1, List.getD_cons_zero, Int.toNat_natCast, if_neg hn8, if_true, if_false, Bool.false_eq_true, t2, ttk, toB_strB, t3, t4, t5, numOf_numB _ _ _ ho0 ho1, numOf_numB _ _ _ hs0 hs1]
    refine Prod.ext ?_ rfl
    show some _ = some _
    first | rfl | (congr 1; omega)
theorem sEnts_has {L : List Int} (es : List PE) (hg : ∀ i, i < es.length → EntGood (es.getD i dE)) :
    ∀ n, n ≤ es.length → Has L 0 (entsB false (smallN false) es n) → sEnts L n = (some (entsB false (smallN false) es n).length, es.take n)
  | 0, _, _ => by simp [sEnts, entsB]
  | n + 1, hn, h => by
    have hl : (entsB false (smallN false) es (n + 1)).length = (entsB false (smallN false) es n).length + (entB false (smallN false) (es.getD n dE)).length := by simp [entsB]
    have ih := sEnts_has es hg n (by omega) (Has.left (y := entB false (smallN false) (es.getD n dE)) h)
    have h2 : Has L (0 + (entsB false (smallN false) es n).length) (entB false (smallN false) (es.getD n dE)) := Has.right h
    rw [Nat.zero_add] at h2
    rw [sEnts, ih]
    simp only
    rw [sEnt_has _ _ (hg n (by omega)) h2, take_getD es dE (by omega), hl]
theorem sKids_has {L : List Int} (ks : List PK) (h0 : (ks.getD 0 dK).1 = ⟨#[]⟩) (hs : ∀ i, i < ks.length → 0 < i → (ks.getD i dK).1.size ≤ 8) (hp : ∀ i, i < ks.length → 0 ≤ (ks.getD i dK).2 ∧ (ks.getD i dK).2 < 256 ^ (smallN false)) :
    ∀ n, n ≤ ks.length → Has L 0 (kidsB false (smallN false) ks n) → sKids L n = (some (kidsB false (smallN false) ks n).length, ks.take n)
  | 0, _, _ => by simp [sKids, kidsB]
  | n + 1, hn, h => by
    have hs2 : 0 < smallN false := by decide
    have hl : (kidsB false (smallN false) ks (n + 1)).length = (kidsB false (smallN false) ks n).length + (kidB false (smallN false) n (ks.getD n dK)).length := by simp [kidsB]
    have ih := sKids_has ks h0 hs hp n (by omega) (Has.left (y := kidB false (smallN false) n (ks.getD n dK)) h)
    have h2 : Has L (0 + (kidsB false (smallN false) ks n).length) (kidB false (smallN false) n (ks.getD n dK)) := Has.right h
    rw [Nat.zero_add] at h2
    have hpn := hp n (by omega)
    rw [sKids, ih, take_getD ks dK (by omega)]
    generalize (kidsB false (smallN false) ks n).length = m at *
    by_cases hz : 0 < n
    · have ek : kidB false (smallN false) n (ks.getD n dK) = ([((ks.getD n dK).1.size : Int)] ++ strB (ks.getD n dK).1) ++ numB false (smallN false) (ks.getD n dK).2 := by simp [kidB, hz, textB]
      rw [ek] at h2 hl
      rw [List.length_append, List.length_append, strB_len, numB_len] at hl
      simp only [List.length_cons, List.length_nil] at hl
      have t1 := (Has.left (Has.left h2)).sbyte
      have h3 := Has.right h2
      rw [List.length_append, strB_len] at h3
      simp only [List.length_cons, List.length_nil, Nat.zero_add] at h3
      have hb := h3.len (by intro e; have := congrArg List.length e; rw [numB_len] at this; simp at this; omega)
      have hst := Has.right (Has.left h2)
      simp only [List.length_cons, List.length_nil, Nat.zero_add] at hst
      have t2 := hst.sstr (by omega)
      have t3 := h3.snum hs2
      have ea : m + 1 + (ks.getD n dK).1.size = m + (1 + (ks.getD n dK).1.size) := by omega
      simp only [sSep, if_pos hz, t1, List.getD_cons_zero, Int.toNat_natCast, t2, toB_strB, ea, t3, numOf_numB _ _ _ hpn.1 hpn.2]
      rw [hl]
      refine Prod.ext ?_ rfl
      show some _ = some _
      first | rfl | (congr 1; omega)
    · obtain rfl : n = 0 := by omega
      have ek : kidB false (smallN false) 0 (ks.getD 0 dK) = numB false (smallN false) (ks.getD 0 dK).2 := by simp [kidB]
      rw [ek] at h2 hl
      rw [numB_len] at hl
      have t3 := h2.snum hs2
      simp only [sSep, if_neg hz, t3, numOf_numB _ _ _ hpn.1 hpn.2]
      rw [hl]
      have ep : ((⟨#[]⟩ : ByteArray), (ks.getD 0 dK).2) = ks.getD 0 dK := Prod.ext h0.symm rfl
      rw [ep]
end New
end Go.Proofs.Ytcmhobbpeaeebaa
namespace Go.Proofs.Ytcmhobbpeaeebaa
namespace New
open Go.RowKit
set_option linter.unusedVariables false
set_option maxRecDepth 100000

theorem empty_of {s : ByteArray} (h : s.toList.isEmpty = true) : s = ⟨#[]⟩ := by
  rw [ByteArray.toList_eq] at h
  have h1 : s.data.toList = [] := List.isEmpty_iff.1 h
  exact ByteArray.ext (Array.ext' h1)
theorem small_of {x : Int} (h : 0 ≤ x ∧ x ≤ 999) : 0 ≤ x ∧ x < 256 ^ (smallN false) := by
  have : (65536 : Int) ≤ 256 ^ (smallN false) := by decide
  omega
theorem kids_good {low last : Int} {p : Pg} (hl : 0 ≤ low) (hh : last ≤ 999) (h : branchOk low last p = true) : (p.ks.getD 0 dK).1 = ⟨#[]⟩ ∧ (∀ i, i < p.ks.length → 0 ≤ (p.ks.getD i dK).2 ∧ (p.ks.getD i dK).2 < 256 ^ (smallN false)) := by
  simp only [branchOk, Bool.and_eq_true] at h
  refine ⟨empty_of h.1.2, fun i hi => ?_⟩
  have h2 := all_get h.2 hi
  simp only [kidOk, Bool.and_eq_true, inB, decide_eq_true_eq] at h2
  exact small_of (by omega)
theorem ents_good {low last : Int} {p : Pg} (hl : 1 ≤ low) (hh : last ≤ 999) (h : leafOk low last p = true) : ∀ i, i < p.es.length → EntGood (p.es.getD i dE) := by
  intro i hi
  have hs := leaf_sizes h
  simp only [leafOk, Bool.and_eq_true] at h
  have h2 := all_get h.2 hi
  simp only [entOk, Bool.and_eq_true, Bool.or_eq_true] at h2
  refine ⟨(hs.2 i hi).1, ?_⟩
  rcases h2.1.2 with h3 | h3
  · simp only [shortB, Bool.and_eq_true, decide_eq_true_eq] at h3
    exact .inl ⟨h3.1.1, h3.1.2, h3.2⟩
  · simp only [longB, Bool.and_eq_true, inB, decide_eq_true_eq] at h3
    have a := small_of (x := (p.es.getD i dE).2.2.1) (by omega)
    have b := small_of (x := (p.es.getD i dE).2.2.2) (by omega)
    exact .inr ⟨by omega, a.1, a.2, empty_of h3.1.2, b.1, b.2⟩
end New
end Go.Proofs.Ytcmhobbpeaeebaa
namespace Go.Proofs.Ytcmhobbpeaeebaa
namespace New
open Go.RowKit
set_option linter.unusedVariables false
set_option maxRecDepth 100000

theorem meta_has {L : List Int} (hL : L.length = 128) (k : Nat) (id root count : Int) (hi : 0 ≤ id ∧ id ≤ 2000000000) (hr : 0 ≤ root ∧ root ≤ 999) (hc : 0 ≤ count ∧ count ≤ 2000000000) (h : Has L k (numB false 4 id ++ numB false 4 root ++ numB false 4 count)) (hk : k + 12 ≤ 128) : mId L k = id ∧ mRoot L k = root ∧ mCount L k = count := by
  have h2 := Has.left h
  have h1 := Has.left h2
  have q3 := Has.right h
  have q2 := Has.right h2
  rw [numB_len] at q2
  rw [List.length_append, numB_len, numB_len] at q3
  obtain ⟨a1, b1⟩ := h1.num hL (by omega) (by omega) (by have hp : (256 : Int) ^ 4 = 4294967296 := (by decide); omega)
  obtain ⟨a2, b2⟩ := q2.num hL (by omega) (by omega) (by have hp : (256 : Int) ^ 4 = 4294967296 := (by decide); omega)
  obtain ⟨a3, b3⟩ := q3.num hL (by omega) (by omega) (by have hp : (256 : Int) ^ 4 = 4294967296 := (by decide); omega)
  refine ⟨a1, ?_, ?_⟩
  · show rN L (adv k 4) 4 = root
    rw [b1]; exact a2
  · show rN L (adv (adv k 4) 4) 4 = count
    rw [b1, b2, Nat.add_assoc]; exact a3
theorem smeta_has {L : List Int} (id root count : Int) (hi : 0 ≤ id ∧ id ≤ 2000000000) (hr : 0 ≤ root ∧ root ≤ 999) (hc : 0 ≤ count ∧ count ≤ 2000000000) (h : Has L 0 (numB false 4 id ++ numB false 4 root ++ numB false 4 count)) : sMeta L = (some 12, id, root, count) := by
  have hl : (numB false 4 id ++ numB false 4 root ++ numB false 4 count).length = 12 := by simp [numB_len]
  have ht := h.sTake (h.len (by intro e; rw [e] at hl; simp at hl))
  rw [hl] at ht
  simp only [Nat.zero_add] at ht
  have hself : Has (numB false 4 id ++ numB false 4 root ++ numB false 4 count) 0 (numB false 4 id ++ numB false 4 root ++ numB false 4 count) := ⟨[], by simp⟩
  have pid : ((numB false 4 id ++ numB false 4 root ++ numB false 4 count).drop 0).take 4 = numB false 4 id := by
    have q := (Has.left (Has.left hself)).take
    rw [numB_len] at q
    exact q
  have vid : numOf false (numB false 4 id) = id := numOf_numB _ _ _ (by omega) (by have hp : (256 : Int) ^ 4 = 4294967296 := (by decide); omega)
  have proot : ((numB false 4 id ++ numB false 4 root ++ numB false 4 count).drop 4).take 4 = numB false 4 root := by
    have q := (Has.right (Has.left hself)).take
    rw [numB_len, numB_len, Nat.zero_add] at q
    exact q
  have vroot : numOf false (numB false 4 root) = root := numOf_numB _ _ _ (by omega) (by have hp : (256 : Int) ^ 4 = 4294967296 := (by decide); omega)
  have pcount : ((numB false 4 id ++ numB false 4 root ++ numB false 4 count).drop 8).take 4 = numB false 4 count := by
    have q := (Has.right hself).take
    rw [List.length_append, numB_len, numB_len, numB_len, Nat.zero_add] at q
    exact q
  have vcount : numOf false (numB false 4 count) = count := numOf_numB _ _ _ (by omega) (by have hp : (256 : Int) ^ 4 = 4294967296 := (by decide); omega)
  simp only [sMeta, ht, pid, proot, pcount, vid, vroot, vcount]
end New
end Go.Proofs.Ytcmhobbpeaeebaa
namespace Go.Proofs.Ytcmhobbpeaeebaa
namespace New
open Go.RowKit
set_option linter.unusedVariables false
set_option maxRecDepth 100000

theorem over_has {L : List Int} (hL : L.length = 128) (k : Nat) (next : Int) (data : ByteArray) (hn : 0 ≤ next ∧ next ≤ 999) (hd : data.size ≤ 96) (h : Has L k (numB false (smallN false) next ++ textB data)) (hk : k + smallN false + 1 + data.size ≤ 128) : oNext L k = next ∧ oData L k = data := by
  have hs := small_of hn
  obtain ⟨a1, b1⟩ := (Has.left h).num hL (by omega) hs.1 hs.2
  have h2 := Has.right h
  rw [numB_len] at h2
  obtain ⟨a2, b2⟩ := h2.text hL (by omega) (by omega)
  exact ⟨a1, by rw [oData, b1]; exact a2⟩
theorem sover_has {L : List Int} (next : Int) (data : ByteArray) (hn : 0 ≤ next ∧ next ≤ 999) (h : Has L 0 (numB false (smallN false) next ++ textB data)) : sOver L = (some (smallN false + 1 + data.size), next, data) := by
  have hs := small_of hn
  have hs2 : 0 < smallN false := by decide
  have hlen := h.len (by simp [textB])
  rw [List.length_append, numB_len, textB_len] at hlen
  have t1 := (Has.left h).snum hs2
  have h2 := Has.right h
  rw [numB_len] at h2
  simp only [Nat.zero_add] at t1 h2 hlen
  have t2 := (Has.left (x := [(data.size : Int)]) (y := strB data) h2).sbyte
  have h3 := Has.right (x := [(data.size : Int)]) (y := strB data) h2
  simp only [List.length_cons, List.length_nil, Nat.zero_add] at h3
  have t3 := h3.sstr (by omega)
  simp only [sOver, t1, t2, List.getD_cons_zero, Int.toNat_natCast, t3, toB_strB, numOf_numB _ _ _ hs.1 hs.2]
theorem meta_of {L : List Int} {k : Nat} {p : Pg} (h : Has L k (metaB false p)) : Has L k (numB false 4 p.id ++ numB false 4 p.root ++ numB false 4 p.count) := Has.left h
theorem meta_len (p : Pg) : 12 ≤ (metaB false p).length := by simp [metaB, leB_len]
/-- A good page is read back from its body. -/
theorem page_has {low last : Int} {p : Pg} (hl : 1 ≤ low) (hh : last ≤ 999) (hok : bodyOk low last p = true) {L : List Int} (hL : L.length = 128) (k : Nat) (h : Has L k (bodyB false p)) (hk : k + (bodyB false p).length ≤ 128) : readP L k p.kind (p.ks.length + p.es.length) = { p with tx := 0 } := by
  obtain ⟨kind, tx, id, root, count, ks, es, next, data⟩ := p
  unfold bodyOk at hok
  unfold bodyB at h hk
  unfold readP
  simp only at hok h hk ⊢
  by_cases h1 : kind = 1
  · subst h1
    simp only [if_true] at hok h hk ⊢
    simp only [metaOk, Bool.and_eq_true, inB, decide_eq_true_eq] at hok
    obtain ⟨⟨⟨⟨⟨⟨o1, o2⟩, o3⟩, o4⟩, o5⟩, o6⟩, o7⟩ := hok
    have e7 := empty_of o7
    have e4 := List.eq_nil_of_length_eq_zero o4
    have e5 := List.eq_nil_of_length_eq_zero o5
    subst e7 e4 e5 o6
    have hml := meta_len ⟨1, tx, id, root, count, [], [], 0, ⟨#[]⟩⟩
    obtain ⟨m1, m2, m3⟩ := meta_has hL k id root count (by omega) (by omega) (by omega) (meta_of h) (by omega)
    rw [m1, m2, m3]
  by_cases h2 : kind = 2
  · subst h2
    rw [if_neg (by decide), if_pos rfl] at hok h hk ⊢
    have hsz := branch_sizes hok
    have hgd := kids_good (by omega) hh hok
    simp only [branchOk, noMeta, Bool.and_eq_true, decide_eq_true_eq] at hok
    obtain ⟨⟨⟨⟨⟨⟨⟨o1, o2⟩, o3⟩, o4⟩, _⟩, _⟩, _⟩, _⟩ := hok
    obtain ⟨rfl, rfl, rfl⟩ := o1
    have e4 := empty_of o4
    have e2 := List.eq_nil_of_length_eq_zero o2
    simp only at e4 e2 o3 hsz hgd
    subst e4 e2 o3
    have hkr := kidsR_has hL k ks hgd.1 hsz.2 hgd.2 ks.length (Nat.le_refl _) h hk
    simp only [List.length_nil, Nat.add_zero, hkr, List.take_length]
  by_cases h3 : kind = 3
  · subst h3
    rw [if_neg (by decide), if_neg (by decide), if_pos rfl] at hok h hk ⊢
    have hgd := ents_good hl hh hok
    simp only [leafOk, noMeta, Bool.and_eq_true, decide_eq_true_eq] at hok
    obtain ⟨⟨⟨⟨⟨o1, o2⟩, o3⟩, o4⟩, _⟩, _⟩ := hok
    obtain ⟨rfl, rfl, rfl⟩ := o1
    have e4 := empty_of o4
    have e2 := List.eq_nil_of_length_eq_zero o2
    simp only at e4 e2 o3 hgd
    subst e4 e2 o3
    have hkr := entsR_has hL k es hgd es.length (Nat.le_refl _) h hk
    simp only [List.length_nil, Nat.zero_add, hkr, List.take_length]
  by_cases h4 : kind = 4
  · subst h4
    rw [if_neg (by decide), if_neg (by decide), if_neg (by decide), if_pos rfl] at hok h hk ⊢
    simp only [overOk, noMeta, Bool.and_eq_true, Bool.or_eq_true, inB, decide_eq_true_eq] at hok
    obtain ⟨⟨⟨⟨⟨o1, o2⟩, o3⟩, _⟩, o5⟩, o6⟩ := hok
    obtain ⟨rfl, rfl, rfl⟩ := o1
    have e2 := List.eq_nil_of_length_eq_zero o2
    have e3 := List.eq_nil_of_length_eq_zero o3
    subst e2 e3
    rw [List.length_append, numB_len, textB_len] at hk
    obtain ⟨a1, a2⟩ := over_has hL k next data (by omega) o5 h (by have hw : smallW false = smallN false := rfl; omega)
    rw [a1, a2]
  · rw [if_neg h1, if_neg h2, if_neg h3, if_neg h4] at hok
    cases hok
/-- A good page is read back by the specification. -/
theorem spage_has {low last : Int} {p : Pg} (hl : 1 ≤ low) (hh : last ≤ 999) (hok : bodyOk low last p = true) {L : List Int} (h : Has L 0 (bodyB false p)) : sRead L p.kind (p.ks.length + p.es.length) = ({ p with tx := 0 }, true) := by
  obtain ⟨kind, tx, id, root, count, ks, es, next, data⟩ := p
  unfold bodyOk at hok
  unfold bodyB at h
  unfold sRead
  simp only at hok h ⊢
  by_cases h1 : kind = 1
  · subst h1
    simp only [if_true] at hok h ⊢
    simp only [metaOk, Bool.and_eq_true, inB, decide_eq_true_eq] at hok
    obtain ⟨⟨⟨⟨⟨⟨o1, o2⟩, o3⟩, o4⟩, o5⟩, o6⟩, o7⟩ := hok
    have e7 := empty_of o7
    have e4 := List.eq_nil_of_length_eq_zero o4
    have e5 := List.eq_nil_of_length_eq_zero o5
    subst e7 e4 e5 o6
    rw [smeta_has id root count (by omega) (by omega) (by omega) (meta_of h)]
    rfl
  by_cases h2 : kind = 2
  · subst h2
    rw [if_neg (by decide), if_pos rfl] at hok h ⊢
    have hsz := branch_sizes hok
    have hgd := kids_good (by omega) hh hok
    simp only [branchOk, noMeta, Bool.and_eq_true, decide_eq_true_eq] at hok
    obtain ⟨⟨⟨⟨⟨⟨⟨o1, o2⟩, o3⟩, o4⟩, _⟩, _⟩, _⟩, _⟩ := hok
    obtain ⟨rfl, rfl, rfl⟩ := o1
    have e4 := empty_of o4
    have e2 := List.eq_nil_of_length_eq_zero o2
    simp only at e4 e2 o3 hsz hgd
    subst e4 e2 o3
    have hkr := sKids_has ks hgd.1 hsz.2 hgd.2 ks.length (Nat.le_refl _) h
    simp only [List.length_nil, Nat.add_zero, hkr, List.take_length, Option.isSome_some]
  by_cases h3 : kind = 3
  · subst h3
    rw [if_neg (by decide), if_neg (by decide), if_pos rfl] at hok h ⊢
    have hgd := ents_good hl hh hok
    simp only [leafOk, noMeta, Bool.and_eq_true, decide_eq_true_eq] at hok
    obtain ⟨⟨⟨⟨⟨o1, o2⟩, o3⟩, o4⟩, _⟩, _⟩ := hok
    obtain ⟨rfl, rfl, rfl⟩ := o1
    have e4 := empty_of o4
    have e2 := List.eq_nil_of_length_eq_zero o2
    simp only at e4 e2 o3 hgd
    subst e4 e2 o3
    have hkr := sEnts_has es hgd es.length (Nat.le_refl _) h
    simp only [List.length_nil, Nat.zero_add, hkr, List.take_length, Option.isSome_some]
  by_cases h4 : kind = 4
  · subst h4
    rw [if_neg (by decide), if_neg (by decide), if_neg (by decide), if_pos rfl] at hok h ⊢
    simp only [overOk, noMeta, Bool.and_eq_true, Bool.or_eq_true, inB, decide_eq_true_eq] at hok
    obtain ⟨⟨⟨⟨⟨o1, o2⟩, o3⟩, _⟩, o5⟩, o6⟩ := hok
    obtain ⟨rfl, rfl, rfl⟩ := o1
    have e2 := List.eq_nil_of_length_eq_zero o2
    have e3 := List.eq_nil_of_length_eq_zero o3
    subst e2 e3
    rw [sover_has next data (by omega) h]
    rfl
  · rw [if_neg h1, if_neg h2, if_neg h3, if_neg h4] at hok
    cases hok
end New
end Go.Proofs.Ytcmhobbpeaeebaa
namespace Go.Proofs.Ytcmhobbpeaeebaa
namespace New
open Go.RowKit
set_option linter.unusedVariables false
set_option maxRecDepth 100000

theorem i64_small {x : Int} (h : 0 ≤ x ∧ x < 4294967296) : I64 x := by unfold I64; omega
theorem kidsR_fit {w : World} {C g o c A B : Nat} {bs : List Int} {k : Nat} (h : RAt w C g o c A B bs k) (j : Nat) : ∀ n, ∀ x ∈ (kidsR bs j n).1, kidFit x
  | 0 => by intro x hx; simp [kidsR] at hx
  | n + 1 => by
    intro x hx
    rw [kidsR] at hx
    rcases List.mem_append.1 hx with hx | hx
    · exact kidsR_fit h j n x hx
    · simp only [List.mem_singleton] at hx
      subst hx
      refine ⟨?_, i64_small (rN_small h _ _ (by decide))⟩
      show (kSep bs n (kidsR bs j n).2).size ≤ maxLen
      unfold kSep maxLen
      split
      · have := tStr_size h (kidsR bs j n).2; omega
      · decide
theorem z64 : I64 0 := by unfold I64; decide
theorem entFit_mk {s t : ByteArray} {x y : Int} (h1 : s.size ≤ maxLen) (h2 : t.size ≤ maxLen) (h3 : I64 x) (h4 : I64 y) : entFit (s, t, x, y) := ⟨h1, h2, h3, h4⟩
theorem entR_fit {w : World} {C g o c A B : Nat} {bs : List Int} {k : Nat} (h : RAt w C g o c A B bs k) (p : Nat) : entFit (entR bs p).1 := by
  have h1 := tStr_size h p
  have h2 := tStr_size h (adv (kEnd bs p) 1)
  have m1 : (tStr bs p).size ≤ maxLen := by unfold maxLen; omega
  have m2 : (tStr bs (adv (kEnd bs p) 1)).size ≤ maxLen := by unfold maxLen; omega
  have m0 : (⟨#[]⟩ : ByteArray).size ≤ maxLen := Nat.zero_le _
  have r1 := i64_small (rN_small h (adv (kEnd bs p) 1) (smallN false) (by decide))
  have r2 := i64_small (rN_small h (adv (adv (kEnd bs p) 1) (smallN false)) (smallN false) (by decide))
  have r3 : I64 ((tStr bs (adv (kEnd bs p) 1)).size : Int) := by unfold I64; omega
  unfold entR
  generalize rN bs (adv (kEnd bs p) 1) (smallN false) = x1 at r1 ⊢
  generalize rN bs (adv (adv (kEnd bs p) 1) (smallN false)) (smallN false) = x2 at r2 ⊢
  by_cases hz : rN bs (kEnd bs p) 1 = 0
  · rw [if_pos hz]
    exact entFit_mk m1 m2 z64 r3
  · rw [if_neg hz]
    exact entFit_mk m1 m0 r1 r2
theorem entsR_fit {w : World} {C g o c A B : Nat} {bs : List Int} {k : Nat} (h : RAt w C g o c A B bs k) (j : Nat) : ∀ n, ∀ x ∈ (entsR bs j n).1, entFit x
  | 0 => by intro x hx; simp [entsR] at hx
  | n + 1 => by
    intro x hx
    rw [entsR] at hx
    rcases List.mem_append.1 hx with hx | hx
    · exact entsR_fit h j n x hx
    · simp only [List.mem_singleton] at hx
      subst hx
      exact entR_fit h _
theorem s64 (x : Int) (h : 0 ≤ x ∧ x ≤ 4) : I64 x := by unfold I64; omega
theorem readP_fit {w : World} {C g o c A B : Nat} {bs : List Int} {k : Nat} (h : RAt w C g o c A B bs k) (j : Nat) (kind : Int) (n : Nat) : PgFit (readP bs j kind n) ∧ (∀ x ∈ (readP bs j kind n).ks, kidFit x) ∧ (∀ x ∈ (readP bs j kind n).es, entFit x) := by
  have e0 : (⟨#[]⟩ : ByteArray).size ≤ maxLen := Nat.zero_le _
  unfold readP
  split
  · exact ⟨⟨s64 1 (by decide), z64, i64_small (rN_small h _ _ (by decide)), i64_small (rN_small h _ _ (by decide)), i64_small (rN_small h _ _ (by decide)), z64, e0⟩, (by intro x hx; cases hx), (by intro x hx; cases hx)⟩
  · split
    · exact ⟨⟨s64 2 (by decide), z64, z64, z64, z64, z64, e0⟩, kidsR_fit h j n, (by intro x hx; cases hx)⟩
    · split
      · exact ⟨⟨s64 3 (by decide), z64, z64, z64, z64, z64, e0⟩, (by intro x hx; cases hx), entsR_fit h j n⟩
      · split
        · exact ⟨⟨s64 4 (by decide), z64, z64, z64, z64, i64_small (rN_small h _ _ (by decide)), by have := tStr_size h (adv j (smallN false)); unfold maxLen; show (oData bs j).size ≤ _; unfold oData; omega⟩, (by intro x hx; cases hx), (by intro x hx; cases hx)⟩
        · exact ⟨⟨s64 0 (by decide), z64, z64, z64, z64, z64, e0⟩, (by intro x hx; cases hx), (by intro x hx; cases hx)⟩
theorem getD_fit {α : Type} {P : α → Prop} {l : List α} (h : ∀ x ∈ l, P x) (d : α) : ∀ i, i < l.length → P (l.getD i d) := by
  intro i hi
  rw [show l.getD i d = l[i] by simp [List.getD, hi]]
  exact h _ (List.getElem_mem hi)
end New
end Go.Proofs.Ytcmhobbpeaeebaa
namespace Go.Proofs.Ytcmhobbpeaeebaa
namespace New
open Go.RowKit
set_option linter.unusedVariables false
set_option maxRecDepth 100000

theorem newCursorR (g o c : Nat) (w : World) :
    Calls Try.prog 46 #[.slice (some ⟨g, o, none⟩) 128 c] w fun e w' => e = .returned (.pointer (some ⟨w.heap.size, 0, none⟩)) ∧ RCur w' w.heap.size g o c false 79 80 0 ∧ Below w.heap.size w w' := by
  go_enter Try.func46, Try.ntmps46
  go_wp2
  go_ret
  exact ⟨rfl, ⟨heap_alloc_new w _⟩, (Below.refl _ _).alloc (Nat.le_refl _) _⟩
/-- The page that a code may be the code of. -/
def decP (bs : List Int) : Pg := { readP bs 8 (rN bs 4 1) (rN bs 5 1).toNat with tx := rN bs 0 4 }
set_option maxHeartbeats 1600000 in
theorem decode_any (g o c : Nat) (bs : List Int) (w : World) (A B : Nat) (hB : B ≤ w.heap.size) (hb : BytesAt w A B (some ⟨g, o, none⟩) 128 c bs) :
    Calls Try.prog 10 #[.slice (some ⟨g, o, none⟩) 128 c] w fun e w' => ∃ vk ve, e = .returned (resVal (decide (newCodeOf (decP bs) = bs)) (decP bs) vk ve) ∧ w'.ownsRow w.heap.size 100 2 vk (decP bs).ks.length (rowsOf kidCells (decP bs).ks) ∧ w'.ownsRow w.heap.size 102 4 ve (decP bs).es.length (rowsOf entCells (decP bs).es) ∧ (vk = .slice none 0 0 ∨ ve = .slice none 0 0) ∧ Below w.heap.size w w' := by
  go_enter Try.func10, Try.ntmps10
  go_wp2_with fail
  have hb0 : Below w.heap.size w (w.alloc (.cells #[.bool false, .int .i64 0, .int .i64 0, .int .i64 0, .int .i64 0, .int .i64 0, .slice none 0 0, .slice none 0 0, .int .i64 0, .string ⟨#[]⟩] 32)) := (Below.refl _ _).alloc (Nat.le_refl _) _
  have HR0 := heap_alloc_new w (.cells #[.bool false, .int .i64 0, .int .i64 0, .int .i64 0, .int .i64 0, .int .i64 0, .slice none 0 0, .slice none 0 0, .int .i64 0, .string ⟨#[]⟩] 32)
  generalize w.alloc (.cells #[.bool false, .int .i64 0, .int .i64 0, .int .i64 0, .int .i64 0, .int .i64 0, .slice none 0 0, .slice none 0 0, .int .i64 0, .string ⟨#[]⟩] 32) = W0 at hb0 HR0 ⊢
  have hN0 := (Array.getElem?_eq_some_iff.1 HR0).1
  refine (newCursorR g o c W0).mono ?_
  rintro e w1 ⟨rfl, hC1, hb1⟩
  have HR1 := eb_call HR0 hb1
  have hbw1 := hb0.trans (hb1.mono hb0.size)
  have hby1 := hb.below (hbw1.mono hB)
  have hWC : w.heap.size < W0.heap.size := hN0
  have hC1l := (Array.getElem?_eq_some_iff.1 hC1.box).1
  have hA1 : RAt w1 W0.heap.size g o c A B bs 0 := ⟨hC1, hby1, by have := hb0.size; omega, Nat.le_trans hB hbw1.size, by omega⟩
  clear HR0 hb0 hb1 hC1 hby1 hN0
  generalize W0.heap.size = C at hWC hC1l hA1 ⊢
  obtain ⟨c0, c1, c2, c3, c4⟩ := hA1.cur.cells
  go_wp2_with fail
  have hkc := rN_one hA1 5
  have HDP : Hid (decP bs = { readP bs 8 (rN bs 4 1) (rN bs 5 1).toNat with tx := rN bs 0 4 }) := rfl
  have hft := readP_fit hA1 8 (rN bs 4 1) (rN bs 5 1).toNat
  have htx := i64_small (rN_small hA1 0 4 (by omega))
  obtain ⟨n, hnn⟩ : ∃ n : Nat, rN bs 5 1 = (n : Int) := ⟨(rN bs 5 1).toNat, by omega⟩
  have hn : n ≤ 255 := by omega
  go_region_held3 (fun w' => w'.cell? ⟨C, 4, none⟩ = some (.func (.func 80) #[.pointer (some ⟨C, 0, none⟩)] #[])) (go_keep)
    (first
      | (go_at_call 80; refine (Get C g o c A B bs 5 1 (by omega) w3 hA3).mono ?_; rintro e w4 ⟨rfl, hM4⟩; have hA4 : RAt w4 C g o c A B bs 6 := hA3.mv hM4 (by decide); have hF4 := hF3.trans hM4.2; obtain ⟨_, _, _, _, q4⟩ := hA4.cur.cells)
      | (go_at_call 80; refine (Get C g o c A B bs 4 1 (by omega) w2 hA2).mono ?_; rintro e w3 ⟨rfl, hM3⟩; have hA3 : RAt w3 C g o c A B bs 5 := hA2.mv hM3 (by decide); have hF3 := hF2.trans hM3.2; obtain ⟨_, _, _, _, q4⟩ := hA3.cur.cells)
      | (go_at_call 80; refine (Get C g o c A B bs 0 4 (by omega) w1.drew hA1.drew).mono ?_; rintro e w2 ⟨rfl, hM2⟩; have hA2 : RAt w2 C g o c A B bs 4 := hA1.drew.mv hM2 (by decide); have hF2 : Fr (fun x => x = C) w1 w2 := hM2.redraw.2; obtain ⟨_, _, _, _, q4⟩ := hA2.cur.cells))
  have HR4 := (hF4.block w.heap.size (by have := (Array.getElem?_eq_some_iff.1 HR1).1; omega) (by omega)).trans HR1
  have hbw4 := hbw1.trans (hF4.below hbw1.size (fun g e => by omega))
  rw [hnn, Int.toNat_natCast] at HDP hft
  clear hnn
  generalize rN bs 4 1 = kd at HDP hft ⊢
  generalize rN bs 0 4 = tx at HDP htx ⊢
  clear hM2 hM3 hM4 hA1 hA2 hA3 hF2 hF3 hF4 HR1 hbw1 c0 c1 c2 c3 c4 hkc
  obtain ⟨c0, c1, c2, c3, c4⟩ := hA4.cur.cells
  go_wp2_with fail
  refine (Get C g o c A B bs 6 2 (by omega) w4 hA4).mono ?_
  rintro e w5 ⟨rfl, hM5⟩
  have hA5 : RAt w5 C g o c A B bs 8 := hA4.mv hM5 (by decide)
  have HR5 := (hM5.2.block w.heap.size (by have := (Array.getElem?_eq_some_iff.1 HR4).1; omega) (by omega)).trans HR4
  have hbw5 := hbw4.trans (hM5.2.below hbw4.size (fun g e => by omega))
  clear hM5 hA4 HR4 hbw4 c0 c1 c2 c3 c4
  go_wp2_with fail
  refine (readBody_any C g o c A B bs 8 kd n hn w5 hA5).mono ?_
  rintro e w6 ⟨v6, rfl, ⟨vk, ve, rfl, hOk, hOe, hor⟩, hF6⟩
  have HR6 := (hF6.block w.heap.size (by have := (Array.getElem?_eq_some_iff.1 HR5).1; omega) (by omega)).trans HR5
  have hbw6 := hbw5.trans (hF6.below hbw5.size (fun g e => by omega))
  have hby6 := hb.below (hbw6.mono hB)
  obtain ⟨hfp, hfk, hfe⟩ := hft
  have HDP2 : Hid (decP bs = { readP bs 8 kd n with tx := tx }) := HDP
  have HW5 := (Array.getElem?_eq_some_iff.1 HR5).1
  clear HDP HR5 hA5 hF6 hb
  have hfp' : PgFit { readP bs 8 kd n with tx := tx } := ⟨hfp.kind, htx, hfp.id, hfp.root, hfp.count, hfp.next, hfp.data⟩
  generalize hq : readP bs 8 kd n = q at hOk hOe hfp hfk hfe hfp' HDP2 ⊢
  clear hq
  obtain ⟨vka, vkc, rfl⟩ := own_shape hOk
  obtain ⟨vea, vec, rfl⟩ := own_shape hOe
  go_wp2_with fail
  have hb7 : Below w6.heap.size w6 (w6.alloc (.cells #[.int .i64 q.kind, .int .i64 tx, .int .i64 q.id, .int .i64 q.root, .int .i64 q.count, .slice vka q.ks.length vkc, .slice vea q.es.length vec, .int .i64 q.next, .string q.data] 28)) := (Below.refl _ _).alloc (Nat.le_refl _) _
  generalize w6.alloc (.cells #[.int .i64 q.kind, .int .i64 tx, .int .i64 q.id, .int .i64 q.root, .int .i64 q.count, .slice vka q.ks.length vkc, .slice vea q.es.length vec, .int .i64 q.next, .string q.data] 28) = w7 at hb7 ⊢
  have hbw7 := hbw6.trans (hb7.mono hbw6.size)
  have hOk7 := owns_below hOk hb7
  have hOe7 := owns_below hOe hb7
  obtain ⟨_, _, e2, hK7⟩ := RowsAt.of_owns kc2 hOk7 rfl (getD_fit hfk dK)
  cases e2
  obtain ⟨_, _, e2, hE7⟩ := RowsAt.of_owns ec4 hOe7 rfl (getD_fit hfe dE)
  cases e2
  have hby7 := hby6.below (hb7.mono (Nat.le_trans hB hbw6.size))
  have HR7 := eb_call HR6 hb7
  refine (coded_any { q with tx := tx } hfp' vka vkc vea vec (some ⟨g, o, none⟩) c bs w7 _ _ A B (Nat.le_refl _) (Nat.le_trans hB hbw7.size) hK7 hE7 hby7).mono ?_
  rintro e w8 ⟨rfl, hb8⟩
  have hbw8 := hbw7.trans (hb8.mono hbw7.size)
  have HR8 := eb_call HR7 hb8
  have hOk8 := owns_below hOk7 hb8
  have hOe8 := owns_below hOe7 hb8
  have hs5 := hbw5.size
  have hW5 : w.heap.size < w5.heap.size := HW5
  clear HR6 HR7 hby6 hby7 hK7 hE7 hb7 hb8 hOk hOe hOk7 hOe7 hbw6 hbw7
  by_cases hd : newCodeOf { q with tx := tx } = bs
  · have hdec : decide (newCodeOf { q with tx := tx } = bs) = true := by simpa using hd
    rw [hdec]
    simp only [resVal, if_true]
    have HB10 := put10_box HR8 (.bool true) (.int .i64 q.kind) (.int .i64 tx) (.int .i64 q.id) (.int .i64 q.root) (.int .i64 q.count) (.slice vka q.ks.length vkc) (.slice vea q.es.length vec) (.int .i64 q.next) (.string q.data)
    have hb9 : Below w.heap.size w (put10 w8 w.heap.size (.bool true) (.int .i64 q.kind) (.int .i64 tx) (.int .i64 q.id) (.int .i64 q.root) (.int .i64 q.count) (.slice vka q.ks.length vkc) (.slice vea q.es.length vec) (.int .i64 q.next) (.string q.data)) := hbw8.trans ((put10_fr w8 w.heap.size (.bool true) (.int .i64 q.kind) (.int .i64 tx) (.int .i64 q.id) (.int .i64 q.root) (.int .i64 q.count) (.slice vka q.ks.length vkc) (.slice vea q.es.length vec) (.int .i64 q.next) (.string q.data)).below hbw8.size (fun g e => by omega))
    have f8 := box_frozenq HR8
    obtain ⟨d0, d1, d2, d3, d4, d5, d6, d7, d8, d9⟩ := box_ten HR8
    have hOk9 := owns_base (base' := w.heap.size) (owns_fr hOk8 (put10_fr w8 w.heap.size (.bool true) (.int .i64 q.kind) (.int .i64 tx) (.int .i64 q.id) (.int .i64 q.root) (.int .i64 q.count) (.slice vka q.ks.length vkc) (.slice vea q.es.length vec) (.int .i64 q.next) (.string q.data)) (fun g' e e' => by have := (hOk8.lt g' e).1; omega)) (by omega)
    have hOe9 := owns_base (base' := w.heap.size) (owns_fr hOe8 (put10_fr w8 w.heap.size (.bool true) (.int .i64 q.kind) (.int .i64 tx) (.int .i64 q.id) (.int .i64 q.root) (.int .i64 q.count) (.slice vka q.ks.length vkc) (.slice vea q.es.length vec) (.int .i64 q.next) (.string q.data)) (fun g' e e' => by have := (hOe8.lt g' e).1; omega)) (by omega)
    go_wp2
    show bodyPost _ _ _ _ _ (put10 w8 w.heap.size (.bool true) (.int .i64 q.kind) (.int .i64 tx) (.int .i64 q.id) (.int .i64 q.root) (.int .i64 q.count) (.slice vka q.ks.length vkc) (.slice vea q.es.length vec) (.int .i64 q.next) (.string q.data))
    clear d0 d1 d2 d3 d4 d5 d6 d7 d8 d9
    obtain ⟨d0, d1, d2, d3, d4, d5, d6, d7, d8, d9⟩ := box_ten HB10
    refine bodyPost_ret (v := .agg #[.bool true, .int .i64 q.kind, .int .i64 tx, .int .i64 q.id, .int .i64 q.root, .int .i64 q.count, .slice vka q.ks.length vkc, .slice vea q.es.length vec, .int .i64 q.next, .string q.data]) (by simp [results, Try.results10, go_sem, d0, d1, d2, d3, d4, d5, d6, d7, d8, d9]) rfl ?_
    rw [HDP2.out]
    exact ⟨.slice vka q.ks.length vkc, .slice vea q.es.length vec, by rw [hdec]; rfl, hOk9, hOe9, hor, hb9⟩
  · have hdec : decide (newCodeOf { q with tx := tx } = bs) = false := by simpa using hd
    rw [hdec]
    simp only [resVal, Bool.false_eq_true, if_false]
    have HB10 := put10_box HR8 (.bool false) (.int .i64 0) (.int .i64 0) (.int .i64 0) (.int .i64 0) (.int .i64 0) (.slice none 0 0) (.slice none 0 0) (.int .i64 0) (.string ⟨#[]⟩)
    have hb9 : Below w.heap.size w (put10 w8 w.heap.size (.bool false) (.int .i64 0) (.int .i64 0) (.int .i64 0) (.int .i64 0) (.int .i64 0) (.slice none 0 0) (.slice none 0 0) (.int .i64 0) (.string ⟨#[]⟩)) := hbw8.trans ((put10_fr w8 w.heap.size (.bool false) (.int .i64 0) (.int .i64 0) (.int .i64 0) (.int .i64 0) (.int .i64 0) (.slice none 0 0) (.slice none 0 0) (.int .i64 0) (.string ⟨#[]⟩)).below hbw8.size (fun g e => by omega))
    have f8 := box_frozenq HR8
    obtain ⟨d0, d1, d2, d3, d4, d5, d6, d7, d8, d9⟩ := box_ten HR8
    have hOk9 := owns_base (base' := w.heap.size) (owns_fr hOk8 (put10_fr w8 w.heap.size (.bool false) (.int .i64 0) (.int .i64 0) (.int .i64 0) (.int .i64 0) (.int .i64 0) (.slice none 0 0) (.slice none 0 0) (.int .i64 0) (.string ⟨#[]⟩)) (fun g' e e' => by have := (hOk8.lt g' e).1; omega)) (by omega)
    have hOe9 := owns_base (base' := w.heap.size) (owns_fr hOe8 (put10_fr w8 w.heap.size (.bool false) (.int .i64 0) (.int .i64 0) (.int .i64 0) (.int .i64 0) (.int .i64 0) (.slice none 0 0) (.slice none 0 0) (.int .i64 0) (.string ⟨#[]⟩)) (fun g' e e' => by have := (hOe8.lt g' e).1; omega)) (by omega)
    go_wp2
    show bodyPost _ _ _ _ _ (put10 w8 w.heap.size (.bool false) (.int .i64 0) (.int .i64 0) (.int .i64 0) (.int .i64 0) (.int .i64 0) (.slice none 0 0) (.slice none 0 0) (.int .i64 0) (.string ⟨#[]⟩))
    clear d0 d1 d2 d3 d4 d5 d6 d7 d8 d9
    obtain ⟨d0, d1, d2, d3, d4, d5, d6, d7, d8, d9⟩ := box_ten HB10
    refine bodyPost_ret (v := .agg #[.bool false, .int .i64 0, .int .i64 0, .int .i64 0, .int .i64 0, .int .i64 0, .slice none 0 0, .slice none 0 0, .int .i64 0, .string ⟨#[]⟩]) (by simp [results, Try.results10, go_sem, d0, d1, d2, d3, d4, d5, d6, d7, d8, d9]) rfl ?_
    rw [HDP2.out]
    exact ⟨.slice vka q.ks.length vkc, .slice vea q.es.length vec, by rw [hdec]; rfl, hOk9, hOe9, hor, hb9⟩
theorem decode_short (ba : Option Addr) (n bc : Nat) (hn : n ≠ 128) (w : World) :
    Calls Try.prog 10 #[.slice ba n bc] w fun e w' => e = .returned (.agg #[.bool false, .int .i64 0, .int .i64 0, .int .i64 0, .int .i64 0, .int .i64 0, .slice none 0 0, .slice none 0 0, .int .i64 0, .string ⟨#[]⟩]) ∧ Below w.heap.size w w' := by
  have hne : ((n : Int) != 128) = true := by simp; omega
  go_enter Try.func10, Try.ntmps10
  go_wp2
  exact bodyPost_ret (v := .agg #[.bool false, .int .i64 0, .int .i64 0, .int .i64 0, .int .i64 0, .int .i64 0, .slice none 0 0, .slice none 0 0, .int .i64 0, .string ⟨#[]⟩]) (by simp [results, Try.results10, go_sem]) rfl ⟨rfl, (Below.refl _ _).alloc (Nat.le_refl _) _⟩
end New
end Go.Proofs.Ytcmhobbpeaeebaa
namespace Go.Proofs.Ytcmhobbpeaeebaa
namespace New
open Go.RowKit
set_option linter.unusedVariables false
set_option maxRecDepth 100000

/-- The page that the specification reads of a code, and whether its bytes sufficed. -/
def sDec (bs : List Int) : Pg × Bool := ({ (sRead ((bs.drop 8).take 112) (bs.getD 4 0) (bs.getD 5 0).toNat).1 with tx := numOf false (bs.take 4) }, (sRead ((bs.drop 8).take 112) (bs.getD 4 0) (bs.getD 5 0).toNat).2)
theorem code_form {p : Pg} (htx : inB 1 2000000000 p.tx = true) (hok : bodyOk 2 999 p = true) : ∃ post, newCodeOf p = numB false 4 p.tx ++ ([p.kind] ++ ([((p.ks.length + p.es.length : Nat) : Int)] ++ ([0, 0] ++ (bodyB false p ++ post)))) ∧ (newCodeOf p).length = 128 := by
  have hl := bodyB_len false hok
  refine ⟨List.replicate (120 - (newHead p).length) 0 ++ leB 4 (crcOf (padB 120 (newHead p))) ++ leB 4 p.tx, ?_, ?_⟩
  · rw [newCodeOf, if_pos ⟨htx, hok⟩]
    simp [sealN, padB, newHead, numB, List.append_assoc]
  · rw [newCodeOf, if_pos ⟨htx, hok⟩]
    exact seal_len _ (by simp [newHead, leB_len]; omega)
theorem dec_code {p : Pg} (htx : inB 1 2000000000 p.tx = true) (hok : bodyOk 2 999 p = true) : decP (newCodeOf p) = p ∧ sDec (newCodeOf p) = (p, true) := by
  obtain ⟨post, hf, hlen⟩ := code_form htx hok
  have hl := bodyB_len false hok
  have hkd := body_kind hok
  have hcn := body_count hok
  have ht : 1 ≤ p.tx ∧ p.tx ≤ 2000000000 := by simpa [inB] using htx
  have h0 : Has (newCodeOf p) 0 (numB false 4 p.tx ++ ([p.kind] ++ ([((p.ks.length + p.es.length : Nat) : Int)] ++ ([0, 0] ++ (bodyB false p ++ post))))) := ⟨[], by rw [List.drop_zero, List.append_nil]; exact hf⟩
  have g0 := Has.left h0
  have r0 := Has.right h0
  rw [numB_len] at r0
  have g1 := Has.left r0
  have r1 := Has.right r0
  have g2 := Has.left r1
  have r2 := Has.right r1
  have r3 := Has.right r2
  simp only [List.length_cons, List.length_nil, Nat.zero_add] at g1 g2 r3
  have r4 : Has (newCodeOf p) 8 (bodyB false p) := Has.left r3
  obtain ⟨a1, _⟩ := g0.num hlen (by omega) (by omega) (by have hp : (256 : Int) ^ 4 = 4294967296 := (by decide); omega)
  obtain ⟨a2, _⟩ := g1.byte hlen (by omega) hkd
  obtain ⟨a3, _⟩ := g2.byte hlen (by omega) (by omega)
  have hpg := page_has (by omega) (by omega) hok hlen 8 r4 (by omega)
  have hL2 : Has (((newCodeOf p).drop 8).take 112) 0 (bodyB false p) := by
    obtain ⟨q, hq⟩ := r4
    refine ⟨q.take (112 - (bodyB false p).length), ?_⟩
    rw [List.drop_zero, hq, List.take_append, List.take_of_length_le (by omega)]
  have hsp := spage_has (by omega) (by omega) hok hL2
  have b4 : (newCodeOf p).getD 4 0 = p.kind := by
    have q := g1.take
    have hd : (newCodeOf p).drop 4 = (newCodeOf p).getD 4 0 :: (newCodeOf p).drop 5 := by
      rw [List.drop_eq_getElem_cons (by omega)]; simp [List.getD, show 4 < (newCodeOf p).length by omega]
    rw [hd] at q
    simpa using q
  have b5 : (newCodeOf p).getD 5 0 = ((p.ks.length + p.es.length : Nat) : Int) := by
    have q := g2.take
    have hd : (newCodeOf p).drop 5 = (newCodeOf p).getD 5 0 :: (newCodeOf p).drop 6 := by
      rw [List.drop_eq_getElem_cons (by omega)]; simp [List.getD, show 5 < (newCodeOf p).length by omega]
    rw [hd] at q
    simpa using q
  have bt : numOf false ((newCodeOf p).take 4) = p.tx := by
    have q := g0.take
    rw [numB_len, List.drop_zero] at q
    rw [q, numOf_numB _ _ _ (by omega) (by have hp : (256 : Int) ^ 4 = 4294967296 := (by decide); omega)]
  have e5 : rN (newCodeOf p) 5 1 = ((p.ks.length + p.es.length : Nat) : Int) := a3
  have e4 : rN (newCodeOf p) 4 1 = p.kind := a2
  refine ⟨?_, ?_⟩
  · rw [decP, a1, e4, e5, Int.toNat_natCast, hpg]
  · rw [sDec, b4, b5, Int.toNat_natCast, hsp, bt]
/-- Both readings answer alike. -/
theorem dec_same {bs : List Int} (h : bs ≠ []) : (newCodeOf (decP bs) = bs → sDec bs = (decP bs, true)) ∧ ((sDec bs).2 = true → newCodeOf (sDec bs).1 = bs → decP bs = (sDec bs).1) := by
  have key : ∀ p : Pg, newCodeOf p = bs → decP bs = p ∧ sDec bs = (p, true) := by
    intro p hp
    by_cases hg : inB 1 2000000000 p.tx = true ∧ bodyOk 2 999 p = true
    · have := dec_code hg.1 hg.2
      rw [hp] at this; exact this
    · rw [newCodeOf, if_neg hg] at hp
      exact absurd hp.symm h
  refine ⟨fun h1 => (key _ h1).2, fun _ h2 => (key _ h2).1⟩
end New
end Go.Proofs.Ytcmhobbpeaeebaa
namespace Go.Proofs.Ytcmhobbpeaeebaa
namespace New
open Go.RowKit
set_option linter.unusedVariables false
set_option maxRecDepth 100000

/-- Bytes. -/
def AllB (L : List Int) : Prop := ∀ x ∈ L, 0 ≤ x ∧ x ≤ 255
theorem AllB.take {L : List Int} (h : AllB L) (n : Nat) : AllB (L.take n) := fun x hx => h x (List.mem_of_mem_take hx)
theorem AllB.drop {L : List Int} (h : AllB L) (n : Nat) : AllB (L.drop n) := fun x hx => h x (List.mem_of_mem_drop hx)
theorem sTake_byte {L : List Int} (h : AllB L) (s : Option Nat) (n : Nat) : AllB (sTake L s n).2 := by
  have hz : AllB (List.replicate n 0) := fun x hx => by rw [List.eq_of_mem_replicate hx]; omega
  cases s with
  | none => exact hz
  | some k =>
    unfold sTake
    dsimp only
    split
    · exact (h.drop k).take n
    · exact hz
theorem AllB.num {l : List Int} (h : AllB l) (hl : l.length ≤ 4) (hi : Bool) : I64 (numOf hi l) := by
  have h1 := numOf_range hi h
  have h2 : l.length = 0 ∨ l.length = 1 ∨ l.length = 2 ∨ l.length = 3 ∨ l.length = 4 := by omega
  unfold I64
  rcases h2 with e | e | e | e | e <;> rw [e] at h1 <;> omega
theorem num_take {l : List Int} (h : AllB l) {k : Nat} (hk : k ≤ 4) (hi : Bool) : I64 (numOf hi (l.take k)) := (h.take k).num (by rw [List.length_take]; omega) hi
theorem AllB.getD {l : List Int} (h : AllB l) (i : Nat) : 0 ≤ l.getD i 0 ∧ l.getD i 0 ≤ 255 := by
  by_cases hi : i < l.length
  · rw [show l.getD i 0 = l[i] by simp [List.getD, hi]]
    exact h _ (List.getElem_mem hi)
  · rw [show l.getD i 0 = 0 by simp [List.getD, Nat.not_lt.1 hi]]
    omega
theorem small_le : smallN false ≤ 4 := by decide
theorem take_num {L : List Int} (h : AllB L) (s : Option Nat) : I64 (numOf false (sTake L s (smallN false)).2) := (sTake_byte h s _).num (by rw [sTake_len]; exact small_le) _
theorem take_str {L : List Int} (h : AllB L) (s t : Option Nat) : (toB (sTake L s ((sTake L t 1).2.getD 0 0).toNat).2).size ≤ 255 := by
  rw [toB_size, sTake_len]
  have := (sTake_byte h t 1).getD 0
  omega
theorem sKids_fit {L : List Int} (h : AllB L) : ∀ n, ∀ x ∈ (sKids L n).2, kidFit x
  | 0 => by intro x hx; simp [sKids] at hx
  | n + 1 => by
    intro x hx
    rw [sKids] at hx
    rcases List.mem_append.1 hx with hx | hx
    · exact sKids_fit h n x hx
    · simp only [List.mem_singleton] at hx
      subst hx
      refine ⟨?_, take_num h _⟩
      show (sSep L n (sKids L n).1).2.size ≤ maxLen
      unfold sSep maxLen
      split
      · have := take_str h (sTake L (sKids L n).1 1).1 (sKids L n).1; dsimp only; omega
      · exact Nat.zero_le _
theorem sEnt_fit {L : List Int} (h : AllB L) (s : Option Nat) : entFit (sEnt L s).2 := by
  unfold sEnt
  generalize (if false = true then 8 else ((sTake L s 1).2.getD 0 0).toNat) = m
  split
  · exact ⟨Nat.zero_le _, Nat.zero_le _, z64, z64⟩
  · have hk : ∀ l : List Int, (toB (l.take ((sTake L s 1).2.getD 0 0).toNat)).size ≤ maxLen := fun l => by
      rw [toB_size, List.length_take]
      have := (sTake_byte h s 1).getD 0
      unfold maxLen
      omega
    split
    · exact ⟨hk _, Nat.zero_le _, take_num h _, take_num h _⟩
    · refine ⟨hk _, ?_, z64, ?_⟩
      · have := take_str h (sTake L (sTake L (sTake L (sTake L s 1).1 m).1 1).1 1).1 (sTake L (sTake L (sTake L s 1).1 m).1 1).1
        unfold maxLen
        dsimp only
        omega
      · have := (sTake_byte h (sTake L (sTake L (sTake L s 1).1 m).1 1).1 1).getD 0
        dsimp only
        unfold I64
        omega
theorem sEnts_fit {L : List Int} (h : AllB L) : ∀ n, ∀ x ∈ (sEnts L n).2, entFit x
  | 0 => by intro x hx; simp [sEnts] at hx
  | n + 1 => by
    intro x hx
    rw [sEnts] at hx
    rcases List.mem_append.1 hx with hx | hx
    · exact sEnts_fit h n x hx
    · simp only [List.mem_singleton] at hx
      subst hx
      exact sEnt_fit h _
theorem sRead_fit {L : List Int} (h : AllB L) (kind : Int) (hk : I64 kind) (n : Nat) : PgFit (sRead L kind n).1 ∧ (∀ x ∈ (sRead L kind n).1.ks, kidFit x) ∧ (∀ x ∈ (sRead L kind n).1.es, entFit x) := by
  have e0 : (⟨#[]⟩ : ByteArray).size ≤ maxLen := Nat.zero_le _
  unfold sRead
  split
  · refine ⟨⟨s64 1 (by decide), z64, ?_, ?_, ?_, z64, e0⟩, (by intro x hx; cases hx), (by intro x hx; cases hx)⟩
    · show I64 (sMeta L).2.1; unfold sMeta; dsimp only; exact num_take ((sTake_byte h _ _).drop _) (by decide) _
    · show I64 (sMeta L).2.2.1; unfold sMeta; dsimp only; exact num_take ((sTake_byte h _ _).drop _) (by decide) _
    · show I64 (sMeta L).2.2.2; unfold sMeta; dsimp only; exact num_take ((sTake_byte h _ _).drop _) (by decide) _
  · split
    · exact ⟨⟨s64 2 (by decide), z64, z64, z64, z64, z64, e0⟩, sKids_fit h n, (by intro x hx; cases hx)⟩
    · split
      · exact ⟨⟨s64 3 (by decide), z64, z64, z64, z64, z64, e0⟩, (by intro x hx; cases hx), sEnts_fit h n⟩
      · split
        · refine ⟨⟨s64 4 (by decide), z64, z64, z64, z64, take_num h _, ?_⟩, (by intro x hx; cases hx), (by intro x hx; cases hx)⟩
          show (sOver L).2.2.size ≤ maxLen
          have := take_str h (sTake L (sTake L (some 0) (smallN false)).1 1).1 (sTake L (some 0) (smallN false)).1
          unfold sOver maxLen
          dsimp only
          omega
        · exact ⟨⟨hk, z64, z64, z64, z64, z64, e0⟩, (by intro x hx; cases hx), (by intro x hx; cases hx)⟩
end New
end Go.Proofs.Ytcmhobbpeaeebaa
