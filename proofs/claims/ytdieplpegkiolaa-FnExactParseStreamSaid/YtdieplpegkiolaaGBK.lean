import Derived.Test.YtdieplpegkiolaaGBB
import Derived.Test.YtdieplpegkiolaaGBJ
namespace Go.Proofs.Ytdieplpegkiolaa
namespace New
open Go.RowKit
set_option linter.unusedVariables false
set_option maxRecDepth 100000

theorem meta_has {L : List Int} (hL : L.length = 128) (k : Nat) (id root count : Int) (hi : 0 ≤ id ∧ id ≤ 2000000000) (hr : 0 ≤ root ∧ root ≤ 999) (hc : 0 ≤ count ∧ count ≤ 2000000000) (h : Has L k (numB false 4 id ++ numB false 4 root ++ numB false 4 count)) (hk : k + 12 ≤ 128) : mId L k = id ∧ mRoot L k = root ∧ mCount L k = count := by
  have h2 := Has.left h
  have h1 := Has.left h2
  have q3 := Has.right h
  have q2 := Has.right h2
  rw [numB_len] at q2
  rw [List.length_append, numB_len, numB_len] at q3
  obtain ⟨a1, b1⟩ := h1.num hL (by omega) (by omega) (by have hp : (256 : Int) ^ 4 = 4294967296 := (by decide); omega)
  obtain ⟨a2, b2⟩ := q2.num hL (by omega) (by omega) (by have hp : (256 : Int) ^ 4 = 4294967296 := (by decide); omega)
  obtain ⟨a3, b3⟩ := q3.num hL (by omega) (by omega) (by have hp : (256 : Int) ^ 4 = 4294967296 := (by decide); omega)
  refine ⟨a1, ?_, ?_⟩
  · show rN L (adv k 4) 4 = root
    rw [b1]; exact a2
  · show rN L (adv (adv k 4) 4) 4 = count
    rw [b1, b2, Nat.add_assoc]; exact a3
theorem smeta_has {L : List Int} (id root count : Int) (hi : 0 ≤ id ∧ id ≤ 2000000000) (hr : 0 ≤ root ∧ root ≤ 999) (hc : 0 ≤ count ∧ count ≤ 2000000000) (h : Has L 0 (numB false 4 id ++ numB false 4 root ++ numB false 4 count)) : sMeta L = (some 12, id, root, count) := by
  have hl : (numB false 4 id ++ numB false 4 root ++ numB false 4 count).length = 12 := by simp [numB_len]
  have ht := h.sTake (h.len (by intro e; rw [e] at hl; simp at hl))
  rw [hl] at ht
  simp only [Nat.zero_add] at ht
  have hself : Has (numB false 4 id ++ numB false 4 root ++ numB false 4 count) 0 (numB false 4 id ++ numB false 4 root ++ numB false 4 count) := ⟨[], by simp⟩
  have pid : ((numB false 4 id ++ numB false 4 root ++ numB false 4 count).drop 0).take 4 = numB false 4 id := by
    have q := (Has.left (Has.left hself)).take
    rw [numB_len] at q
    exact q
  have vid : numOf false (numB false 4 id) = id := numOf_numB _ _ _ (by omega) (by have hp : (256 : Int) ^ 4 = 4294967296 := (by decide); omega)
  have proot : ((numB false 4 id ++ numB false 4 root ++ numB false 4 count).drop 4).take 4 = numB false 4 root := by
    have q := (Has.right (Has.left hself)).take
    rw [numB_len, numB_len, Nat.zero_add] at q
    exact q
  have vroot : numOf false (numB false 4 root) = root := numOf_numB _ _ _ (by omega) (by have hp : (256 : Int) ^ 4 = 4294967296 := (by decide); omega)
  have pcount : ((numB false 4 id ++ numB false 4 root ++ numB false 4 count).drop 8).take 4 = numB false 4 count := by
    have q := (Has.right hself).take
    rw [List.length_append, numB_len, numB_len, numB_len, Nat.zero_add] at q
    exact q
  have vcount : numOf false (numB false 4 count) = count := numOf_numB _ _ _ (by omega) (by have hp : (256 : Int) ^ 4 = 4294967296 := (by decide); omega)
  simp only [sMeta, ht, pid, proot, pcount, vid, vroot, vcount]
end New
end Go.Proofs.Ytdieplpegkiolaa
namespace Go.Proofs.Ytdieplpegkiolaa
namespace New
open Go.RowKit
set_option linter.unusedVariables false
set_option maxRecDepth 100000

theorem over_has {L : List Int} (hL : L.length = 128) (k : Nat) (next : Int) (data : ByteArray) (hn : 0 ≤ next ∧ next ≤ 999) (hd : data.size ≤ 96) (h : Has L k (numB false (smallN false) next ++ textB data)) (hk : k + smallN false + 1 + data.size ≤ 128) : oNext L k = next ∧ oData L k = data := by
  have hs := small_of hn
  obtain ⟨a1, b1⟩ := (Has.left h).num hL (by omega) hs.1 hs.2
  have h2 := Has.right h
  rw [numB_len] at h2
  obtain ⟨a2, b2⟩ := h2.text hL (by omega) (by omega)
  exact ⟨a1, by rw [oData, b1]; exact a2⟩
theorem sover_has {L : List Int} (next : Int) (data : ByteArray) (hn : 0 ≤ next ∧ next ≤ 999) (h : Has L 0 (numB false (smallN false) next ++ textB data)) : sOver L = (some (smallN false + 1 + data.size), next, data) := by
  have hs := small_of hn
  have hs2 : 0 < smallN false := by decide
  have hlen := h.len (by simp [textB])
  rw [List.length_append, numB_len, textB_len] at hlen
  have t1 := (Has.left h).snum hs2
  have h2 := Has.right h
  rw [numB_len] at h2
  simp only [Nat.zero_add] at t1 h2 hlen
  have t2 := (Has.left (x := [(data.size : Int)]) (y := strB data) h2).sbyte
  have h3 := Has.right (x := [(data.size : Int)]) (y := strB data) h2
  simp only [List.length_cons, List.length_nil, Nat.zero_add] at h3
  have t3 := h3.sstr (by omega)
  simp only [sOver, t1, t2, List.getD_cons_zero, Int.toNat_natCast, t3, toB_strB, numOf_numB _ _ _ hs.1 hs.2]
theorem meta_of {L : List Int} {k : Nat} {p : Pg} (h : Has L k (metaB false p)) : Has L k (numB false 4 p.id ++ numB false 4 p.root ++ numB false 4 p.count) := Has.left h
theorem meta_len (p : Pg) : 12 ≤ (metaB false p).length := by simp [metaB, leB_len]
/-- A good page is read back from its body. -/
theorem page_has {low last : Int} {p : Pg} (hl : 1 ≤ low) (hh : last ≤ 999) (hok : bodyOk low last p = true) {L : List Int} (hL : L.length = 128) (k : Nat) (h : Has L k (bodyB false p)) (hk : k + (bodyB false p).length ≤ 128) : readP L k p.kind (p.ks.length + p.es.length) = { p with tx := 0 } := by
  obtain ⟨kind, tx, id, root, count, ks, es, next, data⟩ := p
  unfold bodyOk at hok
  unfold bodyB at h hk
  unfold readP
  simp only at hok h hk ⊢
  by_cases h1 : kind = 1
  · subst h1
    simp only [if_true] at hok h hk ⊢
    simp only [metaOk, Bool.and_eq_true, inB, decide_eq_true_eq] at hok
    obtain ⟨⟨⟨⟨⟨⟨o1, o2⟩, o3⟩, o4⟩, o5⟩, o6⟩, o7⟩ := hok
    have e7 := empty_of o7
    have e4 := List.eq_nil_of_length_eq_zero o4
    have e5 := List.eq_nil_of_length_eq_zero o5
    subst e7 e4 e5 o6
    have hml := meta_len ⟨1, tx, id, root, count, [], [], 0, ⟨#[]⟩⟩
    obtain ⟨m1, m2, m3⟩ := meta_has hL k id root count (by omega) (by omega) (by omega) (meta_of h) (by omega)
    rw [m1, m2, m3]
  by_cases h2 : kind = 2
  · subst h2
    rw [if_neg (by decide), if_pos rfl] at hok h hk ⊢
    have hsz := branch_sizes hok
    have hgd := kids_good (by omega) hh hok
    simp only [branchOk, noMeta, Bool.and_eq_true, decide_eq_true_eq] at hok
    obtain ⟨⟨⟨⟨⟨⟨⟨o1, o2⟩, o3⟩, o4⟩, _⟩, _⟩, _⟩, _⟩ := hok
    obtain ⟨rfl, rfl, rfl⟩ := o1
    have e4 := empty_of o4
    have e2 := List.eq_nil_of_length_eq_zero o2
    simp only at e4 e2 o3 hsz hgd
    subst e4 e2 o3
    have hkr := kidsR_has hL k ks hgd.1 hsz.2 hgd.2 ks.length (Nat.le_refl _) h hk
    simp only [List.length_nil, Nat.add_zero, hkr, List.take_length]
  by_cases h3 : kind = 3
  · subst h3
    rw [if_neg (by decide), if_neg (by decide), if_pos rfl] at hok h hk ⊢
    have hgd := ents_good hl hh hok
    simp only [leafOk, noMeta, Bool.and_eq_true, decide_eq_true_eq] at hok
    obtain ⟨⟨⟨⟨⟨o1, o2⟩, o3⟩, o4⟩, _⟩, _⟩ := hok
    obtain ⟨rfl, rfl, rfl⟩ := o1
    have e4 := empty_of o4
    have e2 := List.eq_nil_of_length_eq_zero o2
    simp only at e4 e2 o3 hgd
    subst e4 e2 o3
    have hkr := entsR_has hL k es hgd es.length (Nat.le_refl _) h hk
    simp only [List.length_nil, Nat.zero_add, hkr, List.take_length]
  by_cases h4 : kind = 4
  · subst h4
    rw [if_neg (by decide), if_neg (by decide), if_neg (by decide), if_pos rfl] at hok h hk ⊢
    simp only [overOk, noMeta, Bool.and_eq_true, Bool.or_eq_true, inB, decide_eq_true_eq] at hok
    obtain ⟨⟨⟨⟨⟨o1, o2⟩, o3⟩, _⟩, o5⟩, o6⟩ := hok
    obtain ⟨rfl, rfl, rfl⟩ := o1
    have e2 := List.eq_nil_of_length_eq_zero o2
    have e3 := List.eq_nil_of_length_eq_zero o3
    subst e2 e3
    rw [List.length_append, numB_len, textB_len] at hk
    obtain ⟨a1, a2⟩ := over_has hL k next data (by omega) o5 h (by have hw : smallW false = smallN false := rfl; omega)
    rw [a1, a2]
  · rw [if_neg h1, if_neg h2, if_neg h3, if_neg h4] at hok
    cases hok
/-- A good page is read back by the specification. -/
theorem spage_has {low last : Int} {p : Pg} (hl : 1 ≤ low) (hh : last ≤ 999) (hok : bodyOk low last p = true) {L : List Int} (h : Has L 0 (bodyB false p)) : sRead L p.kind (p.ks.length + p.es.length) = ({ p with tx := 0 }, true) := by
  obtain ⟨kind, tx, id, root, count, ks, es, next, data⟩ := p
  unfold bodyOk at hok
  unfold bodyB at h
  unfold sRead
  simp only at hok h ⊢
  by_cases h1 : kind = 1
  · subst h1
    simp only [if_true] at hok h ⊢
    simp only [metaOk, Bool.and_eq_true, inB, decide_eq_true_eq] at hok
    obtain ⟨⟨⟨⟨⟨⟨o1, o2⟩, o3⟩, o4⟩, o5⟩, o6⟩, o7⟩ := hok
    have e7 := empty_of o7
    have e4 := List.eq_nil_of_length_eq_zero o4
    have e5 := List.eq_nil_of_length_eq_zero o5
    subst e7 e4 e5 o6
    rw [smeta_has id root count (by omega) (by omega) (by omega) (meta_of h)]
    rfl
  by_cases h2 : kind = 2
  · subst h2
    rw [if_neg (by decide), if_pos rfl] at hok h ⊢
    have hsz := branch_sizes hok
    have hgd := kids_good (by omega) hh hok
    simp only [branchOk, noMeta, Bool.and_eq_true, decide_eq_true_eq] at hok
    obtain ⟨⟨⟨⟨⟨⟨⟨o1, o2⟩, o3⟩, o4⟩, _⟩, _⟩, _⟩, _⟩ := hok
    obtain ⟨rfl, rfl, rfl⟩ := o1
    have e4 := empty_of o4
    have e2 := List.eq_nil_of_length_eq_zero o2
    simp only at e4 e2 o3 hsz hgd
    subst e4 e2 o3
    have hkr := sKids_has ks hgd.1 hsz.2 hgd.2 ks.length (Nat.le_refl _) h
    simp only [List.length_nil, Nat.add_zero, hkr, List.take_length, Option.isSome_some]
  by_cases h3 : kind = 3
  · subst h3
    rw [if_neg (by decide), if_neg (by decide), if_pos rfl] at hok h ⊢
    have hgd := ents_good hl hh hok
    simp only [leafOk, noMeta, Bool.and_eq_true, decide_eq_true_eq] at hok
    obtain ⟨⟨⟨⟨⟨o1, o2⟩, o3⟩, o4⟩, _⟩, _⟩ := hok
    obtain ⟨rfl, rfl, rfl⟩ := o1
    have e4 := empty_of o4
    have e2 := List.eq_nil_of_length_eq_zero o2
    simp only at e4 e2 o3 hgd
    subst e4 e2 o3
    have hkr := sEnts_has es hgd es.length (Nat.le_refl _) h
    simp only [List.length_nil, Nat.zero_add, hkr, List.take_length, Option.isSome_some]
  by_cases h4 : kind = 4
  · subst h4
    rw [if_neg (by decide), if_neg (by decide), if_neg (by decide), if_pos rfl] at hok h ⊢
    simp only [overOk, noMeta, Bool.and_eq_true, Bool.or_eq_true, inB, decide_eq_true_eq] at hok
    obtain ⟨⟨⟨⟨⟨o1, o2⟩, o3⟩, _⟩, o5⟩, o6⟩ := hok
    obtain ⟨rfl, rfl, rfl⟩ := o1
    have e2 := List.eq_nil_of_length_eq_zero o2
    have e3 := List.eq_nil_of_length_eq_zero o3
    subst e2 e3
    rw [sover_has next data (by omega) h]
    rfl
  · rw [if_neg h1, if_neg h2, if_neg h3, if_neg h4] at hok
    cases hok
end New
end Go.Proofs.Ytdieplpegkiolaa
namespace Go.Proofs.Ytdieplpegkiolaa
namespace New
open Go.RowKit
set_option linter.unusedVariables false
set_option maxRecDepth 100000

/-- The page that the specification reads of a code, and whether its bytes sufficed. -/
def sDec (bs : List Int) : Pg × Bool := ({ (sRead ((bs.drop 8).take 112) (bs.getD 4 0) (bs.getD 5 0).toNat).1 with tx := numOf false (bs.take 4) }, (sRead ((bs.drop 8).take 112) (bs.getD 4 0) (bs.getD 5 0).toNat).2)
theorem code_form {p : Pg} (htx : inB 1 2000000000 p.tx = true) (hok : bodyOk 2 999 p = true) : ∃ post, newCodeOf p = numB false 4 p.tx ++ ([p.kind] ++ ([((p.ks.length + p.es.length : Nat) : Int)] ++ ([0, 0] ++ (bodyB false p ++ post)))) ∧ (newCodeOf p).length = 128 := by
  have hl := bodyB_len false hok
  refine ⟨List.replicate (120 - (newHead p).length) 0 ++ leB 4 (crcOf (padB 120 (newHead p))) ++ leB 4 p.tx, ?_, ?_⟩
  · rw [newCodeOf, if_pos ⟨htx, hok⟩]
    simp [sealN, padB, newHead, numB, List.append_assoc]
  · rw [newCodeOf, if_pos ⟨htx, hok⟩]
    exact seal_len _ (by simp [newHead, leB_len]; omega)
theorem dec_code {p : Pg} (htx : inB 1 2000000000 p.tx = true) (hok : bodyOk 2 999 p = true) : decP (newCodeOf p) = p ∧ sDec (newCodeOf p) = (p, true) := by
  obtain ⟨post, hf, hlen⟩ := code_form htx hok
  have hl := bodyB_len false hok
  have hkd := body_kind hok
  have hcn := body_count hok
  have ht : 1 ≤ p.tx ∧ p.tx ≤ 2000000000 := by simpa [inB] using htx
  have h0 : Has (newCodeOf p) 0 (numB false 4 p.tx ++ ([p.kind] ++ ([((p.ks.length + p.es.length : Nat) : Int)] ++ ([0, 0] ++ (bodyB false p ++ post))))) := ⟨[], by rw [List.drop_zero, List.append_nil]; exact hf⟩
  have g0 := Has.left h0
  have r0 := Has.right h0
  rw [numB_len] at r0
  have g1 := Has.left r0
  have r1 := Has.right r0
  have g2 := Has.left r1
  have r2 := Has.right r1
  have r3 := Has.right r2
  simp only [List.length_cons, List.length_nil, Nat.zero_add] at g1 g2 r3
  have r4 : Has (newCodeOf p) 8 (bodyB false p) := Has.left r3
  obtain ⟨a1, _⟩ := g0.num hlen (by omega) (by omega) (by have hp : (256 : Int) ^ 4 = 4294967296 := (by decide); omega)
  obtain ⟨a2, _⟩ := g1.byte hlen (by omega) hkd
  obtain ⟨a3, _⟩ := g2.byte hlen (by omega) (by omega)
  have hpg := page_has (by omega) (by omega) hok hlen 8 r4 (by omega)
  have hL2 : Has (((newCodeOf p).drop 8).take 112) 0 (bodyB false p) := by
    obtain ⟨q, hq⟩ := r4
    refine ⟨q.take (112 - (bodyB false p).length), ?_⟩
    rw [List.drop_zero, hq, List.take_append, List.take_of_length_le (by omega)]
  have hsp := spage_has (by omega) (by omega) hok hL2
  have b4 : (newCodeOf p).getD 4 0 = p.kind := by
    have q := g1.take
    have hd : (newCodeOf p).drop 4 = (newCodeOf p).getD 4 0 :: (newCodeOf p).drop 5 := by
      rw [List.drop_eq_getElem_cons (by omega)]; simp [List.getD, show 4 < (newCodeOf p).length by omega]
    rw [hd] at q
    simpa using q
  have b5 : (newCodeOf p).getD 5 0 = ((p.ks.length + p.es.length : Nat) : Int) := by
    have q := g2.take
    have hd : (newCodeOf p).drop 5 = (newCodeOf p).getD 5 0 :: (newCodeOf p).drop 6 := by
      rw [List.drop_eq_getElem_cons (by omega)]; simp [List.getD, show 5 < (newCodeOf p).length by omega]
    rw [hd] at q
    simpa using q
  have bt : numOf false ((newCodeOf p).take 4) = p.tx := by
    have q := g0.take
    rw [numB_len, List.drop_zero] at q
    rw [q, numOf_numB _ _ _ (by omega) (by have hp : (256 : Int) ^ 4 = 4294967296 := (by decide); omega)]
  have e5 : rN (newCodeOf p) 5 1 = ((p.ks.length + p.es.length : Nat) : Int) := a3
  have e4 : rN (newCodeOf p) 4 1 = p.kind := a2
  refine ⟨?_, ?_⟩
  · rw [decP, a1, e4, e5, Int.toNat_natCast, hpg]
  · rw [sDec, b4, b5, Int.toNat_natCast, hsp, bt]
/-- Both readings answer alike. -/
theorem dec_same {bs : List Int} (h : bs ≠ []) : (newCodeOf (decP bs) = bs → sDec bs = (decP bs, true)) ∧ ((sDec bs).2 = true → newCodeOf (sDec bs).1 = bs → decP bs = (sDec bs).1) := by
  have key : ∀ p : Pg, newCodeOf p = bs → decP bs = p ∧ sDec bs = (p, true) := by
    intro p hp
    by_cases hg : inB 1 2000000000 p.tx = true ∧ bodyOk 2 999 p = true
    · have := dec_code hg.1 hg.2
      rw [hp] at this; exact this
    · rw [newCodeOf, if_neg hg] at hp
      exact absurd hp.symm h
  refine ⟨fun h1 => (key _ h1).2, fun _ h2 => (key _ h2).1⟩
end New
end Go.Proofs.Ytdieplpegkiolaa
