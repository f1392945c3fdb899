import Derived.Test.YtnpndbicmamggaaGreatGAA
import Derived.Test.YtnpndbicmamggaaGreatGAS
import Derived.Laws.BitsAll
namespace Go.Proofs.YtnpndbicmamggaaGreat
namespace New
open Go.RowKit
set_option linter.unusedVariables false
set_option maxRecDepth 100000

theorem meta_has {L : List Int} (hL : L.length = 128) (k : Nat) (id root count : Int) (hi : 0 ≤ id ∧ id ≤ 2000000000) (hr : 0 ≤ root ∧ root ≤ 999) (hc : 0 ≤ count ∧ count ≤ 2000000000) (h : Has L k (numB false 4 id ++ numB false 4 root ++ numB false 4 count)) (hk : k + 12 ≤ 128) : mId L k = id ∧ mRoot L k = root ∧ mCount L k = count := by
  have h2 := Has.left h
  have h1 := Has.left h2
  have q3 := Has.right h
  have q2 := Has.right h2
  rw [numB_len] at q2
  rw [List.length_append, numB_len, numB_len] at q3
  obtain ⟨a1, b1⟩ := h1.num hL (by omega) (by omega) (by have hp : (256 : Int) ^ 4 = 4294967296 := (by decide); omega)
  obtain ⟨a2, b2⟩ := q2.num hL (by omega) (by omega) (by have hp : (256 : Int) ^ 4 = 4294967296 := (by decide); omega)
  obtain ⟨a3, b3⟩ := q3.num hL (by omega) (by omega) (by have hp : (256 : Int) ^ 4 = 4294967296 := (by decide); omega)
  refine ⟨a1, ?_, ?_⟩
  · show rN L (adv k 4) 4 = root
    rw [b1]; exact a2
  · show rN L (adv (adv k 4) 4) 4 = count
    rw [b1, b2, Nat.add_assoc]; exact a3
theorem smeta_has {L : List Int} (id root count : Int) (hi : 0 ≤ id ∧ id ≤ 2000000000) (hr : 0 ≤ root ∧ root ≤ 999) (hc : 0 ≤ count ∧ count ≤ 2000000000) (h : Has L 0 (numB false 4 id ++ numB false 4 root ++ numB false 4 count)) : sMeta L = (some 12, id, root, count) := by
  have hl : (numB false 4 id ++ numB false 4 root ++ numB false 4 count).length = 12 := by simp [numB_len]
  have ht := h.sTake (h.len (by intro e; rw [e] at hl; simp at hl))
  rw [hl] at ht
  simp only [Nat.zero_add] at ht
  have hself : Has (numB false 4 id ++ numB false 4 root ++ numB false 4 count) 0 (numB false 4 id ++ numB false 4 root ++ numB false 4 count) := ⟨[], by simp⟩
  have pid : ((numB false 4 id ++ numB false 4 root ++ numB false 4 count).drop 0).take 4 = numB false 4 id := by
    have q := (Has.left (Has.left hself)).take
    rw [numB_len] at q
    exact q
  have vid : numOf false (numB false 4 id) = id := numOf_numB _ _ _ (by omega) (by have hp : (256 : Int) ^ 4 = 4294967296 := (by decide); omega)
  have proot : ((numB false 4 id ++ numB false 4 root ++ numB false 4 count).drop 4).take 4 = numB false 4 root := by
    have q := (Has.right (Has.left hself)).take
    rw [numB_len, numB_len, Nat.zero_add] at q
    exact q
  have vroot : numOf false (numB false 4 root) = root := numOf_numB _ _ _ (by omega) (by have hp : (256 : Int) ^ 4 = 4294967296 := (by decide); omega)
  have pcount : ((numB false 4 id ++ numB false 4 root ++ numB false 4 count).drop 8).take 4 = numB false 4 count := by
    have q := (Has.right hself).take
    rw [List.length_append, numB_len, numB_len, numB_len, Nat.zero_add] at q
    exact q
  have vcount : numOf false (numB false 4 count) = count := numOf_numB _ _ _ (by omega) (by have hp : (256 : Int) ^ 4 = 4294967296 := (by decide); omega)
  simp only [sMeta, ht, pid, proot, pcount, vid, vroot, vcount]
end New
end Go.Proofs.YtnpndbicmamggaaGreat
namespace Go.Proofs.YtnpndbicmamggaaGreat
namespace New
open Go.RowKit
set_option linter.unusedVariables false
set_option maxRecDepth 100000

theorem over_has {L : List Int} (hL : L.length = 128) (k : Nat) (next : Int) (data : ByteArray) (hn : 0 ≤ next ∧ next ≤ 999) (hd : data.size ≤ 96) (h : Has L k (numB false (smallN false) next ++ textB data)) (hk : k + smallN false + 1 + data.size ≤ 128) : oNext L k = next ∧ oData L k = data := by
  have hs := small_of hn
  obtain ⟨a1, b1⟩ := (Has.left h).num hL (by omega) hs.1 hs.2
  have h2 := Has.right h
  rw [numB_len] at h2
  obtain ⟨a2, b2⟩ := h2.text hL (by omega) (by omega)
  exact ⟨a1, by rw [oData, b1]; exact a2⟩
theorem sover_has {L : List Int} (next : Int) (data : ByteArray) (hn : 0 ≤ next ∧ next ≤ 999) (h : Has L 0 (numB false (smallN false) next ++ textB data)) : sOver L = (some (smallN false + 1 + data.size), next, data) := by
  have hs := small_of hn
  have hs2 : 0 < smallN false := by decide
  have hlen := h.len (by simp [textB])
  rw [List.length_append, numB_len, textB_len] at hlen
  have t1 := (Has.left h).snum hs2
  have h2 := Has.right h
  rw [numB_len] at h2
  simp only [Nat.zero_add] at t1 h2 hlen
  have t2 := (Has.left (x := [(data.size : Int)]) (y := strB data) h2).sbyte
  have h3 := Has.right (x := [(data.size : Int)]) (y := strB data) h2
  simp only [List.length_cons, List.length_nil, Nat.zero_add] at h3
  have t3 := h3.sstr (by omega)
  simp only [sOver, t1, t2, List.getD_cons_zero, Int.toNat_natCast, t3, toB_strB, numOf_numB _ _ _ hs.1 hs.2]
theorem meta_of {L : List Int} {k : Nat} {p : Pg} (h : Has L k (metaB false p)) : Has L k (numB false 4 p.id ++ numB false 4 p.root ++ numB false 4 p.count) := Has.left h
theorem meta_len (p : Pg) : 12 ≤ (metaB false p).length := by simp [metaB, leB_len]
/-- A good page is read back from its body. -/
theorem page_has {low last : Int} {p : Pg} (hl : 1 ≤ low) (hh : last ≤ 999) (hok : bodyOk low last p = true) {L : List Int} (hL : L.length = 128) (k : Nat) (h : Has L k (bodyB false p)) (hk : k + (bodyB false p).length ≤ 128) : readP L k p.kind (p.ks.length + p.es.length) = { p with tx := 0 } := by
  obtain ⟨kind, tx, id, root, count, ks, es, next, data⟩ := p
  unfold bodyOk at hok
  unfold bodyB at h hk
  unfold readP
  simp only at hok h hk ⊢
  by_cases h1 : kind = 1
  · subst h1
    simp only [if_true] at hok h hk ⊢
    simp only [metaOk, Bool.and_eq_true, inB, decide_eq_true_eq] at hok
    obtain ⟨⟨⟨⟨⟨⟨o1, o2⟩, o3⟩, o4⟩, o5⟩, o6⟩, o7⟩ := hok
    have e7 := empty_of o7
    have e4 := List.eq_nil_of_length_eq_zero o4
    have e5 := List.eq_nil_of_length_eq_zero o5
    subst e7 e4 e5 o6
    have hml := meta_len ⟨1, tx, id, root, count, [], [], 0, ⟨#[]⟩⟩
    obtain ⟨m1, m2, m3⟩ := meta_has hL k id root count (by omega) (by omega) (by omega) (meta_of h) (by omega)
    rw [m1, m2, m3]
  by_cases h2 : kind = 2
  · subst h2
    rw [if_neg (by decide), if_pos rfl] at hok h hk ⊢
    have hsz := branch_sizes hok
    have hgd := kids_good (by omega) hh hok
    simp only [branchOk, noMeta, Bool.and_eq_true, decide_eq_true_eq] at hok
    obtain ⟨⟨⟨⟨⟨⟨⟨o1, o2⟩, o3⟩, o4⟩, _⟩, _⟩, _⟩, _⟩ := hok
    obtain ⟨rfl, rfl, rfl⟩ := o1
    have e4 := empty_of o4
    have e2 := List.eq_nil_of_length_eq_zero o2
    simp only at e4 e2 o3 hsz hgd
    subst e4 e2 o3
    have hkr := kidsR_has hL k ks hgd.1 hsz.2 hgd.2 ks.length (Nat.le_refl _) h hk
    simp only [List.length_nil, Nat.add_zero, hkr, List.take_length]
  by_cases h3 : kind = 3
  · subst h3
    rw [if_neg (by decide), if_neg (by decide), if_pos rfl] at hok h hk ⊢
    have hgd := ents_good hl hh hok
    simp only [leafOk, noMeta, Bool.and_eq_true, decide_eq_true_eq] at hok
    obtain ⟨⟨⟨⟨⟨o1, o2⟩, o3⟩, o4⟩, _⟩, _⟩ := hok
    obtain ⟨rfl, rfl, rfl⟩ := o1
    have e4 := empty_of o4
    have e2 := List.eq_nil_of_length_eq_zero o2
    simp only at e4 e2 o3 hgd
    subst e4 e2 o3
    have hkr := entsR_has hL k es hgd es.length (Nat.le_refl _) h hk
    simp only [List.length_nil, Nat.zero_add, hkr, List.take_length]
  by_cases h4 : kind = 4
  · subst h4
    rw [if_neg (by decide), if_neg (by decide), if_neg (by decide), if_pos rfl] at hok h hk ⊢
    simp only [overOk, noMeta, Bool.and_eq_true, Bool.or_eq_true, inB, decide_eq_true_eq] at hok
    obtain ⟨⟨⟨⟨⟨o1, o2⟩, o3⟩, _⟩, o5⟩, o6⟩ := hok
    obtain ⟨rfl, rfl, rfl⟩ := o1
    have e2 := List.eq_nil_of_length_eq_zero o2
    have e3 := List.eq_nil_of_length_eq_zero o3
    subst e2 e3
    rw [List.length_append, numB_len, textB_len] at hk
    obtain ⟨a1, a2⟩ := over_has hL k next data (by omega) o5 h (by have hw : smallW false = smallN false := rfl; omega)
    rw [a1, a2]
  · rw [if_neg h1, if_neg h2, if_neg h3, if_neg h4] at hok
    cases hok
/-- A good page is read back by the specification. -/
theorem spage_has {low last : Int} {p : Pg} (hl : 1 ≤ low) (hh : last ≤ 999) (hok : bodyOk low last p = true) {L : List Int} (h : Has L 0 (bodyB false p)) : sRead L p.kind (p.ks.length + p.es.length) = ({ p with tx := 0 }, true) := by
  obtain ⟨kind, tx, id, root, count, ks, es, next, data⟩ := p
  unfold bodyOk at hok
  unfold bodyB at h
  unfold sRead
  simp only at hok h ⊢
  by_cases h1 : kind = 1
  · subst h1
    simp only [if_true] at hok h ⊢
    simp only [metaOk, Bool.and_eq_true, inB, decide_eq_true_eq] at hok
    obtain ⟨⟨⟨⟨⟨⟨o1, o2⟩, o3⟩, o4⟩, o5⟩, o6⟩, o7⟩ := hok
    have e7 := empty_of o7
    have e4 := List.eq_nil_of_length_eq_zero o4
    have e5 := List.eq_nil_of_length_eq_zero o5
    subst e7 e4 e5 o6
    rw [smeta_has id root count (by omega) (by omega) (by omega) (meta_of h)]
    rfl
  by_cases h2 : kind = 2
  · subst h2
    rw [if_neg (by decide), if_pos rfl] at hok h ⊢
    have hsz := branch_sizes hok
    have hgd := kids_good (by omega) hh hok
    simp only [branchOk, noMeta, Bool.and_eq_true, decide_eq_true_eq] at hok
    obtain ⟨⟨⟨⟨⟨⟨⟨o1, o2⟩, o3⟩, o4⟩, _⟩, _⟩, _⟩, _⟩ := hok
    obtain ⟨rfl, rfl, rfl⟩ := o1
    have e4 := empty_of o4
    have e2 := List.eq_nil_of_length_eq_zero o2
    simp only at e4 e2 o3 hsz hgd
    subst e4 e2 o3
    have hkr := sKids_has ks hgd.1 hsz.2 hgd.2 ks.length (Nat.le_refl _) h
    simp only [List.length_nil, Nat.add_zero, hkr, List.take_length, Option.isSome_some]
  by_cases h3 : kind = 3
  · subst h3
    rw [if_neg (by decide), if_neg (by decide), if_pos rfl] at hok h ⊢
    have hgd := ents_good hl hh hok
    simp only [leafOk, noMeta, Bool.and_eq_true, decide_eq_true_eq] at hok
    obtain ⟨⟨⟨⟨⟨o1, o2⟩, o3⟩, o4⟩, _⟩, _⟩ := hok
    obtain ⟨rfl, rfl, rfl⟩ := o1
    have e4 := empty_of o4
    have e2 := List.eq_nil_of_length_eq_zero o2
    simp only at e4 e2 o3 hgd
    subst e4 e2 o3
    have hkr := sEnts_has es hgd es.length (Nat.le_refl _) h
    simp only [List.length_nil, Nat.zero_add, hkr, List.take_length, Option.isSome_some]
  by_cases h4 : kind = 4
  · subst h4
    rw [if_neg (by decide), if_neg (by decide), if_neg (by decide), if_pos rfl] at hok h ⊢
    simp only [overOk, noMeta, Bool.and_eq_true, Bool.or_eq_true, inB, decide_eq_true_eq] at hok
    obtain ⟨⟨⟨⟨⟨o1, o2⟩, o3⟩, _⟩, o5⟩, o6⟩ := hok
    obtain ⟨rfl, rfl, rfl⟩ := o1
    have e2 := List.eq_nil_of_length_eq_zero o2
    have e3 := List.eq_nil_of_length_eq_zero o3
    subst e2 e3
    rw [sover_has next data (by omega) h]
    rfl
  · rw [if_neg h1, if_neg h2, if_neg h3, if_neg h4] at hok
    cases hok
end New
end Go.Proofs.YtnpndbicmamggaaGreat
namespace Go.Proofs.YtnpndbicmamggaaGreat
open Go.RowKit
set_option linter.unusedVariables false
set_option maxRecDepth 100000

def crcBit (c : Int) : Int := if c % 2 = 1 then bits .xor .u32 (c / 2) 3988292384 else c / 2
def crcBits : Nat → Int → Int
  | 0, c => c
  | k + 1, c => crcBit (crcBits k c)
def crcByte (c x : Int) : Int := crcBits 8 (bits .xor .u32 c x)
def crcList (c : Int) (bs : List Int) : Int := bs.foldl crcByte c
theorem xor32_range (a b : Int) : 0 ≤ bits .xor .u32 a b ∧ bits .xor .u32 a b < 4294967296 := by
  unfold bits
  simp only [IntKind.wrap_u32']
  omega

theorem and1_u32 {q : Int} (h : 0 ≤ q ∧ q < 4294967296) : bits .and .u32 q 1 = q % 2 := by
  rw [u32_and q 1 h.1 h.2 (by omega) (by omega), show (1 : Int).toNat = 1 from rfl, nat_mask1]
  omega
theorem crcBit_range {c : Int} (h : 0 ≤ c ∧ c < 4294967296) : 0 ≤ crcBit c ∧ crcBit c < 4294967296 := by
  unfold crcBit
  split
  · exact xor32_range _ _
  · omega
theorem crcBits_range {c : Int} (h : 0 ≤ c ∧ c < 4294967296) : ∀ k, 0 ≤ crcBits k c ∧ crcBits k c < 4294967296
  | 0 => h
  | k + 1 => crcBit_range (crcBits_range h k)
theorem getD_byte {bs : List Int} (hw : ∀ x ∈ bs, 0 ≤ x ∧ x ≤ 255) (k : Nat) : 0 ≤ bs.getD k 0 ∧ bs.getD k 0 ≤ 255 := by
  by_cases h : k < bs.length
  · rw [show bs.getD k 0 = bs[k] by simp [List.getD, h]]; exact hw _ (List.getElem_mem h)
  · rw [show bs.getD k 0 = 0 by simp [List.getD, Nat.le_of_not_lt h]]; omega
theorem crcList_take {bs : List Int} {k : Nat} (h : k < bs.length) (c : Int) : crcList c (bs.take (k + 1)) = crcByte (crcList c (bs.take k)) (bs.getD k 0) := by
  rw [crcList, ← List.take_append_getElem h, List.foldl_append]
  simp [crcList, List.getD, h]
theorem crcList_range {c : Int} (h : 0 ≤ c ∧ c < 4294967296) (bs : List Int) : 0 ≤ crcList c bs ∧ crcList c bs < 4294967296 := by
  induction bs generalizing c with
  | nil => exact h
  | cons b r ih => exact ih (crcBits_range (xor32_range _ _) 8)

set_option maxHeartbeats 400000 in
theorem specCrc_any (c : Int) (hc : 0 ≤ c ∧ c < 4294967296) (a : Option Addr) (n cc : Nat) (bs : List Int) (w : World) (A B : Nat) (h : BytesAt w A B a n cc bs) :
    Calls Tryz.prog 64 #[.int .u32 c, .slice a n cc] w fun e w' => e = .returned (.int .u32 (bits .xor .u32 IntKind.u32.max (crcList (bits .xor .u32 IntKind.u32.max c) bs))) ∧ w' = w := by
  obtain ⟨hl, hnc, hcm, hw, hcell, _⟩ := h
  unfold maxLen at hcm
  go_enter Tryz.func64, Tryz.ntmps64
  have hsg : IntKind.u32.signed = false := rfl
  go_wp2_with fail
  have r0 := xor32_range IntKind.u32.max c
  generalize hc0 : bits .xor .u32 IntKind.u32.max c = c0 at r0 ⊢
  have HC0 : Hid (bits .xor .u32 IntKind.u32.max c = c0) := hc0
  clear hc0
  go_loopw [0, 5] (fun x i wr => ∃ k : Nat, ∃ y, k ≤ n ∧ i = .int .i64 k ∧ x = .int .u32 y ∧ wr = w ∧ (0 ≤ y ∧ y < 4294967296) ∧ y = crcList c0 (bs.take k)) (fun x i _ => n - (intOf i).toNat)
  case atStart => exact ⟨0, _, Nat.zero_le _, rfl, rfl, rfl, r0, rfl⟩
  case round =>
    obtain ⟨k, y, hk, rfl, rfl, rfl, hy, hyl⟩ := hrel
    have HY : Hid (y = crcList c0 (bs.take k)) := hyl
    clear hyl
    by_cases hlt : k < n
    · obtain ⟨b, off, rfl, hb, hcb⟩ := hcell (by omega)
      have e1 := hcb k hlt
      have hx := getD_byte hw k
      have HZ : Hid (crcList c0 (bs.take (k + 1)) = crcBits 8 (bits .xor .u32 y (bs.getD k 0))) := by
        rw [HY.out]; exact crcList_take (by omega) c0
      clear hcell hcb
      generalize bs.getD k 0 = x at e1 hx HZ
      have hx2 : x % 4294967296 = x := by omega
      have hz := xor32_range y x
      go_wp2_with fail
      generalize bits .xor .u32 y x = z at HZ hz ⊢
      go_loopw [0, 6] (fun x i wr' => ∃ j : Nat, ∃ q, j ≤ 8 ∧ i = .int .i64 j ∧ x = .int .u32 q ∧ wr' = wr ∧ (0 ≤ q ∧ q < 4294967296) ∧ q = crcBits j z) (fun x i _ => 8 - (intOf i).toNat)
      case atStart => exact ⟨0, _, Nat.zero_le _, rfl, rfl, rfl, hz, rfl⟩
      case round =>
        obtain ⟨j, q, hj, rfl, rfl, rfl, hq, hql⟩ := hrel
        have HQ : Hid (q = crcBits j z) := hql
        clear hql
        by_cases hlj : j < 8
        · by_cases hp : q % 2 = 1
          · have HC : Hid (bits .xor .u32 (q / 2) 3988292384 = crcBits (j + 1) z) := by show _ = crcBit _; rw [← HQ.out, crcBit, if_pos hp]
            go_wp2
            go_roundw
            case rel => exact ⟨j + 1, _, by omega, by go_num, rfl, trivial, xor32_range _ _, HC.out⟩
            case measure => simp [intOf]; omega
          · have HC : Hid (q / 2 = crcBits (j + 1) z) := by show _ = crcBit _; rw [← HQ.out, crcBit, if_neg hp]
            go_wp2
            go_roundw
            case rel => exact ⟨j + 1, _, by omega, by go_num, rfl, trivial, by omega, HC.out⟩
            case measure => simp [intOf]; omega
        · have HJ : Hid (j = 8) := (by omega : j = 8)
          go_wp2
          go_roundw
          case rel => exact ⟨k + 1, q, by omega, by go_num, rfl, trivial, hq, by rw [HZ.out, HQ.out, HJ.out]⟩
          case measure => simp [intOf]; omega
    · go_wp2
      go_ret
      have HN : y = crcList c0 bs := by rw [HY.out, List.take_of_length_le (by omega)]
      rw [HC0.out, ← HN]
      exact ⟨rfl, rfl⟩

set_option maxHeartbeats 400000 in
theorem implCrc_any (c : Int) (hc : 0 ≤ c ∧ c < 4294967296) (a : Option Addr) (n cc : Nat) (bs : List Int) (w : World) (A B : Nat) (h : BytesAt w A B a n cc bs) :
    Calls Tryz.prog 76 #[.int .u32 c, .slice a n cc] w fun e w' => e = .returned (.int .u32 (bits .xor .u32 IntKind.u32.max (crcList (bits .xor .u32 IntKind.u32.max c) bs))) ∧ w' = w := by
  obtain ⟨hl, hnc, hcm, hw, hcell, _⟩ := h
  unfold maxLen at hcm
  go_enter Tryz.func76, Tryz.ntmps76
  have hsg : IntKind.u32.signed = false := rfl
  go_wp2_with fail
  have r0 := xor32_range IntKind.u32.max c
  generalize hc0 : bits .xor .u32 IntKind.u32.max c = c0 at r0 ⊢
  have HC0 : Hid (bits .xor .u32 IntKind.u32.max c = c0) := hc0
  clear hc0
  go_loopw [0, 11] (fun x i wr => ∃ k : Nat, ∃ y, k ≤ n ∧ i = .int .i64 k ∧ x = .int .u32 y ∧ wr = w ∧ (0 ≤ y ∧ y < 4294967296) ∧ y = crcList c0 (bs.take k)) (fun x i _ => n - (intOf i).toNat)
  case atStart => exact ⟨0, _, Nat.zero_le _, rfl, rfl, rfl, r0, rfl⟩
  case round =>
    obtain ⟨k, y, hk, rfl, rfl, rfl, hy, hyl⟩ := hrel
    have HY : Hid (y = crcList c0 (bs.take k)) := hyl
    clear hyl
    by_cases hlt : k < n
    · obtain ⟨b, off, rfl, hb, hcb⟩ := hcell (by omega)
      have e1 := hcb k hlt
      have hx := getD_byte hw k
      have HZ : Hid (crcList c0 (bs.take (k + 1)) = crcBits 8 (bits .xor .u32 y (bs.getD k 0))) := by
        rw [HY.out]; exact crcList_take (by omega) c0
      clear hcell hcb
      generalize bs.getD k 0 = x at e1 hx HZ
      have hx2 : x % 4294967296 = x := by omega
      have hz := xor32_range y x
      go_wp2_with fail
      generalize bits .xor .u32 y x = z at HZ hz ⊢
      go_loopw [0, 19] (fun x i wr' => ∃ j : Nat, ∃ q, j ≤ 8 ∧ i = .int .i64 j ∧ x = .int .u32 q ∧ wr' = wr ∧ (0 ≤ q ∧ q < 4294967296) ∧ q = crcBits j z) (fun x i _ => 8 - (intOf i).toNat)
      case atStart => exact ⟨0, _, Nat.zero_le _, rfl, rfl, rfl, hz, rfl⟩
      case round =>
        obtain ⟨j, q, hj, rfl, rfl, rfl, hq, hql⟩ := hrel
        have HQ : Hid (q = crcBits j z) := hql
        clear hql
        by_cases hlj : j < 8
        · by_cases hp : q % 2 = 1
          · have hand : bits .and .u32 q 1 = q % 2 := and1_u32 hq
            have HC : Hid (bits .xor .u32 (q / 2) 3988292384 = crcBits (j + 1) z) := by show _ = crcBit _; rw [← HQ.out, crcBit, if_pos hp]
            go_wp2
            go_roundw
            case rel => exact ⟨j + 1, _, by omega, by go_num, rfl, trivial, xor32_range _ _, HC.out⟩
            case measure => simp [intOf]; omega
          · have hand : bits .and .u32 q 1 = q % 2 := and1_u32 hq
            have HC : Hid (q / 2 = crcBits (j + 1) z) := by show _ = crcBit _; rw [← HQ.out, crcBit, if_neg hp]
            go_wp2
            go_roundw
            case rel => exact ⟨j + 1, _, by omega, by go_num, rfl, trivial, by omega, HC.out⟩
            case measure => simp [intOf]; omega
        · have HJ : Hid (j = 8) := (by omega : j = 8)
          go_wp2
          go_roundw
          case rel => exact ⟨k + 1, q, by omega, by go_num, rfl, trivial, hq, by rw [HZ.out, HQ.out, HJ.out]⟩
          case measure => simp [intOf]; omega
    · go_wp2
      go_ret
      have HN : y = crcList c0 bs := by rw [HY.out, List.take_of_length_le (by omega)]
      rw [HC0.out, ← HN]
      exact ⟨rfl, rfl⟩
end Go.Proofs.YtnpndbicmamggaaGreat
