import Derived.Test.YteienboknicpjaaGAA
import Derived.Test.YteienboknicpjaaGAD
import Derived.Test.YteienboknicpjaaGAG
import Derived.Test.YteienboknicpjaaGAH
import Derived.Test.YteienboknicpjaaGAJ
import Derived.Test.YteienboknicpjaaGAK
import Derived.Test.YteienboknicpjaaWr
import Derived.Lib.AppendStr
import Derived.Maps.OwnSet
namespace Go.Proofs.Yteienboknicpjaa
open Go.RowKit Go.Maps
set_option linter.unusedVariables false
set_option maxRecDepth 100000

/-- The bytes of the file of a name. -/
def dataN (fs : List PF) (nm : ByteArray) : List Int := if findN fs nm < fs.length then (fs.getD (findN fs nm) (ByteArray.empty, [])).2 else []
theorem find_at (p : PF → Bool) : ∀ fl : List PF, fl.find? p = if fl.findIdx p < fl.length then some (fl.getD (fl.findIdx p) (ByteArray.empty, [])) else none
  | [] => rfl
  | f :: r => by
    rw [List.find?_cons, List.findIdx_cons]
    cases hp : p f with
    | true => simp
    | false =>
      simp only [cond_false, List.length_cons]
      rw [find_at p r]
      by_cases h : r.findIdx p < r.length
      · rw [if_pos h, if_pos (by omega), List.getD_cons_succ]
      · rw [if_neg h, if_neg (by omega)]
theorem pageOf_data (fl : List PF) (nm : ByteArray) (pg : Int) : pageOf fl nm pg = pageF (dataN fl nm) pg := by
  unfold pageOf dataN
  rw [find_at]
  show (match (if findN fl nm < fl.length then some (fl.getD (findN fl nm) (ByteArray.empty, [])) else none) with | some f => pageF f.2 pg | none => none) = _
  by_cases h : findN fl nm < fl.length
  · rw [if_pos h, if_pos h]
  · rw [if_neg h, if_neg h]
    exact (pageF_none pg (fun _ => trivial)).symm
theorem dataN_of {fs : List PF} (h : Inv fs) {i : Nat} (hi : i < fs.length) : dataN fs (fs.getD i (ByteArray.empty, [])).1 = (fs.getD i (ByteArray.empty, [])).2 := by
  unfold dataN
  rw [findN_of h hi, if_pos hi]
theorem dataN_none {fs : List PF} {nm : ByteArray} (h : ¬ findN fs nm < fs.length) : dataN fs nm = [] := by unfold dataN; rw [if_neg h]
theorem dataN_len {fs : List PF} (h : Inv fs) (nm : ByteArray) : (dataN fs nm).length % 128 = 0 ∧ lenI fs nm = ((dataN fs nm).length : Int) / 128 := by
  unfold dataN lenI
  by_cases hf : findN fs nm < fs.length
  · rw [if_pos hf, if_pos hf]; exact ⟨(h.pg _ hf).2, rfl⟩
  · rw [if_neg hf, if_neg hf]; exact ⟨rfl, rfl⟩
theorem withName_data2 (fs : List PF) (nm : ByteArray) : ((withName fs nm).getD (findN (withName fs nm) nm) (ByteArray.empty, [])).2 = dataN fs nm := by
  by_cases h : findN fs nm < fs.length
  · have : withName fs nm = fs := by unfold withName; rw [if_pos h]
    rw [this]; unfold dataN; rw [if_pos h]
  · rw [dataN_none h]
    have := withName_data fs nm
    rw [if_neg h] at this
    exact List.length_eq_zero_iff.1 this
theorem doP_data {fs : List PF} {nm : ByteArray} {pg : Nat} {bs : List Int} (h : Inv fs) (x : ByteArray) : dataN (doP fs nm pg bs) x = if x = nm then doData (dataN fs nm) pg bs else dataN fs x := by
  obtain ⟨m1, m2, m3⟩ := withName_mem (nm := nm) h
  have hi' := doP_inv (nm := nm) (pg := pg) (bs := bs) h
  have hw := findN_with fs nm
  by_cases hx : x = nm
  · rw [if_pos hx]
    subst hx
    have hn : ((doP fs x pg bs).getD (findN (withName fs x) x) (ByteArray.empty, [])).1 = x := by rw [doP_name _ hw]; exact findN_name hw
    have e1 := dataN_of hi' (i := findN (withName fs x) x) (by rw [doP_len2]; exact hw)
    rw [hn] at e1
    rw [e1, doP_get, if_pos rfl, withName_data2]
  · rw [if_neg hx]
    by_cases hf : findN fs x < fs.length
    · obtain ⟨k, hk, hkx⟩ := findN_iff.1 hf
      obtain ⟨i, hil, hie⟩ := m3 k hk
      have hne : i ≠ findN (withName fs nm) nm := fun e => hx (by rw [← hkx, ← hie, e]; exact findN_name hw)
      have e1 := dataN_of hi' (i := i) (by rw [doP_len2]; exact hil)
      rw [doP_get, if_neg hne, hie, hkx] at e1
      have e2 := dataN_of h hk
      rw [hkx] at e2
      rw [e1, e2]
    · rw [dataN_none hf, dataN_none (fun hd => ((doP_found h x).1 hd).elim hx hf)]
theorem overTo_get (l : List Int) (off : Nat) (bs : List Int) (k j : Nat) (hk : off + k ≤ l.length) : (overTo l off bs k).getD j 0 = if off ≤ j ∧ j < off + k then bs.getD (j - off) 0 else l.getD j 0 := by
  induction k with
  | zero => rw [if_neg (by omega)]; rfl
  | succ k ih =>
    have ih := ih (by omega)
    show ((overTo l off bs k).set (off + k) (bs.getD k 0)).getD j 0 = _
    by_cases e : j = off + k
    · subst e
      rw [if_pos (by omega), show off + k - off = k by omega]
      simp only [List.getD, List.getElem?_set, overTo_len]
      rw [if_pos trivial, if_pos (by omega)]
      rfl
    · have : ((overTo l off bs k).set (off + k) (bs.getD k 0)).getD j 0 = (overTo l off bs k).getD j 0 := by
        simp only [List.getD, List.getElem?_set]
        rw [if_neg (fun e2 => e e2.symm)]
      rw [this, ih]
      by_cases h2 : off ≤ j ∧ j < off + k
      · rw [if_pos h2, if_pos (by omega)]
      · rw [if_neg h2, if_neg (by omega)]
theorem doData_get {l : List Int} {pg : Nat} {bs : List Int} (hb : bs.length = 128) (j : Nat) : (doData l pg bs).getD j 0 = if pg * 128 ≤ j ∧ j < pg * 128 + 128 then bs.getD (j - pg * 128) 0 else l.getD j 0 := by
  unfold doData
  rw [hb, overTo_get _ _ _ _ _ (by rw [extZ_len]; omega)]
  congr 1
  unfold extZ
  by_cases h : j < l.length
  · simp only [List.getD, List.getElem?_append_left h]
  · simp only [List.getD, List.getElem?_append_right (Nat.le_of_not_lt h), List.getElem?_eq_none (Nat.le_of_not_lt h), List.getElem?_replicate]
    split <;> rfl
theorem part_eq {a b : List Int} {i : Nat} (ha : i + 128 ≤ a.length) (hb : i + 128 ≤ b.length) (h : ∀ j, i ≤ j → j < i + 128 → a.getD j 0 = b.getD j 0) : (a.drop i).take 128 = (b.drop i).take 128 := by
  apply List.ext_getElem (by simp; omega)
  intro j h1 h2
  simp at h1
  have := h (i + j) (by omega) (by omega)
  simp only [List.getD, List.getElem?_eq_getElem (show i + j < a.length by omega), List.getElem?_eq_getElem (show i + j < b.length by omega), Option.getD_some] at this
  simpa using this
theorem doData_page {l : List Int} {pg : Nat} {bs : List Int} (hl : l.length % 128 = 0) (hp : (pg : Int) ≤ (l.length : Int) / 128) (hb : bs.length = 128) (t : Int) : pageF (doData l pg bs) t = if t = (pg : Int) then some bs else pageF l t := by
  have hlen := doData_len l pg bs
  unfold pageF
  by_cases ht : t = (pg : Int)
  · subst ht
    rw [if_pos rfl, if_pos (by rw [hlen]; omega)]
    congr 1
    apply List.ext_getElem (by simp only [List.length_take, List.length_drop, hlen, hb, Int.toNat_natCast]; omega)
    intro j h1 h2
    have hg := doData_get (l := l) (pg := pg) hb (pg * 128 + j)
    rw [if_pos (by omega), show pg * 128 + j - pg * 128 = j by omega] at hg
    simp only [List.getD, List.getElem?_eq_getElem h2, List.getElem?_eq_getElem (show pg * 128 + j < (doData l pg bs).length by rw [hlen]; omega), Option.getD_some] at hg
    simpa using hg
  · rw [if_neg ht]
    by_cases hc : 0 ≤ t ∧ t * 128 + 128 ≤ l.length
    · rw [if_pos hc, if_pos (by rw [hlen]; omega)]
      obtain ⟨u, rfl⟩ := Int.eq_ofNat_of_zero_le hc.1
      congr 1
      refine part_eq (by rw [hlen]; simp only [Int.toNat_natCast]; omega) (by simp only [Int.toNat_natCast]; omega) (fun j h1 h2 => ?_)
      rw [doData_get hb, if_neg (fun h => ?_)]
      simp only [Int.toNat_natCast] at h1 h2
      omega
    · rw [if_neg hc, if_neg (by rw [hlen]; omega)]
/-- All bytes are bytes. -/
def ByteF (fs : List PF) : Prop := ∀ nm, ∀ x ∈ dataN fs nm, 0 ≤ x ∧ x ≤ 255
theorem ByteF.do {fs : List PF} {nm : ByteArray} {pg : Nat} {bs : List Int} (h : Inv fs) (hf : ByteF fs) (hb : ∀ x ∈ bs, 0 ≤ x ∧ x ≤ 255) : ByteF (doP fs nm pg bs) := by
  intro x
  rw [doP_data h]
  by_cases hx : x = nm
  · rw [if_pos hx]; exact overTo_byte _ _ _ _ (extZ_byte _ _ (hf nm)) hb
  · rw [if_neg hx]; exact hf x
theorem page_byte {fs : List PF} (hf : ByteF fs) (nm : ByteArray) (t : Int) (bs : List Int) (h : pageOf fs nm t = some bs) : bs.length = 128 ∧ ∀ x ∈ bs, 0 ≤ x ∧ x ≤ 255 := by
  rw [pageOf_data] at h
  obtain ⟨h1, h2⟩ := pageF_len h
  exact ⟨h1, fun x hx => hf nm x (h2 x hx)⟩
theorem page_there {fs : List PF} (h : Inv fs) (nm : ByteArray) (t : Nat) : (∃ bs, pageOf fs nm t = some bs) ↔ t < (lenI fs nm).toNat := by
  obtain ⟨h1, h2⟩ := dataN_len h nm
  rw [pageOf_data, h2]
  unfold pageF
  by_cases hc : 0 ≤ (t : Int) ∧ (t : Int) * 128 + 128 ≤ (dataN fs nm).length
  · rw [if_pos hc]; exact ⟨fun _ => by omega, fun _ => ⟨_, rfl⟩⟩
  · rw [if_neg hc]; exact ⟨fun e => (by obtain ⟨_, e⟩ := e; cases e), fun e => by omega⟩
/-- A whole write, done to the map of sheets, is the write done to the files. -/
theorem do_write {fs : List PF} {nm : ByteArray} {pg : Nat} {bs : List Int} (h : Inv fs) (hp : (pg : Int) ≤ lenI fs nm) (hb : bs.length = 128) (nm' : ByteArray) (t : Int) : pageOf (doP fs nm pg bs) nm' t = writeS (pageOf fs) nm (lenI fs nm).toNat pg bs 128 nm' t := by
  obtain ⟨h1, h2⟩ := dataN_len h nm
  unfold writeS
  have ho : (oldS (pageOf fs) nm pg).drop 128 = [] := by
    apply List.drop_eq_nil_of_le
    unfold oldS
    cases hS : pageOf fs nm pg with
    | some cs => rw [pageOf_data] at hS; exact Nat.le_of_eq (pageF_len hS).1
    | none => exact Nat.le_of_eq zeros_len
  rw [pageOf_data, doP_data h, ho, List.append_nil, List.take_of_length_le (by omega)]
  by_cases hn : nm' = nm
  · rw [if_pos hn, doData_page h1 (by rw [← h2]; exact hp) hb]
    by_cases ht : t = (pg : Int)
    · rw [if_pos ht, if_pos ⟨hn, ht⟩]
    · rw [if_neg ht, if_neg (fun e => ht e.2)]
      unfold fillS
      rw [if_neg (fun e => by omega), pageOf_data, hn]
  · rw [if_neg hn, if_neg (fun e => hn e.1)]
    unfold fillS
    rw [if_neg (fun e => hn e.1), pageOf_data]
end Go.Proofs.Yteienboknicpjaa
namespace Go.Proofs.Yteienboknicpjaa
open Go.RowKit Go.Maps
set_option linter.unusedVariables false
set_option maxRecDepth 100000

theorem doData_getC {l : List Int} {pg : Nat} {bs : List Int} (hb : bs.length ≤ 128) (j : Nat) : (doData l pg bs).getD j 0 = if pg * 128 ≤ j ∧ j < pg * 128 + bs.length then bs.getD (j - pg * 128) 0 else l.getD j 0 := by
  unfold doData
  rw [overTo_get _ _ _ _ _ (by rw [extZ_len]; omega)]
  congr 1
  unfold extZ
  by_cases h : j < l.length
  · simp only [List.getD, List.getElem?_append_left h]
  · simp only [List.getD, List.getElem?_append_right (Nat.le_of_not_lt h), List.getElem?_eq_none (Nat.le_of_not_lt h), List.getElem?_replicate]
    split <;> rfl
theorem ext_getD {a b : List Int} (hl : a.length = b.length) (h : ∀ j, j < a.length → a.getD j 0 = b.getD j 0) : a = b := by
  apply List.ext_getElem hl
  intro j h1 h2
  have := h j h1
  simpa [List.getD, List.getElem?_eq_getElem h1, List.getElem?_eq_getElem h2] using this
theorem part_getD (l : List Int) (i j : Nat) (h : j < 128) : ((l.drop i).take 128).getD j 0 = l.getD (i + j) 0 := by
  simp only [List.getD, List.getElem?_take_of_lt h, List.getElem?_drop]
theorem zeros_getD (j : Nat) : zeros.getD j 0 = 0 := by
  unfold zeros
  simp only [List.getD, List.getElem?_replicate]
  split <;> rfl
theorem mix_getD {a b : List Int} {ca j : Nat} (hc : ca ≤ a.length) : (a.take ca ++ b.drop ca).getD j 0 = if j < ca then a.getD j 0 else b.getD j 0 := by
  have hl : (a.take ca).length = ca := by simp; omega
  by_cases h : j < ca
  · rw [if_pos h]
    simp only [List.getD]
    rw [List.getElem?_append_left (by omega), List.getElem?_take_of_lt h]
  · rw [if_neg h]
    simp only [List.getD]
    rw [List.getElem?_append_right (by omega), List.getElem?_drop, hl]
    congr 2
    omega
theorem getD_over {l : List Int} {j : Nat} (h : l.length ≤ j) : l.getD j 0 = 0 := by simp [List.getD, List.getElem?_eq_none h]
/-- A write of the first ca bytes, page by page. -/
theorem doData_pageC {l : List Int} {pg ca : Nat} {bs : List Int} (hl : l.length % 128 = 0) (hb : bs.length = 128) (hc : ca ≤ 128) (t : Int) : pageF (doData l pg (bs.take ca)) t = if t = (pg : Int) then some (bs.take ca ++ ((pageF l pg).getD zeros).drop ca) else if (((l.length / 128 : Nat) : Int) ≤ t ∧ t < (pg : Int)) then some zeros else pageF l t := by
  have hlen := doData_len l pg (bs.take ca)
  have htl : (bs.take ca).length = ca := by simp; omega
  have hget := fun j => doData_getC (l := l) (pg := pg) (bs := bs.take ca) (by omega) j
  rw [htl] at hget
  obtain ⟨old, hold⟩ : ∃ old, old = (pageF l pg).getD zeros := ⟨_, rfl⟩
  have hol : old.length = 128 := by
    rw [hold]
    cases hS : pageF l pg with
    | some cs => exact (pageF_len hS).1
    | none => exact zeros_len
  have hog : ∀ j, j < 128 → old.getD j 0 = l.getD (pg * 128 + j) 0 := by
    intro j hj2
    rw [hold]
    unfold pageF
    by_cases hp : 0 ≤ (pg : Int) ∧ (pg : Int) * 128 + 128 ≤ l.length
    · rw [if_pos hp, Option.getD_some, part_getD _ _ _ hj2]
      simp only [Int.toNat_natCast]
    · rw [if_neg hp, Option.getD_none, zeros_getD, getD_over (by omega)]
  rw [← hold]
  clear hold
  unfold pageF
  by_cases ht : t = (pg : Int)
  · subst ht
    rw [if_pos rfl, if_pos (by rw [hlen]; omega)]
    congr 1
    refine ext_getD (by simp only [List.length_append, List.length_drop, List.length_take, hlen, hol, hb, Int.toNat_natCast]; omega) (fun j hj => ?_)
    have hj2 : j < 128 := by simp only [List.length_take, List.length_drop] at hj; omega
    rw [part_getD _ _ _ hj2, hget, mix_getD (by omega)]
    simp only [Int.toNat_natCast]
    by_cases hjc : j < ca
    · rw [if_pos (by omega), if_pos hjc, show pg * 128 + j - pg * 128 = j by omega]
      simp only [List.getD, List.getElem?_take_of_lt hjc]
    · rw [if_neg (by omega), if_neg hjc, hog j hj2]
  · rw [if_neg ht]
    by_cases hz : ((l.length / 128 : Nat) : Int) ≤ t ∧ t < (pg : Int)
    · rw [if_pos hz, if_pos (by rw [hlen]; omega)]
      congr 1
      obtain ⟨u, rfl⟩ := Int.eq_ofNat_of_zero_le (show 0 ≤ t by omega)
      refine ext_getD (by simp only [List.length_take, List.length_drop, hlen, zeros_len, Int.toNat_natCast]; omega) (fun j hj => ?_)
      have hj2 : j < 128 := by simp only [List.length_take, List.length_drop] at hj; omega
      rw [part_getD _ _ _ hj2, hget, zeros_getD]
      simp only [Int.toNat_natCast]
      rw [if_neg (by omega), getD_over (by omega)]
    · rw [if_neg hz]
      by_cases hp : 0 ≤ t ∧ t * 128 + 128 ≤ l.length
      · rw [if_pos hp, if_pos (by rw [hlen]; omega)]
        obtain ⟨u, rfl⟩ := Int.eq_ofNat_of_zero_le hp.1
        congr 1
        refine ext_getD (by simp only [List.length_take, List.length_drop, hlen, Int.toNat_natCast]; omega) (fun j hj => ?_)
        have hj2 : j < 128 := by simp only [List.length_take, List.length_drop] at hj; omega
        rw [part_getD _ _ _ hj2, part_getD _ _ _ hj2, hget, if_neg (by simp only [Int.toNat_natCast]; omega)]
      · rw [if_neg hp, if_neg (by rw [hlen]; omega)]
/-- A torn write, done to the map of sheets, is the torn write done to the files. -/
theorem do_writeC {fs : List PF} {nm : ByteArray} {pg ca : Nat} {bs : List Int} (h : Inv fs) (hb : bs.length = 128) (hc : ca ≤ 128) (nm' : ByteArray) (t : Int) : pageOf (doP fs nm pg (bs.take ca)) nm' t = writeS (pageOf fs) nm (lenI fs nm).toNat pg bs ca nm' t := by
  obtain ⟨h1, h2⟩ := dataN_len h nm
  have hL : (((lenI fs nm).toNat : Nat) : Int) = (((dataN fs nm).length / 128 : Nat) : Int) := by rw [h2]; omega
  unfold writeS oldS
  rw [pageOf_data, pageOf_data, doP_data h]
  by_cases hn : nm' = nm
  · rw [if_pos hn, doData_pageC h1 hb hc]
    by_cases ht : t = (pg : Int)
    · rw [if_pos ht, if_pos ⟨hn, ht⟩]
    · have hx : ¬ (nm' = nm ∧ t = (pg : Int)) := fun e => ht e.2
      rw [if_neg ht, if_neg hx]
      unfold fillS
      rw [hL, pageOf_data, hn]
      by_cases hz : (((dataN fs nm).length / 128 : Nat) : Int) ≤ t ∧ t < (pg : Int)
      · rw [if_pos hz, if_pos ⟨rfl, hz⟩]
      · rw [if_neg hz, if_neg (fun e => hz e.2)]
  · rw [if_neg hn, if_neg (fun e => hn e.1)]
    unfold fillS
    rw [if_neg (fun e => hn e.1), pageOf_data]
theorem lenI_do {fs : List PF} {nm : ByteArray} {pg : Nat} {bs : List Int} (h : Inv fs) (x : ByteArray) : lenI (doP fs nm pg bs) x = if x = nm then max (lenI fs nm) ((pg : Int) + 1) else lenI fs x := by
  have e1 := (dataN_len (doP_inv (nm := nm) (pg := pg) (bs := bs) h) x).2
  rw [doP_data h] at e1
  rw [e1]
  by_cases hx : x = nm
  · rw [if_pos hx, if_pos hx, doData_len, (dataN_len h nm).2]
    have := (dataN_len h nm).1
    omega
  · rw [if_neg hx, if_neg hx, (dataN_len h x).2]
/-- No file of fk is longer than gk's. -/
def Und (fk gk : List PF) : Prop := ∀ nm, lenI fk nm ≤ lenI gk nm
theorem Und.refl (fs : List PF) : Und fs fs := fun _ => Int.le_refl _
theorem Und.both {fk gk : List PF} {nm : ByteArray} {pg : Nat} {bs cs : List Int} (h : Und fk gk) (hf : Inv fk) (hg : Inv gk) : Und (doP fk nm pg bs) (doP gk nm pg cs) := by
  intro x
  rw [lenI_do hf, lenI_do hg]
  have h1 := h nm
  have h2 := h x
  split <;> omega
theorem Und.only {fk gk : List PF} {nm : ByteArray} {pg : Nat} {cs : List Int} (h : Und fk gk) (hg : Inv gk) : Und fk (doP gk nm pg cs) := by
  intro x
  rw [lenI_do hg]
  have h2 := h x
  by_cases hx : x = nm
  · subst hx; rw [if_pos rfl]; omega
  · rw [if_neg hx]; exact h2
theorem nodup_le {α : Type} [DecidableEq α] : ∀ (l m : List α), l.Nodup → (∀ x ∈ l, x ∈ m) → l.length ≤ m.length
  | [], _, _, _ => Nat.zero_le _
  | a :: l, m, hn, hs => by
    rw [List.nodup_cons] at hn
    have h1 := nodup_le l (m.erase a) hn.2 (fun x hx => (List.mem_erase_of_ne (show x ≠ a from fun e => hn.1 (e ▸ hx))).2 (hs x (List.mem_cons_of_mem _ hx)))
    have h2 := List.length_erase_of_mem (hs a (List.mem_cons_self))
    have h3 : 0 < m.length := List.length_pos_of_mem (hs a (List.mem_cons_self))
    simp only [List.length_cons]
    omega
theorem Und.len {fk gk : List PF} (h : Und fk gk) (hf : Inv fk) (hg : Inv gk) : fk.length ≤ gk.length := by
  have := nodup_le (fk.map (·.1)) (gk.map (·.1)) ?_ ?_
  · simpa using this
  · refine List.pairwise_iff_getElem.2 fun i j hi hj hij => ?_
    simp only [List.length_map] at hi hj
    have := hf.ne i j (by omega) hi hj
    simpa [List.getD, List.getElem?_eq_getElem hi, List.getElem?_eq_getElem hj] using this
  · intro x hx
    obtain ⟨f, hfm, rfl⟩ := List.mem_map.1 hx
    obtain ⟨i, hi, rfl⟩ := List.getElem_of_mem hfm
    have e1 := (dataN_of hf hi)
    have e2 := (hf.pg i hi).1
    have e3 := (dataN_len hf (fk.getD i (ByteArray.empty, [])).1).2
    rw [e1] at e3
    have e4 := h (fk.getD i (ByteArray.empty, [])).1
    have e5 : 0 < lenI gk (fk.getD i (ByteArray.empty, [])).1 := by omega
    by_cases hfd : findN gk (fk.getD i (ByteArray.empty, [])).1 < gk.length
    · obtain ⟨k, hk, hkx⟩ := findN_iff.1 hfd
      refine List.mem_map.2 ⟨gk[k], List.getElem_mem hk, ?_⟩
      simpa [List.getD, List.getElem?_eq_getElem hi, List.getElem?_eq_getElem hk] using hkx
    · unfold lenI at e5; rw [if_neg hfd] at e5; omega
theorem Und.small {fk gk : List PF} (h : Und fk gk) (hf : Inv fk) {cp : Int} (ht : totalI gk ≤ cp) : ∀ j, j < fk.length → ((fk.getD j (ByteArray.empty, [])).2.length : Int) ≤ cp * 128 := by
  intro i hi
  have e1 := (dataN_of hf hi)
  have e3 := (dataN_len hf (fk.getD i (ByteArray.empty, [])).1).2
  have e2 := (hf.pg i hi).2
  rw [e1] at e3
  have e4 := h (fk.getD i (ByteArray.empty, [])).1
  have e5 := (lenI_le_total gk (fk.getD i (ByteArray.empty, [])).1).2
  omega
/-- How many bytes of a torn write are done. -/
def atN (ta : Int) : Nat := (min (max ta 0) 128).toNat
theorem atN_le (ta : Int) : atN ta ≤ 128 := by unfold atN; omega
/-- What a crash makes of one write. -/
def crS (tr ta : Int) (ks : List Bool) (i : Nat) (fs : List PF) (p : PP) : List PF :=
  if (i : Int) = tr then doP fs p.1 p.2.1.toNat (p.2.2.take (atN ta)) else if ks.getD i false = true then doP fs p.1 p.2.1.toNat p.2.2 else fs
/-- The files behind a crash. -/
def crF (tr ta : Int) (ks : List Bool) : Nat → List PP → List PF → List PF
  | _, [], fs => fs
  | i, p :: r, fs => crF tr ta ks (i + 1) r (crS tr ta ks i fs p)
/-- What holds of the files behind the writes so far (fk: those that a crash leaves; gk: those that are seen). -/
structure CrI (fk gk : List PF) (cp : Int) : Prop where
  inv : Inv fk
  byt : ByteF fk
  srt : SortedN fk
  nms : ∀ f ∈ fk, f.1.size ≤ maxLen
  und : Und fk gk
  ginv : Inv gk
  gtot : totalI gk ≤ cp
  glen : gk.length ≤ 12
theorem CrI.len {fk gk : List PF} {cp : Int} (h : CrI fk gk cp) : fk.length ≤ 12 := Nat.le_trans (h.und.len h.inv h.ginv) h.glen
theorem CrI.small {fk gk : List PF} {cp : Int} (h : CrI fk gk cp) (hcp : cp ≤ 1000) : ∀ j, j < fk.length → (fk.getD j (ByteArray.empty, [])).2.length ≤ 128000 := fun j hj => by
  have := h.und.small h.inv h.gtot j hj
  omega
theorem CrI.smallM {fk gk : List PF} {cp : Int} (h : CrI fk gk cp) (hcp : cp ≤ 1000) : ∀ f ∈ fk, f.2.length ≤ 128000 := fun f hf => by
  obtain ⟨i, hi, rfl⟩ := List.getElem_of_mem hf
  have := h.small hcp i hi
  simpa [List.getD, List.getElem?_eq_getElem hi] using this
theorem CrI.both {fk gk : List PF} {cp : Int} {nm : ByteArray} {pg : Nat} {bs pd : List Int} (h : CrI fk gk cp) (hnm : nm.size ≤ maxLen) (hb : ∀ x ∈ bs, 0 ≤ x ∧ x ≤ 255) (h1 : totalI (doP gk nm pg pd) ≤ cp) (h2 : (doP gk nm pg pd).length ≤ 12) : CrI (doP fk nm pg bs) (doP gk nm pg pd) cp :=
  ⟨doP_inv h.inv, h.byt.do h.inv hb, doP_sorted h.srt, doP_names h.nms hnm, h.und.both h.inv h.ginv, doP_inv h.ginv, h1, h2⟩
theorem CrI.only {fk gk : List PF} {cp : Int} {nm : ByteArray} {pg : Nat} {pd : List Int} (h : CrI fk gk cp) (h1 : totalI (doP gk nm pg pd) ≤ cp) (h2 : (doP gk nm pg pd).length ≤ 12) : CrI fk (doP gk nm pg pd) cp :=
  ⟨h.inv, h.byt, h.srt, h.nms, h.und.only h.ginv, doP_inv h.ginv, h1, h2⟩
theorem crF_tear {tr ta : Int} {ks : List Bool} {k : Nat} {nm : ByteArray} {pg : Nat} {pd : List Int} {r : List PP} {fk : List PF} (h : (k : Int) = tr) : crF tr ta ks k ((nm, (pg : Int), pd) :: r) fk = crF tr ta ks (k + 1) r (doP fk nm pg (pd.take (atN ta))) := by
  simp only [crF, crS]
  rw [if_pos h]
  simp
theorem crF_keep {tr ta : Int} {ks : List Bool} {k : Nat} {nm : ByteArray} {pg : Nat} {pd : List Int} {r : List PP} {fk : List PF} (h : ¬ (k : Int) = tr) (hk : ks.getD k false = true) : crF tr ta ks k ((nm, (pg : Int), pd) :: r) fk = crF tr ta ks (k + 1) r (doP fk nm pg pd) := by
  simp only [crF, crS]
  rw [if_neg h, if_pos hk]
  simp
theorem crF_skip {tr ta : Int} {ks : List Bool} {k : Nat} {p : PP} {r : List PP} {fk : List PF} (h : ¬ (k : Int) = tr) (hk : ks.getD k false = false) : crF tr ta ks k (p :: r) fk = crF tr ta ks (k + 1) r fk := by
  simp only [crF, crS]
  rw [if_neg h, if_neg (by rw [hk]; simp)]
theorem atN_if (ta : Int) : (if (128 : Int) < (if ta < 0 then 0 else ta) then 128 else (if ta < 0 then 0 else ta)) = (atN ta : Int) := by
  unfold atN
  split <;> split <;> omega
end Go.Proofs.Yteienboknicpjaa
namespace Go.Proofs.Yteienboknicpjaa
open Go.RowKit
set_option linter.unusedVariables false
set_option maxRecDepth 100000

/-- The bytes of a string. -/
def strB (s : ByteArray) : List Int := s.data.toList.map fun b => (b.toNat : Int)
theorem strB_len (s : ByteArray) : (strB s).length = s.size := by simp [strB]
theorem strB_byte (s : ByteArray) : ∀ x ∈ strB s, 0 ≤ x ∧ x ≤ 255 := by
  intro x hx
  simp only [strB, List.mem_map] at hx
  obtain ⟨b, _, rfl⟩ := hx
  have := b.toNat_lt
  omega
theorem u8s_strB (s : ByteArray) : u8s (strB s) = Lib.strCells s := by simp [u8s, strB, Lib.strCells]
theorem u8s_append (a b : List Int) : u8s (a ++ b) = u8s a ++ u8s b := by simp [u8s]

/-- append(v, x...), both bytes, v one's own. -/
theorem wpList_ab {w : World} {ops : Array Oper} {rest : List Oper} {o : Oper} {a : Act} {Q : Exit → Act → World → Prop} (hgd : o.guard = none) (s x : Operand)
    (ho : o.op = .call { callee := .builtin .append, args := #[s, x], argTypes := #[22, 22] })
    (base : Nat) (v : Value) (n : Nat) (bs : List Int) (hs : a.eval s = v) (hown : w.ownsRow base 5 1 v n (u8s bs))
    (ad : Option Addr) (m c : Nat) (cs : List Int) (A B : Nat) (hx : a.eval x = .slice ad m c) (hB : BytesAt w A B ad m c cs) (hnm : n + m ≤ 1073741824) (hbase : base ≤ w.heap.size)
    (h : ∀ v' w', w'.ownsRow base 5 1 v' (n + m) (u8s (bs ++ cs)) → w.grownBy w' v.ownBlock → wpList Try.prog ops Q rest (a.put o.dst v') w') : wpList Try.prog ops Q (o :: rest) a w := by
  obtain ⟨i0, hi, hz0, hz1, hz2⟩ := info_parts info_u8
  obtain ⟨hl, hnc, hc, hw, hcell, hnil⟩ := hB
  rcases ad with _ | ad
  · have hm0 : m = 0 := by
      by_cases h0 : m = 0
      · exact h0
      · obtain ⟨_, _, h1, _⟩ := hcell (by omega); cases h1
    subst hm0
    have hc0 := hnil rfl
    subst hc0
    refine wpList_append_own_none hgd s x 22 ho base 5 i0 1 Try.underlying22 hi v n (u8s bs) hs hown hx ?_
    refine h v w ?_ ⟨rfl, rfl, rfl, Nat.le_refl _, fun _ _ _ => rfl⟩
    rw [List.eq_nil_of_length_eq_zero hl, List.append_nil]
    exact hown
  · refine wpList_append_own w hgd s x 22 ho base 5 i0 (.int .u8 0) 1 1 Try.underlying22 hi hz0 hz1 hz2 rfl (by decide) v n (u8s bs) hs hown ad m c (u8s cs) hx (by simp [u8s, hl]) ?_ ?_ (by unfold maxLen; omega) (by omega) hbase ?_
    · intro j u hj
      have hjn : j < m := by
        have := (List.getElem?_eq_some_iff.1 hj).1
        simp [u8s] at this; omega
      obtain ⟨b, off, h1, h2, h3⟩ := hcell (by omega)
      cases h1
      have h4 := h3 j hjn
      have h5 : (⟨b, off, none⟩ : Addr).add j = ⟨b, off + j, none⟩ := by simp [Addr.add]
      rw [h5, h4]
      simp [u8s, List.getElem?_map] at hj
      obtain ⟨y, hy, rfl⟩ := hj
      simp [List.getD, hy]
    · intro u hu; simp [u8s] at hu; obtain ⟨y, _, rfl⟩ := hu; rfl
    · intro v' w' h1 h2 _
      rw [← u8s_append] at h1
      exact h v' w' h1 h2
/-- append(v, s...), s a string. -/
theorem wpList_as {w : World} {ops : Array Oper} {rest : List Oper} {o : Oper} {a : Act} {Q : Exit → Act → World → Prop} (hgd : o.guard = none) (s x : Operand)
    (ho : o.op = .call { callee := .builtin .append, args := #[s, x], argTypes := #[22, 9] })
    (base : Nat) (v : Value) (n : Nat) (bs : List Int) (hs : a.eval s = v) (hown : w.ownsRow base 5 1 v n (u8s bs))
    (t : ByteArray) (hx : a.eval x = .string t) (hnm : n + t.size ≤ 1073741824) (hbase : base ≤ w.heap.size)
    (h : ∀ v' w', w'.ownsRow base 5 1 v' (n + t.size) (u8s (bs ++ strB t)) → w.grownBy w' v.ownBlock → wpList Try.prog ops Q rest (a.put o.dst v') w') : wpList Try.prog ops Q (o :: rest) a w := by
  obtain ⟨i0, hi, hz0, hz1, hz2⟩ := info_parts info_u8
  refine Lib.wpList_append_own_string w hgd s x 22 9 ho base 5 i0 Try.underlying22 Try.underlying9 hi hz0 hz1 hz2 v n (u8s bs) hs hown t hx (by unfold maxLen; omega) (by omega) hbase ?_
  intro v' w' h1 h2 _
  rw [← u8s_strB, ← u8s_append] at h1
  exact h v' w' h1 h2
end Go.Proofs.Yteienboknicpjaa
namespace Go.Proofs.Yteienboknicpjaa
open Go.RowKit
set_option linter.unusedVariables false
set_option maxRecDepth 100000

set_option maxHeartbeats 400000 in
theorem clone_any (a : Option Addr) (n c : Nat) (bs : List Int) (w : World) (A B : Nat) (hB : B ≤ w.heap.size) (h : BytesAt w A B a n c bs) (hn : n ≤ 1048576) :
    Calls Try.prog 23 #[.slice a n c] w fun e w' => ∃ va vc, e = .returned (.slice va n vc) ∧ w'.ownsRow w.heap.size 5 1 (.slice va n vc) n (u8s bs) ∧ Below w.heap.size w w' := by
  have hq : ∀ (w : World) (a : Option Addr) (n c n' c' : Nat), (binOp .eql 22 (.slice a n c) (.slice none n' c')).run Try.prog w = .ok (.bool a.isNone) w := fun w a n c n' c' => Lib.run_eql_slice_nil w _ _ a n c n' c' Try.underlying22
  go_enter Try.func23, Try.ntmps23
  rcases a with _ | ad
  · have hl := h.1
    have hn0 : n = 0 := by
      by_cases h0 : n = 0
      · exact h0
      · obtain ⟨_, _, h1, _⟩ := h.2.2.2.2.1 (by omega); cases h1
    subst hn0
    have hc0 := h.2.2.2.2.2 rfl
    subst hc0
    have hbs : bs = [] := List.eq_nil_of_length_eq_zero hl
    subst hbs
    go_wp2
    go_ret
    exact ⟨none, 0, rfl, World.ownsRow_nil _ _ _ _, Below.refl _ _⟩
  · have hb2 : Below w.heap.size w (w.alloc (.cells #[] 5)) := (Below.refl _ _).alloc (Nat.le_refl _) _
    have hR2 : (w.alloc (.cells #[] 5)).ownsRow w.heap.size 5 1 (.slice (some ⟨w.heap.size, 0, none⟩) 0 0) 0 (u8s []) := by
      have := World.ownsRow_made w #[] (base := w.heap.size) (e := 5) (size := 1) 0 (by simp) (by unfold maxLen; omega) (by simp)
      simpa [u8s] using this
    have hh := h.below (hb2.mono hB)
    go_wp2_with (at_builtin; refine wpList_ab rfl _ _ rfl w.heap.size _ 0 [] rfl hR2 (some ad) n c bs _ _ rfl hh (by omega) hb2.size ?_; intro v3 w3 hO3' hg3; have hO3 : w3.ownsRow w.heap.size 5 1 v3 n (u8s bs) := (by rw [Nat.zero_add, List.nil_append] at hO3'; exact hO3'); obtain ⟨a3, c3, rfl⟩ := own_shape hO3; clear hO3')
    have hb3 := hb2.grown hg3 hb2.size (fun g e => (hR2.lt g e).1)
    go_ret
    exact ⟨a3, c3, rfl, hO3, hb3⟩
/-- The state inside copyDisk's first loop. -/
structure CFt (w X : World) (cp fu : Int) (de : Bool) (sa sb v : Value) (fs : List PF) (xs vs : List Value) : Prop where
  d : X.heap[w.heap.size]? = some (.cells #[sa, sb, .int .i64 cp, .int .i64 fu, .bool de] 26)
  r : X.heap[w.heap.size + 1]? = some (.cells #[.slice none 0 0, .slice none 0 0, .int .i64 0, .int .i64 0, .bool false] 26)
  o : X.heap[w.heap.size + 1 + 1]? = some (.cells #[v, sb, .int .i64 cp, .int .i64 fu, .bool de] 26)
  files : OwnF X (w.heap.size + 3) v fs xs vs
  bel : Below w.heap.size w X
theorem CFt.lt {w X : World} {cp fu : Int} {de : Bool} {sa sb v : Value} {fs : List PF} {xs vs : List Value} (h : CFt w X cp fu de sa sb v fs xs vs) : w.heap.size + 1 + 1 < X.heap.size := (Array.getElem?_eq_some_iff.1 h.o).1
theorem CFt.below {w X X' : World} {cp fu : Int} {de : Bool} {sa sb v : Value} {fs : List PF} {xs vs : List Value} (h : CFt w X cp fu de sa sb v fs xs vs) (hb : Below X.heap.size X X') : CFt w X' cp fu de sa sb v fs xs vs := by
  have hl := h.lt
  exact ⟨(hb.block _ (by omega)).trans h.d, (hb.block _ (by omega)).trans h.r, (hb.block _ hl).trans h.o, h.files.below hb, h.bel.trans (hb.mono h.bel.size)⟩
theorem CFt.push {w X X1 X2 X3 : World} {cp fu : Int} {de : Bool} {sa sb v v' vb : Value} {fs : List PF} {xs vs : List Value} {f : PF} (h : CFt w X cp fu de sa sb v fs xs vs) (hb : Below X.heap.size X X1)
    (hvb : X1.ownsRow X.heap.size 5 1 vb f.2.length (u8s f.2)) (hs : f.1.size ≤ maxLen) (hby : ∀ x ∈ f.2, 0 ≤ x ∧ x ≤ 255) (hb2 : Below X1.heap.size X1 X2)
    (hrow : X3.ownsRow (w.heap.size + 3) 75 2 v' (fs.length + 1) (xs ++ [.string f.1, vb])) (hgr : X2.grownBy X3 v.ownBlock) :
    CFt w (X3.setCell ⟨w.heap.size + 1 + 1, 0, none⟩ v') cp fu de sa sb v' (fs ++ [f]) (xs ++ [.string f.1, vb]) (vs ++ [vb]) := by
  have hl := h.lt
  have hs1 := hb.size
  have hs2 := hb2.size
  have h2 := (h.below hb).below hb2
  have hF : Fr (fun g => v.ownBlock = some g) X2 X3 := Fr.of_grown hgr (fun g e => e)
  have hub : ∀ g, v.ownBlock = some g → w.heap.size + 3 ≤ g := fun g e => (h.files.row.lt g e).1
  have hpush := OwnF.push h.files (by omega) hb hvb hs hby hb2 hrow hgr
  have hset := fr_setCell X3 (w.heap.size + 1 + 1) 0 v'
  have ho3 : X3.heap[w.heap.size + 1 + 1]? = _ := (hF.block _ (by omega) (fun e => by have := hub _ e; omega)).trans h2.o
  exact ⟨(hset.block _ (by have := hF.size; omega) (by omega)).trans ((hF.block _ (by omega) (fun e => by have := hub _ e; omega)).trans h2.d), (hset.block _ (by have := hF.size; omega) (by omega)).trans ((hF.block _ (by omega) (fun e => by have := hub _ e; omega)).trans h2.r), by simpa using heap_setCell_at ho3 0 v', hpush.fr hset (fun g hg e => by have := (hpush.blk hg).1; omega), (h2.bel.trans (hF.below (by have := h2.bel.size; omega) (fun g e => by have := hub g e; omega))).trans (hset.below (by have := hF.size; have := h2.bel.size; omega) (fun g e => by omega))⟩
/-- From the first loop to the second: own.Cache is nil. -/
theorem CFt.turn {w X : World} {cp fu : Int} {de : Bool} {sa sb v : Value} {fs : List PF} {xs vs : List Value} (h : CFt w X cp fu de sa sb v fs xs vs) : CSt w (X.setCell ⟨w.heap.size + 1 + 1, 1, none⟩ (.slice none 0 0)) cp fu de sa sb v (.slice none 0 0) fs xs vs [] [] [] := by
  have hl := h.lt
  have hset := fr_setCell X (w.heap.size + 1 + 1) 1 (.slice none 0 0)
  refine ⟨(hset.block _ (by omega) (by omega)).trans h.d, (hset.block _ (by omega) (by omega)).trans h.r, by simpa using heap_setCell_at h.o 1 (.slice none 0 0), h.files.fr hset (fun g hg e => by have := (h.files.blk hg).1; omega), OwnP.nil (World.ownsRow_nil _ _ _ _), ?_, h.bel.trans (hset.below (by omega) (fun g e => by omega))⟩
  intro g hg hg2
  rcases hg2 with e | ⟨j, hj, e⟩
  · simp [Value.ownBlock] at e
  · cases hj
end Go.Proofs.Yteienboknicpjaa
namespace Go.Proofs.Yteienboknicpjaa
open Go.RowKit
set_option linter.unusedVariables false
set_option maxRecDepth 100000

set_option maxHeartbeats 800000 in
theorem l1Live_any (a : Option Addr) (n c : Nat) (fs : List PF) (b : Option Addr) (m d : Nat) (ps : List PP) (cp fu : Int) (de : Bool) (w : World) (A B : Nat) (hB : B ≤ w.heap.size) (hF : FilesAt w A B a n c fs) (hP : PendsAt w A B b m d ps)
    (hall : ∀ j, j < n → (fs.getD j (ByteArray.empty, [])).2.length ≤ 1048576) :
    Calls Try.prog 24 #[.agg #[.slice a n c, .slice b m d, .int .i64 cp, .int .i64 fu, .bool de]] w fun e w' => e = .returned (.bool (specV fs ps cp fu && !de)) ∧ Below w.heap.size w w' := by
  have hb0 : Below w.heap.size w (w.alloc (.cells #[.slice a n c, .slice b m d, .int .i64 cp, .int .i64 fu, .bool de] 26)) := (Below.refl _ _).alloc (Nat.le_refl _) _
  have k0 := heap_alloc_new w (.cells #[.slice a n c, .slice b m d, .int .i64 cp, .int .i64 fu, .bool de] 26)
  have HC : Hid (Calls Try.prog 40 #[.agg #[.slice a n c, .slice b m d, .int .i64 cp, .int .i64 fu, .bool de]] (w.alloc (.cells #[.slice a n c, .slice b m d, .int .i64 cp, .int .i64 fu, .bool de] 26)) fun e w' => e = .returned (.bool (specV fs ps cp fu)) ∧ Below (w.alloc (.cells #[.slice a n c, .slice b m d, .int .i64 cp, .int .i64 fu, .bool de] 26)).heap.size (w.alloc (.cells #[.slice a n c, .slice b m d, .int .i64 cp, .int .i64 fu, .bool de] 26)) w') := specValid_any a n c fs b m d ps cp fu de _ A B (by simp; omega) (hF.below (hb0.mono hB)) (hP.below (hb0.mono hB)) hall
  clear hF hP hall
  generalize specV fs ps cp fu = ok at HC
  go_enter Try.func24, Try.ntmps24
  go_wp2_with fail
  refine HC.out.mono ?_
  rintro e w1 ⟨rfl, hb1⟩
  have j0 := (hb1.block w.heap.size (by simp)).trans k0
  obtain ⟨p0, p1, p2, p3, p4⟩ := box_fiveC j0
  have hR : Below w.heap.size w w1 := hb0.trans (hb1.mono hb0.size)
  clear HC hb0 hb1 k0 j0
  cases ok
  · go_wp2
    go_ret
    exact ⟨rfl, hR⟩
  · go_wp2
    go_ret
    exact ⟨rfl, hR⟩
end Go.Proofs.Yteienboknicpjaa
namespace Go.Proofs.Yteienboknicpjaa
open Go.RowKit Go.Maps
set_option linter.unusedVariables false
set_option maxRecDepth 100000

def CSRes (w w' : World) (fs : List PF) (ps : List PP) (cp fu : Int) (r : Option Nat) (t : Int) (ok : Bool) : Prop :=
  ok = implV fs ps cp fu ∧ Below w.heap.size w w' ∧ (ok = true → t = totalI (lastF ps fs) ∧ ∃ mb k D, r = some mb ∧ w.heap.size ≤ mb ∧ MapAt w' mb k D ∧ Rep D (lastF ps fs))
theorem inv_all {fs : List PF} (h : filesOk fs = true) : Inv fs := by
  have h2 : ∀ i, i < fs.length → fileOk fs i = true := of_decide_eq_true h
  have := inv_of_ok (k := fs.length) (Nat.le_refl _) h2
  rwa [List.take_length] at this
theorem implV_head {fs : List PF} {ps : List PP} {cp fu : Int} (h : ¬ (0 ≤ cp ∧ cp ≤ 1000 ∧ -1 ≤ fu ∧ fu ≤ 1000000)) : false = implV fs ps cp fu := by simp [implV, h]

set_option maxHeartbeats 2000000 in
theorem countSeen_head (v0 v1 : Value) (cp fu : Int) (de : Bool) (w : World) (h : ¬ (0 ≤ cp ∧ cp ≤ 1000 ∧ -1 ≤ fu ∧ fu ≤ 1000000)) :
    Calls Try.prog 49 #[.agg #[v0, v1, .int .i64 cp, .int .i64 fu, .bool de]] w fun e w' => e = .returned (.tuple #[.agg #[.map none, .int .i64 0], .bool false]) ∧ Below w.heap.size w w' := by
  by_cases t1 : cp < 0
  · have s1 : decide (cp < 0) = true := by simp; omega
    clear h
    go_enter Try.func49, Try.ntmps49
    go_wp2
    exact bodyPost_ret (v := .tuple #[.agg #[.map none, .int .i64 0], .bool false]) (by simp [results, Try.results49, go_sem]) rfl ⟨rfl, ((Below.refl _ _).alloc (Nat.le_refl _) _).alloc (by simp) _⟩
  · have s1 : decide (cp < 0) = false := by simp; omega
    by_cases t2 : 1000 < cp
    · have s2 : decide ((1000 : Int) < cp) = true := by simp; omega
      clear h
      go_enter Try.func49, Try.ntmps49
      go_wp2
      exact bodyPost_ret (v := .tuple #[.agg #[.map none, .int .i64 0], .bool false]) (by simp [results, Try.results49, go_sem]) rfl ⟨rfl, ((Below.refl _ _).alloc (Nat.le_refl _) _).alloc (by simp) _⟩
    · have s2 : decide ((1000 : Int) < cp) = false := by simp; omega
      by_cases t3 : fu < -1
      · have s3 : decide (fu < -1) = true := by simp; omega
        clear h
        go_enter Try.func49, Try.ntmps49
        go_wp2
        exact bodyPost_ret (v := .tuple #[.agg #[.map none, .int .i64 0], .bool false]) (by simp [results, Try.results49, go_sem]) rfl ⟨rfl, ((Below.refl _ _).alloc (Nat.le_refl _) _).alloc (by simp) _⟩
      · have s3 : decide (fu < -1) = false := by simp; omega
        have s4 : decide ((1000000 : Int) < fu) = true := by simp; omega
        clear h
        go_enter Try.func49, Try.ntmps49
        go_wp2
        exact bodyPost_ret (v := .tuple #[.agg #[.map none, .int .i64 0], .bool false]) (by simp [results, Try.results49, go_sem]) rfl ⟨rfl, ((Below.refl _ _).alloc (Nat.le_refl _) _).alloc (by simp) _⟩

set_option maxRecDepth 100000 in
set_option maxHeartbeats 2000000 in
theorem countSeen_main (a : Option Addr) (n c : Nat) (fs : List PF) (b : Option Addr) (m d : Nat) (ps : List PP) (cp fu : Int) (de : Bool) (w : World) (A B : Nat) (hB : B ≤ w.heap.size) (hF : FilesAt w A B a n c fs) (hP : PendsAt w A B b m d ps)
    (hall : ∀ j, j < n → (fs.getD j (ByteArray.empty, [])).2.length ≤ 1048576) (h : 0 ≤ cp ∧ cp ≤ 1000 ∧ -1 ≤ fu ∧ fu ≤ 1000000) :
    Calls Try.prog 49 #[.agg #[.slice a n c, .slice b m d, .int .i64 cp, .int .i64 fu, .bool de]] w fun e w' => ∃ (r : Option Nat) (t : Int) (ok : Bool), e = .returned (.tuple #[.agg #[.map r, .int .i64 t], .bool ok]) ∧ CSRes w w' fs ps cp fu r t ok := by
  obtain ⟨h1, h2, h3, h4⟩ := h
  have s1 : decide (cp < 0) = false := by simp; omega
  have s2 : decide ((1000 : Int) < cp) = false := by simp; omega
  have s3 : decide (fu < -1) = false := by simp; omega
  have s4 : decide ((1000000 : Int) < fu) = false := by simp; omega
  have hb0 : Below w.heap.size w ((w.alloc (.cells #[.slice a n c, .slice b m d, .int .i64 cp, .int .i64 fu, .bool de] 26)).alloc (.cells #[.map none, .int .i64 0] 86)) := ((Below.refl _ _).alloc (Nat.le_refl _) _).alloc (by simp) _
  have hfl := hF.1
  have HIV : Hid (implV fs ps cp fu = (decide (fs.length ≤ 12) && filesOk fs && (decide (ps.length ≤ 1000) && cacheI cp ps fs))) := by
    show _ = _
    unfold implV
    rw [show decide (0 ≤ cp ∧ cp ≤ 1000 ∧ -1 ≤ fu ∧ fu ≤ 1000000) = true from decide_eq_true ⟨h1, h2, h3, h4⟩]
    simp [Bool.and_assoc]
  go_enter Try.func49, Try.ntmps49
  go_wp2_with fail
  clear s1 s2 s3 s4
  refine (countFiles_any _ _ _ fs _ A B (by simp; omega) (hF.below (hb0.mono hB)) hall).mono ?_
  rintro e w1 ⟨mb, t, ok, rfl, hok, hmb, hyes, hb1⟩
  simp at hmb
  have hz := hb1.size
  simp at hz
  have hz1 : w.heap.size < w1.heap.size := by omega
  have hz2 : w.heap.size + 1 < w1.heap.size := by omega
  obtain ⟨hc1, hf1⟩ := bcell hb1
  have hbel1 := hb0.trans (hb1.mono (by simp; omega))
  cases ok with
  | false =>
    have HB : Hid (false = implV fs ps cp fu) := by show _ = _; rw [HIV.out, ← hok]; simp
    clear hyes hok hb1
    go_wp2_with fail
    exact bodyPost_ret (v := .tuple #[.agg #[.map none, .int .i64 0], .bool false]) (by simp [results, Try.results49, go_sem, hc1, hz2]) rfl ⟨none, 0, false, rfl, HB.out, ((hbel1.setCell (by simp) _).setCell (by simp) _).alloc (by simp; omega) _, fun h => by cases h⟩
  | true =>
    obtain ⟨ht, D, hM, hR⟩ := hyes rfl
    subst ht
    simp only [Bool.true_eq, Bool.and_eq_true, decide_eq_true_eq] at hok
    have hI := inv_all hok.2
    have htot : totalI fs ≤ 1073741824 := by
      have := totalI_small (fs := fs) (K := 1048576) (fun j hj => hall j (by omega))
      have h12 : ((fs.length : Int)) ≤ 12 := by omega
      omega
    have HIV2 : Hid (implV fs ps cp fu = (decide (ps.length ≤ 1000) && pendsOk ps fs && fitsB cp (lastF ps fs))) := by
      show _ = _
      rw [HIV.out, cacheI_eq, hok.2, show decide (fs.length ≤ 12) = true by simp; omega]
      simp [Bool.and_assoc]
    have hb2 : Below w1.heap.size w1 (w1.alloc (.cells #[.map (some mb), .int .i64 (totalI fs)] 86)) := (Below.refl _ _).alloc (Nat.le_refl _) _
    have hbel2 : Below w.heap.size w (w1.alloc (.cells #[.map (some mb), .int .i64 (totalI fs)] 86)) := hbel1.alloc (by omega) _
    have hk0 : fs.length ≤ 1048576 := by omega
    have HN0 : Hid (w1.heap[w.heap.size]? = some (.cells #[.slice a n c, .slice b m d, .int .i64 cp, .int .i64 fu, .bool de] 26)) := by
      show _ = _
      rw [hb1.block _ (by simp; omega), Below.heap_alloc _ _ _ (by simp)]; exact heap_alloc_new w _
    have HN1 : Hid (w1.heap[w.heap.size + 1]? = some (.cells #[.map none, .int .i64 0] 86)) := by
      show _ = _
      rw [hb1.block _ (by simp)]
      have := heap_alloc_new (w.alloc (.cells #[.slice a n c, .slice b m d, .int .i64 cp, .int .i64 fu, .bool de] 26)) (.cells #[.map none, .int .i64 0] 86)
      simpa using this
    clear hyes hok hb1
    go_wp2_with fail
    refine (countCache_any _ _ _ ps fs _ A B (w.heap.size + 1 + 1) w1.heap.size mb fs.length D (hP.below (hbel2.mono hB)) (by omega) (by simp; omega) (by omega) (by omega) (heap_alloc_new w1 _) (hM.keep (hb2.block _ hM.lt)) hR hI hk0 htot).mono ?_
    rintro e w3 ⟨ok2, rfl, hok2, hT, hyes2⟩
    have hz3 := hT.size
    simp at hz3
    have hml := hM.lt
    have HN03 : w3.heap[w.heap.size]? = some (.cells #[.slice a n c, .slice b m d, .int .i64 cp, .int .i64 fu, .bool de] 26) := (hT.block _ (by simp; omega) (by omega) (by omega)).trans ((hb2.block _ hz1).trans HN0.out)
    have HN13 : w3.heap[w.heap.size + 1]? = some (.cells #[.map none, .int .i64 0] 86) := (hT.block _ (by simp; omega) (by omega) (by omega)).trans ((hb2.block _ hz2).trans HN1.out)
    obtain ⟨y0, y1, y2⟩ := box_cells HN03
    obtain ⟨⟨r0, r1⟩, fr0, fr1⟩ := two_cells HN13
    have hbel3 : Below w.heap.size w w3 := hbel2.trans (hT.below (by simp; omega) (by omega) (by omega))
    clear HN03 HN13 hT hM hR hI hc1 hf1 HN0 HN1 hb2 hbel2 hbel1
    cases ok2 with
    | false =>
      have HB : Hid (false = implV fs ps cp fu) := by show _ = _; rw [HIV2.out, ← hok2]; simp
      clear hyes2 hok2
      generalize totalI fs = tt at *
      go_wp2_with fail
      exact bodyPost_ret (v := .tuple #[.agg #[.map none, .int .i64 0], .bool false]) (by simp [results, Try.results49, go_sem, r0, r1]) rfl ⟨none, 0, false, rfl, HB.out, (hbel3.setCell (by simp) _).setCell (by simp) _, fun h => by cases h⟩
    | true =>
      obtain ⟨hc3, D3, hM3, hR3⟩ := hyes2 rfl
      obtain ⟨⟨q0, q1⟩, _, _⟩ := two_cells hc3
      have hM3' : w3.ownsMap Try.prog 9 (plainElem Try.prog 2) mb (fs.length + ps.length) D3 := hM3
      have hsz := hR3.size_
      have HIV3 : Hid (implV fs ps cp fu = (decide (Maps.size D3 ≤ 12) && decide (totalI (lastF ps fs) ≤ cp))) := by
        show _ = _
        rw [HIV2.out, ← hok2, hsz]; simp [fitsB]
      have HT3 : Hid (totalI (lastF ps fs) = totalI (lastF ps fs)) := rfl
      have hmap := hM3.lt
      clear hyes2 hok2 hc3 hsz
      obtain ⟨T, hTe⟩ : ∃ T, T = totalI (lastF ps fs) := ⟨_, rfl⟩
      rw [← hTe] at q1 HIV3
      have HTE : Hid (T = totalI (lastF ps fs)) := hTe
      clear hTe HT3
      generalize totalI fs = tt at *
      obtain ⟨z, hze⟩ : ∃ z, z = Maps.size D3 := ⟨_, rfl⟩
      rw [← hze] at HIV3
      have HZ : Hid (Maps.size D3 = z) := hze.symm
      clear hze
      have hlen := hM3'.len Try.underlying84 3
      rw [HZ.out] at hlen
      by_cases t5 : 12 < z
      · have s5 : decide ((12 : Int) < (z : Int)) = true := by simp; omega
        have HB : Hid (false = implV fs ps cp fu) := by show _ = _; rw [HIV3.out, show decide (z ≤ 12) = false by simp; omega]; simp
        go_wp2_with fail
        exact bodyPost_ret (v := .tuple #[.agg #[.map none, .int .i64 0], .bool false]) (by simp [results, Try.results49, go_sem, r0, r1]) rfl ⟨none, 0, false, rfl, HB.out, (hbel3.setCell (by simp) _).setCell (by simp) _, fun h => by cases h⟩
      · have s5 : decide ((12 : Int) < (z : Int)) = false := by simp; omega
        by_cases t6 : cp < T
        · have s6 : decide (cp < T) = true := by simp; omega
          have HB : Hid (false = implV fs ps cp fu) := by show _ = _; rw [HIV3.out, show decide (T ≤ cp) = false by simp; omega]; simp
          go_wp2_with fail
          exact bodyPost_ret (v := .tuple #[.agg #[.map none, .int .i64 0], .bool false]) (by simp [results, Try.results49, go_sem, r0, r1]) rfl ⟨none, 0, false, rfl, HB.out, (hbel3.setCell (by simp) _).setCell (by simp) _, fun h => by cases h⟩
        · have s6 : decide (cp < T) = false := by simp; omega
          have HB : Hid (true = implV fs ps cp fu) := by show _ = _; rw [HIV3.out, show decide (T ≤ cp) = true by simp; omega, show decide (z ≤ 12) = true by simp; omega]; rfl
          go_wp2_with fail
          refine bodyPost_ret (v := .tuple #[.agg #[.map (some mb), .int .i64 T], .bool true]) (by simp [results, Try.results49, go_sem, r0, r1]) rfl ⟨some mb, T, true, rfl, HB.out, (hbel3.setCell (by simp) _).setCell (by simp) _, fun _ => ⟨HTE.out, mb, fs.length + ps.length, D3, rfl, by omega, ?_, hR3⟩⟩
          refine hM3.keep ?_
          rw [Below.heap_setCell _ _ _ _ (by show mb ≠ w.heap.size + 1; omega), Below.heap_setCell _ _ _ _ (by show mb ≠ w.heap.size + 1; omega)]

theorem countSeen_any (a : Option Addr) (n c : Nat) (fs : List PF) (b : Option Addr) (m d : Nat) (ps : List PP) (cp fu : Int) (de : Bool) (w : World) (A B : Nat) (hB : B ≤ w.heap.size) (hF : FilesAt w A B a n c fs) (hP : PendsAt w A B b m d ps)
    (hall : ∀ j, j < n → (fs.getD j (ByteArray.empty, [])).2.length ≤ 1048576) :
    Calls Try.prog 49 #[.agg #[.slice a n c, .slice b m d, .int .i64 cp, .int .i64 fu, .bool de]] w fun e w' => ∃ (r : Option Nat) (t : Int) (ok : Bool), e = .returned (.tuple #[.agg #[.map r, .int .i64 t], .bool ok]) ∧ CSRes w w' fs ps cp fu r t ok := by
  by_cases h : 0 ≤ cp ∧ cp ≤ 1000 ∧ -1 ≤ fu ∧ fu ≤ 1000000
  · exact countSeen_main a n c fs b m d ps cp fu de w A B hB hF hP hall h
  · refine (countSeen_head _ _ cp fu de w h).mono ?_
    rintro e w' ⟨rfl, hb⟩
    exact ⟨none, 0, false, rfl, implV_head h, hb, fun h => by cases h⟩

set_option maxHeartbeats 400000 in
theorem implValid_any (a : Option Addr) (n c : Nat) (fs : List PF) (b : Option Addr) (m d : Nat) (ps : List PP) (cp fu : Int) (de : Bool) (w : World) (A B : Nat) (hB : B ≤ w.heap.size) (hF : FilesAt w A B a n c fs) (hP : PendsAt w A B b m d ps)
    (hall : ∀ j, j < n → (fs.getD j (ByteArray.empty, [])).2.length ≤ 1048576) :
    Calls Try.prog 33 #[.agg #[.slice a n c, .slice b m d, .int .i64 cp, .int .i64 fu, .bool de]] w fun e w' => e = .returned (.bool (implV fs ps cp fu)) ∧ Below w.heap.size w w' := by
  have hb0 : Below w.heap.size w (w.alloc (.cells #[.slice a n c, .slice b m d, .int .i64 cp, .int .i64 fu, .bool de] 26)) := (Below.refl _ _).alloc (Nat.le_refl _) _
  go_enter Try.func33, Try.ntmps33
  go_wp2_with fail
  refine (countSeen_any _ _ _ fs _ _ _ ps _ _ _ _ A B (by simp; omega) (hF.below (hb0.mono hB)) (hP.below (hb0.mono hB)) hall).mono ?_
  rintro e w1 ⟨r, t, ok, rfl, hok, hb1, _⟩
  have hb2 := hb0.trans (hb1.mono (by simp))
  have hz := hb1.size
  simp at hz
  have HO : Hid (ok = implV fs ps cp fu) := hok
  clear hok hb1
  go_wp2_with fail
  go_ret
  exact ⟨by rw [← HO.out]; rfl, hb2.alloc (by omega) _⟩
end Go.Proofs.Yteienboknicpjaa
