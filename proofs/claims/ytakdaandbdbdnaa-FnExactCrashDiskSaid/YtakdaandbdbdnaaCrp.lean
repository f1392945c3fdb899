import Derived.Test.YtakdaandbdbdnaaJB
import Derived.Test.YtakdaandbdbdnaaJE
namespace Go.Proofs.Ytakdaandbdbdnaa
open Go.RowKit Go.Maps
set_option linter.unusedVariables false
set_option maxRecDepth 100000

theorem doData_getC {l : List Int} {pg : Nat} {bs : List Int} (hb : bs.length ≤ 128) (j : Nat) : (doData l pg bs).getD j 0 = if pg * 128 ≤ j ∧ j < pg * 128 + bs.length then bs.getD (j - pg * 128) 0 else l.getD j 0 := by
  unfold doData
  rw [overTo_get _ _ _ _ _ (by rw [extZ_len]; omega)]
  congr 1
  unfold extZ
  by_cases h : j < l.length
  · simp only [List.getD, List.getElem?_append_left h]
  · simp only [List.getD, List.getElem?_append_right (Nat.le_of_not_lt h), List.getElem?_eq_none (Nat.le_of_not_lt h), List.getElem?_replicate]
    split <;> rfl
theorem ext_getD {a b : List Int} (hl : a.length = b.length) (h : ∀ j, j < a.length → a.getD j 0 = b.getD j 0) : a = b := by
  apply List.ext_getElem hl
  intro j h1 h2
  have := h j h1
  simpa [List.getD, List.getElem?_eq_getElem h1, List.getElem?_eq_getElem h2] using this
theorem part_getD (l : List Int) (i j : Nat) (h : j < 128) : ((l.drop i).take 128).getD j 0 = l.getD (i + j) 0 := by
  simp only [List.getD, List.getElem?_take_of_lt h, List.getElem?_drop]
theorem zeros_getD (j : Nat) : zeros.getD j 0 = 0 := by
  unfold zeros
  simp only [List.getD, List.getElem?_replicate]
  split <;> rfl
theorem mix_getD {a b : List Int} {ca j : Nat} (hc : ca ≤ a.length) : (a.take ca ++ b.drop ca).getD j 0 = if j < ca then a.getD j 0 else b.getD j 0 := by
  have hl : (a.take ca).length = ca := by simp; omega
  by_cases h : j < ca
  · rw [if_pos h]
    simp only [List.getD]
    rw [List.getElem?_append_left (by omega), List.getElem?_take_of_lt h]
  · rw [if_neg h]
    simp only [List.getD]
    rw [List.getElem?_append_right (by omega), List.getElem?_drop, hl]
    congr 2
    omega
theorem getD_over {l : List Int} {j : Nat} (h : l.length ≤ j) : l.getD j 0 = 0 := by simp [List.getD, List.getElem?_eq_none h]
/-- A write of the first ca bytes, page by page. -/
theorem doData_pageC {l : List Int} {pg ca : Nat} {bs : List Int} (hl : l.length % 128 = 0) (hb : bs.length = 128) (hc : ca ≤ 128) (t : Int) : pageF (doData l pg (bs.take ca)) t = if t = (pg : Int) then some (bs.take ca ++ ((pageF l pg).getD zeros).drop ca) else if (((l.length / 128 : Nat) : Int) ≤ t ∧ t < (pg : Int)) then some zeros else pageF l t := by
  have hlen := doData_len l pg (bs.take ca)
  have htl : (bs.take ca).length = ca := by simp; omega
  have hget := fun j => doData_getC (l := l) (pg := pg) (bs := bs.take ca) (by omega) j
  rw [htl] at hget
  obtain ⟨old, hold⟩ : ∃ old, old = (pageF l pg).getD zeros := ⟨_, rfl⟩
  have hol : old.length = 128 := by
    rw [hold]
    cases hS : pageF l pg with
    | some cs => exact (pageF_len hS).1
    | none => exact zeros_len
  have hog : ∀ j, j < 128 → old.getD j 0 = l.getD (pg * 128 + j) 0 := by
    intro j hj2
    rw [hold]
    unfold pageF
    by_cases hp : 0 ≤ (pg : Int) ∧ (pg : Int) * 128 + 128 ≤ l.length
    · rw [if_pos hp, Option.getD_some, part_getD _ _ _ hj2]
      simp only [Int.toNat_natCast]
    · rw [if_neg hp, Option.getD_none, zeros_getD, getD_over (by omega)]
  rw [← hold]
  clear hold
  unfold pageF
  by_cases ht : t = (pg : Int)
  · subst ht
    rw [if_pos rfl, if_pos (by rw [hlen]; omega)]
    congr 1
    refine ext_getD (by simp only [List.length_append, List.length_drop, List.length_take, hlen, hol, hb, Int.toNat_natCast]; omega) (fun j hj => ?_)
    have hj2 : j < 128 := by simp only [List.length_take, List.length_drop] at hj; omega
    rw [part_getD _ _ _ hj2, hget, mix_getD (by omega)]
    simp only [Int.toNat_natCast]
    by_cases hjc : j < ca
    · rw [if_pos (by omega), if_pos hjc, show pg * 128 + j - pg * 128 = j by omega]
      simp only [List.getD, List.getElem?_take_of_lt hjc]
    · rw [if_neg (by omega), if_neg hjc, hog j hj2]
  · rw [if_neg ht]
    by_cases hz : ((l.length / 128 : Nat) : Int) ≤ t ∧ t < (pg : Int)
    · rw [if_pos hz, if_pos (by rw [hlen]; omega)]
      congr 1
      obtain ⟨u, rfl⟩ := Int.eq_ofNat_of_zero_le (show 0 ≤ t by omega)
      refine ext_getD (by simp only [List.length_take, List.length_drop, hlen, zeros_len, Int.toNat_natCast]; omega) (fun j hj => ?_)
      have hj2 : j < 128 := by simp only [List.length_take, List.length_drop] at hj; omega
      rw [part_getD _ _ _ hj2, hget, zeros_getD]
      simp only [Int.toNat_natCast]
      rw [if_neg (by omega), getD_over (by omega)]
    · rw [if_neg hz]
      by_cases hp : 0 ≤ t ∧ t * 128 + 128 ≤ l.length
      · rw [if_pos hp, if_pos (by rw [hlen]; omega)]
        obtain ⟨u, rfl⟩ := Int.eq_ofNat_of_zero_le hp.1
        congr 1
        refine ext_getD (by simp only [List.length_take, List.length_drop, hlen, Int.toNat_natCast]; omega) (fun j hj => ?_)
        have hj2 : j < 128 := by simp only [List.length_take, List.length_drop] at hj; omega
        rw [part_getD _ _ _ hj2, part_getD _ _ _ hj2, hget, if_neg (by simp only [Int.toNat_natCast]; omega)]
      · rw [if_neg hp, if_neg (by rw [hlen]; omega)]
/-- A torn write, done to the map of sheets, is the torn write done to the files. -/
theorem do_writeC {fs : List PF} {nm : ByteArray} {pg ca : Nat} {bs : List Int} (h : Inv fs) (hb : bs.length = 128) (hc : ca ≤ 128) (nm' : ByteArray) (t : Int) : pageOf (doP fs nm pg (bs.take ca)) nm' t = writeS (pageOf fs) nm (lenI fs nm).toNat pg bs ca nm' t := by
  obtain ⟨h1, h2⟩ := dataN_len h nm
  have hL : (((lenI fs nm).toNat : Nat) : Int) = (((dataN fs nm).length / 128 : Nat) : Int) := by rw [h2]; omega
  unfold writeS oldS
  rw [pageOf_data, pageOf_data, doP_data h]
  by_cases hn : nm' = nm
  · rw [if_pos hn, doData_pageC h1 hb hc]
    by_cases ht : t = (pg : Int)
    · rw [if_pos ht, if_pos ⟨hn, ht⟩]
    · have hx : ¬ (nm' = nm ∧ t = (pg : Int)) := fun e => ht e.2
      rw [if_neg ht, if_neg hx]
      unfold fillS
      rw [hL, pageOf_data, hn]
      by_cases hz : (((dataN fs nm).length / 128 : Nat) : Int) ≤ t ∧ t < (pg : Int)
      · rw [if_pos hz, if_pos ⟨rfl, hz⟩]
      · rw [if_neg hz, if_neg (fun e => hz e.2)]
  · rw [if_neg hn, if_neg (fun e => hn e.1)]
    unfold fillS
    rw [if_neg (fun e => hn e.1), pageOf_data]
theorem lenI_do {fs : List PF} {nm : ByteArray} {pg : Nat} {bs : List Int} (h : Inv fs) (x : ByteArray) : lenI (doP fs nm pg bs) x = if x = nm then max (lenI fs nm) ((pg : Int) + 1) else lenI fs x := by
  have e1 := (dataN_len (doP_inv (nm := nm) (pg := pg) (bs := bs) h) x).2
  rw [doP_data h] at e1
  rw [e1]
  by_cases hx : x = nm
  · rw [if_pos hx, if_pos hx, doData_len, (dataN_len h nm).2]
    have := (dataN_len h nm).1
    omega
  · rw [if_neg hx, if_neg hx, (dataN_len h x).2]
/-- No file of fk is longer than gk's. -/
def Und (fk gk : List PF) : Prop := ∀ nm, lenI fk nm ≤ lenI gk nm
theorem Und.refl (fs : List PF) : Und fs fs := fun _ => Int.le_refl _
theorem Und.both {fk gk : List PF} {nm : ByteArray} {pg : Nat} {bs cs : List Int} (h : Und fk gk) (hf : Inv fk) (hg : Inv gk) : Und (doP fk nm pg bs) (doP gk nm pg cs) := by
  intro x
  rw [lenI_do hf, lenI_do hg]
  have h1 := h nm
  have h2 := h x
  split <;> omega
theorem Und.only {fk gk : List PF} {nm : ByteArray} {pg : Nat} {cs : List Int} (h : Und fk gk) (hg : Inv gk) : Und fk (doP gk nm pg cs) := by
  intro x
  rw [lenI_do hg]
  have h2 := h x
  by_cases hx : x = nm
  · subst hx; rw [if_pos rfl]; omega
  · rw [if_neg hx]; exact h2
theorem nodup_le {α : Type} [DecidableEq α] : ∀ (l m : List α), l.Nodup → (∀ x ∈ l, x ∈ m) → l.length ≤ m.length
  | [], _, _, _ => Nat.zero_le _
  | a :: l, m, hn, hs => by
    rw [List.nodup_cons] at hn
    have h1 := nodup_le l (m.erase a) hn.2 (fun x hx => (List.mem_erase_of_ne (show x ≠ a from fun e => hn.1 (e ▸ hx))).2 (hs x (List.mem_cons_of_mem _ hx)))
    have h2 := List.length_erase_of_mem (hs a (List.mem_cons_self))
    have h3 : 0 < m.length := List.length_pos_of_mem (hs a (List.mem_cons_self))
    simp only [List.length_cons]
    omega
theorem Und.len {fk gk : List PF} (h : Und fk gk) (hf : Inv fk) (hg : Inv gk) : fk.length ≤ gk.length := by
  have := nodup_le (fk.map (·.1)) (gk.map (·.1)) ?_ ?_
  · simpa using this
  · refine List.pairwise_iff_getElem.2 fun i j hi hj hij => ?_
    simp only [List.length_map] at hi hj
    have := hf.ne i j (by omega) hi hj
    simpa [List.getD, List.getElem?_eq_getElem hi, List.getElem?_eq_getElem hj] using this
  · intro x hx
    obtain ⟨f, hfm, rfl⟩ := List.mem_map.1 hx
    obtain ⟨i, hi, rfl⟩ := List.getElem_of_mem hfm
    have e1 := (dataN_of hf hi)
    have e2 := (hf.pg i hi).1
    have e3 := (dataN_len hf (fk.getD i (ByteArray.empty, [])).1).2
    rw [e1] at e3
    have e4 := h (fk.getD i (ByteArray.empty, [])).1
    have e5 : 0 < lenI gk (fk.getD i (ByteArray.empty, [])).1 := by omega
    by_cases hfd : findN gk (fk.getD i (ByteArray.empty, [])).1 < gk.length
    · obtain ⟨k, hk, hkx⟩ := findN_iff.1 hfd
      refine List.mem_map.2 ⟨gk[k], List.getElem_mem hk, ?_⟩
      simpa [List.getD, List.getElem?_eq_getElem hi, List.getElem?_eq_getElem hk] using hkx
    · unfold lenI at e5; rw [if_neg hfd] at e5; omega
theorem Und.small {fk gk : List PF} (h : Und fk gk) (hf : Inv fk) {cp : Int} (ht : totalI gk ≤ cp) : ∀ j, j < fk.length → ((fk.getD j (ByteArray.empty, [])).2.length : Int) ≤ cp * 128 := by
  intro i hi
  have e1 := (dataN_of hf hi)
  have e3 := (dataN_len hf (fk.getD i (ByteArray.empty, [])).1).2
  have e2 := (hf.pg i hi).2
  rw [e1] at e3
  have e4 := h (fk.getD i (ByteArray.empty, [])).1
  have e5 := (lenI_le_total gk (fk.getD i (ByteArray.empty, [])).1).2
  omega
/-- How many bytes of a torn write are done. -/
def atN (ta : Int) : Nat := (min (max ta 0) 128).toNat
theorem atN_le (ta : Int) : atN ta ≤ 128 := by unfold atN; omega
/-- What a crash makes of one write. -/
def crS (tr ta : Int) (ks : List Bool) (i : Nat) (fs : List PF) (p : PP) : List PF :=
  if (i : Int) = tr then doP fs p.1 p.2.1.toNat (p.2.2.take (atN ta)) else if ks.getD i false = true then doP fs p.1 p.2.1.toNat p.2.2 else fs
/-- The files behind a crash. -/
def crF (tr ta : Int) (ks : List Bool) : Nat → List PP → List PF → List PF
  | _, [], fs => fs
  | i, p :: r, fs => crF tr ta ks (i + 1) r (crS tr ta ks i fs p)
/-- What holds of the files behind the writes so far (fk: those that a crash leaves; gk: those that are seen). -/
structure CrI (fk gk : List PF) (cp : Int) : Prop where
  inv : Inv fk
  byt : ByteF fk
  srt : SortedN fk
  nms : ∀ f ∈ fk, f.1.size ≤ maxLen
  und : Und fk gk
  ginv : Inv gk
  gtot : totalI gk ≤ cp
  glen : gk.length ≤ 12
theorem CrI.len {fk gk : List PF} {cp : Int} (h : CrI fk gk cp) : fk.length ≤ 12 := Nat.le_trans (h.und.len h.inv h.ginv) h.glen
theorem CrI.small {fk gk : List PF} {cp : Int} (h : CrI fk gk cp) (hcp : cp ≤ 1000) : ∀ j, j < fk.length → (fk.getD j (ByteArray.empty, [])).2.length ≤ 128000 := fun j hj => by
  have := h.und.small h.inv h.gtot j hj
  omega
theorem CrI.smallM {fk gk : List PF} {cp : Int} (h : CrI fk gk cp) (hcp : cp ≤ 1000) : ∀ f ∈ fk, f.2.length ≤ 128000 := fun f hf => by
  obtain ⟨i, hi, rfl⟩ := List.getElem_of_mem hf
  have := h.small hcp i hi
  simpa [List.getD, List.getElem?_eq_getElem hi] using this
theorem CrI.both {fk gk : List PF} {cp : Int} {nm : ByteArray} {pg : Nat} {bs pd : List Int} (h : CrI fk gk cp) (hnm : nm.size ≤ maxLen) (hb : ∀ x ∈ bs, 0 ≤ x ∧ x ≤ 255) (h1 : totalI (doP gk nm pg pd) ≤ cp) (h2 : (doP gk nm pg pd).length ≤ 12) : CrI (doP fk nm pg bs) (doP gk nm pg pd) cp :=
  ⟨doP_inv h.inv, h.byt.do h.inv hb, doP_sorted h.srt, doP_names h.nms hnm, h.und.both h.inv h.ginv, doP_inv h.ginv, h1, h2⟩
theorem CrI.only {fk gk : List PF} {cp : Int} {nm : ByteArray} {pg : Nat} {pd : List Int} (h : CrI fk gk cp) (h1 : totalI (doP gk nm pg pd) ≤ cp) (h2 : (doP gk nm pg pd).length ≤ 12) : CrI fk (doP gk nm pg pd) cp :=
  ⟨h.inv, h.byt, h.srt, h.nms, h.und.only h.ginv, doP_inv h.ginv, h1, h2⟩
theorem crF_tear {tr ta : Int} {ks : List Bool} {k : Nat} {nm : ByteArray} {pg : Nat} {pd : List Int} {r : List PP} {fk : List PF} (h : (k : Int) = tr) : crF tr ta ks k ((nm, (pg : Int), pd) :: r) fk = crF tr ta ks (k + 1) r (doP fk nm pg (pd.take (atN ta))) := by
  simp only [crF, crS]
  rw [if_pos h]
  simp
theorem crF_keep {tr ta : Int} {ks : List Bool} {k : Nat} {nm : ByteArray} {pg : Nat} {pd : List Int} {r : List PP} {fk : List PF} (h : ¬ (k : Int) = tr) (hk : ks.getD k false = true) : crF tr ta ks k ((nm, (pg : Int), pd) :: r) fk = crF tr ta ks (k + 1) r (doP fk nm pg pd) := by
  simp only [crF, crS]
  rw [if_neg h, if_pos hk]
  simp
theorem crF_skip {tr ta : Int} {ks : List Bool} {k : Nat} {p : PP} {r : List PP} {fk : List PF} (h : ¬ (k : Int) = tr) (hk : ks.getD k false = false) : crF tr ta ks k (p :: r) fk = crF tr ta ks (k + 1) r fk := by
  simp only [crF, crS]
  rw [if_neg h, if_neg (by rw [hk]; simp)]
theorem atN_if (ta : Int) : (if (128 : Int) < (if ta < 0 then 0 else ta) then 128 else (if ta < 0 then 0 else ta)) = (atN ta : Int) := by
  unfold atN
  split <;> split <;> omega
end Go.Proofs.Ytakdaandbdbdnaa
