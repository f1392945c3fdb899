import Derived.Test.YtmmdkjeoadlikaaSpV
import Derived.Test.YtmmdkjeoadlikaaCPl
namespace Go.Proofs.Ytmmdkjeoadlikaa
open Go.RowKit Go.Maps
set_option linter.unusedVariables false
set_option maxRecDepth 100000
set_option linter.unusedSimpArgs false

theorem withName_mem {fs : List PF} {nm : ByteArray} (h : Inv fs) : (∀ i j, i ≠ j → i < (withName fs nm).length → j < (withName fs nm).length → ((withName fs nm).getD i (ByteArray.empty, [])).1 ≠ ((withName fs nm).getD j (ByteArray.empty, [])).1) ∧
    (∀ i, i < (withName fs nm).length → ((withName fs nm).getD i (ByteArray.empty, [])).1 ≠ nm → ∃ k, k < fs.length ∧ (withName fs nm).getD i (ByteArray.empty, []) = fs.getD k (ByteArray.empty, [])) ∧
    (∀ k, k < fs.length → ∃ i, i < (withName fs nm).length ∧ (withName fs nm).getD i (ByteArray.empty, []) = fs.getD k (ByteArray.empty, [])) := by
  by_cases hf : findN fs nm < fs.length
  · have e : withName fs nm = fs := by unfold withName; rw [if_pos hf]
    rw [e]
    exact ⟨h.ne, fun i hi _ => ⟨i, hi, rfl⟩, fun k hk => ⟨k, hk, rfl⟩⟩
  · have hp : insN fs nm ≤ fs.length := List.findIdx_le_length
    have e : withName fs nm = fs.take (insN fs nm) ++ (nm, []) :: fs.drop (insN fs nm) := by unfold withName; rw [if_neg hf]
    have hno : ∀ i, i < fs.length → (fs.getD i (ByteArray.empty, [])).1 ≠ nm := fun i hi e2 => hf (findN_iff.2 ⟨i, hi, e2⟩)
    have hl : (withName fs nm).length = fs.length + 1 := by rw [withName_len, if_neg hf]
    rw [hl]
    generalize insN fs nm = p at *
    have hg : ∀ j, (withName fs nm).getD j (ByteArray.empty, []) = if j < p then fs.getD j (ByteArray.empty, []) else if j = p then (nm, []) else fs.getD (j - 1) (ByteArray.empty, []) := by
      intro j; rw [e, getD_ins _ _ _ _ _ hp]
    refine ⟨fun i j hij hi hj => ?_, fun i hi hne => ?_, fun k hk => ?_⟩
    · rw [hg, hg]
      by_cases a1 : i < p
      · rw [if_pos a1]
        by_cases b1 : j < p
        · rw [if_pos b1]; exact h.ne i j hij (by omega) (by omega)
        · rw [if_neg b1]
          by_cases b2 : j = p
          · rw [if_pos b2]; exact hno i (by omega)
          · rw [if_neg b2]; exact h.ne i (j - 1) (by omega) (by omega) (by omega)
      · rw [if_neg a1]
        by_cases a2 : i = p
        · rw [if_pos a2]
          by_cases b1 : j < p
          · rw [if_pos b1]; exact fun e2 => hno j (by omega) e2.symm
          · rw [if_neg b1, if_neg (by omega)]; exact fun e2 => hno (j - 1) (by omega) e2.symm
        · rw [if_neg a2]
          by_cases b1 : j < p
          · rw [if_pos b1]; exact h.ne (i - 1) j (by omega) (by omega) (by omega)
          · rw [if_neg b1]
            by_cases b2 : j = p
            · rw [if_pos b2]; exact hno (i - 1) (by omega)
            · rw [if_neg b2]; exact h.ne (i - 1) (j - 1) (by omega) (by omega) (by omega)
    · rw [hg] at hne ⊢
      by_cases a1 : i < p
      · rw [if_pos a1]; exact ⟨i, by omega, rfl⟩
      · rw [if_neg a1] at hne ⊢
        by_cases a2 : i = p
        · rw [if_pos a2] at hne; exact absurd rfl hne
        · rw [if_neg a2]; exact ⟨i - 1, by omega, rfl⟩
    · by_cases a1 : k < p
      · exact ⟨k, by omega, by rw [hg, if_pos a1]⟩
      · exact ⟨k + 1, by omega, by rw [hg, if_neg (by omega), if_neg (by omega)]; rfl⟩

theorem doP_get {fs : List PF} {nm : ByteArray} {pg : Nat} {bs : List Int} (j : Nat) : (doP fs nm pg bs).getD j (ByteArray.empty, []) = if j = findN (withName fs nm) nm then (nm, doData ((withName fs nm).getD (findN (withName fs nm) nm) (ByteArray.empty, [])).2 pg bs) else (withName fs nm).getD j (ByteArray.empty, []) := by
  unfold doP
  rw [getD_set _ _ _ _ _ (findN_with fs nm)]
theorem doP_name {fs : List PF} {nm : ByteArray} {pg : Nat} {bs : List Int} (j : Nat) (hj : j < (withName fs nm).length) : ((doP fs nm pg bs).getD j (ByteArray.empty, [])).1 = ((withName fs nm).getD j (ByteArray.empty, [])).1 := by
  rw [doP_get]
  split
  · rename_i e; subst e; exact (findN_name (findN_with fs nm)).symm
  · rfl
theorem doP_len2 (fs : List PF) (nm : ByteArray) (pg : Nat) (bs : List Int) : (doP fs nm pg bs).length = (withName fs nm).length := by unfold doP; simp
theorem doP_inv {fs : List PF} {nm : ByteArray} {pg : Nat} {bs : List Int} (h : Inv fs) : Inv (doP fs nm pg bs) := by
  obtain ⟨m1, m2, m3⟩ := withName_mem (nm := nm) h
  constructor
  · intro i j hij hi hj
    rw [doP_len2] at hi hj
    rw [doP_name i hi, doP_name j hj]
    exact m1 i j hij hi hj
  · intro i hi
    rw [doP_len2] at hi
    rw [doP_get]
    split
    · show 128 ≤ (doData _ pg bs).length ∧ (doData _ pg bs).length % 128 = 0
      rw [doData_len, withName_data]
      split
      · rename_i hf
        have := h.pg _ hf
        omega
      · omega
    · rename_i hne
      obtain ⟨k, hk, e⟩ := m2 i hi (fun e2 => hne ((findN_at hi (fun j hj e3 => m1 j i (by omega) (by omega) hi (e3.trans e2.symm)) e2).symm))
      rw [e]
      exact h.pg k hk
theorem doP_found {fs : List PF} {nm : ByteArray} {pg : Nat} {bs : List Int} (h : Inv fs) (x : ByteArray) : findN (doP fs nm pg bs) x < (doP fs nm pg bs).length ↔ (x = nm ∨ findN fs x < fs.length) := by
  obtain ⟨m1, m2, m3⟩ := withName_mem (nm := nm) h
  rw [findN_iff]
  constructor
  · rintro ⟨i, hi, e⟩
    rw [doP_len2] at hi
    rw [doP_name i hi] at e
    by_cases hx : x = nm
    · exact .inl hx
    · obtain ⟨k, hk, e2⟩ := m2 i hi (by rw [e]; exact hx)
      exact .inr (findN_iff.2 ⟨k, hk, by rw [← e2]; exact e⟩)
  · rintro (rfl | hf)
    · exact ⟨findN (withName fs x) x, by rw [doP_len2]; exact findN_with fs x, by rw [doP_name _ (findN_with fs x)]; exact findN_name (findN_with fs x)⟩
    · obtain ⟨k, hk, e⟩ := findN_iff.1 hf
      obtain ⟨i, hi, e2⟩ := m3 k hk
      exact ⟨i, by rw [doP_len2]; exact hi, by rw [doP_name i hi, e2]; exact e⟩
theorem doP_lenI {fs : List PF} {nm : ByteArray} {pg : Nat} {bs : List Int} (h : Inv fs) (hp : (pg : Int) ≤ lenI fs nm) (x : ByteArray) : lenI (doP fs nm pg bs) x = if x = nm then (if (pg : Int) = lenI fs nm then lenI fs nm + 1 else lenI fs nm) else lenI fs x := by
  obtain ⟨m1, m2, m3⟩ := withName_mem (nm := nm) h
  have hi' := doP_inv (nm := nm) (pg := pg) (bs := bs) h
  by_cases hx : x = nm
  · rw [if_pos hx]
    subst hx
    have hw := findN_with fs x
    have hn : ((doP fs x pg bs).getD (findN (withName fs x) x) (ByteArray.empty, [])).1 = x := by rw [doP_name _ hw]; exact findN_name hw
    have e1 := lenI_of hi' (i := findN (withName fs x) x) (by rw [doP_len2]; exact hw)
    rw [hn] at e1
    rw [e1, doP_get, if_pos rfl]
    show ((doData _ pg bs).length : Int) / 128 = _
    rw [doData_len, withName_data]
    by_cases hf : findN fs x < fs.length
    · have hl : lenI fs x = ((fs.getD (findN fs x) (ByteArray.empty, [])).2.length : Int) / 128 := by unfold lenI; rw [if_pos hf]
      have hpg := h.pg _ hf
      rw [if_pos hf]
      rw [hl] at hp ⊢
      generalize (fs.getD (findN fs x) (ByteArray.empty, [])).2.length = q at *
      split <;> omega
    · rw [lenI_none hf] at hp ⊢
      rw [if_neg hf]
      have : pg = 0 := by omega
      subst this
      simp
  · rw [if_neg hx]
    by_cases hf : findN fs x < fs.length
    · obtain ⟨k, hk, e⟩ := findN_iff.1 hf
      obtain ⟨i, hi, e2⟩ := m3 k hk
      have hne : i ≠ findN (withName fs nm) nm := by
        intro e3
        apply hx
        rw [← e, ← e2, e3]
        exact findN_name (findN_with fs nm)
      have e4 : (doP fs nm pg bs).getD i (ByteArray.empty, []) = fs.getD k (ByteArray.empty, []) := by rw [doP_get, if_neg hne, e2]
      have e5 := lenI_of hi' (i := i) (by rw [doP_len2]; exact hi)
      rw [e4, e] at e5
      have e6 := lenI_of h hk
      rw [e] at e6
      rw [e5, e6]
    · rw [lenI_none hf, lenI_none]
      rw [doP_found h]
      rintro (h1 | h1)
      · exact hx h1
      · exact hf h1

/-- A map that reads as the census of a list of files. -/
def keyL (nm : ByteArray) : Lit := .string nm.data.toList
theorem keyL_inj {a b : ByteArray} (h : keyL a = keyL b) : a = b := by
  injection h with h
  cases a; cases b; simp at h; subst h; rfl
structure Rep (D : DataW Unit) (fs : List PF) : Prop where
  tidy : Tidy D
  at_ : ∀ nm : ByteArray, D.atKey (keyL nm) (.lit (.int .i64 0)) = .lit (.int .i64 (lenI fs nm))
  has_ : ∀ nm : ByteArray, Maps.has D (keyL nm) = decide (findN fs nm < fs.length)
  size_ : Maps.size D = fs.length
theorem Rep.empty : Rep (.map []) [] := by
  refine ⟨tidy_empty, fun nm => ?_, fun nm => ?_, rfl⟩
  · have : lenI [] nm = 0 := by simp [lenI]
    rw [this]
    exact atKey_of_not_has (by rfl) _
  · rw [has_eq]; simp
theorem isKeyL (nm : ByteArray) : WideAt.IsKeyLit (keyL nm) := by simp [WideAt.IsKeyLit, keyL]
/-- One put makes the map that of another list. -/
theorem Rep.put {D : DataW Unit} {fs gs : List PF} {nm : ByteArray} {v : Int} (h : Rep D fs) (hv : v = lenI gs nm) (hg : findN gs nm < gs.length) (ho : ∀ x, x ≠ nm → lenI gs x = lenI fs x) (hf : ∀ x, x ≠ nm → (findN gs x < gs.length ↔ findN fs x < fs.length)) (hl : gs.length = if findN fs nm < fs.length then fs.length else fs.length + 1) :
    Rep (D.put (keyL nm) (.lit (.int .i64 v))) gs := by
  refine ⟨h.tidy.put (isKeyL nm) _, fun x => ?_, fun x => ?_, ?_⟩
  · by_cases e : x = nm
    · subst e; rw [atKey_put_same h.tidy.isMap (isKeyL x), hv]
    · rw [atKey_put_other (fun e2 => e (keyL_inj e2)), h.at_, ho x e]
  · by_cases e : x = nm
    · subst e; rw [has_put_same h.tidy.isMap (isKeyL x)]; simp [hg]
    · rw [has_put_other (fun e2 => e (keyL_inj e2)), h.has_]
      exact decide_eq_decide.2 (hf x e).symm
  · rw [size_put h.tidy, h.has_, h.size_, hl]
    simp
theorem Rep.same {D : DataW Unit} {fs gs : List PF} (h : Rep D fs) (ho : ∀ x, lenI gs x = lenI fs x) (hf : ∀ x, (findN gs x < gs.length ↔ findN fs x < fs.length)) (hl : gs.length = fs.length) : Rep D gs :=
  ⟨h.tidy, fun x => by rw [h.at_, ho], fun x => by rw [h.has_]; exact decide_eq_decide.2 (hf x).symm, by rw [h.size_, hl]⟩
/-- The next file of a list whose names ascend. -/
theorem Rep.file {D : DataW Unit} {fs : List PF} {k : Nat} {f : PF} (h : Rep D (fs.take k)) (hk : k < fs.length) (hok : ∀ i, i < k + 1 → fileOk fs i = true) (hf : f = fs.getD k (ByteArray.empty, [])) :
    lenI (fs.take k) f.1 = 0 ∧ Rep (D.put (keyL f.1) (.lit (.int .i64 ((f.2.length : Int) / 128)))) (fs.take (k + 1)) := by
  have i0 := inv_of_ok (k := k) (by omega) (fun i hi => hok i (by omega))
  have i1 := inv_of_ok (k := k + 1) (by omega) hok
  have l0 : (fs.take k).length = k := by simp; omega
  have l1 : (fs.take (k + 1)).length = k + 1 := by simp; omega
  have gk : (fs.take (k + 1)).getD k (ByteArray.empty, []) = f := by rw [getD_take (by omega), hf]
  have hnot : ¬ findN (fs.take k) f.1 < (fs.take k).length := by
    rw [findN_iff]
    rintro ⟨i, hi, e⟩
    rw [l0] at hi
    have := i1.ne i k (by omega) (by omega) (by omega)
    rw [gk, getD_take (by omega), ← getD_take (k := k) hi] at this
    exact this e
  have hiff : ∀ x, x ≠ f.1 → (findN (fs.take (k + 1)) x < (fs.take (k + 1)).length ↔ findN (fs.take k) x < (fs.take k).length) := by
    intro x hx
    rw [findN_iff, findN_iff, l0, l1]
    constructor
    · rintro ⟨i, hi, e⟩
      by_cases hik : i = k
      · subst hik; rw [gk] at e; exact absurd e.symm hx
      · exact ⟨i, by omega, by rw [getD_take (show i < k by omega), ← getD_take (show i < k + 1 by omega)]; exact e⟩
    · rintro ⟨i, hi, e⟩
      exact ⟨i, by omega, by rw [getD_take (show i < k + 1 by omega), ← getD_take (show i < k by omega)]; exact e⟩
  refine ⟨lenI_none hnot, h.put ?_ ?_ ?_ hiff ?_⟩
  · have := lenI_of i1 (i := k) (by omega)
    rw [gk] at this
    exact this.symm
  · rw [findN_iff]; exact ⟨k, by omega, by rw [gk]⟩
  · intro x hx
    by_cases hfx : findN (fs.take k) x < (fs.take k).length
    · obtain ⟨i, hi, e⟩ := findN_iff.1 hfx
      rw [l0] at hi
      have e1 := lenI_of i0 (i := i) (by omega)
      have e2 := lenI_of i1 (i := i) (by omega)
      rw [getD_take hi] at e1 e
      rw [getD_take (by omega)] at e2
      rw [e] at e1 e2
      rw [e1, e2]
    · rw [lenI_none hfx, lenI_none (fun h2 => hfx ((hiff x hx).1 h2))]
  · rw [l0, l1, if_neg (by rw [l0] at hnot; exact hnot)]
/-- A cached write that is as it should be. -/
theorem Rep.pend {D : DataW Unit} {fs : List PF} {nm : ByteArray} {pg : Nat} {bs : List Int} (h : Rep D fs) (hi : Inv fs) (hp : (pg : Int) ≤ lenI fs nm) :
    ((pg : Int) = lenI fs nm → Rep (D.put (keyL nm) (.lit (.int .i64 (lenI fs nm + 1)))) (doP fs nm pg bs)) ∧ ((pg : Int) ≠ lenI fs nm → Rep D (doP fs nm pg bs)) := by
  constructor
  · intro e
    refine h.put ?_ ?_ ?_ ?_ (doP_len fs nm pg bs)
    · rw [doP_lenI hi hp, if_pos rfl, if_pos e]
    · rw [doP_found hi]; exact .inl rfl
    · intro x hx; rw [doP_lenI hi hp, if_neg hx]
    · intro x hx; rw [doP_found hi]; exact ⟨fun h1 => h1.resolve_left hx, .inr⟩
  · intro e
    have hf : findN fs nm < fs.length := by
      by_cases hf : findN fs nm < fs.length
      · exact hf
      · rw [lenI_none hf] at hp e; omega
    refine h.same ?_ ?_ (by rw [doP_len, if_pos hf])
    · intro x
      rw [doP_lenI hi hp]
      by_cases hx : x = nm
      · rw [if_pos hx, if_neg e, hx]
      · rw [if_neg hx]
    · intro x
      rw [doP_found hi]
      exact ⟨fun h1 => h1.elim (fun h2 => h2 ▸ hf) id, .inr⟩

/-- The other way of asking: the room at the end alone. -/
def cacheI (cp : Int) : List PP → List PF → Bool
  | [], fs => fitsB cp fs
  | p :: r, fs => pendOk fs p && cacheI cp r (stepP fs p)
theorem fits_mono {cp : Int} {fs : List PF} {p : PP} (h : fitsB cp (stepP fs p) = true) : fitsB cp fs = true := by
  have h1 := total_mono fs p.1 p.2.1.toNat p.2.2
  have h2 := len_mono fs p.1 p.2.1.toNat p.2.2
  change fitsB cp (doP fs p.1 p.2.1.toNat p.2.2) = true at h
  simp only [fitsB, Bool.and_eq_true, decide_eq_true_eq] at h ⊢
  exact ⟨by omega, by omega⟩
theorem cacheI_fits {cp : Int} : ∀ (ps : List PP) (fs : List PF), cacheI cp ps fs = true → fitsB cp fs = true
  | [], fs, h => h
  | p :: r, fs, h => by
    simp only [cacheI, Bool.and_eq_true] at h
    exact fits_mono (cacheI_fits r _ h.2)
theorem cache_eq {cp : Int} : ∀ (ps : List PP) (fs : List PF), (fitsB cp fs && cacheS cp ps fs) = cacheI cp ps fs
  | [], fs => by simp [cacheS, cacheI]
  | p :: r, fs => by
    simp only [cacheS, cacheI]
    rw [cache_eq r (stepP fs p)]
    cases hc : cacheI cp r (stepP fs p)
    · simp
    · have := fits_mono (cacheI_fits r _ hc)
      rw [this]; simp
def implV (fs : List PF) (ps : List PP) (cp fu : Int) : Bool := decide (0 ≤ cp ∧ cp ≤ 1000 ∧ -1 ≤ fu ∧ fu ≤ 1000000) && decide (fs.length ≤ 12) && filesOk fs && decide (ps.length ≤ 1000) && cacheI cp ps fs
theorem valid_eq (fs : List PF) (ps : List PP) (cp fu : Int) : specV fs ps cp fu = implV fs ps cp fu := by
  unfold specV implV
  rw [← cache_eq]
  unfold headB fitsB
  rw [Bool.eq_iff_iff]
  simp only [Bool.and_eq_true, decide_eq_true_eq]
  constructor
  · rintro ⟨⟨⟨⟨⟨⟨a1, a2⟩, a3⟩, a4⟩, a5⟩, a6⟩, a7⟩
    exact ⟨⟨⟨⟨⟨a2.1, a2.2, a4.1, a4.2⟩, a1⟩, a5⟩, a3⟩, ⟨a1, a6⟩, a7⟩
  · rintro ⟨⟨⟨⟨⟨a2, a3, a4, a5⟩, a1⟩, a6⟩, a7⟩, ⟨_, a8⟩, a9⟩
    exact ⟨⟨⟨⟨⟨⟨a1, a2, a3⟩, a7⟩, a4, a5⟩, a6⟩, a8⟩, a9⟩
end Go.Proofs.Ytmmdkjeoadlikaa
