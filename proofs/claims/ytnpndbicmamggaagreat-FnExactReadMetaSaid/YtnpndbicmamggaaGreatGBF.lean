import Derived.Test.YtnpndbicmamggaaGreatGBD
import Derived.Test.YtnpndbicmamggaaGreatSpV
import Derived.Maps.OwnOps
import Derived.WalkSpells
namespace Go.Proofs.YtnpndbicmamggaaGreat
open Go.RowKit Go.Maps
set_option linter.unusedVariables false
set_option maxRecDepth 100000
set_option linter.unusedSimpArgs false

theorem withName_mem {fs : List PF} {nm : ByteArray} (h : Inv fs) : (∀ i j, i ≠ j → i < (withName fs nm).length → j < (withName fs nm).length → ((withName fs nm).getD i (ByteArray.empty, [])).1 ≠ ((withName fs nm).getD j (ByteArray.empty, [])).1) ∧
    (∀ i, i < (withName fs nm).length → ((withName fs nm).getD i (ByteArray.empty, [])).1 ≠ nm → ∃ k, k < fs.length ∧ (withName fs nm).getD i (ByteArray.empty, []) = fs.getD k (ByteArray.empty, [])) ∧
    (∀ k, k < fs.length → ∃ i, i < (withName fs nm).length ∧ (withName fs nm).getD i (ByteArray.empty, []) = fs.getD k (ByteArray.empty, [])) := by
  by_cases hf : findN fs nm < fs.length
  · have e : withName fs nm = fs := by unfold withName; rw [if_pos hf]
    rw [e]
    exact ⟨h.ne, fun i hi _ => ⟨i, hi, rfl⟩, fun k hk => ⟨k, hk, rfl⟩⟩
  · have hp : insN fs nm ≤ fs.length := List.findIdx_le_length
    have e : withName fs nm = fs.take (insN fs nm) ++ (nm, []) :: fs.drop (insN fs nm) := by unfold withName; rw [if_neg hf]
    have hno : ∀ i, i < fs.length → (fs.getD i (ByteArray.empty, [])).1 ≠ nm := fun i hi e2 => hf (findN_iff.2 ⟨i, hi, e2⟩)
    have hl : (withName fs nm).length = fs.length + 1 := by rw [withName_len, if_neg hf]
    rw [hl]
    generalize insN fs nm = p at *
    have hg : ∀ j, (withName fs nm).getD j (ByteArray.empty, []) = if j < p then fs.getD j (ByteArray.empty, []) else if j = p then (nm, []) else fs.getD (j - 1) (ByteArray.empty, []) := by
      intro j; rw [e, getD_ins _ _ _ _ _ hp]
    refine ⟨fun i j hij hi hj => ?_, fun i hi hne => ?_, fun k hk => ?_⟩
    · rw [hg, hg]
      by_cases a1 : i < p
      · rw [if_pos a1]
        by_cases b1 : j < p
        · rw [if_pos b1]; exact h.ne i j hij (by omega) (by omega)
        · rw [if_neg b1]
          by_cases b2 : j = p
          · rw [if_pos b2]; exact hno i (by omega)
          · rw [if_neg b2]; exact h.ne i (j - 1) (by omega) (by omega) (by omega)
      · rw [if_neg a1]
        by_cases a2 : i = p
        · rw [if_pos a2]
          by_cases b1 : j < p
          · rw [if_pos b1]; exact fun e2 => hno j (by omega) e2.symm
          · rw [if_neg b1, if_neg (by omega)]; exact fun e2 => hno (j - 1) (by omega) e2.symm
        · rw [if_neg a2]
          by_cases b1 : j < p
          · rw [if_pos b1]; exact h.ne (i - 1) j (by omega) (by omega) (by omega)
          · rw [if_neg b1]
            by_cases b2 : j = p
            · rw [if_pos b2]; exact hno (i - 1) (by omega)
            · rw [if_neg b2]; exact h.ne (i - 1) (j - 1) (by omega) (by omega) (by omega)
    · rw [hg] at hne ⊢
      by_cases a1 : i < p
      · rw [if_pos a1]; exact ⟨i, by omega, rfl⟩
      · rw [if_neg a1] at hne ⊢
        by_cases a2 : i = p
        · rw [if_pos a2] at hne; exact absurd rfl hne
        · rw [if_neg a2]; exact ⟨i - 1, by omega, rfl⟩
    · by_cases a1 : k < p
      · exact ⟨k, by omega, by rw [hg, if_pos a1]⟩
      · exact ⟨k + 1, by omega, by rw [hg, if_neg (by omega), if_neg (by omega)]; rfl⟩

theorem doP_get {fs : List PF} {nm : ByteArray} {pg : Nat} {bs : List Int} (j : Nat) : (doP fs nm pg bs).getD j (ByteArray.empty, []) = if j = findN (withName fs nm) nm then (nm, doData ((withName fs nm).getD (findN (withName fs nm) nm) (ByteArray.empty, [])).2 pg bs) else (withName fs nm).getD j (ByteArray.empty, []) := by
  unfold doP
  rw [getD_set _ _ _ _ _ (findN_with fs nm)]
theorem doP_name {fs : List PF} {nm : ByteArray} {pg : Nat} {bs : List Int} (j : Nat) (hj : j < (withName fs nm).length) : ((doP fs nm pg bs).getD j (ByteArray.empty, [])).1 = ((withName fs nm).getD j (ByteArray.empty, [])).1 := by
  rw [doP_get]
  split
  · rename_i e; subst e; exact (findN_name (findN_with fs nm)).symm
  · rfl
theorem doP_len2 (fs : List PF) (nm : ByteArray) (pg : Nat) (bs : List Int) : (doP fs nm pg bs).length = (withName fs nm).length := by unfold doP; simp
theorem doP_inv {fs : List PF} {nm : ByteArray} {pg : Nat} {bs : List Int} (h : Inv fs) : Inv (doP fs nm pg bs) := by
  obtain ⟨m1, m2, m3⟩ := withName_mem (nm := nm) h
  constructor
  · intro i j hij hi hj
    rw [doP_len2] at hi hj
    rw [doP_name i hi, doP_name j hj]
    exact m1 i j hij hi hj
  · intro i hi
    rw [doP_len2] at hi
    rw [doP_get]
    split
    · show 128 ≤ (doData _ pg bs).length ∧ (doData _ pg bs).length % 128 = 0
      rw [doData_len, withName_data]
      split
      · rename_i hf
        have := h.pg _ hf
        omega
      · omega
    · rename_i hne
      obtain ⟨k, hk, e⟩ := m2 i hi (fun e2 => hne ((findN_at hi (fun j hj e3 => m1 j i (by omega) (by omega) hi (e3.trans e2.symm)) e2).symm))
      rw [e]
      exact h.pg k hk
theorem doP_found {fs : List PF} {nm : ByteArray} {pg : Nat} {bs : List Int} (h : Inv fs) (x : ByteArray) : findN (doP fs nm pg bs) x < (doP fs nm pg bs).length ↔ (x = nm ∨ findN fs x < fs.length) := by
  obtain ⟨m1, m2, m3⟩ := withName_mem (nm := nm) h
  rw [findN_iff]
  constructor
  · rintro ⟨i, hi, e⟩
    rw [doP_len2] at hi
    rw [doP_name i hi] at e
    by_cases hx : x = nm
    · exact .inl hx
    · obtain ⟨k, hk, e2⟩ := m2 i hi (by rw [e]; exact hx)
      exact .inr (findN_iff.2 ⟨k, hk, by rw [← e2]; exact e⟩)
  · rintro (rfl | hf)
    · exact ⟨findN (withName fs x) x, by rw [doP_len2]; exact findN_with fs x, by rw [doP_name _ (findN_with fs x)]; exact findN_name (findN_with fs x)⟩
    · obtain ⟨k, hk, e⟩ := findN_iff.1 hf
      obtain ⟨i, hi, e2⟩ := m3 k hk
      exact ⟨i, by rw [doP_len2]; exact hi, by rw [doP_name i hi, e2]; exact e⟩
theorem doP_lenI {fs : List PF} {nm : ByteArray} {pg : Nat} {bs : List Int} (h : Inv fs) (hp : (pg : Int) ≤ lenI fs nm) (x : ByteArray) : lenI (doP fs nm pg bs) x = if x = nm then (if (pg : Int) = lenI fs nm then lenI fs nm + 1 else lenI fs nm) else lenI fs x := by
  obtain ⟨m1, m2, m3⟩ := withName_mem (nm := nm) h
  have hi' := doP_inv (nm := nm) (pg := pg) (bs := bs) h
  by_cases hx : x = nm
  · rw [if_pos hx]
    subst hx
    have hw := findN_with fs x
    have hn : ((doP fs x pg bs).getD (findN (withName fs x) x) (ByteArray.empty, [])).1 = x := by rw [doP_name _ hw]; exact findN_name hw
    have e1 := lenI_of hi' (i := findN (withName fs x) x) (by rw [doP_len2]; exact hw)
    rw [hn] at e1
    rw [e1, doP_get, if_pos rfl]
    show ((doData _ pg bs).length : Int) / 128 = _
    rw [doData_len, withName_data]
    by_cases hf : findN fs x < fs.length
    · have hl : lenI fs x = ((fs.getD (findN fs x) (ByteArray.empty, [])).2.length : Int) / 128 := by unfold lenI; rw [if_pos hf]
      have hpg := h.pg _ hf
      rw [if_pos hf]
      rw [hl] at hp ⊢
      generalize (fs.getD (findN fs x) (ByteArray.empty, [])).2.length = q at *
      split <;> omega
    · rw [lenI_none hf] at hp ⊢
      rw [if_neg hf]
      have : pg = 0 := by omega
      subst this
      simp
  · rw [if_neg hx]
    by_cases hf : findN fs x < fs.length
    · obtain ⟨k, hk, e⟩ := findN_iff.1 hf
      obtain ⟨i, hi, e2⟩ := m3 k hk
      have hne : i ≠ findN (withName fs nm) nm := by
        intro e3
        apply hx
        rw [← e, ← e2, e3]
        exact findN_name (findN_with fs nm)
      have e4 : (doP fs nm pg bs).getD i (ByteArray.empty, []) = fs.getD k (ByteArray.empty, []) := by rw [doP_get, if_neg hne, e2]
      have e5 := lenI_of hi' (i := i) (by rw [doP_len2]; exact hi)
      rw [e4, e] at e5
      have e6 := lenI_of h hk
      rw [e] at e6
      rw [e5, e6]
    · rw [lenI_none hf, lenI_none]
      rw [doP_found h]
      rintro (h1 | h1)
      · exact hx h1
      · exact hf h1

/-- A map that reads as the census of a list of files. -/
def keyL (nm : ByteArray) : Lit := .string nm.data.toList
theorem keyL_inj {a b : ByteArray} (h : keyL a = keyL b) : a = b := by
  injection h with h
  cases a; cases b; simp at h; subst h; rfl
structure Rep (D : DataW Unit) (fs : List PF) : Prop where
  tidy : Tidy D
  at_ : ∀ nm : ByteArray, D.atKey (keyL nm) (.lit (.int .i64 0)) = .lit (.int .i64 (lenI fs nm))
  has_ : ∀ nm : ByteArray, Maps.has D (keyL nm) = decide (findN fs nm < fs.length)
  size_ : Maps.size D = fs.length
theorem Rep.empty : Rep (.map []) [] := by
  refine ⟨tidy_empty, fun nm => ?_, fun nm => ?_, rfl⟩
  · have : lenI [] nm = 0 := by simp [lenI]
    rw [this]
    exact atKey_of_not_has (by rfl) _
  · rw [has_eq]; simp
theorem isKeyL (nm : ByteArray) : WideAt.IsKeyLit (keyL nm) := by simp [WideAt.IsKeyLit, keyL]
/-- One put makes the map that of another list. -/
theorem Rep.put {D : DataW Unit} {fs gs : List PF} {nm : ByteArray} {v : Int} (h : Rep D fs) (hv : v = lenI gs nm) (hg : findN gs nm < gs.length) (ho : ∀ x, x ≠ nm → lenI gs x = lenI fs x) (hf : ∀ x, x ≠ nm → (findN gs x < gs.length ↔ findN fs x < fs.length)) (hl : gs.length = if findN fs nm < fs.length then fs.length else fs.length + 1) :
    Rep (D.put (keyL nm) (.lit (.int .i64 v))) gs := by
  refine ⟨h.tidy.put (isKeyL nm) _, fun x => ?_, fun x => ?_, ?_⟩
  · by_cases e : x = nm
    · subst e; rw [atKey_put_same h.tidy.isMap (isKeyL x), hv]
    · rw [atKey_put_other (fun e2 => e (keyL_inj e2)), h.at_, ho x e]
  · by_cases e : x = nm
    · subst e; rw [has_put_same h.tidy.isMap (isKeyL x)]; simp [hg]
    · rw [has_put_other (fun e2 => e (keyL_inj e2)), h.has_]
      exact decide_eq_decide.2 (hf x e).symm
  · rw [size_put h.tidy, h.has_, h.size_, hl]
    simp
theorem Rep.same {D : DataW Unit} {fs gs : List PF} (h : Rep D fs) (ho : ∀ x, lenI gs x = lenI fs x) (hf : ∀ x, (findN gs x < gs.length ↔ findN fs x < fs.length)) (hl : gs.length = fs.length) : Rep D gs :=
  ⟨h.tidy, fun x => by rw [h.at_, ho], fun x => by rw [h.has_]; exact decide_eq_decide.2 (hf x).symm, by rw [h.size_, hl]⟩
/-- The next file of a list whose names ascend. -/
theorem Rep.file {D : DataW Unit} {fs : List PF} {k : Nat} {f : PF} (h : Rep D (fs.take k)) (hk : k < fs.length) (hok : ∀ i, i < k + 1 → fileOk fs i = true) (hf : f = fs.getD k (ByteArray.empty, [])) :
    lenI (fs.take k) f.1 = 0 ∧ Rep (D.put (keyL f.1) (.lit (.int .i64 ((f.2.length : Int) / 128)))) (fs.take (k + 1)) := by
  have i0 := inv_of_ok (k := k) (by omega) (fun i hi => hok i (by omega))
  have i1 := inv_of_ok (k := k + 1) (by omega) hok
  have l0 : (fs.take k).length = k := by simp; omega
  have l1 : (fs.take (k + 1)).length = k + 1 := by simp; omega
  have gk : (fs.take (k + 1)).getD k (ByteArray.empty, []) = f := by rw [getD_take (by omega), hf]
  have hnot : ¬ findN (fs.take k) f.1 < (fs.take k).length := by
    rw [findN_iff]
    rintro ⟨i, hi, e⟩
    rw [l0] at hi
    have := i1.ne i k (by omega) (by omega) (by omega)
    rw [gk, getD_take (by omega), ← getD_take (k := k) hi] at this
    exact this e
  have hiff : ∀ x, x ≠ f.1 → (findN (fs.take (k + 1)) x < (fs.take (k + 1)).length ↔ findN (fs.take k) x < (fs.take k).length) := by
    intro x hx
    rw [findN_iff, findN_iff, l0, l1]
    constructor
    · rintro ⟨i, hi, e⟩
      by_cases hik : i = k
      · subst hik; rw [gk] at e; exact absurd e.symm hx
      · exact ⟨i, by omega, by rw [getD_take (show i < k by omega), ← getD_take (show i < k + 1 by omega)]; exact e⟩
    · rintro ⟨i, hi, e⟩
      exact ⟨i, by omega, by rw [getD_take (show i < k + 1 by omega), ← getD_take (show i < k by omega)]; exact e⟩
  refine ⟨lenI_none hnot, h.put ?_ ?_ ?_ hiff ?_⟩
  · have := lenI_of i1 (i := k) (by omega)
    rw [gk] at this
    exact this.symm
  · rw [findN_iff]; exact ⟨k, by omega, by rw [gk]⟩
  · intro x hx
    by_cases hfx : findN (fs.take k) x < (fs.take k).length
    · obtain ⟨i, hi, e⟩ := findN_iff.1 hfx
      rw [l0] at hi
      have e1 := lenI_of i0 (i := i) (by omega)
      have e2 := lenI_of i1 (i := i) (by omega)
      rw [getD_take hi] at e1 e
      rw [getD_take (by omega)] at e2
      rw [e] at e1 e2
      rw [e1, e2]
    · rw [lenI_none hfx, lenI_none (fun h2 => hfx ((hiff x hx).1 h2))]
  · rw [l0, l1, if_neg (by rw [l0] at hnot; exact hnot)]
/-- A cached write that is as it should be. -/
theorem Rep.pend {D : DataW Unit} {fs : List PF} {nm : ByteArray} {pg : Nat} {bs : List Int} (h : Rep D fs) (hi : Inv fs) (hp : (pg : Int) ≤ lenI fs nm) :
    ((pg : Int) = lenI fs nm → Rep (D.put (keyL nm) (.lit (.int .i64 (lenI fs nm + 1)))) (doP fs nm pg bs)) ∧ ((pg : Int) ≠ lenI fs nm → Rep D (doP fs nm pg bs)) := by
  constructor
  · intro e
    refine h.put ?_ ?_ ?_ ?_ (doP_len fs nm pg bs)
    · rw [doP_lenI hi hp, if_pos rfl, if_pos e]
    · rw [doP_found hi]; exact .inl rfl
    · intro x hx; rw [doP_lenI hi hp, if_neg hx]
    · intro x hx; rw [doP_found hi]; exact ⟨fun h1 => h1.resolve_left hx, .inr⟩
  · intro e
    have hf : findN fs nm < fs.length := by
      by_cases hf : findN fs nm < fs.length
      · exact hf
      · rw [lenI_none hf] at hp e; omega
    refine h.same ?_ ?_ (by rw [doP_len, if_pos hf])
    · intro x
      rw [doP_lenI hi hp]
      by_cases hx : x = nm
      · rw [if_pos hx, if_neg e, hx]
      · rw [if_neg hx]
    · intro x
      rw [doP_found hi]
      exact ⟨fun h1 => h1.elim (fun h2 => h2 ▸ hf) id, .inr⟩

/-- The other way of asking: the room at the end alone. -/
def cacheI (cp : Int) : List PP → List PF → Bool
  | [], fs => fitsB cp fs
  | p :: r, fs => pendOk fs p && cacheI cp r (stepP fs p)
theorem fits_mono {cp : Int} {fs : List PF} {p : PP} (h : fitsB cp (stepP fs p) = true) : fitsB cp fs = true := by
  have h1 := total_mono fs p.1 p.2.1.toNat p.2.2
  have h2 := len_mono fs p.1 p.2.1.toNat p.2.2
  change fitsB cp (doP fs p.1 p.2.1.toNat p.2.2) = true at h
  simp only [fitsB, Bool.and_eq_true, decide_eq_true_eq] at h ⊢
  exact ⟨by omega, by omega⟩
theorem cacheI_fits {cp : Int} : ∀ (ps : List PP) (fs : List PF), cacheI cp ps fs = true → fitsB cp fs = true
  | [], fs, h => h
  | p :: r, fs, h => by
    simp only [cacheI, Bool.and_eq_true] at h
    exact fits_mono (cacheI_fits r _ h.2)
theorem cache_eq {cp : Int} : ∀ (ps : List PP) (fs : List PF), (fitsB cp fs && cacheS cp ps fs) = cacheI cp ps fs
  | [], fs => by simp [cacheS, cacheI]
  | p :: r, fs => by
    simp only [cacheS, cacheI]
    rw [cache_eq r (stepP fs p)]
    cases hc : cacheI cp r (stepP fs p)
    · simp
    · have := fits_mono (cacheI_fits r _ hc)
      rw [this]; simp
def implV (fs : List PF) (ps : List PP) (cp fu : Int) : Bool := decide (0 ≤ cp ∧ cp ≤ 1000 ∧ -1 ≤ fu ∧ fu ≤ 1000000) && decide (fs.length ≤ 12) && filesOk fs && decide (ps.length ≤ 1000) && cacheI cp ps fs
theorem valid_eq (fs : List PF) (ps : List PP) (cp fu : Int) : specV fs ps cp fu = implV fs ps cp fu := by
  unfold specV implV
  rw [← cache_eq]
  unfold headB fitsB
  rw [Bool.eq_iff_iff]
  simp only [Bool.and_eq_true, decide_eq_true_eq]
  constructor
  · rintro ⟨⟨⟨⟨⟨⟨a1, a2⟩, a3⟩, a4⟩, a5⟩, a6⟩, a7⟩
    exact ⟨⟨⟨⟨⟨a2.1, a2.2, a4.1, a4.2⟩, a1⟩, a5⟩, a3⟩, ⟨a1, a6⟩, a7⟩
  · rintro ⟨⟨⟨⟨⟨a2, a3, a4, a5⟩, a1⟩, a6⟩, a7⟩, ⟨_, a8⟩, a9⟩
    exact ⟨⟨⟨⟨⟨⟨a1, a2, a3⟩, a7⟩, a4, a5⟩, a6⟩, a8⟩, a9⟩
end Go.Proofs.YtnpndbicmamggaaGreat
namespace Go.Proofs.YtnpndbicmamggaaGreat
open Go.RowKit Go.Maps
set_option linter.unusedVariables false
set_option maxRecDepth 100000

theorem lawS : Keyed Tryz.prog 9 := string_keyed Tryz.underlying9
theorem zeroI (w : World) : (zeroValue 2).run Tryz.prog w = .ok (.int .i64 0) w := by kernel_rfl
theorem keyS {nm : ByteArray} (h : nm.size ≤ maxLen) : keyOf Tryz.prog 9 (.string nm) = some (keyL nm) := WideMaps.keyOf_string_mk Tryz.underlying9 h

/-- Two blocks may have turned, the rest stands; there may be new ones. -/
structure Turn (w w' : World) (cb mb : Nat) : Prop where
  os : w'.os = w.os
  tape : w'.tape = w.tape
  output : w'.output = w.output
  size : w.heap.size ≤ w'.heap.size
  block : ∀ j, j < w.heap.size → j ≠ cb → j ≠ mb → w'.heap[j]? = w.heap[j]?
theorem Turn.refl (w : World) (cb mb : Nat) : Turn w w cb mb := ⟨rfl, rfl, rfl, Nat.le_refl _, fun _ _ _ _ => rfl⟩
theorem Turn.trans {a b c : World} {cb mb : Nat} (h : Turn a b cb mb) (k : Turn b c cb mb) : Turn a c cb mb :=
  ⟨k.os.trans h.os, k.tape.trans h.tape, k.output.trans h.output, Nat.le_trans h.size k.size, fun j hj h1 h2 => (k.block j (Nat.lt_of_lt_of_le hj h.size) h1 h2).trans (h.block j hj h1 h2)⟩
theorem Turn.of_below {a b : World} {cb mb : Nat} (h : Below a.heap.size a b) : Turn a b cb mb := ⟨h.os, h.tape, h.output, h.size, fun j hj _ _ => h.block j hj⟩
theorem Turn.below {a b : World} {cb mb S : Nat} (h : Turn a b cb mb) (hS : S ≤ a.heap.size) (h1 : S ≤ cb) (h2 : S ≤ mb) : Below S a b := ⟨h.os, h.tape, h.output, h.size, fun j hj => h.block j (by omega) (by omega) (by omega)⟩

def MapAt (w : World) (mb k : Nat) (D : DataW Unit) : Prop := w.ownsMap Tryz.prog 9 (plainElem Tryz.prog 2) mb k D
theorem MapAt.ne {w : World} {mb k cb : Nat} {D : DataW Unit} {cs : Array Value} {t : TypeId} {fz : Nat × Nat} (h : MapAt w mb k D) (hc : w.heap[cb]? = some (.cells cs t fz)) : mb ≠ cb := by
  obtain ⟨es, clock, hb, _⟩ := h
  intro e
  subst e
  rw [hb] at hc
  cases hc
theorem MapAt.keep {w w' : World} {mb k : Nat} {D : DataW Unit} (h : MapAt w mb k D) (hb : w'.heap[mb]? = w.heap[mb]?) : MapAt w' mb k D := by
  obtain ⟨es, clock, h1, rest⟩ := h
  exact ⟨es, clock, hb.trans h1, rest⟩

def AddRes (w w' : World) (cb mb k : Nat) (D : DataW Unit) (tot : Int) : Prop :=
  w'.heap[cb]? = some (.cells #[.map (some mb), .int .i64 tot] 77) ∧ MapAt w' mb (k + 1) D ∧ Turn w w' cb mb

set_option maxHeartbeats 400000 in
theorem add_any (nm : ByteArray) (pages old tot : Int) (cb mb k : Nat) (D : DataW Unit) (w : World) (hcb : w.heap[cb]? = some (.cells #[.map (some mb), .int .i64 tot] 77)) (hm : MapAt w mb k D) (hk : k ≤ 1073741824)
    (hat : D.atKey (keyL nm) (.lit (.int .i64 0)) = .lit (.int .i64 old)) (hs : nm.size ≤ maxLen) (h0 : 0 ≤ pages) (h1 : pages ≤ 1099511627776) (h2 : 0 ≤ old) (h3 : old ≤ 1099511627776) (h4 : 0 ≤ tot) (h5 : tot ≤ 1099511627776) :
    Calls Tryz.prog 68 #[.pointer (some ⟨cb, 0, none⟩), .string nm, .int .i64 pages] w fun e w' => e = .returned (.tuple #[]) ∧ AddRes w w' cb mb k (D.put (keyL nm) (.lit (.int .i64 (old + pages)))) (tot + pages) := by
  have c0 : w.cell? ⟨cb, 0, none⟩ = some (.map (some mb)) := by rw [cell_of_row w cb 0 _ _ _ hcb]; rfl
  have hkey := keyS hs
  have hne := hm.ne hcb
  have HCB : Hid (w.heap[cb]? = some (.cells #[.map (some mb), .int .i64 tot] 77)) := hcb
  have HAT : Hid (D.atKey (keyL nm) (.lit (.int .i64 0)) = .lit (.int .i64 old)) := hat
  clear hcb hat
  have hm' : w.ownsMap Tryz.prog 9 (plainElem Tryz.prog 2) mb k D := hm
  go_enter Tryz.func68, Tryz.ntmps68
  go_wp2_with (first
    | (at_lookup; refine wpList_lookup_own_int _ rfl _ _ 75 rfl 9 2 .i64 lawS Tryz.underlying75 Tryz.underlying2 (zeroI _) mb k D rfl hm' _ _ rfl hkey ?_; intro c hat2 hwc; obtain rfl : old = c := (by have e := HAT.out.symm.trans hat2; injection e with e; injection e with _ e))
    | (at_mapUpdate; refine wpList_mapUpdate_own _ rfl _ _ _ 75 rfl 9 2 lawS Tryz.underlying75 _ mb k D rfl hm' (by unfold maxLen; omega) _ _ _ rfl rfl hkey _ [] (plainElem_int Tryz.underlying2 (WalkArith.wf_i64 (by omega))) ?_; intro w1 hown1 hgr1; have hb1 : Hid (w1.heap[cb]? = some (.cells #[.map (some mb), .int .i64 tot] 77)) := (hgr1.block cb (Array.getElem?_eq_some_iff.1 HCB.out).1 (fun e => hne (by injection e with e; exact e.symm))).trans HCB.out; have d1 : w1.cell? ⟨cb, 1, none⟩ = some (.int .i64 tot) := (by rw [cell_of_row w1 cb 1 _ _ _ hb1.out]; rfl); have f1 : w1.frozen? ⟨cb, 1, none⟩ = false := frozen_of_row w1 cb 1 _ _ hb1.out))
  go_end0
  refine ⟨rfl, ?_, ?_, ?_⟩
  · rw [heap_setCell_same w1 cb 1 _ _ _ hb1.out]; rfl
  · exact MapAt.keep (w := w1) hown1 (Below.heap_setCell w1 ⟨cb, 1, none⟩ _ mb hne)
  · refine ⟨hgr1.os, hgr1.tape, hgr1.output, by simpa using hgr1.size, fun j hj h1 h2 => ?_⟩
    rw [Below.heap_setCell w1 ⟨cb, 1, none⟩ _ j h1, hgr1.block j hj (fun e => h2 (by injection e))]
end Go.Proofs.YtnpndbicmamggaaGreat
namespace Go.Proofs.YtnpndbicmamggaaGreat
open Go.RowKit Go.Maps
set_option linter.unusedVariables false
set_option maxRecDepth 100000

def CFRes (w w' : World) (fs : List PF) (mb : Nat) (t : Int) (ok : Bool) : Prop :=
  ok = (decide (fs.length ≤ 12) && filesOk fs) ∧ w.heap.size ≤ mb ∧ (ok = true → t = totalI fs ∧ ∃ D, MapAt w' mb fs.length D ∧ Rep D fs) ∧ Below w.heap.size w w'

theorem two_cells {wr : World} {N : Nat} {v0 v1 : Value} {t : TypeId} (h : wr.heap[N]? = some (.cells #[v0, v1] t)) : (wr.cell? ⟨N, 0, none⟩ = some v0 ∧ wr.cell? ⟨N, 1, none⟩ = some v1) ∧ wr.frozen? ⟨N, 0, none⟩ = false ∧ wr.frozen? ⟨N, 1, none⟩ = false := by
  refine ⟨⟨?_, ?_⟩, frozen_of_row wr N 0 _ _ h, frozen_of_row wr N 1 _ _ h⟩
  · rw [cell_of_row wr N 0 _ _ _ h]; rfl
  · rw [cell_of_row wr N 1 _ _ _ h]; rfl
theorem fok_false {fs : List PF} {k : Nat} (hk : k < fs.length) (h : fileOk fs k = false) : false = (decide (fs.length ≤ 12) && filesOk fs) := by rw [filesOk_no hk h]; simp

set_option maxHeartbeats 2000000 in
theorem countFiles_any (a : Option Addr) (n c : Nat) (fs : List PF) (w : World) (A B : Nat) (hB : B ≤ w.heap.size) (hF : FilesAt w A B a n c fs) (hall : ∀ j, j < n → (fs.getD j (ByteArray.empty, [])).2.length ≤ 1048576) :
    Calls Tryz.prog 49 #[.slice a n c] w fun e w' => ∃ (mb : Nat) (t : Int) (ok : Bool), e = .returned (.tuple #[.agg #[.map (some mb), .int .i64 t], .bool ok]) ∧ CFRes w w' fs mb t ok := by
  have hmm := @run_makeMap Tryz.prog
  obtain ⟨hl, hnc, hc, hcell⟩ := hF
  unfold maxLen at hc
  have hb0 : Below w.heap.size w (((w.alloc (.cells #[.map none, .int .i64 0] 77)).alloc (.map #[] 0)).alloc (.cells #[.map (some (w.heap.size + 1)), .int .i64 0] 77)) := (((Below.refl _ _).alloc (Nat.le_refl _) _).alloc (by simp) _).alloc (by simp; omega) _
  by_cases h12 : 12 < n
  · have d1 : decide ((12 : Int) < (n : Int)) = true := by simp; omega
    go_enter Tryz.func49, Tryz.ntmps49
    go_wp2
    exact bodyPost_ret (v := .tuple #[.agg #[.map (some (w.heap.size + 1)), .int .i64 0], .bool false]) (by simp [results, Tryz.results49, go_sem]) rfl ⟨w.heap.size + 1, 0, false, rfl, by rw [show decide (fs.length ≤ 12) = false by simp; omega]; simp, by omega, (fun h => by cases h), (((Below.refl _ _).alloc (Nat.le_refl _) _).alloc (by simp) _).alloc (by simp; omega) _⟩
  · have d1 : decide ((12 : Int) < (n : Int)) = false := by simp; omega
    go_enter Tryz.func49, Tryz.ntmps49
    go_wp2
    clear d1
    go_loopw [5, 6, 15] (fun iv fv i wr => ∃ (k : Nat) (D : DataW Unit), k ≤ n ∧ i = .int .i64 k ∧ Hid (∀ j, j < k → fileOk fs j = true) ∧ Hid (wr.heap[w.heap.size]? = some (.cells #[.map none, .int .i64 0] 77)) ∧ Hid (wr.heap[w.heap.size + 1 + 1]? = some (.cells #[.map (some (w.heap.size + 1)), .int .i64 (totalI (fs.take k))] 77)) ∧ MapAt wr (w.heap.size + 1) k D ∧ Rep D (fs.take k) ∧ Below w.heap.size w wr) (fun _ _ i _ => n - (intOf i).toNat)
    case atStart =>
      refine ⟨0, .map [], Nat.zero_le _, rfl, fun j hj => absurd hj (Nat.not_lt_zero _), ?_, ?_, ?_, Rep.empty, hb0⟩
      · show _ = _
        rw [Below.heap_alloc _ _ _ (by simp; omega), Below.heap_alloc _ _ _ (by simp)]; exact heap_alloc_new w _
      · have := heap_alloc_new ((w.alloc (.cells #[.map none, .int .i64 0] 77)).alloc (.map #[] 0)) (.cells #[.map (some (w.heap.size + 1)), .int .i64 0] 77)
        simpa [totalI, Hid] using this
      · have := World.ownsMap_made (H := Unit) (w.alloc (.cells #[.map none, .int .i64 0] 77)) Tryz.prog 9 (plainElem Tryz.prog 2)
        have h2 := this.alloc (.cells #[.map (some (w.heap.size + 1)), .int .i64 0] 77)
        simpa [MapAt] using h2
    case round =>
      obtain ⟨k, D, hk, rfl, hok, hR, hCB, hM, hRep, hbel⟩ := hrel
      have hRl : w.heap.size < wr.heap.size := (Array.getElem?_eq_some_iff.1 hR.out).1
      have hCl : w.heap.size + 1 + 1 < wr.heap.size := (Array.getElem?_eq_some_iff.1 hCB.out).1
      obtain ⟨⟨r0, r1⟩, fr0, fr1⟩ := two_cells hR.out
      obtain ⟨⟨m0, m1⟩, fm0, fm1⟩ := two_cells hCB.out
      by_cases hlt : k < n
      · obtain ⟨ab, aoff, rfl, hab, hcb⟩ := hcell (by omega)
        have e1 := (hcb k hlt).below hab (hbel.mono hB)
        obtain ⟨f, hf⟩ : ∃ f, f = fs.getD k (ByteArray.empty, []) := ⟨_, rfl⟩
        have HFO : Hid (fileOk fs k = (nameB f.1 && !(f.2.length == 0) && (f.2.length % 128 == 0) && !(decide (0 < k) && geB (fs.getD (k - 1) (ByteArray.empty, [])).1 f.1))) := fileOk_eq hf
        have HF : Hid (f = fs.getD k (ByteArray.empty, [])) := hf
        have hall1 := hall k hlt
        rw [← hf] at e1 hall1
        obtain ⟨p1, p2, pa, pn, pc, p3, p4⟩ := e1
        have hpn := p4.1
        rw [hpn] at hall1 HFO
        have hbk : ab < wr.heap.size := by have := hbel.size; omega
        clear hf
        by_cases t4 : 0 < k
        · obtain ⟨g1, _, _⟩ := (hcb (k - 1) (by omega)).below hab (hbel.mono hB)
          obtain ⟨pf, hpf⟩ : ∃ pf, pf = fs.getD (k - 1) (ByteArray.empty, []) := ⟨_, rfl⟩
          rw [← hpf] at HFO g1
          clear hpf
          have s4 : decide ((0 : Int) < (k : Int)) = true := by simp; omega
          by_cases t5 : geB pf.1 f.1 = true
          · have HB : Hid (false = (decide (fs.length ≤ 12) && filesOk fs)) := fok_false (k := k) (by omega) (by rw [HFO.out]; simp [t4, t5])
            have s5 : Op.bytesLess pf.1.toList f.1.toList = false := by simpa [geB] using t5
            clear hcb hcell hall p4
            go_wp2_with fail
            go_quiet (fail)
            go_wp2_with (go_at_call 67; refine (isName_any _ _ p2).mono ?_; rintro e w1 ⟨rfl, rfl⟩)
            exact bodyPost_ret (v := .tuple #[.agg #[.map (some (w.heap.size + 1)), .int .i64 (totalI (fs.take k))], .bool false]) (by simp [results, Tryz.results49, go_sem, hRl, r0, r1]) rfl ⟨w.heap.size + 1, totalI (fs.take k), false, rfl, HB.out, by omega, (fun h => by cases h), ((below_dn hbel hbel.size).setCell (Nat.le_refl _) _).setCell (Nat.le_refl _) _⟩
          · have s5 : Op.bytesLess pf.1.toList f.1.toList = true := by simpa [geB] using t5
            have G4 : Hid ((decide (0 < k) && geB pf.1 f.1) = false) := by show _ = _; simp [t5]
            by_cases t1 : nameB f.1 = true
            · by_cases t2 : pn = 0
              · have HB : Hid (false = (decide (fs.length ≤ 12) && filesOk fs)) := fok_false (k := k) (by omega) (by rw [HFO.out]; simp [t2])
                have s2 : ((pn : Int) == 0) = true := by simp [t2]
                clear hcb hcell hall p4
                go_wp2_with fail
                go_quiet (fail)
                go_wp2_with (go_at_call 67; refine (isName_any _ _ p2).mono ?_; rintro e w1 ⟨rfl, rfl⟩)
                exact bodyPost_ret (v := .tuple #[.agg #[.map (some (w.heap.size + 1)), .int .i64 (totalI (fs.take k))], .bool false]) (by simp [results, Tryz.results49, go_sem, hRl, r0, r1]) rfl ⟨w.heap.size + 1, totalI (fs.take k), false, rfl, HB.out, by omega, (fun h => by cases h), ((below_dn hbel hbel.size).setCell (Nat.le_refl _) _).setCell (Nat.le_refl _) _⟩
              · by_cases t3 : pn % 128 = 0
                · have HOK : Hid (∀ i, i < k + 1 → fileOk fs i = true) := by
                    intro j hj
                    by_cases hjk : j = k
                    · subst hjk; rw [HFO.out, G4.out]; simp [t1, t2, t3]
                    · exact hok.out j (by omega)
                  obtain ⟨e0, hRep2⟩ := Rep.file hRep (by omega) HOK.out HF.out
                  have hat := hRep.at_ f.1
                  rw [e0] at hat
                  have htt : totalI (fs.take (k + 1)) = totalI (fs.take k) + (pn : Int) / 128 := by
                    rw [take_snocD fs k (ByteArray.empty, []) (by omega), totalI_append, ← HF.out]; simp [totalI, hpn]
                  have htb := totalI_bd (fs.take k)
                  have htb2 : totalI (fs.take k) ≤ 12 * 1048576 := by
                    have := totalI_small (fs := fs) (K := 1048576) (fun j hj => hall j (by omega))
                    have h3 := totalI_take_le fs k
                    have h12' : ((fs.length : Int)) ≤ 12 := by omega
                    omega
                  have HTT : Hid (totalI (fs.take (k + 1)) = totalI (fs.take k) + (pn : Int) / 128) := htt
                  have HR2 : Hid (Rep (D.put (keyL f.1) (.lit (.int .i64 ((f.2.length : Int) / 128)))) (fs.take (k + 1))) := hRep2
                  have HATT : Hid (D.atKey (keyL f.1) (.lit (.int .i64 0)) = .lit (.int .i64 0)) := hat
                  have s2 : ((pn : Int) == 0) = false := by simp [t2]
                  have s3 : ((pn : Int) % 128 != 0) = false := by simp; omega
                  have s3t : ((pn : Int).tmod 128 != 0) = false := by rw [Int.tmod_eq_emod_of_nonneg (by omega)]; exact s3
                  clear hcb hcell hall p4 htt hRep2 hat e0 hRep
                  generalize totalI (fs.take k) = tk at *
                  go_wp2_with fail
                  go_quiet (fail)
                  go_wp2_with (first | (go_at_call 67; refine (isName_any _ _ p2).mono ?_; rintro e w1 ⟨rfl, rfl⟩) | fail)
                  have hX : Below wr.heap.size wr ((wr.alloc (.cells #[.string f.1, .slice pa pn pc] 71)).drewN nq) := below_dn (Below.refl _ _) (Nat.le_refl _)
                  refine (add_any f.1 ((pn : Int) / 128) 0 tk (w.heap.size + 1 + 1) (w.heap.size + 1) k D ((wr.alloc (.cells #[.string f.1, .slice pa pn pc] 71)).drewN nq) ((hX.block _ hCl).trans hCB.out) (hM.keep (hX.block _ (by omega))) (by omega) HATT.out p2 (by omega) (by omega) (by omega) (by omega) (by omega) (by omega)).mono ?_
                  rintro e w3 ⟨rfl, hc3, hm3, ht3⟩
                  have hR3 : Hid (w3.heap[w.heap.size]? = some (.cells #[.map none, .int .i64 0] 77)) := (ht3.block _ (Nat.lt_of_lt_of_le hRl hX.size) (by omega) (by omega)).trans ((hX.block _ hRl).trans hR.out)
                  have hC3 : Hid (w3.heap[w.heap.size + 1 + 1]? = some (.cells #[.map (some (w.heap.size + 1)), .int .i64 (totalI (fs.take (k + 1)))] 77)) := by show _ = _; rw [HTT.out]; exact hc3
                  have hRp3 : Rep (D.put (keyL f.1) (.lit (.int .i64 (0 + (pn : Int) / 128)))) (fs.take (k + 1)) := by rw [Int.zero_add]; have := HR2.out; rw [hpn] at this; exact this
                  have hb3 : Below w.heap.size w w3 := (hbel.trans (hX.mono (by omega))).trans (ht3.below (Nat.le_trans (by omega) hX.size) (by omega) (by omega))
                  clear hc3 ht3 hX hM hbel hCB hR m0 m1 fm0 fm1 r0 r1 fr0 fr1
                  go_wp2
                  go_roundw
                  case rel => exact ⟨k + 1, _, by omega, by go_num, HOK, hR3, hC3, hm3, hRp3, hb3⟩
                  case measure => simp [intOf]; omega
                · have HB : Hid (false = (decide (fs.length ≤ 12) && filesOk fs)) := fok_false (k := k) (by omega) (by rw [HFO.out]; simp [t3])
                  have s2 : ((pn : Int) == 0) = false := by simp [t2]
                  have s3 : ((pn : Int) % 128 != 0) = true := by simp; omega
                  have s3t : ((pn : Int).tmod 128 != 0) = true := by rw [Int.tmod_eq_emod_of_nonneg (by omega)]; exact s3
                  clear hcb hcell hall p4
                  go_wp2_with fail
                  go_quiet (fail)
                  go_wp2_with (go_at_call 67; refine (isName_any _ _ p2).mono ?_; rintro e w1 ⟨rfl, rfl⟩)
                  exact bodyPost_ret (v := .tuple #[.agg #[.map (some (w.heap.size + 1)), .int .i64 (totalI (fs.take k))], .bool false]) (by simp [results, Tryz.results49, go_sem, hRl, r0, r1]) rfl ⟨w.heap.size + 1, totalI (fs.take k), false, rfl, HB.out, by omega, (fun h => by cases h), ((below_dn hbel hbel.size).setCell (Nat.le_refl _) _).setCell (Nat.le_refl _) _⟩
            · have t1' : nameB f.1 = false := by simpa using t1
              have HB : Hid (false = (decide (fs.length ≤ 12) && filesOk fs)) := fok_false (k := k) (by omega) (by rw [HFO.out]; simp [t1'])
              clear hcb hcell hall p4
              go_wp2_with fail
              go_quiet (fail)
              go_wp2_with (go_at_call 67; refine (isName_any _ _ p2).mono ?_; rintro e w1 ⟨rfl, rfl⟩)
              exact bodyPost_ret (v := .tuple #[.agg #[.map (some (w.heap.size + 1)), .int .i64 (totalI (fs.take k))], .bool false]) (by simp [results, Tryz.results49, go_sem, hRl, r0, r1]) rfl ⟨w.heap.size + 1, totalI (fs.take k), false, rfl, HB.out, by omega, (fun h => by cases h), ((below_dn hbel hbel.size).setCell (Nat.le_refl _) _).setCell (Nat.le_refl _) _⟩
        · have s4 : decide ((0 : Int) < (k : Int)) = false := by simp; omega
          have G4 : Hid ((decide (0 < k) && geB (fs.getD (k - 1) (ByteArray.empty, [])).1 f.1) = false) := by show _ = _; simp [t4]
          by_cases t1 : nameB f.1 = true
          · by_cases t2 : pn = 0
            · have HB : Hid (false = (decide (fs.length ≤ 12) && filesOk fs)) := fok_false (k := k) (by omega) (by rw [HFO.out]; simp [t2])
              have s2 : ((pn : Int) == 0) = true := by simp [t2]
              clear hcb hcell hall p4
              go_wp2_with fail
              go_quiet (fail)
              go_wp2_with (go_at_call 67; refine (isName_any _ _ p2).mono ?_; rintro e w1 ⟨rfl, rfl⟩)
              exact bodyPost_ret (v := .tuple #[.agg #[.map (some (w.heap.size + 1)), .int .i64 (totalI (fs.take k))], .bool false]) (by simp [results, Tryz.results49, go_sem, hRl, r0, r1]) rfl ⟨w.heap.size + 1, totalI (fs.take k), false, rfl, HB.out, by omega, (fun h => by cases h), ((below_dn hbel hbel.size).setCell (Nat.le_refl _) _).setCell (Nat.le_refl _) _⟩
            · by_cases t3 : pn % 128 = 0
              · have HOK : Hid (∀ i, i < k + 1 → fileOk fs i = true) := by
                  intro j hj
                  by_cases hjk : j = k
                  · subst hjk; rw [HFO.out, G4.out]; simp [t1, t2, t3]
                  · exact hok.out j (by omega)
                obtain ⟨e0, hRep2⟩ := Rep.file hRep (by omega) HOK.out HF.out
                have hat := hRep.at_ f.1
                rw [e0] at hat
                have htt : totalI (fs.take (k + 1)) = totalI (fs.take k) + (pn : Int) / 128 := by
                  rw [take_snocD fs k (ByteArray.empty, []) (by omega), totalI_append, ← HF.out]; simp [totalI, hpn]
                have htb := totalI_bd (fs.take k)
                have htb2 : totalI (fs.take k) ≤ 12 * 1048576 := by
                  have := totalI_small (fs := fs) (K := 1048576) (fun j hj => hall j (by omega))
                  have h3 := totalI_take_le fs k
                  have h12' : ((fs.length : Int)) ≤ 12 := by omega
                  omega
                have HTT : Hid (totalI (fs.take (k + 1)) = totalI (fs.take k) + (pn : Int) / 128) := htt
                have HR2 : Hid (Rep (D.put (keyL f.1) (.lit (.int .i64 ((f.2.length : Int) / 128)))) (fs.take (k + 1))) := hRep2
                have HATT : Hid (D.atKey (keyL f.1) (.lit (.int .i64 0)) = .lit (.int .i64 0)) := hat
                have s2 : ((pn : Int) == 0) = false := by simp [t2]
                have s3 : ((pn : Int) % 128 != 0) = false := by simp; omega
                have s3t : ((pn : Int).tmod 128 != 0) = false := by rw [Int.tmod_eq_emod_of_nonneg (by omega)]; exact s3
                clear hcb hcell hall p4 htt hRep2 hat e0 hRep
                generalize totalI (fs.take k) = tk at *
                go_wp2_with fail
                go_quiet (fail)
                go_wp2_with (first | (go_at_call 67; refine (isName_any _ _ p2).mono ?_; rintro e w1 ⟨rfl, rfl⟩) | fail)
                have hX : Below wr.heap.size wr ((wr.alloc (.cells #[.string f.1, .slice pa pn pc] 71)).drewN nq) := below_dn (Below.refl _ _) (Nat.le_refl _)
                refine (add_any f.1 ((pn : Int) / 128) 0 tk (w.heap.size + 1 + 1) (w.heap.size + 1) k D ((wr.alloc (.cells #[.string f.1, .slice pa pn pc] 71)).drewN nq) ((hX.block _ hCl).trans hCB.out) (hM.keep (hX.block _ (by omega))) (by omega) HATT.out p2 (by omega) (by omega) (by omega) (by omega) (by omega) (by omega)).mono ?_
                rintro e w3 ⟨rfl, hc3, hm3, ht3⟩
                have hR3 : Hid (w3.heap[w.heap.size]? = some (.cells #[.map none, .int .i64 0] 77)) := (ht3.block _ (Nat.lt_of_lt_of_le hRl hX.size) (by omega) (by omega)).trans ((hX.block _ hRl).trans hR.out)
                have hC3 : Hid (w3.heap[w.heap.size + 1 + 1]? = some (.cells #[.map (some (w.heap.size + 1)), .int .i64 (totalI (fs.take (k + 1)))] 77)) := by show _ = _; rw [HTT.out]; exact hc3
                have hRp3 : Rep (D.put (keyL f.1) (.lit (.int .i64 (0 + (pn : Int) / 128)))) (fs.take (k + 1)) := by rw [Int.zero_add]; have := HR2.out; rw [hpn] at this; exact this
                have hb3 : Below w.heap.size w w3 := (hbel.trans (hX.mono (by omega))).trans (ht3.below (Nat.le_trans (by omega) hX.size) (by omega) (by omega))
                clear hc3 ht3 hX hM hbel hCB hR m0 m1 fm0 fm1 r0 r1 fr0 fr1
                go_wp2
                go_roundw
                case rel => exact ⟨k + 1, _, by omega, by go_num, HOK, hR3, hC3, hm3, hRp3, hb3⟩
                case measure => simp [intOf]; omega
              · have HB : Hid (false = (decide (fs.length ≤ 12) && filesOk fs)) := fok_false (k := k) (by omega) (by rw [HFO.out]; simp [t3])
                have s2 : ((pn : Int) == 0) = false := by simp [t2]
                have s3 : ((pn : Int) % 128 != 0) = true := by simp; omega
                have s3t : ((pn : Int).tmod 128 != 0) = true := by rw [Int.tmod_eq_emod_of_nonneg (by omega)]; exact s3
                clear hcb hcell hall p4
                go_wp2_with fail
                go_quiet (fail)
                go_wp2_with (go_at_call 67; refine (isName_any _ _ p2).mono ?_; rintro e w1 ⟨rfl, rfl⟩)
                exact bodyPost_ret (v := .tuple #[.agg #[.map (some (w.heap.size + 1)), .int .i64 (totalI (fs.take k))], .bool false]) (by simp [results, Tryz.results49, go_sem, hRl, r0, r1]) rfl ⟨w.heap.size + 1, totalI (fs.take k), false, rfl, HB.out, by omega, (fun h => by cases h), ((below_dn hbel hbel.size).setCell (Nat.le_refl _) _).setCell (Nat.le_refl _) _⟩
          · have t1' : nameB f.1 = false := by simpa using t1
            have HB : Hid (false = (decide (fs.length ≤ 12) && filesOk fs)) := fok_false (k := k) (by omega) (by rw [HFO.out]; simp [t1'])
            clear hcb hcell hall p4
            go_wp2_with fail
            go_quiet (fail)
            go_wp2_with (go_at_call 67; refine (isName_any _ _ p2).mono ?_; rintro e w1 ⟨rfl, rfl⟩)
            exact bodyPost_ret (v := .tuple #[.agg #[.map (some (w.heap.size + 1)), .int .i64 (totalI (fs.take k))], .bool false]) (by simp [results, Tryz.results49, go_sem, hRl, r0, r1]) rfl ⟨w.heap.size + 1, totalI (fs.take k), false, rfl, HB.out, by omega, (fun h => by cases h), ((below_dn hbel hbel.size).setCell (Nat.le_refl _) _).setCell (Nat.le_refl _) _⟩
      · have HE : Hid (true = (decide (fs.length ≤ 12) && filesOk fs)) := by
          show _ = _
          rw [filesOk_yes (fun j hj => hok.out j (by omega)), show decide (fs.length ≤ 12) = true by simp; omega]; rfl
        have hk' : fs.take k = fs := List.take_of_length_le (by omega)
        rw [hk'] at hRep
        have HT : Hid (totalI (fs.take k) = totalI fs) := by show _ = _; rw [hk']
        have hkn : k = fs.length := by omega
        generalize totalI (fs.take k) = tk at *
        clear hk'
        go_wp2
        refine bodyPost_ret (v := .tuple #[.agg #[.map (some (w.heap.size + 1)), .int .i64 tk], .bool true]) (by simp [results, Tryz.results49, go_sem, r0, r1]) rfl ⟨w.heap.size + 1, tk, true, rfl, HE.out, by omega, fun _ => ⟨HT.out, D, ?_, hRep⟩, (hbel.setCell (Nat.le_refl _) _).setCell (Nat.le_refl _) _⟩
        rw [← hkn]
        refine hM.keep ?_
        rw [Below.heap_setCell _ _ _ _ (by show w.heap.size + 1 ≠ w.heap.size; omega), Below.heap_setCell _ _ _ _ (by show w.heap.size + 1 ≠ w.heap.size; omega)]
end Go.Proofs.YtnpndbicmamggaaGreat
