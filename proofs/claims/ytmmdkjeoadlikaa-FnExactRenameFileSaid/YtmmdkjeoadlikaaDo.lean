import Derived.Test.YtmmdkjeoadlikaaEdt
import Derived.WalkSpells
namespace Go.Proofs.Ytmmdkjeoadlikaa
open Go.RowKit
set_option linter.unusedVariables false
set_option maxRecDepth 100000

/-- Zeros up to a length. -/
def extZ (l : List Int) (z : Nat) : List Int := l ++ List.replicate z 0
theorem extZ_snoc (l : List Int) (z : Nat) : extZ l (z + 1) = extZ l z ++ [0] := by simp [extZ, List.replicate_succ']
theorem extZ_len (l : List Int) (z : Nat) : (extZ l z).length = l.length + z := by simp [extZ]
/-- The first k bytes of a write. -/
def overTo (l : List Int) (off : Nat) (bs : List Int) : Nat → List Int
  | 0 => l
  | k + 1 => (overTo l off bs k).set (off + k) (bs.getD k 0)
theorem overTo_len (l : List Int) (off : Nat) (bs : List Int) (k : Nat) : (overTo l off bs k).length = l.length := by
  induction k with
  | zero => rfl
  | succ k ih => simp [overTo, ih]
theorem overTo_byte (l : List Int) (off : Nat) (bs : List Int) (k : Nat) (hl : ∀ x ∈ l, 0 ≤ x ∧ x ≤ 255) (hb : ∀ x ∈ bs, 0 ≤ x ∧ x ≤ 255) : ∀ x ∈ overTo l off bs k, 0 ≤ x ∧ x ≤ 255 := by
  induction k with
  | zero => exact hl
  | succ k ih =>
    intro x hx
    rcases List.mem_or_eq_of_mem_set hx with h | h
    · exact ih x h
    · subst h
      by_cases hk : k < bs.length
      · refine hb _ ?_
        simp [List.getD, List.getElem?_eq_getElem hk]
      · simp [List.getD, List.getElem?_eq_none (Nat.le_of_not_lt hk)]
theorem extZ_byte (l : List Int) (z : Nat) (hl : ∀ x ∈ l, 0 ≤ x ∧ x ≤ 255) : ∀ x ∈ extZ l z, 0 ≤ x ∧ x ≤ 255 := by
  intro x hx
  simp [extZ] at hx
  rcases hx with h | ⟨_, h⟩
  · exact hl x h
  · subst h; simp
/-- A file's bytes behind a write of bs to page pg. -/
def doData (l : List Int) (pg : Nat) (bs : List Int) : List Int := overTo (extZ l ((pg + 1) * 128 - l.length)) (pg * 128) bs bs.length
def insN (fs : List PF) (nm : ByteArray) : Nat := fs.findIdx (fun f => gtB f.1 nm)
def withName (fs : List PF) (nm : ByteArray) : List PF := if findN fs nm < fs.length then fs else fs.take (insN fs nm) ++ (nm, []) :: fs.drop (insN fs nm)
def doP (fs : List PF) (nm : ByteArray) (pg : Nat) (bs : List Int) : List PF :=
  (withName fs nm).set (findN (withName fs nm) nm) (nm, doData ((withName fs nm).getD (findN (withName fs nm) nm) (ByteArray.empty, [])).2 pg bs)
theorem insPos_eq {fs : List PF} {nm : ByteArray} {p : Nat} (h : insPos fs.length (fun i => (fs.getD i (ByteArray.empty, [])).1) nm p) : p = insN fs nm := by
  obtain ⟨h1, h2, h3⟩ := h
  unfold insN
  by_cases hp : p < fs.length
  · symm
    rw [List.findIdx_eq hp]
    refine ⟨by simpa [List.getD, List.getElem?_eq_getElem hp] using h3 hp, fun j hj => ?_⟩
    simpa [List.getD, List.getElem?_eq_getElem (show j < fs.length by omega)] using h2 j hj
  · obtain rfl : p = fs.length := by omega
    symm
    rw [List.findIdx_eq_length]
    intro x hx
    obtain ⟨j, hj, rfl⟩ := List.getElem_of_mem hx
    simpa [List.getD, List.getElem?_eq_getElem hj] using h2 j hj
theorem findN_name {fs : List PF} {nm : ByteArray} (h : findN fs nm < fs.length) : (fs.getD (findN fs nm) (ByteArray.empty, [])).1 = nm := by
  unfold findN at h ⊢
  have h2 := List.findIdx_getElem (w := h)
  simpa [List.getD, List.getElem?_eq_getElem h] using h2
theorem findN_with (fs : List PF) (nm : ByteArray) : findN (withName fs nm) nm < (withName fs nm).length := by
  unfold withName
  split
  · assumption
  · unfold findN
    rw [List.findIdx_lt_length]
    exact ⟨(nm, []), by simp, by simp⟩
theorem OwnF.rowF {w : World} {base : Nat} {a : Option Addr} {n c : Nat} {fs : List PF} {xs vs : List Value} (h : OwnF w base (.slice a n c) fs xs vs) : n = fs.length ∧ RowF w w.heap.size a n c xs (fun i => (fs.getD i (ByteArray.empty, [])).1) ∧ FilesAt w base w.heap.size a n c fs := by
  obtain ⟨a', n', c', e, hn, hF⟩ := h.files
  injection e with e1 e2 e3
  subst e1 e2 e3 hn
  refine ⟨rfl, ⟨h.row.1, hF.2.1, hF.2.2.1, fun i hi => ?_, fun h0 => ?_⟩, hF⟩
  · obtain ⟨b', n', c', e, _⟩ := bytesAt_of_own (h.data i hi) (h.byte i hi)
    exact ⟨(h.name i hi).1, b', n', c', by rw [h.val i hi, e]⟩
  · rcases h.row.2 with ⟨e, hn⟩ | ⟨g, cap, cur, e, _⟩
    · omega
    · injection e with e1 e2 e3
      subst e1 e3
      exact ⟨g, 0, rfl, (h.row.lt g rfl).2, fun j hj => by rw [Nat.zero_add, h.row.cellAt j hj]⟩
def lenV : Value → Nat | .slice _ n _ => n | _ => 0
theorem own_shape2 {w : World} {base e size : Nat} {v : Value} {n : Nat} {xs : List Value} (h : w.ownsRow base e size v n xs) : ∃ a n' c, v = .slice a n' c ∧ n' = n := by
  obtain ⟨a, c, e⟩ := own_shape h
  exact ⟨a, n, c, e, rfl⟩
def DoRes (w w' : World) (base : Nat) (v' : Value) (fs : List PF) : Prop := ∃ xs vs, OwnF w' base v' fs xs vs ∧ Below base w w'

set_option maxHeartbeats 1000000 in
theorem l1Do_any (a : Option Addr) (n c : Nat) (fs : List PF) (xs vs : List Value) (nm : ByteArray) (pg : Nat) (da : Option Addr) (dn dc : Nat) (bs : List Int) (w : World) (base A B : Nat) (hbase : base ≤ w.heap.size) (hO : OwnF w base (.slice a n c) fs xs vs)
    (hB : B ≤ base) (hD : BytesAt w A B da dn dc bs) (hdn : dn ≤ 128) (hs : nm.size ≤ maxLen) (hn : fs.length ≤ 1048576) (hpg : pg ≤ 1048576) (hall : ∀ j, j < fs.length → (fs.getD j (ByteArray.empty, [])).2.length ≤ 1073741824) :
    Calls Try.prog 66 #[.slice a n c, .string nm, .int .i64 pg, .slice da dn dc] w fun e w' => ∃ v', e = .returned v' ∧ DoRes w w' base v' (doP fs nm pg bs) := by
  obtain ⟨hnf, hR, hF⟩ := hO.rowF
  subst hnf
  obtain ⟨i0, hi, hz0, hz1, hz2⟩ := info_parts info_u8
  go_enter Try.func66, Try.ntmps66
  go_wp2_with fail
  refine (l1Find_any _ _ _ fs nm _ base _ hF).mono ?_
  rintro e w1 ⟨rfl, rfl⟩
  rcases findI_cases fs nm with ⟨e1, e2⟩ | ⟨e1, e2⟩
  · rw [e1]
    go_wp2_with fail
    refine (l1Insert_any _ _ _ xs _ nm none 0 0 _ _ (Nat.le_refl _) hR hn).mono ?_
    rintro e w2 ⟨v', rfl, p, hpos, hrow, hb⟩
    obtain ⟨a1, n1, c1, rfl, hn1⟩ := own_shape2 hrow
    have hp := insPos_eq hpos
    have O1 := hO.insert hb hpos.1 hbase hs hrow
    have hW : withName fs nm = fs.take p ++ (nm, []) :: fs.drop p := by unfold withName; rw [if_neg (by omega), hp]
    have hfind := findN_with fs nm
    have hall1 : ∀ j, j < (withName fs nm).length → ((withName fs nm).getD j (ByteArray.empty, [])).2.length ≤ 1073741824 := by
      intro j hj
      rw [hW] at hj ⊢
      rw [getD_ins _ _ _ _ _ hpos.1]
      simp at hj
      have := hpos.1
      split
      · exact hall j (by omega)
      · split
        · simp
        · exact hall (j - 1) (by omega)
    have hlen1 : (withName fs nm).length ≤ 1048577 := by rw [hW]; simp; omega
    rw [← hW] at O1
    obtain ⟨fs1, hfs1⟩ : ∃ fs1, fs1 = withName fs nm := ⟨_, rfl⟩
    rw [← hfs1] at O1 hfind hall1 hlen1
    have HW : Hid (fs1 = withName fs nm) := hfs1
    generalize fs.take p ++ (nm, []) :: fs.drop p = dummy at hW
    generalize xs.take (p * 2) ++ [.string nm, .slice none 0 0] ++ xs.drop (p * 2) = xs1 at O1
    generalize vs.take p ++ .slice none 0 0 :: vs.drop p = vs1 at O1
    have hbel1 := hb.mono hbase
    have hD1 := hD.below (hbel1.mono hB)
    clear hW hfs1 hrow hpos hp hR hF hO hall e1 e2 hb hD hn1
    obtain ⟨hn1, _, hF1⟩ := O1.rowF
    have HN1 : Hid (n1 = fs1.length) := hn1
    clear hn1
    go_wp2_with fail
    refine (l1Find_any _ _ _ fs1 nm _ base _ hF1).mono ?_
    rintro e w3 ⟨rfl, rfl⟩
    have hfi : findI fs1 nm = (findN fs1 nm : Int) := by unfold findI; rw [if_pos hfind]
    rw [hfi]
    have HNM : Hid ((fs1.getD (findN fs1 nm) (ByteArray.empty, [])).1 = nm) := findN_name hfind
    clear hfi hF1
    obtain ⟨i, hi'⟩ : ∃ i, i = findN fs1 nm := ⟨_, rfl⟩
    rw [← hi'] at hfind HNM ⊢
    have HI : Hid (i = findN fs1 nm) := hi'
    clear hi'
    have hin : i < n1 := by rw [HN1.out]; exact hfind
    obtain ⟨g, rfl⟩ : ∃ g, a1 = some ⟨g, 0, none⟩ := by
      rcases O1.row.2 with ⟨_, h0⟩ | ⟨g, cap, cur, h0, _⟩
      · omega
      · injection h0 with h1; exact ⟨g, h1⟩
    obtain ⟨l, hl⟩ : ∃ l, l = (fs1.getD i (ByteArray.empty, [])).2 := ⟨_, rfl⟩
    have hlb := O1.byte i hfind
    have hld := O1.data i hfind
    have hll := hall1 i hfind
    rw [← hl] at hlb hld hll
    obtain ⟨ba, bn, bc, hbv, hbl, _⟩ := bytesAt_of_own hld hlb
    have hv1 := O1.val i hfind
    have hrow1 : w3.ownsRow base 83 2 (.slice (some ⟨g, 0, none⟩) n1 c1) n1 xs1 := by have := O1.row; rw [← HN1.out] at this; exact this
    have cv : w3.cell? ⟨g, i * 2 + 1, none⟩ = some (.slice ba bn bc) := by rw [hrow1.cellAt (i * 2 + 1) (by omega), hv1, hbv]
    have E0 := Edit.start hld
    obtain ⟨v0, hv0⟩ : ∃ v0, v0 = vs1.getD i (.slice none 0 0) := ⟨_, rfl⟩
    rw [← hv0] at E0
    have E1 : Edit w3 w3 base v0 (.slice ba bn bc) l := by rw [← hbv, ← hv0]; exact E0
    have HV0 : Hid (v0 = vs1.getD i (.slice none 0 0)) := hv0
    have HL : Hid (l = (fs1.getD i (ByteArray.empty, [])).2) := hl
    subst hbl
    clear hv0 hl hbv hv1 hld E0
    have hv0b : ∀ q, v0.ownBlock = some q → base ≤ q := by
      intro q hq; rw [HV0.out] at hq; exact ((O1.data i hfind).lt q hq).1
    have hb3 := hbel1.size
    have hbase3 : base ≤ w3.heap.size := by omega
    have hgl := (hrow1.lt g rfl).2
    have hgne : some g ≠ v0.ownBlock := by
      have h1 := own_ne O1.row (O1.data i hfind)
      rw [← HV0.out] at h1
      rcases h1 with h1 | h1
      · rw [h1]; simp
      · exact fun e => h1 e.symm
    go_wp2
    go_loopw [10] (fun v wr => ∃ (z : Nat) (a' : Option Addr) (c' : Nat), v = .slice a' (l.length + z) c' ∧ (z = 0 ∨ l.length + z ≤ (pg + 1) * 128) ∧ Edit w3 wr base v0 (.slice a' (l.length + z) c') (extZ l z)) (fun v _ => (pg + 1) * 128 - lenV v)
    case atStart => exact ⟨0, _, _, rfl, .inl rfl, by simpa [extZ] using E1⟩
    case round =>
      obtain ⟨z, a', c', rfl, hz, hE⟩ := hrel
      have hrow := hE.row
      rw [extZ_len] at hrow
      have hsz := hE.grown.size
      by_cases hlt : l.length + z < (pg + 1) * 128
      · have ht : ((l.length + z : Nat) : Int) < ((pg : Int) + 1) * 128 := by omega
        go_wp2_with (at_builtin; refine wpList_append_own2 _ rfl _ _ 27 rfl base 5 i0 (.int .u8 0) 1 1 Try.underlying27 hi hz0 hz1 hz2 rfl (by decide) _ _ _ rfl (hrow.alloc _) ⟨wr.heap.size, 0, none⟩ 1 1 [.int .u8 0] rfl rfl (cell_one_new _ _ _) (by simp [Value.oneCell']) (by unfold maxLen; omega) (by omega) (by simp; omega) ?_; intro v' w4 hown' hgr hat)
        obtain ⟨a2, n2, c2, rfl, hn2⟩ := own_shape2 hown'
        have hE2 : Edit w3 w4 base v0 (.slice a2 (l.length + (z + 1)) c2) (extZ l (z + 1)) := by
          subst hn2
          refine hE.app (wr := wr) (o := .cells #[.int .u8 0] 5) hgr rfl rfl rfl rfl ?_ hat
          rw [extZ_snoc]
          simpa [u8s, extZ_len, Nat.add_assoc] using hown'
        have hn3 : n2 = l.length + (z + 1) := by omega
        subst hn3
        clear hown' hgr hat hE hrow
        go_wp2
        go_roundw
        case rel => exact ⟨z + 1, a2, c2, rfl, .inr (by omega), hE2⟩
        case measure => simp [lenV]; omega
      · have ht : ¬ ((l.length + z : Nat) : Int) < ((pg : Int) + 1) * 128 := by omega
        have HZ : Hid (z = (pg + 1) * 128 - l.length) := by show _ = _; omega
        obtain ⟨g2, rfl⟩ : ∃ g2, a' = some ⟨g2, 0, none⟩ := by
          rcases hrow.2 with ⟨_, h0⟩ | ⟨g2, cap, cur, h0, _⟩
          · omega
          · injection h0 with h1; exact ⟨g2, h1⟩
        obtain ⟨m, hm⟩ : ∃ m, m = l.length + z := ⟨_, rfl⟩
        rw [← hm] at hE hrow ht hlt ⊢
        have hmb : m ≤ 1073741824 + 134217856 := by omega
        have hLn := extZ_len l z
        rw [← hm] at hLn
        clear hm hz
        go_wp2
        go_loopw [11] (fun kv wr => ∃ k : Nat, k ≤ dn ∧ kv = .int .i64 k ∧ Edit w3 wr base v0 (.slice (some ⟨g2, 0, none⟩) m c') (overTo (extZ l z) (pg * 128) bs k)) (fun kv _ => dn - (intOf kv).toNat)
        case atStart => exact ⟨0, Nat.zero_le _, rfl, hE⟩
        case round =>
          clear hE hrow
          obtain ⟨k, hk, rfl, hE⟩ := hrel
          have hol := overTo_len (extZ l z) (pg * 128) bs k
          rw [hLn] at hol
          have hrow := hE.row
          rw [hol] at hrow
          have hbw : Below base w3 wr := hE.below hbase3 hv0b
          by_cases hkn : k < dn
          · obtain ⟨db, doff, rfl, hdb, hdc⟩ := (hD1.below (hbw.mono hB)).2.2.2.2.1 (by omega)
            have d1 := hdc k hkn
            have hf := hrow.frozenAt (pg * 128 + k)
            obtain ⟨u, hu⟩ : ∃ u, wr.cell? ⟨g2, pg * 128 + k, none⟩ = some u := ⟨_, by rw [hrow.cellAt (pg * 128 + k) (by omega)]; exact List.getElem?_eq_getElem (by have := hrow.1; omega)⟩
            have R := hE.put hol (pg * 128 + k) (bs.getD k 0)
            have HR : Hid (Edit w3 (wr.setCell ⟨g2, pg * 128 + k, none⟩ (.int .u8 (bs.getD k 0))) base v0 (.slice (some ⟨g2, 0, none⟩) m c') (overTo (extZ l z) (pg * 128) bs (k + 1))) := R
            generalize bs.getD k 0 = x at d1 HR
            clear R hE hrow hdc
            go_wp2
            go_roundw
            case rel => exact ⟨k + 1, by omega, by go_num, HR.out⟩
            case measure => simp [intOf]; omega
          · have hgg : wr.heap[g]? = w3.heap[g]? := hE.grown.block g hgl hgne
            have kc1 : wr.cell? ⟨g, i * 2 + 1, none⟩ = some (.slice ba l.length bc) := (World.cell?_of_block (w := w3) (a := ⟨g, i * 2 + 1, none⟩) hgg).trans cv
            have f1' : wr.frozen? ⟨g, i * 2 + 1, none⟩ = false := (World.frozen?_of_block (w := w3) (a := ⟨g, i * 2 + 1, none⟩) hgg).trans (hrow1.frozenAt _)
            have R := OwnF.edit O1 hfind (by rw [← HV0.out]; exact hE) (overTo_byte _ _ _ _ (extZ_byte _ _ hlb) hD1.2.2.2.1)
            have HR : Hid (DoRes w1 (wr.setCell ⟨g, i * 2 + 1, none⟩ (.slice (some ⟨g2, 0, none⟩) m c')) base (.slice (some ⟨g, 0, none⟩) n1 c1) (doP fs nm pg bs)) := by
              refine ⟨xs1.set (i * 2 + 1) (.slice (some ⟨g2, 0, none⟩) m c'), vs1.set i (.slice (some ⟨g2, 0, none⟩) m c'), ?_, (hbel1.trans hbw).setCell (hrow1.lt g rfl).1 _⟩
              have e1 : doP fs nm pg bs = fs1.set i ((fs1.getD i (ByteArray.empty, [])).1, overTo (extZ l z) (pg * 128) bs k) := by
                unfold doP doData
                rw [← HW.out, ← HI.out, ← HL.out, HNM.out, ← HZ.out, hD1.1, show k = dn by omega]
              rw [e1]
              exact R
            clear R hE hrow hgg
            go_wp2
            go_ret
            exact ⟨_, rfl, HR.out⟩
  · rw [e1]
    have hW : withName fs nm = fs := by unfold withName; rw [if_pos e2]
    have hfind := e2
    obtain ⟨n1, hn1⟩ : ∃ n1, n1 = fs.length := ⟨_, rfl⟩
    obtain ⟨fs1, hfs1⟩ : ∃ fs1, fs1 = fs := ⟨_, rfl⟩
    have O1 := hO
    have hall1 := hall
    rw [← hn1] at O1 ⊢
    rw [← hfs1] at O1 hfind hall1
    have HW : Hid (fs1 = withName fs nm) := by show _ = _; rw [hW]; exact hfs1
    have hlen1 : fs1.length ≤ 1048577 := by rw [hfs1]; omega
    have hbel1 : Below base w1 w1 := Below.refl _ _
    have hD1 := hD
    clear hW hfs1 hR hF hO hall e1 e2 hD hn1
    obtain ⟨hn1, _, hF1⟩ := O1.rowF
    have HN1 : Hid (n1 = fs1.length) := hn1
    clear hn1
    go_wp2_with fail
    refine (l1Find_any _ _ _ fs1 nm _ base _ hF1).mono ?_
    rintro e w3 ⟨rfl, rfl⟩
    have hfi : findI fs1 nm = (findN fs1 nm : Int) := by unfold findI; rw [if_pos hfind]
    rw [hfi]
    have HNM : Hid ((fs1.getD (findN fs1 nm) (ByteArray.empty, [])).1 = nm) := findN_name hfind
    clear hfi hF1
    obtain ⟨i, hi'⟩ : ∃ i, i = findN fs1 nm := ⟨_, rfl⟩
    rw [← hi'] at hfind HNM ⊢
    have HI : Hid (i = findN fs1 nm) := hi'
    clear hi'
    have hin : i < n1 := by rw [HN1.out]; exact hfind
    obtain ⟨g, rfl⟩ : ∃ g, a = some ⟨g, 0, none⟩ := by
      rcases O1.row.2 with ⟨_, h0⟩ | ⟨g, cap, cur, h0, _⟩
      · omega
      · injection h0 with h1; exact ⟨g, h1⟩
    obtain ⟨l, hl⟩ : ∃ l, l = (fs1.getD i (ByteArray.empty, [])).2 := ⟨_, rfl⟩
    have hlb := O1.byte i hfind
    have hld := O1.data i hfind
    have hll := hall1 i hfind
    rw [← hl] at hlb hld hll
    obtain ⟨ba, bn, bc, hbv, hbl, _⟩ := bytesAt_of_own hld hlb
    have hv1 := O1.val i hfind
    have hrow1 : w3.ownsRow base 83 2 (.slice (some ⟨g, 0, none⟩) n1 c) n1 xs := by have := O1.row; rw [← HN1.out] at this; exact this
    have cv : w3.cell? ⟨g, i * 2 + 1, none⟩ = some (.slice ba bn bc) := by rw [hrow1.cellAt (i * 2 + 1) (by omega), hv1, hbv]
    have E0 := Edit.start hld
    obtain ⟨v0, hv0⟩ : ∃ v0, v0 = vs.getD i (.slice none 0 0) := ⟨_, rfl⟩
    rw [← hv0] at E0
    have E1 : Edit w3 w3 base v0 (.slice ba bn bc) l := by rw [← hbv, ← hv0]; exact E0
    have HV0 : Hid (v0 = vs.getD i (.slice none 0 0)) := hv0
    have HL : Hid (l = (fs1.getD i (ByteArray.empty, [])).2) := hl
    subst hbl
    clear hv0 hl hbv hv1 hld E0
    have hv0b : ∀ q, v0.ownBlock = some q → base ≤ q := by
      intro q hq; rw [HV0.out] at hq; exact ((O1.data i hfind).lt q hq).1
    have hb3 := hbel1.size
    have hbase3 : base ≤ w3.heap.size := by omega
    have hgl := (hrow1.lt g rfl).2
    have hgne : some g ≠ v0.ownBlock := by
      have h1 := own_ne O1.row (O1.data i hfind)
      rw [← HV0.out] at h1
      rcases h1 with h1 | h1
      · rw [h1]; simp
      · exact fun e => h1 e.symm
    go_wp2
    go_loopw [10] (fun v wr => ∃ (z : Nat) (a' : Option Addr) (c' : Nat), v = .slice a' (l.length + z) c' ∧ (z = 0 ∨ l.length + z ≤ (pg + 1) * 128) ∧ Edit w3 wr base v0 (.slice a' (l.length + z) c') (extZ l z)) (fun v _ => (pg + 1) * 128 - lenV v)
    case atStart => exact ⟨0, _, _, rfl, .inl rfl, by simpa [extZ] using E1⟩
    case round =>
      obtain ⟨z, a', c', rfl, hz, hE⟩ := hrel
      have hrow := hE.row
      rw [extZ_len] at hrow
      have hsz := hE.grown.size
      by_cases hlt : l.length + z < (pg + 1) * 128
      · have ht : ((l.length + z : Nat) : Int) < ((pg : Int) + 1) * 128 := by omega
        go_wp2_with (at_builtin; refine wpList_append_own2 _ rfl _ _ 27 rfl base 5 i0 (.int .u8 0) 1 1 Try.underlying27 hi hz0 hz1 hz2 rfl (by decide) _ _ _ rfl (hrow.alloc _) ⟨wr.heap.size, 0, none⟩ 1 1 [.int .u8 0] rfl rfl (cell_one_new _ _ _) (by simp [Value.oneCell']) (by unfold maxLen; omega) (by omega) (by simp; omega) ?_; intro v' w4 hown' hgr hat)
        obtain ⟨a2, n2, c2, rfl, hn2⟩ := own_shape2 hown'
        have hE2 : Edit w3 w4 base v0 (.slice a2 (l.length + (z + 1)) c2) (extZ l (z + 1)) := by
          subst hn2
          refine hE.app (wr := wr) (o := .cells #[.int .u8 0] 5) hgr rfl rfl rfl rfl ?_ hat
          rw [extZ_snoc]
          simpa [u8s, extZ_len, Nat.add_assoc] using hown'
        have hn3 : n2 = l.length + (z + 1) := by omega
        subst hn3
        clear hown' hgr hat hE hrow
        go_wp2
        go_roundw
        case rel => exact ⟨z + 1, a2, c2, rfl, .inr (by omega), hE2⟩
        case measure => simp [lenV]; omega
      · have ht : ¬ ((l.length + z : Nat) : Int) < ((pg : Int) + 1) * 128 := by omega
        have HZ : Hid (z = (pg + 1) * 128 - l.length) := by show _ = _; omega
        obtain ⟨g2, rfl⟩ : ∃ g2, a' = some ⟨g2, 0, none⟩ := by
          rcases hrow.2 with ⟨_, h0⟩ | ⟨g2, cap, cur, h0, _⟩
          · omega
          · injection h0 with h1; exact ⟨g2, h1⟩
        obtain ⟨m, hm⟩ : ∃ m, m = l.length + z := ⟨_, rfl⟩
        rw [← hm] at hE hrow ht hlt ⊢
        have hmb : m ≤ 1073741824 + 134217856 := by omega
        have hLn := extZ_len l z
        rw [← hm] at hLn
        clear hm hz
        go_wp2
        go_loopw [11] (fun kv wr => ∃ k : Nat, k ≤ dn ∧ kv = .int .i64 k ∧ Edit w3 wr base v0 (.slice (some ⟨g2, 0, none⟩) m c') (overTo (extZ l z) (pg * 128) bs k)) (fun kv _ => dn - (intOf kv).toNat)
        case atStart => exact ⟨0, Nat.zero_le _, rfl, hE⟩
        case round =>
          clear hE hrow
          obtain ⟨k, hk, rfl, hE⟩ := hrel
          have hol := overTo_len (extZ l z) (pg * 128) bs k
          rw [hLn] at hol
          have hrow := hE.row
          rw [hol] at hrow
          have hbw : Below base w3 wr := hE.below hbase3 hv0b
          by_cases hkn : k < dn
          · obtain ⟨db, doff, rfl, hdb, hdc⟩ := (hD1.below (hbw.mono hB)).2.2.2.2.1 (by omega)
            have d1 := hdc k hkn
            have hf := hrow.frozenAt (pg * 128 + k)
            obtain ⟨u, hu⟩ : ∃ u, wr.cell? ⟨g2, pg * 128 + k, none⟩ = some u := ⟨_, by rw [hrow.cellAt (pg * 128 + k) (by omega)]; exact List.getElem?_eq_getElem (by have := hrow.1; omega)⟩
            have R := hE.put hol (pg * 128 + k) (bs.getD k 0)
            have HR : Hid (Edit w3 (wr.setCell ⟨g2, pg * 128 + k, none⟩ (.int .u8 (bs.getD k 0))) base v0 (.slice (some ⟨g2, 0, none⟩) m c') (overTo (extZ l z) (pg * 128) bs (k + 1))) := R
            generalize bs.getD k 0 = x at d1 HR
            clear R hE hrow hdc
            go_wp2
            go_roundw
            case rel => exact ⟨k + 1, by omega, by go_num, HR.out⟩
            case measure => simp [intOf]; omega
          · have hgg : wr.heap[g]? = w3.heap[g]? := hE.grown.block g hgl hgne
            have kc1 : wr.cell? ⟨g, i * 2 + 1, none⟩ = some (.slice ba l.length bc) := (World.cell?_of_block (w := w3) (a := ⟨g, i * 2 + 1, none⟩) hgg).trans cv
            have f1' : wr.frozen? ⟨g, i * 2 + 1, none⟩ = false := (World.frozen?_of_block (w := w3) (a := ⟨g, i * 2 + 1, none⟩) hgg).trans (hrow1.frozenAt _)
            have R := OwnF.edit O1 hfind (by rw [← HV0.out]; exact hE) (overTo_byte _ _ _ _ (extZ_byte _ _ hlb) hD1.2.2.2.1)
            have HR : Hid (DoRes w3 (wr.setCell ⟨g, i * 2 + 1, none⟩ (.slice (some ⟨g2, 0, none⟩) m c')) base (.slice (some ⟨g, 0, none⟩) n1 c) (doP fs nm pg bs)) := by
              refine ⟨xs.set (i * 2 + 1) (.slice (some ⟨g2, 0, none⟩) m c'), vs.set i (.slice (some ⟨g2, 0, none⟩) m c'), ?_, (hbel1.trans hbw).setCell (hrow1.lt g rfl).1 _⟩
              have e1 : doP fs nm pg bs = fs1.set i ((fs1.getD i (ByteArray.empty, [])).1, overTo (extZ l z) (pg * 128) bs k) := by
                unfold doP doData
                rw [← HW.out, ← HI.out, ← HL.out, HNM.out, ← HZ.out, hD1.1, show k = dn by omega]
              rw [e1]
              exact R
            clear R hE hrow hgg
            go_wp2
            go_ret
            exact ⟨_, rfl, HR.out⟩
end Go.Proofs.Ytmmdkjeoadlikaa
