import Derived.Test.YtnpndbicmamggaaGreatGAA
import Derived.Test.YtnpndbicmamggaaGreatGAB
import Derived.Test.YtnpndbicmamggaaGreatGBB
import Derived.Test.YtnpndbicmamggaaGreatChecked
import Derived.OwnWalk
import Derived.Deep.QuietTactic
import Derived.BigQuiet
import Derived.WalkLawsBesides
import Derived.Laws.AppendOwnNone
import Derived.Deep.RegionLaw
namespace Go.Proofs.YtnpndbicmamggaaGreat
namespace New
open Go.RowKit
set_option linter.unusedVariables false
set_option maxRecDepth 100000

theorem dec_spec (a : Option Addr) (n c : Nat) (bs : List Int) (w : World) (A B : Nat) (hB : B ≤ w.heap.size) (hb : BytesAt w A B a n c bs) :
    Calls Tryz.prog 24 #[.slice a n c] w fun e w' => ∃ ka kc ea ec, e = .returned (.agg #[.bool (decR bs).1, .int .i64 (decR bs).2.kind, .int .i64 (decR bs).2.tx, .int .i64 (decR bs).2.id, .int .i64 (decR bs).2.root, .int .i64 (decR bs).2.count, .slice ka (decR bs).2.ks.length kc, .slice ea (decR bs).2.es.length ec, .int .i64 (decR bs).2.next, .string (decR bs).2.data]) ∧ w'.ownsRow w.heap.size 119 2 (.slice ka (decR bs).2.ks.length kc) (decR bs).2.ks.length (rowsOf kidCells (decR bs).2.ks) ∧ w'.ownsRow w.heap.size 121 4 (.slice ea (decR bs).2.es.length ec) (decR bs).2.es.length (rowsOf entCells (decR bs).2.es) ∧ (∀ g, (Value.slice ka (decR bs).2.ks.length kc).ownBlock = some g → (Value.slice ea (decR bs).2.es.length ec).ownBlock = some g → False) ∧ Below w.heap.size w w' := by
  have hl := hb.1
  by_cases hn : n = 128
  · subst hn
    obtain ⟨g, o, rfl, _, _⟩ := hb.2.2.2.2.1 (by omega)
    have hne : bs ≠ [] := by intro h; rw [h] at hl; simp at hl
    refine (specDecode_any g o c bs w A B hB hb).mono ?_
    rintro e w' ⟨vk, ve, rfl, hO, hP, hor, hbel⟩
    have hs := dec_same hne
    by_cases hc : newCodeOf (decP bs) = bs
    · have h1 := hs.1 hc
      rw [h1] at hO hP
      have hd : decR bs = (true, decP bs) := if_pos ⟨hl, hc⟩
      rw [hd, h1]
      obtain ⟨ka, kc, rfl⟩ := own_shape hO
      obtain ⟨ea, ec, rfl⟩ := own_shape hP
      refine ⟨ka, kc, ea, ec, by rw [decide_eq_true hc]; rfl, hO, hP, ?_, hbel⟩
      intro g h1 h2
      rcases hor with e | e
      · rw [e] at h1; exact none_own _ _ _ h1
      · rw [e] at h2; exact none_own _ _ _ h2
    · have hd : decR bs = (false, zPg) := if_neg (fun h => hc h.2)
      have hf : ((sDec bs).2 && decide (newCodeOf (sDec bs).1 = bs)) = false := by
        cases h2 : (sDec bs).2 with
        | false => rfl
        | true =>
          by_cases h3 : newCodeOf (sDec bs).1 = bs
          · exact absurd (by rw [hs.2 h2 h3]; exact h3) hc
          · simp [h3]
      rw [hd, hf]
      exact ⟨none, 0, none, 0, rfl, World.ownsRow_nil _ _ _ _, World.ownsRow_nil _ _ _ _, fun g h1 _ => none_own _ _ _ h1, hbel⟩
  · refine (specDecode_short a n c hn w).mono ?_
    rintro e w' ⟨rfl, hbel⟩
    have hd : decR bs = (false, zPg) := if_neg (fun h => hn (hl.symm.trans h.1))
    rw [hd]
    exact ⟨none, 0, none, 0, rfl, World.ownsRow_nil _ _ _ _, World.ownsRow_nil _ _ _ _, fun g h1 _ => none_own _ _ _ h1, hbel⟩
/-- What is read back is a page, or the zero page: its lists fit. -/
theorem decR_fit (bs : List Int) (hb : AllB bs) : (∀ x ∈ (decR bs).2.ks, kidFit x) ∧ (∀ x ∈ (decR bs).2.es, entFit x) ∧ (decR bs).2.ks.length + (decR bs).2.es.length ≤ 255 := by
  unfold decR
  split
  · rename_i h
    have hne : bs ≠ [] := by intro e; rw [e] at h; simp at h
    have h1 := (dec_same hne).1 h.2
    have h2 : (sDec bs).1 = decP bs := by rw [h1]
    rw [show ((true, decP bs) : Bool × Pg).2 = (sDec bs).1 from h2.symm]
    refine ⟨(sDec_fit hb).2.1, (sDec_fit hb).2.2, ?_⟩
    rw [h2]
    exact code_count h.2 hne
  · exact ⟨(by intro x hx; cases hx), (by intro x hx; cases hx), Nat.zero_le _⟩
end New
end Go.Proofs.YtnpndbicmamggaaGreat
namespace Go.Proofs.YtnpndbicmamggaaGreat
open Go.RowKit
set_option linter.unusedVariables false
set_option maxRecDepth 100000

theorem info_File : (Tryz.prog.info? 71).map (fun i => (i.zero, i.size, i.bytes)) = some (some (.agg #[.string ByteArray.empty, .slice none 0 0]), 2, 40) := by kernel_rfl
theorem info_Pend : (Tryz.prog.info? 73).map (fun i => (i.zero, i.size, i.bytes)) = some (some (.agg #[.string ByteArray.empty, .int .i64 0, .slice none 0 0]), 3, 48) := by kernel_rfl

set_option maxHeartbeats 400000 in
theorem toFile_any (s : ByteArray) (a : Option Addr) (n c : Nat) (bs : List Int) (w : World) (A B : Nat) (hB : B ≤ w.heap.size) (h : BytesAt w A B a n c bs) (hn : n ≤ 1048576) :
    Calls Tryz.prog 29 #[.agg #[.string s, .slice a n c]] w fun e w' => ∃ g, w.heap.size ≤ g ∧ e = .returned (.agg #[.string s, .slice (some ⟨g, 0, none⟩) n n]) ∧ BytesAt w' w.heap.size w'.heap.size (some ⟨g, 0, none⟩) n n bs ∧ Below w.heap.size w w' := by
  go_enter Tryz.func29, Tryz.ntmps29
  go_wp2_with fail
  have hb0 : Below w.heap.size w (((w.alloc (.cells #[.string s, .slice a n c] 61)).alloc (.cells #[.string { data := #[] }, .slice none 0 0] 71)).alloc (.cells #[.string s, .slice none 0 0] 71)) := (((Below.refl _ _).alloc (Nat.le_refl _) _).alloc (by simp) _).alloc (by simp; omega) _
  refine (toByteS_any _ _ _ bs _ A B (by simp; omega) (h.below (hb0.mono hB)) hn).mono ?_
  rintro e w1 ⟨g, hg, rfl, hby, hb1⟩
  simp at hg
  have hz := hb1.size
  simp at hz
  have hz1 : w.heap.size < w1.heap.size := by omega
  have hz2 : w.heap.size + 1 < w1.heap.size := by omega
  have hz3 : w.heap.size + 1 + 1 < w1.heap.size := by omega
  obtain ⟨hc1, hf1⟩ := bcell hb1
  have hb2 := hb0.trans (hb1.mono (by simp; omega))
  clear hb1 hb0
  go_wp2
  exact bodyPost_ret (v := .agg #[.string s, .slice (some ⟨g, 0, none⟩) n n]) (by simp [results, Tryz.results29, go_sem, hc1]) rfl ⟨g, by omega, rfl, by
    simpa using (hby.keep ((((Keeps.refl _ _ _).set (p := ⟨w.heap.size + 1 + 1, 1, none⟩) (.inl (by simp)) _).set (p := ⟨w.heap.size + 1, 0, none⟩) (.inl (by simp <;> omega)) _).set (p := ⟨w.heap.size + 1, 1, none⟩) (.inl (by simp <;> omega)) _)).up (A' := w.heap.size) (B' := w1.heap.size) (by simp; omega) (Nat.le_refl _),
    ((hb2.setCell (by simp; omega) _).setCell (by simp) _).setCell (by simp) _⟩
set_option maxHeartbeats 400000 in
theorem toFileS_any (a : Option Addr) (n c : Nat) (fs : List PF) (w : World) (A B : Nat) (hB : B ≤ w.heap.size) (h : FilesAt w A B a n c fs) (hn : n ≤ 1048576) (hall : ∀ j, j < n → (fs.getD j (ByteArray.empty, [])).2.length ≤ 1048576) :
    Calls Tryz.prog 14 #[.slice a n c] w fun e w' => ∃ g, w.heap.size ≤ g ∧ e = .returned (.slice (some ⟨g, 0, none⟩) n n) ∧ FilesAt w' w.heap.size w'.heap.size (some ⟨g, 0, none⟩) n n fs ∧ Below w.heap.size w w' := by
  obtain ⟨hl, hnc, hc, hcell⟩ := h
  obtain ⟨i0, hi, hz0, hz1, hz2⟩ := info_parts info_File
  go_enter Tryz.func14, Tryz.ntmps14
  go_wp2_with (at_make; refine wpList_make_full _ rfl _ _ 32 rfl w.heap.size 71 i0 _ 2 Tryz.underlying32 hi hz0 hz1 .i64 .i64 n n n rfl rfl rfl rfl (by rw [hz2]; omega) (by unfold maxLen; omega) (Nat.le_refl _) ?_; intro w1 hown hgr)
  have hb1 : Below w.heap.size w w1 := (Below.refl _ _).grown hgr (Nat.le_refl _) (by simp)
  go_loopw [4] (fun i wr => ∃ k : Nat, k ≤ n ∧ i = .int .i64 k ∧ Below w.heap.size w wr ∧ ∃ xs, wr.ownsRow w.heap.size 71 2 (.slice (some ⟨w.heap.size, 0, none⟩) n n) n xs ∧ GotFiles wr w.heap.size xs fs k) (fun i _ => n - (intOf i).toNat)
  case atStart => exact ⟨0, Nat.zero_le _, rfl, hb1, _, hown, fun j hj => absurd hj (Nat.not_lt_zero _)⟩
  case round =>
    clear hown hgr hb1
    obtain ⟨k, hk, rfl, hbel, xs, hown, hgot⟩ := hrel
    by_cases hlt : k < n
    · obtain ⟨b, off, rfl, hb, hcb⟩ := hcell (by omega)
      have e1 := (hcb k hlt).below hb (hbel.mono hB)
      have e2 := hall k hlt
      clear hcell hcb hall
      obtain ⟨f, hf⟩ : ∃ f, f = fs.getD k (ByteArray.empty, []) := ⟨_, rfl⟩
      rw [← hf] at e1 e2
      have HF : Hid (f = fs.getD k (ByteArray.empty, [])) := hf
      clear hf
      obtain ⟨p1, p2, pa, pn, pc, p3, p4⟩ := e1
      have hs := hbel.size
      have hlt0 := (hown.lt w.heap.size rfl).2
      go_wp2_with fail
      refine (toFile_any _ _ _ _ f.2 _ A B (by omega) p4 (by rw [← p4.1]; exact e2)).mono ?_
      rintro e w2 ⟨g, hg, rfl, hby, hb2⟩
      have hown2 := owns_below hown hb2
      have hgot2 := hgot.below hb2
      have hbel2 := hbel.trans (hb2.mono hs)
      have hxl := hown2.1
      have hst := GotFiles.step hgot2 hlt hxl HF.out p2 (hby.up (by omega) (Nat.le_refl _))
      have R := (hown2.stored (k * 2) (.string f.1)).1.stored (k * 2 + 1) (.slice (some ⟨g, 0, none⟩) pn pn)
      have hbel3 := (hbel2.setCell (p := ⟨w.heap.size, k * 2, none⟩) (Nat.le_refl _) (.string f.1)).setCell (p := ⟨w.heap.size, k * 2 + 1, none⟩) (Nat.le_refl _) (.slice (some ⟨g, 0, none⟩) pn pn)
      have hf1 := hown2.frozenAt (k * 2)
      have hf2 := hown2.frozenAt (k * 2 + 1)
      obtain ⟨u, hu⟩ : ∃ u, w2.cell? ⟨w.heap.size, k * 2, none⟩ = some u := ⟨xs[k * 2]'(by omega), by rw [hown2.cellAt (k * 2) (by omega)]; exact List.getElem?_eq_getElem _⟩
      obtain ⟨u2, hu2⟩ : ∃ u, w2.cell? ⟨w.heap.size, k * 2 + 1, none⟩ = some u := ⟨xs[k * 2 + 1]'(by omega), by rw [hown2.cellAt (k * 2 + 1) (by omega)]; exact List.getElem?_eq_getElem _⟩
      clear hown hown2 hgot hgot2 hbel hbel2 hby hb2
      go_wp2
      go_roundw
      case rel => exact ⟨k + 1, by omega, by go_num, hbel3, _, R.1, hst⟩
      case measure => simp [intOf]; omega
    · go_wp2
      go_ret
      exact ⟨w.heap.size, Nat.le_refl _, rfl, files_of_got hown hl (by omega) (by rw [show n = k by omega]; exact hgot), hbel⟩
set_option maxHeartbeats 400000 in
theorem toPend_any (s : ByteArray) (pg : Int) (a : Option Addr) (n c : Nat) (bs : List Int) (w : World) (A B : Nat) (hB : B ≤ w.heap.size) (h : BytesAt w A B a n c bs) (hn : n ≤ 1048576) :
    Calls Tryz.prog 30 #[.agg #[.string s, .int .i64 pg, .slice a n c]] w fun e w' => ∃ g, w.heap.size ≤ g ∧ e = .returned (.agg #[.string s, .int .i64 pg, .slice (some ⟨g, 0, none⟩) n n]) ∧ BytesAt w' w.heap.size w'.heap.size (some ⟨g, 0, none⟩) n n bs ∧ Below w.heap.size w w' := by
  go_enter Tryz.func30, Tryz.ntmps30
  go_wp2_with fail
  have hb0 : Below w.heap.size w (((w.alloc (.cells #[.string s, .int .i64 pg, .slice a n c] 64)).alloc (.cells #[.string { data := #[] }, .int .i64 0, .slice none 0 0] 73)).alloc (.cells #[.string s, .int .i64 pg, .slice none 0 0] 73)) := (((Below.refl _ _).alloc (Nat.le_refl _) _).alloc (by simp) _).alloc (by simp; omega) _
  refine (toByteS_any _ _ _ bs _ A B (by simp; omega) (h.below (hb0.mono hB)) hn).mono ?_
  rintro e w1 ⟨g, hg, rfl, hby, hb1⟩
  simp at hg
  have hz := hb1.size
  simp at hz
  have hz1 : w.heap.size < w1.heap.size := by omega
  have hz2 : w.heap.size + 1 < w1.heap.size := by omega
  have hz3 : w.heap.size + 1 + 1 < w1.heap.size := by omega
  obtain ⟨hc1, hf1⟩ := bcell hb1
  have hb2 := hb0.trans (hb1.mono (by simp; omega))
  clear hb1 hb0
  go_wp2
  exact bodyPost_ret (v := .agg #[.string s, .int .i64 pg, .slice (some ⟨g, 0, none⟩) n n]) (by simp [results, Tryz.results30, go_sem, hc1]) rfl ⟨g, by omega, rfl, by
    simpa using (hby.keep (((((Keeps.refl _ _ _).set (p := ⟨w.heap.size + 1 + 1, 2, none⟩) (.inl (by simp)) _).set (p := ⟨w.heap.size + 1, 0, none⟩) (.inl (by simp <;> omega)) _).set (p := ⟨w.heap.size + 1, 1, none⟩) (.inl (by simp <;> omega)) _).set (p := ⟨w.heap.size + 1, 2, none⟩) (.inl (by simp <;> omega)) _)).up (A' := w.heap.size) (B' := w1.heap.size) (by simp; omega) (Nat.le_refl _),
    (((hb2.setCell (by simp; omega) _).setCell (by simp) _).setCell (by simp) _).setCell (by simp) _⟩
set_option maxHeartbeats 400000 in
theorem toPendS_any (a : Option Addr) (n c : Nat) (fs : List PP) (w : World) (A B : Nat) (hB : B ≤ w.heap.size) (h : PendsAt w A B a n c fs) (hn : n ≤ 1048576) (hall : ∀ j, j < n → (fs.getD j (ByteArray.empty, 0, [])).2.2.length ≤ 1048576) :
    Calls Tryz.prog 15 #[.slice a n c] w fun e w' => ∃ g, w.heap.size ≤ g ∧ e = .returned (.slice (some ⟨g, 0, none⟩) n n) ∧ PendsAt w' w.heap.size w'.heap.size (some ⟨g, 0, none⟩) n n fs ∧ Below w.heap.size w w' := by
  obtain ⟨hl, hnc, hc, hcell⟩ := h
  obtain ⟨i0, hi, hz0, hz1, hz2⟩ := info_parts info_Pend
  go_enter Tryz.func15, Tryz.ntmps15
  go_wp2_with (at_make; refine wpList_make_full _ rfl _ _ 33 rfl w.heap.size 73 i0 _ 3 Tryz.underlying33 hi hz0 hz1 .i64 .i64 n n n rfl rfl rfl rfl (by rw [hz2]; omega) (by unfold maxLen; omega) (Nat.le_refl _) ?_; intro w1 hown hgr)
  have hb1 : Below w.heap.size w w1 := (Below.refl _ _).grown hgr (Nat.le_refl _) (by simp)
  go_loopw [4] (fun i wr => ∃ k : Nat, k ≤ n ∧ i = .int .i64 k ∧ Below w.heap.size w wr ∧ ∃ xs, wr.ownsRow w.heap.size 73 3 (.slice (some ⟨w.heap.size, 0, none⟩) n n) n xs ∧ GotPends wr w.heap.size xs fs k) (fun i _ => n - (intOf i).toNat)
  case atStart => exact ⟨0, Nat.zero_le _, rfl, hb1, _, hown, fun j hj => absurd hj (Nat.not_lt_zero _)⟩
  case round =>
    clear hown hgr hb1
    obtain ⟨k, hk, rfl, hbel, xs, hown, hgot⟩ := hrel
    by_cases hlt : k < n
    · obtain ⟨b, off, rfl, hb, hcb⟩ := hcell (by omega)
      have e1 := (hcb k hlt).below hb (hbel.mono hB)
      have e2 := hall k hlt
      clear hcell hcb hall
      obtain ⟨f, hf⟩ : ∃ f, f = fs.getD k (ByteArray.empty, 0, []) := ⟨_, rfl⟩
      rw [← hf] at e1 e2
      have HF : Hid (f = fs.getD k (ByteArray.empty, 0, [])) := hf
      clear hf
      obtain ⟨p1, p2, p5, p6, pa, pn, pc, p3, p4⟩ := e1
      have hs := hbel.size
      have hlt0 := (hown.lt w.heap.size rfl).2
      go_wp2_with fail
      refine (toPend_any _ _ _ _ _ f.2.2 _ A B (by omega) p4 (by rw [← p4.1]; exact e2)).mono ?_
      rintro e w2 ⟨g, hg, rfl, hby, hb2⟩
      have hown2 := owns_below hown hb2
      have hgot2 := hgot.below hb2
      have hbel2 := hbel.trans (hb2.mono hs)
      have hxl := hown2.1
      have hst := GotPends.step hgot2 hlt hxl HF.out p2 p6 (hby.up (by omega) (Nat.le_refl _))
      have R := ((hown2.stored (k * 3) (.string f.1)).1.stored (k * 3 + 1) (.int .i64 f.2.1)).1.stored (k * 3 + 2) (.slice (some ⟨g, 0, none⟩) pn pn)
      have hbel3 := ((hbel2.setCell (p := ⟨w.heap.size, k * 3, none⟩) (Nat.le_refl _) (.string f.1)).setCell (p := ⟨w.heap.size, k * 3 + 1, none⟩) (Nat.le_refl _) (.int .i64 f.2.1)).setCell (p := ⟨w.heap.size, k * 3 + 2, none⟩) (Nat.le_refl _) (.slice (some ⟨g, 0, none⟩) pn pn)
      have hf1 := hown2.frozenAt (k * 3)
      have hf2 := hown2.frozenAt (k * 3 + 1)
      have hf3 := hown2.frozenAt (k * 3 + 2)
      obtain ⟨u, hu⟩ : ∃ u, w2.cell? ⟨w.heap.size, k * 3, none⟩ = some u := ⟨xs[k * 3]'(by omega), by rw [hown2.cellAt (k * 3) (by omega)]; exact List.getElem?_eq_getElem _⟩
      obtain ⟨u2, hu2⟩ : ∃ u, w2.cell? ⟨w.heap.size, k * 3 + 1, none⟩ = some u := ⟨xs[k * 3 + 1]'(by omega), by rw [hown2.cellAt (k * 3 + 1) (by omega)]; exact List.getElem?_eq_getElem _⟩
      obtain ⟨u3, hu3⟩ : ∃ u, w2.cell? ⟨w.heap.size, k * 3 + 2, none⟩ = some u := ⟨xs[k * 3 + 2]'(by omega), by rw [hown2.cellAt (k * 3 + 2) (by omega)]; exact List.getElem?_eq_getElem _⟩
      clear hown hown2 hgot hgot2 hbel hbel2 hby hb2
      go_wp2
      go_roundw
      case rel => exact ⟨k + 1, by omega, by go_num, hbel3, _, R.1, hst⟩
      case measure => simp [intOf]; omega
    · go_wp2
      go_ret
      exact ⟨w.heap.size, Nat.le_refl _, rfl, pends_of_got hown hl (by omega) (by rw [show n = k by omega]; exact hgot), hbel⟩
set_option maxHeartbeats 800000 in
theorem toDisk_any (a : Option Addr) (n c : Nat) (fs : List PF) (b : Option Addr) (m d : Nat) (ps : List PP) (cp fu : Int) (de : Bool) (w : World) (A B : Nat) (hB : B ≤ w.heap.size)
    (hF : FilesAt w A B a n c fs) (hP : PendsAt w A B b m d ps) (hn : n ≤ 1048576) (hm : m ≤ 1048576) (hall : ∀ j, j < n → (fs.getD j (ByteArray.empty, [])).2.length ≤ 1048576) (hall2 : ∀ j, j < m → (ps.getD j (ByteArray.empty, 0, [])).2.2.length ≤ 1048576) :
    Calls Tryz.prog 6 #[.agg #[.slice a n c, .slice b m d, .int .i64 cp, .int .i64 fu, .bool de]] w fun e w' => ∃ g h, e = .returned (.agg #[.slice (some ⟨g, 0, none⟩) n n, .slice (some ⟨h, 0, none⟩) m m, .int .i64 cp, .int .i64 fu, .bool de]) ∧ FilesAt w' w.heap.size w'.heap.size (some ⟨g, 0, none⟩) n n fs ∧ PendsAt w' w.heap.size w'.heap.size (some ⟨h, 0, none⟩) m m ps ∧ Below w.heap.size w w' := by
  go_enter Tryz.func6, Tryz.ntmps6
  go_wp2_with fail
  have hb0 : Below w.heap.size w (((w.alloc (.cells #[.slice a n c, .slice b m d, .int .i64 cp, .int .i64 fu, .bool de] 25)).alloc (.cells #[.slice none 0 0, .slice none 0 0, .int .i64 0, .int .i64 0, .bool false] 35)).alloc (.cells #[.slice none 0 0, .slice none 0 0, .int .i64 0, .int .i64 0, .bool false] 35)) := (((Below.refl _ _).alloc (Nat.le_refl _) _).alloc (by simp) _).alloc (by simp; omega) _
  refine (toFileS_any _ _ _ fs _ A B (by simp; omega) (hF.below (hb0.mono hB)) hn hall).mono ?_
  rintro e w1 ⟨g, hg, rfl, hFg, hb1⟩
  simp at hg
  have hz := hb1.size
  simp at hz
  have hz1 : w.heap.size < w1.heap.size := by omega
  have hz2 : w.heap.size + 1 < w1.heap.size := by omega
  have hz3 : w.heap.size + 1 + 1 < w1.heap.size := by omega
  obtain ⟨hc1, hf1⟩ := bcell hb1
  have hb2 := hb0.trans (hb1.mono (by simp; omega))
  clear hb0
  go_wp2_with fail
  have hb3 := hb2.setCell (p := ⟨w.heap.size + 1 + 1, 0, none⟩) (by simp; omega) (.slice (some ⟨g, 0, none⟩) n n)
  have hF2 : FilesAt (w1.setCell ⟨w.heap.size + 1 + 1, 0, none⟩ (.slice (some ⟨g, 0, none⟩) n n)) (w.heap.size + 3) w1.heap.size (some ⟨g, 0, none⟩) n n fs := (hFg.up (A' := w.heap.size + 3) (by simp) (Nat.le_refl _)).keep ((Keeps.refl _ _ _).set (.inl (by simp)) _)
  clear hFg
  refine (toPendS_any _ _ _ ps _ A B (by simp; omega) (hP.below (hb3.mono hB)) hm hall2).mono ?_
  rintro e w2 ⟨h, hh, rfl, hPh, hb4⟩
  simp at hh
  have hF3 := (hF2.below (w' := w2) (by simpa using hb4)).up (Nat.le_refl _) (by simpa using hb4.size)
  have hb5 := hb3.trans (hb4.mono (by simp; omega))
  have hy := hb4.size
  simp at hy
  have hy1 : w.heap.size < w2.heap.size := by omega
  have hy2 : w.heap.size + 1 < w2.heap.size := by omega
  have hy3 : w.heap.size + 1 + 1 < w2.heap.size := by omega
  obtain ⟨hc2, hf2⟩ := bcell hb4
  clear hb3 hb2 hF2 hb1
  go_wp2
  refine bodyPost_ret (v := .agg #[.slice (some ⟨g, 0, none⟩) n n, .slice (some ⟨h, 0, none⟩) m m, .int .i64 cp, .int .i64 fu, .bool de]) (by simp [results, Tryz.results6, go_sem, hc2, hc1, hz2]) rfl ⟨g, h, rfl, ?_, ?_, ?_⟩
  · refine FilesAt.up (hF3.keep ?_) (A' := w.heap.size) (by omega) (by simp)
    iterate 9 refine Keeps.set ?_ (.inl (by simp <;> omega)) _
    exact Keeps.refl _ _ _
  · refine PendsAt.up (A' := w.heap.size) (A := w1.heap.size) (B := w2.heap.size) ((hPh.up (by simp) (Nat.le_refl _)).keep ?_) (by omega) (by simp)
    iterate 9 refine Keeps.set ?_ (.inl (by simp <;> omega)) _
    exact Keeps.refl _ _ _
  · iterate 9 refine Below.setCell ?_ (by simp <;> omega) _
    exact hb5
end Go.Proofs.YtnpndbicmamggaaGreat
namespace Go.Proofs.YtnpndbicmamggaaGreat
open Go.RowKit
set_option linter.unusedVariables false
set_option maxRecDepth 100000

set_option maxHeartbeats 400000 in
theorem l1Name_any (s : ByteArray) (w : World) (hs : s.size ≤ maxLen) :
    Calls Tryz.prog 43 #[.string s] w fun e w' => e = .returned (.bool (nameB s)) ∧ w' = w := by
  unfold maxLen at hs
  by_cases h1 : s.size < 1
  · have H : Hid (nameB s = false) := name_long (.inl h1)
    have hd : decide ((s.size : Int) < 1) = true := by simp; omega
    go_enter Tryz.func43, Tryz.ntmps43
    go_wp2
    go_ret
    exact ⟨by rw [H.out]; rfl, rfl⟩
  by_cases h2 : 8 < s.size
  · have H : Hid (nameB s = false) := name_long (.inr h2)
    have hd : decide ((s.size : Int) < 1) = false := by simp; omega
    have hd2 : decide ((8 : Int) < (s.size : Int)) = true := by simp; omega
    go_enter Tryz.func43, Tryz.ntmps43
    go_wp2
    go_ret
    exact ⟨by rw [H.out]; rfl, rfl⟩
  have hd : decide ((s.size : Int) < 1) = false := by simp; omega
  have hd2 : decide ((8 : Int) < (s.size : Int)) = false := by simp; omega
  go_enter Tryz.func43, Tryz.ntmps43
  go_wp2
  go_loop [3] (fun i => ∃ k : Nat, k ≤ s.size ∧ i = .int .i64 k ∧ Hid (okBytes (s.data.toList.take k) = true)) (fun i => s.size - (intOf i).toNat)
  case atStart => exact ⟨0, Nat.zero_le _, rfl, rfl⟩
  case round =>
    obtain ⟨k, hk, rfl, hok⟩ := hrel
    by_cases hlt : k < s.size
    · by_cases h3 : (s[k].toNat : Int) < 97
      · have H : Hid (nameB s = false) := name_bad hlt (.inl h3)
        go_wp2
        go_ret
        exact ⟨by rw [H.out]; rfl, rfl⟩
      · by_cases h4 : (122 : Int) < (s[k].toNat : Int)
        · have H : Hid (nameB s = false) := name_bad hlt (.inr h4)
          go_wp2
          go_ret
          exact ⟨by rw [H.out]; rfl, rfl⟩
        · have H : Hid (okBytes (s.data.toList.take (k + 1)) = true) := name_step hlt hok.out (by omega) (by omega)
          go_wp2
          go_round
          case rel => exact ⟨k + 1, by omega, by go_num, H⟩
          case measure => simp [intOf]; omega
    · have H : Hid (nameB s = true) := name_good (by omega) (by omega) (by have := hok.out; rwa [show k = s.size by omega] at this)
      go_wp2
      go_ret
      exact ⟨by rw [H.out]; rfl, rfl⟩
set_option maxHeartbeats 400000 in
theorem l1Find_any (a : Option Addr) (n c : Nat) (fs : List PF) (nm : ByteArray) (w : World) (A B : Nat) (h : FilesAt w A B a n c fs) :
    Calls Tryz.prog 28 #[.slice a n c, .string nm] w fun e w' => e = .returned (.int .i64 (findI fs nm)) ∧ w' = w := by
  obtain ⟨hl, hnc, hc, hcell⟩ := h
  unfold maxLen at hc
  go_enter Tryz.func28, Tryz.ntmps28
  go_wp2
  go_loop [5] (fun i => ∃ k : Nat, k ≤ n ∧ i = .int .i64 k ∧ Hid (∀ j, j < k → (fs.getD j (ByteArray.empty, [])).1 ≠ nm)) (fun i => n - (intOf i).toNat)
  case atStart => exact ⟨0, Nat.zero_le _, rfl, fun j hj => absurd hj (Nat.not_lt_zero _)⟩
  case round =>
    obtain ⟨k, hk, rfl, hno⟩ := hrel
    by_cases hlt : k < n
    · obtain ⟨b, off, rfl, hb, hcb⟩ := hcell (by omega)
      have e1 := (hcb k hlt).1
      clear hcell hcb
      obtain ⟨f, hf⟩ : ∃ f, f = fs.getD k (ByteArray.empty, []) := ⟨_, rfl⟩
      rw [← hf] at e1
      have HF : Hid (f = fs.getD k (ByteArray.empty, [])) := hf
      clear hf
      by_cases hs : f.1 = nm
      · have hb2 := same_yes hs
        have H : Hid (findI fs nm = k) := findI_at (by omega) hno.out (by rw [← HF.out]; exact hs)
        clear hs
        go_wp2
        go_ret
        exact ⟨ret_int H.out.symm, rfl⟩
      · have hb2 := same_no hs
        have H : Hid (∀ j, j < k + 1 → (fs.getD j (ByteArray.empty, [])).1 ≠ nm) := by
          intro j hj
          by_cases hjk : j = k
          · subst hjk; rw [← HF.out]; exact hs
          · exact hno.out j (by omega)
        clear hs
        go_wp2
        go_round
        case rel => exact ⟨k + 1, by omega, by go_num, H⟩
        case measure => simp [intOf]; omega
    · have H : Hid (findI fs nm = -1) := findI_none (fun j hj => hno.out j (by omega))
      go_wp2
      go_ret
      exact ⟨ret_int H.out.symm, rfl⟩

set_option maxHeartbeats 400000 in
theorem l1Len_any (a : Option Addr) (n c : Nat) (fs : List PF) (nm : ByteArray) (w : World) (A B : Nat) (h : FilesAt w A B a n c fs) :
    Calls Tryz.prog 46 #[.slice a n c, .string nm] w fun e w' => e = .returned (.int .i64 (lenI fs nm)) ∧ w' = w := by
  go_enter Tryz.func46, Tryz.ntmps46
  go_wp2_with fail
  refine (l1Find_any _ _ _ fs nm _ A B h).mono ?_
  rintro e w1 ⟨rfl, rfl⟩
  obtain ⟨hl, hnc, hc, hcell⟩ := h
  unfold maxLen at hc
  rcases findI_cases fs nm with ⟨e1, e2⟩ | ⟨e1, e2⟩
  · rw [e1]
    have H : Hid (lenI fs nm = 0) := by show lenI fs nm = 0; unfold lenI; rw [if_neg (by omega)]
    clear e1 e2
    go_wp2_with fail
    go_ret
    exact ⟨ret_int H.out.symm, rfl⟩
  · rw [e1]
    obtain ⟨k, hk⟩ : ∃ k, k = findN fs nm := ⟨_, rfl⟩
    obtain ⟨b, off, rfl, hb, hcb⟩ := hcell (by omega)
    obtain ⟨p1, p2, pa, pn, pc, p3, p4⟩ := hcb k (by omega)
    have H : Hid (lenI fs nm = (pn : Int) / 128) := by show lenI fs nm = _; unfold lenI; rw [if_pos e2, ← hk, p4.1]
    have hpn := Nat.le_trans p4.2.1 p4.2.2.1
    unfold maxLen at hpn
    rw [← hk]
    have hkn : k < n := by omega
    clear hcb hcell p1 p2 p4 e1 e2 hk hl
    go_wp2_with fail
    go_ret
    exact ⟨ret_int H.out.symm, rfl⟩

set_option maxHeartbeats 400000 in
theorem l1Total_any (a : Option Addr) (n c : Nat) (fs : List PF) (w : World) (A B : Nat) (h : FilesAt w A B a n c fs) (hw : totalI fs ≤ 1073741824) :
    Calls Tryz.prog 44 #[.slice a n c] w fun e w' => e = .returned (.int .i64 (totalI fs)) ∧ w' = w := by
  obtain ⟨hl, hnc, hc, hcell⟩ := h
  unfold maxLen at hc
  go_enter Tryz.func44, Tryz.ntmps44
  go_wp2
  go_loop [3, 4] (fun t i => ∃ (k : Nat) (r : Int), k ≤ n ∧ i = .int .i64 k ∧ t = .int .i64 r ∧ Hid (r = totalI (fs.take k)) ∧ 0 ≤ r ∧ r ≤ 1073741824) (fun _ i => n - (intOf i).toNat)
  case atStart => exact ⟨0, 0, Nat.zero_le _, rfl, rfl, rfl, by omega, by omega⟩
  case round =>
    obtain ⟨k, r, hk, rfl, rfl, hr, hr0, hr1⟩ := hrel
    by_cases hlt : k < n
    · obtain ⟨b, off, rfl, hb, hcb⟩ := hcell (by omega)
      obtain ⟨p1, p2, pa, pn, pc, p3, p4⟩ := hcb k hlt
      have H : Hid (r + (pn : Int) / 128 = totalI (fs.take (k + 1))) := by
        show _ = _
        rw [take_snocD fs k (ByteArray.empty, []) (by omega), totalI_append, ← hr.out]
        rw [← p4.1]; simp [totalI]
      have hle : r + (pn : Int) / 128 ≤ 1073741824 := by
        rw [H.out]
        have h1 := totalI_take_le fs (k + 1)
        omega
      have hpn := Nat.le_trans p4.2.1 p4.2.2.1
      unfold maxLen at hpn
      clear hcb hcell p1 p2 p4
      go_wp2
      go_round
      case rel => exact ⟨k + 1, _, by omega, by go_num, rfl, H, by omega, by omega⟩
      case measure => simp [intOf]; omega
    · have H : Hid (r = totalI fs) := by show _ = _; rw [hr.out, List.take_of_length_le (by omega)]
      go_wp2
      go_ret
      exact ⟨ret_int H.out, rfl⟩
set_option maxHeartbeats 400000 in
theorem isName_any (s : ByteArray) (w : World) (hs : s.size ≤ maxLen) :
    Calls Tryz.prog 67 #[.string s] w fun e w' => e = .returned (.bool (nameB s)) ∧ w' = w := by
  unfold maxLen at hs
  by_cases h1 : s.size < 1
  · have H : Hid (nameB s = false) := name_long (.inl h1)
    have hd : decide ((s.size : Int) < 1) = true := by simp; omega
    go_enter Tryz.func67, Tryz.ntmps67
    go_wp2
    go_ret
    exact ⟨by rw [H.out]; rfl, rfl⟩
  by_cases h2 : 8 < s.size
  · have H : Hid (nameB s = false) := name_long (.inr h2)
    have hd : decide ((s.size : Int) < 1) = false := by simp; omega
    have hd2 : decide ((8 : Int) < (s.size : Int)) = true := by simp; omega
    go_enter Tryz.func67, Tryz.ntmps67
    go_wp2
    go_ret
    exact ⟨by rw [H.out]; rfl, rfl⟩
  have hd : decide ((s.size : Int) < 1) = false := by simp; omega
  have hd2 : decide ((8 : Int) < (s.size : Int)) = false := by simp; omega
  go_enter Tryz.func67, Tryz.ntmps67
  go_wp2
  go_loop [3, 14] (fun _ i => ∃ k : Nat, k ≤ s.size ∧ i = .int .i64 k ∧ Hid (okBytes (s.data.toList.take k) = true)) (fun _ i => s.size - (intOf i).toNat)
  case atStart => exact ⟨0, Nat.zero_le _, rfl, rfl⟩
  case round =>
    obtain ⟨k, hk, rfl, hok⟩ := hrel
    by_cases hlt : k < s.size
    · by_cases h3 : (s[k].toNat : Int) < 97
      · have H : Hid (nameB s = false) := name_bad hlt (.inl h3)
        go_wp2
        go_ret
        exact ⟨by rw [H.out]; rfl, rfl⟩
      · by_cases h4 : (122 : Int) < (s[k].toNat : Int)
        · have H : Hid (nameB s = false) := name_bad hlt (.inr h4)
          go_wp2
          go_ret
          exact ⟨by rw [H.out]; rfl, rfl⟩
        · have H : Hid (okBytes (s.data.toList.take (k + 1)) = true) := name_step hlt hok.out (by omega) (by omega)
          go_wp2
          go_round
          case rel => exact ⟨k + 1, by omega, by go_num, H⟩
          case measure => simp [intOf]; omega
    · have H : Hid (nameB s = true) := name_good (by omega) (by omega) (by have := hok.out; rwa [show k = s.size by omega] at this)
      go_wp2
      go_ret
      exact ⟨by rw [H.out]; rfl, rfl⟩
end Go.Proofs.YtnpndbicmamggaaGreat
namespace Go.Proofs.YtnpndbicmamggaaGreat
open Go.RowKit
set_option linter.unusedVariables false
set_option maxRecDepth 100000



set_option maxHeartbeats 400000 in
theorem l1Bytes_any' (a : Option Addr) (n c : Nat) (bs : List Int) (w : World) (A B : Nat) (hB : B ≤ w.heap.size) (h : BytesAt w A B a n c bs) (hn : n ≤ 1073741824) :
    Calls Tryz.prog 65 #[.slice a n c] w fun e w' => ∃ v, e = .returned v ∧ w'.ownsRow w.heap.size 5 1 v n (u8s bs) ∧ Below w.heap.size w w' := by
  obtain ⟨hl, hnc, hc, hw, hcell, hnil⟩ := h
  obtain ⟨i0, hi, hz0, hz1, hz2⟩ := info_parts info_u8
  have hown : (w.alloc (.cells #[] 5)).ownsRow w.heap.size 5 1 (.slice (some ⟨w.heap.size, 0, none⟩) 0 0) 0 [] := World.ownsRow_made w #[] 0 (Nat.le_refl _) (by unfold maxLen; omega) (by simp)
  have hb0 : Below w.heap.size w (w.alloc (.cells #[] 5)) := (Below.refl _ _).alloc (Nat.le_refl _) _
  rcases a with _ | ad
  · have hn0 : n = 0 := by
      by_cases h0 : n = 0
      · exact h0
      · obtain ⟨_, _, h1, _⟩ := hcell (by omega); cases h1
    subst hn0
    have hc0 := hnil rfl
    subst hc0
    go_enter Tryz.func65, Tryz.ntmps65
    go_wp2_with (at_builtin; refine wpList_append_own_none rfl _ _ 43 rfl w.heap.size 5 i0 1 Tryz.underlying43 hi _ 0 [] rfl hown rfl ?_)
    go_ret
    exact ⟨_, rfl, by rw [List.eq_nil_of_length_eq_zero hl]; exact hown, hb0⟩
  · have hnews : ∀ j u, (u8s bs)[j]? = some u → (w.alloc (.cells #[] 5)).cell? (ad.add j) = some u := by
      intro j u hj
      have hjn : j < n := by
        have := (List.getElem?_eq_some_iff.1 hj).1
        simp [u8s] at this; omega
      obtain ⟨b, off, h1, h2, h3⟩ := hcell (by omega)
      cases h1
      have h4 := h3 j hjn
      have h5 : (⟨b, off, none⟩ : Addr).add j = ⟨b, off + j, none⟩ := by simp [Addr.add]
      rw [h5, World.cell?_alloc_lt _ _ _ (by show b < _; omega), h4]
      simp [u8s, List.getElem?_map] at hj
      obtain ⟨x, hx, rfl⟩ := hj
      simp [List.getD, hx]
    have HN := hnews
    go_enter Tryz.func65, Tryz.ntmps65
    go_wp2_with (at_builtin; refine wpList_append_own _ rfl _ _ 43 rfl w.heap.size 5 i0 (.int .u8 0) 1 1 Tryz.underlying43 hi hz0 hz1 hz2 rfl (by decide) _ _ _ rfl hown ad n c (u8s bs) rfl ?c1 hnews ?c2 ?c3 ?c4 ?c5 ?_)
    case c1 => simp [u8s, hl]
    case c2 => intro u hu; simp [u8s] at hu; obtain ⟨x, _, rfl⟩ := hu; rfl
    case c3 => unfold maxLen; omega
    case c4 => omega
    case c5 => simp
    intro v' w1 hown' hgr _
    have hb1 := hb0.grown hgr (by simp) (by intro k hk; simp [Value.ownBlock] at hk; omega)
    clear hgr hown hnews
    go_wp2_with fail
    go_ret
    exact ⟨_, rfl, hown', hb1⟩
theorem l1Bytes_any (a : Option Addr) (n c : Nat) (bs : List Int) (w : World) (A B : Nat) (hB : B ≤ w.heap.size) (h : BytesAt w A B a n c bs) (hn : n ≤ 1073741824) :
    Calls Tryz.prog 65 #[.slice a n c] w fun e w' => ∃ va vc, e = .returned (.slice va n vc) ∧ w'.ownsRow w.heap.size 5 1 (.slice va n vc) n (u8s bs) ∧ Below w.heap.size w w' := by
  refine (l1Bytes_any' a n c bs w A B hB h hn).mono ?_
  rintro e w' ⟨v, rfl, h1, h2⟩
  obtain ⟨va, vc, rfl⟩ := own_shape h1
  exact ⟨va, vc, rfl, h1, h2⟩

/-- A list of files in memory of one's own: the row of the files, and for each a row of its bytes; no two share a block. -/
structure OwnF (w : World) (base : Nat) (v : Value) (fs : List PF) (xs vs : List Value) : Prop where
  row : w.ownsRow base 71 2 v fs.length xs
  len : vs.length = fs.length
  name : ∀ j, j < fs.length → xs[j * 2]? = some (.string (fs.getD j (ByteArray.empty, [])).1) ∧ (fs.getD j (ByteArray.empty, [])).1.size ≤ maxLen
  val : ∀ j, j < fs.length → xs[j * 2 + 1]? = some (vs.getD j (.slice none 0 0))
  data : ∀ j, j < fs.length → w.ownsRow base 5 1 (vs.getD j (.slice none 0 0)) (fs.getD j (ByteArray.empty, [])).2.length (u8s (fs.getD j (ByteArray.empty, [])).2)
  byte : ∀ j, j < fs.length → ∀ x ∈ (fs.getD j (ByteArray.empty, [])).2, 0 ≤ x ∧ x ≤ 255
  apart : ∀ i j, i < j → j < fs.length → ∀ g, (vs.getD i (.slice none 0 0)).ownBlock = some g → (vs.getD j (.slice none 0 0)).ownBlock ≠ some g

theorem OwnF.below {w w' : World} {base : Nat} {v : Value} {fs : List PF} {xs vs : List Value} (h : OwnF w base v fs xs vs) (hb : Below w.heap.size w w') : OwnF w' base v fs xs vs :=
  ⟨owns_below h.row hb, h.len, h.name, h.val, fun j hj => owns_below (h.data j hj) hb, h.byte, h.apart⟩

theorem OwnF.nil {w : World} {base : Nat} {v : Value} (h : w.ownsRow base 71 2 v 0 []) : OwnF w base v [] [] [] :=
  ⟨h, rfl, fun j hj => absurd hj (Nat.not_lt_zero _), fun j hj => absurd hj (Nat.not_lt_zero _), fun j hj => absurd hj (Nat.not_lt_zero _), fun j hj => absurd hj (Nat.not_lt_zero _), fun i j hij hj => absurd hj (Nat.not_lt_zero _)⟩

/-- Rows of files and rows of bytes lie in other blocks. -/
theorem own_ne {w : World} {b1 b2 : Nat} {v u : Value} {n m : Nat} {xs ys : List Value} (h : w.ownsRow b1 71 2 v n xs) (k : w.ownsRow b2 5 1 u m ys) : u.ownBlock = none ∨ u.ownBlock ≠ v.ownBlock := by
  rcases k.2 with ⟨rfl, _⟩ | ⟨g, cap, cur, rfl, _, hg, _⟩
  · exact .inl rfl
  · refine .inr fun e => ?_
    rcases h.2 with ⟨rfl, _⟩ | ⟨g', cap', cur', rfl, _, hg', _⟩
    · simp [Value.ownBlock] at e
    · simp [Value.ownBlock] at e
      subst e
      rw [hg] at hg'
      simp at hg'

theorem getD_snoc_lt {α : Type} (l : List α) (x d : α) (j : Nat) (h : j < l.length) : (l ++ [x]).getD j d = l.getD j d := by
  simp [List.getD, List.getElem?_append_left h]
theorem getD_snoc_eq {α : Type} (l : List α) (x d : α) : (l ++ [x]).getD l.length d = x := by
  simp [List.getD]

/-- One file more, its bytes in a new row. -/
theorem OwnF.push {w0 w1 w2 w3 : World} {base : Nat} {v v' vb : Value} {fs : List PF} {xs vs : List Value} {f : PF} (h : OwnF w0 base v fs xs vs) (hbase : base ≤ w0.heap.size) (hb : Below w0.heap.size w0 w1)
    (hvb : w1.ownsRow w0.heap.size 5 1 vb f.2.length (u8s f.2)) (hs : f.1.size ≤ maxLen) (hby : ∀ x ∈ f.2, 0 ≤ x ∧ x ≤ 255) (hb2 : Below w1.heap.size w1 w2)
    (hrow : w3.ownsRow base 71 2 v' (fs.length + 1) (xs ++ [.string f.1, vb])) (hgr : w2.grownBy w3 v.ownBlock) : OwnF w3 base v' (fs ++ [f]) (xs ++ [.string f.1, vb]) (vs ++ [vb]) := by
  have h1 := (h.below hb).below hb2
  have hvb2 := owns_below hvb hb2
  have hx := h.row.1
  have hbb : w3.ownsRow base 5 1 vb f.2.length (u8s f.2) := by
    have := hvb2.kept hgr (own_ne h1.row hvb2)
    refine ⟨this.1, ?_⟩
    rcases this.2 with hn | ⟨g, cap, cur, e1, e2, e3⟩
    · exact .inl hn
    · exact .inr ⟨g, cap, cur, e1, Nat.le_trans hbase e2, e3⟩
  have hvl := h.len
  refine ⟨by simpa using hrow, by simp [hvl], ?_, ?_, ?_, ?_, ?_⟩
  · intro j hj
    simp at hj
    by_cases hjk : j < fs.length
    · rw [getD_snoc_lt _ _ _ _ hjk, List.getElem?_append_left (by omega)]; exact h.name j hjk
    · obtain rfl : j = fs.length := by omega
      rw [getD_snoc_eq, List.getElem?_append_right (by omega)]
      exact ⟨by simp [hx], hs⟩
  · intro j hj
    simp at hj
    by_cases hjk : j < fs.length
    · rw [getD_snoc_lt _ _ _ _ (by omega), List.getElem?_append_left (by omega)]; exact h.val j hjk
    · obtain rfl : j = fs.length := by omega
      rw [show fs.length = vs.length from hvl.symm, getD_snoc_eq, List.getElem?_append_right (by omega)]
      simp [hx, hvl]
  · intro j hj
    simp at hj
    by_cases hjk : j < fs.length
    · rw [getD_snoc_lt _ _ _ _ (by omega), getD_snoc_lt _ _ _ _ hjk]
      exact (h1.data j hjk).kept hgr (own_ne h1.row (h1.data j hjk))
    · obtain rfl : j = fs.length := by omega
      rw [getD_snoc_eq, show fs.length = vs.length from hvl.symm, getD_snoc_eq]
      exact hbb
  · intro j hj
    simp at hj
    by_cases hjk : j < fs.length
    · rw [getD_snoc_lt _ _ _ _ hjk]; exact h.byte j hjk
    · obtain rfl : j = fs.length := by omega
      rw [getD_snoc_eq]; exact hby
  · intro i j hij hj g hg
    simp at hj
    rw [getD_snoc_lt _ _ _ _ (by omega)] at hg
    by_cases hjk : j < fs.length
    · rw [getD_snoc_lt _ _ _ _ (by omega)]; exact h.apart i j hij hjk g hg
    · obtain rfl : j = fs.length := by omega
      rw [show fs.length = vs.length from hvl.symm, getD_snoc_eq]
      intro e
      have e1 := (hvb.lt g e).1
      have e2 := ((h.data i (by omega)).lt g hg).2
      omega

/-- What is owned so can be read. -/
theorem OwnF.files {w : World} {base : Nat} {v : Value} {fs : List PF} {xs vs : List Value} (h : OwnF w base v fs xs vs) : ∃ a n c, v = .slice a n c ∧ n = fs.length ∧ FilesAt w base w.heap.size a n c fs := by
  rcases h.row.2 with ⟨rfl, hn⟩ | ⟨g, cap, cur, rfl, hb, hg, h1, h2, _⟩
  · exact ⟨none, 0, 0, rfl, hn.symm, hn, Nat.le_refl _, Nat.zero_le _, fun h => absurd h (Nat.lt_irrefl _)⟩
  · refine ⟨some ⟨g, 0, none⟩, fs.length, cap, rfl, rfl, rfl, h1, h2, fun hn => ⟨g, 0, rfl, h.row.lt g rfl, fun i hi => ?_⟩⟩
    obtain ⟨a, n, c, e, hby⟩ := bytesAt_of_own (h.data i hi) (h.byte i hi)
    refine ⟨?_, (h.name i hi).2, a, n, c, ?_, hby⟩
    · rw [Nat.zero_add, h.row.cellAt (i * 2) (by omega)]; exact (h.name i hi).1
    · rw [Nat.zero_add, h.row.cellAt (i * 2 + 1) (by omega), h.val i hi, e]
end Go.Proofs.YtnpndbicmamggaaGreat
namespace Go.Proofs.YtnpndbicmamggaaGreat
open Go.RowKit
set_option linter.unusedVariables false
set_option maxRecDepth 100000

theorem below_alloc' {wr w1 : World} {o : Obj} (h1 : w1.os = wr.os) (h2 : w1.tape = wr.tape) (h3 : w1.output = wr.output) (h4 : w1.heap = wr.heap.push o) : Below wr.heap.size wr w1 :=
  ⟨h1, h2, h3, by rw [h4]; simp, fun k hk => by rw [h4, Array.getElem?_push, if_neg (by omega)]⟩
theorem grown_below {S : Nat} {w wr w1 w2 : World} {row : Option Nat} (hbel : Below S w wr) (h1 : Below wr.heap.size wr w1) (hgr : w1.grownBy w2 row) (hS : S ≤ wr.heap.size) (hr : ∀ k, row = some k → S ≤ k) : Below S w w2 :=
  (hbel.trans (h1.mono hS)).grown hgr (Nat.le_trans hS h1.size) hr
theorem grown_box {S : Nat} {wr w1 w2 : World} {row : Option Nat} {o : Obj} (hbox : wr.heap[S]? = some o) (h1 : Below wr.heap.size wr w1) (hgr : w1.grownBy w2 row) (hr : ∀ k, row = some k → S < k) : w2.heap[S]? = some o := by
  have hS : S < wr.heap.size := (Array.getElem?_eq_some_iff.1 hbox).1
  rw [hgr.block S (Nat.lt_of_lt_of_le hS h1.size) (fun e => by have := hr S e.symm; omega), h1.block S hS, hbox]

theorem app_after {S : Nat} {w wr w1 w2 : World} {row : Option Nat} {o ob : Obj} (hgr : w1.grownBy w2 row) (e1 : w1.os = wr.os) (e2 : w1.tape = wr.tape) (e3 : w1.output = wr.output) (e4 : w1.heap = wr.heap.push o) (hbel : Below S w wr) (hS : S + 1 ≤ wr.heap.size) (hbox : wr.heap[S]? = some ob) (hr : ∀ k, row = some k → S + 1 ≤ k) :
    Below S w w2 ∧ w2.heap[S]? = some ob ∧ S + 1 ≤ w2.heap.size := by
  have hB1 := below_alloc' e1 e2 e3 e4
  exact ⟨grown_below hbel hB1 hgr (by omega) (fun g hg => by have := hr g hg; omega), grown_box hbox hB1 hgr (fun g hg => hr g hg), by have := hgr.size; have := hB1.size; omega⟩

/-- 'a > b' on names. -/
def gtB (a b : ByteArray) : Bool := !Op.bytesLess a.toList b.toList && !(a.toList == b.toList)

theorem own_lower {w : World} {b b' e size : Nat} {v : Value} {n : Nat} {xs : List Value} (h : w.ownsRow b e size v n xs) (hb : b' ≤ b) : w.ownsRow b' e size v n xs := by
  refine ⟨h.1, ?_⟩
  rcases h.2 with hn | ⟨g, cap, cur, e1, e2, e3⟩
  · exact .inl hn
  · exact .inr ⟨g, cap, cur, e1, Nat.le_trans hb e2, e3⟩

/-- A row of files as cells. -/
def RowF (w : World) (B : Nat) (a : Option Addr) (n c : Nat) (xs : List Value) (nms : Nat → ByteArray) : Prop :=
  xs.length = n * 2 ∧ n ≤ c ∧ c ≤ maxLen ∧ (∀ i, i < n → xs[i * 2]? = some (.string (nms i)) ∧ ∃ a' n' c', xs[i * 2 + 1]? = some (.slice a' n' c')) ∧ (0 < n → ∃ b off, a = some ⟨b, off, none⟩ ∧ b < B ∧ ∀ j, j < n * 2 → w.cell? ⟨b, off + j, none⟩ = xs[j]?)

theorem take_two (xs : List Value) (k : Nat) (u v : Value) (h1 : xs[k * 2]? = some u) (h2 : xs[k * 2 + 1]? = some v) : xs.take ((k + 1) * 2) = xs.take (k * 2) ++ [u, v] := by
  obtain ⟨l1, e1⟩ := List.getElem?_eq_some_iff.1 h1
  obtain ⟨l2, e2⟩ := List.getElem?_eq_some_iff.1 h2
  rw [show (k + 1) * 2 = k * 2 + 1 + 1 by omega, List.take_succ_eq_append_getElem l2, List.take_succ_eq_append_getElem l1, e1, e2]
  simp

/-- Where the walk of l1Insert stands after k rounds. -/
def InsAt (xs : List Value) (nms : Nat → ByteArray) (nm : ByteArray) (u : Value) (k : Nat) (t : Bool) (m : Nat) (ys : List Value) : Prop :=
  (t = false ∧ m = k ∧ ys = xs.take (k * 2) ∧ ∀ i, i < k → gtB (nms i) nm = false) ∨
  (t = true ∧ m = k + 1 ∧ ∃ p, p < k ∧ gtB (nms p) nm = true ∧ (∀ i, i < p → gtB (nms i) nm = false) ∧ ys = xs.take (p * 2) ++ [.string nm, u] ++ (xs.take (k * 2)).drop (p * 2))

theorem InsAt.go {xs : List Value} {nms : Nat → ByteArray} {nm : ByteArray} {u : Value} {k : Nat} {t : Bool} {m : Nat} {ys : List Value} {x y : Value} (h : InsAt xs nms nm u k t m ys) (h1 : xs[k * 2]? = some x) (h2 : xs[k * 2 + 1]? = some y) (hc : t = true ∨ gtB (nms k) nm = false) :
    InsAt xs nms nm u (k + 1) t (m + 1) (ys ++ [x, y]) := by
  have ht := take_two xs k x y h1 h2
  have hlen : k * 2 ≤ xs.length := by
    have := (List.getElem?_eq_some_iff.1 h1).1; omega
  rcases h with ⟨rfl, rfl, rfl, h⟩ | ⟨rfl, rfl, p, hp, hg, h, rfl⟩
  · rcases hc with hc | hc
    · cases hc
    · refine .inl ⟨rfl, rfl, ht.symm, fun i hi => ?_⟩
      by_cases hik : i = m
      · subst hik; exact hc
      · exact h i (by omega)
  · refine .inr ⟨rfl, rfl, p, by omega, hg, h, ?_⟩
    rw [ht, List.drop_append_of_le_length (by simp; omega)]
    simp
theorem InsAt.put {xs : List Value} {nms : Nat → ByteArray} {nm : ByteArray} {u : Value} {k : Nat} {m : Nat} {ys : List Value} {x y : Value} (h : InsAt xs nms nm u k false m ys) (h1 : xs[k * 2]? = some x) (h2 : xs[k * 2 + 1]? = some y) (hc : gtB (nms k) nm = true) :
    InsAt xs nms nm u (k + 1) true (m + 1 + 1) (ys ++ [.string nm, u] ++ [x, y]) := by
  have ht := take_two xs k x y h1 h2
  have hlen : k * 2 ≤ xs.length := by
    have := (List.getElem?_eq_some_iff.1 h1).1; omega
  rcases h with ⟨_, rfl, rfl, h⟩ | ⟨h, _⟩
  · refine .inr ⟨rfl, rfl, m, by omega, hc, h, ?_⟩
    rw [ht, List.drop_append_of_le_length (by simp; omega)]
    simp
  · cases h

/-- Where a new name goes. -/
def insPos (n : Nat) (nms : Nat → ByteArray) (nm : ByteArray) (p : Nat) : Prop := p ≤ n ∧ (∀ i, i < p → gtB (nms i) nm = false) ∧ (p < n → gtB (nms p) nm = true)

def InsRes (w w' : World) (n : Nat) (xs : List Value) (nms : Nat → ByteArray) (nm : ByteArray) (u v' : Value) : Prop :=
  ∃ p, insPos n nms nm p ∧ w'.ownsRow w.heap.size 71 2 v' (n + 1) (xs.take (p * 2) ++ [.string nm, u] ++ xs.drop (p * 2)) ∧ Below w.heap.size w w'

set_option maxHeartbeats 1000000 in
theorem l1Insert_any (a : Option Addr) (n c : Nat) (xs : List Value) (nms : Nat → ByteArray) (nm : ByteArray) (fa : Option Addr) (fn fc : Nat) (w : World) (B : Nat) (hB : B ≤ w.heap.size) (h : RowF w B a n c xs nms) (hn : n ≤ 1048576) :
    Calls Tryz.prog 66 #[.slice a n c, .agg #[.string nm, .slice fa fn fc]] w fun e w' => ∃ v', e = .returned v' ∧ InsRes w w' n xs nms nm (.slice fa fn fc) v' := by
  obtain ⟨hl, hnc, hc, hx, hcell⟩ := h
  obtain ⟨i0, hi, hz0, hz1, hz2⟩ := info_parts info_File
  go_enter Tryz.func66, Tryz.ntmps66
  go_wp2
  go_loopw [5, 6, 7] (fun v t i wr => ∃ (k m : Nat) (tb : Bool) (ys : List Value), k ≤ n ∧ i = .int .i64 k ∧ t = .bool tb ∧ wr.ownsRow (w.heap.size + 1) 71 2 v m ys ∧ InsAt xs nms nm (.slice fa fn fc) k tb m ys ∧ Below w.heap.size w wr ∧ wr.heap[w.heap.size]? = some (.cells #[.string nm, .slice fa fn fc] 71) ∧ w.heap.size + 1 ≤ wr.heap.size) (fun _ _ i _ => n - (intOf i).toNat)
  case atStart =>
    refine ⟨0, 0, false, [], Nat.zero_le _, rfl, rfl, ?_, .inl ⟨rfl, rfl, by simp, fun i hi => absurd hi (Nat.not_lt_zero _)⟩, ((Below.refl _ _).alloc (Nat.le_refl _) _).alloc (by simp) _, ?_, by simp⟩
    · have := World.ownsRow_made (base := w.heap.size + 1) (e := 71) (size := 2) (w.alloc (.cells #[.string nm, .slice fa fn fc] 71)) #[] 0 (by simp) (by unfold maxLen; omega) (by simp)
      simpa using this
    · rw [Below.heap_alloc _ _ _ (by simp)]; exact heap_alloc_new w _
  case round =>
    obtain ⟨k, m, tb, ys, hk, rfl, rfl, hown, hI, hbel, hbox, hsz⟩ := hrel
    have hm : m ≤ k + 1 := by rcases hI with ⟨_, h, _⟩ | ⟨_, h, _⟩ <;> omega
    have q0 : wr.cell? ⟨w.heap.size, 0, none⟩ = some (.string nm) := by rw [cell_of_row wr w.heap.size 0 _ _ _ hbox]; rfl
    have q1 : wr.cell? ⟨w.heap.size, 1, none⟩ = some (.slice fa fn fc) := by rw [cell_of_row wr w.heap.size 1 _ _ _ hbox]; rfl
    by_cases hlt : k < n
    · obtain ⟨b, off, rfl, hb, hcb⟩ := hcell (by omega)
      obtain ⟨x1, a', n', c', x2⟩ := hx k hlt
      have HE1 : Hid (w.cell? ⟨b, off + k * 2, none⟩ = some (.string (nms k))) := (hcb (k * 2) (by omega)).trans x1
      have HE2 : Hid (w.cell? ⟨b, off + k * 2 + 1, none⟩ = some (.slice a' n' c')) := (hcb (k * 2 + 1) (by omega)).trans x2
      have hbw : b < w.heap.size := by omega
      have e1 : wr.cell? ⟨b, off + k * 2, none⟩ = some (.string (nms k)) := (hbel.cell (p := ⟨b, off + k * 2, none⟩) (by show b < _; omega)).trans ((hcb (k * 2) (by omega)).trans x1)
      have e2 : wr.cell? ⟨b, off + k * 2 + 1, none⟩ = some (.slice a' n' c') := (hbel.cell (p := ⟨b, off + k * 2 + 1, none⟩) (by show b < _; omega)).trans ((hcb (k * 2 + 1) (by omega)).trans x2)
      have hbk : b < wr.heap.size := by omega
      clear hcb hx hcell
      have hI1 := fun (hc : tb = true ∨ gtB (nms k) nm = false) => InsAt.go hI x1 x2 hc
      have HI1 : Hid (tb = true ∨ gtB (nms k) nm = false → InsAt xs nms nm (.slice fa fn fc) (k + 1) tb (m + 1) (ys ++ [.string (nms k), .slice a' n' c'])) := hI1
      clear hI1
      rcases tb with _ | _
      · by_cases hg : gtB (nms k) nm = true
        · have R := InsAt.put hI x1 x2 hg
          have hg' : (!Op.bytesLess (nms k).toList nm.toList && !((nms k).toList == nm.toList)) = true := by simpa [gtB] using hg
          clear HI1 hI
          go_wp2
          go_quiet (fail)
          go_wp2_with (first | (at_builtin; refine wpList_append_own _ rfl (.tmp 27) (.tmp 29) 32 rfl (w.heap.size + 1) 71 i0 _ 2 40 Tryz.underlying32 hi hz0 hz1 hz2 rfl (by decide) u5 m ys rfl (hown.alloc _) ⟨wr.heap.size, 0, none⟩ 1 1 [.string nm, .slice fa fn fc] rfl rfl (cell_two_new _ _ _ _) (by simp [Value.oneCell']) (by unfold maxLen; omega) (by omega) (by simp; omega) ?_; intro v1 w1 hown1 hgr1 _; obtain ⟨hb3, hx3, hs3⟩ := app_after (wr := wr) hgr1 rfl rfl rfl rfl hbel hsz hbox (fun g hg => (hown.lt g hg).1); have f1 := (hb3.cell (p := ⟨b, off + k * 2, none⟩) hbw).trans HE1.out; have f2 := (hb3.cell (p := ⟨b, off + k * 2 + 1, none⟩) hbw).trans HE2.out) | (at_builtin; refine wpList_append_own _ rfl (.tmp 31) (.tmp 36) 32 rfl (w.heap.size + 1) 71 i0 _ 2 40 Tryz.underlying32 hi hz0 hz1 hz2 rfl (by decide) v1 (m + 1) (ys ++ [.string nm, .slice fa fn fc]) rfl (hown1.alloc _) ⟨w1.heap.size, 0, none⟩ 1 1 [.string (nms k), .slice a' n' c'] rfl rfl (cell_two_new _ _ _ _) (by simp [Value.oneCell']) (by unfold maxLen; omega) (by omega) (by simp; omega) ?_; intro v2 w2 hown2 hgr2 _))
          obtain ⟨hb4, hx4, hs4⟩ := app_after (wr := w1) hgr2 rfl rfl rfl rfl hb3 hs3 hx3 (fun g hg => (hown1.lt g hg).1)
          clear hgr1 hgr2 hown hown1 hbel hb3
          go_wp2
          go_roundw
          case rel => exact ⟨k + 1, _, _, _, by omega, by go_num, rfl, hown2, R, hb4, hx4, hs4⟩
          case measure => simp [intOf]; omega
        · have R := HI1.out (.inr (by simpa using hg))
          have hg' : (!Op.bytesLess (nms k).toList nm.toList && !((nms k).toList == nm.toList)) = false := by simpa [gtB] using hg
          clear HI1 hI
          go_wp2
          go_quiet (fail)
          go_wp2_with (at_builtin; refine wpList_append_own _ rfl (.tmp 31) (.tmp 36) 32 rfl (w.heap.size + 1) 71 i0 _ 2 40 Tryz.underlying32 hi hz0 hz1 hz2 rfl (by decide) u5 m ys rfl (hown.alloc _) ⟨wr.heap.size, 0, none⟩ 1 1 [.string (nms k), .slice a' n' c'] rfl rfl (cell_two_new _ _ _ _) (by simp [Value.oneCell']) (by unfold maxLen; omega) (by omega) (by simp; omega) ?_; intro v' w2 hown' hgr _)
          obtain ⟨hb3, hx3, hs3⟩ := app_after (wr := wr) hgr rfl rfl rfl rfl hbel hsz hbox (fun g hg => (hown.lt g hg).1)
          clear hgr hown hbel
          go_wp2
          go_roundw
          case rel => exact ⟨k + 1, _, _, _, by omega, by go_num, rfl, hown', R, hb3, hx3, hs3⟩
          case measure => simp [intOf]; omega
      · have R := HI1.out (.inl rfl)
        clear HI1 hI
        go_wp2
        go_quiet (fail)
        go_wp2_with (at_builtin; refine wpList_append_own _ rfl (.tmp 31) (.tmp 36) 32 rfl (w.heap.size + 1) 71 i0 _ 2 40 Tryz.underlying32 hi hz0 hz1 hz2 rfl (by decide) u5 m ys rfl (hown.alloc _) ⟨wr.heap.size, 0, none⟩ 1 1 [.string (nms k), .slice a' n' c'] rfl rfl (cell_two_new _ _ _ _) (by simp [Value.oneCell']) (by unfold maxLen; omega) (by omega) (by simp; omega) ?_; intro v' w2 hown' hgr _)
        obtain ⟨hb3, hx3, hs3⟩ := app_after (wr := wr) hgr rfl rfl rfl rfl hbel hsz hbox (fun g hg => (hown.lt g hg).1)
        clear hgr hown hbel
        go_wp2
        go_roundw
        case rel => exact ⟨k + 1, _, _, _, by omega, by go_num, rfl, hown', R, hb3, hx3, hs3⟩
        case measure => simp [intOf]; omega
    · rcases tb with _ | _
      · rcases hI with ⟨_, rfl, rfl, hno⟩ | ⟨h, _⟩
        · have hkn : m = n := by omega
          have HN : Hid (insPos n nms nm m) := ⟨by omega, hno, fun h => absurd h (by omega)⟩
          have HX : Hid (xs.take (m * 2) ++ [.string nm, .slice fa fn fc] ++ xs.drop (m * 2) = xs.take (m * 2) ++ [.string nm, .slice fa fn fc]) := by
            show _ = _
            rw [List.drop_eq_nil_of_le (by omega)]; simp
          clear hno
          go_wp2_with (at_builtin; refine wpList_append_own _ rfl (.tmp 40) (.tmp 42) 32 rfl (w.heap.size + 1) 71 i0 _ 2 40 Tryz.underlying32 hi hz0 hz1 hz2 rfl (by decide) u5 m (xs.take (m * 2)) rfl (hown.alloc _) ⟨wr.heap.size, 0, none⟩ 1 1 [.string nm, .slice fa fn fc] rfl rfl (cell_two_new _ _ _ _) (by simp [Value.oneCell']) (by unfold maxLen; omega) (by omega) (by simp; omega) ?_; intro v' w2 hown' hgr _)
          obtain ⟨hb3, hx3, hs3⟩ := app_after (wr := wr) hgr rfl rfl rfl rfl hbel hsz hbox (fun g hg => (hown.lt g hg).1)
          clear hgr hown hbel
          go_wp2
          go_ret
          refine ⟨v', rfl, m, HN.out, ?_, hb3⟩
          rw [HX.out]
          subst hkn
          exact own_lower hown' (by omega)
        · cases h
      · rcases hI with ⟨h, _⟩ | ⟨_, rfl, p, hp, hg, hno, rfl⟩
        · cases h
        · have hkn : k = n := by omega
          go_wp2
          go_ret
          refine ⟨u5, rfl, p, ⟨by omega, hno, fun _ => hg⟩, ?_, hbel⟩
          subst hkn
          rw [show xs.take (k * 2) = xs from List.take_of_length_le (by omega)] at hown
          exact own_lower hown (by omega)
end Go.Proofs.YtnpndbicmamggaaGreat
