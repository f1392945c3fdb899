import Derived.Test.YtmmdkjeoadlikaaMem
import Derived.Test.YtmmdkjeoadlikaaByt
import Derived.Test.YtmmdkjeoadlikaaChecked
import Derived.OwnWalk
namespace Go.Proofs.Ytmmdkjeoadlikaa
open Go.RowKit
set_option linter.unusedVariables false
set_option maxRecDepth 100000

theorem info_File : (Try.prog.info? 83).map (fun i => (i.zero, i.size, i.bytes)) = some (some (.agg #[.string ByteArray.empty, .slice none 0 0]), 2, 40) := by kernel_rfl
theorem info_Pend : (Try.prog.info? 77).map (fun i => (i.zero, i.size, i.bytes)) = some (some (.agg #[.string ByteArray.empty, .int .i64 0, .slice none 0 0]), 3, 48) := by kernel_rfl

set_option maxHeartbeats 400000 in
theorem toFile_any (s : ByteArray) (a : Option Addr) (n c : Nat) (bs : List Int) (w : World) (A B : Nat) (hB : B ≤ w.heap.size) (h : BytesAt w A B a n c bs) (hn : n ≤ 1048576) :
    Calls Try.prog 67 #[.agg #[.string s, .slice a n c]] w fun e w' => ∃ g, w.heap.size ≤ g ∧ e = .returned (.agg #[.string s, .slice (some ⟨g, 0, none⟩) n n]) ∧ BytesAt w' w.heap.size w'.heap.size (some ⟨g, 0, none⟩) n n bs ∧ Below w.heap.size w w' := by
  go_enter Try.func67, Try.ntmps67
  go_wp2_with fail
  have hb0 : Below w.heap.size w (((w.alloc (.cells #[.string s, .slice a n c] 90)).alloc (.cells #[.string { data := #[] }, .slice none 0 0] 83)).alloc (.cells #[.string s, .slice none 0 0] 83)) := (((Below.refl _ _).alloc (Nat.le_refl _) _).alloc (by simp) _).alloc (by simp; omega) _
  refine (toByteS_any _ _ _ bs _ A B (by simp; omega) (h.below (hb0.mono hB)) hn).mono ?_
  rintro e w1 ⟨g, hg, rfl, hby, hb1⟩
  simp at hg
  have hz := hb1.size
  simp at hz
  have hz1 : w.heap.size < w1.heap.size := by omega
  have hz2 : w.heap.size + 1 < w1.heap.size := by omega
  have hz3 : w.heap.size + 1 + 1 < w1.heap.size := by omega
  obtain ⟨hc1, hf1⟩ := bcell hb1
  have hb2 := hb0.trans (hb1.mono (by simp; omega))
  clear hb1 hb0
  go_wp2
  exact bodyPost_ret (v := .agg #[.string s, .slice (some ⟨g, 0, none⟩) n n]) (by simp [results, Try.results67, go_sem, hc1]) rfl ⟨g, by omega, rfl, by
    simpa using (hby.keep ((((Keeps.refl _ _ _).set (p := ⟨w.heap.size + 1 + 1, 1, none⟩) (.inl (by simp)) _).set (p := ⟨w.heap.size + 1, 0, none⟩) (.inl (by simp <;> omega)) _).set (p := ⟨w.heap.size + 1, 1, none⟩) (.inl (by simp <;> omega)) _)).up (A' := w.heap.size) (B' := w1.heap.size) (by simp; omega) (Nat.le_refl _),
    ((hb2.setCell (by simp; omega) _).setCell (by simp) _).setCell (by simp) _⟩
set_option maxHeartbeats 400000 in
theorem toFileS_any (a : Option Addr) (n c : Nat) (fs : List PF) (w : World) (A B : Nat) (hB : B ≤ w.heap.size) (h : FilesAt w A B a n c fs) (hn : n ≤ 1048576) (hall : ∀ j, j < n → (fs.getD j (ByteArray.empty, [])).2.length ≤ 1048576) :
    Calls Try.prog 31 #[.slice a n c] w fun e w' => ∃ g, w.heap.size ≤ g ∧ e = .returned (.slice (some ⟨g, 0, none⟩) n n) ∧ FilesAt w' w.heap.size w'.heap.size (some ⟨g, 0, none⟩) n n fs ∧ Below w.heap.size w w' := by
  obtain ⟨hl, hnc, hc, hcell⟩ := h
  obtain ⟨i0, hi, hz0, hz1, hz2⟩ := info_parts info_File
  go_enter Try.func31, Try.ntmps31
  go_wp2_with (at_make; refine wpList_make_full _ rfl _ _ 29 rfl w.heap.size 83 i0 _ 2 Try.underlying29 hi hz0 hz1 .i64 .i64 n n n rfl rfl rfl rfl (by rw [hz2]; omega) (by unfold maxLen; omega) (Nat.le_refl _) ?_; intro w1 hown hgr)
  have hb1 : Below w.heap.size w w1 := (Below.refl _ _).grown hgr (Nat.le_refl _) (by simp)
  go_loopw [4] (fun i wr => ∃ k : Nat, k ≤ n ∧ i = .int .i64 k ∧ Below w.heap.size w wr ∧ ∃ xs, wr.ownsRow w.heap.size 83 2 (.slice (some ⟨w.heap.size, 0, none⟩) n n) n xs ∧ GotFiles wr w.heap.size xs fs k) (fun i _ => n - (intOf i).toNat)
  case atStart => exact ⟨0, Nat.zero_le _, rfl, hb1, _, hown, fun j hj => absurd hj (Nat.not_lt_zero _)⟩
  case round =>
    clear hown hgr hb1
    obtain ⟨k, hk, rfl, hbel, xs, hown, hgot⟩ := hrel
    by_cases hlt : k < n
    · obtain ⟨b, off, rfl, hb, hcb⟩ := hcell (by omega)
      have e1 := (hcb k hlt).below hb (hbel.mono hB)
      have e2 := hall k hlt
      clear hcell hcb hall
      obtain ⟨f, hf⟩ : ∃ f, f = fs.getD k (ByteArray.empty, []) := ⟨_, rfl⟩
      rw [← hf] at e1 e2
      have HF : Hid (f = fs.getD k (ByteArray.empty, [])) := hf
      clear hf
      obtain ⟨p1, p2, pa, pn, pc, p3, p4⟩ := e1
      have hs := hbel.size
      have hlt0 := (hown.lt w.heap.size rfl).2
      go_wp2_with fail
      refine (toFile_any _ _ _ _ f.2 _ A B (by omega) p4 (by rw [← p4.1]; exact e2)).mono ?_
      rintro e w2 ⟨g, hg, rfl, hby, hb2⟩
      have hown2 := owns_below hown hb2
      have hgot2 := hgot.below hb2
      have hbel2 := hbel.trans (hb2.mono hs)
      have hxl := hown2.1
      have hst := GotFiles.step hgot2 hlt hxl HF.out p2 (hby.up (by omega) (Nat.le_refl _))
      have R := (hown2.stored (k * 2) (.string f.1)).1.stored (k * 2 + 1) (.slice (some ⟨g, 0, none⟩) pn pn)
      have hbel3 := (hbel2.setCell (p := ⟨w.heap.size, k * 2, none⟩) (Nat.le_refl _) (.string f.1)).setCell (p := ⟨w.heap.size, k * 2 + 1, none⟩) (Nat.le_refl _) (.slice (some ⟨g, 0, none⟩) pn pn)
      have hf1 := hown2.frozenAt (k * 2)
      have hf2 := hown2.frozenAt (k * 2 + 1)
      obtain ⟨u, hu⟩ : ∃ u, w2.cell? ⟨w.heap.size, k * 2, none⟩ = some u := ⟨xs[k * 2]'(by omega), by rw [hown2.cellAt (k * 2) (by omega)]; exact List.getElem?_eq_getElem _⟩
      obtain ⟨u2, hu2⟩ : ∃ u, w2.cell? ⟨w.heap.size, k * 2 + 1, none⟩ = some u := ⟨xs[k * 2 + 1]'(by omega), by rw [hown2.cellAt (k * 2 + 1) (by omega)]; exact List.getElem?_eq_getElem _⟩
      clear hown hown2 hgot hgot2 hbel hbel2 hby hb2
      go_wp2
      go_roundw
      case rel => exact ⟨k + 1, by omega, by go_num, hbel3, _, R.1, hst⟩
      case measure => simp [intOf]; omega
    · go_wp2
      go_ret
      exact ⟨w.heap.size, Nat.le_refl _, rfl, files_of_got hown hl (by omega) (by rw [show n = k by omega]; exact hgot), hbel⟩
set_option maxHeartbeats 400000 in
theorem toPend_any (s : ByteArray) (pg : Int) (a : Option Addr) (n c : Nat) (bs : List Int) (w : World) (A B : Nat) (hB : B ≤ w.heap.size) (h : BytesAt w A B a n c bs) (hn : n ≤ 1048576) :
    Calls Try.prog 68 #[.agg #[.string s, .int .i64 pg, .slice a n c]] w fun e w' => ∃ g, w.heap.size ≤ g ∧ e = .returned (.agg #[.string s, .int .i64 pg, .slice (some ⟨g, 0, none⟩) n n]) ∧ BytesAt w' w.heap.size w'.heap.size (some ⟨g, 0, none⟩) n n bs ∧ Below w.heap.size w w' := by
  go_enter Try.func68, Try.ntmps68
  go_wp2_with fail
  have hb0 : Below w.heap.size w (((w.alloc (.cells #[.string s, .int .i64 pg, .slice a n c] 92)).alloc (.cells #[.string { data := #[] }, .int .i64 0, .slice none 0 0] 77)).alloc (.cells #[.string s, .int .i64 pg, .slice none 0 0] 77)) := (((Below.refl _ _).alloc (Nat.le_refl _) _).alloc (by simp) _).alloc (by simp; omega) _
  refine (toByteS_any _ _ _ bs _ A B (by simp; omega) (h.below (hb0.mono hB)) hn).mono ?_
  rintro e w1 ⟨g, hg, rfl, hby, hb1⟩
  simp at hg
  have hz := hb1.size
  simp at hz
  have hz1 : w.heap.size < w1.heap.size := by omega
  have hz2 : w.heap.size + 1 < w1.heap.size := by omega
  have hz3 : w.heap.size + 1 + 1 < w1.heap.size := by omega
  obtain ⟨hc1, hf1⟩ := bcell hb1
  have hb2 := hb0.trans (hb1.mono (by simp; omega))
  clear hb1 hb0
  go_wp2
  exact bodyPost_ret (v := .agg #[.string s, .int .i64 pg, .slice (some ⟨g, 0, none⟩) n n]) (by simp [results, Try.results68, go_sem, hc1]) rfl ⟨g, by omega, rfl, by
    simpa using (hby.keep (((((Keeps.refl _ _ _).set (p := ⟨w.heap.size + 1 + 1, 2, none⟩) (.inl (by simp)) _).set (p := ⟨w.heap.size + 1, 0, none⟩) (.inl (by simp <;> omega)) _).set (p := ⟨w.heap.size + 1, 1, none⟩) (.inl (by simp <;> omega)) _).set (p := ⟨w.heap.size + 1, 2, none⟩) (.inl (by simp <;> omega)) _)).up (A' := w.heap.size) (B' := w1.heap.size) (by simp; omega) (Nat.le_refl _),
    (((hb2.setCell (by simp; omega) _).setCell (by simp) _).setCell (by simp) _).setCell (by simp) _⟩
set_option maxHeartbeats 400000 in
theorem toPendS_any (a : Option Addr) (n c : Nat) (fs : List PP) (w : World) (A B : Nat) (hB : B ≤ w.heap.size) (h : PendsAt w A B a n c fs) (hn : n ≤ 1048576) (hall : ∀ j, j < n → (fs.getD j (ByteArray.empty, 0, [])).2.2.length ≤ 1048576) :
    Calls Try.prog 32 #[.slice a n c] w fun e w' => ∃ g, w.heap.size ≤ g ∧ e = .returned (.slice (some ⟨g, 0, none⟩) n n) ∧ PendsAt w' w.heap.size w'.heap.size (some ⟨g, 0, none⟩) n n fs ∧ Below w.heap.size w w' := by
  obtain ⟨hl, hnc, hc, hcell⟩ := h
  obtain ⟨i0, hi, hz0, hz1, hz2⟩ := info_parts info_Pend
  go_enter Try.func32, Try.ntmps32
  go_wp2_with (at_make; refine wpList_make_full _ rfl _ _ 30 rfl w.heap.size 77 i0 _ 3 Try.underlying30 hi hz0 hz1 .i64 .i64 n n n rfl rfl rfl rfl (by rw [hz2]; omega) (by unfold maxLen; omega) (Nat.le_refl _) ?_; intro w1 hown hgr)
  have hb1 : Below w.heap.size w w1 := (Below.refl _ _).grown hgr (Nat.le_refl _) (by simp)
  go_loopw [4] (fun i wr => ∃ k : Nat, k ≤ n ∧ i = .int .i64 k ∧ Below w.heap.size w wr ∧ ∃ xs, wr.ownsRow w.heap.size 77 3 (.slice (some ⟨w.heap.size, 0, none⟩) n n) n xs ∧ GotPends wr w.heap.size xs fs k) (fun i _ => n - (intOf i).toNat)
  case atStart => exact ⟨0, Nat.zero_le _, rfl, hb1, _, hown, fun j hj => absurd hj (Nat.not_lt_zero _)⟩
  case round =>
    clear hown hgr hb1
    obtain ⟨k, hk, rfl, hbel, xs, hown, hgot⟩ := hrel
    by_cases hlt : k < n
    · obtain ⟨b, off, rfl, hb, hcb⟩ := hcell (by omega)
      have e1 := (hcb k hlt).below hb (hbel.mono hB)
      have e2 := hall k hlt
      clear hcell hcb hall
      obtain ⟨f, hf⟩ : ∃ f, f = fs.getD k (ByteArray.empty, 0, []) := ⟨_, rfl⟩
      rw [← hf] at e1 e2
      have HF : Hid (f = fs.getD k (ByteArray.empty, 0, [])) := hf
      clear hf
      obtain ⟨p1, p2, p5, p6, pa, pn, pc, p3, p4⟩ := e1
      have hs := hbel.size
      have hlt0 := (hown.lt w.heap.size rfl).2
      go_wp2_with fail
      refine (toPend_any _ _ _ _ _ f.2.2 _ A B (by omega) p4 (by rw [← p4.1]; exact e2)).mono ?_
      rintro e w2 ⟨g, hg, rfl, hby, hb2⟩
      have hown2 := owns_below hown hb2
      have hgot2 := hgot.below hb2
      have hbel2 := hbel.trans (hb2.mono hs)
      have hxl := hown2.1
      have hst := GotPends.step hgot2 hlt hxl HF.out p2 p6 (hby.up (by omega) (Nat.le_refl _))
      have R := ((hown2.stored (k * 3) (.string f.1)).1.stored (k * 3 + 1) (.int .i64 f.2.1)).1.stored (k * 3 + 2) (.slice (some ⟨g, 0, none⟩) pn pn)
      have hbel3 := ((hbel2.setCell (p := ⟨w.heap.size, k * 3, none⟩) (Nat.le_refl _) (.string f.1)).setCell (p := ⟨w.heap.size, k * 3 + 1, none⟩) (Nat.le_refl _) (.int .i64 f.2.1)).setCell (p := ⟨w.heap.size, k * 3 + 2, none⟩) (Nat.le_refl _) (.slice (some ⟨g, 0, none⟩) pn pn)
      have hf1 := hown2.frozenAt (k * 3)
      have hf2 := hown2.frozenAt (k * 3 + 1)
      have hf3 := hown2.frozenAt (k * 3 + 2)
      obtain ⟨u, hu⟩ : ∃ u, w2.cell? ⟨w.heap.size, k * 3, none⟩ = some u := ⟨xs[k * 3]'(by omega), by rw [hown2.cellAt (k * 3) (by omega)]; exact List.getElem?_eq_getElem _⟩
      obtain ⟨u2, hu2⟩ : ∃ u, w2.cell? ⟨w.heap.size, k * 3 + 1, none⟩ = some u := ⟨xs[k * 3 + 1]'(by omega), by rw [hown2.cellAt (k * 3 + 1) (by omega)]; exact List.getElem?_eq_getElem _⟩
      obtain ⟨u3, hu3⟩ : ∃ u, w2.cell? ⟨w.heap.size, k * 3 + 2, none⟩ = some u := ⟨xs[k * 3 + 2]'(by omega), by rw [hown2.cellAt (k * 3 + 2) (by omega)]; exact List.getElem?_eq_getElem _⟩
      clear hown hown2 hgot hgot2 hbel hbel2 hby hb2
      go_wp2
      go_roundw
      case rel => exact ⟨k + 1, by omega, by go_num, hbel3, _, R.1, hst⟩
      case measure => simp [intOf]; omega
    · go_wp2
      go_ret
      exact ⟨w.heap.size, Nat.le_refl _, rfl, pends_of_got hown hl (by omega) (by rw [show n = k by omega]; exact hgot), hbel⟩
set_option maxHeartbeats 800000 in
theorem toDisk_any (a : Option Addr) (n c : Nat) (fs : List PF) (b : Option Addr) (m d : Nat) (ps : List PP) (cp fu : Int) (de : Bool) (w : World) (A B : Nat) (hB : B ≤ w.heap.size)
    (hF : FilesAt w A B a n c fs) (hP : PendsAt w A B b m d ps) (hn : n ≤ 1048576) (hm : m ≤ 1048576) (hall : ∀ j, j < n → (fs.getD j (ByteArray.empty, [])).2.length ≤ 1048576) (hall2 : ∀ j, j < m → (ps.getD j (ByteArray.empty, 0, [])).2.2.length ≤ 1048576) :
    Calls Try.prog 9 #[.agg #[.slice a n c, .slice b m d, .int .i64 cp, .int .i64 fu, .bool de]] w fun e w' => ∃ g h, e = .returned (.agg #[.slice (some ⟨g, 0, none⟩) n n, .slice (some ⟨h, 0, none⟩) m m, .int .i64 cp, .int .i64 fu, .bool de]) ∧ FilesAt w' w.heap.size w'.heap.size (some ⟨g, 0, none⟩) n n fs ∧ PendsAt w' w.heap.size w'.heap.size (some ⟨h, 0, none⟩) m m ps ∧ Below w.heap.size w w' := by
  go_enter Try.func9, Try.ntmps9
  go_wp2_with fail
  have hb0 : Below w.heap.size w (((w.alloc (.cells #[.slice a n c, .slice b m d, .int .i64 cp, .int .i64 fu, .bool de] 25)).alloc (.cells #[.slice none 0 0, .slice none 0 0, .int .i64 0, .int .i64 0, .bool false] 32)).alloc (.cells #[.slice none 0 0, .slice none 0 0, .int .i64 0, .int .i64 0, .bool false] 32)) := (((Below.refl _ _).alloc (Nat.le_refl _) _).alloc (by simp) _).alloc (by simp; omega) _
  refine (toFileS_any _ _ _ fs _ A B (by simp; omega) (hF.below (hb0.mono hB)) hn hall).mono ?_
  rintro e w1 ⟨g, hg, rfl, hFg, hb1⟩
  simp at hg
  have hz := hb1.size
  simp at hz
  have hz1 : w.heap.size < w1.heap.size := by omega
  have hz2 : w.heap.size + 1 < w1.heap.size := by omega
  have hz3 : w.heap.size + 1 + 1 < w1.heap.size := by omega
  obtain ⟨hc1, hf1⟩ := bcell hb1
  have hb2 := hb0.trans (hb1.mono (by simp; omega))
  clear hb0
  go_wp2_with fail
  have hb3 := hb2.setCell (p := ⟨w.heap.size + 1 + 1, 0, none⟩) (by simp; omega) (.slice (some ⟨g, 0, none⟩) n n)
  have hF2 : FilesAt (w1.setCell ⟨w.heap.size + 1 + 1, 0, none⟩ (.slice (some ⟨g, 0, none⟩) n n)) (w.heap.size + 3) w1.heap.size (some ⟨g, 0, none⟩) n n fs := (hFg.up (A' := w.heap.size + 3) (by simp) (Nat.le_refl _)).keep ((Keeps.refl _ _ _).set (.inl (by simp)) _)
  clear hFg
  refine (toPendS_any _ _ _ ps _ A B (by simp; omega) (hP.below (hb3.mono hB)) hm hall2).mono ?_
  rintro e w2 ⟨h, hh, rfl, hPh, hb4⟩
  simp at hh
  have hF3 := (hF2.below (w' := w2) (by simpa using hb4)).up (Nat.le_refl _) (by simpa using hb4.size)
  have hb5 := hb3.trans (hb4.mono (by simp; omega))
  have hy := hb4.size
  simp at hy
  have hy1 : w.heap.size < w2.heap.size := by omega
  have hy2 : w.heap.size + 1 < w2.heap.size := by omega
  have hy3 : w.heap.size + 1 + 1 < w2.heap.size := by omega
  obtain ⟨hc2, hf2⟩ := bcell hb4
  clear hb3 hb2 hF2 hb1
  go_wp2
  refine bodyPost_ret (v := .agg #[.slice (some ⟨g, 0, none⟩) n n, .slice (some ⟨h, 0, none⟩) m m, .int .i64 cp, .int .i64 fu, .bool de]) (by simp [results, Try.results9, go_sem, hc2, hc1, hz2]) rfl ⟨g, h, rfl, ?_, ?_, ?_⟩
  · refine FilesAt.up (hF3.keep ?_) (A' := w.heap.size) (by omega) (by simp)
    iterate 9 refine Keeps.set ?_ (.inl (by simp <;> omega)) _
    exact Keeps.refl _ _ _
  · refine PendsAt.up (A' := w.heap.size) (A := w1.heap.size) (B := w2.heap.size) ((hPh.up (by simp) (Nat.le_refl _)).keep ?_) (by omega) (by simp)
    iterate 9 refine Keeps.set ?_ (.inl (by simp <;> omega)) _
    exact Keeps.refl _ _ _
  · iterate 9 refine Below.setCell ?_ (by simp <;> omega) _
    exact hb5
end Go.Proofs.Ytmmdkjeoadlikaa
