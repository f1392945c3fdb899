import Derived.Test.YtcmhobbpeaeebaaPgM
namespace Go.Proofs.Ytcmhobbpeaeebaa
open Go.RowKit
set_option linter.unusedVariables false
set_option maxRecDepth 100000

theorem info_Kid : (Try.prog.info? 100).map (fun i => (i.zero, i.size, i.bytes)) = some (some (.agg #[.string ByteArray.empty, .int .i64 0]), 2, 24) := by kernel_rfl
theorem info_Ent : (Try.prog.info? 102).map (fun i => (i.zero, i.size, i.bytes)) = some (some (.agg #[.string ByteArray.empty, .string ByteArray.empty, .int .i64 0, .int .i64 0]), 4, 48) := by kernel_rfl

theorem set_twoP {xs ys : List Value} {n k : Nat} {p : PK} {cs : List PK} (hl : cs.length = n) (hk : k < n) (hp : p = cs.getD k dK) (hx : xs.length = n * 2) (h : ∀ j, j < k * 2 → xs[j]? = (rowsOf kidCells cs)[j]?) :
    ∀ j, j < (k + 1) * 2 → ((xs.set (k * 2) (.string p.1)).set (k * 2 + 1) (.int .i64 p.2))[j]? = (rowsOf kidCells cs)[j]? := by
  intro j hj
  have e0 := rowsOf_get kc2 dK cs k 0 (by omega) (by omega)
  have e1 := rowsOf_get kc2 dK cs k 1 (by omega) (by omega)
  by_cases h0 : j = k * 2
  · subst h0
    rw [List.getElem?_set_ne (by omega), List.getElem?_set_self (by omega), hp]
    simpa [kidCells] using e0.symm
  · by_cases h1 : j = k * 2 + 1
    · subst h1
      rw [List.getElem?_set_self (by simp; omega), hp]
      simpa [kidCells] using e1.symm
    · rw [List.getElem?_set_ne (by omega), List.getElem?_set_ne (by omega)]
      exact h j (by omega)
theorem set_four {xs : List Value} {n k : Nat} {p : PE} {cs : List PE} (hl : cs.length = n) (hk : k < n) (hp : p = cs.getD k dE) (hx : xs.length = n * 4) (h : ∀ j, j < k * 4 → xs[j]? = (rowsOf entCells cs)[j]?) :
    ∀ j, j < (k + 1) * 4 → ((((xs.set (k * 4) (.string p.1)).set (k * 4 + 1) (.string p.2.1)).set (k * 4 + 2) (.int .i64 p.2.2.1)).set (k * 4 + 3) (.int .i64 p.2.2.2))[j]? = (rowsOf entCells cs)[j]? := by
  intro j hj
  have e0 := rowsOf_get ec4 dE cs k 0 (by omega) (by omega)
  have e1 := rowsOf_get ec4 dE cs k 1 (by omega) (by omega)
  have e2 := rowsOf_get ec4 dE cs k 2 (by omega) (by omega)
  have e3 := rowsOf_get ec4 dE cs k 3 (by omega) (by omega)
  by_cases h0 : j = k * 4
  · subst h0
    rw [List.getElem?_set_ne (by omega), List.getElem?_set_ne (by omega), List.getElem?_set_ne (by omega), List.getElem?_set_self (by omega), hp]
    simpa [entCells] using e0.symm
  · by_cases h1 : j = k * 4 + 1
    · subst h1
      rw [List.getElem?_set_ne (by omega), List.getElem?_set_ne (by omega), List.getElem?_set_self (by simp; omega), hp]
      simpa [entCells] using e1.symm
    · by_cases h2 : j = k * 4 + 2
      · subst h2
        rw [List.getElem?_set_ne (by omega), List.getElem?_set_self (by simp; omega), hp]
        simpa [entCells] using e2.symm
      · by_cases h3 : j = k * 4 + 3
        · subst h3
          rw [List.getElem?_set_self (by simp; omega), hp]
          simpa [entCells] using e3.symm
        · rw [List.getElem?_set_ne (by omega), List.getElem?_set_ne (by omega), List.getElem?_set_ne (by omega), List.getElem?_set_ne (by omega)]
          exact h j (by omega)

set_option maxHeartbeats 400000 in
theorem toKid_any (k : PK) (w : World) :
    Calls Try.prog 91 #[.agg #[.string k.1, .int .i64 k.2]] w fun e w' => e = .returned (.agg #[.string k.1, .int .i64 k.2]) ∧ Below w.heap.size w w' := by
  go_enter Try.func91, Try.ntmps91
  go_wp2
  exact bodyPost_ret (v := .agg #[.string k.1, .int .i64 k.2]) (by simp [results, Try.results91, go_sem]) rfl ⟨rfl, (((Below.refl _ _).alloc (Nat.le_refl _) _).alloc (by simp) _).alloc (by simp; omega) _⟩
set_option maxHeartbeats 400000 in
theorem toEnt_any (k : PE) (w : World) :
    Calls Try.prog 92 #[.agg #[.string k.1, .string k.2.1, .int .i64 k.2.2.1, .int .i64 k.2.2.2]] w fun e w' => e = .returned (.agg #[.string k.1, .string k.2.1, .int .i64 k.2.2.1, .int .i64 k.2.2.2]) ∧ Below w.heap.size w w' := by
  go_enter Try.func92, Try.ntmps92
  go_wp2
  exact bodyPost_ret (v := .agg #[.string k.1, .string k.2.1, .int .i64 k.2.2.1, .int .i64 k.2.2.2]) (by simp [results, Try.results92, go_sem]) rfl ⟨rfl, (((Below.refl _ _).alloc (Nat.le_refl _) _).alloc (by simp) _).alloc (by simp; omega) _⟩

set_option maxHeartbeats 400000 in
theorem toKidS_any (a : Option Addr) (n c : Nat) (ks : List PK) (w : World) (A B : Nat) (hB : B ≤ w.heap.size) (h : KidsAt w A B a n c ks) (hn : n ≤ 1048576) :
    Calls Try.prog 57 #[.slice a n c] w fun e w' => ∃ g, w.heap.size ≤ g ∧ e = .returned (.slice (some ⟨g, 0, none⟩) n n) ∧ w'.ownsRow w.heap.size 100 2 (.slice (some ⟨g, 0, none⟩) n n) n (rowsOf kidCells ks) ∧ Below w.heap.size w w' := by
  have hl := h.1
  have HL : Hid (ks.length = n) := hl
  clear hl
  obtain ⟨i0, hi, hz0, hz1, hz2⟩ := info_parts info_Kid
  go_enter Try.func57, Try.ntmps57
  go_wp2_with (at_make; refine wpList_make_full _ rfl _ _ 25 rfl w.heap.size 100 i0 _ 2 Try.underlying25 hi hz0 hz1 .i64 .i64 n n n rfl rfl rfl rfl (by rw [hz2]; omega) (by unfold maxLen; omega) (Nat.le_refl _) ?_; intro w1 hown hgr)
  have hb1 : Below w.heap.size w w1 := (Below.refl _ _).grown hgr (Nat.le_refl _) (by simp)
  go_loopw [4] (fun i wr => ∃ k : Nat, k ≤ n ∧ i = .int .i64 k ∧ Below w.heap.size w wr ∧ ∃ xs, wr.ownsRow w.heap.size 100 2 (.slice (some ⟨w.heap.size, 0, none⟩) n n) n xs ∧ ∀ j, j < k * 2 → xs[j]? = (rowsOf kidCells ks)[j]?) (fun i _ => n - (intOf i).toNat)
  case atStart => exact ⟨0, Nat.zero_le _, rfl, hb1, _, hown, fun j hj => by omega⟩
  case round =>
    clear hown hgr hb1
    obtain ⟨k, hk, rfl, hbel, xs, hown, hgot⟩ := hrel
    have HG : Hid (∀ j, j < k * 2 → xs[j]? = (rowsOf kidCells ks)[j]?) := hgot
    clear hgot
    by_cases hlt : k < n
    · obtain ⟨b, off, rfl, hb, hfit, e0, e1⟩ := KidsAt.at (h.below (hbel.mono hB)) hlt
      have HS := fun p hp => set_twoP (ys := []) HL.out hlt (p := p) hp hown.1 HG.out
      obtain ⟨kd, hkd⟩ : ∃ kd, kd = ks.getD k dK := ⟨_, rfl⟩
      have HS2 : Hid _ := HS kd hkd
      rw [← hkd] at e0 e1 hfit
      clear hkd HS h
      have hs := hbel.size
      have hlt0 := (hown.lt w.heap.size rfl).2
      go_wp2_with fail
      refine (toKid_any kd wr).mono ?_
      rintro e w2 ⟨rfl, hb2⟩
      have hown2 := owns_below hown hb2
      have hbel2 := hbel.trans (hb2.mono hs)
      have hxl := hown2.1
      have R := (hown2.stored (k * 2) (.string kd.1)).1.stored (k * 2 + 1) (.int .i64 kd.2)
      have hbel3 := (hbel2.setCell (p := ⟨w.heap.size, k * 2, none⟩) (Nat.le_refl _) (.string kd.1)).setCell (p := ⟨w.heap.size, k * 2 + 1, none⟩) (Nat.le_refl _) (.int .i64 kd.2)
      have hf1 := hown2.frozenAt (k * 2)
      have hf2 := hown2.frozenAt (k * 2 + 1)
      obtain ⟨u, hu⟩ : ∃ u, w2.cell? ⟨w.heap.size, k * 2, none⟩ = some u := ⟨xs[k * 2]'(by omega), by rw [hown2.cellAt (k * 2) (by omega)]; exact List.getElem?_eq_getElem _⟩
      obtain ⟨u2, hu2⟩ : ∃ u, w2.cell? ⟨w.heap.size, k * 2 + 1, none⟩ = some u := ⟨xs[k * 2 + 1]'(by omega), by rw [hown2.cellAt (k * 2 + 1) (by omega)]; exact List.getElem?_eq_getElem _⟩
      clear hown hown2 hbel hbel2 hb2 e0 e1
      go_wp2
      go_roundw
      case rel => exact ⟨k + 1, by omega, by go_num, hbel3, _, R.1, HS2.out⟩
      case measure => simp [intOf]; omega
    · go_wp2
      go_ret
      have hkn : k = n := by omega
      refine ⟨w.heap.size, Nat.le_refl _, rfl, ?_, hbel⟩
      rw [show rowsOf kidCells ks = xs from ?_]
      · exact hown
      · refine (List.ext_getElem? fun j => ?_).symm
        by_cases hj : j < n * 2
        · exact HG.out j (by omega)
        · rw [List.getElem?_eq_none (by rw [hown.1]; omega), List.getElem?_eq_none (by rw [rowsOf_length kc2, HL.out]; omega)]
set_option maxHeartbeats 400000 in
theorem toEntS_any (a : Option Addr) (n c : Nat) (ks : List PE) (w : World) (A B : Nat) (hB : B ≤ w.heap.size) (h : EntsAt w A B a n c ks) (hn : n ≤ 1048576) :
    Calls Try.prog 58 #[.slice a n c] w fun e w' => ∃ g, w.heap.size ≤ g ∧ e = .returned (.slice (some ⟨g, 0, none⟩) n n) ∧ w'.ownsRow w.heap.size 102 4 (.slice (some ⟨g, 0, none⟩) n n) n (rowsOf entCells ks) ∧ Below w.heap.size w w' := by
  have hl := h.1
  have HL : Hid (ks.length = n) := hl
  clear hl
  obtain ⟨i0, hi, hz0, hz1, hz2⟩ := info_parts info_Ent
  go_enter Try.func58, Try.ntmps58
  go_wp2_with (at_make; refine wpList_make_full _ rfl _ _ 26 rfl w.heap.size 102 i0 _ 4 Try.underlying26 hi hz0 hz1 .i64 .i64 n n n rfl rfl rfl rfl (by rw [hz2]; omega) (by unfold maxLen; omega) (Nat.le_refl _) ?_; intro w1 hown hgr)
  have hb1 : Below w.heap.size w w1 := (Below.refl _ _).grown hgr (Nat.le_refl _) (by simp)
  go_loopw [4] (fun i wr => ∃ k : Nat, k ≤ n ∧ i = .int .i64 k ∧ Below w.heap.size w wr ∧ ∃ xs, wr.ownsRow w.heap.size 102 4 (.slice (some ⟨w.heap.size, 0, none⟩) n n) n xs ∧ ∀ j, j < k * 4 → xs[j]? = (rowsOf entCells ks)[j]?) (fun i _ => n - (intOf i).toNat)
  case atStart => exact ⟨0, Nat.zero_le _, rfl, hb1, _, hown, fun j hj => by omega⟩
  case round =>
    clear hown hgr hb1
    obtain ⟨k, hk, rfl, hbel, xs, hown, hgot⟩ := hrel
    have HG : Hid (∀ j, j < k * 4 → xs[j]? = (rowsOf entCells ks)[j]?) := hgot
    clear hgot
    by_cases hlt : k < n
    · obtain ⟨b, off, rfl, hb, hfit, e0, e1, e2, e3⟩ := EntsAt.at (h.below (hbel.mono hB)) hlt
      have HS := fun p hp => set_four HL.out hlt (p := p) hp hown.1 HG.out
      obtain ⟨kd, hkd⟩ : ∃ kd, kd = ks.getD k dE := ⟨_, rfl⟩
      have HS2 : Hid _ := HS kd hkd
      rw [← hkd] at e0 e1 e2 e3 hfit
      clear hkd HS h
      have hs := hbel.size
      have hlt0 := (hown.lt w.heap.size rfl).2
      go_wp2_with fail
      refine (toEnt_any kd wr).mono ?_
      rintro e w2 ⟨rfl, hb2⟩
      have hown2 := owns_below hown hb2
      have hbel2 := hbel.trans (hb2.mono hs)
      have hxl := hown2.1
      have R := (((hown2.stored (k * 4) (.string kd.1)).1.stored (k * 4 + 1) (.string kd.2.1)).1.stored (k * 4 + 2) (.int .i64 kd.2.2.1)).1.stored (k * 4 + 3) (.int .i64 kd.2.2.2)
      have hbel3 := (((hbel2.setCell (p := ⟨w.heap.size, k * 4, none⟩) (Nat.le_refl _) (.string kd.1)).setCell (p := ⟨w.heap.size, k * 4 + 1, none⟩) (Nat.le_refl _) (.string kd.2.1)).setCell (p := ⟨w.heap.size, k * 4 + 2, none⟩) (Nat.le_refl _) (.int .i64 kd.2.2.1)).setCell (p := ⟨w.heap.size, k * 4 + 3, none⟩) (Nat.le_refl _) (.int .i64 kd.2.2.2)
      have hf1 := hown2.frozenAt (k * 4)
      have hf2 := hown2.frozenAt (k * 4 + 1)
      have hf3 := hown2.frozenAt (k * 4 + 2)
      have hf4 := hown2.frozenAt (k * 4 + 3)
      obtain ⟨u, hu⟩ : ∃ u, w2.cell? ⟨w.heap.size, k * 4, none⟩ = some u := ⟨xs[k * 4]'(by omega), by rw [hown2.cellAt (k * 4) (by omega)]; exact List.getElem?_eq_getElem _⟩
      obtain ⟨u2, hu2⟩ : ∃ u, w2.cell? ⟨w.heap.size, k * 4 + 1, none⟩ = some u := ⟨xs[k * 4 + 1]'(by omega), by rw [hown2.cellAt (k * 4 + 1) (by omega)]; exact List.getElem?_eq_getElem _⟩
      obtain ⟨u3, hu3⟩ : ∃ u, w2.cell? ⟨w.heap.size, k * 4 + 2, none⟩ = some u := ⟨xs[k * 4 + 2]'(by omega), by rw [hown2.cellAt (k * 4 + 2) (by omega)]; exact List.getElem?_eq_getElem _⟩
      obtain ⟨u4, hu4⟩ : ∃ u, w2.cell? ⟨w.heap.size, k * 4 + 3, none⟩ = some u := ⟨xs[k * 4 + 3]'(by omega), by rw [hown2.cellAt (k * 4 + 3) (by omega)]; exact List.getElem?_eq_getElem _⟩
      clear hown hown2 hbel hbel2 hb2 e0 e1 e2 e3
      go_wp2
      go_roundw
      case rel => exact ⟨k + 1, by omega, by go_num, hbel3, _, R.1, HS2.out⟩
      case measure => simp [intOf]; omega
    · go_wp2
      go_ret
      have hkn : k = n := by omega
      refine ⟨w.heap.size, Nat.le_refl _, rfl, ?_, hbel⟩
      rw [show rowsOf entCells ks = xs from ?_]
      · exact hown
      · refine (List.ext_getElem? fun j => ?_).symm
        by_cases hj : j < n * 4
        · exact HG.out j (by omega)
        · rw [List.getElem?_eq_none (by rw [hown.1]; omega), List.getElem?_eq_none (by rw [rowsOf_length ec4, HL.out]; omega)]
theorem toMeta_any (id root count : Int) (w : World) :
    Calls Try.prog 56 #[.agg #[.int .i64 id, .int .i64 root, .int .i64 count]] w fun e w' => e = .returned (.agg #[.int .i64 id, .int .i64 root, .int .i64 count]) ∧ Below w.heap.size w w' := by
  go_enter Try.func56, Try.ntmps56
  go_wp2
  exact bodyPost_ret (v := .agg #[.int .i64 id, .int .i64 root, .int .i64 count]) (by simp [results, Try.results56, go_sem]) rfl ⟨rfl, (((Below.refl _ _).alloc (Nat.le_refl _) _).alloc (by simp) _).alloc (by simp; omega) _⟩
end Go.Proofs.Ytcmhobbpeaeebaa
