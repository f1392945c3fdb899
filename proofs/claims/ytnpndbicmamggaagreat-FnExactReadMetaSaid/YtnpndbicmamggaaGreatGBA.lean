import Derived.Test.YtnpndbicmamggaaGreatGAO
import Derived.Test.YtnpndbicmamggaaGreatGAT
import Derived.Test.YtnpndbicmamggaaGreatGAZ
namespace Go.Proofs.YtnpndbicmamggaaGreat
namespace New
open Go.RowKit
set_option linter.unusedVariables false
set_option maxRecDepth 100000

theorem i64_small {x : Int} (h : 0 ≤ x ∧ x < 4294967296) : I64 x := by unfold I64; omega
theorem kidsR_fit {w : World} {C g o c A B : Nat} {bs : List Int} {k : Nat} (h : RAt w C g o c A B bs k) (j : Nat) : ∀ n, ∀ x ∈ (kidsR bs j n).1, kidFit x
  | 0 => by intro x hx; simp [kidsR] at hx
  | n + 1 => by
    intro x hx
    rw [kidsR] at hx
    rcases List.mem_append.1 hx with hx | hx
    · exact kidsR_fit h j n x hx
    · simp only [List.mem_singleton] at hx
      subst hx
      refine ⟨?_, i64_small (rN_small h _ _ (by decide))⟩
      show (kSep bs n (kidsR bs j n).2).size ≤ maxLen
      unfold kSep maxLen
      split
      · have := tStr_size h (kidsR bs j n).2; omega
      · decide
theorem z64 : I64 0 := by unfold I64; decide
theorem entFit_mk {s t : ByteArray} {x y : Int} (h1 : s.size ≤ maxLen) (h2 : t.size ≤ maxLen) (h3 : I64 x) (h4 : I64 y) : entFit (s, t, x, y) := ⟨h1, h2, h3, h4⟩
theorem entR_fit {w : World} {C g o c A B : Nat} {bs : List Int} {k : Nat} (h : RAt w C g o c A B bs k) (p : Nat) : entFit (entR bs p).1 := by
  have h1 := tStr_size h p
  have h2 := tStr_size h (adv (kEnd bs p) 1)
  have m1 : (tStr bs p).size ≤ maxLen := by unfold maxLen; omega
  have m2 : (tStr bs (adv (kEnd bs p) 1)).size ≤ maxLen := by unfold maxLen; omega
  have m0 : (⟨#[]⟩ : ByteArray).size ≤ maxLen := Nat.zero_le _
  have r1 := i64_small (rN_small h (adv (kEnd bs p) 1) (smallN false) (by decide))
  have r2 := i64_small (rN_small h (adv (adv (kEnd bs p) 1) (smallN false)) (smallN false) (by decide))
  have r3 : I64 ((tStr bs (adv (kEnd bs p) 1)).size : Int) := by unfold I64; omega
  unfold entR
  generalize rN bs (adv (kEnd bs p) 1) (smallN false) = x1 at r1 ⊢
  generalize rN bs (adv (adv (kEnd bs p) 1) (smallN false)) (smallN false) = x2 at r2 ⊢
  by_cases hz : rN bs (kEnd bs p) 1 = 0
  · rw [if_pos hz]
    exact entFit_mk m1 m2 z64 r3
  · rw [if_neg hz]
    exact entFit_mk m1 m0 r1 r2
theorem entsR_fit {w : World} {C g o c A B : Nat} {bs : List Int} {k : Nat} (h : RAt w C g o c A B bs k) (j : Nat) : ∀ n, ∀ x ∈ (entsR bs j n).1, entFit x
  | 0 => by intro x hx; simp [entsR] at hx
  | n + 1 => by
    intro x hx
    rw [entsR] at hx
    rcases List.mem_append.1 hx with hx | hx
    · exact entsR_fit h j n x hx
    · simp only [List.mem_singleton] at hx
      subst hx
      exact entR_fit h _
theorem s64 (x : Int) (h : 0 ≤ x ∧ x ≤ 4) : I64 x := by unfold I64; omega
theorem readP_fit {w : World} {C g o c A B : Nat} {bs : List Int} {k : Nat} (h : RAt w C g o c A B bs k) (j : Nat) (kind : Int) (n : Nat) : PgFit (readP bs j kind n) ∧ (∀ x ∈ (readP bs j kind n).ks, kidFit x) ∧ (∀ x ∈ (readP bs j kind n).es, entFit x) := by
  have e0 : (⟨#[]⟩ : ByteArray).size ≤ maxLen := Nat.zero_le _
  unfold readP
  split
  · exact ⟨⟨s64 1 (by decide), z64, i64_small (rN_small h _ _ (by decide)), i64_small (rN_small h _ _ (by decide)), i64_small (rN_small h _ _ (by decide)), z64, e0⟩, (by intro x hx; cases hx), (by intro x hx; cases hx)⟩
  · split
    · exact ⟨⟨s64 2 (by decide), z64, z64, z64, z64, z64, e0⟩, kidsR_fit h j n, (by intro x hx; cases hx)⟩
    · split
      · exact ⟨⟨s64 3 (by decide), z64, z64, z64, z64, z64, e0⟩, (by intro x hx; cases hx), entsR_fit h j n⟩
      · split
        · exact ⟨⟨s64 4 (by decide), z64, z64, z64, z64, i64_small (rN_small h _ _ (by decide)), by have := tStr_size h (adv j (smallN false)); unfold maxLen; show (oData bs j).size ≤ _; unfold oData; omega⟩, (by intro x hx; cases hx), (by intro x hx; cases hx)⟩
        · exact ⟨⟨s64 0 (by decide), z64, z64, z64, z64, z64, e0⟩, (by intro x hx; cases hx), (by intro x hx; cases hx)⟩
theorem getD_fit {α : Type} {P : α → Prop} {l : List α} (h : ∀ x ∈ l, P x) (d : α) : ∀ i, i < l.length → P (l.getD i d) := by
  intro i hi
  rw [show l.getD i d = l[i] by simp [List.getD, hi]]
  exact h _ (List.getElem_mem hi)
end New
end Go.Proofs.YtnpndbicmamggaaGreat
namespace Go.Proofs.YtnpndbicmamggaaGreat
namespace New
open Go.RowKit
set_option linter.unusedVariables false
set_option maxRecDepth 100000

theorem newCursorR (g o c : Nat) (w : World) :
    Calls Tryz.prog 52 #[.slice (some ⟨g, o, none⟩) 128 c] w fun e w' => e = .returned (.pointer (some ⟨w.heap.size, 0, none⟩)) ∧ RCur w' w.heap.size g o c false 69 70 0 ∧ Below w.heap.size w w' := by
  go_enter Tryz.func52, Tryz.ntmps52
  go_wp2
  go_ret
  exact ⟨rfl, ⟨heap_alloc_new w _⟩, (Below.refl _ _).alloc (Nat.le_refl _) _⟩
/-- The page that a code may be the code of. -/
def decP (bs : List Int) : Pg := { readP bs 8 (rN bs 4 1) (rN bs 5 1).toNat with tx := rN bs 0 4 }
set_option maxHeartbeats 1600000 in
theorem decode_any (g o c : Nat) (bs : List Int) (w : World) (A B : Nat) (hB : B ≤ w.heap.size) (hb : BytesAt w A B (some ⟨g, o, none⟩) 128 c bs) :
    Calls Tryz.prog 34 #[.slice (some ⟨g, o, none⟩) 128 c] w fun e w' => ∃ vk ve, e = .returned (resVal (decide (newCodeOf (decP bs) = bs)) (decP bs) vk ve) ∧ w'.ownsRow w.heap.size 119 2 vk (decP bs).ks.length (rowsOf kidCells (decP bs).ks) ∧ w'.ownsRow w.heap.size 121 4 ve (decP bs).es.length (rowsOf entCells (decP bs).es) ∧ (vk = .slice none 0 0 ∨ ve = .slice none 0 0) ∧ Below w.heap.size w w' := by
  go_enter Tryz.func34, Tryz.ntmps34
  go_wp2_with fail
  have hb0 : Below w.heap.size w (w.alloc (.cells #[.bool false, .int .i64 0, .int .i64 0, .int .i64 0, .int .i64 0, .int .i64 0, .slice none 0 0, .slice none 0 0, .int .i64 0, .string ⟨#[]⟩] 66)) := (Below.refl _ _).alloc (Nat.le_refl _) _
  have HR0 := heap_alloc_new w (.cells #[.bool false, .int .i64 0, .int .i64 0, .int .i64 0, .int .i64 0, .int .i64 0, .slice none 0 0, .slice none 0 0, .int .i64 0, .string ⟨#[]⟩] 66)
  generalize w.alloc (.cells #[.bool false, .int .i64 0, .int .i64 0, .int .i64 0, .int .i64 0, .int .i64 0, .slice none 0 0, .slice none 0 0, .int .i64 0, .string ⟨#[]⟩] 66) = W0 at hb0 HR0 ⊢
  have hN0 := (Array.getElem?_eq_some_iff.1 HR0).1
  refine (newCursorR g o c W0).mono ?_
  rintro e w1 ⟨rfl, hC1, hb1⟩
  have HR1 := eb_call HR0 hb1
  have hbw1 := hb0.trans (hb1.mono hb0.size)
  have hby1 := hb.below (hbw1.mono hB)
  have hWC : w.heap.size < W0.heap.size := hN0
  have hC1l := (Array.getElem?_eq_some_iff.1 hC1.box).1
  have hA1 : RAt w1 W0.heap.size g o c A B bs 0 := ⟨hC1, hby1, by have := hb0.size; omega, Nat.le_trans hB hbw1.size, by omega⟩
  clear HR0 hb0 hb1 hC1 hby1 hN0
  generalize W0.heap.size = C at hWC hC1l hA1 ⊢
  obtain ⟨c0, c1, c2, c3, c4⟩ := hA1.cur.cells
  go_wp2_with fail
  have hkc := rN_one hA1 5
  have HDP : Hid (decP bs = { readP bs 8 (rN bs 4 1) (rN bs 5 1).toNat with tx := rN bs 0 4 }) := rfl
  have hft := readP_fit hA1 8 (rN bs 4 1) (rN bs 5 1).toNat
  have htx := i64_small (rN_small hA1 0 4 (by omega))
  obtain ⟨n, hnn⟩ : ∃ n : Nat, rN bs 5 1 = (n : Int) := ⟨(rN bs 5 1).toNat, by omega⟩
  have hn : n ≤ 255 := by omega
  go_region_held3 (fun w' => w'.cell? ⟨C, 4, none⟩ = some (.func (.func 70) #[.pointer (some ⟨C, 0, none⟩)] #[])) (go_keep)
    (first
      | (go_at_call 70; refine (Get C g o c A B bs 5 1 (by omega) w3 hA3).mono ?_; rintro e w4 ⟨rfl, hM4⟩; have hA4 : RAt w4 C g o c A B bs 6 := hA3.mv hM4 (by decide); have hF4 := hF3.trans hM4.2; obtain ⟨_, _, _, _, q4⟩ := hA4.cur.cells)
      | (go_at_call 70; refine (Get C g o c A B bs 4 1 (by omega) w2 hA2).mono ?_; rintro e w3 ⟨rfl, hM3⟩; have hA3 : RAt w3 C g o c A B bs 5 := hA2.mv hM3 (by decide); have hF3 := hF2.trans hM3.2; obtain ⟨_, _, _, _, q4⟩ := hA3.cur.cells)
      | (go_at_call 70; refine (Get C g o c A B bs 0 4 (by omega) w1.drew hA1.drew).mono ?_; rintro e w2 ⟨rfl, hM2⟩; have hA2 : RAt w2 C g o c A B bs 4 := hA1.drew.mv hM2 (by decide); have hF2 : Fr (fun x => x = C) w1 w2 := hM2.redraw.2; obtain ⟨_, _, _, _, q4⟩ := hA2.cur.cells))
  have HR4 := (hF4.block w.heap.size (by have := (Array.getElem?_eq_some_iff.1 HR1).1; omega) (by omega)).trans HR1
  have hbw4 := hbw1.trans (hF4.below hbw1.size (fun g e => by omega))
  rw [hnn, Int.toNat_natCast] at HDP hft
  clear hnn
  generalize rN bs 4 1 = kd at HDP hft ⊢
  generalize rN bs 0 4 = tx at HDP htx ⊢
  clear hM2 hM3 hM4 hA1 hA2 hA3 hF2 hF3 hF4 HR1 hbw1 c0 c1 c2 c3 c4 hkc
  obtain ⟨c0, c1, c2, c3, c4⟩ := hA4.cur.cells
  go_wp2_with fail
  refine (Get C g o c A B bs 6 2 (by omega) w4 hA4).mono ?_
  rintro e w5 ⟨rfl, hM5⟩
  have hA5 : RAt w5 C g o c A B bs 8 := hA4.mv hM5 (by decide)
  have HR5 := (hM5.2.block w.heap.size (by have := (Array.getElem?_eq_some_iff.1 HR4).1; omega) (by omega)).trans HR4
  have hbw5 := hbw4.trans (hM5.2.below hbw4.size (fun g e => by omega))
  clear hM5 hA4 HR4 hbw4 c0 c1 c2 c3 c4
  go_wp2_with fail
  refine (readBody_any C g o c A B bs 8 kd n hn w5 hA5).mono ?_
  rintro e w6 ⟨v6, rfl, ⟨vk, ve, rfl, hOk, hOe, hor⟩, hF6⟩
  have HR6 := (hF6.block w.heap.size (by have := (Array.getElem?_eq_some_iff.1 HR5).1; omega) (by omega)).trans HR5
  have hbw6 := hbw5.trans (hF6.below hbw5.size (fun g e => by omega))
  have hby6 := hb.below (hbw6.mono hB)
  obtain ⟨hfp, hfk, hfe⟩ := hft
  have HDP2 : Hid (decP bs = { readP bs 8 kd n with tx := tx }) := HDP
  have HW5 := (Array.getElem?_eq_some_iff.1 HR5).1
  clear HDP HR5 hA5 hF6 hb
  have hfp' : PgFit { readP bs 8 kd n with tx := tx } := ⟨hfp.kind, htx, hfp.id, hfp.root, hfp.count, hfp.next, hfp.data⟩
  generalize hq : readP bs 8 kd n = q at hOk hOe hfp hfk hfe hfp' HDP2 ⊢
  clear hq
  obtain ⟨vka, vkc, rfl⟩ := own_shape hOk
  obtain ⟨vea, vec, rfl⟩ := own_shape hOe
  go_wp2_with fail
  have hb7 : Below w6.heap.size w6 (w6.alloc (.cells #[.int .i64 q.kind, .int .i64 tx, .int .i64 q.id, .int .i64 q.root, .int .i64 q.count, .slice vka q.ks.length vkc, .slice vea q.es.length vec, .int .i64 q.next, .string q.data] 54)) := (Below.refl _ _).alloc (Nat.le_refl _) _
  generalize w6.alloc (.cells #[.int .i64 q.kind, .int .i64 tx, .int .i64 q.id, .int .i64 q.root, .int .i64 q.count, .slice vka q.ks.length vkc, .slice vea q.es.length vec, .int .i64 q.next, .string q.data] 54) = w7 at hb7 ⊢
  have hbw7 := hbw6.trans (hb7.mono hbw6.size)
  have hOk7 := owns_below hOk hb7
  have hOe7 := owns_below hOe hb7
  obtain ⟨_, _, e2, hK7⟩ := RowsAt.of_owns kc2 hOk7 rfl (getD_fit hfk dK)
  cases e2
  obtain ⟨_, _, e2, hE7⟩ := RowsAt.of_owns ec4 hOe7 rfl (getD_fit hfe dE)
  cases e2
  have hby7 := hby6.below (hb7.mono (Nat.le_trans hB hbw6.size))
  have HR7 := eb_call HR6 hb7
  refine (coded_any { q with tx := tx } hfp' vka vkc vea vec (some ⟨g, o, none⟩) c bs w7 _ _ A B (Nat.le_refl _) (Nat.le_trans hB hbw7.size) hK7 hE7 hby7).mono ?_
  rintro e w8 ⟨rfl, hb8⟩
  have hbw8 := hbw7.trans (hb8.mono hbw7.size)
  have HR8 := eb_call HR7 hb8
  have hOk8 := owns_below hOk7 hb8
  have hOe8 := owns_below hOe7 hb8
  have hs5 := hbw5.size
  have hW5 : w.heap.size < w5.heap.size := HW5
  clear HR6 HR7 hby6 hby7 hK7 hE7 hb7 hb8 hOk hOe hOk7 hOe7 hbw6 hbw7
  by_cases hd : newCodeOf { q with tx := tx } = bs
  · have hdec : decide (newCodeOf { q with tx := tx } = bs) = true := by simpa using hd
    rw [hdec]
    simp only [resVal, if_true]
    have HB10 := put10_box HR8 (.bool true) (.int .i64 q.kind) (.int .i64 tx) (.int .i64 q.id) (.int .i64 q.root) (.int .i64 q.count) (.slice vka q.ks.length vkc) (.slice vea q.es.length vec) (.int .i64 q.next) (.string q.data)
    have hb9 : Below w.heap.size w (put10 w8 w.heap.size (.bool true) (.int .i64 q.kind) (.int .i64 tx) (.int .i64 q.id) (.int .i64 q.root) (.int .i64 q.count) (.slice vka q.ks.length vkc) (.slice vea q.es.length vec) (.int .i64 q.next) (.string q.data)) := hbw8.trans ((put10_fr w8 w.heap.size (.bool true) (.int .i64 q.kind) (.int .i64 tx) (.int .i64 q.id) (.int .i64 q.root) (.int .i64 q.count) (.slice vka q.ks.length vkc) (.slice vea q.es.length vec) (.int .i64 q.next) (.string q.data)).below hbw8.size (fun g e => by omega))
    have f8 := box_frozenq HR8
    obtain ⟨d0, d1, d2, d3, d4, d5, d6, d7, d8, d9⟩ := box_ten HR8
    have hOk9 := owns_base (base' := w.heap.size) (owns_fr hOk8 (put10_fr w8 w.heap.size (.bool true) (.int .i64 q.kind) (.int .i64 tx) (.int .i64 q.id) (.int .i64 q.root) (.int .i64 q.count) (.slice vka q.ks.length vkc) (.slice vea q.es.length vec) (.int .i64 q.next) (.string q.data)) (fun g' e e' => by have := (hOk8.lt g' e).1; omega)) (by omega)
    have hOe9 := owns_base (base' := w.heap.size) (owns_fr hOe8 (put10_fr w8 w.heap.size (.bool true) (.int .i64 q.kind) (.int .i64 tx) (.int .i64 q.id) (.int .i64 q.root) (.int .i64 q.count) (.slice vka q.ks.length vkc) (.slice vea q.es.length vec) (.int .i64 q.next) (.string q.data)) (fun g' e e' => by have := (hOe8.lt g' e).1; omega)) (by omega)
    go_wp2
    show bodyPost _ _ _ _ _ (put10 w8 w.heap.size (.bool true) (.int .i64 q.kind) (.int .i64 tx) (.int .i64 q.id) (.int .i64 q.root) (.int .i64 q.count) (.slice vka q.ks.length vkc) (.slice vea q.es.length vec) (.int .i64 q.next) (.string q.data))
    clear d0 d1 d2 d3 d4 d5 d6 d7 d8 d9
    obtain ⟨d0, d1, d2, d3, d4, d5, d6, d7, d8, d9⟩ := box_ten HB10
    refine bodyPost_ret (v := .agg #[.bool true, .int .i64 q.kind, .int .i64 tx, .int .i64 q.id, .int .i64 q.root, .int .i64 q.count, .slice vka q.ks.length vkc, .slice vea q.es.length vec, .int .i64 q.next, .string q.data]) (by simp [results, Tryz.results34, go_sem, d0, d1, d2, d3, d4, d5, d6, d7, d8, d9]) rfl ?_
    rw [HDP2.out]
    exact ⟨.slice vka q.ks.length vkc, .slice vea q.es.length vec, by rw [hdec]; rfl, hOk9, hOe9, hor, hb9⟩
  · have hdec : decide (newCodeOf { q with tx := tx } = bs) = false := by simpa using hd
    rw [hdec]
    simp only [resVal, Bool.false_eq_true, if_false]
    have HB10 := put10_box HR8 (.bool false) (.int .i64 0) (.int .i64 0) (.int .i64 0) (.int .i64 0) (.int .i64 0) (.slice none 0 0) (.slice none 0 0) (.int .i64 0) (.string ⟨#[]⟩)
    have hb9 : Below w.heap.size w (put10 w8 w.heap.size (.bool false) (.int .i64 0) (.int .i64 0) (.int .i64 0) (.int .i64 0) (.int .i64 0) (.slice none 0 0) (.slice none 0 0) (.int .i64 0) (.string ⟨#[]⟩)) := hbw8.trans ((put10_fr w8 w.heap.size (.bool false) (.int .i64 0) (.int .i64 0) (.int .i64 0) (.int .i64 0) (.int .i64 0) (.slice none 0 0) (.slice none 0 0) (.int .i64 0) (.string ⟨#[]⟩)).below hbw8.size (fun g e => by omega))
    have f8 := box_frozenq HR8
    obtain ⟨d0, d1, d2, d3, d4, d5, d6, d7, d8, d9⟩ := box_ten HR8
    have hOk9 := owns_base (base' := w.heap.size) (owns_fr hOk8 (put10_fr w8 w.heap.size (.bool false) (.int .i64 0) (.int .i64 0) (.int .i64 0) (.int .i64 0) (.int .i64 0) (.slice none 0 0) (.slice none 0 0) (.int .i64 0) (.string ⟨#[]⟩)) (fun g' e e' => by have := (hOk8.lt g' e).1; omega)) (by omega)
    have hOe9 := owns_base (base' := w.heap.size) (owns_fr hOe8 (put10_fr w8 w.heap.size (.bool false) (.int .i64 0) (.int .i64 0) (.int .i64 0) (.int .i64 0) (.int .i64 0) (.slice none 0 0) (.slice none 0 0) (.int .i64 0) (.string ⟨#[]⟩)) (fun g' e e' => by have := (hOe8.lt g' e).1; omega)) (by omega)
    go_wp2
    show bodyPost _ _ _ _ _ (put10 w8 w.heap.size (.bool false) (.int .i64 0) (.int .i64 0) (.int .i64 0) (.int .i64 0) (.int .i64 0) (.slice none 0 0) (.slice none 0 0) (.int .i64 0) (.string ⟨#[]⟩))
    clear d0 d1 d2 d3 d4 d5 d6 d7 d8 d9
    obtain ⟨d0, d1, d2, d3, d4, d5, d6, d7, d8, d9⟩ := box_ten HB10
    refine bodyPost_ret (v := .agg #[.bool false, .int .i64 0, .int .i64 0, .int .i64 0, .int .i64 0, .int .i64 0, .slice none 0 0, .slice none 0 0, .int .i64 0, .string ⟨#[]⟩]) (by simp [results, Tryz.results34, go_sem, d0, d1, d2, d3, d4, d5, d6, d7, d8, d9]) rfl ?_
    rw [HDP2.out]
    exact ⟨.slice vka q.ks.length vkc, .slice vea q.es.length vec, by rw [hdec]; rfl, hOk9, hOe9, hor, hb9⟩
theorem decode_short (ba : Option Addr) (n bc : Nat) (hn : n ≠ 128) (w : World) :
    Calls Tryz.prog 34 #[.slice ba n bc] w fun e w' => e = .returned (.agg #[.bool false, .int .i64 0, .int .i64 0, .int .i64 0, .int .i64 0, .int .i64 0, .slice none 0 0, .slice none 0 0, .int .i64 0, .string ⟨#[]⟩]) ∧ Below w.heap.size w w' := by
  have hne : ((n : Int) != 128) = true := by simp; omega
  go_enter Tryz.func34, Tryz.ntmps34
  go_wp2
  exact bodyPost_ret (v := .agg #[.bool false, .int .i64 0, .int .i64 0, .int .i64 0, .int .i64 0, .int .i64 0, .slice none 0 0, .slice none 0 0, .int .i64 0, .string ⟨#[]⟩]) (by simp [results, Tryz.results34, go_sem]) rfl ⟨rfl, (Below.refl _ _).alloc (Nat.le_refl _) _⟩
end New
end Go.Proofs.YtnpndbicmamggaaGreat
namespace Go.Proofs.YtnpndbicmamggaaGreat
namespace New
open Go.RowKit
set_option linter.unusedVariables false
set_option maxRecDepth 100000

/-- The page that the specification reads of a code, and whether its bytes sufficed. -/
def sDec (bs : List Int) : Pg × Bool := ({ (sRead ((bs.drop 8).take 112) (bs.getD 4 0) (bs.getD 5 0).toNat).1 with tx := numOf false (bs.take 4) }, (sRead ((bs.drop 8).take 112) (bs.getD 4 0) (bs.getD 5 0).toNat).2)
theorem code_form {p : Pg} (htx : inB 1 2000000000 p.tx = true) (hok : bodyOk 2 999 p = true) : ∃ post, newCodeOf p = numB false 4 p.tx ++ ([p.kind] ++ ([((p.ks.length + p.es.length : Nat) : Int)] ++ ([0, 0] ++ (bodyB false p ++ post)))) ∧ (newCodeOf p).length = 128 := by
  have hl := bodyB_len false hok
  refine ⟨List.replicate (120 - (newHead p).length) 0 ++ leB 4 (crcOf (padB 120 (newHead p))) ++ leB 4 p.tx, ?_, ?_⟩
  · rw [newCodeOf, if_pos ⟨htx, hok⟩]
    simp [sealN, padB, newHead, numB, List.append_assoc]
  · rw [newCodeOf, if_pos ⟨htx, hok⟩]
    exact seal_len _ (by simp [newHead, leB_len]; omega)
theorem dec_code {p : Pg} (htx : inB 1 2000000000 p.tx = true) (hok : bodyOk 2 999 p = true) : decP (newCodeOf p) = p ∧ sDec (newCodeOf p) = (p, true) := by
  obtain ⟨post, hf, hlen⟩ := code_form htx hok
  have hl := bodyB_len false hok
  have hkd := body_kind hok
  have hcn := body_count hok
  have ht : 1 ≤ p.tx ∧ p.tx ≤ 2000000000 := by simpa [inB] using htx
  have h0 : Has (newCodeOf p) 0 (numB false 4 p.tx ++ ([p.kind] ++ ([((p.ks.length + p.es.length : Nat) : Int)] ++ ([0, 0] ++ (bodyB false p ++ post))))) := ⟨[], by rw [List.drop_zero, List.append_nil]; exact hf⟩
  have g0 := Has.left h0
  have r0 := Has.right h0
  rw [numB_len] at r0
  have g1 := Has.left r0
  have r1 := Has.right r0
  have g2 := Has.left r1
  have r2 := Has.right r1
  have r3 := Has.right r2
  simp only [List.length_cons, List.length_nil, Nat.zero_add] at g1 g2 r3
  have r4 : Has (newCodeOf p) 8 (bodyB false p) := Has.left r3
  obtain ⟨a1, _⟩ := g0.num hlen (by omega) (by omega) (by have hp : (256 : Int) ^ 4 = 4294967296 := (by decide); omega)
  obtain ⟨a2, _⟩ := g1.byte hlen (by omega) hkd
  obtain ⟨a3, _⟩ := g2.byte hlen (by omega) (by omega)
  have hpg := page_has (by omega) (by omega) hok hlen 8 r4 (by omega)
  have hL2 : Has (((newCodeOf p).drop 8).take 112) 0 (bodyB false p) := by
    obtain ⟨q, hq⟩ := r4
    refine ⟨q.take (112 - (bodyB false p).length), ?_⟩
    rw [List.drop_zero, hq, List.take_append, List.take_of_length_le (by omega)]
  have hsp := spage_has (by omega) (by omega) hok hL2
  have b4 : (newCodeOf p).getD 4 0 = p.kind := by
    have q := g1.take
    have hd : (newCodeOf p).drop 4 = (newCodeOf p).getD 4 0 :: (newCodeOf p).drop 5 := by
      rw [List.drop_eq_getElem_cons (by omega)]; simp [List.getD, show 4 < (newCodeOf p).length by omega]
    rw [hd] at q
    simpa using q
  have b5 : (newCodeOf p).getD 5 0 = ((p.ks.length + p.es.length : Nat) : Int) := by
    have q := g2.take
    have hd : (newCodeOf p).drop 5 = (newCodeOf p).getD 5 0 :: (newCodeOf p).drop 6 := by
      rw [List.drop_eq_getElem_cons (by omega)]; simp [List.getD, show 5 < (newCodeOf p).length by omega]
    rw [hd] at q
    simpa using q
  have bt : numOf false ((newCodeOf p).take 4) = p.tx := by
    have q := g0.take
    rw [numB_len, List.drop_zero] at q
    rw [q, numOf_numB _ _ _ (by omega) (by have hp : (256 : Int) ^ 4 = 4294967296 := (by decide); omega)]
  have e5 : rN (newCodeOf p) 5 1 = ((p.ks.length + p.es.length : Nat) : Int) := a3
  have e4 : rN (newCodeOf p) 4 1 = p.kind := a2
  refine ⟨?_, ?_⟩
  · rw [decP, a1, e4, e5, Int.toNat_natCast, hpg]
  · rw [sDec, b4, b5, Int.toNat_natCast, hsp, bt]
/-- Both readings answer alike. -/
theorem dec_same {bs : List Int} (h : bs ≠ []) : (newCodeOf (decP bs) = bs → sDec bs = (decP bs, true)) ∧ ((sDec bs).2 = true → newCodeOf (sDec bs).1 = bs → decP bs = (sDec bs).1) := by
  have key : ∀ p : Pg, newCodeOf p = bs → decP bs = p ∧ sDec bs = (p, true) := by
    intro p hp
    by_cases hg : inB 1 2000000000 p.tx = true ∧ bodyOk 2 999 p = true
    · have := dec_code hg.1 hg.2
      rw [hp] at this; exact this
    · rw [newCodeOf, if_neg hg] at hp
      exact absurd hp.symm h
  refine ⟨fun h1 => (key _ h1).2, fun _ h2 => (key _ h2).1⟩
end New
end Go.Proofs.YtnpndbicmamggaaGreat
