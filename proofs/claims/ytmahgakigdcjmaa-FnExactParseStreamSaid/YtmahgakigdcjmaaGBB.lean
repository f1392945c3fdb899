import Derived.Test.YtmahgakigdcjmaaGAA
import Derived.Test.YtmahgakigdcjmaaGAQ
import Derived.Test.YtmahgakigdcjmaaGBA
namespace Go.Proofs.Ytmahgakigdcjmaa
namespace New
open Go.RowKit
set_option linter.unusedVariables false
set_option maxRecDepth 100000

theorem newCursorR (g o c : Nat) (w : World) :
    Calls Try.prog 40 #[.slice (some ⟨g, o, none⟩) 128 c] w fun e w' => e = .returned (.pointer (some ⟨w.heap.size, 0, none⟩)) ∧ RCur w' w.heap.size g o c false 53 54 0 ∧ Below w.heap.size w w' := by
  go_enter Try.func40, Try.ntmps40
  go_wp2
  go_ret
  exact ⟨rfl, ⟨heap_alloc_new w _⟩, (Below.refl _ _).alloc (Nat.le_refl _) _⟩
/-- The page that a code may be the code of. -/
def decP (bs : List Int) : Pg := { readP bs 8 (rN bs 4 1) (rN bs 5 1).toNat with tx := rN bs 0 4 }
set_option maxHeartbeats 1600000 in
theorem decode_any (g o c : Nat) (bs : List Int) (w : World) (A B : Nat) (hB : B ≤ w.heap.size) (hb : BytesAt w A B (some ⟨g, o, none⟩) 128 c bs) :
    Calls Try.prog 55 #[.slice (some ⟨g, o, none⟩) 128 c] w fun e w' => ∃ vk ve, e = .returned (resVal (decide (newCodeOf (decP bs) = bs)) (decP bs) vk ve) ∧ w'.ownsRow w.heap.size 91 2 vk (decP bs).ks.length (rowsOf kidCells (decP bs).ks) ∧ w'.ownsRow w.heap.size 93 4 ve (decP bs).es.length (rowsOf entCells (decP bs).es) ∧ (vk = .slice none 0 0 ∨ ve = .slice none 0 0) ∧ Below w.heap.size w w' := by
  go_enter Try.func55, Try.ntmps55
  go_wp2_with fail
  have hb0 : Below w.heap.size w (w.alloc (.cells #[.bool false, .int .i64 0, .int .i64 0, .int .i64 0, .int .i64 0, .int .i64 0, .slice none 0 0, .slice none 0 0, .int .i64 0, .string ⟨#[]⟩] 58)) := (Below.refl _ _).alloc (Nat.le_refl _) _
  have HR0 := heap_alloc_new w (.cells #[.bool false, .int .i64 0, .int .i64 0, .int .i64 0, .int .i64 0, .int .i64 0, .slice none 0 0, .slice none 0 0, .int .i64 0, .string ⟨#[]⟩] 58)
  generalize w.alloc (.cells #[.bool false, .int .i64 0, .int .i64 0, .int .i64 0, .int .i64 0, .int .i64 0, .slice none 0 0, .slice none 0 0, .int .i64 0, .string ⟨#[]⟩] 58) = W0 at hb0 HR0 ⊢
  have hN0 := (Array.getElem?_eq_some_iff.1 HR0).1
  refine (newCursorR g o c W0).mono ?_
  rintro e w1 ⟨rfl, hC1, hb1⟩
  have HR1 := eb_call HR0 hb1
  have hbw1 := hb0.trans (hb1.mono hb0.size)
  have hby1 := hb.below (hbw1.mono hB)
  have hWC : w.heap.size < W0.heap.size := hN0
  have hC1l := (Array.getElem?_eq_some_iff.1 hC1.box).1
  have hA1 : RAt w1 W0.heap.size g o c A B bs 0 := ⟨hC1, hby1, by have := hb0.size; omega, Nat.le_trans hB hbw1.size, by omega⟩
  clear HR0 hb0 hb1 hC1 hby1 hN0
  generalize W0.heap.size = C at hWC hC1l hA1 ⊢
  obtain ⟨c0, c1, c2, c3, c4⟩ := hA1.cur.cells
  go_wp2_with fail
  have hkc := rN_one hA1 5
  have HDP : Hid (decP bs = { readP bs 8 (rN bs 4 1) (rN bs 5 1).toNat with tx := rN bs 0 4 }) := rfl
  have hft := readP_fit hA1 8 (rN bs 4 1) (rN bs 5 1).toNat
  have htx := i64_small (rN_small hA1 0 4 (by omega))
  obtain ⟨n, hnn⟩ : ∃ n : Nat, rN bs 5 1 = (n : Int) := ⟨(rN bs 5 1).toNat, by omega⟩
  have hn : n ≤ 255 := by omega
  go_region_held3 (fun w' => w'.cell? ⟨C, 4, none⟩ = some (.func (.func 54) #[.pointer (some ⟨C, 0, none⟩)] #[])) (go_keep)
    (first
      | (go_at_call 54; refine (Get C g o c A B bs 5 1 (by omega) w3 hA3).mono ?_; rintro e w4 ⟨rfl, hM4⟩; have hA4 : RAt w4 C g o c A B bs 6 := hA3.mv hM4 (by decide); have hF4 := hF3.trans hM4.2; obtain ⟨_, _, _, _, q4⟩ := hA4.cur.cells)
      | (go_at_call 54; refine (Get C g o c A B bs 4 1 (by omega) w2 hA2).mono ?_; rintro e w3 ⟨rfl, hM3⟩; have hA3 : RAt w3 C g o c A B bs 5 := hA2.mv hM3 (by decide); have hF3 := hF2.trans hM3.2; obtain ⟨_, _, _, _, q4⟩ := hA3.cur.cells)
      | (go_at_call 54; refine (Get C g o c A B bs 0 4 (by omega) w1.drew hA1.drew).mono ?_; rintro e w2 ⟨rfl, hM2⟩; have hA2 : RAt w2 C g o c A B bs 4 := hA1.drew.mv hM2 (by decide); have hF2 : Fr (fun x => x = C) w1 w2 := hM2.redraw.2; obtain ⟨_, _, _, _, q4⟩ := hA2.cur.cells))
  have HR4 := (hF4.block w.heap.size (by have := (Array.getElem?_eq_some_iff.1 HR1).1; omega) (by omega)).trans HR1
  have hbw4 := hbw1.trans (hF4.below hbw1.size (fun g e => by omega))
  rw [hnn, Int.toNat_natCast] at HDP hft
  clear hnn
  generalize rN bs 4 1 = kd at HDP hft ⊢
  generalize rN bs 0 4 = tx at HDP htx ⊢
  clear hM2 hM3 hM4 hA1 hA2 hA3 hF2 hF3 hF4 HR1 hbw1 c0 c1 c2 c3 c4 hkc
  obtain ⟨c0, c1, c2, c3, c4⟩ := hA4.cur.cells
  go_wp2_with fail
  refine (Get C g o c A B bs 6 2 (by omega) w4 hA4).mono ?_
  rintro e w5 ⟨rfl, hM5⟩
  have hA5 : RAt w5 C g o c A B bs 8 := hA4.mv hM5 (by decide)
  have HR5 := (hM5.2.block w.heap.size (by have := (Array.getElem?_eq_some_iff.1 HR4).1; omega) (by omega)).trans HR4
  have hbw5 := hbw4.trans (hM5.2.below hbw4.size (fun g e => by omega))
  clear hM5 hA4 HR4 hbw4 c0 c1 c2 c3 c4
  go_wp2_with fail
  refine (readBody_any C g o c A B bs 8 kd n hn w5 hA5).mono ?_
  rintro e w6 ⟨v6, rfl, ⟨vk, ve, rfl, hOk, hOe, hor⟩, hF6⟩
  have HR6 := (hF6.block w.heap.size (by have := (Array.getElem?_eq_some_iff.1 HR5).1; omega) (by omega)).trans HR5
  have hbw6 := hbw5.trans (hF6.below hbw5.size (fun g e => by omega))
  have hby6 := hb.below (hbw6.mono hB)
  obtain ⟨hfp, hfk, hfe⟩ := hft
  have HDP2 : Hid (decP bs = { readP bs 8 kd n with tx := tx }) := HDP
  have HW5 := (Array.getElem?_eq_some_iff.1 HR5).1
  clear HDP HR5 hA5 hF6 hb
  have hfp' : PgFit { readP bs 8 kd n with tx := tx } := ⟨hfp.kind, htx, hfp.id, hfp.root, hfp.count, hfp.next, hfp.data⟩
  generalize hq : readP bs 8 kd n = q at hOk hOe hfp hfk hfe hfp' HDP2 ⊢
  clear hq
  obtain ⟨vka, vkc, rfl⟩ := own_shape hOk
  obtain ⟨vea, vec, rfl⟩ := own_shape hOe
  go_wp2_with fail
  have hb7 : Below w6.heap.size w6 (w6.alloc (.cells #[.int .i64 q.kind, .int .i64 tx, .int .i64 q.id, .int .i64 q.root, .int .i64 q.count, .slice vka q.ks.length vkc, .slice vea q.es.length vec, .int .i64 q.next, .string q.data] 56)) := (Below.refl _ _).alloc (Nat.le_refl _) _
  generalize w6.alloc (.cells #[.int .i64 q.kind, .int .i64 tx, .int .i64 q.id, .int .i64 q.root, .int .i64 q.count, .slice vka q.ks.length vkc, .slice vea q.es.length vec, .int .i64 q.next, .string q.data] 56) = w7 at hb7 ⊢
  have hbw7 := hbw6.trans (hb7.mono hbw6.size)
  have hOk7 := owns_below hOk hb7
  have hOe7 := owns_below hOe hb7
  obtain ⟨_, _, e2, hK7⟩ := RowsAt.of_owns kc2 hOk7 rfl (getD_fit hfk dK)
  cases e2
  obtain ⟨_, _, e2, hE7⟩ := RowsAt.of_owns ec4 hOe7 rfl (getD_fit hfe dE)
  cases e2
  have hby7 := hby6.below (hb7.mono (Nat.le_trans hB hbw6.size))
  have HR7 := eb_call HR6 hb7
  refine (coded_any { q with tx := tx } hfp' vka vkc vea vec (some ⟨g, o, none⟩) c bs w7 _ _ A B (Nat.le_refl _) (Nat.le_trans hB hbw7.size) hK7 hE7 hby7).mono ?_
  rintro e w8 ⟨rfl, hb8⟩
  have hbw8 := hbw7.trans (hb8.mono hbw7.size)
  have HR8 := eb_call HR7 hb8
  have hOk8 := owns_below hOk7 hb8
  have hOe8 := owns_below hOe7 hb8
  have hs5 := hbw5.size
  have hW5 : w.heap.size < w5.heap.size := HW5
  clear HR6 HR7 hby6 hby7 hK7 hE7 hb7 hb8 hOk hOe hOk7 hOe7 hbw6 hbw7
  by_cases hd : newCodeOf { q with tx := tx } = bs
  · have hdec : decide (newCodeOf { q with tx := tx } = bs) = true := by simpa using hd
    rw [hdec]
    simp only [resVal, if_true]
    have HB10 := put10_box HR8 (.bool true) (.int .i64 q.kind) (.int .i64 tx) (.int .i64 q.id) (.int .i64 q.root) (.int .i64 q.count) (.slice vka q.ks.length vkc) (.slice vea q.es.length vec) (.int .i64 q.next) (.string q.data)
    have hb9 : Below w.heap.size w (put10 w8 w.heap.size (.bool true) (.int .i64 q.kind) (.int .i64 tx) (.int .i64 q.id) (.int .i64 q.root) (.int .i64 q.count) (.slice vka q.ks.length vkc) (.slice vea q.es.length vec) (.int .i64 q.next) (.string q.data)) := hbw8.trans ((put10_fr w8 w.heap.size (.bool true) (.int .i64 q.kind) (.int .i64 tx) (.int .i64 q.id) (.int .i64 q.root) (.int .i64 q.count) (.slice vka q.ks.length vkc) (.slice vea q.es.length vec) (.int .i64 q.next) (.string q.data)).below hbw8.size (fun g e => by omega))
    have f8 := box_frozenq HR8
    obtain ⟨d0, d1, d2, d3, d4, d5, d6, d7, d8, d9⟩ := box_ten HR8
    have hOk9 := owns_base (base' := w.heap.size) (owns_fr hOk8 (put10_fr w8 w.heap.size (.bool true) (.int .i64 q.kind) (.int .i64 tx) (.int .i64 q.id) (.int .i64 q.root) (.int .i64 q.count) (.slice vka q.ks.length vkc) (.slice vea q.es.length vec) (.int .i64 q.next) (.string q.data)) (fun g' e e' => by have := (hOk8.lt g' e).1; omega)) (by omega)
    have hOe9 := owns_base (base' := w.heap.size) (owns_fr hOe8 (put10_fr w8 w.heap.size (.bool true) (.int .i64 q.kind) (.int .i64 tx) (.int .i64 q.id) (.int .i64 q.root) (.int .i64 q.count) (.slice vka q.ks.length vkc) (.slice vea q.es.length vec) (.int .i64 q.next) (.string q.data)) (fun g' e e' => by have := (hOe8.lt g' e).1; omega)) (by omega)
    go_wp2
    show bodyPost _ _ _ _ _ (put10 w8 w.heap.size (.bool true) (.int .i64 q.kind) (.int .i64 tx) (.int .i64 q.id) (.int .i64 q.root) (.int .i64 q.count) (.slice vka q.ks.length vkc) (.slice vea q.es.length vec) (.int .i64 q.next) (.string q.data))
    clear d0 d1 d2 d3 d4 d5 d6 d7 d8 d9
    obtain ⟨d0, d1, d2, d3, d4, d5, d6, d7, d8, d9⟩ := box_ten HB10
    refine bodyPost_ret (v := .agg #[.bool true, .int .i64 q.kind, .int .i64 tx, .int .i64 q.id, .int .i64 q.root, .int .i64 q.count, .slice vka q.ks.length vkc, .slice vea q.es.length vec, .int .i64 q.next, .string q.data]) (by simp [results, Try.results55, go_sem, d0, d1, d2, d3, d4, d5, d6, d7, d8, d9]) rfl ?_
    rw [HDP2.out]
    exact ⟨.slice vka q.ks.length vkc, .slice vea q.es.length vec, by rw [hdec]; rfl, hOk9, hOe9, hor, hb9⟩
  · have hdec : decide (newCodeOf { q with tx := tx } = bs) = false := by simpa using hd
    rw [hdec]
    simp only [resVal, Bool.false_eq_true, if_false]
    have HB10 := put10_box HR8 (.bool false) (.int .i64 0) (.int .i64 0) (.int .i64 0) (.int .i64 0) (.int .i64 0) (.slice none 0 0) (.slice none 0 0) (.int .i64 0) (.string ⟨#[]⟩)
    have hb9 : Below w.heap.size w (put10 w8 w.heap.size (.bool false) (.int .i64 0) (.int .i64 0) (.int .i64 0) (.int .i64 0) (.int .i64 0) (.slice none 0 0) (.slice none 0 0) (.int .i64 0) (.string ⟨#[]⟩)) := hbw8.trans ((put10_fr w8 w.heap.size (.bool false) (.int .i64 0) (.int .i64 0) (.int .i64 0) (.int .i64 0) (.int .i64 0) (.slice none 0 0) (.slice none 0 0) (.int .i64 0) (.string ⟨#[]⟩)).below hbw8.size (fun g e => by omega))
    have f8 := box_frozenq HR8
    obtain ⟨d0, d1, d2, d3, d4, d5, d6, d7, d8, d9⟩ := box_ten HR8
    have hOk9 := owns_base (base' := w.heap.size) (owns_fr hOk8 (put10_fr w8 w.heap.size (.bool false) (.int .i64 0) (.int .i64 0) (.int .i64 0) (.int .i64 0) (.int .i64 0) (.slice none 0 0) (.slice none 0 0) (.int .i64 0) (.string ⟨#[]⟩)) (fun g' e e' => by have := (hOk8.lt g' e).1; omega)) (by omega)
    have hOe9 := owns_base (base' := w.heap.size) (owns_fr hOe8 (put10_fr w8 w.heap.size (.bool false) (.int .i64 0) (.int .i64 0) (.int .i64 0) (.int .i64 0) (.int .i64 0) (.slice none 0 0) (.slice none 0 0) (.int .i64 0) (.string ⟨#[]⟩)) (fun g' e e' => by have := (hOe8.lt g' e).1; omega)) (by omega)
    go_wp2
    show bodyPost _ _ _ _ _ (put10 w8 w.heap.size (.bool false) (.int .i64 0) (.int .i64 0) (.int .i64 0) (.int .i64 0) (.int .i64 0) (.slice none 0 0) (.slice none 0 0) (.int .i64 0) (.string ⟨#[]⟩))
    clear d0 d1 d2 d3 d4 d5 d6 d7 d8 d9
    obtain ⟨d0, d1, d2, d3, d4, d5, d6, d7, d8, d9⟩ := box_ten HB10
    refine bodyPost_ret (v := .agg #[.bool false, .int .i64 0, .int .i64 0, .int .i64 0, .int .i64 0, .int .i64 0, .slice none 0 0, .slice none 0 0, .int .i64 0, .string ⟨#[]⟩]) (by simp [results, Try.results55, go_sem, d0, d1, d2, d3, d4, d5, d6, d7, d8, d9]) rfl ?_
    rw [HDP2.out]
    exact ⟨.slice vka q.ks.length vkc, .slice vea q.es.length vec, by rw [hdec]; rfl, hOk9, hOe9, hor, hb9⟩
theorem decode_short (ba : Option Addr) (n bc : Nat) (hn : n ≠ 128) (w : World) :
    Calls Try.prog 55 #[.slice ba n bc] w fun e w' => e = .returned (.agg #[.bool false, .int .i64 0, .int .i64 0, .int .i64 0, .int .i64 0, .int .i64 0, .slice none 0 0, .slice none 0 0, .int .i64 0, .string ⟨#[]⟩]) ∧ Below w.heap.size w w' := by
  have hne : ((n : Int) != 128) = true := by simp; omega
  go_enter Try.func55, Try.ntmps55
  go_wp2
  exact bodyPost_ret (v := .agg #[.bool false, .int .i64 0, .int .i64 0, .int .i64 0, .int .i64 0, .int .i64 0, .slice none 0 0, .slice none 0 0, .int .i64 0, .string ⟨#[]⟩]) (by simp [results, Try.results55, go_sem]) rfl ⟨rfl, (Below.refl _ _).alloc (Nat.le_refl _) _⟩
end New
end Go.Proofs.Ytmahgakigdcjmaa
namespace Go.Proofs.Ytmahgakigdcjmaa
namespace New
open Go.RowKit
set_option linter.unusedVariables false
set_option maxRecDepth 100000

/-- What decoding answers. -/
def zPg : Pg := ⟨0, 0, 0, 0, 0, [], [], 0, ⟨#[]⟩⟩
def decR (bs : List Int) : Bool × Pg := if bs.length = 128 ∧ newCodeOf (decP bs) = bs then (true, decP bs) else (false, zPg)
theorem none_own (n c : Nat) (g : Nat) : (Value.slice none n c).ownBlock = some g → False := by intro h; simp [Value.ownBlock] at h
theorem dec_impl (a : Option Addr) (n c : Nat) (bs : List Int) (w : World) (A B : Nat) (hB : B ≤ w.heap.size) (hb : BytesAt w A B a n c bs) :
    Calls Try.prog 55 #[.slice a n c] w fun e w' => ∃ ka kc ea ec, e = .returned (.agg #[.bool (decR bs).1, .int .i64 (decR bs).2.kind, .int .i64 (decR bs).2.tx, .int .i64 (decR bs).2.id, .int .i64 (decR bs).2.root, .int .i64 (decR bs).2.count, .slice ka (decR bs).2.ks.length kc, .slice ea (decR bs).2.es.length ec, .int .i64 (decR bs).2.next, .string (decR bs).2.data]) ∧ w'.ownsRow w.heap.size 91 2 (.slice ka (decR bs).2.ks.length kc) (decR bs).2.ks.length (rowsOf kidCells (decR bs).2.ks) ∧ w'.ownsRow w.heap.size 93 4 (.slice ea (decR bs).2.es.length ec) (decR bs).2.es.length (rowsOf entCells (decR bs).2.es) ∧ (∀ g, (Value.slice ka (decR bs).2.ks.length kc).ownBlock = some g → (Value.slice ea (decR bs).2.es.length ec).ownBlock = some g → False) ∧ Below w.heap.size w w' := by
  have hl := hb.1
  by_cases hn : n = 128
  · subst hn
    obtain ⟨g, o, rfl, _, _⟩ := hb.2.2.2.2.1 (by omega)
    refine (decode_any g o c bs w A B hB hb).mono ?_
    rintro e w' ⟨vk, ve, rfl, hO, hP, hor, hbel⟩
    by_cases hc : newCodeOf (decP bs) = bs
    · have hd : decR bs = (true, decP bs) := if_pos ⟨hl, hc⟩
      rw [hd]
      obtain ⟨ka, kc, rfl⟩ := own_shape hO
      obtain ⟨ea, ec, rfl⟩ := own_shape hP
      refine ⟨ka, kc, ea, ec, by rw [decide_eq_true hc]; rfl, hO, hP, ?_, hbel⟩
      intro g h1 h2
      rcases hor with e | e
      · rw [e] at h1; exact none_own _ _ _ h1
      · rw [e] at h2; exact none_own _ _ _ h2
    · have hd : decR bs = (false, zPg) := if_neg (fun h => hc h.2)
      rw [hd]
      exact ⟨none, 0, none, 0, by rw [decide_eq_false hc]; rfl, World.ownsRow_nil _ _ _ _, World.ownsRow_nil _ _ _ _, fun g h1 _ => none_own _ _ _ h1, hbel⟩
  · refine (decode_short a n c hn w).mono ?_
    rintro e w' ⟨rfl, hbel⟩
    have hd : decR bs = (false, zPg) := if_neg (fun h => hn (hl.symm.trans h.1))
    rw [hd]
    exact ⟨none, 0, none, 0, rfl, World.ownsRow_nil _ _ _ _, World.ownsRow_nil _ _ _ _, fun g h1 _ => none_own _ _ _ h1, hbel⟩
end New
end Go.Proofs.Ytmahgakigdcjmaa
namespace Go.Proofs.Ytmahgakigdcjmaa
open Go.RowKit
set_option linter.unusedVariables false
set_option maxRecDepth 100000

set_option maxHeartbeats 400000 in
theorem clone_any (a : Option Addr) (n c : Nat) (bs : List Int) (w : World) (A B : Nat) (hB : B ≤ w.heap.size) (h : BytesAt w A B a n c bs) (hn : n ≤ 1048576) :
    Calls Try.prog 41 #[.slice a n c] w fun e w' => ∃ va vc, e = .returned (.slice va n vc) ∧ w'.ownsRow w.heap.size 5 1 (.slice va n vc) n (u8s bs) ∧ Below w.heap.size w w' := by
  have hq : ∀ (w : World) (a : Option Addr) (n c n' c' : Nat), (binOp .eql 22 (.slice a n c) (.slice none n' c')).run Try.prog w = .ok (.bool a.isNone) w := fun w a n c n' c' => Lib.run_eql_slice_nil w _ _ a n c n' c' Try.underlying22
  go_enter Try.func41, Try.ntmps41
  rcases a with _ | ad
  · have hl := h.1
    have hn0 : n = 0 := by
      by_cases h0 : n = 0
      · exact h0
      · obtain ⟨_, _, h1, _⟩ := h.2.2.2.2.1 (by omega); cases h1
    subst hn0
    have hc0 := h.2.2.2.2.2 rfl
    subst hc0
    have hbs : bs = [] := List.eq_nil_of_length_eq_zero hl
    subst hbs
    go_wp2
    go_ret
    exact ⟨none, 0, rfl, World.ownsRow_nil _ _ _ _, Below.refl _ _⟩
  · have hb2 : Below w.heap.size w (w.alloc (.cells #[] 5)) := (Below.refl _ _).alloc (Nat.le_refl _) _
    have hR2 : (w.alloc (.cells #[] 5)).ownsRow w.heap.size 5 1 (.slice (some ⟨w.heap.size, 0, none⟩) 0 0) 0 (u8s []) := by
      have := World.ownsRow_made w #[] (base := w.heap.size) (e := 5) (size := 1) 0 (by simp) (by unfold maxLen; omega) (by simp)
      simpa [u8s] using this
    have hh := h.below (hb2.mono hB)
    go_wp2_with (at_builtin; refine wpList_ab rfl _ _ rfl w.heap.size _ 0 [] rfl hR2 (some ad) n c bs _ _ rfl hh (by omega) hb2.size ?_; intro v3 w3 hO3' hg3; have hO3 : w3.ownsRow w.heap.size 5 1 v3 n (u8s bs) := (by rw [Nat.zero_add, List.nil_append] at hO3'; exact hO3'); obtain ⟨a3, c3, rfl⟩ := own_shape hO3; clear hO3')
    have hb3 := hb2.grown hg3 hb2.size (fun g e => (hR2.lt g e).1)
    go_ret
    exact ⟨a3, c3, rfl, hO3, hb3⟩
end Go.Proofs.Ytmahgakigdcjmaa
