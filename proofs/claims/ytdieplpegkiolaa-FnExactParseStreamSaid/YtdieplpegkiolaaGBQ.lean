import Derived.Test.YtdieplpegkiolaaRsq
namespace Go.Proofs.Ytdieplpegkiolaa
open Go.RowKit
set_option linter.unusedVariables false
set_option linter.unusedSimpArgs false
set_option maxRecDepth 100000

theorem want_bad {s : Rs} (h : s.ft ≠ 0) (g : Bool) (f : Int) : wantS g f s = s := by
  obtain ⟨a, ft⟩ := s
  simp only [wantS]
  rw [if_neg h]
theorem want_ok (g : Bool) (f : Int) (a : Nat) : wantS g f ⟨a, 0⟩ = ⟨a, cond g 0 f⟩ := by simp [wantS]
theorem take_bad {s : Rs} (h : s.ft ≠ 0) (n c : Nat) : takeS n c s = s := if_neg h
theorem wE2 (g : Bool) (f : Int) (a : Nat) : wantS g f ⟨a, 2⟩ = ⟨a, 2⟩ := by simp [wantS]
theorem tE2 (n c a : Nat) : takeS n c ⟨a, 2⟩ = ⟨a, 2⟩ := by simp [takeS]
theorem wE3 (g : Bool) (f : Int) (a : Nat) : wantS g f ⟨a, 3⟩ = ⟨a, 3⟩ := by simp [wantS]
theorem tE3 (n c a : Nat) : takeS n c ⟨a, 3⟩ = ⟨a, 3⟩ := by simp [takeS]
theorem wE4 (g : Bool) (f : Int) (a : Nat) : wantS g f ⟨a, 4⟩ = ⟨a, 4⟩ := by simp [wantS]
theorem tE4 (n c a : Nat) : takeS n c ⟨a, 4⟩ = ⟨a, 4⟩ := by simp [takeS]
theorem wE5 (g : Bool) (f : Int) (a : Nat) : wantS g f ⟨a, 5⟩ = ⟨a, 5⟩ := by simp [wantS]
theorem tE5 (n c a : Nat) : takeS n c ⟨a, 5⟩ = ⟨a, 5⟩ := by simp [takeS]
theorem take_ok {n c a : Nat} (h : a + c ≤ n) : takeS n c ⟨a, 0⟩ = ⟨a + c, 0⟩ := by simp [takeS, h]
theorem take_no {n c a : Nat} (h : ¬ a + c ≤ n) : takeS n c ⟨a, 0⟩ = ⟨a, 3⟩ := by simp [takeS, h]
theorem takeV_ok {bs : List Int} {c a : Nat} (h : a + c ≤ bs.length) : takeV bs c ⟨a, 0⟩ = (bs.drop a).take c := if_pos ⟨rfl, h⟩
theorem step_bad {s : Rs} (h : s.ft ≠ 0) (bs : List Int) (f : Int) (x : UInt8) : stepS bs f s x = s := by
  rw [stepS, take_bad h, want_bad h]
theorem mark_bad {s : Rs} (h : s.ft ≠ 0) (bs : List Int) (f : Int) : ∀ L, markS bs f L s = s
  | [] => rfl
  | x :: L => by
    show markS bs f L (stepS bs f s x) = s
    rw [step_bad h, mark_bad h bs f L]
theorem step_no {bs : List Int} {a : Nat} (h : bs.length ≤ a) (f : Int) (x : UInt8) : stepS bs f ⟨a, 0⟩ x = ⟨a, 3⟩ := by
  rw [stepS, take_no (by omega), wE3]
theorem step_ok {bs : List Int} {a : Nat} (h : ¬ bs.length ≤ a) (f : Int) (x : UInt8) : stepS bs f ⟨a, 0⟩ x = ⟨a + 1, if bs.getD a 0 = (x.toNat : Int) then 0 else f⟩ := by
  rw [stepS, take_ok (by omega), takeV_ok (by omega), want_ok]
  have e : ((bs.drop a).take 1).getD 0 0 = bs.getD a 0 := by
    simp [List.getD]
  rw [e]
  by_cases h2 : bs.getD a 0 = (x.toNat : Int)
  · simp [h2]
  · simp [h2]
theorem mark1 (bs : List Int) (f : Int) (x : UInt8) (s : Rs) : markS bs f [x] s = stepS bs f s x := rfl
theorem page_bad {s : Rs} (h : s.ft ≠ 0) (bs : List Int) (base tx l : Int) : (pageS bs base tx l s).st = s := by
  simp only [pageS, mark_bad h, take_bad h, want_bad h]
theorem loop_bad {s : Rs} (h : s.ft ≠ 0) (bs : List Int) (base tx : Int) : ∀ k l ps, (loopS bs base tx k l ps s).2 = s
  | 0, l, ps => rfl
  | k + 1, l, ps => by
    rw [loopS, page_bad h, if_neg h]
theorem end_bad {s : Rs} (h : s.ft ≠ 0) (bs : List Int) : endS bs s = s := by
  simp only [endS, mark_bad h, take_bad h, want_bad h]
theorem sub_take (bs : List Int) (a m k c : Nat) (h : k + c ≤ m) : ((((bs.drop a).take m).drop k).take c) = (bs.drop (a + k)).take c := by
  rw [List.drop_take, List.take_take, List.drop_drop, Nat.min_eq_left (by omega)]
theorem sub_take0 (bs : List Int) (a m c : Nat) (h : c ≤ m) : (((bs.drop a).take m).take c) = (bs.drop a).take c := by
  rw [List.take_take, Nat.min_eq_left h]
theorem end_same (bs : List Int) (a : Nat) : (endS bs ⟨a, 0⟩).ft = tailD bs a := by
  by_cases h1 : bs.length ≤ a
  · have e : tailD bs a = 3 := if_pos h1
    rw [e]
    simp only [endS, mark1, step_no h1]
    simp only [tE2, tE3, tE4, tE5, wE2, wE3, wE4, wE5]
  · have es := step_ok h1 4 69
    by_cases h2 : bs.getD a 0 = 69
    · have h2' : bs.getD a 0 = ((69 : UInt8).toNat : Int) := h2
      rw [if_pos h2'] at es
      by_cases h3 : bs.length < a + 5
      · rw [tailD_3 h1 h2 h3]
        simp only [endS, mark1, es]
        rw [take_no (by omega)]
        simp only [tE2, tE3, tE4, tE5, wE2, wE3, wE4, wE5]
      · rw [tailD_r h1 h2 h3]
        simp only [endS, mark1, es]
        rw [take_ok (by omega), takeV_ok (by omega), want_ok]
        by_cases h4 : leN ((bs.drop (a + 1)).take 4) = crcOf (bs.take a)
        · rw [if_neg (fun e => e h4)]
          have d4 : (leN ((bs.drop (a + 1)).take 4) == crcOf (bs.take a)) = true := by simpa using h4
          rw [d4]
          simp only [cond_true]
          rw [want_ok]
          by_cases h5 : a + 5 < bs.length
          · have d5 : (((a + 1 + 4 : Nat) : Int) == (bs.length : Int)) = false := by simp; omega
            rw [d5, if_pos h5]; rfl
          · have d5 : (((a + 1 + 4 : Nat) : Int) == (bs.length : Int)) = true := by simp; omega
            rw [d5, if_neg h5]; rfl
        · rw [if_pos h4]
          have d4 : (leN ((bs.drop (a + 1)).take 4) == crcOf (bs.take a)) = false := by simpa using h4
          rw [d4]
          simp only [cond_false]
          simp only [tE2, tE3, tE4, tE5, wE2, wE3, wE4, wE5]
    · have h2' : ¬ bs.getD a 0 = ((69 : UInt8).toNat : Int) := h2
      rw [if_neg h2'] at es
      rw [tailD_4 h1 h2]
      simp only [endS, mark1, es]
      simp only [tE2, tE3, tE4, tE5, wE2, wE3, wE4, wE5]
theorem frame_same {bs : List Int} {a : Nat} (base tx l : Int) (h1 : ¬ bs.length ≤ a) (h2 : bs.getD a 0 = 80) (h3 : ¬ bs.length < a + 137) :
    (pageS bs base tx l ⟨a, 0⟩).num = leN (((bs.drop (a + 1)).take 136).take 4) ∧ (pageS bs base tx l ⟨a, 0⟩).data = (((bs.drop (a + 1)).take 136).drop 4).take 128 ∧ (pageS bs base tx l ⟨a, 0⟩).st = ⟨a + 137, if frmD ((bs.drop (a + 1)).take 136) base tx l = true then 0 else 4⟩ := by
  have es := step_ok h1 4 80
  have h2' : bs.getD a 0 = ((80 : UInt8).toNat : Int) := h2
  rw [if_pos h2'] at es
  have e4 : ((bs.drop (a + 1)).take 132).take 4 = ((bs.drop (a + 1)).take 136).take 4 := by rw [sub_take0 _ _ _ _ (by omega), sub_take0 _ _ _ _ (by omega)]
  have ed : ((bs.drop (a + 1)).take 132).drop 4 = (((bs.drop (a + 1)).take 136).drop 4).take 128 := by
    rw [sub_take _ _ _ _ _ (by omega), List.drop_take, List.drop_drop]
  have ec : (bs.drop (a + 1)).take 132 = ((bs.drop (a + 1)).take 136).take 132 := (sub_take0 _ _ _ _ (by omega)).symm
  have ex : (bs.drop (a + 1 + 132)).take 4 = (((bs.drop (a + 1)).take 136).drop 132).take 4 := (sub_take _ _ _ _ _ (by omega)).symm
  simp only [pageS, mark1, es]
  rw [take_ok (by omega), takeV_ok (by omega), take_ok (by omega), takeV_ok (by omega)]
  rw [ed, ex, e4, ec]
  refine ⟨rfl, rfl, ?_⟩
  rw [want_ok]
  unfold frmD holdB
  obtain ⟨x, hx⟩ : ∃ x, x = (bs.drop (a + 1)).take 136 := ⟨_, rfl⟩
  rw [← hx]
  obtain ⟨D, hD⟩ : ∃ D, D = New.decR ((x.drop 4).take 128) := ⟨_, rfl⟩
  rw [← hD]
  have hin : inB (base + 1) tx D.2.tx = (decide (base < D.2.tx) && decide (D.2.tx ≤ tx)) := by
    unfold inB
    by_cases q1 : base < D.2.tx <;> by_cases q2 : D.2.tx ≤ tx <;> simp [q1, q2] <;> omega
  rw [hin]
  have hcs : (crcOf (x.take 132) == leN ((x.drop 132).take 4)) = (leN ((x.drop 132).take 4) == crcOf (x.take 132)) := Bool.eq_iff_iff.2 (by simp only [beq_iff_eq]; exact ⟨Eq.symm, Eq.symm⟩)
  rw [hcs]
  cases inB 2 999 (leN (x.take 4)) with
  | false => simp [wantS]
  | true =>
    cases decide (l < leN (x.take 4)) with
    | false => simp [wantS]
    | true =>
      rw [show (⟨a + 1 + 132 + 4, bif true && true then 0 else 4⟩ : Rs) = ⟨a + 137, 0⟩ from rfl, want_ok]
      cases (leN ((x.drop 132).take 4) == crcOf (x.take 132)) <;> cases D.1 <;> cases decide (D.2.kind ≠ 1) <;> cases decide (base < D.2.tx) <;> cases decide (D.2.tx ≤ tx) <;> rfl
theorem page_no3 {bs : List Int} {a : Nat} (base tx l : Int) (h1 : bs.length ≤ a) : (pageS bs base tx l ⟨a, 0⟩).st.ft = 3 := by
  simp only [pageS, mark1, step_no h1]
  simp only [tE2, tE3, tE4, tE5, wE2, wE3, wE4, wE5]
theorem page_no4 {bs : List Int} {a : Nat} (base tx l : Int) (h1 : ¬ bs.length ≤ a) (h2 : ¬ bs.getD a 0 = 80) : (pageS bs base tx l ⟨a, 0⟩).st.ft = 4 := by
  have es := step_ok h1 4 80
  have h2' : ¬ bs.getD a 0 = ((80 : UInt8).toNat : Int) := h2
  rw [if_neg h2'] at es
  simp only [pageS, mark1, es]
  simp only [tE2, tE3, tE4, tE5, wE2, wE3, wE4, wE5]
theorem page_no3' {bs : List Int} {a : Nat} (base tx l : Int) (h1 : ¬ bs.length ≤ a) (h2 : bs.getD a 0 = 80) (h3 : bs.length < a + 137) : (pageS bs base tx l ⟨a, 0⟩).st.ft = 3 := by
  have es := step_ok h1 4 80
  have h2' : bs.getD a 0 = ((80 : UInt8).toNat : Int) := h2
  rw [if_pos h2'] at es
  simp only [pageS, mark1, es]
  by_cases h4 : a + 1 + 132 ≤ bs.length
  · rw [take_ok h4, take_no (by omega)]
    simp only [tE2, tE3, tE4, tE5, wE2, wE3, wE4, wE5]
  · rw [take_no h4]
    simp only [tE2, tE3, tE4, tE5, wE2, wE3, wE4, wE5]
theorem loop_same (bs : List Int) (base tx : Int) : ∀ k a l ps, ((loopD bs base tx k a l ps).1 = 0 → loopS bs base tx k l ps ⟨a, 0⟩ = ((loopD bs base tx k a l ps).2.2, ⟨(loopD bs base tx k a l ps).2.1, 0⟩)) ∧ ((loopD bs base tx k a l ps).1 ≠ 0 → (loopS bs base tx k l ps ⟨a, 0⟩).2.ft = (loopD bs base tx k a l ps).1)
  | 0, a, l, ps => ⟨fun _ => rfl, fun h => absurd rfl h⟩
  | k + 1, a, l, ps => by
    rw [loopD, loopS]
    by_cases h1 : bs.length ≤ a
    · rw [if_pos h1, page_no3 base tx l h1, if_neg (by decide)]
      exact ⟨fun h => absurd h (show ¬ (3 : Int) = 0 by decide), fun _ => page_no3 base tx l h1⟩
    · rw [if_neg h1]
      by_cases h2 : bs.getD a 0 = 80
      · rw [if_neg (fun e => e h2)]
        by_cases h3 : bs.length < a + 137
        · rw [if_pos h3, page_no3' base tx l h1 h2 h3, if_neg (by decide)]
          exact ⟨fun h => absurd h (show ¬ (3 : Int) = 0 by decide), fun _ => page_no3' base tx l h1 h2 h3⟩
        · rw [if_neg h3]
          obtain ⟨q1, q2, q3⟩ := frame_same base tx l h1 h2 h3
          rw [q1, q2, q3]
          cases hf : frmD ((bs.drop (a + 1)).take 136) base tx l
          · rw [if_pos rfl]
            simp only [Bool.false_eq_true, if_false]
            exact ⟨fun h => absurd h (show ¬ (4 : Int) = 0 by decide), fun _ => rfl⟩
          · rw [if_neg (by decide)]
            simp only [if_true]
            exact loop_same bs base tx k _ _ _
      · rw [if_pos h2, page_no4 base tx l h1 h2, if_neg (by decide)]
        exact ⟨fun h => absurd h (show ¬ (4 : Int) = 0 by decide), fun _ => page_no4 base tx l h1 h2⟩
theorem markBK (bs : List Int) : markS bs 2 [66, 75] ⟨0, 0⟩ = stepS bs 2 (stepS bs 2 ⟨0, 0⟩ 66) 75 := rfl
theorem head_bad {bs : List Int} (h : (headS bs ⟨0, 0⟩).st.ft ≠ 0) (hn : ¬ 200000 < bs.length) : parI bs = zSR (headS bs ⟨0, 0⟩).st.ft := by
  have e1 : (pagesS bs ⟨0, 0⟩).2 = (headS bs ⟨0, 0⟩).st := loop_bad h _ _ _ _ _ _
  unfold parI
  rw [if_neg hn, e1, end_bad h, if_neg h]
theorem head_mark {bs : List Int} (h : (markS bs 2 [66, 75] ⟨0, 0⟩).ft ≠ 0) : (headS bs ⟨0, 0⟩).st = markS bs 2 [66, 75] ⟨0, 0⟩ := by
  simp only [headS, take_bad h, want_bad h]
theorem head_short {bs : List Int} (h : markS bs 2 [66, 75] ⟨0, 0⟩ = ⟨2, 0⟩) (hn : bs.length < 22) (hn2 : 2 ≤ bs.length) : (headS bs ⟨0, 0⟩).st.ft = 3 := by
  simp only [headS, h]
  by_cases a1 : 2 + 4 ≤ bs.length
  · rw [take_ok a1]
    by_cases a2 : 2 + 4 + 4 ≤ bs.length
    · rw [take_ok a2]
      by_cases a3 : 2 + 4 + 4 + 4 ≤ bs.length
      · rw [take_ok a3]
        by_cases a4 : 2 + 4 + 4 + 4 + 4 ≤ bs.length
        · rw [take_ok a4, take_no (by omega)]
          simp only [tE2, tE3, tE4, tE5, wE2, wE3, wE4, wE5]
        · rw [take_no a4]
          simp only [tE2, tE3, tE4, tE5, wE2, wE3, wE4, wE5]
      · rw [take_no a3]
        simp only [tE2, tE3, tE4, tE5, wE2, wE3, wE4, wE5]
    · rw [take_no a2]
      simp only [tE2, tE3, tE4, tE5, wE2, wE3, wE4, wE5]
  · rw [take_no a1]
    simp only [tE2, tE3, tE4, tE5, wE2, wE3, wE4, wE5]
theorem head_long {bs : List Int} (hby : ∀ x ∈ bs, 0 ≤ x ∧ x ≤ 255) (h : markS bs 2 [66, 75] ⟨0, 0⟩ = ⟨2, 0⟩) (hn : ¬ bs.length < 22) :
    (headS bs ⟨0, 0⟩).id = leN (((bs.drop 2).take 20).take 4) ∧ (headS bs ⟨0, 0⟩).tx = numD bs 4 ∧ (headS bs ⟨0, 0⟩).base = numD bs 8 ∧ (headS bs ⟨0, 0⟩).root = numD bs 12 ∧ (headS bs ⟨0, 0⟩).cnt = numD bs 16 ∧ (headS bs ⟨0, 0⟩).st = ⟨22, if hdOkD (leN (((bs.drop 2).take 20).take 4)) (numD bs 4) (numD bs 8) (numD bs 12) (numD bs 16) = true then 0 else 2⟩ := by
  have e0 : ((bs.drop 2).take 4) = ((bs.drop 2).take 20).take 4 := (sub_take0 _ _ _ _ (by omega)).symm
  have e1 : leN ((bs.drop (2 + 4)).take 4) = numD bs 4 := by rw [numD, sub_take _ _ _ _ _ (by omega)]
  have e2 : leN ((bs.drop (2 + 4 + 4)).take 4) = numD bs 8 := by rw [numD, sub_take _ _ _ _ _ (by omega)]
  have e3 : leN ((bs.drop (2 + 4 + 4 + 4)).take 4) = numD bs 12 := by rw [numD, sub_take _ _ _ _ _ (by omega)]
  have e4 : leN ((bs.drop (2 + 4 + 4 + 4 + 4)).take 4) = numD bs 16 := by rw [numD, sub_take _ _ _ _ _ (by omega)]
  have hb3 := le4_range hby (2 + 4 + 4)
  rw [e2] at hb3
  simp only [headS, h]
  rw [take_ok (by omega), take_ok (by omega), take_ok (by omega), take_ok (by omega), take_ok (by omega), takeV_ok (by omega), takeV_ok (by omega), takeV_ok (by omega), takeV_ok (by omega), takeV_ok (by omega), e0, e1, e2, e3, e4]
  refine ⟨rfl, rfl, rfl, rfl, rfl, ?_⟩
  rw [want_ok]
  obtain ⟨id, hid⟩ : ∃ x, x = leN (((bs.drop 2).take 20).take 4) := ⟨_, rfl⟩
  rw [← hid]
  generalize numD bs 4 = tx at *
  generalize numD bs 8 = ba at *
  generalize numD bs 12 = rt at *
  generalize numD bs 16 = ct at *
  have ho : hdOkD id tx ba rt ct = (hdOk1 id tx ba && hdOk2 rt ct) := by
    have i1 : inB 1 2000000000 id = (decide (1 ≤ id) && decide (id ≤ 2000000000)) := by
      unfold inB
      by_cases q1 : 1 ≤ id <;> by_cases q2 : id ≤ 2000000000 <;> simp [q1, q2]
    have i2 : inB 0 (tx - 1) ba = decide (ba < tx) := by
      unfold inB
      by_cases q : ba < tx <;> simp [q] <;> omega
    unfold hdOkD hdOk1 hdOk2
    rw [i1, i2]
    simp only [Bool.and_assoc]
  rw [ho]
  cases hdOk1 id tx ba with
  | false => simp [wantS]
  | true =>
    simp only [Bool.true_and, cond_true]
    rw [want_ok]
    cases hdOk2 rt ct <;> rfl
/-- Both readings are one. -/
theorem par_same {bs : List Int} (hby : ∀ x ∈ bs, 0 ≤ x ∧ x ≤ 255) : parI bs = parS bs := by
  by_cases hn : 200000 < bs.length
  · unfold parI parS
    rw [if_pos hn, if_pos hn]
  · have hS : parS bs = if (0 < bs.length ∧ bs.getD 0 0 ≠ 66) ∨ (1 < bs.length ∧ bs.getD 1 0 ≠ 75) then zSR 2 else if bs.length < 22 then zSR 3 else restD bs := if_neg hn
    rw [hS]
    by_cases h0 : bs.length ≤ 0
    · have em : markS bs 2 [66, 75] ⟨0, 0⟩ = ⟨0, 3⟩ := by rw [markBK, step_no h0, step_bad (by decide)]
      have eh := head_mark (bs := bs) (by rw [em]; decide)
      rw [em] at eh
      rw [head_bad (by rw [eh]; decide) hn, eh, if_neg (by omega), if_pos (by omega)]
    · have es := step_ok h0 2 66
      by_cases b0 : bs.getD 0 0 = 66
      · have b0' : bs.getD 0 0 = ((66 : UInt8).toNat : Int) := b0
        rw [if_pos b0'] at es
        by_cases h1 : bs.length ≤ 1
        · have em : markS bs 2 [66, 75] ⟨0, 0⟩ = ⟨1, 3⟩ := by rw [markBK, es, step_no h1]
          have eh := head_mark (bs := bs) (by rw [em]; decide)
          rw [em] at eh
          rw [head_bad (by rw [eh]; decide) hn, eh, if_neg (by rintro (q | q); exact q.2 b0; omega), if_pos (by omega)]
        · have es1 := step_ok h1 2 75
          by_cases b1 : bs.getD 1 0 = 75
          · have b1' : bs.getD 1 0 = ((75 : UInt8).toNat : Int) := b1
            rw [if_pos b1'] at es1
            have em : markS bs 2 [66, 75] ⟨0, 0⟩ = ⟨2, 0⟩ := by rw [markBK, es, es1]
            rw [if_neg (by rintro (q | q); exact q.2 b0; exact q.2 b1)]
            by_cases h22 : bs.length < 22
            · have eh := head_short em h22 (by omega)
              rw [if_pos h22, head_bad (by rw [eh]; decide) hn, eh]
            · rw [if_neg h22]
              obtain ⟨q1, q2, q3, q4, q5, q6⟩ := head_long hby em h22
              unfold restD
              cases hok : hdOkD (leN (((bs.drop 2).take 20).take 4)) (numD bs 4) (numD bs 8) (numD bs 12) (numD bs 16)
              · rw [hok] at q6
                simp only [Bool.false_eq_true, if_false] at q6
                rw [if_pos rfl, head_bad (by rw [q6]; decide) hn, q6]
              · rw [hok] at q6
                simp only [if_true] at q6
                rw [if_neg (by decide)]
                have ep : pagesS bs ⟨0, 0⟩ = loopS bs (numD bs 8) (numD bs 4) (numD bs 16).toNat 0 [] ⟨22, 0⟩ := by rw [pagesS, q2, q3, q5, q6]
                obtain ⟨l1, l2⟩ := loop_same bs (numD bs 8) (numD bs 4) (numD bs 16).toNat 22 0 []
                unfold parI
                rw [if_neg hn, ep, q1, q2, q3, q4]
                by_cases hz : (loopD bs (numD bs 8) (numD bs 4) (numD bs 16).toNat 22 0 []).1 = 0
                · by_cases ht : tailD bs (loopD bs (numD bs 8) (numD bs 4) (numD bs 16).toNat 22 0 []).2.1 = 0
                  · simp [l1 hz, end_same, hz, ht]
                  · simp [l1 hz, end_same, hz, ht]
                · have l3 := l2 hz
                  have hb : (loopS bs (numD bs 8) (numD bs 4) (numD bs 16).toNat 0 [] ⟨22, 0⟩).2.ft ≠ 0 := by rw [l3]; exact hz
                  rw [end_bad hb, if_neg hb, if_pos hz, l3]
          · have b1' : ¬ bs.getD 1 0 = ((75 : UInt8).toNat : Int) := b1
            rw [if_neg b1'] at es1
            have em : markS bs 2 [66, 75] ⟨0, 0⟩ = ⟨2, 2⟩ := by rw [markBK, es, es1]
            have eh := head_mark (bs := bs) (by rw [em]; decide)
            rw [em] at eh
            rw [head_bad (by rw [eh]; decide) hn, eh, if_pos (.inr ⟨by omega, b1⟩)]
      · have b0' : ¬ bs.getD 0 0 = ((66 : UInt8).toNat : Int) := b0
        rw [if_neg b0'] at es
        have em : markS bs 2 [66, 75] ⟨0, 0⟩ = ⟨1, 2⟩ := by rw [markBK, es, step_bad (by decide)]
        have eh := head_mark (bs := bs) (by rw [em]; decide)
        rw [em] at eh
        rw [head_bad (by rw [eh]; decide) hn, eh, if_pos (.inl ⟨by omega, b0⟩)]
theorem loopD_len (bs : List Int) (base tx : Int) : ∀ k a l ps, (loopD bs base tx k a l ps).2.2.length ≤ ps.length + k
  | 0, a, l, ps => Nat.le_refl _
  | k + 1, a, l, ps => by
    rw [loopD]
    split
    · exact Nat.le_add_right _ _
    · split
      · exact Nat.le_add_right _ _
      · split
        · exact Nat.le_add_right _ _
        · split
          · exact Nat.le_add_right _ _
          · have := loopD_len bs base tx k (a + 137) (leN (((bs.drop (a + 1)).take 136).take 4)) (ps ++ [(leN (((bs.drop (a + 1)).take 136).take 4), (((bs.drop (a + 1)).take 136).drop 4).take 128)])
            simp only [List.length_append, List.length_singleton] at this
            omega
theorem loopD_data (bs : List Int) (base tx : Int) : ∀ k a l ps, (∀ p ∈ ps, p.2.length ≤ 128) → ∀ p ∈ (loopD bs base tx k a l ps).2.2, p.2.length ≤ 128
  | 0, a, l, ps, h => h
  | k + 1, a, l, ps, h => by
    rw [loopD]
    split
    · exact h
    · split
      · exact h
      · split
        · exact h
        · split
          · exact h
          · refine loopD_data bs base tx k _ _ _ (fun p hp => ?_)
            rcases List.mem_append.1 hp with hp | hp
            · exact h p hp
            · rw [List.mem_singleton.1 hp]
              simp only [List.length_take]; omega
/-- The marks of the pages that are read are few. -/
theorem kN_bound : ∀ (ps : List PN) (k : Nat), (∀ p ∈ ps, p.2.length ≤ 128) → kN k ps ≤ k + 129 * ps.length
  | [], k, h => Nat.le_refl _
  | p :: ps, k, h => by
    have h1 := h p (List.mem_cons_self ..)
    have := kN_bound ps (k + 1 + p.2.length) (fun q hq => h q (List.mem_cons_of_mem _ hq))
    show kN (k + 1 + p.2.length) ps ≤ _
    simp only [List.length_cons]; omega
theorem parS_small (bs : List Int) : kN 1 (parS bs).pages ≤ 1099511627776 := by
  have hz : ∀ e, kN 1 (zSR e).pages ≤ 1099511627776 := fun e => by show 1 ≤ _; omega
  unfold parS
  split
  · exact hz _
  · split
    · exact hz _
    · split
      · exact hz _
      · unfold restD
        split
        · exact hz _
        · rename_i hok
          split
          · exact hz _
          · split
            · exact hz _
            · have hc : numD bs 16 ≤ 1000 := by
                have : hdOkD (leN (((bs.drop 2).take 20).take 4)) (numD bs 4) (numD bs 8) (numD bs 12) (numD bs 16) = true := by
                  cases h : hdOkD (leN (((bs.drop 2).take 20).take 4)) (numD bs 4) (numD bs 8) (numD bs 12) (numD bs 16)
                  · exact absurd h hok
                  · rfl
                unfold hdOkD at this
                simp only [Bool.and_eq_true, decide_eq_true_eq] at this
                exact this.2
              have h1 := kN_bound (loopD bs (numD bs 8) (numD bs 4) (numD bs 16).toNat 22 0 []).2.2 1 (loopD_data bs _ _ _ _ _ _ (fun p hp => by cases hp))
              have h2 := loopD_len bs (numD bs 8) (numD bs 4) (numD bs 16).toNat 22 0 []
              simp only [List.length_nil] at h2
              show kN 1 (loopD bs (numD bs 8) (numD bs 4) (numD bs 16).toNat 22 0 []).2.2 ≤ _
              omega
end Go.Proofs.Ytdieplpegkiolaa
namespace Go.Proofs.Ytdieplpegkiolaa
open Go.RowKit
set_option linter.unusedVariables false
set_option linter.unusedSimpArgs false
set_option maxRecDepth 100000

set_option maxHeartbeats 800000 in
theorem eqStream_same (id tx ba rt : Int) (a : Option Addr) (n c : Nat) (a2 : Option Addr) (c2 : Nat) (ps : List PN) (w : World) (A B A2 B2 : Nat) (hB : B ≤ w.heap.size) (hB2 : B2 ≤ w.heap.size) (h : NumsAt w A B a n c ps) (k : NumsAt w A2 B2 a2 n c2 ps) :
    Calls Try.prog 19 #[.agg #[.int .i64 id, .int .i64 tx, .int .i64 ba, .int .i64 rt, .slice a n c], .agg #[.int .i64 id, .int .i64 tx, .int .i64 ba, .int .i64 rt, .slice a2 n c2]] w fun e w' => e = .returned (.bool true) ∧ Below w.heap.size w w' := by
  have d1 : (id != id) = false := by simp
  have d2 : (tx != tx) = false := by simp
  have d3 : (ba != ba) = false := by simp
  have d4 : (rt != rt) = false := by simp
  have hb : Below w.heap.size w ((w.alloc (.cells #[.int .i64 id, .int .i64 tx, .int .i64 ba, .int .i64 rt, .slice a n c] 25)).alloc (.cells #[.int .i64 id, .int .i64 tx, .int .i64 ba, .int .i64 rt, .slice a2 n c2] 25)) := ((Below.refl _ _).alloc (Nat.le_refl _) _).alloc (by simp) _
  go_enter Try.func19, Try.ntmps19
  go_wp2_with fail
  refine (eqNumS_same a n c a2 c2 ps _ A B A2 B2 (Nat.le_trans hB hb.size) (Nat.le_trans hB2 hb.size) (h.below (hb.mono hB)) (k.below (hb.mono hB2))).mono ?_
  rintro e w1 ⟨rfl, hb1⟩
  have hbw := hb.trans (hb1.mono hb.size)
  clear hb hb1
  go_wp2_with fail
  go_ret
  exact ⟨rfl, hbw⟩
set_option maxHeartbeats 800000 in
theorem eqStreamRes_same (er id tx ba rt : Int) (a : Option Addr) (n c : Nat) (a2 : Option Addr) (c2 : Nat) (ps : List PN) (w : World) (A B A2 B2 : Nat) (hB : B ≤ w.heap.size) (hB2 : B2 ≤ w.heap.size) (h : NumsAt w A B a n c ps) (k : NumsAt w A2 B2 a2 n c2 ps) :
    Calls Try.prog 7 #[.agg #[.int .i64 er, .int .i64 id, .int .i64 tx, .int .i64 ba, .int .i64 rt, .slice a n c], .agg #[.int .i64 er, .int .i64 id, .int .i64 tx, .int .i64 ba, .int .i64 rt, .slice a2 n c2]] w fun e w' => e = .returned (.bool true) ∧ Below w.heap.size w w' := by
  have d1 : (er != er) = false := by simp
  have hb : Below w.heap.size w ((w.alloc (.cells #[.int .i64 er, .int .i64 id, .int .i64 tx, .int .i64 ba, .int .i64 rt, .slice a n c] 27)).alloc (.cells #[.int .i64 er, .int .i64 id, .int .i64 tx, .int .i64 ba, .int .i64 rt, .slice a2 n c2] 27)) := ((Below.refl _ _).alloc (Nat.le_refl _) _).alloc (by simp) _
  go_enter Try.func7, Try.ntmps7
  go_wp2_with fail
  refine (eqStream_same id tx ba rt a n c a2 c2 ps _ A B A2 B2 (Nat.le_trans hB hb.size) (Nat.le_trans hB2 hb.size) (h.below (hb.mono hB)) (k.below (hb.mono hB2))).mono ?_
  rintro e w1 ⟨rfl, hb1⟩
  have hbw := hb.trans (hb1.mono hb.size)
  clear hb hb1
  go_wp2_with fail
  go_ret
  exact ⟨rfl, hbw⟩
set_option maxHeartbeats 800000 in
theorem markStreamRes_any (er id tx ba rt : Int) (a : Option Addr) (n c k base : Nat) (ps : List PN) (xs vs : List Value) (w : World) (h : OwnN w base (.slice a n c) ps xs vs) (hn : n = ps.length) (hb : base ≤ w.heap.size) (hk : kN k ps ≤ 1099511627776) :
    Calls Try.prog 10 #[.agg #[.int .i64 er, .int .i64 id, .int .i64 tx, .int .i64 ba, .int .i64 rt, .slice a n c], .int .i64 k] w fun e w' => e = .returned (.int .i64 ((kN k ps : Nat) : Int)) ∧ ∃ ys, OwnN w' base (.slice a n c) (markN k ps) ys vs ∧ Fr (Blk (.slice a n c) vs) w w' := by
  have hb1 : Below w.heap.size w (w.alloc (.cells #[.int .i64 er, .int .i64 id, .int .i64 tx, .int .i64 ba, .int .i64 rt, .slice a n c] 27)) := (Below.refl _ _).alloc (Nat.le_refl _) _
  replace hn : Hid (n = ps.length) := hn
  go_enter Try.func10, Try.ntmps10
  go_wp2_with fail
  generalize w.alloc (.cells #[.int .i64 er, .int .i64 id, .int .i64 tx, .int .i64 ba, .int .i64 rt, .slice a n c] 27) = W1 at hb1 ⊢
  have h1 := h.below hb1
  have HC : Calls Try.prog 20 #[.agg #[.int .i64 id, .int .i64 tx, .int .i64 ba, .int .i64 rt, .slice a n c], .int .i64 k] W1 fun e w' => e = .returned (.int .i64 ((kN k ps : Nat) : Int)) ∧ ∃ ys, OwnN w' base (.slice a n c) (markN k ps) ys vs ∧ Fr (Blk (.slice a n c) vs) W1 w' := by
    have hb2 : Below W1.heap.size W1 (W1.alloc (.cells #[.int .i64 id, .int .i64 tx, .int .i64 ba, .int .i64 rt, .slice a n c] 25)) := (Below.refl _ _).alloc (Nat.le_refl _) _
    go_enter Try.func20, Try.ntmps20
    go_wp2_with fail
    generalize W1.alloc (.cells #[.int .i64 id, .int .i64 tx, .int .i64 ba, .int .i64 rt, .slice a n c] 25) = W2 at hb2 ⊢
    refine (markNumPageS_any a n c k base ps xs vs W2 (h1.below hb2) hn.out (Nat.le_trans hb (Nat.le_trans hb1.size hb2.size)) hk).mono ?_
    rintro e w3 ⟨rfl, ys, hO, hF⟩
    have HR : Hid (OwnN w3 base (.slice a n c) (markN k ps) ys vs ∧ Fr (Blk (.slice a n c) vs) W1 w3) := ⟨hO, (Fr.of_below hb2).trans hF⟩
    clear hO hF hb2 h1 h
    go_wp2_with fail
    go_ret
    exact ⟨rfl, ys, HR.out.1, HR.out.2⟩
  refine HC.mono ?_
  rintro e w3 ⟨rfl, ys, hO, hF⟩
  have HR : Hid (OwnN w3 base (.slice a n c) (markN k ps) ys vs ∧ Fr (Blk (.slice a n c) vs) w w3) := ⟨hO, (Fr.of_below hb1).trans hF⟩
  clear hO hF hb1 h1 h HC
  go_wp2_with fail
  go_ret
  exact ⟨rfl, ys, HR.out.1, HR.out.2⟩
set_option maxHeartbeats 800000 in
theorem heldStreamRes_any (er id tx ba rt : Int) (a : Option Addr) (n c k A B : Nat) (ps : List PN) (w : World) (h : NumsAt w A B a n c (markN k ps)) (hB : B ≤ w.heap.size) (hk : kN k ps ≤ 1099511627776) :
    Calls Try.prog 11 #[.agg #[.int .i64 er, .int .i64 id, .int .i64 tx, .int .i64 ba, .int .i64 rt, .slice a n c], .int .i64 k] w fun e w' => e = .returned (.int .i64 ((kN k ps : Nat) : Int)) ∧ Below w.heap.size w w' := by
  have hb1 : Below w.heap.size w (w.alloc (.cells #[.int .i64 er, .int .i64 id, .int .i64 tx, .int .i64 ba, .int .i64 rt, .slice a n c] 27)) := (Below.refl _ _).alloc (Nat.le_refl _) _
  have hd : decide (((kN k ps : Nat) : Int) < 0) = false := by simp
  go_enter Try.func11, Try.ntmps11
  go_wp2_with fail
  generalize w.alloc (.cells #[.int .i64 er, .int .i64 id, .int .i64 tx, .int .i64 ba, .int .i64 rt, .slice a n c] 27) = W1 at hb1 ⊢
  have h1 := h.below (hb1.mono hB)
  have HC : Calls Try.prog 21 #[.agg #[.int .i64 id, .int .i64 tx, .int .i64 ba, .int .i64 rt, .slice a n c], .int .i64 k] W1 fun e w' => e = .returned (.int .i64 ((kN k ps : Nat) : Int)) ∧ Below W1.heap.size W1 w' := by
    have hb2 : Below W1.heap.size W1 (W1.alloc (.cells #[.int .i64 id, .int .i64 tx, .int .i64 ba, .int .i64 rt, .slice a n c] 25)) := (Below.refl _ _).alloc (Nat.le_refl _) _
    go_enter Try.func21, Try.ntmps21
    go_wp2_with fail
    generalize W1.alloc (.cells #[.int .i64 id, .int .i64 tx, .int .i64 ba, .int .i64 rt, .slice a n c] 25) = W2 at hb2 ⊢
    refine (heldNumPageS_any a n c k A B ps W2 (h1.below (hb2.mono (Nat.le_trans hB hb1.size))) (Nat.le_trans hB (Nat.le_trans hb1.size hb2.size)) hk).mono ?_
    rintro e w3 ⟨rfl, hb3⟩
    have HR := hb2.trans (hb3.mono hb2.size)
    clear hb3 hb2 h1 h
    go_wp2_with fail
    go_ret
    exact ⟨rfl, HR⟩
  refine HC.mono ?_
  rintro e w3 ⟨rfl, hb3⟩
  have HR := hb1.trans (hb3.mono hb1.size)
  clear hb3 hb1 h1 h HC
  go_wp2_with fail
  go_ret
  exact ⟨rfl, HR⟩
end Go.Proofs.Ytdieplpegkiolaa
namespace Go.Proofs.Ytdieplpegkiolaa
open Go.RowKit
set_option linter.unusedVariables false
set_option linter.unusedSimpArgs false
set_option maxRecDepth 100000

theorem specParse_any (g n c A B : Nat) (bs : List Int) (w : World) (hB : B ≤ w.heap.size) (hb : BytesAt w A B (some ⟨g, 0, none⟩) n c bs) :
    Calls Try.prog 4 #[.slice (some ⟨g, 0, none⟩) n c] w fun e w' => SRAns w (parS bs) e w' := by
  by_cases h1 : 200000 < n
  · exact specParse_big g 0 n c bs w hb.1 (Nat.le_trans hb.2.1 hb.2.2.1) h1
  · by_cases h2 : n < 22
    · exact specParse_short g 0 n c A B bs w hB hb h2
    · exact specParse_long g 0 n c A B bs w hB hb (by omega) (by omega)
theorem rowBytes {w : World} {base g n : Nat} {bs : List Int} (h : w.ownsRow base 5 1 (.slice (some ⟨g, 0, none⟩) n n) n (u8s bs)) (hl : bs.length = n) (hb : ∀ x ∈ bs, 0 ≤ x ∧ x ≤ 255) : BytesAt w base w.heap.size (some ⟨g, 0, none⟩) n n bs := by
  subst hl
  obtain ⟨a, n, c, e, h2⟩ := bytesAt_of_own h hb
  simp only [Value.slice.injEq] at e
  obtain ⟨rfl, rfl, rfl⟩ := e
  exact h2
theorem OwnN.nums {w : World} {base : Nat} {a : Option Addr} {c : Nat} {ps : List PN} {xs vs : List Value} (h : OwnN w base (.slice a ps.length c) ps xs vs) : NumsAt w base w.heap.size a ps.length c ps := by
  obtain ⟨a', n', c', e, hn, h2⟩ := h.files
  simp only [Value.slice.injEq] at e
  obtain ⟨rfl, rfl, rfl⟩ := e
  exact h2
set_option maxHeartbeats 8000000 in
theorem law_ParseStream (a : Option Addr) (n c : Nat) (bs : List Int) (w : World) (h : BytesAt w 0 w.heap.size a n c bs) :
    Calls Try.prog 3 #[.slice a n c] w fun e w' => e = .returned (.bool true) ∧ Below w.heap.size w w' := by
  have hcm := h.2.2.1
  have hnc := h.2.1
  have hbb := h.2.2.2.1
  have HL : Hid (bs.length = n) := h.1
  unfold maxLen at hcm
  by_cases hn : 1048576 < n
  · have hd : decide ((1048576 : Int) < (n : Int)) = true := by simp; omega
    go_enter Try.func3, Try.ntmps3
    go_wp2_with fail
    go_ret
    exact ⟨rfl, Below.refl _ _⟩
  have hd : decide ((1048576 : Int) < (n : Int)) = false := by simp; omega
  obtain ⟨r, hr⟩ : ∃ r, r = parS bs := ⟨_, rfl⟩
  have HKS : Hid (kN 1 r.pages ≤ 1099511627776) := by rw [hr]; exact parS_small bs
  have HH : Hid (∀ W, Below w.heap.size w W → BytesAt W 0 w.heap.size a n c bs) := fun W hW => h.below hW
  have HBB : Hid (∀ x ∈ bs, 0 ≤ x ∧ x ≤ 255) := hbb
  have HSP : Hid (∀ (g c A B : Nat) (W : World), B ≤ W.heap.size → BytesAt W A B (some ⟨g, 0, none⟩) n c bs → Calls Try.prog 4 #[.slice (some ⟨g, 0, none⟩) n c] W fun e w' => SRAns W r e w') := fun g c A B W hB hb => by rw [hr]; exact specParse_any g n c A B bs W hB hb
  have HIM : Hid (∀ (g c A B : Nat) (W : World), B ≤ W.heap.size → BytesAt W A B (some ⟨g, 0, none⟩) n c bs → Calls Try.prog 6 #[.slice (some ⟨g, 0, none⟩) n c] W fun e w' => SRAns W r e w') := fun g c A B W hB hb => by rw [hr, ← par_same HBB.out]; exact implParse_any g 0 n c A B bs W hB hb
  clear hr hbb h
  obtain ⟨er, id, tx, ba, rt, ps⟩ := r
  simp only at HKS
  go_enter Try.func3, Try.ntmps3
  go_wp2_with fail
  refine (toByteS_ownC a n c bs w 0 w.heap.size (Nat.le_refl _) (HH.out w (Below.refl _ _)) (by omega)).mono ?_
  rintro e w1 ⟨g1, rfl, hO1, hb1⟩
  go_wp2_with fail
  refine (HSP.out g1 n _ _ w1 (Nat.le_refl _) (rowBytes hO1 HL.out HBB.out)).mono ?_
  rintro e w2 ⟨va, vc, xs, vs, rfl, hS2, hb2⟩
  simp only [SR.cells] at hS2 ⊢
  have b2 : Below w.heap.size w w2 := hb1.trans (hb2.mono hb1.size)
  have hb3 : Below w2.heap.size w2 (w2.alloc (.cells #[.int .i64 er, .int .i64 id, .int .i64 tx, .int .i64 ba, .int .i64 rt, .slice va ps.length vc] 27)) := (Below.refl _ _).alloc (Nat.le_refl _) _
  have X3 := heap_alloc_new w2 (.cells #[.int .i64 er, .int .i64 id, .int .i64 tx, .int .i64 ba, .int .i64 rt, .slice va ps.length vc] 27)
  have S3 := hS2.below hb3
  have b3 := b2.trans (hb3.mono b2.size)
  clear hO1 hb1 hb2 hS2 b2
  obtain ⟨N2, hN2⟩ : ∃ N, N = w2.heap.size := ⟨_, rfl⟩
  rw [← hN2] at X3
  go_wp2_with fail
  rw [← hN2]
  clear hN2
  generalize w2.alloc (.cells #[.int .i64 er, .int .i64 id, .int .i64 tx, .int .i64 ba, .int .i64 rt, .slice va ps.length vc] 27) = w3 at hb3 X3 S3 b3 ⊢
  have l3 : N2 < w3.heap.size := (Array.getElem?_eq_some_iff.1 X3).1
  have HG3 : Hid (w.heap.size ≤ w3.heap.size) := b3.size
  clear hb3
  refine (toByteS_ownC a n c bs w3 0 w.heap.size b3.size (HH.out w3 b3) (by omega)).mono ?_
  rintro e w4 ⟨g4, rfl, hO4, hb4⟩
  have b4 := b3.trans (hb4.mono b3.size)
  have X4 := box_below X3 hb4
  have S4 := S3.below hb4
  have hg4 := hO4.lt g4 rfl
  have S4b : ∀ g, Blk (.slice va ps.length vc) vs g → g < w3.heap.size := fun g hg => (S3.blk hg).2
  clear b3 X3 S3 hb4
  go_wp2_with fail
  refine (HIM.out g4 n _ _ w4 (Nat.le_refl _) (rowBytes hO4 HL.out HBB.out)).mono ?_
  rintro e w5 ⟨va5, vc5, xs5, vs5, rfl, hS5, hb5⟩
  simp only [SR.cells] at hS5 ⊢
  have b5 : Below w.heap.size w w5 := b4.trans (hb5.mono b4.size)
  have hb6 : Below w5.heap.size w5 (w5.alloc (.cells #[.int .i64 er, .int .i64 id, .int .i64 tx, .int .i64 ba, .int .i64 rt, .slice va5 ps.length vc5] 27)) := (Below.refl _ _).alloc (Nat.le_refl _) _
  have Y6 := heap_alloc_new w5 (.cells #[.int .i64 er, .int .i64 id, .int .i64 tx, .int .i64 ba, .int .i64 rt, .slice va5 ps.length vc5] 27)
  have T6 := hS5.below hb6
  have X6 := box_below (box_below X4 hb5) hb6
  have S6 := (S4.below hb5).below hb6
  have O6 := owns_below (owns_below hO4 hb5) hb6
  have b6 := b5.trans (hb6.mono b5.size)
  have T5b : ∀ g, Blk (.slice va5 ps.length vc5) vs5 g → w4.heap.size ≤ g ∧ g < w5.heap.size := fun g hg => hS5.blk hg
  have s45 := hb5.size
  clear b4 b5 X4 S4 hO4 hb5 hS5
  obtain ⟨N5, hN5⟩ : ∃ N, N = w5.heap.size := ⟨_, rfl⟩
  rw [← hN5] at Y6 T5b s45
  go_upto_region 6 with fail
  rw [← hN5]
  clear hN5
  generalize w5.alloc (.cells #[.int .i64 er, .int .i64 id, .int .i64 tx, .int .i64 ba, .int .i64 rt, .slice va5 ps.length vc5] 27) = w6 at hb6 Y6 T6 X6 S6 O6 b6 ⊢
  have l6 : N5 < w6.heap.size := (Array.getElem?_eq_some_iff.1 Y6).1
  have l26 : N2 < w6.heap.size := (Array.getElem?_eq_some_iff.1 X6).1
  clear hb6
  obtain ⟨x0, x1, x2, x3, x4, x5⟩ := box_sixS X6
  obtain ⟨y0, y1, y2, y3, y4, y5⟩ := box_sixS Y6
  go_wp2_with fail
  clear x0 x1 x2 x3 x4 x5 y0 y1 y2 y3 y4 y5
  refine (eqStreamRes_same er id tx ba rt va5 ps.length vc5 va vc ps w6 _ _ _ _ (Nat.le_refl _) (Nat.le_refl _) T6.nums S6.nums).mono ?_
  rintro e w7 ⟨rfl, hb7⟩
  have b7 := b6.trans (hb7.mono b6.size)
  have X7 := box_below X6 hb7
  have Y7 := box_below Y6 hb7
  have S7 := S6.below hb7
  have T7 := T6.below hb7
  have O7 := owns_below O6 hb7
  clear b6 X6 Y6 S6 T6 O6
  go_wp2_with fail
  refine (toByteS_ownC a n c bs w7 0 w.heap.size b7.size (HH.out w7 b7) (by omega)).mono ?_
  rintro e w8 ⟨g8, rfl, hO8, hb8⟩
  have b8 := b7.trans (hb8.mono b7.size)
  have O8 := owns_below O7 hb8
  go_wp2_with fail
  refine (eqByteS_same _ n n _ n bs w8 _ _ _ _ (rowBytes O8 HL.out HBB.out) (rowBytes hO8 HL.out HBB.out)).mono ?_
  rintro e w9 ⟨rfl, m9, e9⟩
  have hb9 : Below w8.heap.size w8 w9 := by rw [e9]; exact ⟨rfl, rfl, rfl, Nat.le_refl _, fun _ _ => rfl⟩
  have hb79 := hb8.trans (hb9.mono hb8.size)
  have b9 := b7.trans (hb79.mono b7.size)
  have X9 := box_below X7 hb79
  have Y9 := box_below Y7 hb79
  have S9 := S7.below hb79
  have T9 := T7.below hb79
  have O9 := owns_below O7 hb79
  clear e9 hb7 hb8 hb9 hb79 b7 b8 X7 Y7 S7 T7 O7 O8 hO8
  go_wp2_with fail
  refine (markByteS_any (some ⟨g4, 0, none⟩) n n 1 w3.heap.size _ w9 O9 (by omega)).mono ?_
  rintro e w10 ⟨rfl, hM10, hgr10⟩
  have F10 : Fr (fun g => g = g4) w9 w10 := Fr.of_grown hgr10 (fun g e => by simpa [Value.ownBlock] using e.symm)
  have b9s := b9.size
  have b10 : Below w.heap.size w w10 := b9.trans (F10.below b9s (fun g e => by rw [e]; exact Nat.le_trans HG3.out hg4.1))
  have X10 := box_fr X9 F10 (by omega)
  have Y10 := box_fr Y9 F10 (by omega)
  have S10 := S9.fr F10 (fun g hg e => by have := S4b g hg; omega)
  have T10 := T9.fr F10 (fun g hg e => by have := T5b g hg; omega)
  clear b9 X9 Y9 S9 T9 O9 hM10 hgr10
  have l10 : N2 < w10.heap.size := (Array.getElem?_eq_some_iff.1 X10).1
  have l510 : N5 < w10.heap.size := (Array.getElem?_eq_some_iff.1 Y10).1
  have hk0 : decide (((1 + n : Nat) : Int) < 0) = false := by simp; omega
  obtain ⟨x0, x1, x2, x3, x4, x5⟩ := box_sixS X10
  obtain ⟨y0, y1, y2, y3, y4, y5⟩ := box_sixS Y10
  go_wp2_with fail
  clear x0 x1 x2 x3 x4 x5 y0 y1 y2 y3 y4 y5
  refine (eqStreamRes_same er id tx ba rt va5 ps.length vc5 va vc ps w10 _ _ _ _ (Nat.le_refl _) (Nat.le_refl _) T10.nums S10.nums).mono ?_
  rintro e w11 ⟨rfl, hb11⟩
  have b11 := b10.trans (hb11.mono b10.size)
  have X11 := box_below X10 hb11
  have Y11 := box_below Y10 hb11
  have S11 := S10.below hb11
  have T11 := T10.below hb11
  clear b10 X10 Y10 S10 T10 hb11
  have l11 : N2 < w11.heap.size := (Array.getElem?_eq_some_iff.1 X11).1
  have l511 : N5 < w11.heap.size := (Array.getElem?_eq_some_iff.1 Y11).1
  obtain ⟨y0, y1, y2, y3, y4, y5⟩ := box_sixS Y11
  go_wp2_with fail
  clear y0 y1 y2 y3 y4 y5
  have hs11 := b11.size
  refine (markStreamRes_any er id tx ba rt va5 ps.length vc5 1 w4.heap.size ps xs5 vs5 w11 T11 rfl (by omega) HKS.out).mono ?_
  rintro e w12 ⟨rfl, ys, T12, F12⟩
  have X12 := box_fr X11 F12 (fun hg => by have := T5b _ hg; omega)
  have Y12 := box_fr Y11 F12 (fun hg => by have := T5b _ hg; omega)
  have S12 := S11.fr F12 (fun g hg e => by have := S4b g hg; have := T5b g e; omega)
  have b12 : Below w.heap.size w w12 := b11.trans (F12.below hs11 (fun g hg => by have := T5b g hg; have := HG3.out; omega))
  clear b11 X11 Y11 S11 T11 F12
  have l12 : N2 < w12.heap.size := (Array.getElem?_eq_some_iff.1 X12).1
  have l512 : N5 < w12.heap.size := (Array.getElem?_eq_some_iff.1 Y12).1
  obtain ⟨y0, y1, y2, y3, y4, y5⟩ := box_sixS Y12
  have HNT : Hid (NumsAt w12 w4.heap.size w12.heap.size va5 ps.length vc5 (markN 1 ps)) := by
    have e : (markN 1 ps).length = ps.length := markN_length 1 ps
    have T12' : OwnN w12 w4.heap.size (.slice va5 (markN 1 ps).length vc5) (markN 1 ps) ys vs5 := by rw [e]; exact T12
    have := T12'.nums
    rwa [e] at this
  obtain ⟨M, hM⟩ : ∃ M, M = kN 1 ps := ⟨_, rfl⟩
  have hh := heldStreamRes_any er id tx ba rt va5 ps.length vc5 1 _ _ ps w12 HNT.out (Nat.le_refl _) HKS.out
  rw [← hM] at hh ⊢
  clear hM T12 HNT
  have hM0 : decide ((M : Int) < 0) = false := by simp
  have hMM : ((M : Int) != (M : Int)) = false := by simp
  go_wp2_with fail
  clear y0 y1 y2 y3 y4 y5
  refine hh.mono ?_
  rintro e w13 ⟨rfl, hb13⟩
  have b13 := b12.trans (hb13.mono b12.size)
  have X13 := box_below X12 hb13
  have S13 := S12.below hb13
  clear hh b12 X12 Y12 S12 hb13
  go_wp2_with fail
  refine (toByteS_ownC a n c bs w13 0 w.heap.size b13.size (HH.out w13 b13) (by omega)).mono ?_
  rintro e w14 ⟨g14, rfl, hO14, hb14⟩
  go_wp2_with fail
  refine (HIM.out g14 n _ _ w14 (Nat.le_refl _) (rowBytes hO14 HL.out HBB.out)).mono ?_
  rintro e w15 ⟨va6, vc6, xs6, vs6, rfl, hS15, hb15⟩
  simp only [SR.cells] at hS15 ⊢
  have hb135 := hb14.trans (hb15.mono hb14.size)
  have hb16 : Below w15.heap.size w15 (w15.alloc (.cells #[.int .i64 er, .int .i64 id, .int .i64 tx, .int .i64 ba, .int .i64 rt, .slice va6 ps.length vc6] 27)) := (Below.refl _ _).alloc (Nat.le_refl _) _
  have Z16 := heap_alloc_new w15 (.cells #[.int .i64 er, .int .i64 id, .int .i64 tx, .int .i64 ba, .int .i64 rt, .slice va6 ps.length vc6] 27)
  have U16 := hS15.below hb16
  have X16 := box_below (box_below X13 hb135) hb16
  have S16 := (S13.below hb135).below hb16
  have b15 := b13.trans (hb135.mono b13.size)
  have b16 := b15.trans (hb16.mono b15.size)
  clear b13 b15 X13 S13 hO14 hb14 hb15 hb135 hS15
  obtain ⟨N15, hN15⟩ : ∃ N, N = w15.heap.size := ⟨_, rfl⟩
  rw [← hN15] at Z16
  go_upto_region 23 with fail
  rw [← hN15]
  clear hN15
  generalize w15.alloc (.cells #[.int .i64 er, .int .i64 id, .int .i64 tx, .int .i64 ba, .int .i64 rt, .slice va6 ps.length vc6] 27) = w16 at hb16 Z16 U16 X16 S16 b16 ⊢
  have l16 : N15 < w16.heap.size := (Array.getElem?_eq_some_iff.1 Z16).1
  have l216 : N2 < w16.heap.size := (Array.getElem?_eq_some_iff.1 X16).1
  clear hb16
  obtain ⟨x0, x1, x2, x3, x4, x5⟩ := box_sixS X16
  obtain ⟨y0, y1, y2, y3, y4, y5⟩ := box_sixS Z16
  go_wp2_with fail
  clear x0 x1 x2 x3 x4 x5 y0 y1 y2 y3 y4 y5
  refine (eqStreamRes_same er id tx ba rt va6 ps.length vc6 va vc ps w16 _ _ _ _ (Nat.le_refl _) (Nat.le_refl _) U16.nums S16.nums).mono ?_
  rintro e w17 ⟨rfl, hb17⟩
  have b17 := b16.trans (hb17.mono b16.size)
  clear b16 X16 Z16 S16 U16 hb17
  go_wp2_with fail
  go_ret
  exact ⟨rfl, b17⟩
end Go.Proofs.Ytdieplpegkiolaa
