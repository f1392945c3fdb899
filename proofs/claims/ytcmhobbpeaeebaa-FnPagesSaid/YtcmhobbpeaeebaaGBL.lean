import Derived.Test.YtcmhobbpeaeebaaGBA
import Derived.Test.YtcmhobbpeaeebaaGBK
namespace Go.Proofs.Ytcmhobbpeaeebaa
namespace Old
open Go.RowKit
set_option linter.unusedVariables false
set_option maxRecDepth 100000

/-- What decoding answers. -/
def zPg : Pg := ⟨0, 0, 0, 0, 0, [], [], 0, ⟨#[]⟩⟩
def decR (bs : List Int) : Bool × Pg := if bs.length = 128 ∧ oldCodeOf (decP bs) = bs then (true, decP bs) else (false, zPg)
theorem none_own (n c : Nat) (g : Nat) : (Value.slice none n c).ownBlock = some g → False := by intro h; simp [Value.ownBlock] at h
theorem dec_impl (a : Option Addr) (n c : Nat) (bs : List Int) (w : World) (A B : Nat) (hB : B ≤ w.heap.size) (hb : BytesAt w A B a n c bs) :
    Calls Try.prog 14 #[.slice a n c] w fun e w' => ∃ ka kc ea ec, e = .returned (.agg #[.bool (decR bs).1, .int .i64 (decR bs).2.kind, .int .i64 (decR bs).2.tx, .int .i64 (decR bs).2.id, .int .i64 (decR bs).2.root, .int .i64 (decR bs).2.count, .slice ka (decR bs).2.ks.length kc, .slice ea (decR bs).2.es.length ec, .int .i64 (decR bs).2.next, .string (decR bs).2.data]) ∧ w'.ownsRow w.heap.size 100 2 (.slice ka (decR bs).2.ks.length kc) (decR bs).2.ks.length (rowsOf kidCells (decR bs).2.ks) ∧ w'.ownsRow w.heap.size 102 4 (.slice ea (decR bs).2.es.length ec) (decR bs).2.es.length (rowsOf entCells (decR bs).2.es) ∧ (∀ g, (Value.slice ka (decR bs).2.ks.length kc).ownBlock = some g → (Value.slice ea (decR bs).2.es.length ec).ownBlock = some g → False) ∧ Below w.heap.size w w' := by
  have hl := hb.1
  by_cases hn : n = 128
  · subst hn
    obtain ⟨g, o, rfl, _, _⟩ := hb.2.2.2.2.1 (by omega)
    refine (decode_any g o c bs w A B hB hb).mono ?_
    rintro e w' ⟨vk, ve, rfl, hO, hP, hor, hbel⟩
    by_cases hc : oldCodeOf (decP bs) = bs
    · have hd : decR bs = (true, decP bs) := if_pos ⟨hl, hc⟩
      rw [hd]
      obtain ⟨ka, kc, rfl⟩ := own_shape hO
      obtain ⟨ea, ec, rfl⟩ := own_shape hP
      refine ⟨ka, kc, ea, ec, by rw [decide_eq_true hc]; rfl, hO, hP, ?_, hbel⟩
      intro g h1 h2
      rcases hor with e | e
      · rw [e] at h1; exact none_own _ _ _ h1
      · rw [e] at h2; exact none_own _ _ _ h2
    · have hd : decR bs = (false, zPg) := if_neg (fun h => hc h.2)
      rw [hd]
      exact ⟨none, 0, none, 0, by rw [decide_eq_false hc]; rfl, World.ownsRow_nil _ _ _ _, World.ownsRow_nil _ _ _ _, fun g h1 _ => none_own _ _ _ h1, hbel⟩
  · refine (decode_short a n c hn w).mono ?_
    rintro e w' ⟨rfl, hbel⟩
    have hd : decR bs = (false, zPg) := if_neg (fun h => hn (hl.symm.trans h.1))
    rw [hd]
    exact ⟨none, 0, none, 0, rfl, World.ownsRow_nil _ _ _ _, World.ownsRow_nil _ _ _ _, fun g h1 _ => none_own _ _ _ h1, hbel⟩
end Old
end Go.Proofs.Ytcmhobbpeaeebaa
namespace Go.Proofs.Ytcmhobbpeaeebaa
namespace Old
open Go.RowKit
set_option linter.unusedVariables false
set_option maxRecDepth 100000

theorem dec_spec (a : Option Addr) (n c : Nat) (bs : List Int) (w : World) (A B : Nat) (hB : B ≤ w.heap.size) (hb : BytesAt w A B a n c bs) :
    Calls Try.prog 12 #[.slice a n c] w fun e w' => ∃ ka kc ea ec, e = .returned (.agg #[.bool (decR bs).1, .int .i64 (decR bs).2.kind, .int .i64 (decR bs).2.tx, .int .i64 (decR bs).2.id, .int .i64 (decR bs).2.root, .int .i64 (decR bs).2.count, .slice ka (decR bs).2.ks.length kc, .slice ea (decR bs).2.es.length ec, .int .i64 (decR bs).2.next, .string (decR bs).2.data]) ∧ w'.ownsRow w.heap.size 100 2 (.slice ka (decR bs).2.ks.length kc) (decR bs).2.ks.length (rowsOf kidCells (decR bs).2.ks) ∧ w'.ownsRow w.heap.size 102 4 (.slice ea (decR bs).2.es.length ec) (decR bs).2.es.length (rowsOf entCells (decR bs).2.es) ∧ (∀ g, (Value.slice ka (decR bs).2.ks.length kc).ownBlock = some g → (Value.slice ea (decR bs).2.es.length ec).ownBlock = some g → False) ∧ Below w.heap.size w w' := by
  have hl := hb.1
  by_cases hn : n = 128
  · subst hn
    obtain ⟨g, o, rfl, _, _⟩ := hb.2.2.2.2.1 (by omega)
    have hne : bs ≠ [] := by intro h; rw [h] at hl; simp at hl
    refine (specDecode_any g o c bs w A B hB hb).mono ?_
    rintro e w' ⟨vk, ve, rfl, hO, hP, hor, hbel⟩
    have hs := dec_same hne
    by_cases hc : oldCodeOf (decP bs) = bs
    · have h1 := hs.1 hc
      rw [h1] at hO hP
      have hd : decR bs = (true, decP bs) := if_pos ⟨hl, hc⟩
      rw [hd, h1]
      obtain ⟨ka, kc, rfl⟩ := own_shape hO
      obtain ⟨ea, ec, rfl⟩ := own_shape hP
      refine ⟨ka, kc, ea, ec, by rw [decide_eq_true hc]; rfl, hO, hP, ?_, hbel⟩
      intro g h1 h2
      rcases hor with e | e
      · rw [e] at h1; exact none_own _ _ _ h1
      · rw [e] at h2; exact none_own _ _ _ h2
    · have hd : decR bs = (false, zPg) := if_neg (fun h => hc h.2)
      have hf : ((sDec bs).2 && decide (oldCodeOf (sDec bs).1 = bs)) = false := by
        cases h2 : (sDec bs).2 with
        | false => rfl
        | true =>
          by_cases h3 : oldCodeOf (sDec bs).1 = bs
          · exact absurd (by rw [hs.2 h2 h3]; exact h3) hc
          · simp [h3]
      rw [hd, hf]
      exact ⟨none, 0, none, 0, rfl, World.ownsRow_nil _ _ _ _, World.ownsRow_nil _ _ _ _, fun g h1 _ => none_own _ _ _ h1, hbel⟩
  · refine (specDecode_short a n c hn w).mono ?_
    rintro e w' ⟨rfl, hbel⟩
    have hd : decR bs = (false, zPg) := if_neg (fun h => hn (hl.symm.trans h.1))
    rw [hd]
    exact ⟨none, 0, none, 0, rfl, World.ownsRow_nil _ _ _ _, World.ownsRow_nil _ _ _ _, fun g h1 _ => none_own _ _ _ h1, hbel⟩
/-- What is read back is a page, or the zero page: its lists fit. -/
theorem decR_fit (bs : List Int) (hb : AllB bs) : (∀ x ∈ (decR bs).2.ks, kidFit x) ∧ (∀ x ∈ (decR bs).2.es, entFit x) ∧ (decR bs).2.ks.length + (decR bs).2.es.length ≤ 255 := by
  unfold decR
  split
  · rename_i h
    have hne : bs ≠ [] := by intro e; rw [e] at h; simp at h
    have h1 := (dec_same hne).1 h.2
    have h2 : (sDec bs).1 = decP bs := by rw [h1]
    rw [show ((true, decP bs) : Bool × Pg).2 = (sDec bs).1 from h2.symm]
    refine ⟨(sDec_fit hb).2.1, (sDec_fit hb).2.2, ?_⟩
    rw [h2]
    exact code_count h.2 hne
  · exact ⟨(by intro x hx; cases hx), (by intro x hx; cases hx), Nat.zero_le _⟩
end Old
end Go.Proofs.Ytcmhobbpeaeebaa
namespace Go.Proofs.Ytcmhobbpeaeebaa
namespace New
open Go.RowKit
set_option linter.unusedVariables false
set_option maxRecDepth 100000

theorem code_formI {p : Pg} (htx : inB 1 2000000000 p.tx = true) (hok : bodyOk 2 999 p = true) : ∃ post, newCodeOf p = numB false 4 p.tx ++ ([p.kind] ++ ([((p.ks.length + p.es.length : Nat) : Int)] ++ ([0, 0] ++ (bodyB false p ++ post)))) ∧ (newCodeOf p).length = 128 := by
  have hl := bodyB_len false hok
  refine ⟨List.replicate (120 - (newHead p).length) 0 ++ leB 4 (crcOf (padB 120 (newHead p))) ++ leB 4 p.tx, ?_, ?_⟩
  · rw [newCodeOf, if_pos ⟨htx, hok⟩]
    simp [sealN, padB, newHead, numB, List.append_assoc]
  · rw [newCodeOf, if_pos ⟨htx, hok⟩]
    exact seal_len _ (by simp [newHead, leB_len]; omega)
theorem dec_codeI {p : Pg} (htx : inB 1 2000000000 p.tx = true) (hok : bodyOk 2 999 p = true) : decP (newCodeOf p) = p := by
  obtain ⟨post, hf, hlen⟩ := code_formI htx hok
  have hl := bodyB_len false hok
  have hkd := body_kind hok
  have hcn := body_count hok
  have ht : 1 ≤ p.tx ∧ p.tx ≤ 2000000000 := by simpa [inB] using htx
  have h0 : Has (newCodeOf p) 0 (numB false 4 p.tx ++ ([p.kind] ++ ([((p.ks.length + p.es.length : Nat) : Int)] ++ ([0, 0] ++ (bodyB false p ++ post))))) := ⟨[], by rw [List.drop_zero, List.append_nil]; exact hf⟩
  have g0 := Has.left h0
  have r0 := Has.right h0
  rw [numB_len] at r0
  have g1 := Has.left r0
  have r1 := Has.right r0
  have g2 := Has.left r1
  have r2 := Has.right r1
  have r3 := Has.right r2
  simp only [List.length_cons, List.length_nil, Nat.zero_add] at g1 g2 r3
  have r4 : Has (newCodeOf p) 8 (bodyB false p) := Has.left r3
  obtain ⟨a1, _⟩ := g0.num hlen (by omega) (by omega) (by have hp : (256 : Int) ^ 4 = 4294967296 := (by decide); omega)
  obtain ⟨a2, _⟩ := g1.byte hlen (by omega) hkd
  obtain ⟨a3, _⟩ := g2.byte hlen (by omega) (by omega)
  have hpg := page_has (by omega) (by omega) hok hlen 8 r4 (by omega)
  have e5 : rN (newCodeOf p) 5 1 = ((p.ks.length + p.es.length : Nat) : Int) := a3
  have e4 : rN (newCodeOf p) 4 1 = p.kind := a2
  rw [decP, a1, e4, e5, Int.toNat_natCast, hpg]
end New
end Go.Proofs.Ytcmhobbpeaeebaa
