import Derived.Test.YtcmhobbpeaeebaaGBB
import Derived.Test.YtcmhobbpeaeebaaGBO
import Derived.Deep.QuietTactic
namespace Go.Proofs.Ytcmhobbpeaeebaa
namespace New
open Go.RowKit
set_option linter.unusedVariables false
set_option maxRecDepth 100000

theorem code_formI {p : Pg} (htx : inB 1 2000000000 p.tx = true) (hok : bodyOk 2 999 p = true) : ∃ post, newCodeOf p = numB false 4 p.tx ++ ([p.kind] ++ ([((p.ks.length + p.es.length : Nat) : Int)] ++ ([0, 0] ++ (bodyB false p ++ post)))) ∧ (newCodeOf p).length = 128 := by
  have hl := bodyB_len false hok
  refine ⟨List.replicate (120 - (newHead p).length) 0 ++ leB 4 (crcOf (padB 120 (newHead p))) ++ leB 4 p.tx, ?_, ?_⟩
  · rw [newCodeOf, if_pos ⟨htx, hok⟩]
    simp [sealN, padB, newHead, numB, List.append_assoc]
  · rw [newCodeOf, if_pos ⟨htx, hok⟩]
    exact seal_len _ (by simp [newHead, leB_len]; omega)
theorem dec_codeI {p : Pg} (htx : inB 1 2000000000 p.tx = true) (hok : bodyOk 2 999 p = true) : decP (newCodeOf p) = p := by
  obtain ⟨post, hf, hlen⟩ := code_formI htx hok
  have hl := bodyB_len false hok
  have hkd := body_kind hok
  have hcn := body_count hok
  have ht : 1 ≤ p.tx ∧ p.tx ≤ 2000000000 := by simpa [inB] using htx
  have h0 : Has (newCodeOf p) 0 (numB false 4 p.tx ++ ([p.kind] ++ ([((p.ks.length + p.es.length : Nat) : Int)] ++ ([0, 0] ++ (bodyB false p ++ post))))) := ⟨[], by rw [List.drop_zero, List.append_nil]; exact hf⟩
  have g0 := Has.left h0
  have r0 := Has.right h0
  rw [numB_len] at r0
  have g1 := Has.left r0
  have r1 := Has.right r0
  have g2 := Has.left r1
  have r2 := Has.right r1
  have r3 := Has.right r2
  simp only [List.length_cons, List.length_nil, Nat.zero_add] at g1 g2 r3
  have r4 : Has (newCodeOf p) 8 (bodyB false p) := Has.left r3
  obtain ⟨a1, _⟩ := g0.num hlen (by omega) (by omega) (by have hp : (256 : Int) ^ 4 = 4294967296 := (by decide); omega)
  obtain ⟨a2, _⟩ := g1.byte hlen (by omega) hkd
  obtain ⟨a3, _⟩ := g2.byte hlen (by omega) (by omega)
  have hpg := page_has (by omega) (by omega) hok hlen 8 r4 (by omega)
  have e5 : rN (newCodeOf p) 5 1 = ((p.ks.length + p.es.length : Nat) : Int) := a3
  have e4 : rN (newCodeOf p) 4 1 = p.kind := a2
  rw [decP, a1, e4, e5, Int.toNat_natCast, hpg]
end New
end Go.Proofs.Ytcmhobbpeaeebaa
namespace Go.Proofs.Ytcmhobbpeaeebaa
namespace New
open Go.RowKit
set_option linter.unusedVariables false
set_option maxRecDepth 100000

/-- A code begins and ends with its stamp. -/
theorem code_ends {p : Pg} (h : newCodeOf p ≠ []) : (newCodeOf p).length = 128 ∧ (newCodeOf p).take 4 = leB 4 p.tx ∧ (newCodeOf p).drop 124 = leB 4 p.tx ∧ inB 1 2000000000 p.tx = true ∧ bodyOk 2 999 p = true := by
  by_cases hg : inB 1 2000000000 p.tx = true ∧ bodyOk 2 999 p = true
  · have hl := bodyB_len false hg.2
    have hn : (newHead p).length ≤ 120 := by simp [newHead, leB_len]; omega
    have hc : newCodeOf p = sealN p.tx (newHead p) := by rw [newCodeOf, if_pos hg]
    have hp : (padB 120 (newHead p)).length = 120 := by simp [padB]; omega
    refine ⟨by rw [hc]; exact seal_len _ hn, ?_, ?_, hg.1, hg.2⟩
    · rw [hc]
      simp only [sealN, padB, newHead, List.append_assoc]
      rw [List.take_append_of_le_length (by rw [leB_len]; exact Nat.le_refl _), List.take_of_length_le (by rw [leB_len]; exact Nat.le_refl _)]
    · rw [hc, sealN, List.drop_append, List.drop_eq_nil_of_le (by rw [List.length_append, hp, leB_len]; omega), List.nil_append, List.length_append, hp, leB_len]
      rfl
  · exact absurd (by rw [newCodeOf, if_neg hg]) h
theorem leB_inj {x y : Int} (hx : inB 1 2000000000 x = true) (hy : inB 1 2000000000 y = true) (h : leB 4 x = leB 4 y) : x = y := by
  have h1 : 1 ≤ x ∧ x ≤ 2000000000 := by simpa [inB] using hx
  have h2 : 1 ≤ y ∧ y ≤ 2000000000 := by simpa [inB] using hy
  have e : (256 : Int) ^ 4 = 4294967296 := by decide
  have := leN_leB 4 x (by omega) (by omega)
  rw [h, leN_leB 4 y (by omega) (by omega)] at this
  exact this.symm
/-- A page that is torn between two codes of other stamps is a code only if it is one of the two. -/
theorem torn {p q : Pg} (hp : newCodeOf p ≠ []) (hq : newCodeOf q ≠ []) (hne : p.tx ≠ q.tx) (k : Nat) (hk : k ≤ 128) :
    newCodeOf (decP ((newCodeOf q).take k ++ (newCodeOf p).drop k)) = (newCodeOf q).take k ++ (newCodeOf p).drop k ↔ ((newCodeOf q).take k ++ (newCodeOf p).drop k = newCodeOf p ∨ (newCodeOf q).take k ++ (newCodeOf p).drop k = newCodeOf q) := by
  obtain ⟨la, ta, da, ga, oa⟩ := code_ends hp
  obtain ⟨lb, tb, db, gb, ob⟩ := code_ends hq
  have hab : leB 4 p.tx ≠ leB 4 q.tx := fun h => hne (leB_inj ga gb h)
  constructor
  · intro h
    generalize hx : (newCodeOf q).take k ++ (newCodeOf p).drop k = x at h ⊢
    have lx : x.length = 128 := by rw [← hx, List.length_append, List.length_take, List.length_drop, la, lb]; omega
    have hx0 : newCodeOf (decP x) ≠ [] := by rw [h]; intro e; rw [e] at lx; simp at lx
    obtain ⟨_, tx, dx, _, _⟩ := code_ends hx0
    rw [h] at tx dx
    have hend : x.take 4 = x.drop 124 := tx.trans dx.symm
    by_cases h4 : k ≤ 124
    · have d1 : x.drop 124 = (newCodeOf p).drop 124 := by
        rw [← hx, List.drop_append, List.drop_eq_nil_of_le (by rw [List.length_take]; omega), List.nil_append, List.drop_drop, List.length_take, lb]
        congr 1
        omega
      by_cases h5 : 4 ≤ k
      · have t1 : x.take 4 = (newCodeOf q).take 4 := by
          rw [← hx, List.take_append_of_le_length (by rw [List.length_take, lb]; omega), List.take_take]
          congr 1
          omega
        rw [t1, d1, da, tb] at hend
        exact absurd hend.symm hab
      · left
        have t2 : x.take 4 = (newCodeOf p).take 4 := by rw [hend, d1, da, ta]
        have d2 : x.drop 4 = (newCodeOf p).drop 4 := by
          rw [← hx, List.drop_append, List.drop_eq_nil_of_le (by rw [List.length_take]; omega), List.nil_append, List.drop_drop, List.length_take, lb]
          congr 1
          omega
        rw [← List.take_append_drop 4 x, t2, d2, List.take_append_drop]
    · right
      have t1 : x.take 4 = (newCodeOf q).take 4 := by
        rw [← hx, List.take_append_of_le_length (by rw [List.length_take, lb]; omega), List.take_take]
        congr 1
        omega
      have t2 : x.take 124 = (newCodeOf q).take 124 := by
        rw [← hx, List.take_append_of_le_length (by rw [List.length_take, lb]; omega), List.take_take]
        congr 1
        omega
      have d2 : x.drop 124 = (newCodeOf q).drop 124 := by rw [← hend, t1, tb, db]
      rw [← List.take_append_drop 124 x, t2, d2, List.take_append_drop]
  · rintro (h | h)
    · rw [h, dec_codeI ga oa]
    · rw [h, dec_codeI gb ob]
end New
end Go.Proofs.Ytcmhobbpeaeebaa
namespace Go.Proofs.Ytcmhobbpeaeebaa
namespace New
open Go.RowKit
set_option linter.unusedVariables false
set_option maxRecDepth 100000

/-- What decoding answers. -/
def zPg : Pg := ⟨0, 0, 0, 0, 0, [], [], 0, ⟨#[]⟩⟩
def decR (bs : List Int) : Bool × Pg := if bs.length = 128 ∧ newCodeOf (decP bs) = bs then (true, decP bs) else (false, zPg)
theorem none_own (n c : Nat) (g : Nat) : (Value.slice none n c).ownBlock = some g → False := by intro h; simp [Value.ownBlock] at h
theorem dec_impl (a : Option Addr) (n c : Nat) (bs : List Int) (w : World) (A B : Nat) (hB : B ≤ w.heap.size) (hb : BytesAt w A B a n c bs) :
    Calls Try.prog 10 #[.slice a n c] w fun e w' => ∃ ka kc ea ec, e = .returned (.agg #[.bool (decR bs).1, .int .i64 (decR bs).2.kind, .int .i64 (decR bs).2.tx, .int .i64 (decR bs).2.id, .int .i64 (decR bs).2.root, .int .i64 (decR bs).2.count, .slice ka (decR bs).2.ks.length kc, .slice ea (decR bs).2.es.length ec, .int .i64 (decR bs).2.next, .string (decR bs).2.data]) ∧ w'.ownsRow w.heap.size 100 2 (.slice ka (decR bs).2.ks.length kc) (decR bs).2.ks.length (rowsOf kidCells (decR bs).2.ks) ∧ w'.ownsRow w.heap.size 102 4 (.slice ea (decR bs).2.es.length ec) (decR bs).2.es.length (rowsOf entCells (decR bs).2.es) ∧ (∀ g, (Value.slice ka (decR bs).2.ks.length kc).ownBlock = some g → (Value.slice ea (decR bs).2.es.length ec).ownBlock = some g → False) ∧ Below w.heap.size w w' := by
  have hl := hb.1
  by_cases hn : n = 128
  · subst hn
    obtain ⟨g, o, rfl, _, _⟩ := hb.2.2.2.2.1 (by omega)
    refine (decode_any g o c bs w A B hB hb).mono ?_
    rintro e w' ⟨vk, ve, rfl, hO, hP, hor, hbel⟩
    by_cases hc : newCodeOf (decP bs) = bs
    · have hd : decR bs = (true, decP bs) := if_pos ⟨hl, hc⟩
      rw [hd]
      obtain ⟨ka, kc, rfl⟩ := own_shape hO
      obtain ⟨ea, ec, rfl⟩ := own_shape hP
      refine ⟨ka, kc, ea, ec, by rw [decide_eq_true hc]; rfl, hO, hP, ?_, hbel⟩
      intro g h1 h2
      rcases hor with e | e
      · rw [e] at h1; exact none_own _ _ _ h1
      · rw [e] at h2; exact none_own _ _ _ h2
    · have hd : decR bs = (false, zPg) := if_neg (fun h => hc h.2)
      rw [hd]
      exact ⟨none, 0, none, 0, by rw [decide_eq_false hc]; rfl, World.ownsRow_nil _ _ _ _, World.ownsRow_nil _ _ _ _, fun g h1 _ => none_own _ _ _ h1, hbel⟩
  · refine (decode_short a n c hn w).mono ?_
    rintro e w' ⟨rfl, hbel⟩
    have hd : decR bs = (false, zPg) := if_neg (fun h => hn (hl.symm.trans h.1))
    rw [hd]
    exact ⟨none, 0, none, 0, rfl, World.ownsRow_nil _ _ _ _, World.ownsRow_nil _ _ _ _, fun g h1 _ => none_own _ _ _ h1, hbel⟩
end New
end Go.Proofs.Ytcmhobbpeaeebaa
namespace Go.Proofs.Ytcmhobbpeaeebaa
open Go.RowKit
set_option linter.unusedVariables false
set_option maxRecDepth 100000

theorem toB_cmpW {x y : List Int} (hx : ∀ z ∈ x, 0 ≤ z ∧ z ≤ 255) (hy : ∀ z ∈ y, 0 ≤ z ∧ z ≤ 255) : ((toB x).toList == (toB y).toList) = decide (x = y) := by
  have h3 := New.toB_inj hx hy
  have h4 : ((toB x).toList == (toB y).toList) = decide (toB x = toB y) := by
    rw [ByteArray.toList_eq, ByteArray.toList_eq, Bool.eq_iff_iff]
    simp only [beq_iff_eq, decide_eq_true_eq]
    constructor
    · intro h; exact ByteArray.ext (Array.ext' h)
    · intro h; rw [h]
  rw [h4]
  simp [h3]
theorem lwBytes_any (a : Option Addr) (n c : Nat) (bs : List Int) (a2 : Option Addr) (n2 c2 : Nat) (bs2 : List Int) (w : World) (A B A2 B2 : Nat) (h : BytesAt w A B a n c bs) (h2 : BytesAt w A2 B2 a2 n2 c2 bs2) :
    Calls Try.prog 11 #[.slice a n c, .slice a2 n2 c2] w fun e w' => e = .returned (.bool (decide (bs = bs2))) ∧ w' = w := by
  have s1 := str_conv h
  have s2 := str_conv h2
  have hc := toB_cmpW h.2.2.2.1 h2.2.2.2.1
  go_enter Try.func11, Try.ntmps11
  go_wp2

  go_ret
  exact ⟨rfl, rfl⟩
end Go.Proofs.Ytcmhobbpeaeebaa
