import Derived.Test.YtpiipnfhinbimaaJK
namespace Go.Proofs.Ytpiipnfhinbimaa
namespace New
open Go.RowKit
set_option linter.unusedVariables false
set_option maxRecDepth 100000

/-- A code begins and ends with its stamp. -/
theorem code_ends {p : Pg} (h : newCodeOf p ≠ []) : (newCodeOf p).length = 128 ∧ (newCodeOf p).take 4 = leB 4 p.tx ∧ (newCodeOf p).drop 124 = leB 4 p.tx ∧ inB 1 2000000000 p.tx = true ∧ bodyOk 2 999 p = true := by
  by_cases hg : inB 1 2000000000 p.tx = true ∧ bodyOk 2 999 p = true
  · have hl := bodyB_len false hg.2
    have hn : (newHead p).length ≤ 120 := by simp [newHead, leB_len]; omega
    have hc : newCodeOf p = sealN p.tx (newHead p) := by rw [newCodeOf, if_pos hg]
    have hp : (padB 120 (newHead p)).length = 120 := by simp [padB]; omega
    refine ⟨by rw [hc]; exact seal_len _ hn, ?_, ?_, hg.1, hg.2⟩
    · rw [hc]
      simp only [sealN, padB, newHead, List.append_assoc]
      rw [List.take_append_of_le_length (by rw [leB_len]; exact Nat.le_refl _), List.take_of_length_le (by rw [leB_len]; exact Nat.le_refl _)]
    · rw [hc, sealN, List.drop_append, List.drop_eq_nil_of_le (by rw [List.length_append, hp, leB_len]; omega), List.nil_append, List.length_append, hp, leB_len]
      rfl
  · exact absurd (by rw [newCodeOf, if_neg hg]) h
theorem leB_inj {x y : Int} (hx : inB 1 2000000000 x = true) (hy : inB 1 2000000000 y = true) (h : leB 4 x = leB 4 y) : x = y := by
  have h1 : 1 ≤ x ∧ x ≤ 2000000000 := by simpa [inB] using hx
  have h2 : 1 ≤ y ∧ y ≤ 2000000000 := by simpa [inB] using hy
  have e : (256 : Int) ^ 4 = 4294967296 := by decide
  have := leN_leB 4 x (by omega) (by omega)
  rw [h, leN_leB 4 y (by omega) (by omega)] at this
  exact this.symm
/-- A page that is torn between two codes of other stamps is a code only if it is one of the two. -/
theorem torn {p q : Pg} (hp : newCodeOf p ≠ []) (hq : newCodeOf q ≠ []) (hne : p.tx ≠ q.tx) (k : Nat) (hk : k ≤ 128) :
    newCodeOf (decP ((newCodeOf q).take k ++ (newCodeOf p).drop k)) = (newCodeOf q).take k ++ (newCodeOf p).drop k ↔ ((newCodeOf q).take k ++ (newCodeOf p).drop k = newCodeOf p ∨ (newCodeOf q).take k ++ (newCodeOf p).drop k = newCodeOf q) := by
  obtain ⟨la, ta, da, ga, oa⟩ := code_ends hp
  obtain ⟨lb, tb, db, gb, ob⟩ := code_ends hq
  have hab : leB 4 p.tx ≠ leB 4 q.tx := fun h => hne (leB_inj ga gb h)
  constructor
  · intro h
    generalize hx : (newCodeOf q).take k ++ (newCodeOf p).drop k = x at h ⊢
    have lx : x.length = 128 := by rw [← hx, List.length_append, List.length_take, List.length_drop, la, lb]; omega
    have hx0 : newCodeOf (decP x) ≠ [] := by rw [h]; intro e; rw [e] at lx; simp at lx
    obtain ⟨_, tx, dx, _, _⟩ := code_ends hx0
    rw [h] at tx dx
    have hend : x.take 4 = x.drop 124 := tx.trans dx.symm
    by_cases h4 : k ≤ 124
    · have d1 : x.drop 124 = (newCodeOf p).drop 124 := by
        rw [← hx, List.drop_append, List.drop_eq_nil_of_le (by rw [List.length_take]; omega), List.nil_append, List.drop_drop, List.length_take, lb]
        congr 1
        omega
      by_cases h5 : 4 ≤ k
      · have t1 : x.take 4 = (newCodeOf q).take 4 := by
          rw [← hx, List.take_append_of_le_length (by rw [List.length_take, lb]; omega), List.take_take]
          congr 1
          omega
        rw [t1, d1, da, tb] at hend
        exact absurd hend.symm hab
      · left
        have t2 : x.take 4 = (newCodeOf p).take 4 := by rw [hend, d1, da, ta]
        have d2 : x.drop 4 = (newCodeOf p).drop 4 := by
          rw [← hx, List.drop_append, List.drop_eq_nil_of_le (by rw [List.length_take]; omega), List.nil_append, List.drop_drop, List.length_take, lb]
          congr 1
          omega
        rw [← List.take_append_drop 4 x, t2, d2, List.take_append_drop]
    · right
      have t1 : x.take 4 = (newCodeOf q).take 4 := by
        rw [← hx, List.take_append_of_le_length (by rw [List.length_take, lb]; omega), List.take_take]
        congr 1
        omega
      have t2 : x.take 124 = (newCodeOf q).take 124 := by
        rw [← hx, List.take_append_of_le_length (by rw [List.length_take, lb]; omega), List.take_take]
        congr 1
        omega
      have d2 : x.drop 124 = (newCodeOf q).drop 124 := by rw [← hend, t1, tb, db]
      rw [← List.take_append_drop 124 x, t2, d2, List.take_append_drop]
  · rintro (h | h)
    · rw [h, dec_codeI ga oa]
    · rw [h, dec_codeI gb ob]
end New
end Go.Proofs.Ytpiipnfhinbimaa
