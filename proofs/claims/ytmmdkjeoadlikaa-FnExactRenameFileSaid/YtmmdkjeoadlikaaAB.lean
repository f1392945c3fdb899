import Derived.Test.YtmmdkjeoadlikaaByt
import Derived.Lib.AppendStr
namespace Go.Proofs.Ytmmdkjeoadlikaa
open Go.RowKit
set_option linter.unusedVariables false
set_option maxRecDepth 100000

/-- The bytes of a string. -/
def strB (s : ByteArray) : List Int := s.data.toList.map fun b => (b.toNat : Int)
theorem strB_len (s : ByteArray) : (strB s).length = s.size := by simp [strB]
theorem strB_byte (s : ByteArray) : ∀ x ∈ strB s, 0 ≤ x ∧ x ≤ 255 := by
  intro x hx
  simp only [strB, List.mem_map] at hx
  obtain ⟨b, _, rfl⟩ := hx
  have := b.toNat_lt
  omega
theorem u8s_strB (s : ByteArray) : u8s (strB s) = Lib.strCells s := by simp [u8s, strB, Lib.strCells]
theorem u8s_append (a b : List Int) : u8s (a ++ b) = u8s a ++ u8s b := by simp [u8s]

/-- append(v, x...), both bytes, v one's own. -/
theorem wpList_ab {w : World} {ops : Array Oper} {rest : List Oper} {o : Oper} {a : Act} {Q : Exit → Act → World → Prop} (hgd : o.guard = none) (s x : Operand)
    (ho : o.op = .call { callee := .builtin .append, args := #[s, x], argTypes := #[27, 27] })
    (base : Nat) (v : Value) (n : Nat) (bs : List Int) (hs : a.eval s = v) (hown : w.ownsRow base 5 1 v n (u8s bs))
    (ad : Option Addr) (m c : Nat) (cs : List Int) (A B : Nat) (hx : a.eval x = .slice ad m c) (hB : BytesAt w A B ad m c cs) (hnm : n + m ≤ 1073741824) (hbase : base ≤ w.heap.size)
    (h : ∀ v' w', w'.ownsRow base 5 1 v' (n + m) (u8s (bs ++ cs)) → w.grownBy w' v.ownBlock → wpList Try.prog ops Q rest (a.put o.dst v') w') : wpList Try.prog ops Q (o :: rest) a w := by
  obtain ⟨i0, hi, hz0, hz1, hz2⟩ := info_parts info_u8
  obtain ⟨hl, hnc, hc, hw, hcell, hnil⟩ := hB
  rcases ad with _ | ad
  · have hm0 : m = 0 := by
      by_cases h0 : m = 0
      · exact h0
      · obtain ⟨_, _, h1, _⟩ := hcell (by omega); cases h1
    subst hm0
    have hc0 := hnil rfl
    subst hc0
    refine wpList_append_own_none hgd s x 27 ho base 5 i0 1 Try.underlying27 hi v n (u8s bs) hs hown hx ?_
    refine h v w ?_ ⟨rfl, rfl, rfl, Nat.le_refl _, fun _ _ _ => rfl⟩
    rw [List.eq_nil_of_length_eq_zero hl, List.append_nil]
    exact hown
  · refine wpList_append_own w hgd s x 27 ho base 5 i0 (.int .u8 0) 1 1 Try.underlying27 hi hz0 hz1 hz2 rfl (by decide) v n (u8s bs) hs hown ad m c (u8s cs) hx (by simp [u8s, hl]) ?_ ?_ (by unfold maxLen; omega) (by omega) hbase ?_
    · intro j u hj
      have hjn : j < m := by
        have := (List.getElem?_eq_some_iff.1 hj).1
        simp [u8s] at this; omega
      obtain ⟨b, off, h1, h2, h3⟩ := hcell (by omega)
      cases h1
      have h4 := h3 j hjn
      have h5 : (⟨b, off, none⟩ : Addr).add j = ⟨b, off + j, none⟩ := by simp [Addr.add]
      rw [h5, h4]
      simp [u8s, List.getElem?_map] at hj
      obtain ⟨y, hy, rfl⟩ := hj
      simp [List.getD, hy]
    · intro u hu; simp [u8s] at hu; obtain ⟨y, _, rfl⟩ := hu; rfl
    · intro v' w' h1 h2 _
      rw [← u8s_append] at h1
      exact h v' w' h1 h2
/-- append(v, s...), s a string. -/
theorem wpList_as {w : World} {ops : Array Oper} {rest : List Oper} {o : Oper} {a : Act} {Q : Exit → Act → World → Prop} (hgd : o.guard = none) (s x : Operand)
    (ho : o.op = .call { callee := .builtin .append, args := #[s, x], argTypes := #[27, 9] })
    (base : Nat) (v : Value) (n : Nat) (bs : List Int) (hs : a.eval s = v) (hown : w.ownsRow base 5 1 v n (u8s bs))
    (t : ByteArray) (hx : a.eval x = .string t) (hnm : n + t.size ≤ 1073741824) (hbase : base ≤ w.heap.size)
    (h : ∀ v' w', w'.ownsRow base 5 1 v' (n + t.size) (u8s (bs ++ strB t)) → w.grownBy w' v.ownBlock → wpList Try.prog ops Q rest (a.put o.dst v') w') : wpList Try.prog ops Q (o :: rest) a w := by
  obtain ⟨i0, hi, hz0, hz1, hz2⟩ := info_parts info_u8
  refine Lib.wpList_append_own_string w hgd s x 27 9 ho base 5 i0 Try.underlying27 Try.underlying9 hi hz0 hz1 hz2 v n (u8s bs) hs hown t hx (by unfold maxLen; omega) (by omega) hbase ?_
  intro v' w' h1 h2 _
  rw [← u8s_strB, ← u8s_append] at h1
  exact h v' w' h1 h2
end Go.Proofs.Ytmmdkjeoadlikaa
