import Derived.Test.YtcmhobbpeaeebaaAB
import Derived.Deep.RegionHeld3
namespace Go.Proofs.Ytcmhobbpeaeebaa
open Go.RowKit
set_option linter.unusedVariables false
set_option maxRecDepth 100000

/-- append(v, x...), as one step of a region that draws. -/
theorem step_ab {w : World} {ops : Array Oper} {o : Oper} {a : Act} {K : Act → World → Prop} {Q : Exit → Act → World → Prop} {E : Prop} (hgd : o.guard = none) (s x : Operand)
    (ho : o.op = .call { callee := .builtin .append, args := #[s, x], argTypes := #[22, 22] })
    (base : Nat) (v : Value) (n : Nat) (bs : List Int) (hs : a.eval s = v) (hown : w.ownsRow base 5 1 v n (u8s bs))
    (ad : Option Addr) (m c : Nat) (cs : List Int) (A B : Nat) (hx : a.eval x = .slice ad m c) (hB : BytesAt w A B ad m c cs) (hnm : n + m ≤ 1073741824) (hbase : base ≤ w.heap.size)
    (h : ∀ v' w', w'.ownsRow base 5 1 v' (n + m) (u8s (bs ++ cs)) → w.grownBy w' v.ownBlock → K (a.put o.dst v') w') :
    if Region.wanted o (yielded ops a.tmps) = true then Oper.wp Try.prog o a w K Q else E := by
  obtain ⟨i0, hi, hz0, hz1, hz2⟩ := info_parts info_u8
  obtain ⟨hl, hnc, hc, hw, hcell, hnil⟩ := hB
  rcases ad with _ | ad
  · have hm0 : m = 0 := by
      by_cases h0 : m = 0
      · exact h0
      · obtain ⟨_, _, h1, _⟩ := hcell (by omega); cases h1
    subst hm0
    have hc0 := hnil rfl
    subst hc0
    rw [if_pos (by simp [Region.wanted, hgd])]
    have hrun := run_append_owned_none (P := Try.prog) (w := w) base 22 o.type 5 i0 1 Try.underlying22 hi v n (u8s bs) hown
    unfold Oper.wp
    simp [execOp, ho, resolve, invoke, builtin, hs, hx, hrun, Result.andThen]
    refine h v w ?_ ⟨rfl, rfl, rfl, Nat.le_refl _, fun _ _ _ => rfl⟩
    rw [List.eq_nil_of_length_eq_zero hl, List.append_nil]
    exact hown
  · refine step_append_own hgd s x 22 ho base 5 i0 (.int .u8 0) 1 1 Try.underlying22 hi hz0 hz1 hz2 rfl (by decide) v n (u8s bs) hs hown ad m c (u8s cs) hx (by simp [u8s, hl]) ?_ ?_ (by unfold maxLen; omega) (by omega) hbase ?_
    · intro j u hj
      have hjn : j < m := by
        have := (List.getElem?_eq_some_iff.1 hj).1
        simp [u8s] at this; omega
      obtain ⟨b, off, h1, h2, h3⟩ := hcell (by omega)
      cases h1
      have h4 := h3 j hjn
      have h5 : (⟨b, off, none⟩ : Addr).add j = ⟨b, off + j, none⟩ := by simp [Addr.add]
      rw [h5, h4]
      simp [u8s, List.getElem?_map] at hj
      obtain ⟨y, hy, rfl⟩ := hj
      simp [List.getD, hy]
    · intro u hu; simp [u8s] at hu; obtain ⟨y, _, rfl⟩ := hu; rfl
    · intro v' w' h1 h2
      rw [← u8s_append] at h1
      exact h v' w' h1 h2
/-- append(v, s...), s a string. -/
theorem step_as {w : World} {ops : Array Oper} {o : Oper} {a : Act} {K : Act → World → Prop} {Q : Exit → Act → World → Prop} {E : Prop} (hgd : o.guard = none) (s x : Operand)
    (ho : o.op = .call { callee := .builtin .append, args := #[s, x], argTypes := #[22, 9] })
    (base : Nat) (v : Value) (n : Nat) (bs : List Int) (hs : a.eval s = v) (hown : w.ownsRow base 5 1 v n (u8s bs))
    (t : ByteArray) (hx : a.eval x = .string t) (hnm : n + t.size ≤ 1073741824) (hbase : base ≤ w.heap.size)
    (h : ∀ v' w', w'.ownsRow base 5 1 v' (n + t.size) (u8s (bs ++ strB t)) → w.grownBy w' v.ownBlock → K (a.put o.dst v') w') :
    if Region.wanted o (yielded ops a.tmps) = true then Oper.wp Try.prog o a w K Q else E := by
  obtain ⟨i0, hi, hz0, hz1, hz2⟩ := info_parts info_u8
  rw [if_pos (by simp [Region.wanted, hgd])]
  obtain ⟨v', w', hr, h2, h3, h4⟩ := Lib.run_append_own_string (P := Try.prog) w base 22 9 o.type 5 i0 Try.underlying22 Try.underlying9 hi hz0 hz1 hz2 v n (u8s bs) hown t (by unfold maxLen; omega) (by omega) hbase
  unfold Oper.wp execOp
  simp only [ho, resolve, invoke, builtin, Sem.run_bind, Sem.run_pure, Result.andThen_ok, List.map_toArray, List.map_cons, List.map_nil, hs, hx, hr]
  rw [← u8s_strB, ← u8s_append] at h2
  exact h v' w' h2 h3

/-- Bytes that are gathered, in a row of one's own behind the blocks N and N + 1, which hold what they held. -/
structure Acc (w : World) (N : Nat) (box box2 : Obj) (w' : World) (v : Value) (bs : List Int) : Prop where
  own : w'.ownsRow (N + 2) 5 1 v bs.length (u8s bs)
  box : w'.heap[N]? = some box
  box2 : w'.heap[N + 1]? = some box2
  bel : Below N w w'
section
variable {w w' w'' : World} {N : Nat} {box box2 : Obj} {v v' : Value} {bs cs : List Int}
theorem Acc.lt (h : Acc w N box box2 w' v bs) : N + 1 < w'.heap.size := (Array.getElem?_eq_some_iff.1 h.box2).1
theorem Acc.call (h : Acc w N box box2 w' v bs) (hb : Below w'.heap.size w' w'') : Acc w N box box2 w'' v bs :=
  ⟨owns_below h.own hb, (hb.block N (by have := h.lt; omega)).trans h.box, (hb.block (N + 1) h.lt).trans h.box2, h.bel.trans (hb.mono (by have := h.lt; omega))⟩
theorem Acc.alloc (h : Acc w N box box2 w' v bs) (o : Obj) : Acc w N box box2 (w'.alloc o) v bs := h.call ((Below.refl _ _).alloc (Nat.le_refl _) _)
theorem Acc.drew (h : Acc w N box box2 w' v bs) : Acc w N box box2 w'.drew v bs := h.call (Below.refl _ _).drew
theorem Acc.grown {n : Nat} (h : Acc w N box box2 w' v bs) (ho : w''.ownsRow (N + 2) 5 1 v' n (u8s (bs ++ cs))) (hg : w'.grownBy w'' v.ownBlock) : Acc w N box box2 w'' v' (bs ++ cs) := by
  have hn : n = (bs ++ cs).length := by have := ho.1; simp [u8s] at this; simp; omega
  have hl := h.lt
  exact ⟨hn ▸ ho, (hg.block N (by omega) (fun e => by have := (h.own.lt N e.symm).1; omega)).trans h.box, (hg.block (N + 1) (by omega) (fun e => by have := (h.own.lt (N + 1) e.symm).1; omega)).trans h.box2, h.bel.grown hg (by omega) (fun g e => by have := (h.own.lt g e).1; omega)⟩
/-- Cells below N are as they were. -/
theorem Acc.cell (h : Acc w N box box2 w' v bs) {b o : Nat} (hb : b < N) : w'.cell? ⟨b, o, none⟩ = w.cell? ⟨b, o, none⟩ := h.bel.cell (p := ⟨b, o, none⟩) hb
theorem Acc.row (h : Acc w N box box2 w' v bs) : w'.ownsRow (N + 2) 5 1 v bs.length (u8s bs) := h.own
end
end Go.Proofs.Ytcmhobbpeaeebaa
