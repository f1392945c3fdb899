import Derived.Test.YtcmhobbpeaeebaaCu
import Derived.Lib.BufferWrite
namespace Go.Proofs.Ytcmhobbpeaeebaa
open Go.RowKit
set_option linter.unusedVariables false
set_option maxRecDepth 100000

def smallN (old : Bool) : Nat := if old then 2 else 4
theorem smallWidth_any (C G k pf gf : Nat) (old : Bool) (L : List Int) (w : World) (h : Cur w C G old pf gf k L) :
    Calls Try.prog 125 #[.pointer (some ⟨C, 0, none⟩)] w fun e w' => e = .returned (.int .i64 (smallN old)) ∧ w' = w := by
  obtain ⟨_, _, e2, _⟩ := h.cells
  cases old
  all_goals
    go_enter Try.func125, Try.ntmps125
    go_wp2
    go_ret
    exact ⟨rfl, rfl⟩

theorem numB_small (old : Bool) (x : Int) : (numB old (smallN old) x).length ≤ 4 := by rw [numB_len]; cases old <;> decide
theorem smallN_le (old : Bool) : smallN old ≤ 4 := by cases old <;> decide

theorem Cur.move {w : World} {C G k pf gf : Nat} {old : Bool} {L : List Int} (h : Cur w C G old pf gf k L) (m : Nat) : Cur (w.setCell ⟨C, 1, none⟩ (.int .i64 (m : Int))) C G old pf gf m L := by
  have hne := h.ne
  refine ⟨?_, owns_set h.row (fun g e e' => by simp [Value.ownBlock] at e; simp at e'; omega) _, h.len⟩
  have := heap_setCell_atB h.box 1 (.int .i64 (m : Int))
  simpa using this
/-- copy(c.bytes[c.at:], s). -/
theorem step_letters {w : World} {C G k pf gf : Nat} {old : Bool} {L : List Int} {s : ByteArray} {ops : Array Oper} {o : Oper} {a : Act} {K : Act → World → Prop} {Q : Exit → Act → World → Prop} {E : Prop} (h : Cur w C G old pf gf k L) (hs : k + s.size ≤ 128) (hgd : o.guard = none) (d x : Operand)
    (ho : o.op = .call { callee := .builtin .copy, args := #[d, x], argTypes := #[22, 9] }) (dl dc : Nat) (hdl : dl = 128 - k) (hd : a.eval d = .slice (some ⟨G, k, none⟩) dl dc) (hx : a.eval x = .string s)
    (hK : ∀ w', Cur w' C G old pf gf k (lay L k (strB s)) → Fr (fun g => g = C ∨ g = G) w w' → K (a.put o.dst (.int .i64 s.size)) w') :
    if Region.wanted o (yielded ops a.tmps) = true then Oper.wp Try.prog o a w K Q else E := by
  obtain ⟨i0, hi, hz0, hz1, hz2⟩ := info_parts info_u8
  rw [if_pos (by simp [Region.wanted, hgd])]
  have hne := h.ne
  rcases h.row.2 with ⟨h0, _⟩ | ⟨g, cap, cur, h0, _, hgg, hc1, hc2, hcs, hct⟩
  · cases h0
  injection h0 with h1 _ h3
  injection h1 with h2
  injection h2 with h4
  subst h4 h3
  have hcur : cur.toList = u8s L := by
    rw [← hct, List.take_of_length_le (by rw [Array.length_toList, hcs]; omega)]
  have hrun := Lib.run_copy_row_string (P := Try.prog) w 22 9 o.type 5 G k dl dc s cur 5 Try.underlying22 (by rw [hi]; simp [hz1]) hgg (by omega) (by rw [hcs]; omega)
  have hcells : (cur.toList.take k ++ Lib.byteCells s.data.toList ++ cur.toList.drop (k + s.size)).toArray = (u8s (lay L k (strB s))).toArray := by
    rw [hcur, lay, strB_len]
    simp [u8s, strB, Lib.byteCells, List.map_take, List.map_drop]
  rw [hcells] at hrun
  unfold Oper.wp execOp
  simp only [ho, resolve, invoke, builtin, Sem.run_bind, Sem.run_pure, Result.andThen_ok, List.map_toArray, List.map_cons, List.map_nil, hd, hx, hrun]
  refine hK _ ⟨?_, ?_, ?_⟩ ⟨rfl, rfl, rfl, by simp [World.setRow], fun j _ hj => setRow_other w G j _ (fun e => hj (.inr e))⟩
  · exact (setRow_other w G C _ hne).trans h.box
  · have hl : (lay L k (strB s)).length = 128 := by rw [lay_len (by rw [strB_len, h.len]; exact hs)]; exact h.len
    refine ⟨by simp [u8s, hl], .inr ⟨G, 128, (u8s (lay L k (strB s))).toArray, rfl, Nat.zero_le _, setRow_heap w G cur _ _ _ hgg, Nat.le_refl _, by unfold maxLen; omega, by simp [u8s, hl], ?_⟩⟩
    rw [List.take_of_length_le (by simp [u8s, hl])]
  · rw [lay_len (by rw [strB_len, h.len]; exact hs)]; exact h.len

set_option maxHeartbeats 800000 in
theorem putLetters_any (C G k pf gf : Nat) (old : Bool) (L : List Int) (s : ByteArray) (w : World) (h : Cur w C G old pf gf k L) (hk : k + s.size ≤ 128) (hk1 : k < 128) :
    Calls Try.prog 70 #[.pointer (some ⟨C, 0, none⟩), .string s] w fun e w' => e = .returned (.tuple #[]) ∧ Wrote w w' C G old pf gf k L (strB s) := by
  obtain ⟨e0, e1, e2, e3, e4⟩ := h.cells
  have hfC : ∀ o, w.frozen? ⟨C, o, none⟩ = false := by intro o; simp [World.frozen?, h.box]
  have hki : (k : Int) ≤ 128 := by omega
  go_enter Try.func70, Try.ntmps70
  go_wp2_with fail
  have hks : (k : Int) ≠ 128 := by omega
  have hks2 : ¬ 128 = k := by omega
  go_region_law (first
      | (refine step_letters h.drew hk rfl (.tmp 16) (.tmp 17) rfl (128 - k) (128 - k) rfl (by first | rfl | (simp [Act.eval]; done)) (by first | rfl | (simp [Act.eval]; done)) ?_; intro w1 hc1 hf1; obtain ⟨q0, q1, _⟩ := hc1.cells; have hfq : w1.frozen? ⟨C, 1, none⟩ = false := by simp [World.frozen?, hc1.box]))
  all_goals
    have hwr : IntKind.i64.wrap ((k : Int) + (s.size : Int)) = ((k + s.size : Nat) : Int) := by rw [IntKind.wrap_i64]; omega
    go_wp2
    go_end0
    rw [hwr]
    refine ⟨rfl, ?_, fr_setB ((Fr.of_below (Below.refl _ _).drew).trans hf1) (.inl rfl) _⟩
    rw [strB_len]
    exact hc1.move (k + s.size)
end Go.Proofs.Ytcmhobbpeaeebaa
