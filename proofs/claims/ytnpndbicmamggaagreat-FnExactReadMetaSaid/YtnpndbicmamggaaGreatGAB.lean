import Derived.Test.YtnpndbicmamggaaGreatGAA
import Derived.WalkLawsBesides
import Derived.Laws.EntriesVeiled
import Derived.WideLaws
import Derived.Deep.RegionHeld3
import Derived.Lib.BufferWrite
import Derived.Laws.BitsAll
import Derived.Laws.IdiomStrings
import Derived.Test.YtnpndbicmamggaaGreatChecked
import Derived.WalkKit
import Derived.ProofKit
namespace Go.Proofs.YtnpndbicmamggaaGreat
open Go.RowKit
set_option linter.unusedVariables false
set_option maxRecDepth 100000

/-- bs laid over L from place k on. -/
def lay (L : List Int) (k : Nat) (bs : List Int) : List Int := L.take k ++ bs ++ L.drop (k + bs.length)
theorem lay_len {L : List Int} {k : Nat} {bs : List Int} (h : k + bs.length ≤ L.length) : (lay L k bs).length = L.length := by simp [lay]; omega
theorem lay_nil (L : List Int) (k : Nat) : lay L k [] = L := by simp [lay]
theorem lay_lay {L : List Int} {k : Nat} {ds bs : List Int} (h : k + ds.length ≤ L.length) : lay (lay L k ds) (k + ds.length) bs = lay L k (ds ++ bs) := by
  have h1 : (L.take k ++ ds).length = k + ds.length := by simp; omega
  unfold lay
  rw [List.take_append_of_le_length (by omega), List.take_of_length_le (by omega)]
  rw [show k + ds.length + bs.length = (L.take k ++ ds).length + bs.length by omega, List.drop_append, List.drop_drop, List.drop_eq_nil_of_le (by omega)]
  simp only [List.length_append, List.nil_append]
  rw [List.append_assoc (L.take k) ds bs]
  congr 2
  simp
  omega
theorem lay_set {L : List Int} {k : Nat} {x : Int} (h : k < L.length) : L.set k x = lay L k [x] := by
  rw [lay, List.set_eq_take_append_cons_drop, if_pos h]; simp

theorem heap_setCell_atB {w : World} {b t : Nat} {cs : Array Value} (h : w.heap[b]? = some (.cells cs t (0, 0))) (o : Nat) (v : Value) : (w.setCell ⟨b, o, none⟩ v).heap[b]? = some (.cells (cs.setIfInBounds o v) t (0, 0)) := by
  obtain ⟨hlt, hk⟩ := Array.getElem?_eq_some_iff.1 h
  show (w.heap.modify b _)[b]? = _
  rw [Array.getElem?_eq_getElem (by rw [Array.size_modify]; exact hlt), Array.getElem_modify_self, hk]
  rfl
theorem fr_setB {S : Nat → Prop} {w w' : World} (h : Fr S w w') {g o : Nat} (hS : S g) (u : Value) : Fr S w (w'.setCell ⟨g, o, none⟩ u) :=
  h.trans ⟨rfl, rfl, rfl, by simp [World.setCell], fun k _ hk => Below.heap_setCell w' _ u k (fun e => hk (e ▸ hS))⟩

/-- A cursor at block C over the bytes of block G, at place k. -/
structure Cur (w : World) (C G : Nat) (old : Bool) (pf gf : Nat) (k : Nat) (L : List Int) : Prop where
  box : w.heap[C]? = some (.cells #[.slice (some ⟨G, 0, none⟩) 128 128, .int .i64 k, .bool old, .func (.func pf) #[.pointer (some ⟨C, 0, none⟩)] #[], .func (.func gf) #[.pointer (some ⟨C, 0, none⟩)] #[]] 110)
  row : w.ownsRow 0 5 1 (.slice (some ⟨G, 0, none⟩) 128 128) 128 (u8s L)
  len : L.length = 128
theorem Cur.ne {w : World} {C G k pf gf : Nat} {old : Bool} {L : List Int} (h : Cur w C G old pf gf k L) : C ≠ G := by
  intro e
  subst e
  rcases h.row.2 with ⟨h0, _⟩ | ⟨g, cap, cur, h0, _, hgg, _⟩
  · cases h0
  · injection h0 with h1
    injection h1 with h2
    injection h2 with h3
    subst h3
    rw [h.box] at hgg
    injection hgg with h4
    injection h4 with _ h5
    exact absurd h5 (by decide)
theorem Cur.drew {w : World} {C G k pf gf : Nat} {old : Bool} {L : List Int} (h : Cur w C G old pf gf k L) : Cur w.drew C G old pf gf k L := ⟨h.box, h.row.drew, h.len⟩
/-- What a write through the cursor does. -/
def Wrote (w w' : World) (C G : Nat) (old : Bool) (pf gf : Nat) (k : Nat) (L bs : List Int) : Prop := Cur w' C G old pf gf (k + bs.length) (lay L k bs) ∧ Fr (fun g => g = C ∨ g = G) w w'
theorem Wrote.drew {w w' : World} {C G k pf gf : Nat} {old : Bool} {L bs : List Int} (h : Wrote w w' C G old pf gf k L bs) : Wrote w w'.drew C G old pf gf k L bs := ⟨h.1.drew, h.2.trans (Fr.of_below (Below.refl _ _).drew)⟩
theorem Wrote.trans {w w' w'' : World} {C G k pf gf : Nat} {old : Bool} {L ds bs : List Int} (h : Wrote w w' C G old pf gf k L ds) (hl : k + ds.length ≤ L.length) (h2 : Wrote w' w'' C G old pf gf (k + ds.length) (lay L k ds) bs) : Wrote w w'' C G old pf gf k L (ds ++ bs) := by
  obtain ⟨h3, h4⟩ := h2
  rw [lay_lay hl, Nat.add_assoc, ← List.length_append] at h3
  exact ⟨h3, h.2.trans h4⟩

set_option maxHeartbeats 800000 in
theorem putByte_any (C G k pf gf : Nat) (old : Bool) (L : List Int) (x : Int) (w : World) (h : Cur w C G old pf gf k L) (hk : k < 128) :
    Calls Tryz.prog 78 #[.pointer (some ⟨C, 0, none⟩), .int .u8 x] w fun e w' => e = .returned (.tuple #[]) ∧ Wrote w w' C G old pf gf k L [x] := by
  have e0 : w.cell? ⟨C, 0, none⟩ = some (.slice (some ⟨G, 0, none⟩) 128 128) := by simp [World.cell?, h.box]
  have e1 : w.cell? ⟨C, 1, none⟩ = some (.int .i64 k) := by simp [World.cell?, h.box]
  go_enter Tryz.func78, Tryz.ntmps78
  have hki : (k : Int) < 128 := by omega
  have hne := h.ne
  have hne' := hne.symm
  have hf := h.row.frozenAt k
  have hfC : ∀ o, w.frozen? ⟨C, o, none⟩ = false := by intro o; simp [World.frozen?, h.box]
  obtain ⟨u, hu⟩ : ∃ u, w.cell? ⟨G, k, none⟩ = some u := ⟨_, by rw [h.row.cellAt k (by omega)]; exact List.getElem?_eq_getElem (by simp [u8s, h.len]; omega)⟩
  go_wp2
  go_region_held3 (fun w' => w'.cell? ⟨C, 0, none⟩ = some (.slice (some ⟨G, 0, none⟩) 128 128) ∧ w'.cell? ⟨C, 1, none⟩ = some (.int .i64 k)) (go_keep) (fail)
  go_wp2
  go_end0
  have R : Wrote w ((w.setCell ⟨G, k, none⟩ (.int .u8 x)).setCell ⟨C, 1, none⟩ (.int .i64 ((k : Int) + 1))) C G old pf gf k L [x] := by
    refine ⟨?_, ?_⟩
    · have hrow := (h.row.stored k (.int .u8 x)).1
      have hbx : (w.setCell ⟨G, k, none⟩ (.int .u8 x)).heap[C]? = _ := (Below.heap_setCell w ⟨G, k, none⟩ (.int .u8 x) C hne).trans h.box
      refine ⟨?_, ?_, ?_⟩
      · have := heap_setCell_atB hbx 1 (.int .i64 ((k : Int) + 1))
        simpa using this
      · rw [← lay_set (by rw [h.len]; exact hk)]
        have := owns_set hrow (p := ⟨C, 1, none⟩) (fun g e e' => by simp [Value.ownBlock] at e; simp at e'; omega) (.int .i64 ((k : Int) + 1))
        simpa [u8s, List.map_set] using this
      · rw [lay_len (by simp [h.len]; omega)]; exact h.len
    · exact fr_setB (o := 1) (fr_setB (Fr.refl _ _) (.inr rfl) _) (g := C) (.inl rfl) (.int .i64 ((k : Int) + 1))
  exact ⟨rfl, R.drew⟩

theorem shr8_pow (x : Int) : ∀ m, shr8 m x = x / 2 ^ (8 * m)
  | 0 => by simp [shr8]
  | m + 1 => by
    rw [shr8, shr8_pow x m, Int.ediv_ediv_of_nonneg (Int.le_of_lt (Int.pow_pos (by omega)))]
    congr 1
    rw [show 8 * (m + 1) = 8 * m + 8 by omega, Int.pow_add]
    rfl
theorem leB_get (x : Int) : ∀ n i, i < n → (leB n x)[i]? = some (shr8 i x % 256) := by
  intro n
  induction n with
  | zero => intro i h; omega
  | succ n ih =>
    intro i h
    rw [leB_snoc]
    by_cases hi : i < n
    · rw [List.getElem?_append_left (by rw [leB_len]; exact hi)]; exact ih i hi
    · obtain rfl : i = n := by omega
      rw [List.getElem?_append_right (by rw [leB_len]; omega), leB_len]; simp
theorem beB_get (x : Int) {n i : Nat} (h : i < n) : (beB n x)[i]? = some (x / 2 ^ (8 * (n - 1 - i)) % 256) := by
  rw [beB, List.getElem?_reverse (by rw [leB_len]; exact h), leB_len, leB_get x n (n - 1 - i) (by omega), shr8_pow]
theorem beB_take (x : Int) {n i : Nat} (h : i < n) : (beB n x).take (i + 1) = (beB n x).take i ++ [x / 2 ^ (8 * (n - 1 - i)) % 256] := by
  rw [List.take_add_one, beB_get x h]; rfl
theorem wrote_nil {w : World} {C G k pf gf : Nat} {old : Bool} {L : List Int} (h : Cur w C G old pf gf k L) : Wrote w w C G old pf gf k L [] := ⟨by rw [lay_nil]; exact h, Fr.refl _ _⟩

/-- What the cursor's way of writing numbers does. -/
def PutNum (C G : Nat) (old : Bool) (pf gf : Nat) : Prop := ∀ (k : Nat) (L : List Int) (x : Int) (n : Nat) (w : World), I64 x → n ≤ 8 → Cur w C G old pf gf k L → k + n ≤ 128 →
  Calls Tryz.prog pf #[.pointer (some ⟨C, 0, none⟩), .int .i64 x, .int .i64 n] w fun e w' => e = .returned (.tuple #[]) ∧ Wrote w w' C G old pf gf k L (numB old n x)
theorem Cur.cells {w : World} {C G k pf gf : Nat} {old : Bool} {L : List Int} (h : Cur w C G old pf gf k L) : w.cell? ⟨C, 0, none⟩ = some (.slice (some ⟨G, 0, none⟩) 128 128) ∧ w.cell? ⟨C, 1, none⟩ = some (.int .i64 k) ∧ w.cell? ⟨C, 2, none⟩ = some (.bool old) ∧ w.cell? ⟨C, 3, none⟩ = some (.func (.func pf) #[.pointer (some ⟨C, 0, none⟩)] #[]) ∧ w.cell? ⟨C, 4, none⟩ = some (.func (.func gf) #[.pointer (some ⟨C, 0, none⟩)] #[]) := by
  refine ⟨?_, ?_, ?_, ?_, ?_⟩ <;> simp [World.cell?, h.box]
end Go.Proofs.YtnpndbicmamggaaGreat
namespace Go.Proofs.YtnpndbicmamggaaGreat
open Go.RowKit
set_option linter.unusedVariables false
set_option maxRecDepth 100000

def smallN (old : Bool) : Nat := if old then 2 else 4
theorem smallWidth_any (C G k pf gf : Nat) (old : Bool) (L : List Int) (w : World) (h : Cur w C G old pf gf k L) :
    Calls Tryz.prog 109 #[.pointer (some ⟨C, 0, none⟩)] w fun e w' => e = .returned (.int .i64 (smallN old)) ∧ w' = w := by
  obtain ⟨_, _, e2, _⟩ := h.cells
  cases old
  all_goals
    go_enter Tryz.func109, Tryz.ntmps109
    go_wp2
    go_ret
    exact ⟨rfl, rfl⟩

theorem numB_small (old : Bool) (x : Int) : (numB old (smallN old) x).length ≤ 4 := by rw [numB_len]; cases old <;> decide
theorem smallN_le (old : Bool) : smallN old ≤ 4 := by cases old <;> decide

theorem Cur.move {w : World} {C G k pf gf : Nat} {old : Bool} {L : List Int} (h : Cur w C G old pf gf k L) (m : Nat) : Cur (w.setCell ⟨C, 1, none⟩ (.int .i64 (m : Int))) C G old pf gf m L := by
  have hne := h.ne
  refine ⟨?_, owns_set h.row (fun g e e' => by simp [Value.ownBlock] at e; simp at e'; omega) _, h.len⟩
  have := heap_setCell_atB h.box 1 (.int .i64 (m : Int))
  simpa using this
/-- copy(c.bytes[c.at:], s). -/
theorem step_letters {w : World} {C G k pf gf : Nat} {old : Bool} {L : List Int} {s : ByteArray} {ops : Array Oper} {o : Oper} {a : Act} {K : Act → World → Prop} {Q : Exit → Act → World → Prop} {E : Prop} (h : Cur w C G old pf gf k L) (hs : k + s.size ≤ 128) (hgd : o.guard = none) (d x : Operand)
    (ho : o.op = .call { callee := .builtin .copy, args := #[d, x], argTypes := #[43, 9] }) (dl dc : Nat) (hdl : dl = 128 - k) (hd : a.eval d = .slice (some ⟨G, k, none⟩) dl dc) (hx : a.eval x = .string s)
    (hK : ∀ w', Cur w' C G old pf gf k (lay L k (strB s)) → Fr (fun g => g = C ∨ g = G) w w' → K (a.put o.dst (.int .i64 s.size)) w') :
    if Region.wanted o (yielded ops a.tmps) = true then Oper.wp Tryz.prog o a w K Q else E := by
  obtain ⟨i0, hi, hz0, hz1, hz2⟩ := info_parts info_u8
  rw [if_pos (by simp [Region.wanted, hgd])]
  have hne := h.ne
  rcases h.row.2 with ⟨h0, _⟩ | ⟨g, cap, cur, h0, _, hgg, hc1, hc2, hcs, hct⟩
  · cases h0
  injection h0 with h1 _ h3
  injection h1 with h2
  injection h2 with h4
  subst h4 h3
  have hcur : cur.toList = u8s L := by
    rw [← hct, List.take_of_length_le (by rw [Array.length_toList, hcs]; omega)]
  have hrun := Lib.run_copy_row_string (P := Tryz.prog) w 43 9 o.type 5 G k dl dc s cur 5 Tryz.underlying43 (by rw [hi]; simp [hz1]) hgg (by omega) (by rw [hcs]; omega)
  have hcells : (cur.toList.take k ++ Lib.byteCells s.data.toList ++ cur.toList.drop (k + s.size)).toArray = (u8s (lay L k (strB s))).toArray := by
    rw [hcur, lay, strB_len]
    simp [u8s, strB, Lib.byteCells, List.map_take, List.map_drop]
  rw [hcells] at hrun
  unfold Oper.wp execOp
  simp only [ho, resolve, invoke, builtin, Sem.run_bind, Sem.run_pure, Result.andThen_ok, List.map_toArray, List.map_cons, List.map_nil, hd, hx, hrun]
  refine hK _ ⟨?_, ?_, ?_⟩ ⟨rfl, rfl, rfl, by simp [World.setRow], fun j _ hj => setRow_other w G j _ (fun e => hj (.inr e))⟩
  · exact (setRow_other w G C _ hne).trans h.box
  · have hl : (lay L k (strB s)).length = 128 := by rw [lay_len (by rw [strB_len, h.len]; exact hs)]; exact h.len
    refine ⟨by simp [u8s, hl], .inr ⟨G, 128, (u8s (lay L k (strB s))).toArray, rfl, Nat.zero_le _, setRow_heap w G cur _ _ _ hgg, Nat.le_refl _, by unfold maxLen; omega, by simp [u8s, hl], ?_⟩⟩
    rw [List.take_of_length_le (by simp [u8s, hl])]
  · rw [lay_len (by rw [strB_len, h.len]; exact hs)]; exact h.len

set_option maxHeartbeats 800000 in
theorem putLetters_any (C G k pf gf : Nat) (old : Bool) (L : List Int) (s : ByteArray) (w : World) (h : Cur w C G old pf gf k L) (hk : k + s.size ≤ 128) (hk1 : k < 128) :
    Calls Tryz.prog 108 #[.pointer (some ⟨C, 0, none⟩), .string s] w fun e w' => e = .returned (.tuple #[]) ∧ Wrote w w' C G old pf gf k L (strB s) := by
  obtain ⟨e0, e1, e2, e3, e4⟩ := h.cells
  have hfC : ∀ o, w.frozen? ⟨C, o, none⟩ = false := by intro o; simp [World.frozen?, h.box]
  have hki : (k : Int) ≤ 128 := by omega
  go_enter Tryz.func108, Tryz.ntmps108
  go_wp2_with fail
  have hks : (k : Int) ≠ 128 := by omega
  have hks2 : ¬ 128 = k := by omega
  go_region_law (first
      | (refine step_letters h.drew hk rfl (.tmp 16) (.tmp 17) rfl (128 - k) (128 - k) rfl (by first | rfl | (simp [Act.eval]; done)) (by first | rfl | (simp [Act.eval]; done)) ?_; intro w1 hc1 hf1; obtain ⟨q0, q1, _⟩ := hc1.cells; have hfq : w1.frozen? ⟨C, 1, none⟩ = false := by simp [World.frozen?, hc1.box]))
  all_goals
    have hwr : IntKind.i64.wrap ((k : Int) + (s.size : Int)) = ((k + s.size : Nat) : Int) := by rw [IntKind.wrap_i64]; omega
    go_wp2
    go_end0
    rw [hwr]
    refine ⟨rfl, ?_, fr_setB ((Fr.of_below (Below.refl _ _).drew).trans hf1) (.inl rfl) _⟩
    rw [strB_len]
    exact hc1.move (k + s.size)
end Go.Proofs.YtnpndbicmamggaaGreat
namespace Go.Proofs.YtnpndbicmamggaaGreat
open Go.RowKit
set_option linter.unusedVariables false
set_option maxRecDepth 100000

theorem bytesAt_sub {w : World} {A B g o c n : Nat} {bs : List Int} (h : BytesAt w A B (some ⟨g, o, none⟩) n c bs) (k m : Nat) (hk : k + m ≤ n) (hn : 0 < n) : BytesAt w A B (some ⟨g, o + k, none⟩) m (c - k) ((bs.drop k).take m) := by
  obtain ⟨hl, hnc, hc, hw, hcell, hnil⟩ := h
  obtain ⟨b, off, e1, e2, e3⟩ := hcell hn
  cases e1
  refine ⟨by simp; omega, by omega, by omega, fun x hx => hw x (List.mem_of_mem_drop (List.mem_of_mem_take hx)), fun _ => ⟨g, o + k, rfl, e2, fun i hi => ?_⟩, fun h => by cases h⟩
  rw [Nat.add_assoc, e3 (k + i) (by omega)]
  simp [List.getD, hi]
/-- A cursor that reads 128 bytes. -/
structure RCur (w : World) (C g o c : Nat) (old : Bool) (pf gf k : Nat) : Prop where
  box : w.heap[C]? = some (.cells #[.slice (some ⟨g, o, none⟩) 128 c, .int .i64 k, .bool old, .func (.func pf) #[.pointer (some ⟨C, 0, none⟩)] #[], .func (.func gf) #[.pointer (some ⟨C, 0, none⟩)] #[]] 110)
theorem RCur.cells {w : World} {C g o c pf gf k : Nat} {old : Bool} (h : RCur w C g o c old pf gf k) : w.cell? ⟨C, 0, none⟩ = some (.slice (some ⟨g, o, none⟩) 128 c) ∧ w.cell? ⟨C, 1, none⟩ = some (.int .i64 k) ∧ w.cell? ⟨C, 2, none⟩ = some (.bool old) ∧ w.cell? ⟨C, 3, none⟩ = some (.func (.func pf) #[.pointer (some ⟨C, 0, none⟩)] #[]) ∧ w.cell? ⟨C, 4, none⟩ = some (.func (.func gf) #[.pointer (some ⟨C, 0, none⟩)] #[]) := by
  refine ⟨?_, ?_, ?_, ?_, ?_⟩ <;> simp [World.cell?, h.box]
theorem RCur.drew {w : World} {C g o c pf gf k : Nat} {old : Bool} (h : RCur w C g o c old pf gf k) : RCur w.drew C g o c old pf gf k := ⟨h.box⟩
/-- The cursor went on to k'; nothing else was written. -/
def Mv (w w' : World) (C g o c : Nat) (old : Bool) (pf gf k : Nat) : Prop := RCur w' C g o c old pf gf k ∧ Fr (fun x => x = C) w w'
theorem Mv.of_set {w : World} {C g o c pf gf k : Nat} {old : Bool} (h : RCur w C g o c old pf gf k) (k' : Nat) : Mv w (w.setCell ⟨C, 1, none⟩ (.int .i64 k')) C g o c old pf gf k' := by
  refine ⟨⟨?_⟩, ?_⟩
  · simp [World.setCell, Array.getElem?_modify, h.box]
  · exact ⟨rfl, rfl, rfl, by simp [World.setCell], fun k _ hk => Below.heap_setCell w ⟨C, 1, none⟩ _ k hk⟩
theorem Mv.trans {w w1 w2 : World} {C g o c pf gf k k' : Nat} {old : Bool} (h : Mv w w1 C g o c old pf gf k) (h2 : Mv w1 w2 C g o c old pf gf k') : Mv w w2 C g o c old pf gf k' := ⟨h2.1, h.2.trans h2.2⟩
theorem Mv.redraw {w w1 : World} {C g o c pf gf k : Nat} {old : Bool} (h : Mv w.drew w1 C g o c old pf gf k) : Mv w w1 C g o c old pf gf k := ⟨h.1, (Fr.of_below (Below.refl _ _).drew).trans h.2⟩

theorem Mv.drewN {w w1 : World} {C g o c pf gf k : Nat} {old : Bool} (h : Mv w w1 C g o c old pf gf k) (q : Nat) : Mv w (w1.drewN q) C g o c old pf gf k := ⟨⟨h.1.box⟩, h.2.trans (Fr.of_below ⟨rfl, rfl, rfl, Nat.le_refl _, fun _ _ => rfl⟩)⟩
theorem BytesAt.fr {w w' : World} {A B C : Nat} {a : Option Addr} {n c : Nat} {bs : List Int} (h : BytesAt w A B a n c bs) (hf : Fr (fun x => x = C) w w') (hB : B ≤ C) (hs : B ≤ w.heap.size) : BytesAt w' A B a n c bs :=
  h.keep fun k k1 k2 => hf.block k (by omega) (by omega)
/-- What is left of 128 bytes at k, at most n. -/
def cutL (bs : List Int) (k n : Nat) : List Int := (bs.drop k).take (min (k + n) 128 - k)
theorem cutL_len {bs : List Int} (h : bs.length = 128) (k n : Nat) : (cutL bs k n).length = min (k + n) 128 - k := by simp [cutL, h]; omega
theorem bytesAt_none {w : World} {A B : Nat} (a : Addr) (c : Nat) (hc : c ≤ maxLen) : BytesAt w A B (some a) 0 c [] :=
  ⟨rfl, Nat.zero_le _, hc, (by intro x hx; cases hx), fun h => absurd h (Nat.lt_irrefl _), (by intro h; cases h)⟩
set_option maxHeartbeats 800000 in
theorem take_any (C g o c pf gf k : Nat) (old : Bool) (n : Nat) (hn : n ≤ 255) (hk : k ≤ 128) (bs : List Int) (A B : Nat) (hBC : B ≤ C) (w : World) (hBs : B ≤ w.heap.size) (hB : BytesAt w A B (some ⟨g, o, none⟩) 128 c bs) (h : RCur w C g o c old pf gf k) :
    Calls Tryz.prog 79 #[.pointer (some ⟨C, 0, none⟩), .int .i64 n] w fun e w' => ∃ a' c', e = .returned (.slice a' (min (k + n) 128 - k) c') ∧ BytesAt w' A B a' (min (k + n) 128 - k) c' (cutL bs k n) ∧ Mv w w' C g o c old pf gf (min (k + n) 128) := by
  have hc : 128 ≤ c := hB.2.1
  have hcm : c ≤ maxLen := hB.2.2.1
  obtain ⟨c0, c1, c2, c3, c4⟩ := h.cells
  have hf : ∀ j, w.frozen? ⟨C, j, none⟩ = false := by intro j; simp [World.frozen?, h.box]
  have hcm2 := hcm
  unfold maxLen at hcm
  have hlB : bs.length = 128 := hB.1
  by_cases hlt : k + n ≤ 128
  · have hmn : min (k + n) 128 = k + n := by omega
    have HC : Hid (BytesAt w A B (some ⟨g, o + k, none⟩) (k + n - k) (c - k) (cutL bs k n)) := by
      have := bytesAt_sub hB k n hlt (by omega)
      show BytesAt _ _ _ _ _ _ _
      rw [cutL, hmn, Nat.add_sub_cancel_left]; exact this
    have HZ : Hid (n = 0 → BytesAt w A B (some ⟨g, o, none⟩) (k + n - k) 0 (cutL bs k n)) := by
      intro h0; subst h0
      have e : cutL bs k 0 = [] := by rw [cutL, hmn]; simp
      rw [e, Nat.add_sub_cancel_left]; exact bytesAt_none _ 0 (Nat.zero_le _)
    have HM : Hid (Mv w (w.setCell ⟨C, 1, none⟩ (.int .i64 ((k + n : Nat) : Int))) C g o c old pf gf (k + n)) := Mv.of_set h (k + n)
    rw [hmn]
    have hgt : ¬ (128 : Int) < (k : Int) + (n : Int) := by omega
    have HM' : Hid (Mv w (w.setCell ⟨C, 1, none⟩ (.int .i64 ((k : Int) + (n : Int)))) C g o c old pf gf (k + n)) := by
      have e : ((k : Int) + (n : Int)) = ((k + n : Nat) : Int) := by omega
      rw [e]; exact HM
    have HR : Hid (∀ q a' c', BytesAt w A B a' (k + n - k) c' (cutL bs k n) → BytesAt ((w.setCell ⟨C, 1, none⟩ (.int .i64 ((k : Int) + (n : Int)))).drewN q) A B a' (k + n - k) c' (cutL bs k n)) := fun q a' c' hb => hb.fr (HM'.out.drewN q).2 hBC hBs
    clear HM hB
    by_cases hck : c = k
    · go_enter Tryz.func79, Tryz.ntmps79
      go_wp2
      obtain ⟨d0, d1, d2, d3, d4⟩ := HM'.out.1.cells
      generalize w.setCell ⟨C, 1, none⟩ (.int .i64 ((k : Int) + (n : Int))) = w1 at HM' HR d0 d1 d2 d3 d4 ⊢
      clear c0 c1 c2 c3 c4 hf
      go_quiet (fail)
      go_wp2
      go_ret
      exact ⟨_, _, rfl, HR.out _ _ _ (HZ.out (by omega)), HM'.out.drewN _⟩
    · go_enter Tryz.func79, Tryz.ntmps79
      go_wp2
      obtain ⟨d0, d1, d2, d3, d4⟩ := HM'.out.1.cells
      generalize w.setCell ⟨C, 1, none⟩ (.int .i64 ((k : Int) + (n : Int))) = w1 at HM' HR d0 d1 d2 d3 d4 ⊢
      clear c0 c1 c2 c3 c4 hf
      go_quiet (fail)
      go_wp2
      go_ret
      exact ⟨_, _, rfl, HR.out _ _ _ HC.out, HM'.out.drewN _⟩
  · have hmn : min (k + n) 128 = 128 := by omega
    have HC : Hid (BytesAt w A B (some ⟨g, o + k, none⟩) (128 - k) (c - k) (cutL bs k n)) := by
      have := bytesAt_sub hB k (128 - k) (by omega) (by omega)
      show BytesAt _ _ _ _ _ _ _
      rw [cutL, hmn]; exact this
    have HZ : Hid (128 - k = 0 → BytesAt w A B (some ⟨g, o, none⟩) (128 - k) 0 (cutL bs k n)) := by
      intro h0
      have e : cutL bs k n = [] := by rw [cutL, hmn, h0]; simp
      rw [e, h0]; exact bytesAt_none _ 0 (Nat.zero_le _)
    have HM : Hid (Mv w (w.setCell ⟨C, 1, none⟩ (.int .i64 128)) C g o c old pf gf 128) := Mv.of_set h 128
    have HR : Hid (∀ q a' c', BytesAt w A B a' (128 - k) c' (cutL bs k n) → BytesAt ((w.setCell ⟨C, 1, none⟩ (.int .i64 128)).drewN q) A B a' (128 - k) c' (cutL bs k n)) := fun q a' c' hb => hb.fr (HM.out.drewN q).2 hBC hBs
    rw [hmn]
    have hgt : (128 : Int) < (k : Int) + (n : Int) := by omega
    clear hB
    by_cases hck : c = k
    · go_enter Tryz.func79, Tryz.ntmps79
      go_wp2
      obtain ⟨d0, d1, d2, d3, d4⟩ := HM.out.1.cells
      generalize w.setCell ⟨C, 1, none⟩ (.int .i64 128) = w1 at HM HR d0 d1 d2 d3 d4 ⊢
      clear c0 c1 c2 c3 c4 hf
      go_quiet (fail)
      go_wp2
      go_ret
      exact ⟨_, _, rfl, HR.out _ _ _ (HZ.out (by omega)), HM.out.drewN _⟩
    · go_enter Tryz.func79, Tryz.ntmps79
      go_wp2
      obtain ⟨d0, d1, d2, d3, d4⟩ := HM.out.1.cells
      generalize w.setCell ⟨C, 1, none⟩ (.int .i64 128) = w1 at HM HR d0 d1 d2 d3 d4 ⊢
      clear c0 c1 c2 c3 c4 hf
      go_quiet (fail)
      go_wp2
      go_ret
      exact ⟨_, _, rfl, HR.out _ _ _ HC.out, HM.out.drewN _⟩
end Go.Proofs.YtnpndbicmamggaaGreat
namespace Go.Proofs.YtnpndbicmamggaaGreat
open Go.RowKit
set_option linter.unusedVariables false
set_option maxRecDepth 100000

set_option maxHeartbeats 400000 in
theorem l1In_any (x lo hi : Int) (w : World) :
    Calls Tryz.prog 42 #[.int .i64 x, .int .i64 lo, .int .i64 hi] w fun e w' => e = .returned (.bool (decide (lo ≤ x ∧ x ≤ hi))) ∧ w' = w := by
  by_cases h1 : lo ≤ x
  · go_enter Tryz.func42, Tryz.ntmps42
    go_wp2
    go_ret
    exact ⟨by simp [h1], rfl⟩
  · have hd : decide (lo ≤ x) = false := by simp; omega
    go_enter Tryz.func42, Tryz.ntmps42
    go_wp2
    go_ret
    exact ⟨by simp, rfl⟩
end Go.Proofs.YtnpndbicmamggaaGreat
namespace Go.Proofs.YtnpndbicmamggaaGreat
open Go.RowKit
set_option linter.unusedVariables false
set_option maxRecDepth 100000

/-- A name, as the document has it. -/
def okBytes (l : List UInt8) : Bool := l.all fun c => decide (97 ≤ c.toNat ∧ c.toNat ≤ 122)
def nameB (s : ByteArray) : Bool := decide (1 ≤ s.size) && decide (s.size ≤ 8) && okBytes s.data.toList
theorem okBytes_snoc (l : List UInt8) (c : UInt8) : okBytes (l ++ [c]) = (okBytes l && decide (97 ≤ c.toNat ∧ c.toNat ≤ 122)) := by simp [okBytes]
theorem okBytes_take_false (l : List UInt8) (k : Nat) (h : okBytes (l.take k) = false) : okBytes l = false := by
  cases hl : okBytes l
  · rfl
  · exfalso
    have : okBytes (l.take k) = true := by
      simp only [okBytes, List.all_eq_true] at hl ⊢
      exact fun x hx => hl x (List.mem_of_mem_take hx)
    rw [this] at h; cases h
theorem take_snocB (s : ByteArray) (k : Nat) (h : k < s.size) : s.data.toList.take (k + 1) = s.data.toList.take k ++ [s[k]] := by
  rw [List.take_succ_eq_append_getElem (by simpa using h)]; rfl
theorem name_long {s : ByteArray} (h : s.size < 1 ∨ 8 < s.size) : nameB s = false := by
  unfold nameB
  rcases h with h | h
  · simp [show ¬ 1 ≤ s.size by omega]
  · simp [show ¬ s.size ≤ 8 by omega]
theorem name_bad {s : ByteArray} {k : Nat} (hk : k < s.size) (h : ((s[k].toNat : Int) < 97) ∨ (122 : Int) < (s[k].toNat : Int)) : nameB s = false := by
  have h2 : okBytes (s.data.toList.take (k + 1)) = false := by
    rw [take_snocB s k hk, okBytes_snoc]
    rw [show decide (97 ≤ s[k].toNat ∧ s[k].toNat ≤ 122) = false by simp; omega]; simp
  unfold nameB
  rw [okBytes_take_false _ _ h2]; simp
theorem name_good {s : ByteArray} (h1 : 1 ≤ s.size) (h2 : s.size ≤ 8) (h : okBytes (s.data.toList.take s.size) = true) : nameB s = true := by
  unfold nameB
  rw [List.take_of_length_le (by simp)] at h
  simp [h1, h2, h]
theorem name_step {s : ByteArray} {k : Nat} (hk : k < s.size) (h : okBytes (s.data.toList.take k) = true) (h1 : (97 : Int) ≤ (s[k].toNat : Int)) (h2 : (s[k].toNat : Int) ≤ 122) : okBytes (s.data.toList.take (k + 1)) = true := by
  rw [take_snocB s k hk, okBytes_snoc, h]
  simp; omega
theorem bytes_ext {a b : ByteArray} (h : a.toList = b.toList) : a = b := by
  rw [ByteArray.toList_eq, ByteArray.toList_eq] at h
  cases a; cases b; simp at h; subst h; rfl
theorem same_no {a b : ByteArray} (h : a ≠ b) : (a.toList == b.toList) = false := by
  cases hb : (a.toList == b.toList)
  · rfl
  · exact absurd (bytes_ext (eq_of_beq hb)) h
theorem same_yes {a b : ByteArray} (h : a = b) : (a.toList == b.toList) = true := by subst h; simp

/-- Where a name stands among files: its number, or -1. -/
def findN (fs : List PF) (nm : ByteArray) : Nat := fs.findIdx (fun f => decide (f.1 = nm))
def findI (fs : List PF) (nm : ByteArray) : Int := if findN fs nm < fs.length then (findN fs nm : Int) else -1
theorem findI_none {fs : List PF} {nm : ByteArray} (h : ∀ j, j < fs.length → (fs.getD j (ByteArray.empty, [])).1 ≠ nm) : findI fs nm = -1 := by
  unfold findI
  rw [if_neg]
  intro hlt
  have h1 := h _ hlt
  unfold findN at h1 hlt
  have h2 := List.findIdx_getElem (w := hlt)
  simp only [List.getD, List.getElem?_eq_getElem hlt, Option.getD_some] at h1
  exact h1 (of_decide_eq_true h2)
theorem findN_at {fs : List PF} {nm : ByteArray} {k : Nat} (hk : k < fs.length) (h : ∀ j, j < k → (fs.getD j (ByteArray.empty, [])).1 ≠ nm) (h2 : (fs.getD k (ByteArray.empty, [])).1 = nm) : findN fs nm = k := by
  unfold findN
  rw [List.findIdx_eq hk]
  refine ⟨by simpa [List.getD, List.getElem?_eq_getElem hk] using h2, fun j hj => ?_⟩
  simpa [List.getD, List.getElem?_eq_getElem (show j < fs.length by omega)] using h j hj
theorem findI_at {fs : List PF} {nm : ByteArray} {k : Nat} (hk : k < fs.length) (h : ∀ j, j < k → (fs.getD j (ByteArray.empty, [])).1 ≠ nm) (h2 : (fs.getD k (ByteArray.empty, [])).1 = nm) : findI fs nm = k := by
  unfold findI
  rw [findN_at hk h h2, if_pos hk]
theorem findI_cases (fs : List PF) (nm : ByteArray) : (findI fs nm = -1 ∧ findN fs nm = fs.length) ∨ (findI fs nm = findN fs nm ∧ findN fs nm < fs.length) := by
  unfold findI
  have : findN fs nm ≤ fs.length := List.findIdx_le_length
  split
  · exact .inr ⟨rfl, by assumption⟩
  · exact .inl ⟨rfl, by omega⟩

/-- How many pages a file of this name has. -/
def lenI (fs : List PF) (nm : ByteArray) : Int := if findN fs nm < fs.length then ((fs.getD (findN fs nm) (ByteArray.empty, [])).2.length : Int) / 128 else 0
/-- The pages of all files. -/
def totalI : List PF → Int
  | [] => 0
  | f :: r => (f.2.length : Int) / 128 + totalI r
theorem totalI_append (xs ys : List PF) : totalI (xs ++ ys) = totalI xs + totalI ys := by
  induction xs with
  | nil => simp [totalI]
  | cons x r ih => simp [totalI, ih]; omega
theorem totalI_bd (xs : List PF) : 0 ≤ totalI xs ∧ totalI xs ≤ wFiles xs := by
  induction xs with
  | nil => simp [totalI, wFiles]
  | cons x r ih => simp [totalI, wFiles, wFile]; omega
theorem totalI_take_le (xs : List PF) (k : Nat) : totalI (xs.take k) ≤ totalI xs := by
  have h := totalI_append (xs.take k) (xs.drop k)
  rw [List.take_append_drop] at h
  have := (totalI_bd (xs.drop k)).1
  omega
theorem wFiles_take_le (xs : List PF) (k : Nat) : wFiles (xs.take k) ≤ wFiles xs := by
  have h := wFiles_append (xs.take k) (xs.drop k)
  rw [List.take_append_drop] at h
  have := wFiles_nonneg (xs.drop k)
  omega
theorem wFiles_get (xs : List PF) (k : Nat) (hk : k < xs.length) : ((xs.getD k (ByteArray.empty, [])).1.size : Int) + ((xs.getD k (ByteArray.empty, [])).2.length : Int) ≤ wFiles xs := by
  induction xs generalizing k with
  | nil => simp at hk
  | cons x r ih =>
    cases k with
    | zero => have := wFiles_nonneg r; simp [wFiles, wFile]; omega
    | succ k =>
      have h1 := ih k (by simpa using hk)
      simp only [wFiles, wFile]
      simp only [List.getD_cons_succ]
      omega
theorem wPends_get (xs : List PP) (k : Nat) (hk : k < xs.length) : ((xs.getD k (ByteArray.empty, 0, [])).1.size : Int) + ((xs.getD k (ByteArray.empty, 0, [])).2.2.length : Int) ≤ wPends xs := by
  induction xs generalizing k with
  | nil => simp at hk
  | cons x r ih =>
    cases k with
    | zero => have := wPends_nonneg r; simp [wPends, wPend]; omega
    | succ k =>
      have h1 := ih k (by simpa using hk)
      simp only [wPends, wPend]
      simp only [List.getD_cons_succ]
      omega
/-- 'a >= b' on names. -/
def geB (a b : ByteArray) : Bool := !Op.bytesLess a.toList b.toList
/-- One file of a list is as it should be. -/
def fileOk (fs : List PF) (i : Nat) : Bool :=
  nameB (fs.getD i (ByteArray.empty, [])).1 && !((fs.getD i (ByteArray.empty, [])).2.length == 0) && ((fs.getD i (ByteArray.empty, [])).2.length % 128 == 0) && !(decide (0 < i) && geB (fs.getD (i - 1) (ByteArray.empty, [])).1 (fs.getD i (ByteArray.empty, [])).1)
def filesOk (fs : List PF) : Bool := decide (∀ i, i < fs.length → fileOk fs i = true)
theorem filesOk_no {fs : List PF} {i : Nat} (hi : i < fs.length) (h : fileOk fs i = false) : filesOk fs = false := by
  unfold filesOk
  rw [decide_eq_false_iff_not]
  intro h2
  rw [h2 i hi] at h
  cases h
theorem filesOk_yes {fs : List PF} (h : ∀ i, i < fs.length → fileOk fs i = true) : filesOk fs = true := by
  unfold filesOk
  exact decide_eq_true h
end Go.Proofs.YtnpndbicmamggaaGreat
