import Derived.Test.YtjbifddhbcfdcaaGreatJQ
import Derived.Test.YtjbifddhbcfdcaaGreatPgL
import Derived.Test.YtjbifddhbcfdcaaGreatJR
import Derived.WalkLawsBesides
import Derived.Laws.EntriesVeiled
import Derived.WideLaws
import Derived.Deep.RegionHeld3
import Derived.Lib.BufferWrite
namespace Go.Proofs.YtjbifddhbcfdcaaGreat
open Go.RowKit
set_option linter.unusedVariables false
set_option maxRecDepth 100000

/-- bs laid over L from place k on. -/
def lay (L : List Int) (k : Nat) (bs : List Int) : List Int := L.take k ++ bs ++ L.drop (k + bs.length)
theorem lay_len {L : List Int} {k : Nat} {bs : List Int} (h : k + bs.length ≤ L.length) : (lay L k bs).length = L.length := by simp [lay]; omega
theorem lay_nil (L : List Int) (k : Nat) : lay L k [] = L := by simp [lay]
theorem lay_lay {L : List Int} {k : Nat} {ds bs : List Int} (h : k + ds.length ≤ L.length) : lay (lay L k ds) (k + ds.length) bs = lay L k (ds ++ bs) := by
  have h1 : (L.take k ++ ds).length = k + ds.length := by simp; omega
  unfold lay
  rw [List.take_append_of_le_length (by omega), List.take_of_length_le (by omega)]
  rw [show k + ds.length + bs.length = (L.take k ++ ds).length + bs.length by omega, List.drop_append, List.drop_drop, List.drop_eq_nil_of_le (by omega)]
  simp only [List.length_append, List.nil_append]
  rw [List.append_assoc (L.take k) ds bs]
  congr 2
  simp
  omega
theorem lay_set {L : List Int} {k : Nat} {x : Int} (h : k < L.length) : L.set k x = lay L k [x] := by
  rw [lay, List.set_eq_take_append_cons_drop, if_pos h]; simp

theorem heap_setCell_atB {w : World} {b t : Nat} {cs : Array Value} (h : w.heap[b]? = some (.cells cs t (0, 0))) (o : Nat) (v : Value) : (w.setCell ⟨b, o, none⟩ v).heap[b]? = some (.cells (cs.setIfInBounds o v) t (0, 0)) := by
  obtain ⟨hlt, hk⟩ := Array.getElem?_eq_some_iff.1 h
  show (w.heap.modify b _)[b]? = _
  rw [Array.getElem?_eq_getElem (by rw [Array.size_modify]; exact hlt), Array.getElem_modify_self, hk]
  rfl
theorem fr_setB {S : Nat → Prop} {w w' : World} (h : Fr S w w') {g o : Nat} (hS : S g) (u : Value) : Fr S w (w'.setCell ⟨g, o, none⟩ u) :=
  h.trans ⟨rfl, rfl, rfl, by simp [World.setCell], fun k _ hk => Below.heap_setCell w' _ u k (fun e => hk (e ▸ hS))⟩

/-- A cursor at block C over the bytes of block G, at place k. -/
structure Cur (w : World) (C G : Nat) (old : Bool) (pf gf : Nat) (k : Nat) (L : List Int) : Prop where
  box : w.heap[C]? = some (.cells #[.slice (some ⟨G, 0, none⟩) 128 128, .int .i64 k, .bool old, .func (.func pf) #[.pointer (some ⟨C, 0, none⟩)] #[], .func (.func gf) #[.pointer (some ⟨C, 0, none⟩)] #[]] 110)
  row : w.ownsRow 0 5 1 (.slice (some ⟨G, 0, none⟩) 128 128) 128 (u8s L)
  len : L.length = 128
theorem Cur.ne {w : World} {C G k pf gf : Nat} {old : Bool} {L : List Int} (h : Cur w C G old pf gf k L) : C ≠ G := by
  intro e
  subst e
  rcases h.row.2 with ⟨h0, _⟩ | ⟨g, cap, cur, h0, _, hgg, _⟩
  · cases h0
  · injection h0 with h1
    injection h1 with h2
    injection h2 with h3
    subst h3
    rw [h.box] at hgg
    injection hgg with h4
    injection h4 with _ h5
    exact absurd h5 (by decide)
theorem Cur.drew {w : World} {C G k pf gf : Nat} {old : Bool} {L : List Int} (h : Cur w C G old pf gf k L) : Cur w.drew C G old pf gf k L := ⟨h.box, h.row.drew, h.len⟩
/-- What a write through the cursor does. -/
def Wrote (w w' : World) (C G : Nat) (old : Bool) (pf gf : Nat) (k : Nat) (L bs : List Int) : Prop := Cur w' C G old pf gf (k + bs.length) (lay L k bs) ∧ Fr (fun g => g = C ∨ g = G) w w'
theorem Wrote.drew {w w' : World} {C G k pf gf : Nat} {old : Bool} {L bs : List Int} (h : Wrote w w' C G old pf gf k L bs) : Wrote w w'.drew C G old pf gf k L bs := ⟨h.1.drew, h.2.trans (Fr.of_below (Below.refl _ _).drew)⟩
theorem Wrote.trans {w w' w'' : World} {C G k pf gf : Nat} {old : Bool} {L ds bs : List Int} (h : Wrote w w' C G old pf gf k L ds) (hl : k + ds.length ≤ L.length) (h2 : Wrote w' w'' C G old pf gf (k + ds.length) (lay L k ds) bs) : Wrote w w'' C G old pf gf k L (ds ++ bs) := by
  obtain ⟨h3, h4⟩ := h2
  rw [lay_lay hl, Nat.add_assoc, ← List.length_append] at h3
  exact ⟨h3, h.2.trans h4⟩

set_option maxHeartbeats 800000 in
theorem putByte_any (C G k pf gf : Nat) (old : Bool) (L : List Int) (x : Int) (w : World) (h : Cur w C G old pf gf k L) (hk : k < 128) :
    Calls Tryz.prog 78 #[.pointer (some ⟨C, 0, none⟩), .int .u8 x] w fun e w' => e = .returned (.tuple #[]) ∧ Wrote w w' C G old pf gf k L [x] := by
  have e0 : w.cell? ⟨C, 0, none⟩ = some (.slice (some ⟨G, 0, none⟩) 128 128) := by simp [World.cell?, h.box]
  have e1 : w.cell? ⟨C, 1, none⟩ = some (.int .i64 k) := by simp [World.cell?, h.box]
  go_enter Tryz.func78, Tryz.ntmps78
  have hki : (k : Int) < 128 := by omega
  have hne := h.ne
  have hne' := hne.symm
  have hf := h.row.frozenAt k
  have hfC : ∀ o, w.frozen? ⟨C, o, none⟩ = false := by intro o; simp [World.frozen?, h.box]
  obtain ⟨u, hu⟩ : ∃ u, w.cell? ⟨G, k, none⟩ = some u := ⟨_, by rw [h.row.cellAt k (by omega)]; exact List.getElem?_eq_getElem (by simp [u8s, h.len]; omega)⟩
  go_wp2
  go_region_held3 (fun w' => w'.cell? ⟨C, 0, none⟩ = some (.slice (some ⟨G, 0, none⟩) 128 128) ∧ w'.cell? ⟨C, 1, none⟩ = some (.int .i64 k)) (go_keep) (fail)
  go_wp2
  go_end0
  have R : Wrote w ((w.setCell ⟨G, k, none⟩ (.int .u8 x)).setCell ⟨C, 1, none⟩ (.int .i64 ((k : Int) + 1))) C G old pf gf k L [x] := by
    refine ⟨?_, ?_⟩
    · have hrow := (h.row.stored k (.int .u8 x)).1
      have hbx : (w.setCell ⟨G, k, none⟩ (.int .u8 x)).heap[C]? = _ := (Below.heap_setCell w ⟨G, k, none⟩ (.int .u8 x) C hne).trans h.box
      refine ⟨?_, ?_, ?_⟩
      · have := heap_setCell_atB hbx 1 (.int .i64 ((k : Int) + 1))
        simpa using this
      · rw [← lay_set (by rw [h.len]; exact hk)]
        have := owns_set hrow (p := ⟨C, 1, none⟩) (fun g e e' => by simp [Value.ownBlock] at e; simp at e'; omega) (.int .i64 ((k : Int) + 1))
        simpa [u8s, List.map_set] using this
      · rw [lay_len (by simp [h.len]; omega)]; exact h.len
    · exact fr_setB (o := 1) (fr_setB (Fr.refl _ _) (.inr rfl) _) (g := C) (.inl rfl) (.int .i64 ((k : Int) + 1))
  exact ⟨rfl, R.drew⟩

theorem shr8_pow (x : Int) : ∀ m, shr8 m x = x / 2 ^ (8 * m)
  | 0 => by simp [shr8]
  | m + 1 => by
    rw [shr8, shr8_pow x m, Int.ediv_ediv_of_nonneg (Int.le_of_lt (Int.pow_pos (by omega)))]
    congr 1
    rw [show 8 * (m + 1) = 8 * m + 8 by omega, Int.pow_add]
    rfl
theorem leB_get (x : Int) : ∀ n i, i < n → (leB n x)[i]? = some (shr8 i x % 256) := by
  intro n
  induction n with
  | zero => intro i h; omega
  | succ n ih =>
    intro i h
    rw [leB_snoc]
    by_cases hi : i < n
    · rw [List.getElem?_append_left (by rw [leB_len]; exact hi)]; exact ih i hi
    · obtain rfl : i = n := by omega
      rw [List.getElem?_append_right (by rw [leB_len]; omega), leB_len]; simp
theorem beB_get (x : Int) {n i : Nat} (h : i < n) : (beB n x)[i]? = some (x / 2 ^ (8 * (n - 1 - i)) % 256) := by
  rw [beB, List.getElem?_reverse (by rw [leB_len]; exact h), leB_len, leB_get x n (n - 1 - i) (by omega), shr8_pow]
theorem beB_take (x : Int) {n i : Nat} (h : i < n) : (beB n x).take (i + 1) = (beB n x).take i ++ [x / 2 ^ (8 * (n - 1 - i)) % 256] := by
  rw [List.take_add_one, beB_get x h]; rfl
theorem wrote_nil {w : World} {C G k pf gf : Nat} {old : Bool} {L : List Int} (h : Cur w C G old pf gf k L) : Wrote w w C G old pf gf k L [] := ⟨by rw [lay_nil]; exact h, Fr.refl _ _⟩

/-- What the cursor's way of writing numbers does. -/
def PutNum (C G : Nat) (old : Bool) (pf gf : Nat) : Prop := ∀ (k : Nat) (L : List Int) (x : Int) (n : Nat) (w : World), I64 x → n ≤ 8 → Cur w C G old pf gf k L → k + n ≤ 128 →
  Calls Tryz.prog pf #[.pointer (some ⟨C, 0, none⟩), .int .i64 x, .int .i64 n] w fun e w' => e = .returned (.tuple #[]) ∧ Wrote w w' C G old pf gf k L (numB old n x)
theorem Cur.cells {w : World} {C G k pf gf : Nat} {old : Bool} {L : List Int} (h : Cur w C G old pf gf k L) : w.cell? ⟨C, 0, none⟩ = some (.slice (some ⟨G, 0, none⟩) 128 128) ∧ w.cell? ⟨C, 1, none⟩ = some (.int .i64 k) ∧ w.cell? ⟨C, 2, none⟩ = some (.bool old) ∧ w.cell? ⟨C, 3, none⟩ = some (.func (.func pf) #[.pointer (some ⟨C, 0, none⟩)] #[]) ∧ w.cell? ⟨C, 4, none⟩ = some (.func (.func gf) #[.pointer (some ⟨C, 0, none⟩)] #[]) := by
  refine ⟨?_, ?_, ?_, ?_, ?_⟩ <;> simp [World.cell?, h.box]
end Go.Proofs.YtjbifddhbcfdcaaGreat
namespace Go.Proofs.YtjbifddhbcfdcaaGreat
open Go.RowKit
set_option linter.unusedVariables false
set_option maxRecDepth 100000

theorem leB_take (x : Int) {n i : Nat} (h : i < n) : (leB n x).take (i + 1) = (leB n x).take i ++ [shr8 i x % 256] := by
  rw [List.take_add_one, leB_get x n i h]; rfl

set_option maxHeartbeats 800000 in
theorem putLow_any (C G k pf gf : Nat) (old : Bool) (L : List Int) (x : Int) (hx : I64 x) (n : Nat) (hn : n ≤ 8) (w : World) (h : Cur w C G old pf gf k L) (hk : k + n ≤ 128) :
    Calls Tryz.prog 69 #[.pointer (some ⟨C, 0, none⟩), .int .i64 x, .int .i64 n] w fun e w' => e = .returned (.tuple #[]) ∧ Wrote w w' C G old pf gf k L (leB n x) := by
  go_enter Tryz.func69, Tryz.ntmps69
  go_wp2_with fail
  go_loopw [1, 7] (fun xv iv wr => ∃ i : Nat, i ≤ n ∧ iv = .int .i64 i ∧ xv = .int .i64 (shr8 i x) ∧ Hid (Wrote w wr C G old pf gf k L ((leB n x).take i))) (fun _ iv _ => n - (intOf iv).toNat)
  case atStart => exact ⟨0, Nat.zero_le _, rfl, rfl, by show Wrote _ _ _ _ _ _ _ _ _ _; simpa using wrote_nil h⟩
  case round =>
    obtain ⟨i, hi, rfl, rfl, HW⟩ := hrel
    by_cases hlt : i < n
    · have HS : Hid ((leB n x).take (i + 1) = (leB n x).take i ++ [shr8 i x % 256]) := leB_take x hlt
      have HY : Hid (shr8 (i + 1) x = shr8 i x / 256) := rfl
      have hr := shr8_range hx i
      unfold I64 at hr
      have hc := HW.out.1
      have hll : ((leB n x).take i).length = i := by simp [leB_len]; omega
      rw [hll] at hc
      generalize shr8 i x = y at *
      go_wp2_with fail
      refine (putByte_any C G (k + i) pf gf old _ (y % 256) wr hc (by omega)).mono ?_
      rintro e w1 ⟨rfl, hw1⟩
      have R : Hid (Wrote w w1 C G old pf gf k L ((leB n x).take (i + 1))) := by
        show Wrote _ _ _ _ _ _ _ _ _ _
        rw [HS.out]
        exact HW.out.trans (by rw [hll, h.len]; omega) (by rw [hll]; exact hw1)
      clear hw1 hc HW
      go_wp2
      go_roundw
      case rel => exact ⟨i + 1, by omega, by go_num, by rw [HY.out], R⟩
      case measure => simp [intOf]; omega
    · go_wp2
      go_end0
      have := HW.out
      rw [List.take_of_length_le (by rw [leB_len]; omega)] at this
      exact ⟨rfl, this⟩
theorem putLow_num (C G gf : Nat) : PutNum C G false 69 gf := fun k L x n w hx hn h hk => putLow_any C G k _ gf false L x hx n hn w h hk
end Go.Proofs.YtjbifddhbcfdcaaGreat
namespace Go.Proofs.YtjbifddhbcfdcaaGreat
open Go.RowKit
set_option linter.unusedVariables false
set_option maxRecDepth 100000

def smallN (old : Bool) : Nat := if old then 2 else 4
theorem smallWidth_any (C G k pf gf : Nat) (old : Bool) (L : List Int) (w : World) (h : Cur w C G old pf gf k L) :
    Calls Tryz.prog 109 #[.pointer (some ⟨C, 0, none⟩)] w fun e w' => e = .returned (.int .i64 (smallN old)) ∧ w' = w := by
  obtain ⟨_, _, e2, _⟩ := h.cells
  cases old
  all_goals
    go_enter Tryz.func109, Tryz.ntmps109
    go_wp2
    go_ret
    exact ⟨rfl, rfl⟩

theorem numB_small (old : Bool) (x : Int) : (numB old (smallN old) x).length ≤ 4 := by rw [numB_len]; cases old <;> decide
theorem smallN_le (old : Bool) : smallN old ≤ 4 := by cases old <;> decide

theorem Cur.move {w : World} {C G k pf gf : Nat} {old : Bool} {L : List Int} (h : Cur w C G old pf gf k L) (m : Nat) : Cur (w.setCell ⟨C, 1, none⟩ (.int .i64 (m : Int))) C G old pf gf m L := by
  have hne := h.ne
  refine ⟨?_, owns_set h.row (fun g e e' => by simp [Value.ownBlock] at e; simp at e'; omega) _, h.len⟩
  have := heap_setCell_atB h.box 1 (.int .i64 (m : Int))
  simpa using this
/-- copy(c.bytes[c.at:], s). -/
theorem step_letters {w : World} {C G k pf gf : Nat} {old : Bool} {L : List Int} {s : ByteArray} {ops : Array Oper} {o : Oper} {a : Act} {K : Act → World → Prop} {Q : Exit → Act → World → Prop} {E : Prop} (h : Cur w C G old pf gf k L) (hs : k + s.size ≤ 128) (hgd : o.guard = none) (d x : Operand)
    (ho : o.op = .call { callee := .builtin .copy, args := #[d, x], argTypes := #[43, 9] }) (dl dc : Nat) (hdl : dl = 128 - k) (hd : a.eval d = .slice (some ⟨G, k, none⟩) dl dc) (hx : a.eval x = .string s)
    (hK : ∀ w', Cur w' C G old pf gf k (lay L k (strB s)) → Fr (fun g => g = C ∨ g = G) w w' → K (a.put o.dst (.int .i64 s.size)) w') :
    if Region.wanted o (yielded ops a.tmps) = true then Oper.wp Tryz.prog o a w K Q else E := by
  obtain ⟨i0, hi, hz0, hz1, hz2⟩ := info_parts info_u8
  rw [if_pos (by simp [Region.wanted, hgd])]
  have hne := h.ne
  rcases h.row.2 with ⟨h0, _⟩ | ⟨g, cap, cur, h0, _, hgg, hc1, hc2, hcs, hct⟩
  · cases h0
  injection h0 with h1 _ h3
  injection h1 with h2
  injection h2 with h4
  subst h4 h3
  have hcur : cur.toList = u8s L := by
    rw [← hct, List.take_of_length_le (by rw [Array.length_toList, hcs]; omega)]
  have hrun := Lib.run_copy_row_string (P := Tryz.prog) w 43 9 o.type 5 G k dl dc s cur 5 Tryz.underlying43 (by rw [hi]; simp [hz1]) hgg (by omega) (by rw [hcs]; omega)
  have hcells : (cur.toList.take k ++ Lib.byteCells s.data.toList ++ cur.toList.drop (k + s.size)).toArray = (u8s (lay L k (strB s))).toArray := by
    rw [hcur, lay, strB_len]
    simp [u8s, strB, Lib.byteCells, List.map_take, List.map_drop]
  rw [hcells] at hrun
  unfold Oper.wp execOp
  simp only [ho, resolve, invoke, builtin, Sem.run_bind, Sem.run_pure, Result.andThen_ok, List.map_toArray, List.map_cons, List.map_nil, hd, hx, hrun]
  refine hK _ ⟨?_, ?_, ?_⟩ ⟨rfl, rfl, rfl, by simp [World.setRow], fun j _ hj => setRow_other w G j _ (fun e => hj (.inr e))⟩
  · exact (setRow_other w G C _ hne).trans h.box
  · have hl : (lay L k (strB s)).length = 128 := by rw [lay_len (by rw [strB_len, h.len]; exact hs)]; exact h.len
    refine ⟨by simp [u8s, hl], .inr ⟨G, 128, (u8s (lay L k (strB s))).toArray, rfl, Nat.zero_le _, setRow_heap w G cur _ _ _ hgg, Nat.le_refl _, by unfold maxLen; omega, by simp [u8s, hl], ?_⟩⟩
    rw [List.take_of_length_le (by simp [u8s, hl])]
  · rw [lay_len (by rw [strB_len, h.len]; exact hs)]; exact h.len

set_option maxHeartbeats 800000 in
theorem putLetters_any (C G k pf gf : Nat) (old : Bool) (L : List Int) (s : ByteArray) (w : World) (h : Cur w C G old pf gf k L) (hk : k + s.size ≤ 128) (hk1 : k < 128) :
    Calls Tryz.prog 108 #[.pointer (some ⟨C, 0, none⟩), .string s] w fun e w' => e = .returned (.tuple #[]) ∧ Wrote w w' C G old pf gf k L (strB s) := by
  obtain ⟨e0, e1, e2, e3, e4⟩ := h.cells
  have hfC : ∀ o, w.frozen? ⟨C, o, none⟩ = false := by intro o; simp [World.frozen?, h.box]
  have hki : (k : Int) ≤ 128 := by omega
  go_enter Tryz.func108, Tryz.ntmps108
  go_wp2_with fail
  have hks : (k : Int) ≠ 128 := by omega
  have hks2 : ¬ 128 = k := by omega
  go_region_law (first
      | (refine step_letters h.drew hk rfl (.tmp 16) (.tmp 17) rfl (128 - k) (128 - k) rfl (by first | rfl | (simp [Act.eval]; done)) (by first | rfl | (simp [Act.eval]; done)) ?_; intro w1 hc1 hf1; obtain ⟨q0, q1, _⟩ := hc1.cells; have hfq : w1.frozen? ⟨C, 1, none⟩ = false := by simp [World.frozen?, hc1.box]))
  all_goals
    have hwr : IntKind.i64.wrap ((k : Int) + (s.size : Int)) = ((k + s.size : Nat) : Int) := by rw [IntKind.wrap_i64]; omega
    go_wp2
    go_end0
    rw [hwr]
    refine ⟨rfl, ?_, fr_setB ((Fr.of_below (Below.refl _ _).drew).trans hf1) (.inl rfl) _⟩
    rw [strB_len]
    exact hc1.move (k + s.size)
end Go.Proofs.YtjbifddhbcfdcaaGreat
namespace Go.Proofs.YtjbifddhbcfdcaaGreat
namespace New
open Go.RowKit
/-- The cursor's way of writing numbers. -/
theorem Put (C G : Nat) : ∀ (k : Nat) (L : List Int) (x : Int) (n : Nat) (w : World), I64 x → n ≤ 8 → Cur w C G false 69 70 k L → k + n ≤ 128 →
    Calls Tryz.prog 69 #[.pointer (some ⟨C, 0, none⟩), .int .i64 x, .int .i64 n] w fun e w' => e = .returned (.tuple #[]) ∧ Wrote w w' C G false 69 70 k L (numB false n x) :=
  fun k L x n w hx hn h hk => putLow_any C G k _ _ false L x hx n hn w h hk
end New
end Go.Proofs.YtjbifddhbcfdcaaGreat
namespace Go.Proofs.YtjbifddhbcfdcaaGreat
namespace New
open Go.RowKit
set_option linter.unusedVariables false
set_option maxRecDepth 100000

set_option maxHeartbeats 800000 in
theorem putSmall_any (C G k : Nat) (L : List Int) (x : Int) (hx : I64 x) (w : World) (h : Cur w C G false 69 70 k L) (hk : k + 4 ≤ 128) :
    Calls Tryz.prog 107 #[.pointer (some ⟨C, 0, none⟩), .int .i64 x] w fun e w' => e = .returned (.tuple #[]) ∧ Wrote w w' C G false 69 70 k L (numB false (smallN false) x) := by
  obtain ⟨e0, e1, e2, e3, e4⟩ := h.cells
  have hsm := smallN_le false
  go_enter Tryz.func107, Tryz.ntmps107
  go_wp2_with fail
  go_region_held3 (fun w' => w'.cell? ⟨C, 3, none⟩ = some (.func (.func 69) #[.pointer (some ⟨C, 0, none⟩)] #[])) (go_keep)
    (first
      | (go_at_call 109; refine (smallWidth_any C G k 69 70 false L w.drew h.drew).mono ?_; rintro e w1 ⟨rfl, rfl⟩)
      | (go_at_call 69; refine (Put C G k L x (smallN false) w.drew hx (by omega) h.drew (by omega)).mono ?_; rintro e w2 ⟨rfl, hW⟩; obtain ⟨_, _, _, q3, _⟩ := hW.1.cells))
  go_wp2
  go_end0
  exact ⟨rfl, hW.1, (Fr.of_below (Below.refl _ _).drew).trans hW.2⟩
end New
end Go.Proofs.YtjbifddhbcfdcaaGreat
namespace Go.Proofs.YtjbifddhbcfdcaaGreat
namespace New
open Go.RowKit
set_option linter.unusedVariables false
set_option maxRecDepth 100000

theorem numB_one (old : Bool) (x : Int) (h : 0 ≤ x ∧ x ≤ 255) : numB old 1 x = [x] := by
  have : x % 256 = x := by omega
  cases old <;> simp [numB, beB, leB, this]

set_option maxHeartbeats 800000 in
theorem putText_any (C G k : Nat) (L : List Int) (s : ByteArray) (w : World) (h : Cur w C G false 69 70 k L) (hk : k + s.size + 1 < 128) :
    Calls Tryz.prog 117 #[.pointer (some ⟨C, 0, none⟩), .string s] w fun e w' => e = .returned (.tuple #[]) ∧ Wrote w w' C G false 69 70 k L (textB s) := by
  obtain ⟨e0, e1, e2, e3, e4⟩ := h.cells
  go_enter Tryz.func117, Tryz.ntmps117
  go_wp2_with fail
  refine (Put C G k L (s.size : Int) 1 w (by unfold I64; omega) (by omega) h (by omega)).mono ?_
  rintro e w1 ⟨rfl, hW1⟩
  rw [numB_one _ _ (by omega)] at hW1
  clear e0 e1 e2 e3 e4
  go_wp2_with fail
  refine (putLetters_any C G (k + 1) _ _ _ (lay L k [(s.size : Int)]) s w1 hW1.1 (by omega) (by omega)).mono ?_
  rintro e w2 ⟨rfl, hW2⟩
  have hl := h.len
  have R : Hid (Wrote w w2 C G false 69 70 k L (textB s)) := hW1.trans (by simp [hl]; omega) hW2
  clear hW1 hW2 h
  go_wp2
  go_end0
  exact ⟨rfl, R.out⟩

theorem Wrote.skip {w w' : World} {C G k pf gf : Nat} {old : Bool} {L bs : List Int} (h : Wrote w w' C G old pf gf k L bs) (z : Nat) (hz : (L.drop (k + bs.length)).take z = List.replicate z 0) : Wrote w (w'.setCell ⟨C, 1, none⟩ (.int .i64 ((k + bs.length + z : Nat) : Int))) C G old pf gf k L (bs ++ List.replicate z 0) := by
  refine ⟨?_, fr_setB h.2 (.inl rfl) _⟩
  have key : L.drop (k + bs.length) = List.replicate z 0 ++ L.drop (k + bs.length + z) := by
    rw [← hz]
    have := (List.take_append_drop z (L.drop (k + bs.length))).symm
    rw [List.drop_drop] at this
    exact this
  have e : lay L k (bs ++ List.replicate z 0) = lay L k bs := by
    unfold lay
    rw [key, List.length_append, List.length_replicate, ← Nat.add_assoc]
    simp only [List.append_assoc]
  rw [e, List.length_append, List.length_replicate, ← Nat.add_assoc]
  exact h.1.move _

set_option maxHeartbeats 800000 in
theorem putKey_any (C G k : Nat) (L : List Int) (s : ByteArray) (w : World) (h : Cur w C G false 69 70 k L) (hs : s.size ≤ 8) (hk : k + 10 < 128) (hz : (L.drop (k + (s.size + 1))).take (8 - s.size) = List.replicate (8 - s.size) 0) :
    Calls Tryz.prog 124 #[.pointer (some ⟨C, 0, none⟩), .string s] w fun e w' => e = .returned (.tuple #[]) ∧ Wrote w w' C G false 69 70 k L (textB s ++ (if false then List.replicate (8 - s.size) 0 else [])) := by
  go_enter Tryz.func124, Tryz.ntmps124
  go_wp2_with fail
  refine (putText_any C G k L s w h (by omega)).mono ?_
  rintro e w1 ⟨rfl, hW1⟩
  obtain ⟨e0, e1, e2, e3, e4⟩ := hW1.1.cells
  have hfC : ∀ o, w1.frozen? ⟨C, o, none⟩ = false := by intro o; simp [World.frozen?, hW1.1.box]
  have HL : Hid ((textB s).length = s.size + 1) := textB_len s
  have HW : Hid (Wrote w w1 C G false 69 70 k L (textB s)) := hW1
  rw [HL.out] at e1
  clear hW1
  go_wp2
  go_end0
  refine ⟨rfl, ?_⟩
  first
    | (have R := Wrote.skip HW.out (8 - s.size) (by rw [HL.out]; exact hz)
       rw [HL.out, show ((k + (s.size + 1) + (8 - s.size) : Nat) : Int) = (k : Int) + ((s.size : Int) + 1) + (8 - (s.size : Int)) by omega] at R
       exact R)
    | (have R := HW.out
       simpa using R)
end New
end Go.Proofs.YtjbifddhbcfdcaaGreat
