import Derived.Test.YtpiipnfhinbimacJA
import Derived.Test.YtpiipnfhinbimacJB
import Derived.Test.YtpiipnfhinbimacKD
import Derived.WalkLawsBesides
import Derived.Laws.EntriesVeiled
import Derived.WideLaws
import Derived.Deep.RegionHeld3
import Derived.Lib.BufferWrite
import Derived.Laws.BitsAll
import Derived.Laws.IdiomStrings
namespace Go.Proofs.Ytpiipnfhinbimac
open Go.RowKit
set_option linter.unusedVariables false
set_option maxRecDepth 100000

/-- bs laid over L from place k on. -/
def lay (L : List Int) (k : Nat) (bs : List Int) : List Int := L.take k ++ bs ++ L.drop (k + bs.length)
theorem lay_len {L : List Int} {k : Nat} {bs : List Int} (h : k + bs.length ≤ L.length) : (lay L k bs).length = L.length := by simp [lay]; omega
theorem lay_nil (L : List Int) (k : Nat) : lay L k [] = L := by simp [lay]
theorem lay_lay {L : List Int} {k : Nat} {ds bs : List Int} (h : k + ds.length ≤ L.length) : lay (lay L k ds) (k + ds.length) bs = lay L k (ds ++ bs) := by
  have h1 : (L.take k ++ ds).length = k + ds.length := by simp; omega
  unfold lay
  rw [List.take_append_of_le_length (by omega), List.take_of_length_le (by omega)]
  rw [show k + ds.length + bs.length = (L.take k ++ ds).length + bs.length by omega, List.drop_append, List.drop_drop, List.drop_eq_nil_of_le (by omega)]
  simp only [List.length_append, List.nil_append]
  rw [List.append_assoc (L.take k) ds bs]
  congr 2
  simp
  omega
theorem lay_set {L : List Int} {k : Nat} {x : Int} (h : k < L.length) : L.set k x = lay L k [x] := by
  rw [lay, List.set_eq_take_append_cons_drop, if_pos h]; simp

theorem heap_setCell_atB {w : World} {b t : Nat} {cs : Array Value} (h : w.heap[b]? = some (.cells cs t (0, 0))) (o : Nat) (v : Value) : (w.setCell ⟨b, o, none⟩ v).heap[b]? = some (.cells (cs.setIfInBounds o v) t (0, 0)) := by
  obtain ⟨hlt, hk⟩ := Array.getElem?_eq_some_iff.1 h
  show (w.heap.modify b _)[b]? = _
  rw [Array.getElem?_eq_getElem (by rw [Array.size_modify]; exact hlt), Array.getElem_modify_self, hk]
  rfl
theorem fr_setB {S : Nat → Prop} {w w' : World} (h : Fr S w w') {g o : Nat} (hS : S g) (u : Value) : Fr S w (w'.setCell ⟨g, o, none⟩ u) :=
  h.trans ⟨rfl, rfl, rfl, by simp [World.setCell], fun k _ hk => Below.heap_setCell w' _ u k (fun e => hk (e ▸ hS))⟩

/-- A cursor at block C over the bytes of block G, at place k. -/
structure Cur (w : World) (C G : Nat) (old : Bool) (pf gf : Nat) (k : Nat) (L : List Int) : Prop where
  box : w.heap[C]? = some (.cells #[.slice (some ⟨G, 0, none⟩) 128 128, .int .i64 k, .bool old, .func (.func pf) #[.pointer (some ⟨C, 0, none⟩)] #[], .func (.func gf) #[.pointer (some ⟨C, 0, none⟩)] #[]] 107)
  row : w.ownsRow 0 5 1 (.slice (some ⟨G, 0, none⟩) 128 128) 128 (u8s L)
  len : L.length = 128
theorem Cur.ne {w : World} {C G k pf gf : Nat} {old : Bool} {L : List Int} (h : Cur w C G old pf gf k L) : C ≠ G := by
  intro e
  subst e
  rcases h.row.2 with ⟨h0, _⟩ | ⟨g, cap, cur, h0, _, hgg, _⟩
  · cases h0
  · injection h0 with h1
    injection h1 with h2
    injection h2 with h3
    subst h3
    rw [h.box] at hgg
    injection hgg with h4
    injection h4 with _ h5
    exact absurd h5 (by decide)
theorem Cur.drew {w : World} {C G k pf gf : Nat} {old : Bool} {L : List Int} (h : Cur w C G old pf gf k L) : Cur w.drew C G old pf gf k L := ⟨h.box, h.row.drew, h.len⟩
/-- What a write through the cursor does. -/
def Wrote (w w' : World) (C G : Nat) (old : Bool) (pf gf : Nat) (k : Nat) (L bs : List Int) : Prop := Cur w' C G old pf gf (k + bs.length) (lay L k bs) ∧ Fr (fun g => g = C ∨ g = G) w w'
theorem Wrote.drew {w w' : World} {C G k pf gf : Nat} {old : Bool} {L bs : List Int} (h : Wrote w w' C G old pf gf k L bs) : Wrote w w'.drew C G old pf gf k L bs := ⟨h.1.drew, h.2.trans (Fr.of_below (Below.refl _ _).drew)⟩
theorem Wrote.trans {w w' w'' : World} {C G k pf gf : Nat} {old : Bool} {L ds bs : List Int} (h : Wrote w w' C G old pf gf k L ds) (hl : k + ds.length ≤ L.length) (h2 : Wrote w' w'' C G old pf gf (k + ds.length) (lay L k ds) bs) : Wrote w w'' C G old pf gf k L (ds ++ bs) := by
  obtain ⟨h3, h4⟩ := h2
  rw [lay_lay hl, Nat.add_assoc, ← List.length_append] at h3
  exact ⟨h3, h.2.trans h4⟩

set_option maxHeartbeats 800000 in
theorem putByte_any (C G k pf gf : Nat) (old : Bool) (L : List Int) (x : Int) (w : World) (h : Cur w C G old pf gf k L) (hk : k < 128) :
    Calls Try.prog 160 #[.pointer (some ⟨C, 0, none⟩), .int .u8 x] w fun e w' => e = .returned (.tuple #[]) ∧ Wrote w w' C G old pf gf k L [x] := by
  have e0 : w.cell? ⟨C, 0, none⟩ = some (.slice (some ⟨G, 0, none⟩) 128 128) := by simp [World.cell?, h.box]
  have e1 : w.cell? ⟨C, 1, none⟩ = some (.int .i64 k) := by simp [World.cell?, h.box]
  go_enter Try.func160, Try.ntmps160
  have hki : (k : Int) < 128 := by omega
  have hne := h.ne
  have hne' := hne.symm
  have hf := h.row.frozenAt k
  have hfC : ∀ o, w.frozen? ⟨C, o, none⟩ = false := by intro o; simp [World.frozen?, h.box]
  obtain ⟨u, hu⟩ : ∃ u, w.cell? ⟨G, k, none⟩ = some u := ⟨_, by rw [h.row.cellAt k (by omega)]; exact List.getElem?_eq_getElem (by simp [u8s, h.len]; omega)⟩
  go_wp2
  go_region_held3 (fun w' => w'.cell? ⟨C, 0, none⟩ = some (.slice (some ⟨G, 0, none⟩) 128 128) ∧ w'.cell? ⟨C, 1, none⟩ = some (.int .i64 k)) (go_keep) (fail)
  go_wp2
  go_end0
  have R : Wrote w ((w.setCell ⟨G, k, none⟩ (.int .u8 x)).setCell ⟨C, 1, none⟩ (.int .i64 ((k : Int) + 1))) C G old pf gf k L [x] := by
    refine ⟨?_, ?_⟩
    · have hrow := (h.row.stored k (.int .u8 x)).1
      have hbx : (w.setCell ⟨G, k, none⟩ (.int .u8 x)).heap[C]? = _ := (Below.heap_setCell w ⟨G, k, none⟩ (.int .u8 x) C hne).trans h.box
      refine ⟨?_, ?_, ?_⟩
      · have := heap_setCell_atB hbx 1 (.int .i64 ((k : Int) + 1))
        simpa using this
      · rw [← lay_set (by rw [h.len]; exact hk)]
        have := owns_set hrow (p := ⟨C, 1, none⟩) (fun g e e' => by simp [Value.ownBlock] at e; simp at e'; omega) (.int .i64 ((k : Int) + 1))
        simpa [u8s, List.map_set] using this
      · rw [lay_len (by simp [h.len]; omega)]; exact h.len
    · exact fr_setB (o := 1) (fr_setB (Fr.refl _ _) (.inr rfl) _) (g := C) (.inl rfl) (.int .i64 ((k : Int) + 1))
  exact ⟨rfl, R.drew⟩

theorem shr8_pow (x : Int) : ∀ m, shr8 m x = x / 2 ^ (8 * m)
  | 0 => by simp [shr8]
  | m + 1 => by
    rw [shr8, shr8_pow x m, Int.ediv_ediv_of_nonneg (Int.le_of_lt (Int.pow_pos (by omega)))]
    congr 1
    rw [show 8 * (m + 1) = 8 * m + 8 by omega, Int.pow_add]
    rfl
theorem leB_get (x : Int) : ∀ n i, i < n → (leB n x)[i]? = some (shr8 i x % 256) := by
  intro n
  induction n with
  | zero => intro i h; omega
  | succ n ih =>
    intro i h
    rw [leB_snoc]
    by_cases hi : i < n
    · rw [List.getElem?_append_left (by rw [leB_len]; exact hi)]; exact ih i hi
    · obtain rfl : i = n := by omega
      rw [List.getElem?_append_right (by rw [leB_len]; omega), leB_len]; simp
theorem beB_get (x : Int) {n i : Nat} (h : i < n) : (beB n x)[i]? = some (x / 2 ^ (8 * (n - 1 - i)) % 256) := by
  rw [beB, List.getElem?_reverse (by rw [leB_len]; exact h), leB_len, leB_get x n (n - 1 - i) (by omega), shr8_pow]
theorem beB_take (x : Int) {n i : Nat} (h : i < n) : (beB n x).take (i + 1) = (beB n x).take i ++ [x / 2 ^ (8 * (n - 1 - i)) % 256] := by
  rw [List.take_add_one, beB_get x h]; rfl
theorem wrote_nil {w : World} {C G k pf gf : Nat} {old : Bool} {L : List Int} (h : Cur w C G old pf gf k L) : Wrote w w C G old pf gf k L [] := ⟨by rw [lay_nil]; exact h, Fr.refl _ _⟩

/-- What the cursor's way of writing numbers does. -/
def PutNum (C G : Nat) (old : Bool) (pf gf : Nat) : Prop := ∀ (k : Nat) (L : List Int) (x : Int) (n : Nat) (w : World), I64 x → n ≤ 8 → Cur w C G old pf gf k L → k + n ≤ 128 →
  Calls Try.prog pf #[.pointer (some ⟨C, 0, none⟩), .int .i64 x, .int .i64 n] w fun e w' => e = .returned (.tuple #[]) ∧ Wrote w w' C G old pf gf k L (numB old n x)
theorem Cur.cells {w : World} {C G k pf gf : Nat} {old : Bool} {L : List Int} (h : Cur w C G old pf gf k L) : w.cell? ⟨C, 0, none⟩ = some (.slice (some ⟨G, 0, none⟩) 128 128) ∧ w.cell? ⟨C, 1, none⟩ = some (.int .i64 k) ∧ w.cell? ⟨C, 2, none⟩ = some (.bool old) ∧ w.cell? ⟨C, 3, none⟩ = some (.func (.func pf) #[.pointer (some ⟨C, 0, none⟩)] #[]) ∧ w.cell? ⟨C, 4, none⟩ = some (.func (.func gf) #[.pointer (some ⟨C, 0, none⟩)] #[]) := by
  refine ⟨?_, ?_, ?_, ?_, ?_⟩ <;> simp [World.cell?, h.box]
end Go.Proofs.Ytpiipnfhinbimac
namespace Go.Proofs.Ytpiipnfhinbimac
open Go.RowKit
set_option linter.unusedVariables false
set_option maxRecDepth 100000

theorem leB_take (x : Int) {n i : Nat} (h : i < n) : (leB n x).take (i + 1) = (leB n x).take i ++ [shr8 i x % 256] := by
  rw [List.take_add_one, leB_get x n i h]; rfl

set_option maxHeartbeats 800000 in
theorem putLow_any (C G k pf gf : Nat) (old : Bool) (L : List Int) (x : Int) (hx : I64 x) (n : Nat) (hn : n ≤ 8) (w : World) (h : Cur w C G old pf gf k L) (hk : k + n ≤ 128) :
    Calls Try.prog 113 #[.pointer (some ⟨C, 0, none⟩), .int .i64 x, .int .i64 n] w fun e w' => e = .returned (.tuple #[]) ∧ Wrote w w' C G old pf gf k L (leB n x) := by
  go_enter Try.func113, Try.ntmps113
  go_wp2_with fail
  go_loopw [1, 7] (fun xv iv wr => ∃ i : Nat, i ≤ n ∧ iv = .int .i64 i ∧ xv = .int .i64 (shr8 i x) ∧ Hid (Wrote w wr C G old pf gf k L ((leB n x).take i))) (fun _ iv _ => n - (intOf iv).toNat)
  case atStart => exact ⟨0, Nat.zero_le _, rfl, rfl, by show Wrote _ _ _ _ _ _ _ _ _ _; simpa using wrote_nil h⟩
  case round =>
    obtain ⟨i, hi, rfl, rfl, HW⟩ := hrel
    by_cases hlt : i < n
    · have HS : Hid ((leB n x).take (i + 1) = (leB n x).take i ++ [shr8 i x % 256]) := leB_take x hlt
      have HY : Hid (shr8 (i + 1) x = shr8 i x / 256) := rfl
      have hr := shr8_range hx i
      unfold I64 at hr
      have hc := HW.out.1
      have hll : ((leB n x).take i).length = i := by simp [leB_len]; omega
      rw [hll] at hc
      generalize shr8 i x = y at *
      go_wp2_with fail
      refine (putByte_any C G (k + i) pf gf old _ (y % 256) wr hc (by omega)).mono ?_
      rintro e w1 ⟨rfl, hw1⟩
      have R : Hid (Wrote w w1 C G old pf gf k L ((leB n x).take (i + 1))) := by
        show Wrote _ _ _ _ _ _ _ _ _ _
        rw [HS.out]
        exact HW.out.trans (by rw [hll, h.len]; omega) (by rw [hll]; exact hw1)
      clear hw1 hc HW
      go_wp2
      go_roundw
      case rel => exact ⟨i + 1, by omega, by go_num, by rw [HY.out], R⟩
      case measure => simp [intOf]; omega
    · go_wp2
      go_end0
      have := HW.out
      rw [List.take_of_length_le (by rw [leB_len]; omega)] at this
      exact ⟨rfl, this⟩
theorem putLow_num (C G gf : Nat) : PutNum C G false 113 gf := fun k L x n w hx hn h hk => putLow_any C G k _ gf false L x hx n hn w h hk
end Go.Proofs.Ytpiipnfhinbimac
namespace Go.Proofs.Ytpiipnfhinbimac
open Go.RowKit
set_option linter.unusedVariables false
set_option maxRecDepth 100000

set_option maxHeartbeats 800000 in
theorem putHigh_any (C G k pf gf : Nat) (old : Bool) (L : List Int) (x : Int) (hx : I64 x) (n : Nat) (hn : n ≤ 8) (w : World) (h : Cur w C G old pf gf k L) (hk : k + n ≤ 128) :
    Calls Try.prog 155 #[.pointer (some ⟨C, 0, none⟩), .int .i64 x, .int .i64 n] w fun e w' => e = .returned (.tuple #[]) ∧ Wrote w w' C G old pf gf k L (beB n x) := by
  go_enter Try.func155, Try.ntmps155
  go_wp2_with fail
  go_loopw [8] (fun iv wr => ∃ i : Nat, i ≤ n ∧ iv = .int .i64 i ∧ Hid (Wrote w wr C G old pf gf k L ((beB n x).take i))) (fun iv _ => n - (intOf iv).toNat)
  case atStart => exact ⟨0, Nat.zero_le _, rfl, by show Wrote _ _ _ _ _ _ _ _ _ _; simpa using wrote_nil h⟩
  case round =>
    obtain ⟨i, hi, rfl, HW⟩ := hrel
    by_cases hlt : i < n
    · have HS : Hid ((beB n x).take (i + 1) = (beB n x).take i ++ [x / 2 ^ (8 * (n - 1 - i)) % 256]) := beB_take x hlt
      have hc := HW.out.1
      have hll : ((beB n x).take i).length = i := by simp [beB_len]; omega
      rw [hll] at hc
      go_wp2_with fail
      refine (putByte_any C G (k + i) pf gf old _ (x / 2 ^ (8 * (n - 1 - i)) % 256) wr hc (by omega)).mono ?_
      rintro e w1 ⟨rfl, hw1⟩
      have R : Hid (Wrote w w1 C G old pf gf k L ((beB n x).take (i + 1))) := by
        show Wrote _ _ _ _ _ _ _ _ _ _
        rw [HS.out]
        exact HW.out.trans (by rw [hll, h.len]; omega) (by rw [hll]; exact hw1)
      clear hw1 hc HW
      go_wp2
      go_roundw
      case rel => exact ⟨i + 1, by omega, by go_num, R⟩
      case measure => simp [intOf]; omega
    · go_wp2
      go_end0
      have := HW.out
      rw [List.take_of_length_le (by rw [beB_len]; omega)] at this
      exact ⟨rfl, this⟩
theorem putHigh_num (C G gf : Nat) : PutNum C G true 155 gf := fun k L x n w hx hn h hk => putHigh_any C G k _ gf true L x hx n hn w h hk
end Go.Proofs.Ytpiipnfhinbimac
namespace Go.Proofs.Ytpiipnfhinbimac
open Go.RowKit
set_option linter.unusedVariables false
set_option maxRecDepth 100000

def smallN (old : Bool) : Nat := if old then 2 else 4
theorem smallWidth_any (C G k pf gf : Nat) (old : Bool) (L : List Int) (w : World) (h : Cur w C G old pf gf k L) :
    Calls Try.prog 210 #[.pointer (some ⟨C, 0, none⟩)] w fun e w' => e = .returned (.int .i64 (smallN old)) ∧ w' = w := by
  obtain ⟨_, _, e2, _⟩ := h.cells
  cases old
  all_goals
    go_enter Try.func210, Try.ntmps210
    go_wp2
    go_ret
    exact ⟨rfl, rfl⟩

theorem numB_small (old : Bool) (x : Int) : (numB old (smallN old) x).length ≤ 4 := by rw [numB_len]; cases old <;> decide
theorem smallN_le (old : Bool) : smallN old ≤ 4 := by cases old <;> decide

theorem Cur.move {w : World} {C G k pf gf : Nat} {old : Bool} {L : List Int} (h : Cur w C G old pf gf k L) (m : Nat) : Cur (w.setCell ⟨C, 1, none⟩ (.int .i64 (m : Int))) C G old pf gf m L := by
  have hne := h.ne
  refine ⟨?_, owns_set h.row (fun g e e' => by simp [Value.ownBlock] at e; simp at e'; omega) _, h.len⟩
  have := heap_setCell_atB h.box 1 (.int .i64 (m : Int))
  simpa using this
/-- copy(c.bytes[c.at:], s). -/
theorem step_letters {w : World} {C G k pf gf : Nat} {old : Bool} {L : List Int} {s : ByteArray} {ops : Array Oper} {o : Oper} {a : Act} {K : Act → World → Prop} {Q : Exit → Act → World → Prop} {E : Prop} (h : Cur w C G old pf gf k L) (hs : k + s.size ≤ 128) (hgd : o.guard = none) (d x : Operand)
    (ho : o.op = .call { callee := .builtin .copy, args := #[d, x], argTypes := #[29, 9] }) (dl dc : Nat) (hdl : dl = 128 - k) (hd : a.eval d = .slice (some ⟨G, k, none⟩) dl dc) (hx : a.eval x = .string s)
    (hK : ∀ w', Cur w' C G old pf gf k (lay L k (strB s)) → Fr (fun g => g = C ∨ g = G) w w' → K (a.put o.dst (.int .i64 s.size)) w') :
    if Region.wanted o (yielded ops a.tmps) = true then Oper.wp Try.prog o a w K Q else E := by
  obtain ⟨i0, hi, hz0, hz1, hz2⟩ := info_parts info_u8
  rw [if_pos (by simp [Region.wanted, hgd])]
  have hne := h.ne
  rcases h.row.2 with ⟨h0, _⟩ | ⟨g, cap, cur, h0, _, hgg, hc1, hc2, hcs, hct⟩
  · cases h0
  injection h0 with h1 _ h3
  injection h1 with h2
  injection h2 with h4
  subst h4 h3
  have hcur : cur.toList = u8s L := by
    rw [← hct, List.take_of_length_le (by rw [Array.length_toList, hcs]; omega)]
  have hrun := Lib.run_copy_row_string (P := Try.prog) w 29 9 o.type 5 G k dl dc s cur 5 Try.underlying29 (by rw [hi]; simp [hz1]) hgg (by omega) (by rw [hcs]; omega)
  have hcells : (cur.toList.take k ++ Lib.byteCells s.data.toList ++ cur.toList.drop (k + s.size)).toArray = (u8s (lay L k (strB s))).toArray := by
    rw [hcur, lay, strB_len]
    simp [u8s, strB, Lib.byteCells, List.map_take, List.map_drop]
  rw [hcells] at hrun
  unfold Oper.wp execOp
  simp only [ho, resolve, invoke, builtin, Sem.run_bind, Sem.run_pure, Result.andThen_ok, List.map_toArray, List.map_cons, List.map_nil, hd, hx, hrun]
  refine hK _ ⟨?_, ?_, ?_⟩ ⟨rfl, rfl, rfl, by simp [World.setRow], fun j _ hj => setRow_other w G j _ (fun e => hj (.inr e))⟩
  · exact (setRow_other w G C _ hne).trans h.box
  · have hl : (lay L k (strB s)).length = 128 := by rw [lay_len (by rw [strB_len, h.len]; exact hs)]; exact h.len
    refine ⟨by simp [u8s, hl], .inr ⟨G, 128, (u8s (lay L k (strB s))).toArray, rfl, Nat.zero_le _, setRow_heap w G cur _ _ _ hgg, Nat.le_refl _, by unfold maxLen; omega, by simp [u8s, hl], ?_⟩⟩
    rw [List.take_of_length_le (by simp [u8s, hl])]
  · rw [lay_len (by rw [strB_len, h.len]; exact hs)]; exact h.len

set_option maxHeartbeats 800000 in
theorem putLetters_any (C G k pf gf : Nat) (old : Bool) (L : List Int) (s : ByteArray) (w : World) (h : Cur w C G old pf gf k L) (hk : k + s.size ≤ 128) (hk1 : k < 128) :
    Calls Try.prog 100 #[.pointer (some ⟨C, 0, none⟩), .string s] w fun e w' => e = .returned (.tuple #[]) ∧ Wrote w w' C G old pf gf k L (strB s) := by
  obtain ⟨e0, e1, e2, e3, e4⟩ := h.cells
  have hfC : ∀ o, w.frozen? ⟨C, o, none⟩ = false := by intro o; simp [World.frozen?, h.box]
  have hki : (k : Int) ≤ 128 := by omega
  go_enter Try.func100, Try.ntmps100
  go_wp2_with fail
  have hks : (k : Int) ≠ 128 := by omega
  have hks2 : ¬ 128 = k := by omega
  go_region_law (first
      | (refine step_letters h.drew hk rfl (.tmp 16) (.tmp 17) rfl (128 - k) (128 - k) rfl (by first | rfl | (simp [Act.eval]; done)) (by first | rfl | (simp [Act.eval]; done)) ?_; intro w1 hc1 hf1; obtain ⟨q0, q1, _⟩ := hc1.cells; have hfq : w1.frozen? ⟨C, 1, none⟩ = false := by simp [World.frozen?, hc1.box]))
  all_goals
    have hwr : IntKind.i64.wrap ((k : Int) + (s.size : Int)) = ((k + s.size : Nat) : Int) := by rw [IntKind.wrap_i64]; omega
    go_wp2
    go_end0
    rw [hwr]
    refine ⟨rfl, ?_, fr_setB ((Fr.of_below (Below.refl _ _).drew).trans hf1) (.inl rfl) _⟩
    rw [strB_len]
    exact hc1.move (k + s.size)
end Go.Proofs.Ytpiipnfhinbimac
namespace Go.Proofs.Ytpiipnfhinbimac
open Go.RowKit
set_option linter.unusedVariables false
set_option maxRecDepth 100000

def toB (bs : List Int) : ByteArray := ⟨(bs.map fun x => UInt8.ofNat x.toNat).toArray⟩
theorem toB_strB (s : ByteArray) : toB (strB s) = s := by
  obtain ⟨d⟩ := s
  simp [toB, strB, List.map_map]
  have : ((fun x : Int => UInt8.ofNat x.toNat) ∘ fun b : UInt8 => (b.toNat : Int)) = id := by
    funext b; simp
  rw [this]; simp
theorem toB_size (bs : List Int) : (toB bs).size = bs.length := by simp [toB, ByteArray.size]
theorem strB_toB {bs : List Int} (h : ∀ x ∈ bs, 0 ≤ x ∧ x ≤ 255) : strB (toB bs) = bs := by
  simp only [strB, toB, List.toList_toArray, List.map_map]
  conv => rhs; rw [← List.map_id bs]
  apply List.map_congr_left
  intro x hx
  have := h x hx
  simp [UInt8.toNat_ofNat']
  omega
theorem str_conv {w : World} {A B : Nat} {a : Option Addr} {n c : Nat} {bs : List Int} (h : BytesAt w A B a n c bs) : (convert 29 9 (.slice a n c)).run Try.prog w = .ok (.string (toB bs)) w := by
  obtain ⟨hl, hnc, hc, hw, hcell, hnil⟩ := h
  rcases a with _ | a
  · have hn : n = 0 := by
      by_cases h0 : n = 0
      · exact h0
      · obtain ⟨_, _, h1, _⟩ := hcell (by omega); cases h1
    subst hn
    have hc0 := hnil rfl
    subst hc0
    have hb : bs = [] := List.eq_nil_of_length_eq_zero hl
    subst hb
    rw [run_convert_bytes_string (P := Try.prog) w _ _ 5 none 0 0 Try.underlying29 Try.underlying5 Try.underlying9]
    rfl
  · subst hl
    have h1 := run_convert_bytes_back (P := Try.prog) w 29 9 5 a c (bs.map fun x => UInt8.ofNat x.toNat) Try.underlying29 Try.underlying5 Try.underlying9 ?_
    · simpa [toB] using h1
    · intro j hj
      simp at hj
      obtain ⟨b, off, e1, e2, e3⟩ := hcell (by omega)
      cases e1
      have h5 : (⟨b, off, none⟩ : Addr).add j = ⟨b, off + j, none⟩ := by simp [Addr.add]
      rw [h5, e3 j hj]
      have hx := hw (bs[j]) (List.getElem_mem hj)
      simp [List.getD, hj, UInt8.toNat_ofNat']
      omega
theorem bytesAt_sub {w : World} {A B g o c n : Nat} {bs : List Int} (h : BytesAt w A B (some ⟨g, o, none⟩) n c bs) (k m : Nat) (hk : k + m ≤ n) (hn : 0 < n) : BytesAt w A B (some ⟨g, o + k, none⟩) m (c - k) ((bs.drop k).take m) := by
  obtain ⟨hl, hnc, hc, hw, hcell, hnil⟩ := h
  obtain ⟨b, off, e1, e2, e3⟩ := hcell hn
  cases e1
  refine ⟨by simp; omega, by omega, by omega, fun x hx => hw x (List.mem_of_mem_drop (List.mem_of_mem_take hx)), fun _ => ⟨g, o + k, rfl, e2, fun i hi => ?_⟩, fun h => by cases h⟩
  rw [Nat.add_assoc, e3 (k + i) (by omega)]
  simp [List.getD, hi]
/-- A cursor that reads 128 bytes. -/
structure RCur (w : World) (C g o c : Nat) (old : Bool) (pf gf k : Nat) : Prop where
  box : w.heap[C]? = some (.cells #[.slice (some ⟨g, o, none⟩) 128 c, .int .i64 k, .bool old, .func (.func pf) #[.pointer (some ⟨C, 0, none⟩)] #[], .func (.func gf) #[.pointer (some ⟨C, 0, none⟩)] #[]] 107)
theorem RCur.cells {w : World} {C g o c pf gf k : Nat} {old : Bool} (h : RCur w C g o c old pf gf k) : w.cell? ⟨C, 0, none⟩ = some (.slice (some ⟨g, o, none⟩) 128 c) ∧ w.cell? ⟨C, 1, none⟩ = some (.int .i64 k) ∧ w.cell? ⟨C, 2, none⟩ = some (.bool old) ∧ w.cell? ⟨C, 3, none⟩ = some (.func (.func pf) #[.pointer (some ⟨C, 0, none⟩)] #[]) ∧ w.cell? ⟨C, 4, none⟩ = some (.func (.func gf) #[.pointer (some ⟨C, 0, none⟩)] #[]) := by
  refine ⟨?_, ?_, ?_, ?_, ?_⟩ <;> simp [World.cell?, h.box]
theorem RCur.drew {w : World} {C g o c pf gf k : Nat} {old : Bool} (h : RCur w C g o c old pf gf k) : RCur w.drew C g o c old pf gf k := ⟨h.box⟩
/-- The cursor went on to k'; nothing else was written. -/
def Mv (w w' : World) (C g o c : Nat) (old : Bool) (pf gf k : Nat) : Prop := RCur w' C g o c old pf gf k ∧ Fr (fun x => x = C) w w'
theorem Mv.of_set {w : World} {C g o c pf gf k : Nat} {old : Bool} (h : RCur w C g o c old pf gf k) (k' : Nat) : Mv w (w.setCell ⟨C, 1, none⟩ (.int .i64 k')) C g o c old pf gf k' := by
  refine ⟨⟨?_⟩, ?_⟩
  · simp [World.setCell, Array.getElem?_modify, h.box]
  · exact ⟨rfl, rfl, rfl, by simp [World.setCell], fun k _ hk => Below.heap_setCell w ⟨C, 1, none⟩ _ k hk⟩
theorem Mv.trans {w w1 w2 : World} {C g o c pf gf k k' : Nat} {old : Bool} (h : Mv w w1 C g o c old pf gf k) (h2 : Mv w1 w2 C g o c old pf gf k') : Mv w w2 C g o c old pf gf k' := ⟨h2.1, h.2.trans h2.2⟩
theorem Mv.redraw {w w1 : World} {C g o c pf gf k : Nat} {old : Bool} (h : Mv w.drew w1 C g o c old pf gf k) : Mv w w1 C g o c old pf gf k := ⟨h.1, (Fr.of_below (Below.refl _ _).drew).trans h.2⟩

theorem Mv.drewN {w w1 : World} {C g o c pf gf k : Nat} {old : Bool} (h : Mv w w1 C g o c old pf gf k) (q : Nat) : Mv w (w1.drewN q) C g o c old pf gf k := ⟨⟨h.1.box⟩, h.2.trans (Fr.of_below ⟨rfl, rfl, rfl, Nat.le_refl _, fun _ _ => rfl⟩)⟩
theorem BytesAt.fr {w w' : World} {A B C : Nat} {a : Option Addr} {n c : Nat} {bs : List Int} (h : BytesAt w A B a n c bs) (hf : Fr (fun x => x = C) w w') (hB : B ≤ C) (hs : B ≤ w.heap.size) : BytesAt w' A B a n c bs :=
  h.keep fun k k1 k2 => hf.block k (by omega) (by omega)
/-- What is left of 128 bytes at k, at most n. -/
def cutL (bs : List Int) (k n : Nat) : List Int := (bs.drop k).take (min (k + n) 128 - k)
theorem cutL_len {bs : List Int} (h : bs.length = 128) (k n : Nat) : (cutL bs k n).length = min (k + n) 128 - k := by simp [cutL, h]; omega
theorem bytesAt_none {w : World} {A B : Nat} (a : Addr) (c : Nat) (hc : c ≤ maxLen) : BytesAt w A B (some a) 0 c [] :=
  ⟨rfl, Nat.zero_le _, hc, (by intro x hx; cases hx), fun h => absurd h (Nat.lt_irrefl _), (by intro h; cases h)⟩
set_option maxHeartbeats 800000 in
theorem take_any (C g o c pf gf k : Nat) (old : Bool) (n : Nat) (hn : n ≤ 255) (hk : k ≤ 128) (bs : List Int) (A B : Nat) (hBC : B ≤ C) (w : World) (hBs : B ≤ w.heap.size) (hB : BytesAt w A B (some ⟨g, o, none⟩) 128 c bs) (h : RCur w C g o c old pf gf k) :
    Calls Try.prog 103 #[.pointer (some ⟨C, 0, none⟩), .int .i64 n] w fun e w' => ∃ a' c', e = .returned (.slice a' (min (k + n) 128 - k) c') ∧ BytesAt w' A B a' (min (k + n) 128 - k) c' (cutL bs k n) ∧ Mv w w' C g o c old pf gf (min (k + n) 128) := by
  have hc : 128 ≤ c := hB.2.1
  have hcm : c ≤ maxLen := hB.2.2.1
  obtain ⟨c0, c1, c2, c3, c4⟩ := h.cells
  have hf : ∀ j, w.frozen? ⟨C, j, none⟩ = false := by intro j; simp [World.frozen?, h.box]
  have hcm2 := hcm
  unfold maxLen at hcm
  have hlB : bs.length = 128 := hB.1
  by_cases hlt : k + n ≤ 128
  · have hmn : min (k + n) 128 = k + n := by omega
    have HC : Hid (BytesAt w A B (some ⟨g, o + k, none⟩) (k + n - k) (c - k) (cutL bs k n)) := by
      have := bytesAt_sub hB k n hlt (by omega)
      show BytesAt _ _ _ _ _ _ _
      rw [cutL, hmn, Nat.add_sub_cancel_left]; exact this
    have HZ : Hid (n = 0 → BytesAt w A B (some ⟨g, o, none⟩) (k + n - k) 0 (cutL bs k n)) := by
      intro h0; subst h0
      have e : cutL bs k 0 = [] := by rw [cutL, hmn]; simp
      rw [e, Nat.add_sub_cancel_left]; exact bytesAt_none _ 0 (Nat.zero_le _)
    have HM : Hid (Mv w (w.setCell ⟨C, 1, none⟩ (.int .i64 ((k + n : Nat) : Int))) C g o c old pf gf (k + n)) := Mv.of_set h (k + n)
    rw [hmn]
    have hgt : ¬ (128 : Int) < (k : Int) + (n : Int) := by omega
    have HM' : Hid (Mv w (w.setCell ⟨C, 1, none⟩ (.int .i64 ((k : Int) + (n : Int)))) C g o c old pf gf (k + n)) := by
      have e : ((k : Int) + (n : Int)) = ((k + n : Nat) : Int) := by omega
      rw [e]; exact HM
    have HR : Hid (∀ q a' c', BytesAt w A B a' (k + n - k) c' (cutL bs k n) → BytesAt ((w.setCell ⟨C, 1, none⟩ (.int .i64 ((k : Int) + (n : Int)))).drewN q) A B a' (k + n - k) c' (cutL bs k n)) := fun q a' c' hb => hb.fr (HM'.out.drewN q).2 hBC hBs
    clear HM hB
    by_cases hck : c = k
    · go_enter Try.func103, Try.ntmps103
      go_wp2
      obtain ⟨d0, d1, d2, d3, d4⟩ := HM'.out.1.cells
      generalize w.setCell ⟨C, 1, none⟩ (.int .i64 ((k : Int) + (n : Int))) = w1 at HM' HR d0 d1 d2 d3 d4 ⊢
      clear c0 c1 c2 c3 c4 hf
      go_quiet (fail)
      go_wp2
      go_ret
      exact ⟨_, _, rfl, HR.out _ _ _ (HZ.out (by omega)), HM'.out.drewN _⟩
    · go_enter Try.func103, Try.ntmps103
      go_wp2
      obtain ⟨d0, d1, d2, d3, d4⟩ := HM'.out.1.cells
      generalize w.setCell ⟨C, 1, none⟩ (.int .i64 ((k : Int) + (n : Int))) = w1 at HM' HR d0 d1 d2 d3 d4 ⊢
      clear c0 c1 c2 c3 c4 hf
      go_quiet (fail)
      go_wp2
      go_ret
      exact ⟨_, _, rfl, HR.out _ _ _ HC.out, HM'.out.drewN _⟩
  · have hmn : min (k + n) 128 = 128 := by omega
    have HC : Hid (BytesAt w A B (some ⟨g, o + k, none⟩) (128 - k) (c - k) (cutL bs k n)) := by
      have := bytesAt_sub hB k (128 - k) (by omega) (by omega)
      show BytesAt _ _ _ _ _ _ _
      rw [cutL, hmn]; exact this
    have HZ : Hid (128 - k = 0 → BytesAt w A B (some ⟨g, o, none⟩) (128 - k) 0 (cutL bs k n)) := by
      intro h0
      have e : cutL bs k n = [] := by rw [cutL, hmn, h0]; simp
      rw [e, h0]; exact bytesAt_none _ 0 (Nat.zero_le _)
    have HM : Hid (Mv w (w.setCell ⟨C, 1, none⟩ (.int .i64 128)) C g o c old pf gf 128) := Mv.of_set h 128
    have HR : Hid (∀ q a' c', BytesAt w A B a' (128 - k) c' (cutL bs k n) → BytesAt ((w.setCell ⟨C, 1, none⟩ (.int .i64 128)).drewN q) A B a' (128 - k) c' (cutL bs k n)) := fun q a' c' hb => hb.fr (HM.out.drewN q).2 hBC hBs
    rw [hmn]
    have hgt : (128 : Int) < (k : Int) + (n : Int) := by omega
    clear hB
    by_cases hck : c = k
    · go_enter Try.func103, Try.ntmps103
      go_wp2
      obtain ⟨d0, d1, d2, d3, d4⟩ := HM.out.1.cells
      generalize w.setCell ⟨C, 1, none⟩ (.int .i64 128) = w1 at HM HR d0 d1 d2 d3 d4 ⊢
      clear c0 c1 c2 c3 c4 hf
      go_quiet (fail)
      go_wp2
      go_ret
      exact ⟨_, _, rfl, HR.out _ _ _ (HZ.out (by omega)), HM.out.drewN _⟩
    · go_enter Try.func103, Try.ntmps103
      go_wp2
      obtain ⟨d0, d1, d2, d3, d4⟩ := HM.out.1.cells
      generalize w.setCell ⟨C, 1, none⟩ (.int .i64 128) = w1 at HM HR d0 d1 d2 d3 d4 ⊢
      clear c0 c1 c2 c3 c4 hf
      go_quiet (fail)
      go_wp2
      go_ret
      exact ⟨_, _, rfl, HR.out _ _ _ HC.out, HM.out.drewN _⟩
end Go.Proofs.Ytpiipnfhinbimac
namespace Go.Proofs.Ytpiipnfhinbimac
open Go.RowKit
set_option linter.unusedVariables false
set_option maxRecDepth 100000

/-- The number that bytes are, the lowest first. -/
def leN : List Int → Int
  | [] => 0
  | b :: r => b + 256 * leN r
def numOf (high : Bool) (bs : List Int) : Int := if high then leN bs.reverse else leN bs
theorem leN_snoc : ∀ (l : List Int) (x : Int), leN (l ++ [x]) = leN l + 256 ^ l.length * x
  | [], x => by simp [leN]
  | b :: r, x => by
    rw [List.cons_append, leN, leN_snoc r x, leN, List.length_cons, Int.pow_succ]
    rw [Int.mul_add, ← Int.mul_assoc, Int.mul_comm (256 ^ r.length) 256, Int.add_assoc]
theorem leN_range : ∀ (l : List Int), (∀ x ∈ l, 0 ≤ x ∧ x ≤ 255) → 0 ≤ leN l ∧ leN l < 256 ^ l.length
  | [], _ => by simp [leN]
  | b :: r, h => by
    have h1 := h b (List.mem_cons_self ..)
    have h2 := leN_range r (fun x hx => h x (List.mem_cons_of_mem _ hx))
    rw [leN, List.length_cons, Int.pow_succ]
    omega
theorem numOf_range (high : Bool) {l : List Int} (h : ∀ x ∈ l, 0 ≤ x ∧ x ≤ 255) : 0 ≤ numOf high l ∧ numOf high l < 256 ^ l.length := by
  cases high
  · exact leN_range l h
  · have := leN_range l.reverse (fun x hx => h x (List.mem_reverse.1 hx))
    simpa [numOf] using this
theorem leN_leB : ∀ n x, 0 ≤ x → x < 256 ^ n → leN (leB n x) = x
  | 0, x, h0, h1 => by simp at h1; simp [leB, leN]; omega
  | n + 1, x, h0, h1 => by
    rw [Int.pow_succ] at h1
    rw [leB, leN, leN_leB n (x / 256) (by omega) (by omega)]
    omega
theorem numOf_numB (high : Bool) (n : Nat) (x : Int) (h0 : 0 ≤ x) (h1 : x < 256 ^ n) : numOf high (numB high n x) = x := by
  cases high
  · exact leN_leB n x h0 h1
  · simp [numOf, numB, beB, leN_leB n x h0 h1]
theorem or_comm64 (a b : Int) : bits .or .i64 a b = bits .or .i64 b a := by
  show IntKind.i64.wrap ((BitVec.ofInt 64 a ||| BitVec.ofInt 64 b).toNat : Int) = IntKind.i64.wrap ((BitVec.ofInt 64 b ||| BitVec.ofInt 64 a).toNat : Int)
  rw [BitVec.or_comm]
theorem wrap62 : ∀ n : Int, 0 ≤ n → n < 2 ^ 62 → IntKind.i64.wrap n = n := by
  intro n h0 h1
  rw [IntKind.wrap_i64]
  have : (2 : Int) ^ 62 = 4611686018427387904 := by decide
  omega
theorem or_join (i : Nat) (x y : Int) (hx0 : 0 ≤ x) (hx : x % 2 ^ i = 0) (hx1 : x < 4611686018427387904) (hy0 : 0 ≤ y) (hy : y < 2 ^ i) (hy1 : y < 4611686018427387904) : bits .or .i64 x y = x + y :=
  bits_join .i64 62 (by decide) wrap62 i x y hx0 hx (by have : (2 : Int) ^ 62 = 4611686018427387904 := by decide
                                                        omega) hy0 hy (by have : (2 : Int) ^ 62 = 4611686018427387904 := by decide
                                                                          omega)
theorem or_low0 {y x : Int} (hy : 0 ≤ y ∧ y < 256 ^ 0) (hx : 0 ≤ x ∧ x ≤ 255) : bits .or .i64 y x = y + 256 ^ 0 * x := by
  simp at hy
  obtain rfl : y = 0 := by omega
  rw [or_comm64, or_join 0 x 0 (by omega) (by simp) (by omega) (by omega) (by simp) (by omega)]
  simp
theorem or_low1 {y x : Int} (hy : 0 ≤ y ∧ y < 256 ^ 1) (hx : 0 ≤ x ∧ x ≤ 255) : bits .or .i64 y (x * 256) = y + 256 ^ 1 * x := by
  have h1 : (256 : Int) ^ 1 = 256 := by decide
  have h2 : (2 : Int) ^ 8 = 256 := by decide
  rw [h1] at hy
  rw [or_comm64, or_join 8 (x * 256) y (by omega) (by omega) (by omega) (by omega) (by omega) (by omega)]
  omega
theorem or_low2 {y x : Int} (hy : 0 ≤ y ∧ y < 256 ^ 2) (hx : 0 ≤ x ∧ x ≤ 255) : bits .or .i64 y (x * 65536) = y + 256 ^ 2 * x := by
  have h1 : (256 : Int) ^ 2 = 65536 := by decide
  have h2 : (2 : Int) ^ 16 = 65536 := by decide
  rw [h1] at hy
  rw [or_comm64, or_join 16 (x * 65536) y (by omega) (by omega) (by omega) (by omega) (by omega) (by omega)]
  omega
theorem or_low3 {y x : Int} (hy : 0 ≤ y ∧ y < 256 ^ 3) (hx : 0 ≤ x ∧ x ≤ 255) : bits .or .i64 y (x * 16777216) = y + 256 ^ 3 * x := by
  have h1 : (256 : Int) ^ 3 = 16777216 := by decide
  have h2 : (2 : Int) ^ 24 = 16777216 := by decide
  rw [h1] at hy
  rw [or_comm64, or_join 24 (x * 16777216) y (by omega) (by omega) (by omega) (by omega) (by omega) (by omega)]
  omega
theorem or_high {y x : Int} (hy : 0 ≤ y ∧ y < 16777216) (hx : 0 ≤ x ∧ x ≤ 255) : bits .or .i64 (y * 256) x = 256 * y + x := by
  have h2 : (2 : Int) ^ 8 = 256 := by decide
  rw [or_join 8 (y * 256) x (by omega) (by omega) (by omega) (by omega) (by omega) (by omega)]
  omega
set_option maxHeartbeats 800000 in
theorem getLow_any (C g o c pf gf k : Nat) (old : Bool) (n : Nat) (hn : n ≤ 4) (hk : k ≤ 128) (bs : List Int) (A B : Nat) (hBC : B ≤ C) (w : World) (hBs : B ≤ w.heap.size) (hB : BytesAt w A B (some ⟨g, o, none⟩) 128 c bs) (h : RCur w C g o c old pf gf k) :
    Calls Try.prog 114 #[.pointer (some ⟨C, 0, none⟩), .int .i64 n] w fun e w' => e = .returned (.int .i64 (numOf false (cutL bs k n))) ∧ Mv w w' C g o c old pf gf (min (k + n) 128) := by
  have hl := cutL_len hB.1 k n
  go_enter Try.func114, Try.ntmps114
  go_wp2_with fail
  refine (take_any C g o c pf gf k old n (by omega) hk bs A B hBC w hBs hB h).mono ?_
  rintro e w1 ⟨a1, c1, rfl, hB1, hM1⟩
  have hl4 : min (k + n) 128 - k ≤ 4 := by omega
  generalize hk' : min (k + n) 128 = k' at hB1 hM1 hl hl4 ⊢
  have HK : Hid (min (k + n) 128 = k') := hk'
  generalize k' - k = m at hB1 hl hl4 ⊢
  generalize hq : cutL bs k n = l at hB1 hl ⊢
  have HQ : Hid (cutL bs k n = l) := hq
  clear hk' hq
  have hby := hB1.2.2.2.1
  have HM1 : Hid (Mv w w1 C g o c old pf gf k') := hM1
  have HL : Hid (l.length = m) := hl
  clear hM1 hl hB h
  go_wp2_with fail
  go_loopw [5, 12] (fun x i wr => ∃ j : Nat, j ≤ m ∧ i = .int .i64 j ∧ wr = w1 ∧ x = .int .i64 (leN (l.take j))) (fun _ i _ => m - (intOf i).toNat)
  case atStart => exact ⟨0, by omega, rfl, rfl, rfl⟩
  case round =>
    obtain ⟨j, hj, rfl, rfl, rfl⟩ := hrel
    by_cases hlt : j < m
    · obtain ⟨b, off, rfl, hb, hcb⟩ := hB1.2.2.2.2.1 (by omega)
      have e1 := hcb j hlt
      have hx := getD_byteB hby j
      have hr := leN_range (l.take j) (fun x hx => hby x (List.mem_of_mem_take hx))
      have hlj : (l.take j).length = j := by have := HL.out; simp; omega
      rw [hlj] at hr
      have HS : Hid (leN (l.take (j + 1)) = leN (l.take j) + 256 ^ j * l.getD j 0) := by
        show _ = _
        have hll := HL.out
        rw [List.take_add_one, show l[j]?.toList = [l.getD j 0] by simp [List.getD, show j < l.length by omega], leN_snoc, hlj]
      generalize l.getD j 0 = x at e1 hx HS
      generalize leN (l.take j) = y at hr HS ⊢
      clear hB1 hcb hlj
      have h4 : j = 0 ∨ j = 1 ∨ j = 2 ∨ j = 3 := by omega
      rcases h4 with rfl | rfl | rfl | rfl
      · simp only [Nat.add_zero] at e1
        go_wp2
        go_roundw
        case rel => exact ⟨1, by omega, rfl, trivial, by rw [HS.out, or_low0 hr hx]⟩
        case measure => simp [intOf]; omega
      · go_wp2
        go_roundw
        case rel => exact ⟨2, by omega, rfl, trivial, by rw [HS.out, or_low1 hr hx]⟩
        case measure => simp [intOf]; omega
      · go_wp2
        go_roundw
        case rel => exact ⟨3, by omega, rfl, trivial, by rw [HS.out, or_low2 hr hx]⟩
        case measure => simp [intOf]; omega
      · go_wp2
        go_roundw
        case rel => exact ⟨4, by omega, rfl, trivial, by rw [HS.out, or_low3 hr hx]⟩
        case measure => simp [intOf]; omega
    · go_wp2
      go_ret
      obtain rfl : j = m := by omega
      rw [List.take_of_length_le (by have := HL.out; omega)]
      rw [HQ.out, HK.out]
      exact ⟨rfl, HM1.out⟩
theorem beN_take {l : List Int} {j : Nat} (h : j < l.length) : numOf true (l.take (j + 1)) = 256 * numOf true (l.take j) + l.getD j 0 := by
  rw [List.take_add_one, show l[j]?.toList = [l.getD j 0] by simp [List.getD, h]]
  simp only [numOf, if_true, List.reverse_append, List.reverse_cons, List.reverse_nil, List.nil_append, List.singleton_append, leN]
  omega
set_option maxHeartbeats 800000 in
theorem getHigh_any (C g o c pf gf k : Nat) (old : Bool) (n : Nat) (hn : n ≤ 4) (hk : k ≤ 128) (bs : List Int) (A B : Nat) (hBC : B ≤ C) (w : World) (hBs : B ≤ w.heap.size) (hB : BytesAt w A B (some ⟨g, o, none⟩) 128 c bs) (h : RCur w C g o c old pf gf k) :
    Calls Try.prog 156 #[.pointer (some ⟨C, 0, none⟩), .int .i64 n] w fun e w' => e = .returned (.int .i64 (numOf true (cutL bs k n))) ∧ Mv w w' C g o c old pf gf (min (k + n) 128) := by
  have hl := cutL_len hB.1 k n
  go_enter Try.func156, Try.ntmps156
  go_wp2_with fail
  refine (take_any C g o c pf gf k old n (by omega) hk bs A B hBC w hBs hB h).mono ?_
  rintro e w1 ⟨a1, c1, rfl, hB1, hM1⟩
  have hl4 : min (k + n) 128 - k ≤ 4 := by omega
  generalize hk' : min (k + n) 128 = k' at hB1 hM1 hl hl4 ⊢
  have HK : Hid (min (k + n) 128 = k') := hk'
  generalize k' - k = m at hB1 hl hl4 ⊢
  generalize hq : cutL bs k n = l at hB1 hl ⊢
  have HQ : Hid (cutL bs k n = l) := hq
  clear hk' hq
  have hby := hB1.2.2.2.1
  have HM1 : Hid (Mv w w1 C g o c old pf gf k') := hM1
  have HL : Hid (l.length = m) := hl
  clear hM1 hl hB h
  go_wp2_with fail
  go_loopw [5, 12] (fun x i wr => ∃ j : Nat, j ≤ m ∧ i = .int .i64 j ∧ wr = w1 ∧ x = .int .i64 (numOf true (l.take j))) (fun _ i _ => m - (intOf i).toNat)
  case atStart => exact ⟨0, by omega, rfl, rfl, rfl⟩
  case round =>
    obtain ⟨j, hj, rfl, rfl, rfl⟩ := hrel
    by_cases hlt : j < m
    · obtain ⟨b, off, rfl, hb, hcb⟩ := hB1.2.2.2.2.1 (by omega)
      have e1 := hcb j hlt
      have hx := getD_byteB hby j
      have hr := numOf_range true (l := l.take j) (fun x hx => hby x (List.mem_of_mem_take hx))
      have hlj : (l.take j).length = j := by have := HL.out; simp; omega
      rw [hlj] at hr
      have hr3 : 0 ≤ numOf true (l.take j) ∧ numOf true (l.take j) < 16777216 := by
        refine ⟨hr.1, ?_⟩
        have h4 : j = 0 ∨ j = 1 ∨ j = 2 ∨ j = 3 := by omega
        rcases h4 with rfl | rfl | rfl | rfl <;> simp at hr ⊢ <;> omega
      have HS : Hid (numOf true (l.take (j + 1)) = 256 * numOf true (l.take j) + l.getD j 0) := beN_take (by have := HL.out; omega)
      generalize l.getD j 0 = x at e1 hx HS
      generalize numOf true (l.take j) = y at hr3 HS ⊢
      clear hB1 hcb hlj hr
      go_wp2
      go_roundw
      case rel => exact ⟨j + 1, by omega, by go_num, trivial, by rw [HS.out, or_high hr3 hx]⟩
      case measure => simp [intOf]; omega
    · go_wp2
      go_ret
      obtain rfl : j = m := by omega
      rw [List.take_of_length_le (by have := HL.out; omega)]
      rw [HQ.out, HK.out]
      exact ⟨rfl, HM1.out⟩
end Go.Proofs.Ytpiipnfhinbimac
