import Derived.Test.YtdieplpegkiolaaGAA
import Derived.Lib.BufferWrite
import Derived.Laws.BitsAll
import Derived.Laws.IdiomStrings
import Derived.WalkSpells
import Derived.WalkLawsBesides
import Derived.Test.YtdieplpegkiolaaChecked
import Derived.OwnWalk
import Derived.WalkKit
import Derived.ProofKit
namespace Go.Proofs.Ytdieplpegkiolaa
open Go.RowKit
set_option linter.unusedVariables false
set_option maxRecDepth 100000

def smallN (old : Bool) : Nat := if old then 2 else 4
theorem smallWidth_any (C G k pf gf : Nat) (old : Bool) (L : List Int) (w : World) (h : Cur w C G old pf gf k L) :
    Calls Try.prog 92 #[.pointer (some ⟨C, 0, none⟩)] w fun e w' => e = .returned (.int .i64 (smallN old)) ∧ w' = w := by
  obtain ⟨_, _, e2, _⟩ := h.cells
  cases old
  all_goals
    go_enter Try.func92, Try.ntmps92
    go_wp2
    go_ret
    exact ⟨rfl, rfl⟩

theorem numB_small (old : Bool) (x : Int) : (numB old (smallN old) x).length ≤ 4 := by rw [numB_len]; cases old <;> decide
theorem smallN_le (old : Bool) : smallN old ≤ 4 := by cases old <;> decide

theorem Cur.move {w : World} {C G k pf gf : Nat} {old : Bool} {L : List Int} (h : Cur w C G old pf gf k L) (m : Nat) : Cur (w.setCell ⟨C, 1, none⟩ (.int .i64 (m : Int))) C G old pf gf m L := by
  have hne := h.ne
  refine ⟨?_, owns_set h.row (fun g e e' => by simp [Value.ownBlock] at e; simp at e'; omega) _, h.len⟩
  have := heap_setCell_atB h.box 1 (.int .i64 (m : Int))
  simpa using this
/-- copy(c.bytes[c.at:], s). -/
theorem step_letters {w : World} {C G k pf gf : Nat} {old : Bool} {L : List Int} {s : ByteArray} {ops : Array Oper} {o : Oper} {a : Act} {K : Act → World → Prop} {Q : Exit → Act → World → Prop} {E : Prop} (h : Cur w C G old pf gf k L) (hs : k + s.size ≤ 128) (hgd : o.guard = none) (d x : Operand)
    (ho : o.op = .call { callee := .builtin .copy, args := #[d, x], argTypes := #[22, 9] }) (dl dc : Nat) (hdl : dl = 128 - k) (hd : a.eval d = .slice (some ⟨G, k, none⟩) dl dc) (hx : a.eval x = .string s)
    (hK : ∀ w', Cur w' C G old pf gf k (lay L k (strB s)) → Fr (fun g => g = C ∨ g = G) w w' → K (a.put o.dst (.int .i64 s.size)) w') :
    if Region.wanted o (yielded ops a.tmps) = true then Oper.wp Try.prog o a w K Q else E := by
  obtain ⟨i0, hi, hz0, hz1, hz2⟩ := info_parts info_u8
  rw [if_pos (by simp [Region.wanted, hgd])]
  have hne := h.ne
  rcases h.row.2 with ⟨h0, _⟩ | ⟨g, cap, cur, h0, _, hgg, hc1, hc2, hcs, hct⟩
  · cases h0
  injection h0 with h1 _ h3
  injection h1 with h2
  injection h2 with h4
  subst h4 h3
  have hcur : cur.toList = u8s L := by
    rw [← hct, List.take_of_length_le (by rw [Array.length_toList, hcs]; omega)]
  have hrun := Lib.run_copy_row_string (P := Try.prog) w 22 9 o.type 5 G k dl dc s cur 5 Try.underlying22 (by rw [hi]; simp [hz1]) hgg (by omega) (by rw [hcs]; omega)
  have hcells : (cur.toList.take k ++ Lib.byteCells s.data.toList ++ cur.toList.drop (k + s.size)).toArray = (u8s (lay L k (strB s))).toArray := by
    rw [hcur, lay, strB_len]
    simp [u8s, strB, Lib.byteCells, List.map_take, List.map_drop]
  rw [hcells] at hrun
  unfold Oper.wp execOp
  simp only [ho, resolve, invoke, builtin, Sem.run_bind, Sem.run_pure, Result.andThen_ok, List.map_toArray, List.map_cons, List.map_nil, hd, hx, hrun]
  refine hK _ ⟨?_, ?_, ?_⟩ ⟨rfl, rfl, rfl, by simp [World.setRow], fun j _ hj => setRow_other w G j _ (fun e => hj (.inr e))⟩
  · exact (setRow_other w G C _ hne).trans h.box
  · have hl : (lay L k (strB s)).length = 128 := by rw [lay_len (by rw [strB_len, h.len]; exact hs)]; exact h.len
    refine ⟨by simp [u8s, hl], .inr ⟨G, 128, (u8s (lay L k (strB s))).toArray, rfl, Nat.zero_le _, setRow_heap w G cur _ _ _ hgg, Nat.le_refl _, by unfold maxLen; omega, by simp [u8s, hl], ?_⟩⟩
    rw [List.take_of_length_le (by simp [u8s, hl])]
  · rw [lay_len (by rw [strB_len, h.len]; exact hs)]; exact h.len

set_option maxHeartbeats 800000 in
theorem putLetters_any (C G k pf gf : Nat) (old : Bool) (L : List Int) (s : ByteArray) (w : World) (h : Cur w C G old pf gf k L) (hk : k + s.size ≤ 128) (hk1 : k < 128) :
    Calls Try.prog 91 #[.pointer (some ⟨C, 0, none⟩), .string s] w fun e w' => e = .returned (.tuple #[]) ∧ Wrote w w' C G old pf gf k L (strB s) := by
  obtain ⟨e0, e1, e2, e3, e4⟩ := h.cells
  have hfC : ∀ o, w.frozen? ⟨C, o, none⟩ = false := by intro o; simp [World.frozen?, h.box]
  have hki : (k : Int) ≤ 128 := by omega
  go_enter Try.func91, Try.ntmps91
  go_wp2_with fail
  have hks : (k : Int) ≠ 128 := by omega
  have hks2 : ¬ 128 = k := by omega
  go_region_law (first
      | (refine step_letters h.drew hk rfl (.tmp 16) (.tmp 17) rfl (128 - k) (128 - k) rfl (by first | rfl | (simp [Act.eval]; done)) (by first | rfl | (simp [Act.eval]; done)) ?_; intro w1 hc1 hf1; obtain ⟨q0, q1, _⟩ := hc1.cells; have hfq : w1.frozen? ⟨C, 1, none⟩ = false := by simp [World.frozen?, hc1.box]))
  all_goals
    have hwr : IntKind.i64.wrap ((k : Int) + (s.size : Int)) = ((k + s.size : Nat) : Int) := by rw [IntKind.wrap_i64]; omega
    go_wp2
    go_end0
    rw [hwr]
    refine ⟨rfl, ?_, fr_setB ((Fr.of_below (Below.refl _ _).drew).trans hf1) (.inl rfl) _⟩
    rw [strB_len]
    exact hc1.move (k + s.size)
end Go.Proofs.Ytdieplpegkiolaa
namespace Go.Proofs.Ytdieplpegkiolaa
open Go.RowKit
set_option linter.unusedVariables false
set_option maxRecDepth 100000

theorem bytesAt_sub {w : World} {A B g o c n : Nat} {bs : List Int} (h : BytesAt w A B (some ⟨g, o, none⟩) n c bs) (k m : Nat) (hk : k + m ≤ n) (hn : 0 < n) : BytesAt w A B (some ⟨g, o + k, none⟩) m (c - k) ((bs.drop k).take m) := by
  obtain ⟨hl, hnc, hc, hw, hcell, hnil⟩ := h
  obtain ⟨b, off, e1, e2, e3⟩ := hcell hn
  cases e1
  refine ⟨by simp; omega, by omega, by omega, fun x hx => hw x (List.mem_of_mem_drop (List.mem_of_mem_take hx)), fun _ => ⟨g, o + k, rfl, e2, fun i hi => ?_⟩, fun h => by cases h⟩
  rw [Nat.add_assoc, e3 (k + i) (by omega)]
  simp [List.getD, hi]
/-- A cursor that reads 128 bytes. -/
structure RCur (w : World) (C g o c : Nat) (old : Bool) (pf gf k : Nat) : Prop where
  box : w.heap[C]? = some (.cells #[.slice (some ⟨g, o, none⟩) 128 c, .int .i64 k, .bool old, .func (.func pf) #[.pointer (some ⟨C, 0, none⟩)] #[], .func (.func gf) #[.pointer (some ⟨C, 0, none⟩)] #[]] 82)
theorem RCur.cells {w : World} {C g o c pf gf k : Nat} {old : Bool} (h : RCur w C g o c old pf gf k) : w.cell? ⟨C, 0, none⟩ = some (.slice (some ⟨g, o, none⟩) 128 c) ∧ w.cell? ⟨C, 1, none⟩ = some (.int .i64 k) ∧ w.cell? ⟨C, 2, none⟩ = some (.bool old) ∧ w.cell? ⟨C, 3, none⟩ = some (.func (.func pf) #[.pointer (some ⟨C, 0, none⟩)] #[]) ∧ w.cell? ⟨C, 4, none⟩ = some (.func (.func gf) #[.pointer (some ⟨C, 0, none⟩)] #[]) := by
  refine ⟨?_, ?_, ?_, ?_, ?_⟩ <;> simp [World.cell?, h.box]
theorem RCur.drew {w : World} {C g o c pf gf k : Nat} {old : Bool} (h : RCur w C g o c old pf gf k) : RCur w.drew C g o c old pf gf k := ⟨h.box⟩
/-- The cursor went on to k'; nothing else was written. -/
def Mv (w w' : World) (C g o c : Nat) (old : Bool) (pf gf k : Nat) : Prop := RCur w' C g o c old pf gf k ∧ Fr (fun x => x = C) w w'
theorem Mv.of_set {w : World} {C g o c pf gf k : Nat} {old : Bool} (h : RCur w C g o c old pf gf k) (k' : Nat) : Mv w (w.setCell ⟨C, 1, none⟩ (.int .i64 k')) C g o c old pf gf k' := by
  refine ⟨⟨?_⟩, ?_⟩
  · simp [World.setCell, Array.getElem?_modify, h.box]
  · exact ⟨rfl, rfl, rfl, by simp [World.setCell], fun k _ hk => Below.heap_setCell w ⟨C, 1, none⟩ _ k hk⟩
theorem Mv.trans {w w1 w2 : World} {C g o c pf gf k k' : Nat} {old : Bool} (h : Mv w w1 C g o c old pf gf k) (h2 : Mv w1 w2 C g o c old pf gf k') : Mv w w2 C g o c old pf gf k' := ⟨h2.1, h.2.trans h2.2⟩
theorem Mv.redraw {w w1 : World} {C g o c pf gf k : Nat} {old : Bool} (h : Mv w.drew w1 C g o c old pf gf k) : Mv w w1 C g o c old pf gf k := ⟨h.1, (Fr.of_below (Below.refl _ _).drew).trans h.2⟩

theorem Mv.drewN {w w1 : World} {C g o c pf gf k : Nat} {old : Bool} (h : Mv w w1 C g o c old pf gf k) (q : Nat) : Mv w (w1.drewN q) C g o c old pf gf k := ⟨⟨h.1.box⟩, h.2.trans (Fr.of_below ⟨rfl, rfl, rfl, Nat.le_refl _, fun _ _ => rfl⟩)⟩
theorem BytesAt.fr {w w' : World} {A B C : Nat} {a : Option Addr} {n c : Nat} {bs : List Int} (h : BytesAt w A B a n c bs) (hf : Fr (fun x => x = C) w w') (hB : B ≤ C) (hs : B ≤ w.heap.size) : BytesAt w' A B a n c bs :=
  h.keep fun k k1 k2 => hf.block k (by omega) (by omega)
/-- What is left of 128 bytes at k, at most n. -/
def cutL (bs : List Int) (k n : Nat) : List Int := (bs.drop k).take (min (k + n) 128 - k)
theorem cutL_len {bs : List Int} (h : bs.length = 128) (k n : Nat) : (cutL bs k n).length = min (k + n) 128 - k := by simp [cutL, h]; omega
theorem bytesAt_none {w : World} {A B : Nat} (a : Addr) (c : Nat) (hc : c ≤ maxLen) : BytesAt w A B (some a) 0 c [] :=
  ⟨rfl, Nat.zero_le _, hc, (by intro x hx; cases hx), fun h => absurd h (Nat.lt_irrefl _), (by intro h; cases h)⟩
set_option maxHeartbeats 800000 in
theorem take_any (C g o c pf gf k : Nat) (old : Bool) (n : Nat) (hn : n ≤ 255) (hk : k ≤ 128) (bs : List Int) (A B : Nat) (hBC : B ≤ C) (w : World) (hBs : B ≤ w.heap.size) (hB : BytesAt w A B (some ⟨g, o, none⟩) 128 c bs) (h : RCur w C g o c old pf gf k) :
    Calls Try.prog 58 #[.pointer (some ⟨C, 0, none⟩), .int .i64 n] w fun e w' => ∃ a' c', e = .returned (.slice a' (min (k + n) 128 - k) c') ∧ BytesAt w' A B a' (min (k + n) 128 - k) c' (cutL bs k n) ∧ Mv w w' C g o c old pf gf (min (k + n) 128) := by
  have hc : 128 ≤ c := hB.2.1
  have hcm : c ≤ maxLen := hB.2.2.1
  obtain ⟨c0, c1, c2, c3, c4⟩ := h.cells
  have hf : ∀ j, w.frozen? ⟨C, j, none⟩ = false := by intro j; simp [World.frozen?, h.box]
  have hcm2 := hcm
  unfold maxLen at hcm
  have hlB : bs.length = 128 := hB.1
  by_cases hlt : k + n ≤ 128
  · have hmn : min (k + n) 128 = k + n := by omega
    have HC : Hid (BytesAt w A B (some ⟨g, o + k, none⟩) (k + n - k) (c - k) (cutL bs k n)) := by
      have := bytesAt_sub hB k n hlt (by omega)
      show BytesAt _ _ _ _ _ _ _
      rw [cutL, hmn, Nat.add_sub_cancel_left]; exact this
    have HZ : Hid (n = 0 → BytesAt w A B (some ⟨g, o, none⟩) (k + n - k) 0 (cutL bs k n)) := by
      intro h0; subst h0
      have e : cutL bs k 0 = [] := by rw [cutL, hmn]; simp
      rw [e, Nat.add_sub_cancel_left]; exact bytesAt_none _ 0 (Nat.zero_le _)
    have HM : Hid (Mv w (w.setCell ⟨C, 1, none⟩ (.int .i64 ((k + n : Nat) : Int))) C g o c old pf gf (k + n)) := Mv.of_set h (k + n)
    rw [hmn]
    have hgt : ¬ (128 : Int) < (k : Int) + (n : Int) := by omega
    have HM' : Hid (Mv w (w.setCell ⟨C, 1, none⟩ (.int .i64 ((k : Int) + (n : Int)))) C g o c old pf gf (k + n)) := by
      have e : ((k : Int) + (n : Int)) = ((k + n : Nat) : Int) := by omega
      rw [e]; exact HM
    have HR : Hid (∀ q a' c', BytesAt w A B a' (k + n - k) c' (cutL bs k n) → BytesAt ((w.setCell ⟨C, 1, none⟩ (.int .i64 ((k : Int) + (n : Int)))).drewN q) A B a' (k + n - k) c' (cutL bs k n)) := fun q a' c' hb => hb.fr (HM'.out.drewN q).2 hBC hBs
    clear HM hB
    by_cases hck : c = k
    · go_enter Try.func58, Try.ntmps58
      go_wp2
      obtain ⟨d0, d1, d2, d3, d4⟩ := HM'.out.1.cells
      generalize w.setCell ⟨C, 1, none⟩ (.int .i64 ((k : Int) + (n : Int))) = w1 at HM' HR d0 d1 d2 d3 d4 ⊢
      clear c0 c1 c2 c3 c4 hf
      go_quiet (fail)
      go_wp2
      go_ret
      exact ⟨_, _, rfl, HR.out _ _ _ (HZ.out (by omega)), HM'.out.drewN _⟩
    · go_enter Try.func58, Try.ntmps58
      go_wp2
      obtain ⟨d0, d1, d2, d3, d4⟩ := HM'.out.1.cells
      generalize w.setCell ⟨C, 1, none⟩ (.int .i64 ((k : Int) + (n : Int))) = w1 at HM' HR d0 d1 d2 d3 d4 ⊢
      clear c0 c1 c2 c3 c4 hf
      go_quiet (fail)
      go_wp2
      go_ret
      exact ⟨_, _, rfl, HR.out _ _ _ HC.out, HM'.out.drewN _⟩
  · have hmn : min (k + n) 128 = 128 := by omega
    have HC : Hid (BytesAt w A B (some ⟨g, o + k, none⟩) (128 - k) (c - k) (cutL bs k n)) := by
      have := bytesAt_sub hB k (128 - k) (by omega) (by omega)
      show BytesAt _ _ _ _ _ _ _
      rw [cutL, hmn]; exact this
    have HZ : Hid (128 - k = 0 → BytesAt w A B (some ⟨g, o, none⟩) (128 - k) 0 (cutL bs k n)) := by
      intro h0
      have e : cutL bs k n = [] := by rw [cutL, hmn, h0]; simp
      rw [e, h0]; exact bytesAt_none _ 0 (Nat.zero_le _)
    have HM : Hid (Mv w (w.setCell ⟨C, 1, none⟩ (.int .i64 128)) C g o c old pf gf 128) := Mv.of_set h 128
    have HR : Hid (∀ q a' c', BytesAt w A B a' (128 - k) c' (cutL bs k n) → BytesAt ((w.setCell ⟨C, 1, none⟩ (.int .i64 128)).drewN q) A B a' (128 - k) c' (cutL bs k n)) := fun q a' c' hb => hb.fr (HM.out.drewN q).2 hBC hBs
    rw [hmn]
    have hgt : (128 : Int) < (k : Int) + (n : Int) := by omega
    clear hB
    by_cases hck : c = k
    · go_enter Try.func58, Try.ntmps58
      go_wp2
      obtain ⟨d0, d1, d2, d3, d4⟩ := HM.out.1.cells
      generalize w.setCell ⟨C, 1, none⟩ (.int .i64 128) = w1 at HM HR d0 d1 d2 d3 d4 ⊢
      clear c0 c1 c2 c3 c4 hf
      go_quiet (fail)
      go_wp2
      go_ret
      exact ⟨_, _, rfl, HR.out _ _ _ (HZ.out (by omega)), HM.out.drewN _⟩
    · go_enter Try.func58, Try.ntmps58
      go_wp2
      obtain ⟨d0, d1, d2, d3, d4⟩ := HM.out.1.cells
      generalize w.setCell ⟨C, 1, none⟩ (.int .i64 128) = w1 at HM HR d0 d1 d2 d3 d4 ⊢
      clear c0 c1 c2 c3 c4 hf
      go_quiet (fail)
      go_wp2
      go_ret
      exact ⟨_, _, rfl, HR.out _ _ _ HC.out, HM.out.drewN _⟩
end Go.Proofs.Ytdieplpegkiolaa
namespace Go.Proofs.Ytdieplpegkiolaa
open Go.RowKit
set_option linter.unusedVariables false
set_option maxRecDepth 100000

/-- The decimal digits of k, ahead of out. -/
def digF : Nat → Nat → List UInt8 → List UInt8
  | 0, _, out => out
  | f + 1, k, out => if k = 0 then out else digF f (k / 10) (UInt8.ofNat (48 + k % 10) :: out)
def mkS (k : Nat) : ByteArray := if k = 0 then ⟨#[109, 48]⟩ else ⟨(109 :: digF 40 k []).toArray⟩

theorem glue (x y : List UInt8) : (⟨x.toArray⟩ : ByteArray) ++ (⟨y.toArray⟩ : ByteArray) = ⟨(x ++ y).toArray⟩ := by
  rw [ByteArray.mk_append_mk]
theorem digit_run (kk : Nat) (wr : World) : (convert 22 9 (.slice (some ⟨wr.heap.size, 0, none⟩) 1 1)).run Try.prog (wr.alloc (.cells #[.int .u8 (48 + (kk : Int) % 10)] 5)) = .ok (.string ⟨#[UInt8.ofNat (48 + kk % 10)]⟩) (wr.alloc (.cells #[.int .u8 (48 + (kk : Int) % 10)] 5)) := by
  refine run_convert_bytes_back (P := Try.prog) _ 22 9 5 ⟨wr.heap.size, 0, none⟩ 1 [UInt8.ofNat (48 + kk % 10)] Try.underlying22 Try.underlying5 Try.underlying9 ?_
  intro j hj
  simp at hj
  subst hj
  have e : (((UInt8.ofNat (48 + kk % 10)).toNat : Nat) : Int) = 48 + (kk : Int) % 10 := by
    rw [UInt8.toNat_ofNat']
    omega
  simp [Addr.add]
  omega

/-- The marks that follow one another from k on. -/
def marks (k : Nat) (n : Nat) : List Int := (List.range n).map fun j => ((k + j : Nat) : Int) % 256
theorem marks_get (k n j : Nat) (h : j < n) : (marks k n).getD j 0 = ((k + j : Nat) : Int) % 256 := by simp [marks, List.getD, h]

set_option maxHeartbeats 400000 in
theorem heldByteS_any (a : Option Addr) (n c k : Nat) (w : World) (A B : Nat) (h : BytesAt w A B a n c (marks k n)) (hk : k + n ≤ 1099511627776) :
    Calls Try.prog 45 #[.slice a n c, .int .i64 k] w fun e w' => e = .returned (.int .i64 ((k + n : Nat) : Int)) ∧ w' = w := by
  obtain ⟨hl, hnc, hc, _, hcell, _⟩ := h
  go_enter Try.func45, Try.ntmps45
  go_wp2
  go_loop [1, 5] (fun kv i => ∃ j : Nat, j ≤ n ∧ i = .int .i64 j ∧ kv = .int .i64 ((k + j : Nat) : Int)) (fun _ i => n - (intOf i).toNat)
  case atStart => exact ⟨0, Nat.zero_le _, rfl, rfl⟩
  case round =>
    obtain ⟨j, hj, rfl, rfl⟩ := hrel
    by_cases hlt : j < n
    · obtain ⟨b, off, rfl, hb, hcb⟩ := hcell (by omega)
      have e1 := hcb j hlt
      rw [marks_get k n j hlt] at e1
      clear hcell hcb
      go_wp2
      go_round
      case rel => exact ⟨j + 1, by omega, by go_num, by go_num⟩
      case measure => simp [intOf]; omega
    · obtain rfl : j = n := by omega
      go_wp2
      go_ret
      exact ⟨rfl, rfl⟩
theorem grown_refl (w : World) (row : Option Nat) : w.grownBy w row := ⟨rfl, rfl, rfl, Nat.le_refl _, fun _ _ _ => rfl⟩
theorem grown_trans {a b c : World} {row : Option Nat} (h : a.grownBy b row) (k : b.grownBy c row) : a.grownBy c row :=
  ⟨k.os.trans h.os, k.tape.trans h.tape, k.output.trans h.output, Nat.le_trans h.size k.size, fun i hi hne => (k.block i (Nat.lt_of_lt_of_le hi h.size) hne).trans (h.block i hi hne)⟩
def MarkRes (w w' : World) (base : Nat) (v : Value) (n k : Nat) : Prop := w'.ownsRow base 5 1 v n (u8s (marks k n)) ∧ w.grownBy w' v.ownBlock

set_option maxHeartbeats 400000 in
theorem markByteS_any (a : Option Addr) (n c k base : Nat) (xs : List Value) (w : World) (h : w.ownsRow base 5 1 (.slice a n c) n xs) (hk : k + n ≤ 1099511627776) :
    Calls Try.prog 9 #[.slice a n c, .int .i64 k] w fun e w' => e = .returned (.int .i64 ((k + n : Nat) : Int)) ∧ MarkRes w w' base (.slice a n c) n k := by
  go_enter Try.func9, Try.ntmps9
  go_wp2
  go_loopw [1, 5] (fun kv i wr => ∃ (j : Nat) (ys : List Value), j ≤ n ∧ i = .int .i64 j ∧ kv = .int .i64 ((k + j : Nat) : Int) ∧ wr.ownsRow base 5 1 (.slice a n c) n ys ∧ Hid (∀ i, i < j → ys[i]? = some (.int .u8 (((k + i : Nat) : Int) % 256))) ∧ w.grownBy wr (Value.slice a n c).ownBlock) (fun _ i _ => n - (intOf i).toNat)
  case atStart => exact ⟨0, xs, Nat.zero_le _, rfl, rfl, h, fun i hi => absurd hi (Nat.not_lt_zero _), grown_refl _ _⟩
  case round =>
    clear h
    obtain ⟨j, ys, hj, rfl, rfl, hown, hys, hgr⟩ := hrel
    by_cases hlt : j < n
    · obtain ⟨g, rfl⟩ : ∃ g, a = some ⟨g, 0, none⟩ := by
        rcases hown.2 with ⟨_, h0⟩ | ⟨g, cap, cur, h0, _⟩
        · omega
        · injection h0 with h1; exact ⟨g, h1⟩
      have hf := hown.frozenAt j
      have hxl := hown.1
      obtain ⟨u, hu⟩ : ∃ u, wr.cell? ⟨g, j, none⟩ = some u := ⟨ys[j]'(by omega), by rw [hown.cellAt j (by omega)]; exact List.getElem?_eq_getElem _⟩
      obtain ⟨R1, R2⟩ := hown.stored j (.int .u8 (((k : Int) + (j : Int)) % 256))
      have HY : Hid (∀ i, i < j + 1 → (ys.set j (.int .u8 (((k : Int) + (j : Int)) % 256)))[i]? = some (.int .u8 (((k + i : Nat) : Int) % 256))) := by
        intro i hi
        by_cases hij : i = j
        · subst hij; rw [List.getElem?_set_self (by omega)]; simp
        · rw [List.getElem?_set_ne (by omega)]; exact hys.out i (by omega)
      have hgr2 : w.grownBy (wr.setCell ⟨g, j, none⟩ (.int .u8 (((k : Int) + (j : Int)) % 256))) (Value.slice (some ⟨g, 0, none⟩) n c).ownBlock := grown_trans hgr R2
      clear hown R2 hgr
      go_wp2
      go_roundw
      case rel => exact ⟨j + 1, _, by omega, by go_num, by go_num, R1, HY, hgr2⟩
      case measure => simp [intOf]; omega
    · obtain rfl : j = n := by omega
      have HR : Hid (wr.ownsRow base 5 1 (.slice a j c) j (u8s (marks k j))) := by
        have hxl := hown.1
        have e : ys = u8s (marks k j) := by
          apply List.ext_getElem?
          intro i
          by_cases hi : i < j
          · rw [hys.out i hi]; simp [u8s, marks, hi]
          · rw [List.getElem?_eq_none (by omega), List.getElem?_eq_none (by simp [u8s, marks]; omega)]
        rw [← e]; exact hown
      go_wp2
      go_ret
      exact ⟨rfl, HR.out, hgr⟩
theorem marks_byte (k n : Nat) : ∀ x ∈ marks k n, 0 ≤ x ∧ x ≤ 255 := by
  intro x hx
  simp [marks] at hx
  obtain ⟨a, _, rfl⟩ := hx
  omega
end Go.Proofs.Ytdieplpegkiolaa
namespace Go.Proofs.Ytdieplpegkiolaa
open Go.RowKit
set_option linter.unusedVariables false
set_option maxRecDepth 100000

/-- A name, as the document has it. -/
def okBytes (l : List UInt8) : Bool := l.all fun c => decide (97 ≤ c.toNat ∧ c.toNat ≤ 122)
def nameB (s : ByteArray) : Bool := decide (1 ≤ s.size) && decide (s.size ≤ 8) && okBytes s.data.toList
theorem okBytes_snoc (l : List UInt8) (c : UInt8) : okBytes (l ++ [c]) = (okBytes l && decide (97 ≤ c.toNat ∧ c.toNat ≤ 122)) := by simp [okBytes]
theorem okBytes_take_false (l : List UInt8) (k : Nat) (h : okBytes (l.take k) = false) : okBytes l = false := by
  cases hl : okBytes l
  · rfl
  · exfalso
    have : okBytes (l.take k) = true := by
      simp only [okBytes, List.all_eq_true] at hl ⊢
      exact fun x hx => hl x (List.mem_of_mem_take hx)
    rw [this] at h; cases h
theorem take_snocB (s : ByteArray) (k : Nat) (h : k < s.size) : s.data.toList.take (k + 1) = s.data.toList.take k ++ [s[k]] := by
  rw [List.take_succ_eq_append_getElem (by simpa using h)]; rfl
theorem name_long {s : ByteArray} (h : s.size < 1 ∨ 8 < s.size) : nameB s = false := by
  unfold nameB
  rcases h with h | h
  · simp [show ¬ 1 ≤ s.size by omega]
  · simp [show ¬ s.size ≤ 8 by omega]
theorem name_bad {s : ByteArray} {k : Nat} (hk : k < s.size) (h : ((s[k].toNat : Int) < 97) ∨ (122 : Int) < (s[k].toNat : Int)) : nameB s = false := by
  have h2 : okBytes (s.data.toList.take (k + 1)) = false := by
    rw [take_snocB s k hk, okBytes_snoc]
    rw [show decide (97 ≤ s[k].toNat ∧ s[k].toNat ≤ 122) = false by simp; omega]; simp
  unfold nameB
  rw [okBytes_take_false _ _ h2]; simp
theorem name_good {s : ByteArray} (h1 : 1 ≤ s.size) (h2 : s.size ≤ 8) (h : okBytes (s.data.toList.take s.size) = true) : nameB s = true := by
  unfold nameB
  rw [List.take_of_length_le (by simp)] at h
  simp [h1, h2, h]
theorem name_step {s : ByteArray} {k : Nat} (hk : k < s.size) (h : okBytes (s.data.toList.take k) = true) (h1 : (97 : Int) ≤ (s[k].toNat : Int)) (h2 : (s[k].toNat : Int) ≤ 122) : okBytes (s.data.toList.take (k + 1)) = true := by
  rw [take_snocB s k hk, okBytes_snoc, h]
  simp; omega
theorem bytes_ext {a b : ByteArray} (h : a.toList = b.toList) : a = b := by
  rw [ByteArray.toList_eq, ByteArray.toList_eq] at h
  cases a; cases b; simp at h; subst h; rfl
theorem same_no {a b : ByteArray} (h : a ≠ b) : (a.toList == b.toList) = false := by
  cases hb : (a.toList == b.toList)
  · rfl
  · exact absurd (bytes_ext (eq_of_beq hb)) h
theorem same_yes {a b : ByteArray} (h : a = b) : (a.toList == b.toList) = true := by subst h; simp

/-- Where a name stands among files: its number, or -1. -/
def findN (fs : List PF) (nm : ByteArray) : Nat := fs.findIdx (fun f => decide (f.1 = nm))
def findI (fs : List PF) (nm : ByteArray) : Int := if findN fs nm < fs.length then (findN fs nm : Int) else -1
theorem findI_none {fs : List PF} {nm : ByteArray} (h : ∀ j, j < fs.length → (fs.getD j (ByteArray.empty, [])).1 ≠ nm) : findI fs nm = -1 := by
  unfold findI
  rw [if_neg]
  intro hlt
  have h1 := h _ hlt
  unfold findN at h1 hlt
  have h2 := List.findIdx_getElem (w := hlt)
  simp only [List.getD, List.getElem?_eq_getElem hlt, Option.getD_some] at h1
  exact h1 (of_decide_eq_true h2)
theorem findN_at {fs : List PF} {nm : ByteArray} {k : Nat} (hk : k < fs.length) (h : ∀ j, j < k → (fs.getD j (ByteArray.empty, [])).1 ≠ nm) (h2 : (fs.getD k (ByteArray.empty, [])).1 = nm) : findN fs nm = k := by
  unfold findN
  rw [List.findIdx_eq hk]
  refine ⟨by simpa [List.getD, List.getElem?_eq_getElem hk] using h2, fun j hj => ?_⟩
  simpa [List.getD, List.getElem?_eq_getElem (show j < fs.length by omega)] using h j hj
theorem findI_at {fs : List PF} {nm : ByteArray} {k : Nat} (hk : k < fs.length) (h : ∀ j, j < k → (fs.getD j (ByteArray.empty, [])).1 ≠ nm) (h2 : (fs.getD k (ByteArray.empty, [])).1 = nm) : findI fs nm = k := by
  unfold findI
  rw [findN_at hk h h2, if_pos hk]
theorem findI_cases (fs : List PF) (nm : ByteArray) : (findI fs nm = -1 ∧ findN fs nm = fs.length) ∨ (findI fs nm = findN fs nm ∧ findN fs nm < fs.length) := by
  unfold findI
  have : findN fs nm ≤ fs.length := List.findIdx_le_length
  split
  · exact .inr ⟨rfl, by assumption⟩
  · exact .inl ⟨rfl, by omega⟩

/-- How many pages a file of this name has. -/
def lenI (fs : List PF) (nm : ByteArray) : Int := if findN fs nm < fs.length then ((fs.getD (findN fs nm) (ByteArray.empty, [])).2.length : Int) / 128 else 0
/-- The pages of all files. -/
def totalI : List PF → Int
  | [] => 0
  | f :: r => (f.2.length : Int) / 128 + totalI r
theorem totalI_append (xs ys : List PF) : totalI (xs ++ ys) = totalI xs + totalI ys := by
  induction xs with
  | nil => simp [totalI]
  | cons x r ih => simp [totalI, ih]; omega
theorem totalI_bd (xs : List PF) : 0 ≤ totalI xs ∧ totalI xs ≤ wFiles xs := by
  induction xs with
  | nil => simp [totalI, wFiles]
  | cons x r ih => simp [totalI, wFiles, wFile]; omega
theorem totalI_take_le (xs : List PF) (k : Nat) : totalI (xs.take k) ≤ totalI xs := by
  have h := totalI_append (xs.take k) (xs.drop k)
  rw [List.take_append_drop] at h
  have := (totalI_bd (xs.drop k)).1
  omega
theorem wFiles_take_le (xs : List PF) (k : Nat) : wFiles (xs.take k) ≤ wFiles xs := by
  have h := wFiles_append (xs.take k) (xs.drop k)
  rw [List.take_append_drop] at h
  have := wFiles_nonneg (xs.drop k)
  omega
theorem wFiles_get (xs : List PF) (k : Nat) (hk : k < xs.length) : ((xs.getD k (ByteArray.empty, [])).1.size : Int) + ((xs.getD k (ByteArray.empty, [])).2.length : Int) ≤ wFiles xs := by
  induction xs generalizing k with
  | nil => simp at hk
  | cons x r ih =>
    cases k with
    | zero => have := wFiles_nonneg r; simp [wFiles, wFile]; omega
    | succ k =>
      have h1 := ih k (by simpa using hk)
      simp only [wFiles, wFile]
      simp only [List.getD_cons_succ]
      omega
theorem wPends_get (xs : List PP) (k : Nat) (hk : k < xs.length) : ((xs.getD k (ByteArray.empty, 0, [])).1.size : Int) + ((xs.getD k (ByteArray.empty, 0, [])).2.2.length : Int) ≤ wPends xs := by
  induction xs generalizing k with
  | nil => simp at hk
  | cons x r ih =>
    cases k with
    | zero => have := wPends_nonneg r; simp [wPends, wPend]; omega
    | succ k =>
      have h1 := ih k (by simpa using hk)
      simp only [wPends, wPend]
      simp only [List.getD_cons_succ]
      omega
/-- 'a >= b' on names. -/
def geB (a b : ByteArray) : Bool := !Op.bytesLess a.toList b.toList
/-- One file of a list is as it should be. -/
def fileOk (fs : List PF) (i : Nat) : Bool :=
  nameB (fs.getD i (ByteArray.empty, [])).1 && !((fs.getD i (ByteArray.empty, [])).2.length == 0) && ((fs.getD i (ByteArray.empty, [])).2.length % 128 == 0) && !(decide (0 < i) && geB (fs.getD (i - 1) (ByteArray.empty, [])).1 (fs.getD i (ByteArray.empty, [])).1)
def filesOk (fs : List PF) : Bool := decide (∀ i, i < fs.length → fileOk fs i = true)
theorem filesOk_no {fs : List PF} {i : Nat} (hi : i < fs.length) (h : fileOk fs i = false) : filesOk fs = false := by
  unfold filesOk
  rw [decide_eq_false_iff_not]
  intro h2
  rw [h2 i hi] at h
  cases h
theorem filesOk_yes {fs : List PF} (h : ∀ i, i < fs.length → fileOk fs i = true) : filesOk fs = true := by
  unfold filesOk
  exact decide_eq_true h
end Go.Proofs.Ytdieplpegkiolaa
namespace Go.Proofs.Ytdieplpegkiolaa
open Go.RowKit
set_option linter.unusedVariables false
set_option maxRecDepth 100000

end Go.Proofs.Ytdieplpegkiolaa
namespace Go.Proofs.Ytdieplpegkiolaa
open Go.RowKit
set_option linter.unusedVariables false
set_option maxRecDepth 100000

set_option maxHeartbeats 400000 in
theorem l1In_any (x lo hi : Int) (w : World) :
    Calls Try.prog 22 #[.int .i64 x, .int .i64 lo, .int .i64 hi] w fun e w' => e = .returned (.bool (decide (lo ≤ x ∧ x ≤ hi))) ∧ w' = w := by
  by_cases h1 : lo ≤ x
  · go_enter Try.func22, Try.ntmps22
    go_wp2
    go_ret
    exact ⟨by simp [h1], rfl⟩
  · have hd : decide (lo ≤ x) = false := by simp; omega
    go_enter Try.func22, Try.ntmps22
    go_wp2
    go_ret
    exact ⟨by simp, rfl⟩
end Go.Proofs.Ytdieplpegkiolaa
