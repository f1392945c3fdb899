import Derived.Test.YtmmdkjeoadlikaaCRep
import Derived.Maps.OwnOps
import Derived.WalkSpells
namespace Go.Proofs.Ytmmdkjeoadlikaa
open Go.RowKit Go.Maps
set_option linter.unusedVariables false
set_option maxRecDepth 100000

theorem lawS : Keyed Try.prog 9 := string_keyed Try.underlying9
theorem zeroI (w : World) : (zeroValue 2).run Try.prog w = .ok (.int .i64 0) w := by kernel_rfl
theorem keyS {nm : ByteArray} (h : nm.size ≤ maxLen) : keyOf Try.prog 9 (.string nm) = some (keyL nm) := WideMaps.keyOf_string_mk Try.underlying9 h

/-- Two blocks may have turned, the rest stands; there may be new ones. -/
structure Turn (w w' : World) (cb mb : Nat) : Prop where
  os : w'.os = w.os
  tape : w'.tape = w.tape
  output : w'.output = w.output
  size : w.heap.size ≤ w'.heap.size
  block : ∀ j, j < w.heap.size → j ≠ cb → j ≠ mb → w'.heap[j]? = w.heap[j]?
theorem Turn.refl (w : World) (cb mb : Nat) : Turn w w cb mb := ⟨rfl, rfl, rfl, Nat.le_refl _, fun _ _ _ _ => rfl⟩
theorem Turn.trans {a b c : World} {cb mb : Nat} (h : Turn a b cb mb) (k : Turn b c cb mb) : Turn a c cb mb :=
  ⟨k.os.trans h.os, k.tape.trans h.tape, k.output.trans h.output, Nat.le_trans h.size k.size, fun j hj h1 h2 => (k.block j (Nat.lt_of_lt_of_le hj h.size) h1 h2).trans (h.block j hj h1 h2)⟩
theorem Turn.of_below {a b : World} {cb mb : Nat} (h : Below a.heap.size a b) : Turn a b cb mb := ⟨h.os, h.tape, h.output, h.size, fun j hj _ _ => h.block j hj⟩
theorem Turn.below {a b : World} {cb mb S : Nat} (h : Turn a b cb mb) (hS : S ≤ a.heap.size) (h1 : S ≤ cb) (h2 : S ≤ mb) : Below S a b := ⟨h.os, h.tape, h.output, h.size, fun j hj => h.block j (by omega) (by omega) (by omega)⟩

def MapAt (w : World) (mb k : Nat) (D : DataW Unit) : Prop := w.ownsMap Try.prog 9 (plainElem Try.prog 2) mb k D
theorem MapAt.ne {w : World} {mb k cb : Nat} {D : DataW Unit} {cs : Array Value} {t : TypeId} {fz : Nat × Nat} (h : MapAt w mb k D) (hc : w.heap[cb]? = some (.cells cs t fz)) : mb ≠ cb := by
  obtain ⟨es, clock, hb, _⟩ := h
  intro e
  subst e
  rw [hb] at hc
  cases hc
theorem MapAt.keep {w w' : World} {mb k : Nat} {D : DataW Unit} (h : MapAt w mb k D) (hb : w'.heap[mb]? = w.heap[mb]?) : MapAt w' mb k D := by
  obtain ⟨es, clock, h1, rest⟩ := h
  exact ⟨es, clock, hb.trans h1, rest⟩

def AddRes (w w' : World) (cb mb k : Nat) (D : DataW Unit) (tot : Int) : Prop :=
  w'.heap[cb]? = some (.cells #[.map (some mb), .int .i64 tot] 99) ∧ MapAt w' mb (k + 1) D ∧ Turn w w' cb mb

set_option maxHeartbeats 400000 in
theorem add_any (nm : ByteArray) (pages old tot : Int) (cb mb k : Nat) (D : DataW Unit) (w : World) (hcb : w.heap[cb]? = some (.cells #[.map (some mb), .int .i64 tot] 99)) (hm : MapAt w mb k D) (hk : k ≤ 1073741824)
    (hat : D.atKey (keyL nm) (.lit (.int .i64 0)) = .lit (.int .i64 old)) (hs : nm.size ≤ maxLen) (h0 : 0 ≤ pages) (h1 : pages ≤ 1099511627776) (h2 : 0 ≤ old) (h3 : old ≤ 1099511627776) (h4 : 0 ≤ tot) (h5 : tot ≤ 1099511627776) :
    Calls Try.prog 76 #[.pointer (some ⟨cb, 0, none⟩), .string nm, .int .i64 pages] w fun e w' => e = .returned (.tuple #[]) ∧ AddRes w w' cb mb k (D.put (keyL nm) (.lit (.int .i64 (old + pages)))) (tot + pages) := by
  have c0 : w.cell? ⟨cb, 0, none⟩ = some (.map (some mb)) := by rw [cell_of_row w cb 0 _ _ _ hcb]; rfl
  have hkey := keyS hs
  have hne := hm.ne hcb
  have HCB : Hid (w.heap[cb]? = some (.cells #[.map (some mb), .int .i64 tot] 99)) := hcb
  have HAT : Hid (D.atKey (keyL nm) (.lit (.int .i64 0)) = .lit (.int .i64 old)) := hat
  clear hcb hat
  have hm' : w.ownsMap Try.prog 9 (plainElem Try.prog 2) mb k D := hm
  go_enter Try.func76, Try.ntmps76
  go_wp2_with (first
    | (at_lookup; refine wpList_lookup_own_int _ rfl _ _ 97 rfl 9 2 .i64 lawS Try.underlying97 Try.underlying2 (zeroI _) mb k D rfl hm' _ _ rfl hkey ?_; intro c hat2 hwc; obtain rfl : old = c := (by have e := HAT.out.symm.trans hat2; injection e with e; injection e with _ e))
    | (at_mapUpdate; refine wpList_mapUpdate_own _ rfl _ _ _ 97 rfl 9 2 lawS Try.underlying97 _ mb k D rfl hm' (by unfold maxLen; omega) _ _ _ rfl rfl hkey _ [] (plainElem_int Try.underlying2 (WalkArith.wf_i64 (by omega))) ?_; intro w1 hown1 hgr1; have hb1 : Hid (w1.heap[cb]? = some (.cells #[.map (some mb), .int .i64 tot] 99)) := (hgr1.block cb (Array.getElem?_eq_some_iff.1 HCB.out).1 (fun e => hne (by injection e with e; exact e.symm))).trans HCB.out; have d1 : w1.cell? ⟨cb, 1, none⟩ = some (.int .i64 tot) := (by rw [cell_of_row w1 cb 1 _ _ _ hb1.out]; rfl); have f1 : w1.frozen? ⟨cb, 1, none⟩ = false := frozen_of_row w1 cb 1 _ _ hb1.out))
  go_end0
  refine ⟨rfl, ?_, ?_, ?_⟩
  · rw [heap_setCell_same w1 cb 1 _ _ _ hb1.out]; rfl
  · exact MapAt.keep (w := w1) hown1 (Below.heap_setCell w1 ⟨cb, 1, none⟩ _ mb hne)
  · refine ⟨hgr1.os, hgr1.tape, hgr1.output, by simpa using hgr1.size, fun j hj h1 h2 => ?_⟩
    rw [Below.heap_setCell w1 ⟨cb, 1, none⟩ _ j h1, hgr1.block j hj (fun e => h2 (by injection e))]
end Go.Proofs.Ytmmdkjeoadlikaa
