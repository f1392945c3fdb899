import Derived.Test.YtcmhobbpeaeebaaAB
import Derived.Test.YtcmhobbpeaeebaaPgL
import Derived.WalkLawsBesides
import Derived.Laws.EntriesVeiled
import Derived.WideLaws
import Derived.Deep.RegionHeld3
namespace Go.Proofs.Ytcmhobbpeaeebaa
open Go.RowKit
set_option linter.unusedVariables false
set_option maxRecDepth 100000

/-- bs laid over L from place k on. -/
def lay (L : List Int) (k : Nat) (bs : List Int) : List Int := L.take k ++ bs ++ L.drop (k + bs.length)
theorem lay_len {L : List Int} {k : Nat} {bs : List Int} (h : k + bs.length ≤ L.length) : (lay L k bs).length = L.length := by simp [lay]; omega
theorem lay_nil (L : List Int) (k : Nat) : lay L k [] = L := by simp [lay]
theorem lay_lay {L : List Int} {k : Nat} {ds bs : List Int} (h : k + ds.length ≤ L.length) : lay (lay L k ds) (k + ds.length) bs = lay L k (ds ++ bs) := by
  have h1 : (L.take k ++ ds).length = k + ds.length := by simp; omega
  unfold lay
  rw [List.take_append_of_le_length (by omega), List.take_of_length_le (by omega)]
  rw [show k + ds.length + bs.length = (L.take k ++ ds).length + bs.length by omega, List.drop_append, List.drop_drop, List.drop_eq_nil_of_le (by omega)]
  simp only [List.length_append, List.nil_append]
  rw [List.append_assoc (L.take k) ds bs]
  congr 2
  simp
  omega
theorem lay_set {L : List Int} {k : Nat} {x : Int} (h : k < L.length) : L.set k x = lay L k [x] := by
  rw [lay, List.set_eq_take_append_cons_drop, if_pos h]; simp

theorem heap_setCell_atB {w : World} {b t : Nat} {cs : Array Value} (h : w.heap[b]? = some (.cells cs t (0, 0))) (o : Nat) (v : Value) : (w.setCell ⟨b, o, none⟩ v).heap[b]? = some (.cells (cs.setIfInBounds o v) t (0, 0)) := by
  obtain ⟨hlt, hk⟩ := Array.getElem?_eq_some_iff.1 h
  show (w.heap.modify b _)[b]? = _
  rw [Array.getElem?_eq_getElem (by rw [Array.size_modify]; exact hlt), Array.getElem_modify_self, hk]
  rfl
theorem fr_setB {S : Nat → Prop} {w w' : World} (h : Fr S w w') {g o : Nat} (hS : S g) (u : Value) : Fr S w (w'.setCell ⟨g, o, none⟩ u) :=
  h.trans ⟨rfl, rfl, rfl, by simp [World.setCell], fun k _ hk => Below.heap_setCell w' _ u k (fun e => hk (e ▸ hS))⟩

/-- A cursor at block C over the bytes of block G, at place k. -/
structure Cur (w : World) (C G : Nat) (old : Bool) (pf gf : Nat) (k : Nat) (L : List Int) : Prop where
  box : w.heap[C]? = some (.cells #[.slice (some ⟨G, 0, none⟩) 128 128, .int .i64 k, .bool old, .func (.func pf) #[.pointer (some ⟨C, 0, none⟩)] #[], .func (.func gf) #[.pointer (some ⟨C, 0, none⟩)] #[]] 72)
  row : w.ownsRow 0 5 1 (.slice (some ⟨G, 0, none⟩) 128 128) 128 (u8s L)
  len : L.length = 128
theorem Cur.ne {w : World} {C G k pf gf : Nat} {old : Bool} {L : List Int} (h : Cur w C G old pf gf k L) : C ≠ G := by
  intro e
  subst e
  rcases h.row.2 with ⟨h0, _⟩ | ⟨g, cap, cur, h0, _, hgg, _⟩
  · cases h0
  · injection h0 with h1
    injection h1 with h2
    injection h2 with h3
    subst h3
    rw [h.box] at hgg
    injection hgg with h4
    injection h4 with _ h5
    exact absurd h5 (by decide)
theorem Cur.drew {w : World} {C G k pf gf : Nat} {old : Bool} {L : List Int} (h : Cur w C G old pf gf k L) : Cur w.drew C G old pf gf k L := ⟨h.box, h.row.drew, h.len⟩
/-- What a write through the cursor does. -/
def Wrote (w w' : World) (C G : Nat) (old : Bool) (pf gf : Nat) (k : Nat) (L bs : List Int) : Prop := Cur w' C G old pf gf (k + bs.length) (lay L k bs) ∧ Fr (fun g => g = C ∨ g = G) w w'
theorem Wrote.drew {w w' : World} {C G k pf gf : Nat} {old : Bool} {L bs : List Int} (h : Wrote w w' C G old pf gf k L bs) : Wrote w w'.drew C G old pf gf k L bs := ⟨h.1.drew, h.2.trans (Fr.of_below (Below.refl _ _).drew)⟩
theorem Wrote.trans {w w' w'' : World} {C G k pf gf : Nat} {old : Bool} {L ds bs : List Int} (h : Wrote w w' C G old pf gf k L ds) (hl : k + ds.length ≤ L.length) (h2 : Wrote w' w'' C G old pf gf (k + ds.length) (lay L k ds) bs) : Wrote w w'' C G old pf gf k L (ds ++ bs) := by
  obtain ⟨h3, h4⟩ := h2
  rw [lay_lay hl, Nat.add_assoc, ← List.length_append] at h3
  exact ⟨h3, h.2.trans h4⟩

set_option maxHeartbeats 800000 in
theorem putByte_any (C G k pf gf : Nat) (old : Bool) (L : List Int) (x : Int) (w : World) (h : Cur w C G old pf gf k L) (hk : k < 128) :
    Calls Try.prog 98 #[.pointer (some ⟨C, 0, none⟩), .int .u8 x] w fun e w' => e = .returned (.tuple #[]) ∧ Wrote w w' C G old pf gf k L [x] := by
  have e0 : w.cell? ⟨C, 0, none⟩ = some (.slice (some ⟨G, 0, none⟩) 128 128) := by simp [World.cell?, h.box]
  have e1 : w.cell? ⟨C, 1, none⟩ = some (.int .i64 k) := by simp [World.cell?, h.box]
  go_enter Try.func98, Try.ntmps98
  have hki : (k : Int) < 128 := by omega
  have hne := h.ne
  have hne' := hne.symm
  have hf := h.row.frozenAt k
  have hfC : ∀ o, w.frozen? ⟨C, o, none⟩ = false := by intro o; simp [World.frozen?, h.box]
  obtain ⟨u, hu⟩ : ∃ u, w.cell? ⟨G, k, none⟩ = some u := ⟨_, by rw [h.row.cellAt k (by omega)]; exact List.getElem?_eq_getElem (by simp [u8s, h.len]; omega)⟩
  go_wp2
  go_region_held3 (fun w' => w'.cell? ⟨C, 0, none⟩ = some (.slice (some ⟨G, 0, none⟩) 128 128) ∧ w'.cell? ⟨C, 1, none⟩ = some (.int .i64 k)) (go_keep) (fail)
  go_wp2
  go_end0
  have R : Wrote w ((w.setCell ⟨G, k, none⟩ (.int .u8 x)).setCell ⟨C, 1, none⟩ (.int .i64 ((k : Int) + 1))) C G old pf gf k L [x] := by
    refine ⟨?_, ?_⟩
    · have hrow := (h.row.stored k (.int .u8 x)).1
      have hbx : (w.setCell ⟨G, k, none⟩ (.int .u8 x)).heap[C]? = _ := (Below.heap_setCell w ⟨G, k, none⟩ (.int .u8 x) C hne).trans h.box
      refine ⟨?_, ?_, ?_⟩
      · have := heap_setCell_atB hbx 1 (.int .i64 ((k : Int) + 1))
        simpa using this
      · rw [← lay_set (by rw [h.len]; exact hk)]
        have := owns_set hrow (p := ⟨C, 1, none⟩) (fun g e e' => by simp [Value.ownBlock] at e; simp at e'; omega) (.int .i64 ((k : Int) + 1))
        simpa [u8s, List.map_set] using this
      · rw [lay_len (by simp [h.len]; omega)]; exact h.len
    · exact fr_setB (o := 1) (fr_setB (Fr.refl _ _) (.inr rfl) _) (g := C) (.inl rfl) (.int .i64 ((k : Int) + 1))
  exact ⟨rfl, R.drew⟩

theorem shr8_pow (x : Int) : ∀ m, shr8 m x = x / 2 ^ (8 * m)
  | 0 => by simp [shr8]
  | m + 1 => by
    rw [shr8, shr8_pow x m, Int.ediv_ediv_of_nonneg (Int.le_of_lt (Int.pow_pos (by omega)))]
    congr 1
    rw [show 8 * (m + 1) = 8 * m + 8 by omega, Int.pow_add]
    rfl
theorem leB_get (x : Int) : ∀ n i, i < n → (leB n x)[i]? = some (shr8 i x % 256) := by
  intro n
  induction n with
  | zero => intro i h; omega
  | succ n ih =>
    intro i h
    rw [leB_snoc]
    by_cases hi : i < n
    · rw [List.getElem?_append_left (by rw [leB_len]; exact hi)]; exact ih i hi
    · obtain rfl : i = n := by omega
      rw [List.getElem?_append_right (by rw [leB_len]; omega), leB_len]; simp
theorem beB_get (x : Int) {n i : Nat} (h : i < n) : (beB n x)[i]? = some (x / 2 ^ (8 * (n - 1 - i)) % 256) := by
  rw [beB, List.getElem?_reverse (by rw [leB_len]; exact h), leB_len, leB_get x n (n - 1 - i) (by omega), shr8_pow]
theorem beB_take (x : Int) {n i : Nat} (h : i < n) : (beB n x).take (i + 1) = (beB n x).take i ++ [x / 2 ^ (8 * (n - 1 - i)) % 256] := by
  rw [List.take_add_one, beB_get x h]; rfl
theorem wrote_nil {w : World} {C G k pf gf : Nat} {old : Bool} {L : List Int} (h : Cur w C G old pf gf k L) : Wrote w w C G old pf gf k L [] := ⟨by rw [lay_nil]; exact h, Fr.refl _ _⟩

/-- What the cursor's way of writing numbers does. -/
def PutNum (C G : Nat) (old : Bool) (pf gf : Nat) : Prop := ∀ (k : Nat) (L : List Int) (x : Int) (n : Nat) (w : World), I64 x → n ≤ 8 → Cur w C G old pf gf k L → k + n ≤ 128 →
  Calls Try.prog pf #[.pointer (some ⟨C, 0, none⟩), .int .i64 x, .int .i64 n] w fun e w' => e = .returned (.tuple #[]) ∧ Wrote w w' C G old pf gf k L (numB old n x)
theorem Cur.cells {w : World} {C G k pf gf : Nat} {old : Bool} {L : List Int} (h : Cur w C G old pf gf k L) : w.cell? ⟨C, 0, none⟩ = some (.slice (some ⟨G, 0, none⟩) 128 128) ∧ w.cell? ⟨C, 1, none⟩ = some (.int .i64 k) ∧ w.cell? ⟨C, 2, none⟩ = some (.bool old) ∧ w.cell? ⟨C, 3, none⟩ = some (.func (.func pf) #[.pointer (some ⟨C, 0, none⟩)] #[]) ∧ w.cell? ⟨C, 4, none⟩ = some (.func (.func gf) #[.pointer (some ⟨C, 0, none⟩)] #[]) := by
  refine ⟨?_, ?_, ?_, ?_, ?_⟩ <;> simp [World.cell?, h.box]
end Go.Proofs.Ytcmhobbpeaeebaa
