import Derived.Test.YtmmdkjeoadlikaaMk
import Derived.Test.YtmmdkjeoadlikaaKz
namespace Go.Proofs.Ytmmdkjeoadlikaa
open Go.RowKit
set_option linter.unusedVariables false
set_option maxRecDepth 100000

set_option maxHeartbeats 400000 in
/-- markByteS at bytes of one's own, whatever type their block bears. -/
theorem markByteT_any (ty : TypeId) (a : Option Addr) (n c k base : Nat) (xs : List Value) (w : World) (h : w.ownsRow base ty 1 (.slice a n c) n xs) (hk : k + n ≤ 1099511627776) :
    Calls Try.prog 14 #[.slice a n c, .int .i64 k] w fun e w' => e = .returned (.int .i64 ((k + n : Nat) : Int)) ∧ (w'.ownsRow base ty 1 (.slice a n c) n (u8s (marks k n)) ∧ w.grownBy w' (Value.slice a n c).ownBlock) := by
  go_enter Try.func14, Try.ntmps14
  go_wp2
  go_loopw [1, 5] (fun kv i wr => ∃ (j : Nat) (ys : List Value), j ≤ n ∧ i = .int .i64 j ∧ kv = .int .i64 ((k + j : Nat) : Int) ∧ wr.ownsRow base ty 1 (.slice a n c) n ys ∧ Hid (∀ i, i < j → ys[i]? = some (.int .u8 (((k + i : Nat) : Int) % 256))) ∧ w.grownBy wr (Value.slice a n c).ownBlock) (fun _ i _ => n - (intOf i).toNat)
  case atStart => exact ⟨0, xs, Nat.zero_le _, rfl, rfl, h, fun i hi => absurd hi (Nat.not_lt_zero _), grown_refl _ _⟩
  case round =>
    clear h
    obtain ⟨j, ys, hj, rfl, rfl, hown, hys, hgr⟩ := hrel
    by_cases hlt : j < n
    · obtain ⟨g, rfl⟩ : ∃ g, a = some ⟨g, 0, none⟩ := by
        rcases hown.2 with ⟨_, h0⟩ | ⟨g, cap, cur, h0, _⟩
        · omega
        · injection h0 with h1; exact ⟨g, h1⟩
      have hf := hown.frozenAt j
      have hxl := hown.1
      obtain ⟨u, hu⟩ : ∃ u, wr.cell? ⟨g, j, none⟩ = some u := ⟨ys[j]'(by omega), by rw [hown.cellAt j (by omega)]; exact List.getElem?_eq_getElem _⟩
      obtain ⟨R1, R2⟩ := hown.stored j (.int .u8 (((k : Int) + (j : Int)) % 256))
      have HY : Hid (∀ i, i < j + 1 → (ys.set j (.int .u8 (((k : Int) + (j : Int)) % 256)))[i]? = some (.int .u8 (((k + i : Nat) : Int) % 256))) := by
        intro i hi
        by_cases hij : i = j
        · subst hij; rw [List.getElem?_set_self (by omega)]; simp
        · rw [List.getElem?_set_ne (by omega)]; exact hys.out i (by omega)
      have hgr2 : w.grownBy (wr.setCell ⟨g, j, none⟩ (.int .u8 (((k : Int) + (j : Int)) % 256))) (Value.slice (some ⟨g, 0, none⟩) n c).ownBlock := grown_trans hgr R2
      clear hown R2 hgr
      go_wp2
      go_roundw
      case rel => exact ⟨j + 1, _, by omega, by go_num, by go_num, R1, HY, hgr2⟩
      case measure => simp [intOf]; omega
    · obtain rfl : j = n := by omega
      have HR : Hid (wr.ownsRow base ty 1 (.slice a j c) j (u8s (marks k j))) := by
        have hxl := hown.1
        have e : ys = u8s (marks k j) := by
          apply List.ext_getElem?
          intro i
          by_cases hi : i < j
          · rw [hys.out i hi]; simp [u8s, marks, hi]
          · rw [List.getElem?_eq_none (by omega), List.getElem?_eq_none (by simp [u8s, marks]; omega)]
        rw [← e]; exact hown
      go_wp2
      go_ret
      exact ⟨rfl, HR.out, hgr⟩
end Go.Proofs.Ytmmdkjeoadlikaa
namespace Go.Proofs.Ytmmdkjeoadlikaa
open Go.RowKit
set_option linter.unusedVariables false
set_option maxRecDepth 100000

theorem own_to {w w' : World} {base e size : Nat} {v : Value} {n : Nat} {xs : List Value} (h : w.ownsRow base e size v n xs) (hb : ∀ g, v.ownBlock = some g → w'.heap[g]? = w.heap[g]?) : w'.ownsRow base e size v n xs := by
  obtain ⟨h1, h2⟩ := h
  refine ⟨h1, ?_⟩
  rcases h2 with h3 | ⟨g, cap, cur, rfl, h4, h5, h6⟩
  · exact .inl h3
  · exact .inr ⟨g, cap, cur, rfl, h4, (hb g rfl).trans h5, h6⟩
/-- Bytes of one's own, in the blocks from lo to hi. -/
structure RowZ (w : World) (lo hi : Nat) (a : Option Addr) (n c : Nat) (bs : List Int) : Prop where
  row : ∃ ty, w.ownsRow lo ty 1 (.slice a n c) n (u8s bs)
  top : ∀ x, a = some x → x.block < hi
  bys : ∀ x ∈ bs, 0 ≤ x ∧ x ≤ 255
theorem RowZ.mk' {w : World} {lo ty n c : Nat} {a : Option Addr} {bs : List Int} (h : w.ownsRow lo ty 1 (.slice a n c) n (u8s bs)) (hb : ∀ x ∈ bs, 0 ≤ x ∧ x ≤ 255) : RowZ w lo w.heap.size a n c bs :=
  ⟨⟨ty, h⟩, fun x e => by subst e; exact (h.lt _ rfl).2, hb⟩
theorem RowZ.fr {S : Nat → Prop} {w w' : World} {lo hi n c : Nat} {a : Option Addr} {bs : List Int} (h : RowZ w lo hi a n c bs) (hf : Fr S w w') (hS : ∀ g, S g → g < lo ∨ hi ≤ g) : RowZ w' lo hi a n c bs := by
  obtain ⟨⟨ty, h1⟩, h2, h3⟩ := h
  refine ⟨⟨ty, own_to h1 (fun g hg => ?_)⟩, h2, h3⟩
  have h4 := h1.lt g hg
  cases a with
  | none => cases hg
  | some x =>
    have h5 : x.block = g := by simpa [Value.ownBlock] using hg
    have h6 := h2 x rfl
    exact hf.block g h4.2 (fun e => by have := hS g e; omega)
theorem RowZ.below {w w' : World} {lo hi n c : Nat} {a : Option Addr} {bs : List Int} (h : RowZ w lo hi a n c bs) (hb : Below w.heap.size w w') : RowZ w' lo hi a n c bs := h.fr (Fr.of_below (S := fun _ => False) hb) (fun g e => e.elim)
theorem RowZ.bytes {w : World} {lo hi n c : Nat} {a : Option Addr} {bs : List Int} (h : RowZ w lo hi a n c bs) : BytesAt w lo w.heap.size a n c bs := by
  obtain ⟨⟨ty, h1⟩, h2, h3⟩ := h
  have hl : bs.length = n := by have := h1.1; simpa [u8s] using this
  rcases h1.2 with ⟨e, rfl⟩ | ⟨g, cap, cur, e, _⟩
  · simp only [Value.slice.injEq] at e
    obtain ⟨rfl, _, rfl⟩ := e
    exact ⟨hl, Nat.le_refl _, by unfold maxLen; omega, h3, fun h => absurd h (Nat.lt_irrefl _), fun _ => rfl⟩
  · have e2 := e
    simp only [Value.slice.injEq] at e2
    obtain ⟨rfl, _, rfl⟩ := e2
    refine bytes_of_owns h1 hl (fun j hj => ?_) h3
    simp [u8s, List.getD, List.getElem?_eq_getElem (show j < bs.length by omega)]
theorem markByteS_z (a : Option Addr) (n c k lo hi : Nat) (bs : List Int) (w : World) (h : RowZ w lo hi a n c bs) (hk : k + n ≤ 1099511627776) :
    Calls Try.prog 14 #[.slice a n c, .int .i64 k] w fun e w' => e = .returned (.int .i64 ((k + n : Nat) : Int)) ∧ RowZ w' lo hi a n c (marks k n) ∧ Fr (fun g => lo ≤ g ∧ g < hi) w w' := by
  obtain ⟨⟨ty, h1⟩, h2, h3⟩ := h
  refine (markByteT_any ty a n c k lo _ w h1 hk).mono ?_
  rintro e w' ⟨rfl, hO, hg⟩
  refine ⟨rfl, ⟨⟨ty, hO⟩, h2, marks_byte k n⟩, hg.os, hg.tape, hg.output, hg.size, fun g hl hS => hg.block g hl (fun e => ?_)⟩
  have h4 := h1.lt g e.symm
  cases a with
  | none => cases e
  | some x =>
    have h5 : g = x.block := by simpa [Value.ownBlock] using e
    have h6 := h2 x rfl
    exact hS ⟨h4.1, by omega⟩
theorem eqByteS_z (a : Option Addr) (n c : Nat) (a2 : Option Addr) (c2 : Nat) (bs : List Int) (w : World) (lo hi lo2 hi2 : Nat) (h : RowZ w lo hi a n c bs) (k : RowZ w lo2 hi2 a2 n c2 bs) :
    Calls Try.prog 11 #[.slice a n c, .slice a2 n c2] w fun e w' => e = .returned (.bool true) ∧ Below w.heap.size w w' := by
  refine (eqByteS_same a n c a2 c2 bs w _ _ _ _ h.bytes k.bytes).mono ?_
  rintro e w' ⟨rfl, m, rfl⟩
  exact ⟨rfl, rfl, rfl, rfl, Nat.le_refl _, fun _ _ => rfl⟩
end Go.Proofs.Ytmmdkjeoadlikaa
