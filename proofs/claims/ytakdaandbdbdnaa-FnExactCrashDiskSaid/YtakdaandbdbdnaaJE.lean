import Derived.Test.YtakdaandbdbdnaaMk
import Derived.Test.YtakdaandbdbdnaaSz
import Derived.Test.YtakdaandbdbdnaaKz
import Derived.Test.YtakdaandbdbdnaaJC
import Derived.Test.YtakdaandbdbdnaaJA
namespace Go.Proofs.Ytakdaandbdbdnaa
open Go.RowKit
set_option linter.unusedVariables false
set_option maxRecDepth 100000

set_option maxHeartbeats 400000 in
/-- markByteS at bytes of one's own, whatever type their block bears. -/
theorem markByteT_any (ty : TypeId) (a : Option Addr) (n c k base : Nat) (xs : List Value) (w : World) (h : w.ownsRow base ty 1 (.slice a n c) n xs) (hk : k + n ≤ 1099511627776) :
    Calls Try.prog 93 #[.slice a n c, .int .i64 k] w fun e w' => e = .returned (.int .i64 ((k + n : Nat) : Int)) ∧ (w'.ownsRow base ty 1 (.slice a n c) n (u8s (marks k n)) ∧ w.grownBy w' (Value.slice a n c).ownBlock) := by
  go_enter Try.func93, Try.ntmps93
  go_wp2
  go_loopw [1, 5] (fun kv i wr => ∃ (j : Nat) (ys : List Value), j ≤ n ∧ i = .int .i64 j ∧ kv = .int .i64 ((k + j : Nat) : Int) ∧ wr.ownsRow base ty 1 (.slice a n c) n ys ∧ Hid (∀ i, i < j → ys[i]? = some (.int .u8 (((k + i : Nat) : Int) % 256))) ∧ w.grownBy wr (Value.slice a n c).ownBlock) (fun _ i _ => n - (intOf i).toNat)
  case atStart => exact ⟨0, xs, Nat.zero_le _, rfl, rfl, h, fun i hi => absurd hi (Nat.not_lt_zero _), grown_refl _ _⟩
  case round =>
    clear h
    obtain ⟨j, ys, hj, rfl, rfl, hown, hys, hgr⟩ := hrel
    by_cases hlt : j < n
    · obtain ⟨g, rfl⟩ : ∃ g, a = some ⟨g, 0, none⟩ := by
        rcases hown.2 with ⟨_, h0⟩ | ⟨g, cap, cur, h0, _⟩
        · omega
        · injection h0 with h1; exact ⟨g, h1⟩
      have hf := hown.frozenAt j
      have hxl := hown.1
      obtain ⟨u, hu⟩ : ∃ u, wr.cell? ⟨g, j, none⟩ = some u := ⟨ys[j]'(by omega), by rw [hown.cellAt j (by omega)]; exact List.getElem?_eq_getElem _⟩
      obtain ⟨R1, R2⟩ := hown.stored j (.int .u8 (((k : Int) + (j : Int)) % 256))
      have HY : Hid (∀ i, i < j + 1 → (ys.set j (.int .u8 (((k : Int) + (j : Int)) % 256)))[i]? = some (.int .u8 (((k + i : Nat) : Int) % 256))) := by
        intro i hi
        by_cases hij : i = j
        · subst hij; rw [List.getElem?_set_self (by omega)]; simp
        · rw [List.getElem?_set_ne (by omega)]; exact hys.out i (by omega)
      have hgr2 : w.grownBy (wr.setCell ⟨g, j, none⟩ (.int .u8 (((k : Int) + (j : Int)) % 256))) (Value.slice (some ⟨g, 0, none⟩) n c).ownBlock := grown_trans hgr R2
      clear hown R2 hgr
      go_wp2
      go_roundw
      case rel => exact ⟨j + 1, _, by omega, by go_num, by go_num, R1, HY, hgr2⟩
      case measure => simp [intOf]; omega
    · obtain rfl : j = n := by omega
      have HR : Hid (wr.ownsRow base ty 1 (.slice a j c) j (u8s (marks k j))) := by
        have hxl := hown.1
        have e : ys = u8s (marks k j) := by
          apply List.ext_getElem?
          intro i
          by_cases hi : i < j
          · rw [hys.out i hi]; simp [u8s, marks, hi]
          · rw [List.getElem?_eq_none (by omega), List.getElem?_eq_none (by simp [u8s, marks]; omega)]
        rw [← e]; exact hown
      go_wp2
      go_ret
      exact ⟨rfl, HR.out, hgr⟩
end Go.Proofs.Ytakdaandbdbdnaa
namespace Go.Proofs.Ytakdaandbdbdnaa
open Go.RowKit
set_option linter.unusedVariables false
set_option maxRecDepth 100000

theorem own_to {w w' : World} {base e size : Nat} {v : Value} {n : Nat} {xs : List Value} (h : w.ownsRow base e size v n xs) (hb : ∀ g, v.ownBlock = some g → w'.heap[g]? = w.heap[g]?) : w'.ownsRow base e size v n xs := by
  obtain ⟨h1, h2⟩ := h
  refine ⟨h1, ?_⟩
  rcases h2 with h3 | ⟨g, cap, cur, rfl, h4, h5, h6⟩
  · exact .inl h3
  · exact .inr ⟨g, cap, cur, rfl, h4, (hb g rfl).trans h5, h6⟩
/-- Bytes of one's own, in the blocks from lo to hi. -/
structure RowZ (w : World) (lo hi : Nat) (a : Option Addr) (n c : Nat) (bs : List Int) : Prop where
  row : ∃ ty, w.ownsRow lo ty 1 (.slice a n c) n (u8s bs)
  top : ∀ x, a = some x → x.block < hi
  bys : ∀ x ∈ bs, 0 ≤ x ∧ x ≤ 255
theorem RowZ.mk' {w : World} {lo ty n c : Nat} {a : Option Addr} {bs : List Int} (h : w.ownsRow lo ty 1 (.slice a n c) n (u8s bs)) (hb : ∀ x ∈ bs, 0 ≤ x ∧ x ≤ 255) : RowZ w lo w.heap.size a n c bs :=
  ⟨⟨ty, h⟩, fun x e => by subst e; exact (h.lt _ rfl).2, hb⟩
theorem RowZ.fr {S : Nat → Prop} {w w' : World} {lo hi n c : Nat} {a : Option Addr} {bs : List Int} (h : RowZ w lo hi a n c bs) (hf : Fr S w w') (hS : ∀ g, S g → g < lo ∨ hi ≤ g) : RowZ w' lo hi a n c bs := by
  obtain ⟨⟨ty, h1⟩, h2, h3⟩ := h
  refine ⟨⟨ty, own_to h1 (fun g hg => ?_)⟩, h2, h3⟩
  have h4 := h1.lt g hg
  cases a with
  | none => cases hg
  | some x =>
    have h5 : x.block = g := by simpa [Value.ownBlock] using hg
    have h6 := h2 x rfl
    exact hf.block g h4.2 (fun e => by have := hS g e; omega)
theorem RowZ.below {w w' : World} {lo hi n c : Nat} {a : Option Addr} {bs : List Int} (h : RowZ w lo hi a n c bs) (hb : Below w.heap.size w w') : RowZ w' lo hi a n c bs := h.fr (Fr.of_below (S := fun _ => False) hb) (fun g e => e.elim)
theorem RowZ.bytes {w : World} {lo hi n c : Nat} {a : Option Addr} {bs : List Int} (h : RowZ w lo hi a n c bs) : BytesAt w lo w.heap.size a n c bs := by
  obtain ⟨⟨ty, h1⟩, h2, h3⟩ := h
  have hl : bs.length = n := by have := h1.1; simpa [u8s] using this
  rcases h1.2 with ⟨e, rfl⟩ | ⟨g, cap, cur, e, _⟩
  · simp only [Value.slice.injEq] at e
    obtain ⟨rfl, _, rfl⟩ := e
    exact ⟨hl, Nat.le_refl _, by unfold maxLen; omega, h3, fun h => absurd h (Nat.lt_irrefl _), fun _ => rfl⟩
  · have e2 := e
    simp only [Value.slice.injEq] at e2
    obtain ⟨rfl, _, rfl⟩ := e2
    refine bytes_of_owns h1 hl (fun j hj => ?_) h3
    simp [u8s, List.getD, List.getElem?_eq_getElem (show j < bs.length by omega)]
theorem markByteS_z (a : Option Addr) (n c k lo hi : Nat) (bs : List Int) (w : World) (h : RowZ w lo hi a n c bs) (hk : k + n ≤ 1099511627776) :
    Calls Try.prog 93 #[.slice a n c, .int .i64 k] w fun e w' => e = .returned (.int .i64 ((k + n : Nat) : Int)) ∧ RowZ w' lo hi a n c (marks k n) ∧ Fr (fun g => lo ≤ g ∧ g < hi) w w' := by
  obtain ⟨⟨ty, h1⟩, h2, h3⟩ := h
  refine (markByteT_any ty a n c k lo _ w h1 hk).mono ?_
  rintro e w' ⟨rfl, hO, hg⟩
  refine ⟨rfl, ⟨⟨ty, hO⟩, h2, marks_byte k n⟩, hg.os, hg.tape, hg.output, hg.size, fun g hl hS => hg.block g hl (fun e => ?_)⟩
  have h4 := h1.lt g e.symm
  cases a with
  | none => cases e
  | some x =>
    have h5 : g = x.block := by simpa [Value.ownBlock] using e
    have h6 := h2 x rfl
    exact hS ⟨h4.1, by omega⟩
theorem eqByteS_z (a : Option Addr) (n c : Nat) (a2 : Option Addr) (c2 : Nat) (bs : List Int) (w : World) (lo hi lo2 hi2 : Nat) (h : RowZ w lo hi a n c bs) (k : RowZ w lo2 hi2 a2 n c2 bs) :
    Calls Try.prog 106 #[.slice a n c, .slice a2 n c2] w fun e w' => e = .returned (.bool true) ∧ Below w.heap.size w w' := by
  refine (eqByteS_same a n c a2 c2 bs w _ _ _ _ h.bytes k.bytes).mono ?_
  rintro e w' ⟨rfl, m, rfl⟩
  exact ⟨rfl, rfl, rfl, rfl, Nat.le_refl _, fun _ _ => rfl⟩
end Go.Proofs.Ytakdaandbdbdnaa
namespace Go.Proofs.Ytakdaandbdbdnaa
open Go.RowKit
set_option linter.unusedVariables false
set_option maxRecDepth 100000

def bls (ks : List Bool) : List Value := ks.map Value.bool
theorem info_bool : (Try.prog.info? 4).map (fun i => (i.zero, i.size, i.bytes)) = some (some (.bool false), 1, 1) := by kernel_rfl
/-- The choices behind a slice. -/
def BoolsAt (w : World) (A B : Nat) (a : Option Addr) (n c : Nat) (ks : List Bool) : Prop :=
  ks.length = n ∧ n ≤ c ∧ c ≤ maxLen ∧ (0 < n → ∃ b off, a = some ⟨b, off, none⟩ ∧ (A ≤ b ∧ b < B) ∧ ∀ i, i < n → w.cell? ⟨b, off + i, none⟩ = some (.bool (ks.getD i false)))
theorem BoolsAt.keep {w w' : World} {A B : Nat} {a : Option Addr} {n c : Nat} {ks : List Bool} (h : BoolsAt w A B a n c ks) (hk : Keeps A B w w') : BoolsAt w' A B a n c ks := by
  obtain ⟨h1, h2, h3, h5⟩ := h
  refine ⟨h1, h2, h3, fun hn => ?_⟩
  obtain ⟨b, off, rfl, hlt, hc⟩ := h5 hn
  exact ⟨b, off, rfl, hlt, fun i hi => (hk.cell hlt.1 hlt.2).trans (hc i hi)⟩
theorem BoolsAt.below {w w' : World} {A B : Nat} {a : Option Addr} {n c : Nat} {ks : List Bool} (h : BoolsAt w A B a n c ks) (hb : Below B w w') : BoolsAt w' A B a n c ks := h.keep (.of_below hb)
/-- Choices of one's own, in the blocks from lo to hi. -/
structure RowB (w : World) (lo hi : Nat) (a : Option Addr) (n c : Nat) (ks : List Bool) : Prop where
  row : w.ownsRow lo 4 1 (.slice a n c) n (bls ks)
  top : ∀ x, a = some x → x.block < hi
theorem RowB.mk' {w : World} {lo n c : Nat} {a : Option Addr} {ks : List Bool} (h : w.ownsRow lo 4 1 (.slice a n c) n (bls ks)) : RowB w lo w.heap.size a n c ks :=
  ⟨h, fun x e => by subst e; exact (h.lt _ rfl).2⟩
theorem RowB.fr {S : Nat → Prop} {w w' : World} {lo hi n c : Nat} {a : Option Addr} {ks : List Bool} (h : RowB w lo hi a n c ks) (hf : Fr S w w') (hS : ∀ g, S g → g < lo ∨ hi ≤ g) : RowB w' lo hi a n c ks := by
  obtain ⟨h1, h2⟩ := h
  refine ⟨own_to h1 (fun g hg => ?_), h2⟩
  have h4 := h1.lt g hg
  cases a with
  | none => cases hg
  | some x =>
    have h5 : x.block = g := by simpa [Value.ownBlock] using hg
    have h6 := h2 x rfl
    exact hf.block g h4.2 (fun e => by have := hS g e; omega)
theorem RowB.below {w w' : World} {lo hi n c : Nat} {a : Option Addr} {ks : List Bool} (h : RowB w lo hi a n c ks) (hb : Below w.heap.size w w') : RowB w' lo hi a n c ks := h.fr (Fr.of_below (S := fun _ => False) hb) (fun g e => e.elim)
theorem RowB.bools {w : World} {lo hi n c : Nat} {a : Option Addr} {ks : List Bool} (h : RowB w lo hi a n c ks) : BoolsAt w lo w.heap.size a n c ks := by
  obtain ⟨h1, h2⟩ := h
  have hl : ks.length = n := by have := h1.1; simpa [bls] using this
  rcases h1.2 with ⟨e, rfl⟩ | ⟨g, cap, cur, e, hb, hg, k1, k2, _⟩
  · simp only [Value.slice.injEq] at e
    obtain ⟨rfl, _, rfl⟩ := e
    exact ⟨hl, Nat.le_refl _, by unfold maxLen; omega, fun h => absurd h (Nat.lt_irrefl _)⟩
  · simp only [Value.slice.injEq] at e
    obtain ⟨rfl, _, rfl⟩ := e
    refine ⟨hl, k1, k2, fun hn => ⟨g, 0, rfl, h1.lt g rfl, fun i hi => ?_⟩⟩
    rw [Nat.zero_add, h1.cellAt i (by omega)]
    simp [bls, List.getD, List.getElem?_eq_getElem (show i < ks.length by omega)]
set_option maxHeartbeats 400000 in
theorem szBoolS_any (a : Option Addr) (n c : Nat) (left : Int) (w : World) (h0 : 0 ≤ left) (h1 : left ≤ 1048576) (hn : n ≤ maxLen) :
    Calls Try.prog 66 #[.slice a n c, .int .i64 left] w fun e w' => ∃ r : Int, e = .returned (.int .i64 r) ∧ (-1 ≤ r ∧ r ≤ left ∧ (0 ≤ r → r = left - n)) ∧ w' = w := by
  unfold maxLen at hn
  by_cases h : left - n < 0
  · go_enter Try.func66, Try.ntmps66
    go_wp2
    go_ret
    exact ⟨-1, rfl, ⟨by omega, by omega, by omega⟩, rfl⟩
  · go_enter Try.func66, Try.ntmps66
    go_wp2
    go_ret
    exact ⟨left - n, rfl, ⟨by omega, by omega, by omega⟩, rfl⟩
set_option maxHeartbeats 400000 in
theorem szCrash_any (a : Option Addr) (n c : Nat) (tr ta left : Int) (w : World) (h0 : 0 ≤ left) (h1 : left ≤ 1048576) (hn : n ≤ maxLen) :
    Calls Try.prog 23 #[.agg #[.slice a n c, .int .i64 tr, .int .i64 ta], .int .i64 left] w fun e w' => ∃ r : Int, e = .returned (.int .i64 r) ∧ (-1 ≤ r ∧ r ≤ left ∧ (0 ≤ r → r = left - n)) ∧ Below w.heap.size w w' := by
  go_enter Try.func23, Try.ntmps23
  go_wp2_with fail
  refine (szBoolS_any _ _ _ _ _ (by omega) (by omega) hn).mono ?_
  rintro e w1 ⟨r, rfl, hr, rfl⟩
  by_cases h2 : r < 0
  all_goals
    go_wp2
    go_ret
  · exact ⟨-1, rfl, ⟨by omega, by omega, by omega⟩, (Below.refl _ _).alloc (Nat.le_refl _) _⟩
  · exact ⟨r, rfl, ⟨by omega, by omega, by omega⟩, (Below.refl _ _).alloc (Nat.le_refl _) _⟩
set_option maxHeartbeats 400000 in
theorem toBoolS_own (a : Option Addr) (n c : Nat) (ks : List Bool) (w : World) (A B : Nat) (hB : B ≤ w.heap.size) (h : BoolsAt w A B a n c ks) (hn : n ≤ 1048576) :
    Calls Try.prog 69 #[.slice a n c] w fun e w' => ∃ g, e = .returned (.slice (some ⟨g, 0, none⟩) n n) ∧ w'.ownsRow w.heap.size 4 1 (.slice (some ⟨g, 0, none⟩) n n) n (bls ks) ∧ Below w.heap.size w w' := by
  obtain ⟨hl, hnc, hc, hcell⟩ := h
  obtain ⟨i0, hi, hz0, hz1, hz2⟩ := info_parts info_bool
  go_enter Try.func69, Try.ntmps69
  go_wp2_with (at_make; refine wpList_make_full _ rfl _ _ 32 rfl w.heap.size 4 i0 (.bool false) 1 Try.underlying32 hi hz0 hz1 .i64 .i64 n n n rfl rfl rfl rfl (by rw [hz2]; omega) (by unfold maxLen; omega) (Nat.le_refl _) ?_; intro w1 hown hgr)
  have hb1 : Below w.heap.size w w1 := (Below.refl _ _).grown hgr (Nat.le_refl _) (by simp)
  go_loopw [4] (fun i wr => ∃ k : Nat, k ≤ n ∧ i = .int .i64 k ∧ Below w.heap.size w wr ∧ ∃ xs, wr.ownsRow w.heap.size 4 1 (.slice (some ⟨w.heap.size, 0, none⟩) n n) n xs ∧ ∀ j, j < k → xs[j]? = some (.bool (ks.getD j false))) (fun i _ => n - (intOf i).toNat)
  case atStart => exact ⟨0, Nat.zero_le _, rfl, hb1, _, hown, fun j hj => absurd hj (Nat.not_lt_zero _)⟩
  case round =>
    clear hown hgr hb1
    obtain ⟨k, hk, rfl, hbel, xs, hown, hxs⟩ := hrel
    have HX : Hid (∀ j, j < k → xs[j]? = some (.bool (ks.getD j false))) := hxs
    clear hxs
    by_cases hlt : k < n
    · obtain ⟨b, off, rfl, hb, hcb⟩ := hcell (by omega)
      have e1 := (hbel.cell (p := ⟨b, off + k, none⟩) (by show b < _; omega)).trans (hcb k hlt)
      clear hcell hcb
      have hf := hown.frozenAt k
      have hxl := hown.1
      obtain ⟨u, hu⟩ : ∃ u, wr.cell? ⟨w.heap.size, k, none⟩ = some u := ⟨xs[k]'(by omega), by rw [hown.cellAt k (by omega)]; exact List.getElem?_eq_getElem _⟩
      have R := hown.stored k (.bool (ks.getD k false))
      have HR : Hid (∀ j, j < k + 1 → (xs.set k (.bool (ks.getD k false)))[j]? = some (.bool (ks.getD j false))) := by
        intro j hj
        by_cases hjk : j = k
        · subst hjk; rw [List.getElem?_set_self (by omega)]
        · rw [List.getElem?_set_ne (by omega)]; exact HX.out j (by omega)
      have hb2 := hbel.setCell (p := ⟨w.heap.size, k, none⟩) (Nat.le_refl _) (.bool (ks.getD k false))
      generalize ks.getD k false = x at e1 R HR hb2
      clear hown
      obtain ⟨R1, R2⟩ := R
      go_wp2
      go_roundw
      case rel => exact ⟨k + 1, by omega, by go_num, hb2, _, R1, HR.out⟩
      case measure => simp [intOf]; omega
    · have HO : Hid (wr.ownsRow w.heap.size 4 1 (.slice (some ⟨w.heap.size, 0, none⟩) n n) n (bls ks)) := by
        have hxl := hown.1
        have e : xs = bls ks := by
          apply List.ext_getElem?
          intro i
          by_cases hi : i < n
          · rw [HX.out i (by omega)]; simp [bls, List.getD, List.getElem?_eq_getElem (show i < ks.length by omega)]
          · rw [List.getElem?_eq_none (by omega), List.getElem?_eq_none (by simp [bls]; omega)]
        rw [← e]; exact hown
      go_wp2
      go_ret
      exact ⟨w.heap.size, rfl, HO.out, hbel⟩
set_option maxHeartbeats 400000 in
theorem eqBoolS_same (a : Option Addr) (n c : Nat) (a2 : Option Addr) (c2 : Nat) (ks : List Bool) (w : World) (A B A2 B2 : Nat) (h : BoolsAt w A B a n c ks) (k : BoolsAt w A2 B2 a2 n c2 ks) :
    Calls Try.prog 70 #[.slice a n c, .slice a2 n c2] w fun e w' => e = .returned (.bool true) ∧ ∃ m, w' = w.drewN m := by
  obtain ⟨hl, hnc, hc, hcell⟩ := h
  obtain ⟨_, _, _, kcell⟩ := k
  unfold maxLen at hc
  have hne : ((n : Int) != (n : Int)) = false := by simp
  go_enter Try.func70, Try.ntmps70
  go_wp2
  go_loopw [5] (fun i wr => ∃ k : Nat, k ≤ n ∧ i = .int .i64 k ∧ ∃ m, wr = w.drewN m) (fun i _ => n - (intOf i).toNat)
  case atStart => exact ⟨0, Nat.zero_le _, rfl, 0, rfl⟩
  case round =>
    obtain ⟨k, hk, rfl, m, rfl⟩ := hrel
    by_cases hlt : k < n
    · obtain ⟨b, off, rfl, hb, hcb⟩ := hcell (by omega)
      obtain ⟨b2, off2, rfl, hb2, hcb2⟩ := kcell (by omega)
      have e1 := hcb k hlt
      have e2 := hcb2 k hlt
      clear hcell kcell hcb hcb2
      generalize ks.getD k false = x at e1 e2
      have hx : (x != x) = false := by simp
      go_wp2
      go_quiet (fail)
      go_wp2
      go_roundw
      case rel => exact ⟨k + 1, by omega, by go_num, _, rfl⟩
      case measure => simp [intOf]; omega
    · go_wp2
      go_ret
      exact ⟨rfl, m, rfl⟩
set_option maxHeartbeats 400000 in
theorem eqCrash_same (tr ta : Int) (a : Option Addr) (n c : Nat) (a2 : Option Addr) (c2 : Nat) (ks : List Bool) (w : World) (A B A2 B2 : Nat) (hB : B ≤ w.heap.size) (hB2 : B2 ≤ w.heap.size) (h : BoolsAt w A B a n c ks) (k : BoolsAt w A2 B2 a2 n c2 ks) :
    Calls Try.prog 26 #[.agg #[.slice a n c, .int .i64 tr, .int .i64 ta], .agg #[.slice a2 n c2, .int .i64 tr, .int .i64 ta]] w fun e w' => e = .returned (.bool true) ∧ Below w.heap.size w w' := by
  have hb : ∀ m, Below w.heap.size w (((w.alloc (.cells #[.slice a n c, .int .i64 tr, .int .i64 ta] 34)).alloc (.cells #[.slice a2 n c2, .int .i64 tr, .int .i64 ta] 34)).drewN m) := fun m => (((Below.refl _ _).alloc (Nat.le_refl _) _).alloc (by simp) _).trans ⟨rfl, rfl, rfl, Nat.le_refl _, fun _ _ => rfl⟩
  have h1 : (tr != tr) = false := by simp
  have h2 : (ta != ta) = false := by simp
  go_enter Try.func26, Try.ntmps26
  go_wp2_with fail
  refine (eqBoolS_same _ _ _ _ _ ks _ A B A2 B2 (h.below ((hb 0).mono hB)) (k.below ((hb 0).mono hB2))).mono ?_
  rintro e w1 ⟨rfl, m, rfl⟩
  go_wp2_with fail
  go_ret
  exact ⟨rfl, hb _⟩
def markB (k n : Nat) : List Bool := (List.range n).map fun i => decide ((k + i) % 3 = 0)
set_option maxHeartbeats 400000 in
theorem markBoolS_any (a : Option Addr) (n c k base : Nat) (xs : List Value) (w : World) (h : w.ownsRow base 4 1 (.slice a n c) n xs) (hk : k + n ≤ 1099511627776) :
    Calls Try.prog 71 #[.slice a n c, .int .i64 k] w fun e w' => e = .returned (.int .i64 ((k + n : Nat) : Int)) ∧ w.grownBy w' (Value.slice a n c).ownBlock := by
  go_enter Try.func71, Try.ntmps71
  go_wp2
  go_loopw [1, 5] (fun kv i wr => ∃ (j : Nat) (ys : List Value), j ≤ n ∧ i = .int .i64 j ∧ kv = .int .i64 ((k + j : Nat) : Int) ∧ wr.ownsRow base 4 1 (.slice a n c) n ys ∧ w.grownBy wr (Value.slice a n c).ownBlock) (fun _ i _ => n - (intOf i).toNat)
  case atStart => exact ⟨0, xs, Nat.zero_le _, rfl, rfl, h, grown_refl _ _⟩
  case round =>
    clear h
    obtain ⟨j, ys, hj, rfl, rfl, hown, hgr⟩ := hrel
    by_cases hlt : j < n
    · obtain ⟨g, rfl⟩ : ∃ g, a = some ⟨g, 0, none⟩ := by
        rcases hown.2 with ⟨_, h0⟩ | ⟨g, cap, cur, h0, _⟩
        · omega
        · injection h0 with h1; exact ⟨g, h1⟩
      have hf := hown.frozenAt j
      have hxl := hown.1
      obtain ⟨u, hu⟩ : ∃ u, wr.cell? ⟨g, j, none⟩ = some u := ⟨ys[j]'(by omega), by rw [hown.cellAt j (by omega)]; exact List.getElem?_eq_getElem _⟩
      have HS : Hid (∀ v, (wr.setCell ⟨g, j, none⟩ (.bool v)).ownsRow base 4 1 (.slice (some ⟨g, 0, none⟩) n c) n (ys.set j (.bool v)) ∧ w.grownBy (wr.setCell ⟨g, j, none⟩ (.bool v)) (Value.slice (some ⟨g, 0, none⟩) n c).ownBlock) := fun v => by
        obtain ⟨R1, R2⟩ := hown.stored j (.bool v)
        exact ⟨R1, grown_trans hgr R2⟩
      clear hown hgr
      go_wp2
      go_roundw
      case rel => exact ⟨j + 1, _, by omega, by go_num, by go_num, (HS.out _).1, (HS.out _).2⟩
      case measure => simp [intOf]; omega
    · obtain rfl : j = n := by omega
      go_wp2
      go_ret
      exact ⟨rfl, hgr⟩
set_option maxHeartbeats 400000 in
theorem markCrash_z (tr ta : Int) (a : Option Addr) (n c k lo hi : Nat) (ks : List Bool) (w : World) (h : RowB w lo hi a n c ks) (hk : k + n ≤ 1099511627776) :
    Calls Try.prog 27 #[.agg #[.slice a n c, .int .i64 tr, .int .i64 ta], .int .i64 k] w fun e w' => e = .returned (.int .i64 ((k + n : Nat) : Int)) ∧ Fr (fun g => lo ≤ g ∧ g < hi) w w' := by
  have hal : Below w.heap.size w (w.alloc (.cells #[.slice a n c, .int .i64 tr, .int .i64 ta] 34)) := (Below.refl _ _).alloc (Nat.le_refl _) _
  have h1 := (h.below hal).row
  have h2 := h.top
  clear h
  go_enter Try.func27, Try.ntmps27
  go_wp2_with fail
  refine (markBoolS_any a n c k lo _ _ h1 hk).mono ?_
  rintro e w1 ⟨rfl, hg⟩
  have HF : Hid (Fr (fun g => lo ≤ g ∧ g < hi) w w1) := by
    refine (Fr.of_below hal).trans ⟨hg.os, hg.tape, hg.output, hg.size, fun g hl hS => hg.block g hl (fun e => ?_)⟩
    have h4 := h1.lt g e.symm
    cases a with
    | none => cases e
    | some x =>
      have h5 : g = x.block := by simpa [Value.ownBlock] using e
      have h6 := h2 x rfl
      exact hS ⟨h4.1, by omega⟩
  clear hg h1 h2 hal
  go_wp2
  go_ret
  exact ⟨rfl, HF.out⟩
set_option maxHeartbeats 400000 in
theorem toCrash_own (tr ta : Int) (a : Option Addr) (n c : Nat) (ks : List Bool) (w : World) (A B : Nat) (hB : B ≤ w.heap.size) (h : BoolsAt w A B a n c ks) (hn : n ≤ 1048576) :
    Calls Try.prog 25 #[.agg #[.slice a n c, .int .i64 tr, .int .i64 ta]] w fun e w' => ∃ g, e = .returned (.agg #[.slice (some ⟨g, 0, none⟩) n n, .int .i64 tr, .int .i64 ta]) ∧ RowB w' w.heap.size w'.heap.size (some ⟨g, 0, none⟩) n n ks ∧ Below w.heap.size w w' := by
  go_enter Try.func25, Try.ntmps25
  go_wp2_with fail
  have hb0 : Below w.heap.size w (((w.alloc (.cells #[.slice a n c, .int .i64 tr, .int .i64 ta] 52)).alloc (.cells #[.slice none 0 0, .int .i64 0, .int .i64 0] 34)).alloc (.cells #[.slice none 0 0, .int .i64 0, .int .i64 0] 34)) := (((Below.refl _ _).alloc (Nat.le_refl _) _).alloc (by simp) _).alloc (by simp; omega) _
  refine (toBoolS_own _ _ _ ks _ A B (by simp; omega) (h.below (hb0.mono hB)) hn).mono ?_
  rintro e w1 ⟨g, rfl, hO1, hb1⟩
  have hz := hb1.size
  simp at hz
  have hg := (hO1.lt g rfl).1
  simp at hg
  have hz1 : w.heap.size < w1.heap.size := by omega
  have hz2 : w.heap.size + 1 < w1.heap.size := by omega
  have hz3 : w.heap.size + 1 + 1 < w1.heap.size := by omega
  obtain ⟨hc1, hf1⟩ := bcell hb1
  have hb2 := hb0.trans (hb1.mono (by simp; omega))
  have hO2 := own_lowerD (b' := w.heap.size) hO1 (by simp; omega)
  have HO : Hid (w1.ownsRow w.heap.size 4 1 (.slice (some ⟨g, 0, none⟩) n n) n (bls ks)) := hO2
  clear hb1 hb0 hO1 hO2
  go_wp2
  exact bodyPost_ret (v := .agg #[.slice (some ⟨g, 0, none⟩) n n, .int .i64 tr, .int .i64 ta]) (by simp [results, Try.results25, go_sem, hc1]) rfl ⟨g, rfl, RowB.mk' (by
    refine owns_setD (owns_setD (owns_setD (owns_setD (owns_setD (owns_setD HO.out (p := ⟨w.heap.size + 1 + 1, 0, none⟩) (fun k e => ?_) _) (p := ⟨w.heap.size + 1 + 1, 1, none⟩) (fun k e => ?_) _) (p := ⟨w.heap.size + 1 + 1, 2, none⟩) (fun k e => ?_) _) (p := ⟨w.heap.size + 1, 0, none⟩) (fun k e => ?_) _) (p := ⟨w.heap.size + 1, 1, none⟩) (fun k e => ?_) _) (p := ⟨w.heap.size + 1, 2, none⟩) (fun k e => ?_) _ <;> (simp [Value.ownBlock] at e; simp; omega)),
    (((((hb2.setCell (by simp; omega) _).setCell (by simp; omega) _).setCell (by simp; omega) _).setCell (by simp) _).setCell (by simp) _).setCell (by simp) _⟩
end Go.Proofs.Ytakdaandbdbdnaa
namespace Go.Proofs.Ytakdaandbdbdnaa
open Go.RowKit
set_option linter.unusedVariables false
set_option maxRecDepth 100000

theorem last_fits {cp : Int} : ∀ (ps : List PP) (fs : List PF), fs.length ≤ 12 → totalI fs ≤ cp → cacheS cp ps fs = true → (lastF ps fs).length ≤ 12 ∧ totalI (lastF ps fs) ≤ cp
  | [], _, h1, h2, _ => ⟨h1, h2⟩
  | p :: r, fs, h1, h2, hc => by
    simp only [cacheS, fitsB, Bool.and_eq_true, decide_eq_true_eq] at hc
    exact last_fits r _ hc.2.1.1 hc.2.1.2 hc.2.2
theorem name_size {nm : ByteArray} (h : nameB nm = true) : nm.size ≤ maxLen := by
  simp only [nameB, Bool.and_eq_true, decide_eq_true_eq] at h
  unfold maxLen
  omega
theorem doP_names {fs : List PF} {nm : ByteArray} {pg : Nat} {bs : List Int} (h : ∀ f ∈ fs, f.1.size ≤ maxLen) (hn : nm.size ≤ maxLen) : ∀ f ∈ doP fs nm pg bs, f.1.size ≤ maxLen := by
  intro f hf
  unfold doP at hf
  rcases List.mem_or_eq_of_mem_set hf with h1 | h1
  · unfold withName at h1
    split at h1
    · exact h f h1
    · rcases List.mem_append.1 h1 with h2 | h2
      · exact h f (List.mem_of_mem_take h2)
      · rcases List.mem_cons.1 h2 with h3 | h3
        · rw [h3]; exact hn
        · exact h f (List.mem_of_mem_drop h3)
  · rw [h1]; exact hn
theorem last_names {cp : Int} : ∀ (ps : List PP) (fs : List PF), (∀ f ∈ fs, f.1.size ≤ maxLen) → cacheS cp ps fs = true → ∀ f ∈ lastF ps fs, f.1.size ≤ maxLen
  | [], _, h, _ => h
  | p :: r, fs, h, hc => by
    simp only [cacheS, pendOk, Bool.and_eq_true] at hc
    exact last_names r _ (doP_names h (name_size hc.1.1.1)) hc.2.2
end Go.Proofs.Ytakdaandbdbdnaa
namespace Go.Proofs.Ytakdaandbdbdnaa
open Go.RowKit Go.Maps
set_option linter.unusedVariables false
set_option maxRecDepth 100000

theorem take_findIdx {α : Type} (p : α → Bool) : ∀ l : List α, l.take (l.findIdx p) = l.takeWhile (fun x => !p x) ∧ l.drop (l.findIdx p) = l.dropWhile (fun x => !p x)
  | [] => ⟨rfl, rfl⟩
  | x :: r => by
    rw [List.findIdx_cons]
    cases hp : p x with
    | true => simp [hp]
    | false =>
      obtain ⟨h1, h2⟩ := take_findIdx p r
      simp [hp, h1, h2]
theorem withName_ins {fs : List PF} {nm : ByteArray} (h : ¬ findN fs nm < fs.length) : withName fs nm = insF fs (nm, []) := by
  unfold withName insF insN
  rw [if_neg h]
  obtain ⟨h1, h2⟩ := take_findIdx (fun f : PF => gtB f.1 nm) fs
  rw [h1, h2]
theorem withName_sorted {fs : List PF} {nm : ByteArray} (hs : SortedN fs) : SortedN (withName fs nm) := by
  by_cases h : findN fs nm < fs.length
  · unfold withName; rw [if_pos h]; exact hs
  · rw [withName_ins h]
    refine insF_sorted hs (fun g hg e => h (findN_iff.2 ?_))
    obtain ⟨i, hi, rfl⟩ := List.getElem_of_mem hg
    exact ⟨i, hi, by simp only [List.getD, List.getElem?_eq_getElem hi, Option.getD_some]; exact e⟩
theorem doP_sorted {fs : List PF} {nm : ByteArray} {pg : Nat} {bs : List Int} (hs : SortedN fs) : SortedN (doP fs nm pg bs) := by
  have h1 := withName_sorted (nm := nm) hs
  have hw := findN_with fs nm
  unfold SortedN at h1 ⊢
  rw [List.pairwise_iff_getElem] at h1 ⊢
  have hlen := doP_len2 fs nm pg bs
  have hn : ∀ i (hi : i < (doP fs nm pg bs).length), ((doP fs nm pg bs)[i]).1 = ((withName fs nm)[i]'(by omega)).1 := fun i hi => by
    have := doP_name (fs := fs) (nm := nm) (pg := pg) (bs := bs) i (by omega)
    simpa [List.getD, List.getElem?_eq_getElem hi, List.getElem?_eq_getElem (show i < (withName fs nm).length by omega)] using this
  intro i j hi hj hij
  rw [hn i hi, hn j hj]
  exact h1 i j (by omega) (by omega) hij
theorem last_sorted : ∀ (ps : List PP) (fs : List PF), SortedN fs → SortedN (lastF ps fs)
  | [], _, h => h
  | p :: r, fs, h => last_sorted r _ (doP_sorted h)
end Go.Proofs.Ytakdaandbdbdnaa
