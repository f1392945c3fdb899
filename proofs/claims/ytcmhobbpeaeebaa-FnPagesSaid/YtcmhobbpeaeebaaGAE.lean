import Derived.Test.YtcmhobbpeaeebaaGAA
import Derived.Test.YtcmhobbpeaeebaaGAB
import Derived.Test.YtcmhobbpeaeebaaGAD
namespace Go.Proofs.Ytcmhobbpeaeebaa
open Go.RowKit
set_option linter.unusedVariables false
set_option maxRecDepth 100000

theorem info_Str : (Try.prog.info? 9).map (fun i => (i.zero, i.size, i.bytes)) = some (some (.string ⟨#[]⟩), 1, 16) := by kernel_rfl
/-- append(v, s), s one string. -/
theorem wpList_str {w : World} {ops : Array Oper} {rest : List Oper} {o : Oper} {a : Act} {Q : Exit → Act → World → Prop} (hgd : o.guard = none) (s x : Operand)
    (ho : o.op = .call { callee := .builtin .append, args := #[s, x], argTypes := #[110, 110] })
    (base : Nat) (v : Value) (n : Nat) (xs : List Value) (hs : a.eval s = v) (hown : w.ownsRow base 9 1 v n xs)
    (g : Nat) (u1 : ByteArray) (hx : a.eval x = .slice (some ⟨g, 0, none⟩) 1 1) (hg : w.heap[g]? = some (.cells #[.string u1] 9)) (hn : n ≤ 1000000) (hbase : base ≤ w.heap.size)
    (h : ∀ v' w', w'.ownsRow base 9 1 v' (n + 1) (xs ++ [.string u1]) → w.grownBy w' v.ownBlock → (v'.ownBlock = v.ownBlock ∨ ∀ g, v'.ownBlock = some g → w.heap.size ≤ g) → wpList Try.prog ops Q rest (a.put o.dst v') w') : wpList Try.prog ops Q (o :: rest) a w := by
  obtain ⟨i0, hi, hz0, hz1, hz2⟩ := info_parts info_Str
  refine wpList_append_ownD w hgd s x 110 ho base 9 i0 _ 1 16 Try.underlying110 hi hz0 hz1 hz2 rfl (by decide) v n xs hs hown ⟨g, 0, none⟩ 1 1 [.string u1] hx rfl ?_ ?_ (by unfold maxLen; omega) (by omega) hbase h
  · intro j u hj
    have e : (⟨g, 0, none⟩ : Addr).add j = ⟨g, j, none⟩ := by simp [Addr.add]; omega
    rw [e]
    rcases j with _ | j
    all_goals first
      | (simp at hj; done)
      | (simp at hj; subst hj; simp [World.cell?, hg])
  · intro u hu; simp at hu; rcases hu with rfl; rfl
/-- The keys that are drawn from, ascending. -/
def allK : Nat → ByteArray
  | 0 => ⟨#[97]⟩
  | 1 => ⟨#[97, 97]⟩
  | 2 => ⟨#[97, 98]⟩
  | 3 => ⟨#[98]⟩
  | 4 => ⟨#[98, 0]⟩
  | 5 => ⟨#[99]⟩
  | 6 => ⟨#[100]⟩
  | 7 => ⟨#[101, 101, 101, 101, 101, 101, 101, 101]⟩
  | 8 => ⟨#[107, 49]⟩
  | 9 => ⟨#[107, 49, 48]⟩
  | 10 => ⟨#[107, 50]⟩
  | _ => ⟨#[122]⟩
theorem allK_key (k : Nat) (hk : k < 12) : keyB (allK k) = true := by
  have h12 : k = 0 ∨ k = 1 ∨ k = 2 ∨ k = 3 ∨ k = 4 ∨ k = 5 ∨ k = 6 ∨ k = 7 ∨ k = 8 ∨ k = 9 ∨ k = 10 ∨ k = 11 := by omega
  rcases h12 with rfl | rfl | rfl | rfl | rfl | rfl | rfl | rfl | rfl | rfl | rfl | rfl <;> decide
theorem allK_lt (j k : Nat) (hj : j < k) (hk : k < 12) : geB (allK j) (allK k) = false := by
  have h12 : k = 0 ∨ k = 1 ∨ k = 2 ∨ k = 3 ∨ k = 4 ∨ k = 5 ∨ k = 6 ∨ k = 7 ∨ k = 8 ∨ k = 9 ∨ k = 10 ∨ k = 11 := by omega
  have j12 : j = 0 ∨ j = 1 ∨ j = 2 ∨ j = 3 ∨ j = 4 ∨ j = 5 ∨ j = 6 ∨ j = 7 ∨ j = 8 ∨ j = 9 ∨ j = 10 ∨ j = 11 := by omega
  rcases h12 with rfl | rfl | rfl | rfl | rfl | rfl | rfl | rfl | rfl | rfl | rfl | rfl <;> rcases j12 with rfl | rfl | rfl | rfl | rfl | rfl | rfl | rfl | rfl | rfl | rfl | rfl <;> first | (exfalso; omega) | (simp only [geB, ByteArray.toList_eq, allK]; decide)
theorem allK_nil (k : Nat) (hk : k < 12) : geB ⟨#[]⟩ (allK k) = false := by
  have h12 : k = 0 ∨ k = 1 ∨ k = 2 ∨ k = 3 ∨ k = 4 ∨ k = 5 ∨ k = 6 ∨ k = 7 ∨ k = 8 ∨ k = 9 ∨ k = 10 ∨ k = 11 := by omega
  rcases h12 with rfl | rfl | rfl | rfl | rfl | rfl | rfl | rfl | rfl | rfl | rfl | rfl <;> simp only [geB, ByteArray.toList_eq, allK] <;> decide
/-- Keys drawn: ascending numbers' ones. -/
def Asc (k : Nat) (ss : List ByteArray) : Prop := ∃ js : List Nat, ss = js.map allK ∧ (∀ i, i < js.length → js.getD i 0 < k) ∧ (∀ i, i + 1 < js.length → js.getD i 0 < js.getD (i + 1) 0)
theorem Asc.nil (k : Nat) : Asc k [] := ⟨[], rfl, (by intro i hi; cases hi), (by intro i hi; cases hi)⟩
theorem Asc.mono {k k' : Nat} {ss : List ByteArray} (h : Asc k ss) (hk : k ≤ k') : Asc k' ss := by
  obtain ⟨js, e, h1, h2⟩ := h
  exact ⟨js, e, fun i hi => Nat.lt_of_lt_of_le (h1 i hi) hk, h2⟩
theorem Asc.up {k : Nat} {ss : List ByteArray} (h : Asc k ss) : Asc (k + 1) ss := by
  obtain ⟨js, e, h1, h2⟩ := h
  exact ⟨js, e, fun i hi => Nat.lt_succ_of_lt (h1 i hi), h2⟩
theorem getD_snocD {α : Type} (l : List α) (x d : α) (i : Nat) : (l ++ [x]).getD i d = if i < l.length then l.getD i d else if i = l.length then x else d := by
  by_cases h : i < l.length
  · rw [if_pos h]; simp [List.getD, List.getElem?_append_left h]
  · rw [if_neg h]
    by_cases h2 : i = l.length
    · rw [if_pos h2]; subst h2; simp [List.getD]
    · rw [if_neg h2]; simp [List.getD, List.getElem?_append_right (Nat.le_of_not_lt h)]; rw [List.getElem?_eq_none (by simp; omega)]; rfl
theorem Asc.snoc {k : Nat} {ss : List ByteArray} (h : Asc k ss) : Asc (k + 1) (ss ++ [allK k]) := by
  obtain ⟨js, e, h1, h2⟩ := h
  refine ⟨js ++ [k], by rw [e, List.map_append]; rfl, fun i hi => ?_, fun i hi => ?_⟩
  · rw [getD_snocD]
    split
    · rename_i hl; exact Nat.lt_succ_of_lt (h1 i hl)
    · split <;> omega
  · rw [List.length_append, List.length_singleton] at hi
    rw [getD_snocD, getD_snocD, if_pos (by omega)]
    split
    · rename_i hl; exact h2 i hl
    · rw [if_pos (by omega)]; exact h1 i (by omega)
theorem Asc.key {k : Nat} {ss : List ByteArray} (h : Asc k ss) (hk : k ≤ 12) (d : ByteArray) (i : Nat) (hi : i < ss.length) : keyB (ss.getD i d) = true ∧ geB ⟨#[]⟩ (ss.getD i d) = false ∧ (i + 1 < ss.length → geB (ss.getD i d) (ss.getD (i + 1) d) = false) := by
  obtain ⟨js, rfl, h1, h2⟩ := h
  rw [List.length_map] at hi
  have e : ∀ j, j < js.length → (js.map allK).getD j d = allK (js.getD j 0) := fun j hj => by simp [List.getD, hj]
  have hj := h1 i hi
  rw [e i hi]
  refine ⟨allK_key _ (by omega), allK_nil _ (by omega), fun hi2 => ?_⟩
  rw [List.length_map] at hi2
  rw [e (i + 1) hi2]
  exact allK_lt _ _ (h2 i hi2) (by have := h1 (i + 1) hi2; omega)
theorem keys_cell {w : World} {N t : Nat} (h : w.heap[N]? = some (.cells #[.string ⟨#[97]⟩, .string ⟨#[97, 97]⟩, .string ⟨#[97, 98]⟩, .string ⟨#[98]⟩, .string ⟨#[98, 0]⟩, .string ⟨#[99]⟩, .string ⟨#[100]⟩, .string ⟨#[101, 101, 101, 101, 101, 101, 101, 101]⟩, .string ⟨#[107, 49]⟩, .string ⟨#[107, 49, 48]⟩, .string ⟨#[107, 50]⟩, .string ⟨#[122]⟩] t)) {k : Nat} (hk : k < 12) : w.cell? ⟨N, k, none⟩ = some (.string (allK k)) := by
  have h12 : k = 0 ∨ k = 1 ∨ k = 2 ∨ k = 3 ∨ k = 4 ∨ k = 5 ∨ k = 6 ∨ k = 7 ∨ k = 8 ∨ k = 9 ∨ k = 10 ∨ k = 11 := by omega
  rcases h12 with rfl | rfl | rfl | rfl | rfl | rfl | rfl | rfl | rfl | rfl | rfl | rfl <;> simp only [World.cell?, h] <;> rfl
set_option maxHeartbeats 1600000 in
theorem l2Keys_any (C A B : Nat) (w : World) (h : DCur w C A B) (n : Nat) (hn : n ≤ 12) :
    Calls Try.prog 75 #[.pointer (some ⟨C, 0, none⟩), .int .i64 n] w fun e w' => ∃ (a : Option Addr) (c : Nat) (ss : List ByteArray), e = .returned (.slice a ss.length c) ∧ ss.length = n ∧ Asc 12 ss ∧ w'.ownsRow w.heap.size 9 1 (.slice a ss.length c) ss.length (ss.map Value.string) ∧ DCur w' C A B ∧ Fr (fun g => g = C) w w' := by
  have hCw := h.lt
  go_enter Try.func75, Try.ntmps75
  go_wp2_with fail
  have hb0 : Below w.heap.size w ((w.alloc (.cells #[] 9)).alloc (.cells #[.string ⟨#[97]⟩, .string ⟨#[97, 97]⟩, .string ⟨#[97, 98]⟩, .string ⟨#[98]⟩, .string ⟨#[98, 0]⟩, .string ⟨#[99]⟩, .string ⟨#[100]⟩, .string ⟨#[101, 101, 101, 101, 101, 101, 101, 101]⟩, .string ⟨#[107, 49]⟩, .string ⟨#[107, 49, 48]⟩, .string ⟨#[107, 50]⟩, .string ⟨#[122]⟩] 9)) := ((Below.refl _ _).alloc (Nat.le_refl _) _).alloc (by simp) _
  have hw0 : ((w.alloc (.cells #[] 9)).alloc (.cells #[.string ⟨#[97]⟩, .string ⟨#[97, 97]⟩, .string ⟨#[97, 98]⟩, .string ⟨#[98]⟩, .string ⟨#[98, 0]⟩, .string ⟨#[99]⟩, .string ⟨#[100]⟩, .string ⟨#[101, 101, 101, 101, 101, 101, 101, 101]⟩, .string ⟨#[107, 49]⟩, .string ⟨#[107, 49, 48]⟩, .string ⟨#[107, 50]⟩, .string ⟨#[122]⟩] 9)).ownsRow w.heap.size 9 1 (.slice (some ⟨w.heap.size, 0, none⟩) 0 0) 0 [] := by
    have := (World.ownsRow_made w #[] (base := w.heap.size) (e := 9) (size := 1) 0 (by simp) (by unfold maxLen; omega) (by simp)).alloc (.cells #[.string ⟨#[97]⟩, .string ⟨#[97, 97]⟩, .string ⟨#[97, 98]⟩, .string ⟨#[98]⟩, .string ⟨#[98, 0]⟩, .string ⟨#[99]⟩, .string ⟨#[100]⟩, .string ⟨#[101, 101, 101, 101, 101, 101, 101, 101]⟩, .string ⟨#[107, 49]⟩, .string ⟨#[107, 49, 48]⟩, .string ⟨#[107, 50]⟩, .string ⟨#[122]⟩] 9)
    simpa using this
  have hK0 : ((w.alloc (.cells #[] 9)).alloc (.cells #[.string ⟨#[97]⟩, .string ⟨#[97, 97]⟩, .string ⟨#[97, 98]⟩, .string ⟨#[98]⟩, .string ⟨#[98, 0]⟩, .string ⟨#[99]⟩, .string ⟨#[100]⟩, .string ⟨#[101, 101, 101, 101, 101, 101, 101, 101]⟩, .string ⟨#[107, 49]⟩, .string ⟨#[107, 49, 48]⟩, .string ⟨#[107, 50]⟩, .string ⟨#[122]⟩] 9)).heap[w.heap.size + 1]? = some (.cells #[.string ⟨#[97]⟩, .string ⟨#[97, 97]⟩, .string ⟨#[97, 98]⟩, .string ⟨#[98]⟩, .string ⟨#[98, 0]⟩, .string ⟨#[99]⟩, .string ⟨#[100]⟩, .string ⟨#[101, 101, 101, 101, 101, 101, 101, 101]⟩, .string ⟨#[107, 49]⟩, .string ⟨#[107, 49, 48]⟩, .string ⟨#[107, 50]⟩, .string ⟨#[122]⟩] 9) := by
    show ((w.heap.push _).push _)[w.heap.size + 1]? = _
    rw [Array.getElem?_push, if_pos (by simp)]
  go_loopw [5, 7] (fun v i wr => ∃ (k : Nat) (a : Option Addr) (c : Nat) (ss : List ByteArray), k ≤ 12 ∧ i = .int .i64 k ∧ v = .slice a ss.length c ∧ (ss.length ≤ n ∧ n + k ≤ 12 + ss.length) ∧ Asc k ss ∧ wr.ownsRow w.heap.size 9 1 (.slice a ss.length c) ss.length (ss.map Value.string) ∧ (∀ g, (Value.slice a ss.length c).ownBlock = some g → g ≠ w.heap.size + 1) ∧ DCur wr C A B ∧ Fr (fun g => g = C) w wr ∧ wr.heap[w.heap.size + 1]? = some (.cells #[.string ⟨#[97]⟩, .string ⟨#[97, 97]⟩, .string ⟨#[97, 98]⟩, .string ⟨#[98]⟩, .string ⟨#[98, 0]⟩, .string ⟨#[99]⟩, .string ⟨#[100]⟩, .string ⟨#[101, 101, 101, 101, 101, 101, 101, 101]⟩, .string ⟨#[107, 49]⟩, .string ⟨#[107, 49, 48]⟩, .string ⟨#[107, 50]⟩, .string ⟨#[122]⟩] 9)) (fun _ i _ => 12 - (intOf i).toNat)
  case atStart => exact ⟨0, some ⟨w.heap.size, 0, none⟩, 0, [], by omega, rfl, rfl, ⟨Nat.zero_le _, by simp; omega⟩, Asc.nil 0, hw0, (by intro g e; simp [Value.ownBlock] at e; omega), h.below hb0, Fr.of_below hb0, hK0⟩
  case round =>
    clear hb0 hw0 hK0 h
    obtain ⟨k, a, c, ss, hk, rfl, rfl, hlen, hss, hown, hne, hD, hF, hK⟩ := hrel
    have HSS : Hid (Asc k ss) := hss
    have HK : Hid _ := hK
    clear hss
    obtain ⟨m, hm⟩ : ∃ m, ss.length = m := ⟨_, rfl⟩
    have HM : Hid (ss.length = m) := hm
    rw [hm] at hlen hown hne ⊢
    obtain ⟨hlen, hlen2⟩ := hlen
    clear hm
    by_cases hlt : k < 12
    · by_cases hlt2 : m < n
      · go_wp2_with fail
        refine (l1Below_any C A B wr hD (12 - (k : Int)) (by omega) (by omega)).mono ?_
        rintro e w1 ⟨x, rfl, hx, hD1, hF1⟩
        have hsz := hF.size
        have hF2 := hF.trans hF1
        have hown1 := owns_fr hown hF1 (fun g e e' => by have := (hown.lt g e).1; omega)
        have hK1 : w1.heap[w.heap.size + 1]? = some (.cells #[.string ⟨#[97]⟩, .string ⟨#[97, 97]⟩, .string ⟨#[97, 98]⟩, .string ⟨#[98]⟩, .string ⟨#[98, 0]⟩, .string ⟨#[99]⟩, .string ⟨#[100]⟩, .string ⟨#[101, 101, 101, 101, 101, 101, 101, 101]⟩, .string ⟨#[107, 49]⟩, .string ⟨#[107, 49, 48]⟩, .string ⟨#[107, 50]⟩, .string ⟨#[122]⟩] 9) := (hF1.block _ (Array.getElem?_eq_some_iff.1 HK.out).1 (by omega)).trans HK.out
        have e1 := keys_cell hK1 hlt
        obtain ⟨s, hs⟩ : ∃ s, allK k = s := ⟨_, rfl⟩
        rw [hs] at e1
        have HSK : Hid (allK k = s) := hs
        clear hs
        have HK1 : Hid _ := hK1
        have hKl := (Array.getElem?_eq_some_iff.1 hK1).1
        clear hK HK hK1 hown hD hF1 hF
        by_cases hlt3 : (x : Int) < (n : Int) - (m : Int)
        · have hal := heap_alloc_new w1 (.cells #[.string s] 9)
          go_wp2_with (at_builtin; refine wpList_str rfl _ _ rfl w.heap.size (.slice a m c) m (ss.map Value.string) rfl (hown1.alloc _) w1.heap.size s rfl hal (by omega) (by have := hF2.size; simp; omega) ?_; intro v' w2 hown2 hgr hlies)
          obtain ⟨a', c', rfl⟩ := own_shape hown2
          have hS2 := hF2.size
          have hB2 : Fr (fun g => (Value.slice a m c).ownBlock = some g) w1 w2 := (Fr.of_below ((Below.refl _ _).alloc (Nat.le_refl _) _)).trans (Fr.of_grown hgr (fun g e => e))
          have hD2 : DCur w2 C A B := hD1.frg hB2 (fun g e => by have := (hown1.lt g e).1; omega)
          have hF3 : Fr (fun g => g = C) w w2 := hF2.up2 hB2 (fun g e => (hown1.lt g e).1)
          have HK2 : Hid (w2.heap[w.heap.size + 1]? = some (.cells #[.string ⟨#[97]⟩, .string ⟨#[97, 97]⟩, .string ⟨#[97, 98]⟩, .string ⟨#[98]⟩, .string ⟨#[98, 0]⟩, .string ⟨#[99]⟩, .string ⟨#[100]⟩, .string ⟨#[101, 101, 101, 101, 101, 101, 101, 101]⟩, .string ⟨#[107, 49]⟩, .string ⟨#[107, 49, 48]⟩, .string ⟨#[107, 50]⟩, .string ⟨#[122]⟩] 9)) := (hB2.block _ hKl (fun e => hne _ e rfl)).trans HK1.out
          have hne2 : ∀ g, (Value.slice a' (m + 1) c').ownBlock = some g → g ≠ w.heap.size + 1 := by
            intro g e
            rcases hlies with hl | hl
            · rw [hl] at e; exact hne g e
            · have := hl g e; simp at this; omega
          have HM2 : Hid ((ss ++ [s]).length = m + 1) := by show _ = _; rw [List.length_append, HM.out]; rfl
          have HO2 : Hid (w2.ownsRow w.heap.size 9 1 (.slice a' (m + 1) c') (m + 1) ((ss ++ [s]).map Value.string)) := by show World.ownsRow _ _ _ _ _ _ _; rw [List.map_append]; exact hown2
          have HS2 : Hid (Asc (k + 1) (ss ++ [s])) := by show Asc _ _; rw [← HSK.out]; exact HSS.out.snoc
          clear hown1 hown2 hgr hlies hal e1
          go_roundw
          case rel => exact ⟨k + 1, a', c', ss ++ [s], by omega, by go_num, by rw [HM2.out], by rw [HM2.out]; omega, HS2.out, by rw [HM2.out]; exact HO2.out, by rw [HM2.out]; exact hne2, hD2, hF3, HK2.out⟩
          case measure => simp [intOf]; omega
        · clear e1
          go_wp2
          go_roundw
          case rel => exact ⟨k + 1, a, c, ss, by omega, by go_num, by rw [HM.out], by rw [HM.out]; omega, HSS.out.up, by rw [HM.out]; exact hown1, by rw [HM.out]; exact hne, hD1, hF2, HK1.out⟩
          case measure => simp [intOf]; omega
      · go_wp2
        go_ret
        exact ⟨a, c, ss, by rw [HM.out]; rfl, by rw [HM.out]; omega, HSS.out.mono (by omega), by rw [HM.out]; exact hown, hD, hF⟩
    · go_wp2
      go_ret
      exact ⟨a, c, ss, by rw [HM.out]; rfl, by rw [HM.out]; omega, HSS.out.mono (by omega), by rw [HM.out]; exact hown, hD, hF⟩
end Go.Proofs.Ytcmhobbpeaeebaa
namespace Go.Proofs.Ytcmhobbpeaeebaa
open Go.RowKit
set_option linter.unusedVariables false
set_option maxRecDepth 100000

theorem fit_nat (x : Nat) (h : x ≤ 4294967296) : I64 (x : Int) := by unfold I64; omega
theorem box_four' {w : World} {N : Nat} {v0 v1 v2 v3 : Value} {t : TypeId} (h : w.heap[N]? = some (.cells #[v0, v1, v2, v3] t)) : w.cell? ⟨N, 0, none⟩ = some v0 ∧ w.cell? ⟨N, 1, none⟩ = some v1 ∧ w.cell? ⟨N, 2, none⟩ = some v2 ∧ w.cell? ⟨N, 3, none⟩ = some v3 := by
  simp [World.cell?, h]
def put4D (w : World) (K : Nat) (u0 u1 u2 u3 : Value) : World := (((w.setCell ⟨K, 0, none⟩ u0).setCell ⟨K, 1, none⟩ u1).setCell ⟨K, 2, none⟩ u2).setCell ⟨K, 3, none⟩ u3
theorem setD_fr (w : World) (N i : Nat) (u : Value) : Fr (fun x => x = N) w (w.setCell ⟨N, i, none⟩ u) := ⟨rfl, rfl, rfl, by simp [World.setCell], fun k _ hk => Below.heap_setCell w ⟨N, i, none⟩ u k hk⟩
theorem put4D_fr (w : World) (K : Nat) (u0 u1 u2 u3 : Value) : Fr (fun x => x = K) w (put4D w K u0 u1 u2 u3) := (((setD_fr _ _ _ _).trans (setD_fr _ _ _ _)).trans (setD_fr _ _ _ _)).trans (setD_fr _ _ _ _)
theorem put4D_box {w : World} {N t : Nat} {v0 v1 v2 v3 : Value} (h : w.heap[N]? = some (.cells #[v0, v1, v2, v3] t)) (u0 u1 u2 u3 : Value) : (put4D w N u0 u1 u2 u3).heap[N]? = some (.cells #[u0, u1, u2, u3] t) := by
  simp [put4D, World.setCell, Array.getElem?_modify, h]
set_option maxHeartbeats 1600000 in
theorem l2DrawEnt_any (C A B : Nat) (w : World) (h : DCur w C A B) (key : ByteArray) (hk : key.size ≤ 8) (low last : Nat) (hl : low ≤ 2) (hl2 : 300 ≤ last ∧ last ≤ 1000) :
    Calls Try.prog 76 #[.pointer (some ⟨C, 0, none⟩), .string key, .int .i64 low, .int .i64 last] w fun e w' => ∃ p : PE, e = .returned (.agg #[.string p.1, .string p.2.1, .int .i64 p.2.2.1, .int .i64 p.2.2.2]) ∧ entFit p ∧ (p.1 = key ∧ (shortB p || longB (low : Int) (last : Int) p) = true) ∧ DCur w' C A B ∧ Fr (fun g => g = C) w w' := by
  have hCw := h.lt
  go_enter Try.func76, Try.ntmps76
  go_wp2_with fail
  have hb0 : Below w.heap.size w (w.alloc (.cells #[.string ⟨#[]⟩, .string ⟨#[]⟩, .int .i64 0, .int .i64 0] 102)) := (Below.refl _ _).alloc (Nat.le_refl _) _
  have HR0 := heap_alloc_new w (.cells #[.string ⟨#[]⟩, .string ⟨#[]⟩, .int .i64 0, .int .i64 0] 102)
  have hD0 := h.below hb0
  have hF0 : Fr (fun g => g = C) w (w.alloc (.cells #[.string ⟨#[]⟩, .string ⟨#[]⟩, .int .i64 0, .int .i64 0] 102)) := Fr.of_below hb0
  generalize w.alloc (.cells #[.string ⟨#[]⟩, .string ⟨#[]⟩, .int .i64 0, .int .i64 0] 102) = W0 at hb0 HR0 hD0 hF0 ⊢
  refine (l1Once_any C A B W0 hD0 3 (by omega) (by omega)).mono ?_
  rintro e w1 ⟨b, rfl, hD1, hF1⟩
  have HR1 := (hF1.block w.heap.size (Array.getElem?_eq_some_iff.1 HR0).1 (by omega)).trans HR0
  have hFw1 := hF0.trans hF1
  clear hb0 HR0 hD0 hF0 hF1 h
  cases b
  · go_wp2_with fail
    refine (l1Below_any C A B w1 hD1 9 (by omega) (by omega)).mono ?_
    rintro e w2 ⟨n, rfl, hn, hD2, hF2⟩
    have HR2 := (hF2.block w.heap.size (Array.getElem?_eq_some_iff.1 HR1).1 (by omega)).trans HR1
    have hFw2 := hFw1.trans hF2
    go_wp2_with fail
    refine (l1Many_any _ (by decide) n (by omega) w2).mono ?_
    rintro e w3 ⟨v, rfl, hv, hb3⟩
    have hD3 := hD2.below hb3
    have HR3 := (hb3.block w.heap.size (Array.getElem?_eq_some_iff.1 HR2).1).trans HR2
    have hFw3 := hFw2.trans (Fr.of_below hb3)
    have hv8 : v.size ≤ 8 := by rw [hv]; simp [ByteArray.size]; omega
    have hvn : v.size = n := by rw [hv]; simp [ByteArray.size]
    have HSh : Hid (shortB (key, v, 0, (n : Int)) = true) := by show _ = _; simp [shortB, hvn]; omega
    clear hvn
    clear HR1 HR2 hFw1 hFw2 hD1 hD2 hF2 hb3
    obtain ⟨r0, r1, r2, r3⟩ := box_four' HR3
    have ff := box_thaw HR3
    have hDD := hD3
    have hFF := hFw3
    have HB := put4D_box HR3 (.string key) (.string v) (.int .i64 0) (.int .i64 (n : Int))
    have hDZ : DCur (put4D w3 w.heap.size (.string key) (.string v) (.int .i64 0) (.int .i64 (n : Int))) C A B := hDD.frg (put4D_fr w3 w.heap.size (.string key) (.string v) (.int .i64 0) (.int .i64 (n : Int))) (fun g e => by omega)
    have hFZ : Fr (fun g => g = C) w (put4D w3 w.heap.size (.string key) (.string v) (.int .i64 0) (.int .i64 (n : Int))) := hFF.up2 (put4D_fr w3 w.heap.size (.string key) (.string v) (.int .i64 0) (.int .i64 (n : Int))) (fun g e => by omega)
    go_wp2
    show bodyPost _ _ _ _ _ (put4D w3 w.heap.size (.string key) (.string v) (.int .i64 0) (.int .i64 (n : Int)))
    clear r0 r1 r2 r3
    obtain ⟨r0, r1, r2, r3⟩ := box_four' HB
    refine bodyPost_ret (v := .agg #[.string key, .string v, .int .i64 0, .int .i64 (n : Int)]) (by simp [results, Try.results76, go_sem, r0, r1, r2, r3]) rfl ?_
    exact ⟨(key, v, 0, (n : Int)), rfl, ⟨by unfold maxLen; show key.size ≤ _; omega, by unfold maxLen; show v.size ≤ _; omega, fit_nat 0 (by omega), fit_nat n (by omega)⟩, ⟨rfl, by rw [HSh.out]; rfl⟩, hDZ, hFZ⟩
  · go_wp2_with fail
    refine (l2DrawNum_any C A B w1 hD1 low last hl hl2).mono ?_
    rintro e w2 ⟨x, rfl, hxl, hx, hD2, hF2⟩
    have HR2 := (hF2.block w.heap.size (Array.getElem?_eq_some_iff.1 HR1).1 (by omega)).trans HR1
    have hFw2 := hFw1.trans hF2
    go_wp2_with fail
    refine (l1Below_any C A B w2 hD2 30 (by omega) (by omega)).mono ?_
    rintro e w3 ⟨y, rfl, hy, hD3, hF3⟩
    have HR3 := (hF3.block w.heap.size (Array.getElem?_eq_some_iff.1 HR2).1 (by omega)).trans HR2
    have hFw3 := hFw2.trans hF3
    go_wp2_with fail
    have hal : Below w3.heap.size w3 (w3.alloc (.cells #[.string key, .string ⟨#[]⟩, .int .i64 (x : Int), .int .i64 (9 + (y : Int))] 102)) := (Below.refl _ _).alloc (Nat.le_refl _) _
    have HE4 := heap_alloc_new w3 (.cells #[.string key, .string ⟨#[]⟩, .int .i64 (x : Int), .int .i64 (9 + (y : Int))] 102)
    generalize w3.alloc (.cells #[.string key, .string ⟨#[]⟩, .int .i64 (x : Int), .int .i64 (9 + (y : Int))] 102) = w4 at hal HE4 ⊢
    have hD4 := hD3.below hal
    have HR4 := (hal.block w.heap.size (Array.getElem?_eq_some_iff.1 HR3).1).trans HR3
    have hFw4 := hFw3.trans (Fr.of_below hal)
    have hE3 : w.heap.size < w3.heap.size := (Array.getElem?_eq_some_iff.1 HR3).1
    clear HR1 HR2 HR3 hFw1 hFw2 hFw3 hD1 hD2 hD3 hF2 hF3 hal
    generalize w3.heap.size = E at HE4 hE3 ⊢
    refine (l1Once_any C A B w4 hD4 5 (by omega) (by omega)).mono ?_
    rintro e w5 ⟨b, rfl, hD5, hF5⟩
    have HR5 := (hF5.block w.heap.size (Array.getElem?_eq_some_iff.1 HR4).1 (by omega)).trans HR4
    have HE5 := (hF5.block E (Array.getElem?_eq_some_iff.1 HE4).1 (by omega)).trans HE4
    have hFw5 := hFw4.trans hF5
    clear HR4 HE4 hFw4 hD4 hF5
    cases b
    · obtain ⟨s0, s1, s2, s3⟩ := box_four' HE5
      obtain ⟨r0, r1, r2, r3⟩ := box_four' HR5
      have ff := box_thaw HR5
      have hDD := hD5
      have hFF := hFw5
      have HB := put4D_box HR5 (.string key) (.string ⟨#[]⟩) (.int .i64 (x : Int)) (.int .i64 (9 + (y : Int)))
      have hDZ : DCur (put4D w5 w.heap.size (.string key) (.string ⟨#[]⟩) (.int .i64 (x : Int)) (.int .i64 (9 + (y : Int)))) C A B := hDD.frg (put4D_fr w5 w.heap.size (.string key) (.string ⟨#[]⟩) (.int .i64 (x : Int)) (.int .i64 (9 + (y : Int)))) (fun g e => by omega)
      have hFZ : Fr (fun g => g = C) w (put4D w5 w.heap.size (.string key) (.string ⟨#[]⟩) (.int .i64 (x : Int)) (.int .i64 (9 + (y : Int)))) := hFF.up2 (put4D_fr w5 w.heap.size (.string key) (.string ⟨#[]⟩) (.int .i64 (x : Int)) (.int .i64 (9 + (y : Int)))) (fun g e => by omega)
      go_wp2
      show bodyPost _ _ _ _ _ (put4D w5 w.heap.size (.string key) (.string ⟨#[]⟩) (.int .i64 (x : Int)) (.int .i64 (9 + (y : Int))))
      clear r0 r1 r2 r3
      obtain ⟨r0, r1, r2, r3⟩ := box_four' HB
      refine bodyPost_ret (v := .agg #[.string key, .string ⟨#[]⟩, .int .i64 (x : Int), .int .i64 (9 + (y : Int))]) (by simp [results, Try.results76, go_sem, r0, r1, r2, r3]) rfl ?_
      exact ⟨(key, ⟨#[]⟩, (x : Int), (9 + (y : Int))), rfl, ⟨by unfold maxLen; show key.size ≤ _; omega, Nat.zero_le _, fit_nat x (by omega), by show I64 (9 + (y : Int)); unfold I64; omega⟩, ⟨rfl, by rw [Bool.or_eq_true]; right; simp [longB, inB]; omega⟩, hDZ, hFZ⟩
    · have fe := box_thaw HE5
      obtain ⟨s0, s1, s2, s3⟩ := box_four' HE5
      have HE6 : (w5.setCell ⟨E, 3, none⟩ (.int .i64 400)).heap[E]? = some (.cells #[.string key, .string ⟨#[]⟩, .int .i64 (x : Int), .int .i64 400] 102) := by simp [World.setCell, Array.getElem?_modify, HE5]
      have hF6 := setD_fr w5 E 3 (.int .i64 400)
      have HR6 := (hF6.block w.heap.size (Array.getElem?_eq_some_iff.1 HR5).1 (by omega)).trans HR5
      have hD6 := hD5.frg hF6 (fun g e => by omega)
      have hFw6 := hFw5.up2 hF6 (fun g e => by omega)
      obtain ⟨t0, t1, t2, t3⟩ := box_four' HE6
      obtain ⟨r0, r1, r2, r3⟩ := box_four' HR6
      have ff := box_thaw HR6
      have hDD := hD6
      have hFF := hFw6
      have HB := put4D_box HR6 (.string key) (.string ⟨#[]⟩) (.int .i64 (x : Int)) (.int .i64 400)
      have hDZ : DCur (put4D (w5.setCell ⟨E, 3, none⟩ (.int .i64 400)) w.heap.size (.string key) (.string ⟨#[]⟩) (.int .i64 (x : Int)) (.int .i64 400)) C A B := hDD.frg (put4D_fr (w5.setCell ⟨E, 3, none⟩ (.int .i64 400)) w.heap.size (.string key) (.string ⟨#[]⟩) (.int .i64 (x : Int)) (.int .i64 400)) (fun g e => by omega)
      have hFZ : Fr (fun g => g = C) w (put4D (w5.setCell ⟨E, 3, none⟩ (.int .i64 400)) w.heap.size (.string key) (.string ⟨#[]⟩) (.int .i64 (x : Int)) (.int .i64 400)) := hFF.up2 (put4D_fr (w5.setCell ⟨E, 3, none⟩ (.int .i64 400)) w.heap.size (.string key) (.string ⟨#[]⟩) (.int .i64 (x : Int)) (.int .i64 400)) (fun g e => by omega)
      go_wp2
      show bodyPost _ _ _ _ _ (put4D (w5.setCell ⟨E, 3, none⟩ (.int .i64 400)) w.heap.size (.string key) (.string ⟨#[]⟩) (.int .i64 (x : Int)) (.int .i64 400))
      clear r0 r1 r2 r3
      obtain ⟨r0, r1, r2, r3⟩ := box_four' HB
      refine bodyPost_ret (v := .agg #[.string key, .string ⟨#[]⟩, .int .i64 (x : Int), .int .i64 400]) (by simp [results, Try.results76, go_sem, r0, r1, r2, r3]) rfl ?_
      exact ⟨(key, ⟨#[]⟩, (x : Int), 400), rfl, ⟨by unfold maxLen; show key.size ≤ _; omega, Nat.zero_le _, fit_nat x (by omega), fit_nat 400 (by omega)⟩, ⟨rfl, by rw [Bool.or_eq_true]; right; simp [longB, inB]; omega⟩, hDZ, hFZ⟩
end Go.Proofs.Ytcmhobbpeaeebaa
