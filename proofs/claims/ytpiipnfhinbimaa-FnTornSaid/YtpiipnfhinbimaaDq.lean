import Derived.Test.YtpiipnfhinbimaaJA
import Derived.Test.YtpiipnfhinbimaaPgX
import Derived.Test.YtpiipnfhinbimaaDr
import Derived.Test.YtpiipnfhinbimaaAp2
import Derived.Test.YtpiipnfhinbimaaJF
namespace Go.Proofs.Ytpiipnfhinbimaa
open Go.RowKit
set_option linter.unusedVariables false
set_option maxRecDepth 100000

set_option maxHeartbeats 800000 in
theorem l1Many_any (s : ByteArray) (hs : s.size ≤ 16) (n : Nat) (hn : n ≤ 1000) (w : World) :
    Calls Try.prog 97 #[.string s, .int .i64 n] w fun e w' => ∃ t : ByteArray, e = .returned (.string t) ∧ t.size = s.size * n ∧ Below w.heap.size w w' := by
  go_enter Try.func97, Try.ntmps97
  go_wp2_with fail
  have hb0 : Below w.heap.size w (w.alloc (.cells #[] 5)) := (Below.refl _ _).alloc (Nat.le_refl _) _
  have hw0 : (w.alloc (.cells #[] 5)).ownsRow w.heap.size 5 1 (.slice (some ⟨w.heap.size, 0, none⟩) 0 0) 0 (u8s []) := by
    have := World.ownsRow_made w #[] (base := w.heap.size) (e := 5) (size := 1) 0 (by simp) (by unfold maxLen; omega) (by simp)
    simpa [u8s] using this
  go_loopw [5, 6] (fun v i wr => ∃ (k : Nat) (a : Option Addr) (c : Nat) (l : List Int), k ≤ n ∧ i = .int .i64 k ∧ l.length = s.size * k ∧ (∀ x ∈ l, 0 ≤ x ∧ x ≤ 255) ∧ v = .slice a (s.size * k) c ∧ wr.ownsRow w.heap.size 5 1 (.slice a (s.size * k) c) (s.size * k) (u8s l) ∧ Below w.heap.size w wr) (fun _ i _ => n - (intOf i).toNat)
  case atStart => exact ⟨0, some ⟨w.heap.size, 0, none⟩, 0, [], Nat.zero_le _, rfl, by simp, (by intro x hx; cases hx), rfl, hw0, hb0⟩
  case round =>
    clear hw0 hb0
    obtain ⟨k, a, c, l, hk, rfl, hl, hlb, rfl, hown, hbel⟩ := hrel
    have hm : s.size * k ≤ 16 * 1000 := Nat.mul_le_mul hs (by omega)
    have HL : Hid (l.length = s.size * k) := hl
    clear hl
    generalize hmk : s.size * k = m at hm HL hown ⊢
    have HM : Hid (s.size * k = m) := hmk
    clear hmk
    by_cases hlt : k < n
    · have hsz := hbel.size
      go_wp2_with (at_builtin; refine wpList_as rfl _ _ rfl w.heap.size _ m l rfl hown s rfl (by omega) (by omega) ?_; intro v' w1 hown1 hgr)
      obtain ⟨a', c', rfl⟩ := own_shape hown1
      have hb2 := hbel.grown hgr (by omega) (fun g hg => (hown.lt g hg).1)
      have hE : s.size * (k + 1) = m + s.size := by rw [Nat.mul_succ, HM.out]
      have HE : Hid (s.size * (k + 1) = m + s.size) := hE
      have HL2 : Hid ((l ++ strB s).length = s.size * (k + 1)) := by show _ = _; rw [List.length_append, strB_len, HL.out, hE]
      have HB2 : Hid (∀ x ∈ l ++ strB s, 0 ≤ x ∧ x ≤ 255) := by intro x hx; rcases List.mem_append.1 hx with h | h; exact hlb x h; exact strB_byte s x h
      clear hgr hown hE
      go_roundw
      case rel => exact ⟨k + 1, a', c', l ++ strB s, by omega, by go_num, HL2.out, HB2.out, by rw [HE.out], by rw [HE.out]; exact hown1, hb2⟩
      case measure => simp [intOf]; omega
    · have hkn : k = n := by omega
      subst hkn
      have hlen := HL.out
      have hB : BytesAt wr w.heap.size wr.heap.size a m c l := by
        have := bytesAt_of_own (v := .slice a m c) (bs := l) (by rw [hlen]; exact hown) hlb
        obtain ⟨a2, n2, c2, e, hB⟩ := this
        cases e
        exact hB
      have sc := str_conv hB
      clear hown HL
      go_wp2
      go_ret
      exact ⟨_, rfl, by rw [toB_size, hlen, HM.out], hbel⟩
theorem DCur.frg {w w' : World} {C A B : Nat} {S : Nat → Prop} (h : DCur w C A B) (hf : Fr S w w') (hS : ∀ g, S g → C < g) : DCur w' C A B := by
  obtain ⟨hBC, a, n, c, bs, i, hh, hbox, hi, hby⟩ := h
  have hl := (Array.getElem?_eq_some_iff.1 hbox).1
  exact ⟨hBC, a, n, c, bs, i, hh, (hf.block C hl (fun e => by have := hS _ e; omega)).trans hbox, hi, hby.keep (fun k k1 k2 => hf.block k (by omega) (fun e => by have := hS _ e; omega))⟩
theorem Fr.up2 {S T : Nat → Prop} {a b c : World} (h : Fr S a b) (k : Fr T b c) (hT : ∀ g, T g → a.heap.size ≤ g) : Fr S a c :=
  ⟨k.1.trans h.1, k.2.trans h.2, k.3.trans h.3, Nat.le_trans h.size k.size, fun g hg hS => (k.block g (Nat.lt_of_lt_of_le hg h.size) (fun e => by have := hT g e; omega)).trans (h.block g hg hS)⟩
theorem info_Str : (Try.prog.info? 9).map (fun i => (i.zero, i.size, i.bytes)) = some (some (.string ⟨#[]⟩), 1, 16) := by kernel_rfl
/-- append(v, s), s one string. -/
theorem wpList_str {w : World} {ops : Array Oper} {rest : List Oper} {o : Oper} {a : Act} {Q : Exit → Act → World → Prop} (hgd : o.guard = none) (s x : Operand)
    (ho : o.op = .call { callee := .builtin .append, args := #[s, x], argTypes := #[71, 71] })
    (base : Nat) (v : Value) (n : Nat) (xs : List Value) (hs : a.eval s = v) (hown : w.ownsRow base 9 1 v n xs)
    (g : Nat) (u1 : ByteArray) (hx : a.eval x = .slice (some ⟨g, 0, none⟩) 1 1) (hg : w.heap[g]? = some (.cells #[.string u1] 9)) (hn : n ≤ 1000000) (hbase : base ≤ w.heap.size)
    (h : ∀ v' w', w'.ownsRow base 9 1 v' (n + 1) (xs ++ [.string u1]) → w.grownBy w' v.ownBlock → (v'.ownBlock = v.ownBlock ∨ ∀ g, v'.ownBlock = some g → w.heap.size ≤ g) → wpList Try.prog ops Q rest (a.put o.dst v') w') : wpList Try.prog ops Q (o :: rest) a w := by
  obtain ⟨i0, hi, hz0, hz1, hz2⟩ := info_parts info_Str
  refine wpList_append_ownD w hgd s x 71 ho base 9 i0 _ 1 16 Try.underlying71 hi hz0 hz1 hz2 rfl (by decide) v n xs hs hown ⟨g, 0, none⟩ 1 1 [.string u1] hx rfl ?_ ?_ (by unfold maxLen; omega) (by omega) hbase h
  · intro j u hj
    have e : (⟨g, 0, none⟩ : Addr).add j = ⟨g, j, none⟩ := by simp [Addr.add]; omega
    rw [e]
    rcases j with _ | j
    all_goals first
      | (simp at hj; done)
      | (simp at hj; subst hj; simp [World.cell?, hg])
  · intro u hu; simp at hu; rcases hu with rfl; rfl
theorem keys_cell {w : World} {N t : Nat} (h : w.heap[N]? = some (.cells #[.string ⟨#[97]⟩, .string ⟨#[97, 97]⟩, .string ⟨#[97, 98]⟩, .string ⟨#[98]⟩, .string ⟨#[98, 0]⟩, .string ⟨#[99]⟩, .string ⟨#[100]⟩, .string ⟨#[101, 101, 101, 101, 101, 101, 101, 101]⟩, .string ⟨#[107, 49]⟩, .string ⟨#[107, 49, 48]⟩, .string ⟨#[107, 50]⟩, .string ⟨#[122]⟩] t)) {k : Nat} (hk : k < 12) : ∃ s : ByteArray, s.size ≤ 8 ∧ w.cell? ⟨N, k, none⟩ = some (.string s) := by
  have h12 : k = 0 ∨ k = 1 ∨ k = 2 ∨ k = 3 ∨ k = 4 ∨ k = 5 ∨ k = 6 ∨ k = 7 ∨ k = 8 ∨ k = 9 ∨ k = 10 ∨ k = 11 := by omega
  rcases h12 with rfl | rfl | rfl | rfl | rfl | rfl | rfl | rfl | rfl | rfl | rfl | rfl <;> simp only [World.cell?, h] <;> exact ⟨_, by decide, rfl⟩
set_option maxHeartbeats 1600000 in
theorem l2Keys_any (C A B : Nat) (w : World) (h : DCur w C A B) (n : Nat) (hn : n ≤ 12) :
    Calls Try.prog 95 #[.pointer (some ⟨C, 0, none⟩), .int .i64 n] w fun e w' => ∃ (a : Option Addr) (c : Nat) (ss : List ByteArray), e = .returned (.slice a ss.length c) ∧ ss.length ≤ n ∧ (∀ s ∈ ss, s.size ≤ 8) ∧ w'.ownsRow w.heap.size 9 1 (.slice a ss.length c) ss.length (ss.map Value.string) ∧ DCur w' C A B ∧ Fr (fun g => g = C) w w' := by
  have hCw := h.lt
  go_enter Try.func95, Try.ntmps95
  go_wp2_with fail
  have hb0 : Below w.heap.size w ((w.alloc (.cells #[] 9)).alloc (.cells #[.string ⟨#[97]⟩, .string ⟨#[97, 97]⟩, .string ⟨#[97, 98]⟩, .string ⟨#[98]⟩, .string ⟨#[98, 0]⟩, .string ⟨#[99]⟩, .string ⟨#[100]⟩, .string ⟨#[101, 101, 101, 101, 101, 101, 101, 101]⟩, .string ⟨#[107, 49]⟩, .string ⟨#[107, 49, 48]⟩, .string ⟨#[107, 50]⟩, .string ⟨#[122]⟩] 9)) := ((Below.refl _ _).alloc (Nat.le_refl _) _).alloc (by simp) _
  have hw0 : ((w.alloc (.cells #[] 9)).alloc (.cells #[.string ⟨#[97]⟩, .string ⟨#[97, 97]⟩, .string ⟨#[97, 98]⟩, .string ⟨#[98]⟩, .string ⟨#[98, 0]⟩, .string ⟨#[99]⟩, .string ⟨#[100]⟩, .string ⟨#[101, 101, 101, 101, 101, 101, 101, 101]⟩, .string ⟨#[107, 49]⟩, .string ⟨#[107, 49, 48]⟩, .string ⟨#[107, 50]⟩, .string ⟨#[122]⟩] 9)).ownsRow w.heap.size 9 1 (.slice (some ⟨w.heap.size, 0, none⟩) 0 0) 0 [] := by
    have := (World.ownsRow_made w #[] (base := w.heap.size) (e := 9) (size := 1) 0 (by simp) (by unfold maxLen; omega) (by simp)).alloc (.cells #[.string ⟨#[97]⟩, .string ⟨#[97, 97]⟩, .string ⟨#[97, 98]⟩, .string ⟨#[98]⟩, .string ⟨#[98, 0]⟩, .string ⟨#[99]⟩, .string ⟨#[100]⟩, .string ⟨#[101, 101, 101, 101, 101, 101, 101, 101]⟩, .string ⟨#[107, 49]⟩, .string ⟨#[107, 49, 48]⟩, .string ⟨#[107, 50]⟩, .string ⟨#[122]⟩] 9)
    simpa using this
  have hK0 : ((w.alloc (.cells #[] 9)).alloc (.cells #[.string ⟨#[97]⟩, .string ⟨#[97, 97]⟩, .string ⟨#[97, 98]⟩, .string ⟨#[98]⟩, .string ⟨#[98, 0]⟩, .string ⟨#[99]⟩, .string ⟨#[100]⟩, .string ⟨#[101, 101, 101, 101, 101, 101, 101, 101]⟩, .string ⟨#[107, 49]⟩, .string ⟨#[107, 49, 48]⟩, .string ⟨#[107, 50]⟩, .string ⟨#[122]⟩] 9)).heap[w.heap.size + 1]? = some (.cells #[.string ⟨#[97]⟩, .string ⟨#[97, 97]⟩, .string ⟨#[97, 98]⟩, .string ⟨#[98]⟩, .string ⟨#[98, 0]⟩, .string ⟨#[99]⟩, .string ⟨#[100]⟩, .string ⟨#[101, 101, 101, 101, 101, 101, 101, 101]⟩, .string ⟨#[107, 49]⟩, .string ⟨#[107, 49, 48]⟩, .string ⟨#[107, 50]⟩, .string ⟨#[122]⟩] 9) := by
    show ((w.heap.push _).push _)[w.heap.size + 1]? = _
    rw [Array.getElem?_push, if_pos (by simp)]
  go_loopw [5, 7] (fun v i wr => ∃ (k : Nat) (a : Option Addr) (c : Nat) (ss : List ByteArray), k ≤ 12 ∧ i = .int .i64 k ∧ v = .slice a ss.length c ∧ ss.length ≤ n ∧ (∀ s ∈ ss, s.size ≤ 8) ∧ wr.ownsRow w.heap.size 9 1 (.slice a ss.length c) ss.length (ss.map Value.string) ∧ (∀ g, (Value.slice a ss.length c).ownBlock = some g → g ≠ w.heap.size + 1) ∧ DCur wr C A B ∧ Fr (fun g => g = C) w wr ∧ wr.heap[w.heap.size + 1]? = some (.cells #[.string ⟨#[97]⟩, .string ⟨#[97, 97]⟩, .string ⟨#[97, 98]⟩, .string ⟨#[98]⟩, .string ⟨#[98, 0]⟩, .string ⟨#[99]⟩, .string ⟨#[100]⟩, .string ⟨#[101, 101, 101, 101, 101, 101, 101, 101]⟩, .string ⟨#[107, 49]⟩, .string ⟨#[107, 49, 48]⟩, .string ⟨#[107, 50]⟩, .string ⟨#[122]⟩] 9)) (fun _ i _ => 12 - (intOf i).toNat)
  case atStart => exact ⟨0, some ⟨w.heap.size, 0, none⟩, 0, [], by omega, rfl, rfl, Nat.zero_le _, (by intro s hs; cases hs), hw0, (by intro g e; simp [Value.ownBlock] at e; omega), h.below hb0, Fr.of_below hb0, hK0⟩
  case round =>
    clear hb0 hw0 hK0 h
    obtain ⟨k, a, c, ss, hk, rfl, rfl, hlen, hss, hown, hne, hD, hF, hK⟩ := hrel
    have HSS : Hid (∀ s ∈ ss, s.size ≤ 8) := hss
    have HK : Hid _ := hK
    clear hss
    obtain ⟨m, hm⟩ : ∃ m, ss.length = m := ⟨_, rfl⟩
    have HM : Hid (ss.length = m) := hm
    rw [hm] at hlen hown hne ⊢
    clear hm
    by_cases hlt : k < 12
    · by_cases hlt2 : m < n
      · go_wp2_with fail
        refine (l1Below_any C A B wr hD (12 - (k : Int)) (by omega) (by omega)).mono ?_
        rintro e w1 ⟨x, rfl, hx, hD1, hF1⟩
        have hsz := hF.size
        have hF2 := hF.trans hF1
        have hown1 := owns_fr hown hF1 (fun g e e' => by have := (hown.lt g e).1; omega)
        have hK1 : w1.heap[w.heap.size + 1]? = some (.cells #[.string ⟨#[97]⟩, .string ⟨#[97, 97]⟩, .string ⟨#[97, 98]⟩, .string ⟨#[98]⟩, .string ⟨#[98, 0]⟩, .string ⟨#[99]⟩, .string ⟨#[100]⟩, .string ⟨#[101, 101, 101, 101, 101, 101, 101, 101]⟩, .string ⟨#[107, 49]⟩, .string ⟨#[107, 49, 48]⟩, .string ⟨#[107, 50]⟩, .string ⟨#[122]⟩] 9) := (hF1.block _ (Array.getElem?_eq_some_iff.1 HK.out).1 (by omega)).trans HK.out
        obtain ⟨s, hs8, e1⟩ := keys_cell hK1 hlt
        have HK1 : Hid _ := hK1
        have hKl := (Array.getElem?_eq_some_iff.1 hK1).1
        clear hK HK hK1 hown hD hF1 hF
        by_cases hlt3 : (x : Int) < (n : Int) - (m : Int)
        · have hal := heap_alloc_new w1 (.cells #[.string s] 9)
          go_wp2_with (at_builtin; refine wpList_str rfl _ _ rfl w.heap.size (.slice a m c) m (ss.map Value.string) rfl (hown1.alloc _) w1.heap.size s rfl hal (by omega) (by have := hF2.size; simp; omega) ?_; intro v' w2 hown2 hgr hlies)
          obtain ⟨a', c', rfl⟩ := own_shape hown2
          have hS2 := hF2.size
          have hB2 : Fr (fun g => (Value.slice a m c).ownBlock = some g) w1 w2 := (Fr.of_below ((Below.refl _ _).alloc (Nat.le_refl _) _)).trans (Fr.of_grown hgr (fun g e => e))
          have hD2 : DCur w2 C A B := hD1.frg hB2 (fun g e => by have := (hown1.lt g e).1; omega)
          have hF3 : Fr (fun g => g = C) w w2 := hF2.up2 hB2 (fun g e => (hown1.lt g e).1)
          have HK2 : Hid (w2.heap[w.heap.size + 1]? = some (.cells #[.string ⟨#[97]⟩, .string ⟨#[97, 97]⟩, .string ⟨#[97, 98]⟩, .string ⟨#[98]⟩, .string ⟨#[98, 0]⟩, .string ⟨#[99]⟩, .string ⟨#[100]⟩, .string ⟨#[101, 101, 101, 101, 101, 101, 101, 101]⟩, .string ⟨#[107, 49]⟩, .string ⟨#[107, 49, 48]⟩, .string ⟨#[107, 50]⟩, .string ⟨#[122]⟩] 9)) := (hB2.block _ hKl (fun e => hne _ e rfl)).trans HK1.out
          have hne2 : ∀ g, (Value.slice a' (m + 1) c').ownBlock = some g → g ≠ w.heap.size + 1 := by
            intro g e
            rcases hlies with hl | hl
            · rw [hl] at e; exact hne g e
            · have := hl g e; simp at this; omega
          have HM2 : Hid ((ss ++ [s]).length = m + 1) := by show _ = _; rw [List.length_append, HM.out]; rfl
          have HO2 : Hid (w2.ownsRow w.heap.size 9 1 (.slice a' (m + 1) c') (m + 1) ((ss ++ [s]).map Value.string)) := by show World.ownsRow _ _ _ _ _ _ _; rw [List.map_append]; exact hown2
          have HS2 : Hid (∀ t ∈ ss ++ [s], t.size ≤ 8) := by
            intro t ht
            rcases List.mem_append.1 ht with ht | ht
            · exact HSS.out t ht
            · simp only [List.mem_singleton] at ht; subst ht; exact hs8
          clear hown1 hown2 hgr hlies hal e1
          go_roundw
          case rel => exact ⟨k + 1, a', c', ss ++ [s], by omega, by go_num, by rw [HM2.out], by rw [HM2.out]; omega, HS2.out, by rw [HM2.out]; exact HO2.out, by rw [HM2.out]; exact hne2, hD2, hF3, HK2.out⟩
          case measure => simp [intOf]; omega
        · clear e1
          go_wp2
          go_roundw
          case rel => exact ⟨k + 1, a, c, ss, by omega, by go_num, by rw [HM.out], by rw [HM.out]; omega, HSS.out, by rw [HM.out]; exact hown1, by rw [HM.out]; exact hne, hD1, hF2, HK1.out⟩
          case measure => simp [intOf]; omega
      · go_wp2
        go_ret
        exact ⟨a, c, ss, by rw [HM.out]; rfl, by rw [HM.out]; omega, HSS.out, by rw [HM.out]; exact hown, hD, hF⟩
    · go_wp2
      go_ret
      exact ⟨a, c, ss, by rw [HM.out]; rfl, by rw [HM.out]; omega, HSS.out, by rw [HM.out]; exact hown, hD, hF⟩
end Go.Proofs.Ytpiipnfhinbimaa
