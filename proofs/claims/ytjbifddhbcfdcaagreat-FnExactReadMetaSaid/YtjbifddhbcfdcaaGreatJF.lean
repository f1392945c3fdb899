import Derived.Test.YtjbifddhbcfdcaaGreatJR
import Derived.Test.YtjbifddhbcfdcaaGreatJC
import Derived.Laws.BitsAll
import Derived.Laws.IdiomStrings
namespace Go.Proofs.YtjbifddhbcfdcaaGreat
open Go.RowKit
set_option linter.unusedVariables false
set_option maxRecDepth 100000

def toB (bs : List Int) : ByteArray := ⟨(bs.map fun x => UInt8.ofNat x.toNat).toArray⟩
theorem toB_strB (s : ByteArray) : toB (strB s) = s := by
  obtain ⟨d⟩ := s
  simp [toB, strB, List.map_map]
  have : ((fun x : Int => UInt8.ofNat x.toNat) ∘ fun b : UInt8 => (b.toNat : Int)) = id := by
    funext b; simp
  rw [this]; simp
theorem toB_size (bs : List Int) : (toB bs).size = bs.length := by simp [toB, ByteArray.size]
theorem strB_toB {bs : List Int} (h : ∀ x ∈ bs, 0 ≤ x ∧ x ≤ 255) : strB (toB bs) = bs := by
  simp only [strB, toB, List.toList_toArray, List.map_map]
  conv => rhs; rw [← List.map_id bs]
  apply List.map_congr_left
  intro x hx
  have := h x hx
  simp [UInt8.toNat_ofNat']
  omega
theorem str_conv {w : World} {A B : Nat} {a : Option Addr} {n c : Nat} {bs : List Int} (h : BytesAt w A B a n c bs) : (convert 43 9 (.slice a n c)).run Tryz.prog w = .ok (.string (toB bs)) w := by
  obtain ⟨hl, hnc, hc, hw, hcell, hnil⟩ := h
  rcases a with _ | a
  · have hn : n = 0 := by
      by_cases h0 : n = 0
      · exact h0
      · obtain ⟨_, _, h1, _⟩ := hcell (by omega); cases h1
    subst hn
    have hc0 := hnil rfl
    subst hc0
    have hb : bs = [] := List.eq_nil_of_length_eq_zero hl
    subst hb
    rw [run_convert_bytes_string (P := Tryz.prog) w _ _ 5 none 0 0 Tryz.underlying43 Tryz.underlying5 Tryz.underlying9]
    rfl
  · subst hl
    have h1 := run_convert_bytes_back (P := Tryz.prog) w 43 9 5 a c (bs.map fun x => UInt8.ofNat x.toNat) Tryz.underlying43 Tryz.underlying5 Tryz.underlying9 ?_
    · simpa [toB] using h1
    · intro j hj
      simp at hj
      obtain ⟨b, off, e1, e2, e3⟩ := hcell (by omega)
      cases e1
      have h5 : (⟨b, off, none⟩ : Addr).add j = ⟨b, off + j, none⟩ := by simp [Addr.add]
      rw [h5, e3 j hj]
      have hx := hw (bs[j]) (List.getElem_mem hj)
      simp [List.getD, hj, UInt8.toNat_ofNat']
      omega
theorem bytesAt_sub {w : World} {A B g o c n : Nat} {bs : List Int} (h : BytesAt w A B (some ⟨g, o, none⟩) n c bs) (k m : Nat) (hk : k + m ≤ n) (hn : 0 < n) : BytesAt w A B (some ⟨g, o + k, none⟩) m (c - k) ((bs.drop k).take m) := by
  obtain ⟨hl, hnc, hc, hw, hcell, hnil⟩ := h
  obtain ⟨b, off, e1, e2, e3⟩ := hcell hn
  cases e1
  refine ⟨by simp; omega, by omega, by omega, fun x hx => hw x (List.mem_of_mem_drop (List.mem_of_mem_take hx)), fun _ => ⟨g, o + k, rfl, e2, fun i hi => ?_⟩, fun h => by cases h⟩
  rw [Nat.add_assoc, e3 (k + i) (by omega)]
  simp [List.getD, hi]
/-- A cursor that reads 128 bytes. -/
structure RCur (w : World) (C g o c : Nat) (old : Bool) (pf gf k : Nat) : Prop where
  box : w.heap[C]? = some (.cells #[.slice (some ⟨g, o, none⟩) 128 c, .int .i64 k, .bool old, .func (.func pf) #[.pointer (some ⟨C, 0, none⟩)] #[], .func (.func gf) #[.pointer (some ⟨C, 0, none⟩)] #[]] 110)
theorem RCur.cells {w : World} {C g o c pf gf k : Nat} {old : Bool} (h : RCur w C g o c old pf gf k) : w.cell? ⟨C, 0, none⟩ = some (.slice (some ⟨g, o, none⟩) 128 c) ∧ w.cell? ⟨C, 1, none⟩ = some (.int .i64 k) ∧ w.cell? ⟨C, 2, none⟩ = some (.bool old) ∧ w.cell? ⟨C, 3, none⟩ = some (.func (.func pf) #[.pointer (some ⟨C, 0, none⟩)] #[]) ∧ w.cell? ⟨C, 4, none⟩ = some (.func (.func gf) #[.pointer (some ⟨C, 0, none⟩)] #[]) := by
  refine ⟨?_, ?_, ?_, ?_, ?_⟩ <;> simp [World.cell?, h.box]
theorem RCur.drew {w : World} {C g o c pf gf k : Nat} {old : Bool} (h : RCur w C g o c old pf gf k) : RCur w.drew C g o c old pf gf k := ⟨h.box⟩
/-- The cursor went on to k'; nothing else was written. -/
def Mv (w w' : World) (C g o c : Nat) (old : Bool) (pf gf k : Nat) : Prop := RCur w' C g o c old pf gf k ∧ Fr (fun x => x = C) w w'
theorem Mv.of_set {w : World} {C g o c pf gf k : Nat} {old : Bool} (h : RCur w C g o c old pf gf k) (k' : Nat) : Mv w (w.setCell ⟨C, 1, none⟩ (.int .i64 k')) C g o c old pf gf k' := by
  refine ⟨⟨?_⟩, ?_⟩
  · simp [World.setCell, Array.getElem?_modify, h.box]
  · exact ⟨rfl, rfl, rfl, by simp [World.setCell], fun k _ hk => Below.heap_setCell w ⟨C, 1, none⟩ _ k hk⟩
theorem Mv.trans {w w1 w2 : World} {C g o c pf gf k k' : Nat} {old : Bool} (h : Mv w w1 C g o c old pf gf k) (h2 : Mv w1 w2 C g o c old pf gf k') : Mv w w2 C g o c old pf gf k' := ⟨h2.1, h.2.trans h2.2⟩
theorem Mv.redraw {w w1 : World} {C g o c pf gf k : Nat} {old : Bool} (h : Mv w.drew w1 C g o c old pf gf k) : Mv w w1 C g o c old pf gf k := ⟨h.1, (Fr.of_below (Below.refl _ _).drew).trans h.2⟩

theorem Mv.drewN {w w1 : World} {C g o c pf gf k : Nat} {old : Bool} (h : Mv w w1 C g o c old pf gf k) (q : Nat) : Mv w (w1.drewN q) C g o c old pf gf k := ⟨⟨h.1.box⟩, h.2.trans (Fr.of_below ⟨rfl, rfl, rfl, Nat.le_refl _, fun _ _ => rfl⟩)⟩
theorem BytesAt.fr {w w' : World} {A B C : Nat} {a : Option Addr} {n c : Nat} {bs : List Int} (h : BytesAt w A B a n c bs) (hf : Fr (fun x => x = C) w w') (hB : B ≤ C) (hs : B ≤ w.heap.size) : BytesAt w' A B a n c bs :=
  h.keep fun k k1 k2 => hf.block k (by omega) (by omega)
/-- What is left of 128 bytes at k, at most n. -/
def cutL (bs : List Int) (k n : Nat) : List Int := (bs.drop k).take (min (k + n) 128 - k)
theorem cutL_len {bs : List Int} (h : bs.length = 128) (k n : Nat) : (cutL bs k n).length = min (k + n) 128 - k := by simp [cutL, h]; omega
theorem bytesAt_none {w : World} {A B : Nat} (a : Addr) (c : Nat) (hc : c ≤ maxLen) : BytesAt w A B (some a) 0 c [] :=
  ⟨rfl, Nat.zero_le _, hc, (by intro x hx; cases hx), fun h => absurd h (Nat.lt_irrefl _), (by intro h; cases h)⟩
set_option maxHeartbeats 800000 in
theorem take_any (C g o c pf gf k : Nat) (old : Bool) (n : Nat) (hn : n ≤ 255) (hk : k ≤ 128) (bs : List Int) (A B : Nat) (hBC : B ≤ C) (w : World) (hBs : B ≤ w.heap.size) (hB : BytesAt w A B (some ⟨g, o, none⟩) 128 c bs) (h : RCur w C g o c old pf gf k) :
    Calls Tryz.prog 79 #[.pointer (some ⟨C, 0, none⟩), .int .i64 n] w fun e w' => ∃ a' c', e = .returned (.slice a' (min (k + n) 128 - k) c') ∧ BytesAt w' A B a' (min (k + n) 128 - k) c' (cutL bs k n) ∧ Mv w w' C g o c old pf gf (min (k + n) 128) := by
  have hc : 128 ≤ c := hB.2.1
  have hcm : c ≤ maxLen := hB.2.2.1
  obtain ⟨c0, c1, c2, c3, c4⟩ := h.cells
  have hf : ∀ j, w.frozen? ⟨C, j, none⟩ = false := by intro j; simp [World.frozen?, h.box]
  have hcm2 := hcm
  unfold maxLen at hcm
  have hlB : bs.length = 128 := hB.1
  by_cases hlt : k + n ≤ 128
  · have hmn : min (k + n) 128 = k + n := by omega
    have HC : Hid (BytesAt w A B (some ⟨g, o + k, none⟩) (k + n - k) (c - k) (cutL bs k n)) := by
      have := bytesAt_sub hB k n hlt (by omega)
      show BytesAt _ _ _ _ _ _ _
      rw [cutL, hmn, Nat.add_sub_cancel_left]; exact this
    have HZ : Hid (n = 0 → BytesAt w A B (some ⟨g, o, none⟩) (k + n - k) 0 (cutL bs k n)) := by
      intro h0; subst h0
      have e : cutL bs k 0 = [] := by rw [cutL, hmn]; simp
      rw [e, Nat.add_sub_cancel_left]; exact bytesAt_none _ 0 (Nat.zero_le _)
    have HM : Hid (Mv w (w.setCell ⟨C, 1, none⟩ (.int .i64 ((k + n : Nat) : Int))) C g o c old pf gf (k + n)) := Mv.of_set h (k + n)
    rw [hmn]
    have hgt : ¬ (128 : Int) < (k : Int) + (n : Int) := by omega
    have HM' : Hid (Mv w (w.setCell ⟨C, 1, none⟩ (.int .i64 ((k : Int) + (n : Int)))) C g o c old pf gf (k + n)) := by
      have e : ((k : Int) + (n : Int)) = ((k + n : Nat) : Int) := by omega
      rw [e]; exact HM
    have HR : Hid (∀ q a' c', BytesAt w A B a' (k + n - k) c' (cutL bs k n) → BytesAt ((w.setCell ⟨C, 1, none⟩ (.int .i64 ((k : Int) + (n : Int)))).drewN q) A B a' (k + n - k) c' (cutL bs k n)) := fun q a' c' hb => hb.fr (HM'.out.drewN q).2 hBC hBs
    clear HM hB
    by_cases hck : c = k
    · go_enter Tryz.func79, Tryz.ntmps79
      go_wp2
      obtain ⟨d0, d1, d2, d3, d4⟩ := HM'.out.1.cells
      generalize w.setCell ⟨C, 1, none⟩ (.int .i64 ((k : Int) + (n : Int))) = w1 at HM' HR d0 d1 d2 d3 d4 ⊢
      clear c0 c1 c2 c3 c4 hf
      go_quiet (fail)
      go_wp2
      go_ret
      exact ⟨_, _, rfl, HR.out _ _ _ (HZ.out (by omega)), HM'.out.drewN _⟩
    · go_enter Tryz.func79, Tryz.ntmps79
      go_wp2
      obtain ⟨d0, d1, d2, d3, d4⟩ := HM'.out.1.cells
      generalize w.setCell ⟨C, 1, none⟩ (.int .i64 ((k : Int) + (n : Int))) = w1 at HM' HR d0 d1 d2 d3 d4 ⊢
      clear c0 c1 c2 c3 c4 hf
      go_quiet (fail)
      go_wp2
      go_ret
      exact ⟨_, _, rfl, HR.out _ _ _ HC.out, HM'.out.drewN _⟩
  · have hmn : min (k + n) 128 = 128 := by omega
    have HC : Hid (BytesAt w A B (some ⟨g, o + k, none⟩) (128 - k) (c - k) (cutL bs k n)) := by
      have := bytesAt_sub hB k (128 - k) (by omega) (by omega)
      show BytesAt _ _ _ _ _ _ _
      rw [cutL, hmn]; exact this
    have HZ : Hid (128 - k = 0 → BytesAt w A B (some ⟨g, o, none⟩) (128 - k) 0 (cutL bs k n)) := by
      intro h0
      have e : cutL bs k n = [] := by rw [cutL, hmn, h0]; simp
      rw [e, h0]; exact bytesAt_none _ 0 (Nat.zero_le _)
    have HM : Hid (Mv w (w.setCell ⟨C, 1, none⟩ (.int .i64 128)) C g o c old pf gf 128) := Mv.of_set h 128
    have HR : Hid (∀ q a' c', BytesAt w A B a' (128 - k) c' (cutL bs k n) → BytesAt ((w.setCell ⟨C, 1, none⟩ (.int .i64 128)).drewN q) A B a' (128 - k) c' (cutL bs k n)) := fun q a' c' hb => hb.fr (HM.out.drewN q).2 hBC hBs
    rw [hmn]
    have hgt : (128 : Int) < (k : Int) + (n : Int) := by omega
    clear hB
    by_cases hck : c = k
    · go_enter Tryz.func79, Tryz.ntmps79
      go_wp2
      obtain ⟨d0, d1, d2, d3, d4⟩ := HM.out.1.cells
      generalize w.setCell ⟨C, 1, none⟩ (.int .i64 128) = w1 at HM HR d0 d1 d2 d3 d4 ⊢
      clear c0 c1 c2 c3 c4 hf
      go_quiet (fail)
      go_wp2
      go_ret
      exact ⟨_, _, rfl, HR.out _ _ _ (HZ.out (by omega)), HM.out.drewN _⟩
    · go_enter Tryz.func79, Tryz.ntmps79
      go_wp2
      obtain ⟨d0, d1, d2, d3, d4⟩ := HM.out.1.cells
      generalize w.setCell ⟨C, 1, none⟩ (.int .i64 128) = w1 at HM HR d0 d1 d2 d3 d4 ⊢
      clear c0 c1 c2 c3 c4 hf
      go_quiet (fail)
      go_wp2
      go_ret
      exact ⟨_, _, rfl, HR.out _ _ _ HC.out, HM.out.drewN _⟩
end Go.Proofs.YtjbifddhbcfdcaaGreat
namespace Go.Proofs.YtjbifddhbcfdcaaGreat
open Go.RowKit
set_option linter.unusedVariables false
set_option maxRecDepth 100000

/-- The number that bytes are, the lowest first. -/
def leN : List Int → Int
  | [] => 0
  | b :: r => b + 256 * leN r
def numOf (high : Bool) (bs : List Int) : Int := if high then leN bs.reverse else leN bs
theorem leN_snoc : ∀ (l : List Int) (x : Int), leN (l ++ [x]) = leN l + 256 ^ l.length * x
  | [], x => by simp [leN]
  | b :: r, x => by
    rw [List.cons_append, leN, leN_snoc r x, leN, List.length_cons, Int.pow_succ]
    rw [Int.mul_add, ← Int.mul_assoc, Int.mul_comm (256 ^ r.length) 256, Int.add_assoc]
theorem leN_range : ∀ (l : List Int), (∀ x ∈ l, 0 ≤ x ∧ x ≤ 255) → 0 ≤ leN l ∧ leN l < 256 ^ l.length
  | [], _ => by simp [leN]
  | b :: r, h => by
    have h1 := h b (List.mem_cons_self ..)
    have h2 := leN_range r (fun x hx => h x (List.mem_cons_of_mem _ hx))
    rw [leN, List.length_cons, Int.pow_succ]
    omega
theorem numOf_range (high : Bool) {l : List Int} (h : ∀ x ∈ l, 0 ≤ x ∧ x ≤ 255) : 0 ≤ numOf high l ∧ numOf high l < 256 ^ l.length := by
  cases high
  · exact leN_range l h
  · have := leN_range l.reverse (fun x hx => h x (List.mem_reverse.1 hx))
    simpa [numOf] using this
theorem leN_leB : ∀ n x, 0 ≤ x → x < 256 ^ n → leN (leB n x) = x
  | 0, x, h0, h1 => by simp at h1; simp [leB, leN]; omega
  | n + 1, x, h0, h1 => by
    rw [Int.pow_succ] at h1
    rw [leB, leN, leN_leB n (x / 256) (by omega) (by omega)]
    omega
theorem numOf_numB (high : Bool) (n : Nat) (x : Int) (h0 : 0 ≤ x) (h1 : x < 256 ^ n) : numOf high (numB high n x) = x := by
  cases high
  · exact leN_leB n x h0 h1
  · simp [numOf, numB, beB, leN_leB n x h0 h1]
theorem or_comm64 (a b : Int) : bits .or .i64 a b = bits .or .i64 b a := by
  show IntKind.i64.wrap ((BitVec.ofInt 64 a ||| BitVec.ofInt 64 b).toNat : Int) = IntKind.i64.wrap ((BitVec.ofInt 64 b ||| BitVec.ofInt 64 a).toNat : Int)
  rw [BitVec.or_comm]
theorem wrap62 : ∀ n : Int, 0 ≤ n → n < 2 ^ 62 → IntKind.i64.wrap n = n := by
  intro n h0 h1
  rw [IntKind.wrap_i64]
  have : (2 : Int) ^ 62 = 4611686018427387904 := by decide
  omega
theorem or_join (i : Nat) (x y : Int) (hx0 : 0 ≤ x) (hx : x % 2 ^ i = 0) (hx1 : x < 4611686018427387904) (hy0 : 0 ≤ y) (hy : y < 2 ^ i) (hy1 : y < 4611686018427387904) : bits .or .i64 x y = x + y :=
  bits_join .i64 62 (by decide) wrap62 i x y hx0 hx (by have : (2 : Int) ^ 62 = 4611686018427387904 := by decide
                                                        omega) hy0 hy (by have : (2 : Int) ^ 62 = 4611686018427387904 := by decide
                                                                          omega)
theorem or_low0 {y x : Int} (hy : 0 ≤ y ∧ y < 256 ^ 0) (hx : 0 ≤ x ∧ x ≤ 255) : bits .or .i64 y x = y + 256 ^ 0 * x := by
  simp at hy
  obtain rfl : y = 0 := by omega
  rw [or_comm64, or_join 0 x 0 (by omega) (by simp) (by omega) (by omega) (by simp) (by omega)]
  simp
theorem or_low1 {y x : Int} (hy : 0 ≤ y ∧ y < 256 ^ 1) (hx : 0 ≤ x ∧ x ≤ 255) : bits .or .i64 y (x * 256) = y + 256 ^ 1 * x := by
  have h1 : (256 : Int) ^ 1 = 256 := by decide
  have h2 : (2 : Int) ^ 8 = 256 := by decide
  rw [h1] at hy
  rw [or_comm64, or_join 8 (x * 256) y (by omega) (by omega) (by omega) (by omega) (by omega) (by omega)]
  omega
theorem or_low2 {y x : Int} (hy : 0 ≤ y ∧ y < 256 ^ 2) (hx : 0 ≤ x ∧ x ≤ 255) : bits .or .i64 y (x * 65536) = y + 256 ^ 2 * x := by
  have h1 : (256 : Int) ^ 2 = 65536 := by decide
  have h2 : (2 : Int) ^ 16 = 65536 := by decide
  rw [h1] at hy
  rw [or_comm64, or_join 16 (x * 65536) y (by omega) (by omega) (by omega) (by omega) (by omega) (by omega)]
  omega
theorem or_low3 {y x : Int} (hy : 0 ≤ y ∧ y < 256 ^ 3) (hx : 0 ≤ x ∧ x ≤ 255) : bits .or .i64 y (x * 16777216) = y + 256 ^ 3 * x := by
  have h1 : (256 : Int) ^ 3 = 16777216 := by decide
  have h2 : (2 : Int) ^ 24 = 16777216 := by decide
  rw [h1] at hy
  rw [or_comm64, or_join 24 (x * 16777216) y (by omega) (by omega) (by omega) (by omega) (by omega) (by omega)]
  omega
theorem or_high {y x : Int} (hy : 0 ≤ y ∧ y < 16777216) (hx : 0 ≤ x ∧ x ≤ 255) : bits .or .i64 (y * 256) x = 256 * y + x := by
  have h2 : (2 : Int) ^ 8 = 256 := by decide
  rw [or_join 8 (y * 256) x (by omega) (by omega) (by omega) (by omega) (by omega) (by omega)]
  omega
set_option maxHeartbeats 800000 in
theorem getLow_any (C g o c pf gf k : Nat) (old : Bool) (n : Nat) (hn : n ≤ 4) (hk : k ≤ 128) (bs : List Int) (A B : Nat) (hBC : B ≤ C) (w : World) (hBs : B ≤ w.heap.size) (hB : BytesAt w A B (some ⟨g, o, none⟩) 128 c bs) (h : RCur w C g o c old pf gf k) :
    Calls Tryz.prog 70 #[.pointer (some ⟨C, 0, none⟩), .int .i64 n] w fun e w' => e = .returned (.int .i64 (numOf false (cutL bs k n))) ∧ Mv w w' C g o c old pf gf (min (k + n) 128) := by
  have hl := cutL_len hB.1 k n
  go_enter Tryz.func70, Tryz.ntmps70
  go_wp2_with fail
  refine (take_any C g o c pf gf k old n (by omega) hk bs A B hBC w hBs hB h).mono ?_
  rintro e w1 ⟨a1, c1, rfl, hB1, hM1⟩
  have hl4 : min (k + n) 128 - k ≤ 4 := by omega
  generalize hk' : min (k + n) 128 = k' at hB1 hM1 hl hl4 ⊢
  have HK : Hid (min (k + n) 128 = k') := hk'
  generalize k' - k = m at hB1 hl hl4 ⊢
  generalize hq : cutL bs k n = l at hB1 hl ⊢
  have HQ : Hid (cutL bs k n = l) := hq
  clear hk' hq
  have hby := hB1.2.2.2.1
  have HM1 : Hid (Mv w w1 C g o c old pf gf k') := hM1
  have HL : Hid (l.length = m) := hl
  clear hM1 hl hB h
  go_wp2_with fail
  go_loopw [5, 12] (fun x i wr => ∃ j : Nat, j ≤ m ∧ i = .int .i64 j ∧ wr = w1 ∧ x = .int .i64 (leN (l.take j))) (fun _ i _ => m - (intOf i).toNat)
  case atStart => exact ⟨0, by omega, rfl, rfl, rfl⟩
  case round =>
    obtain ⟨j, hj, rfl, rfl, rfl⟩ := hrel
    by_cases hlt : j < m
    · obtain ⟨b, off, rfl, hb, hcb⟩ := hB1.2.2.2.2.1 (by omega)
      have e1 := hcb j hlt
      have hx := getD_byteB hby j
      have hr := leN_range (l.take j) (fun x hx => hby x (List.mem_of_mem_take hx))
      have hlj : (l.take j).length = j := by have := HL.out; simp; omega
      rw [hlj] at hr
      have HS : Hid (leN (l.take (j + 1)) = leN (l.take j) + 256 ^ j * l.getD j 0) := by
        show _ = _
        have hll := HL.out
        rw [List.take_add_one, show l[j]?.toList = [l.getD j 0] by simp [List.getD, show j < l.length by omega], leN_snoc, hlj]
      generalize l.getD j 0 = x at e1 hx HS
      generalize leN (l.take j) = y at hr HS ⊢
      clear hB1 hcb hlj
      have h4 : j = 0 ∨ j = 1 ∨ j = 2 ∨ j = 3 := by omega
      rcases h4 with rfl | rfl | rfl | rfl
      · simp only [Nat.add_zero] at e1
        go_wp2
        go_roundw
        case rel => exact ⟨1, by omega, rfl, trivial, by rw [HS.out, or_low0 hr hx]⟩
        case measure => simp [intOf]; omega
      · go_wp2
        go_roundw
        case rel => exact ⟨2, by omega, rfl, trivial, by rw [HS.out, or_low1 hr hx]⟩
        case measure => simp [intOf]; omega
      · go_wp2
        go_roundw
        case rel => exact ⟨3, by omega, rfl, trivial, by rw [HS.out, or_low2 hr hx]⟩
        case measure => simp [intOf]; omega
      · go_wp2
        go_roundw
        case rel => exact ⟨4, by omega, rfl, trivial, by rw [HS.out, or_low3 hr hx]⟩
        case measure => simp [intOf]; omega
    · go_wp2
      go_ret
      obtain rfl : j = m := by omega
      rw [List.take_of_length_le (by have := HL.out; omega)]
      rw [HQ.out, HK.out]
      exact ⟨rfl, HM1.out⟩
theorem beN_take {l : List Int} {j : Nat} (h : j < l.length) : numOf true (l.take (j + 1)) = 256 * numOf true (l.take j) + l.getD j 0 := by
  rw [List.take_add_one, show l[j]?.toList = [l.getD j 0] by simp [List.getD, h]]
  simp only [numOf, if_true, List.reverse_append, List.reverse_cons, List.reverse_nil, List.nil_append, List.singleton_append, leN]
  omega
end Go.Proofs.YtjbifddhbcfdcaaGreat
namespace Go.Proofs.YtjbifddhbcfdcaaGreat
namespace New
open Go.RowKit
set_option linter.unusedVariables false
set_option maxRecDepth 100000

def rN (bs : List Int) (k n : Nat) : Int := numOf false (cutL bs k n)
def tLen (bs : List Int) (k : Nat) : Nat := (rN bs k 1).toNat
def adv (k n : Nat) : Nat := min (k + n) 128
def tStr (bs : List Int) (k : Nat) : ByteArray := toB (cutL bs (adv k 1) (tLen bs k))
def tEnd (bs : List Int) (k : Nat) : Nat := adv (adv k 1) (tLen bs k)
def kEnd (bs : List Int) (k : Nat) : Nat := if false = true then adv (tEnd bs k) (8 - (tStr bs k).size) else tEnd bs k
/-- A cursor of this format at k, over bytes that lie below it. -/
structure RAt (w : World) (C g o c A B : Nat) (bs : List Int) (k : Nat) : Prop where
  cur : RCur w C g o c false 69 70 k
  byt : BytesAt w A B (some ⟨g, o, none⟩) 128 c bs
  low : B ≤ C
  top : B ≤ w.heap.size
  pos : k ≤ 128
theorem RAt.mv {w w' : World} {C g o c A B : Nat} {bs : List Int} {k k' : Nat} (h : RAt w C g o c A B bs k) (hm : Mv w w' C g o c false 69 70 k') (hk : k' ≤ 128) : RAt w' C g o c A B bs k' :=
  ⟨hm.1, h.byt.fr hm.2 h.low h.top, h.low, Nat.le_trans h.top hm.2.size, hk⟩
theorem RAt.drew {w : World} {C g o c A B : Nat} {bs : List Int} {k : Nat} (h : RAt w C g o c A B bs k) : RAt w.drew C g o c A B bs k := ⟨h.cur.drew, h.byt, h.low, h.top, h.pos⟩
theorem adv_le (k n : Nat) : adv k n ≤ 128 := by unfold adv; omega
theorem rN_range {w : World} {C g o c A B : Nat} {bs : List Int} {k : Nat} (h : RAt w C g o c A B bs k) (j n : Nat) : 0 ≤ rN bs j n ∧ rN bs j n < 256 ^ (min (j + n) 128 - j) := by
  have := numOf_range false (l := cutL bs j n) (fun x hx => h.byt.2.2.2.1 x (List.mem_of_mem_drop (List.mem_of_mem_take hx)))
  rw [cutL_len h.byt.1] at this
  exact this
theorem rN_small {w : World} {C g o c A B : Nat} {bs : List Int} {k : Nat} (h : RAt w C g o c A B bs k) (j n : Nat) (hn : n ≤ 4) : 0 ≤ rN bs j n ∧ rN bs j n < 4294967296 := by
  have h1 := rN_range h j n
  refine ⟨h1.1, Int.lt_of_lt_of_le h1.2 ?_⟩
  have h4 : min (j + n) 128 - j ≤ 4 := by omega
  generalize min (j + n) 128 - j = m at h4
  have h5 : m = 0 ∨ m = 1 ∨ m = 2 ∨ m = 3 ∨ m = 4 := by omega
  rcases h5 with rfl | rfl | rfl | rfl | rfl <;> decide
theorem rN_one {w : World} {C g o c A B : Nat} {bs : List Int} {k : Nat} (h : RAt w C g o c A B bs k) (j : Nat) : 0 ≤ rN bs j 1 ∧ rN bs j 1 ≤ 255 := by
  have h1 := rN_range h j 1
  refine ⟨h1.1, ?_⟩
  have h4 : min (j + 1) 128 - j ≤ 1 := by omega
  generalize min (j + 1) 128 - j = m at h4 h1
  have h5 : m = 0 ∨ m = 1 := by omega
  rcases h5 with rfl | rfl <;> simp at h1 <;> omega
theorem tLen_le {w : World} {C g o c A B : Nat} {bs : List Int} {k : Nat} (h : RAt w C g o c A B bs k) (j : Nat) : tLen bs j ≤ 255 := by
  have := rN_one h j
  unfold tLen
  omega
theorem tStr_size {w : World} {C g o c A B : Nat} {bs : List Int} {k : Nat} (h : RAt w C g o c A B bs k) (j : Nat) : (tStr bs j).size ≤ 255 := by
  have h1 := tLen_le h j
  rw [tStr, toB_size, cutL_len h.byt.1]
  omega
theorem Get (C g o c A B : Nat) (bs : List Int) (k n : Nat) (hn : n ≤ 4) (w : World) (h : RAt w C g o c A B bs k) :
    Calls Tryz.prog 70 #[.pointer (some ⟨C, 0, none⟩), .int .i64 n] w fun e w' => e = .returned (.int .i64 (rN bs k n)) ∧ Mv w w' C g o c false 69 70 (adv k n) :=
  getLow_any C g o c _ _ k false n hn h.pos bs A B h.low w h.top h.byt h.cur
theorem smallWidthR (C g o c A B : Nat) (bs : List Int) (k : Nat) (w : World) (h : RAt w C g o c A B bs k) :
    Calls Tryz.prog 109 #[.pointer (some ⟨C, 0, none⟩)] w fun e w' => e = .returned (.int .i64 (smallN false)) ∧ w' = w := by
  obtain ⟨c0, c1, c2, c3, c4⟩ := h.cur.cells
  go_enter Tryz.func109, Tryz.ntmps109
  go_wp2
  go_ret
  exact ⟨rfl, rfl⟩
set_option maxHeartbeats 800000 in
theorem getSmall_any (C g o c A B : Nat) (bs : List Int) (k : Nat) (w : World) (h : RAt w C g o c A B bs k) :
    Calls Tryz.prog 106 #[.pointer (some ⟨C, 0, none⟩)] w fun e w' => e = .returned (.int .i64 (rN bs k (smallN false))) ∧ Mv w w' C g o c false 69 70 (adv k (smallN false)) := by
  obtain ⟨c0, c1, c2, c3, c4⟩ := h.cur.cells
  go_enter Tryz.func106, Tryz.ntmps106
  go_wp2_with fail
  go_region_held3 (fun w' => w'.cell? ⟨C, 4, none⟩ = some (.func (.func 70) #[.pointer (some ⟨C, 0, none⟩)] #[])) (go_keep)
    (first
      | (go_at_call 109; refine (smallWidthR C g o c A B bs k w.drew h.drew).mono ?_; rintro e w1 ⟨rfl, rfl⟩)
      | (go_at_call 70; refine (Get C g o c A B bs k (smallN false) (by decide) w.drew h.drew).mono ?_; rintro e w2 ⟨rfl, hM⟩; obtain ⟨_, _, _, _, q4⟩ := hM.1.cells))
  all_goals
    go_wp2
    go_ret
    exact ⟨rfl, hM.redraw⟩
set_option maxHeartbeats 800000 in
theorem getText_any (C g o c A B : Nat) (bs : List Int) (k : Nat) (w : World) (h : RAt w C g o c A B bs k) :
    Calls Tryz.prog 115 #[.pointer (some ⟨C, 0, none⟩)] w fun e w' => e = .returned (.string (tStr bs k)) ∧ Mv w w' C g o c false 69 70 (tEnd bs k) := by
  obtain ⟨c0, c1, c2, c3, c4⟩ := h.cur.cells
  have hone := rN_one h k
  have hw64 : IntKind.i64.wrap (rN bs k 1) = rN bs k 1 := by rw [IntKind.wrap_i64]; omega
  have HT : Hid (tStr bs k = toB (cutL bs (adv k 1) (rN bs k 1).toNat)) := rfl
  have HE : Hid (tEnd bs k = adv (adv k 1) (rN bs k 1).toNat) := rfl
  have HA := rN_one h k
  go_enter Tryz.func115, Tryz.ntmps115
  go_wp2_with fail
  refine (Get C g o c A B bs k 1 (by omega) w h).mono ?_
  rintro e w1 ⟨rfl, hM1⟩
  have h1 := h.mv hM1 (adv_le _ _)
  obtain ⟨d0, d1, d2, d3, d4⟩ := h1.cur.cells
  generalize hx : rN bs k 1 = x at hone hw64 HT HE ⊢
  obtain ⟨n, rfl⟩ : ∃ n : Nat, x = (n : Int) := ⟨x.toNat, by omega⟩
  simp only [Int.toNat_natCast] at HT HE
  clear hx c0 c1 c2 c3 c4 HA
  go_wp2_with fail
  refine (take_any C g o c _ _ (adv k 1) false n (by omega) h1.pos bs A B h1.low w1 h1.top h1.byt h1.cur).mono ?_
  rintro e w2 ⟨a2, c2, rfl, hB2, hM2⟩
  have hcv := str_conv hB2
  go_wp2
  go_ret
  rw [HT.out, HE.out]
  exact ⟨rfl, hM1.trans hM2⟩
set_option maxHeartbeats 800000 in
theorem getKey_any (C g o c A B : Nat) (bs : List Int) (k : Nat) (w : World) (h : RAt w C g o c A B bs k) :
    Calls Tryz.prog 99 #[.pointer (some ⟨C, 0, none⟩)] w fun e w' => e = .returned (.string (tStr bs k)) ∧ Mv w w' C g o c false 69 70 (kEnd bs k) := by
  have hsz := tStr_size h k
  go_enter Tryz.func99, Tryz.ntmps99
  go_wp2_with fail
  refine (getText_any C g o c A B bs k w h).mono ?_
  rintro e w1 ⟨rfl, hM1⟩
  have h1 := h.mv hM1 (adv_le _ _)
  obtain ⟨d0, d1, d2, d3, d4⟩ := h1.cur.cells
  have HK : Hid (kEnd bs k = if false = true then adv (tEnd bs k) (8 - (tStr bs k).size) else tEnd bs k) := rfl
  have HM : Hid (Mv w w1 C g o c false 69 70 (tEnd bs k)) := hM1
  clear hM1
  generalize tEnd bs k = te at h1 d1 HK HM ⊢
  generalize hts : tStr bs k = ts at hsz HK ⊢
  have HS : Hid (tStr bs k = ts) := hts
  clear hts
  by_cases h8 : ts.size ≤ 8
  · have e : (8 : Int) - (ts.size : Int) = ((8 - ts.size : Nat) : Int) := by omega
    go_wp2_with fail
    first
      | (go_ret; rw [HK.out, HS.out, if_neg (by decide)]; exact ⟨rfl, HM.out⟩)
      | (try rw [e]
         refine (take_any C g o c _ _ te false (8 - ts.size) (by omega) h1.pos bs A B h1.low w1 h1.top h1.byt h1.cur).mono ?_
         rintro e w2 ⟨a2, c2, rfl, hB2, hM2⟩
         go_wp2
         go_ret
         rw [HK.out, HS.out, if_pos (by decide)]
         exact ⟨rfl, HM.out.trans hM2⟩)
  · have e : 8 - ts.size = 0 := by omega
    have hneg : (8 : Int) - (ts.size : Int) < 0 := by omega
    go_wp2_with fail
    first
      | (go_ret; rw [HK.out, HS.out, if_neg (by decide)]; exact ⟨rfl, HM.out⟩)
      | (refine (take_any C g o c _ _ te false 0 (by omega) h1.pos bs A B h1.low w1 h1.top h1.byt h1.cur).mono ?_
         rintro e' w2 ⟨a2, c2, rfl, hB2, hM2⟩
         go_wp2
         go_ret
         rw [HK.out, HS.out, if_pos (by decide), e]
         exact ⟨rfl, HM.out.trans hM2⟩)
end New
end Go.Proofs.YtjbifddhbcfdcaaGreat
namespace Go.Proofs.YtjbifddhbcfdcaaGreat
namespace New
open Go.RowKit
set_option linter.unusedVariables false
set_option maxRecDepth 100000

theorem Fr.weaken {S T : Nat → Prop} {a b : World} (h : Fr S a b) (hst : ∀ x, S x → T x) : Fr T a b := ⟨h.1, h.2, h.3, h.4, fun k hk hT => h.block k hk (fun hs => hT (hst k hs))⟩
theorem box_frozen {w : World} {M t : Nat} {cs : Array Value} (h : w.heap[M]? = some (.cells cs t)) (j : Nat) : w.frozen? ⟨M, j, none⟩ = false := by simp [World.frozen?, h]
theorem box_two2 {w : World} {N : Nat} {v0 v1 : Value} {t : TypeId} (h : w.heap[N]? = some (.cells #[v0, v1] t)) : w.cell? ⟨N, 0, none⟩ = some v0 ∧ w.cell? ⟨N, 1, none⟩ = some v1 := by
  simp [World.cell?, h]
/-- The cursor went on to k', block M holds the box; nothing else that was there is written. -/
structure Rd (w w' : World) (C g o c A B : Nat) (bs : List Int) (k : Nat) (M : Nat) (box : Obj) : Prop where
  at' : RAt w' C g o c A B bs k
  box : w'.heap[M]? = some box
  fr : Fr (fun x => x = C ∨ x = M) w w'
theorem Rd.start {w : World} {C g o c A B : Nat} {bs : List Int} {k M : Nat} {box : Obj} (h : RAt w C g o c A B bs k) (hM : w.heap[M]? = some box) : Rd w w C g o c A B bs k M box := ⟨h, hM, Fr.refl _ _⟩
theorem Rd.mv {w w1 w2 : World} {C g o c A B : Nat} {bs : List Int} {k k' M : Nat} {box : Obj} (h : Rd w w1 C g o c A B bs k M box) (hMC : M ≠ C) (hm : Mv w1 w2 C g o c false 69 70 k') (hk : k' ≤ 128) : Rd w w2 C g o c A B bs k' M box :=
  ⟨h.at'.mv hm hk, (hm.2.block M (Array.getElem?_eq_some_iff.1 h.box).1 hMC).trans h.box, h.fr.trans (Fr.weaken hm.2 fun x hx => .inl hx)⟩
theorem Rd.drew {w w1 : World} {C g o c A B : Nat} {bs : List Int} {k M : Nat} {box : Obj} (h : Rd w w1 C g o c A B bs k M box) : Rd w w1.drew C g o c A B bs k M box := ⟨h.at'.drew, h.box, h.fr.trans (Fr.of_below (Below.refl _ _).drew)⟩
theorem Rd.redraw {w w1 : World} {C g o c A B : Nat} {bs : List Int} {k M : Nat} {box : Obj} (h : Rd w.drew w1 C g o c A B bs k M box) : Rd w w1 C g o c A B bs k M box := ⟨h.at', h.box, (Fr.of_below (Below.refl _ _).drew).trans h.fr⟩
theorem Rd.drewN {w w1 : World} {C g o c A B : Nat} {bs : List Int} {k M : Nat} {box : Obj} (h : Rd w w1 C g o c A B bs k M box) (q : Nat) : Rd w (w1.drewN q) C g o c A B bs k M box := ⟨⟨⟨h.at'.cur.box⟩, h.at'.byt, h.at'.low, h.at'.top, h.at'.pos⟩, h.box, h.fr.trans (Fr.of_below ⟨rfl, rfl, rfl, Nat.le_refl _, fun _ _ => rfl⟩)⟩
/-- A store into the box at M. -/
theorem Rd.put {w w1 : World} {C g o c A B : Nat} {bs : List Int} {k M t : Nat} {cs : Array Value} (h : Rd w w1 C g o c A B bs k M (.cells cs t)) (hMC : M ≠ C) (hBM : B ≤ M) (i : Nat) (v : Value) : Rd w (w1.setCell ⟨M, i, none⟩ v) C g o c A B bs k M (.cells (cs.setIfInBounds i v) t) := by
  have hs : ∀ x, x ≠ M → (w1.setCell ⟨M, i, none⟩ v).heap[x]? = w1.heap[x]? := fun x hx => Below.heap_setCell w1 ⟨M, i, none⟩ v x hx
  have hz : (w1.setCell ⟨M, i, none⟩ v).heap.size = w1.heap.size := by simp [World.setCell]
  refine ⟨⟨⟨(hs C (Ne.symm hMC)).trans h.at'.cur.box⟩, h.at'.byt.keep (fun x k1 k2 => hs x (by omega)), h.at'.low, by rw [hz]; exact h.at'.top, h.at'.pos⟩, ?_, h.fr.trans ⟨rfl, rfl, rfl, by rw [hz]; exact Nat.le_refl _, fun x _ hx => hs x (fun e => hx (.inr e))⟩⟩
  simp [World.setCell, Array.getElem?_modify, h.box]

def oNext (bs : List Int) (k : Nat) : Int := rN bs k (smallN false)
def oData (bs : List Int) (k : Nat) : ByteArray := tStr bs (adv k (smallN false))
def oEnd (bs : List Int) (k : Nat) : Nat := tEnd bs (adv k (smallN false))
set_option maxHeartbeats 800000 in
theorem overRead_any (C g o c A B : Nat) (bs : List Int) (k M : Nat) (count : Int) (w : World) (h : RAt w C g o c A B bs k) (hMC : M ≠ C) (hBM : B ≤ M) (n0 : Int) (d0 : ByteArray) (hM : w.heap[M]? = some (.cells #[.int .i64 n0, .string d0] 161)) :
    Calls Tryz.prog 127 #[.pointer (some ⟨M, 0, none⟩), .pointer (some ⟨C, 0, none⟩), .int .i64 count] w fun e w' => e = .returned (.tuple #[]) ∧ Rd w w' C g o c A B bs (oEnd bs k) M (.cells #[.int .i64 (oNext bs k), .string (oData bs k)] 161) := by
  have R0 := Rd.start h hM
  go_enter Tryz.func127, Tryz.ntmps127
  go_wp2_with fail
  refine (getSmall_any C g o c A B bs k w h).mono ?_
  rintro e w1 ⟨rfl, hM1⟩
  have R1 := R0.mv hMC hM1 (adv_le _ _)
  obtain ⟨x0, x1⟩ := box_two2 R1.box
  have f1 := box_frozen R1.box
  have R2 := R1.put hMC hBM 0 (.int .i64 (rN bs k (smallN false)))
  clear R0 hM1 R1
  go_wp2_with fail
  clear x0 x1 f1
  generalize w1.setCell ⟨M, 0, none⟩ (.int .i64 (rN bs k (smallN false))) = w2 at R2 ⊢
  refine (getText_any C g o c A B bs (adv k (smallN false)) w2 R2.at').mono ?_
  rintro e w3 ⟨rfl, hM3⟩
  have R3 := R2.mv hMC hM3 (adv_le _ _)
  obtain ⟨x0, x1⟩ := box_two2 (w := w3) (N := M) (by simpa using R3.box)
  have f3 := box_frozen R3.box
  have R4 := R3.put hMC hBM 1 (.string (tStr bs (adv k (smallN false))))
  clear R2 hM3 R3
  go_wp2
  go_end0
  exact ⟨rfl, by simpa [oNext, oData, oEnd] using R4⟩
end New
end Go.Proofs.YtjbifddhbcfdcaaGreat
namespace Go.Proofs.YtjbifddhbcfdcaaGreat
namespace New
open Go.RowKit
set_option linter.unusedVariables false
set_option maxRecDepth 100000

def mId (bs : List Int) (k : Nat) : Int := rN bs (k) 4
def mRoot (bs : List Int) (k : Nat) : Int := rN bs (adv (k) 4) (smallN false)
def mCount (bs : List Int) (k : Nat) : Int := rN bs (adv (adv (k) 4) (smallN false)) 4
def mEnd (bs : List Int) (k : Nat) : Nat := adv (adv (adv (k) 4) (smallN false)) 4
set_option maxHeartbeats 800000 in
theorem metaRead_any (C g o c A B : Nat) (bs : List Int) (k M : Nat) (count : Int) (w : World) (h : RAt w C g o c A B bs k) (hMC : M ≠ C) (hBM : B ≤ M) (a0 a1 a2 : Int) (hM : w.heap[M]? = some (.cells #[.int .i64 a0, .int .i64 a1, .int .i64 a2] 152)) :
    Calls Tryz.prog 103 #[.pointer (some ⟨M, 0, none⟩), .pointer (some ⟨C, 0, none⟩), .int .i64 count] w fun e w' => e = .returned (.tuple #[]) ∧ Rd w w' C g o c A B bs (mEnd bs k) M (.cells #[.int .i64 (mId bs k), .int .i64 (mRoot bs k), .int .i64 (mCount bs k)] 152) := by
  have R0 := Rd.start h hM
  obtain ⟨c0, c1, c2, c3, c4⟩ := h.cur.cells
  obtain ⟨x0, x1, x2⟩ := box_form hM
  go_enter Tryz.func103, Tryz.ntmps103
  go_wp2_with fail
  refine (Get C g o c A B bs (k) 4 (by omega) w R0.at').mono ?_
  rintro e w1 ⟨rfl, hM1⟩
  have Q1 := R0.mv hMC hM1 (adv_le _ _)
  obtain ⟨y0, y1, y2⟩ := box_form (w := w1) (N := M) (by simpa using Q1.box)
  have f1 := box_frozen Q1.box
  have R1 := Q1.put hMC hBM 0 (.int .i64 (rN bs (k) 4))
  obtain ⟨d0, d1, d2, d3, d4⟩ := Q1.at'.cur.cells
  clear R0 hM1 Q1 c0 c1 c2 c3 c4 x0 x1 x2 h
  go_wp2_with fail
  clear y0 y1 y2 f1 d0 d1 d2 d3 d4
  generalize w1.setCell ⟨M, 0, none⟩ (.int .i64 (rN bs (k) 4)) = w2 at R1 ⊢
  refine (getSmall_any C g o c A B bs (adv (k) 4) w2 R1.at').mono ?_
  rintro e w3 ⟨rfl, hM2⟩
  have Q2 := R1.mv hMC hM2 (adv_le _ _)
  obtain ⟨y0, y1, y2⟩ := box_form (w := w3) (N := M) (by simpa using Q2.box)
  have f2 := box_frozen Q2.box
  have R2 := Q2.put hMC hBM 1 (.int .i64 (rN bs (adv (k) 4) (smallN false)))
  obtain ⟨d0, d1, d2, d3, d4⟩ := Q2.at'.cur.cells
  clear R1 hM2 Q2
  go_wp2_with fail
  clear y0 y1 y2 f2 d0 d1 d2 d3 d4
  generalize w3.setCell ⟨M, 1, none⟩ (.int .i64 (rN bs (adv (k) 4) (smallN false))) = w4 at R2 ⊢
  refine (Get C g o c A B bs (adv (adv (k) 4) (smallN false)) 4 (by omega) w4 R2.at').mono ?_
  rintro e w5 ⟨rfl, hM3⟩
  have Q3 := R2.mv hMC hM3 (adv_le _ _)
  obtain ⟨y0, y1, y2⟩ := box_form (w := w5) (N := M) (by simpa using Q3.box)
  have f3 := box_frozen Q3.box
  have R3 := Q3.put hMC hBM 2 (.int .i64 (rN bs (adv (adv (k) 4) (smallN false)) 4))
  obtain ⟨d0, d1, d2, d3, d4⟩ := Q3.at'.cur.cells
  clear R2 hM3 Q3
  go_wp2
  go_end0
  exact ⟨rfl, by simpa [mId, mRoot, mCount, mEnd] using R3⟩
end New
end Go.Proofs.YtjbifddhbcfdcaaGreat
