import Derived.Test.YtjbifddhbcfdcaaGreatIn
import Derived.Test.YtjbifddhbcfdcaaGreatPlain
import Derived.Test.YtjbifddhbcfdcaaGreatJQ
import Derived.WalkLawsBesides
namespace Go.Proofs.YtjbifddhbcfdcaaGreat
open Go.RowKit
set_option linter.unusedVariables false
set_option maxRecDepth 100000

def keyB (s : ByteArray) : Bool := decide (1 ≤ s.size) && decide (s.size ≤ 8)
set_option maxHeartbeats 400000 in
theorem l2Key_any (s : ByteArray) (hs : s.size ≤ maxLen) (w : World) :
    Calls Tryz.prog 77 #[.string s] w fun e w' => e = .returned (.bool (keyB s)) ∧ w' = w := by
  unfold maxLen at hs
  by_cases h1 : 1 ≤ s.size
  · go_enter Tryz.func77, Tryz.ntmps77
    go_wp2
    go_ret
    exact ⟨by simp [keyB, h1]; omega, rfl⟩
  · have hd : decide ((1 : Int) ≤ s.size) = false := by simp; omega
    go_enter Tryz.func77, Tryz.ntmps77
    go_wp2
    go_ret
    exact ⟨by simp [keyB, h1], rfl⟩

/-- A page as plain data. -/
structure Pg where
  kind : Int
  tx : Int
  id : Int
  root : Int
  count : Int
  ks : List PK
  es : List PE
  next : Int
  data : ByteArray
def inB (low last x : Int) : Bool := decide (low ≤ x ∧ x ≤ last)
def metaOk (low last : Int) (p : Pg) : Bool := inB 1 2000000000 p.id && inB low last p.root && inB 0 2000000000 p.count && decide (p.ks.length = 0) && decide (p.es.length = 0) && decide (p.next = 0) && p.data.toList.isEmpty

set_option maxHeartbeats 800000 in
theorem l2Body_meta (p : Pg) (hk : p.kind = 1) (ka : Option Addr) (kc : Nat) (ea : Option Addr) (ec : Nat) (hd : p.data.size ≤ maxLen) (low last : Int) (w : World) (hkl : p.ks.length ≤ maxLen) (hel : p.es.length ≤ maxLen) :
    Calls Tryz.prog 59 #[.agg #[.int .i64 p.kind, .int .i64 p.tx, .int .i64 p.id, .int .i64 p.root, .int .i64 p.count, .slice ka p.ks.length kc, .slice ea p.es.length ec, .int .i64 p.next, .string p.data], .int .i64 low, .int .i64 last] w fun e w' => e = .returned (.bool (metaOk low last p)) ∧ Below w.heap.size w w' := by
  obtain ⟨kind, tx, id, root, count, ks, es, next, data⟩ := p
  simp only at hk hd hkl hel ⊢
  subst hk
  unfold maxLen at hd hkl hel
  go_enter Tryz.func59, Tryz.ntmps59
  go_wp2_with (go_at_call 42; refine (l1In_any _ _ _ _).mono ?_; rintro e w1 ⟨rfl, rfl⟩)
  all_goals go_ret
  all_goals refine ⟨?_, (Below.refl _ _).alloc (Nat.le_refl _) _⟩
  all_goals simp [metaOk, inB, *]
def noMeta (p : Pg) : Bool := decide (p.id = 0 ∧ p.root = 0 ∧ p.count = 0)
def overOk (low last : Int) (p : Pg) : Bool := noMeta p && decide (p.ks.length = 0) && decide (p.es.length = 0) && decide (1 ≤ p.data.size) && decide (p.data.size ≤ 96) && (decide (p.next = 0) || (inB low last p.next && decide (p.data.size = 96)))
set_option maxHeartbeats 800000 in
theorem l2Body_other (p : Pg) (hk1 : p.kind ≠ 1) (hk2 : p.kind ≠ 2) (hk3 : p.kind ≠ 3) (hk4 : p.kind ≠ 4) (ka : Option Addr) (kc : Nat) (ea : Option Addr) (ec : Nat) (low last : Int) (w : World) :
    Calls Tryz.prog 59 #[.agg #[.int .i64 p.kind, .int .i64 p.tx, .int .i64 p.id, .int .i64 p.root, .int .i64 p.count, .slice ka p.ks.length kc, .slice ea p.es.length ec, .int .i64 p.next, .string p.data], .int .i64 low, .int .i64 last] w fun e w' => e = .returned (.bool false) ∧ Below w.heap.size w w' := by
  obtain ⟨kind, tx, id, root, count, ks, es, next, data⟩ := p
  simp only at hk1 hk2 hk3 hk4 ⊢
  have k1 : (kind == 1) = false := by simp; exact hk1
  have k2 : (kind == 2) = false := by simp; exact hk2
  have k3 : (kind == 3) = false := by simp; exact hk3
  have k4 : (kind == 4) = false := by simp; exact hk4
  go_enter Tryz.func59, Tryz.ntmps59
  go_wp2_with fail
  all_goals go_ret
  all_goals exact ⟨rfl, (Below.refl _ _).alloc (Nat.le_refl _) _⟩
set_option maxHeartbeats 1600000 in
theorem l2Body_over (p : Pg) (hk : p.kind = 4) (ka : Option Addr) (kc : Nat) (ea : Option Addr) (ec : Nat) (hd : p.data.size ≤ maxLen) (low last : Int) (w : World) (hkl : p.ks.length ≤ maxLen) (hel : p.es.length ≤ maxLen) :
    Calls Tryz.prog 59 #[.agg #[.int .i64 p.kind, .int .i64 p.tx, .int .i64 p.id, .int .i64 p.root, .int .i64 p.count, .slice ka p.ks.length kc, .slice ea p.es.length ec, .int .i64 p.next, .string p.data], .int .i64 low, .int .i64 last] w fun e w' => e = .returned (.bool (overOk low last p)) ∧ Below w.heap.size w w' := by
  obtain ⟨kind, tx, id, root, count, ks, es, next, data⟩ := p
  simp only at hk hd hkl hel ⊢
  subst hk
  unfold maxLen at hd hkl hel
  go_enter Tryz.func59, Tryz.ntmps59
  go_wp2_with (go_at_call 42; refine (l1In_any _ _ _ _).mono ?_; rintro e w1 ⟨rfl, rfl⟩)
  all_goals go_ret
  all_goals refine ⟨?_, (Below.refl _ _).alloc (Nat.le_refl _) _⟩
  all_goals simp [overOk, noMeta, inB, *]
  all_goals first | omega | (rw [Bool.eq_iff_iff]; simp [*]; omega)
end Go.Proofs.YtjbifddhbcfdcaaGreat
namespace Go.Proofs.YtjbifddhbcfdcaaGreat
open Go.RowKit
set_option linter.unusedVariables false
set_option maxRecDepth 100000

def kidOk (low last : Int) (ks : List PK) (i : Nat) : Bool := inB low last (ks.getD i dK).2 && !(decide (0 < i) && (!keyB (ks.getD i dK).1 || geB (ks.getD (i - 1) dK).1 (ks.getD i dK).1))
def kidsOk (low last : Int) (ks : List PK) : Bool := (List.range ks.length).all (kidOk low last ks)
def branchOk (low last : Int) (p : Pg) : Bool := noMeta p && decide (p.es.length = 0) && decide (p.next = 0) && p.data.toList.isEmpty && decide (2 ≤ p.ks.length) && decide (p.ks.length ≤ 4) && (p.ks.getD 0 dK).1.toList.isEmpty && kidsOk low last p.ks

/-- The meta of a page that is no meta page, case by case. -/
theorem meta_cases (id root count : Int) {P : Prop} (h0 : id = 0 → root = 0 → count = 0 → P) (h1 : ¬ id = 0 → P) (h2 : id = 0 → ¬ root = 0 → P) (h3 : id = 0 → root = 0 → ¬ count = 0 → P) : P := by
  by_cases a : id = 0
  · by_cases b : root = 0
    · by_cases c : count = 0
      · exact h0 a b c
      · exact h3 a b c
    · exact h2 a b
  · exact h1 a
set_option maxHeartbeats 1600000 in
theorem l2Body_branch0 (tx id root count : Int) (ka : Option Addr) (n kc : Nat) (ea : Option Addr) (m ec : Nat) (next : Int) (data : ByteArray) (low last : Int) (w : World) (hn : n ≤ maxLen) (hm : m ≤ maxLen) (hd : data.size ≤ maxLen)
    (h : ¬ id = 0 ∨ ¬ root = 0 ∨ ¬ count = 0 ∨ ¬ m = 0 ∨ ¬ next = 0 ∨ ¬ data.toList = [] ∨ n < 2 ∨ 4 < n) :
    Calls Tryz.prog 59 #[.agg #[.int .i64 2, .int .i64 tx, .int .i64 id, .int .i64 root, .int .i64 count, .slice ka n kc, .slice ea m ec, .int .i64 next, .string data], .int .i64 low, .int .i64 last] w fun e w' => e = .returned (.bool false) ∧ Below w.heap.size w w' := by
  unfold maxLen at hd hn hm
  refine meta_cases id root count ?_ ?_ ?_ ?_
  · rintro rfl rfl rfl
    by_cases h1 : m = 0
    · subst h1
      by_cases h2 : next = 0
      · subst h2
        by_cases h3 : data.toList = []
        · by_cases h4 : n < 2
          · go_enter Tryz.func59, Tryz.ntmps59
            go_wp2
            go_ret
            exact ⟨rfl, (Below.refl _ _).alloc (Nat.le_refl _) _⟩
          · have h5 : 4 < n := by simp [h3] at h; omega
            go_enter Tryz.func59, Tryz.ntmps59
            go_wp2
            go_ret
            exact ⟨rfl, (Below.refl _ _).alloc (Nat.le_refl _) _⟩
        · go_enter Tryz.func59, Tryz.ntmps59
          go_wp2
          go_ret
          exact ⟨rfl, (Below.refl _ _).alloc (Nat.le_refl _) _⟩
      · have h2' : (next != 0) = true := by simpa using h2
        go_enter Tryz.func59, Tryz.ntmps59
        go_wp2
        go_ret
        exact ⟨rfl, (Below.refl _ _).alloc (Nat.le_refl _) _⟩
    · have h1' : (0 : Int) < m := by omega
      clear h1 h
      go_enter Tryz.func59, Tryz.ntmps59
      go_wp2
      go_ret
      exact ⟨rfl, (Below.refl _ _).alloc (Nat.le_refl _) _⟩
  all_goals
    intros
    clear h
    go_enter Tryz.func59, Tryz.ntmps59
    go_wp2
    go_ret
    exact ⟨rfl, (Below.refl _ _).alloc (Nat.le_refl _) _⟩
end Go.Proofs.YtjbifddhbcfdcaaGreat
namespace Go.Proofs.YtjbifddhbcfdcaaGreat
open Go.RowKit
set_option linter.unusedVariables false
set_option maxRecDepth 100000

theorem all_range {f : Nat → Bool} {k n : Nat} (h : (List.range n).all f = true) (hk : k < n) : f k = true := by
  rw [List.all_eq_true] at h; exact h k (List.mem_range.2 hk)
theorem all_range_false {f : Nat → Bool} {k n : Nat} (hk : k < n) (h : f k = false) : (List.range n).all f = false := by
  rw [List.all_eq_false]; exact ⟨k, List.mem_range.2 hk, by simp [h]⟩
theorem all_range_succ {f : Nat → Bool} {k : Nat} (h : (List.range k).all f = true) (h2 : f k = true) : (List.range (k + 1)).all f = true := by
  rw [List.range_succ, List.all_append, h]; simp [h2]

set_option maxHeartbeats 1600000 in
theorem l2Body_branch1 (tx : Int) (ka : Option Addr) (kc : Nat) (ks : List PK) (n : Nat) (ea : Option Addr) (ec : Nat) (data : ByteArray) (low last : Int) (w : World) (A B : Nat) (hB : B ≤ w.heap.size) (hK : KidsAt w A B ka n kc ks) (hd : data.toList = []) (h2 : 2 ≤ n) (h4 : n ≤ 4) :
    Calls Tryz.prog 59 #[.agg #[.int .i64 2, .int .i64 tx, .int .i64 0, .int .i64 0, .int .i64 0, .slice ka n kc, .slice ea 0 ec, .int .i64 0, .string data], .int .i64 low, .int .i64 last] w fun e w' => e = .returned (.bool ((ks.getD 0 dK).1.toList.isEmpty && kidsOk low last ks)) ∧ Below w.heap.size w w' := by
  have hb0 : Below w.heap.size w (w.alloc (.cells #[.int .i64 2, .int .i64 tx, .int .i64 0, .int .i64 0, .int .i64 0, .slice ka n kc, .slice ea 0 ec, .int .i64 0, .string data] 54)) := (Below.refl _ _).alloc (Nat.le_refl _) _
  have hK1 := hK.below (hb0.mono hB)
  have HL : Hid (ks.length = n) := hK.1
  clear hK
  obtain ⟨b, off, rfl, hb, hfit, e0, e1⟩ := KidsAt.at hK1 (i := 0) (by omega)
  have hbs : b < w.heap.size := by omega
  have hbn : b ≠ w.heap.size := by omega
  simp only [Nat.zero_mul, Nat.add_zero] at e0 e1
  generalize hs0 : (ks.getD 0 dK).1 = s0 at e0
  have HS0 : Hid ((ks.getD 0 dK).1 = s0) := hs0
  clear hs0
  by_cases hse : s0.toList = []
  · go_enter Tryz.func59, Tryz.ntmps59
    go_wp2_with fail
    obtain ⟨W0, hW0⟩ : ∃ W0, W0 = (w.alloc (.cells #[.int .i64 2, .int .i64 tx, .int .i64 0, .int .i64 0, .int .i64 0, .slice (some ⟨b, off, none⟩) n kc, .slice ea 0 ec, .int .i64 0, .string data] 54)) := ⟨_, rfl⟩
    have x5 : W0.cell? ⟨w.heap.size, 5, none⟩ = some (.slice (some ⟨b, off, none⟩) n kc) := by rw [hW0]; simp
    have HSE : Hid (s0.toList.isEmpty = true) := by show _ = _; simp [hse]
    clear e0 e1 hse
    rw [← hW0] at hb0 hK1 ⊢
    clear hW0
    go_loopw [8] (fun i wr => ∃ k : Nat, k ≤ n ∧ i = .int .i64 k ∧ Hid ((List.range k).all (kidOk low last ks) = true) ∧ Hid (∃ q, wr = W0.drewN q)) (fun i _ => n - (intOf i).toNat)
    case atStart => exact ⟨0, Nat.zero_le _, rfl, rfl, 0, rfl⟩
    case round =>
      obtain ⟨k, hk, rfl, hok, hq⟩ := hrel
      have HD : Hid (∀ q, ∃ q', wr.drewN q = W0.drewN q') := by
        obtain ⟨q0, h0⟩ := hq.out
        intro q
        exact ⟨q0 + q, by rw [h0, World.drewN_drewN]⟩
      have hbq : ∀ q, Below w.heap.size w (wr.drewN q) := fun q => by
        obtain ⟨q', h'⟩ := HD.out q
        rw [h']
        exact hb0.trans ⟨rfl, rfl, rfl, Nat.le_refl _, fun _ _ => rfl⟩
      have hK2 : KidsAt wr A B (some ⟨b, off, none⟩) n kc ks := by
        obtain ⟨q0, h0⟩ := hq.out
        rw [h0]
        exact hK1
      have x6 : wr.cell? ⟨w.heap.size, 5, none⟩ = some (.slice (some ⟨b, off, none⟩) n kc) := by
        obtain ⟨q0, h0⟩ := hq.out
        rw [h0]
        exact x5
      clear hK1 x5 hq
      by_cases hlt : k < n
      · obtain ⟨b', off', hbo, hb', hfk, f0, f1⟩ := KidsAt.at hK2 (i := k) hlt
        simp only [Option.some.injEq, Addr.mk.injEq, and_true] at hbo
        obtain ⟨rfl, rfl⟩ := hbo
        have HKO : Hid (kidOk low last ks k = (inB low last (ks.getD k dK).2 && !(decide (0 < k) && (!keyB (ks.getD k dK).1 || geB (ks.getD (k - 1) dK).1 (ks.getD k dK).1)))) := rfl
        have hnk : n ≤ ks.length := by have := HL.out; omega
        generalize hkd : ks.getD k dK = kd at f0 f1 HKO hfk
        clear hkd
        by_cases t1 : low ≤ kd.2 ∧ kd.2 ≤ last
        · have s1 : decide (low ≤ kd.2 ∧ kd.2 ≤ last) = true := decide_eq_true t1
          by_cases t4 : 0 < k
          · obtain ⟨b'', off'', hbo, hb'', hfj, g0, g1⟩ := KidsAt.at hK2 (i := k - 1) (by omega)
            simp only [Option.some.injEq, Addr.mk.injEq, and_true] at hbo
            obtain ⟨rfl, rfl⟩ := hbo
            generalize hpd : ks.getD (k - 1) dK = pd at g0 g1 HKO
            clear hpd hK2
            obtain ⟨k1, hk1⟩ : ∃ k1, k1 = k - 1 := ⟨_, rfl⟩
            rw [← hk1] at g0
            have i2 : (k : Int) - 1 = (k1 : Int) := by omega
            have i1 : k1 < n := by omega
            have i3 : IntKind.i64.wrap (k1 : Int) = (k1 : Int) := by rw [IntKind.wrap_i64]; omega
            have s4 : decide ((0 : Int) < (k : Int)) = true := by simp; omega
            clear hk1
            by_cases t2 : keyB kd.1 = true
            · by_cases t5 : geB pd.1 kd.1 = true
              · have HB : Hid (kidsOk low last ks = false) := all_range_false (k := k) (by omega) (by rw [HKO.out]; simp [t2, t4, t5])
                have s5 : Op.bytesLess pd.1.toList kd.1.toList = false := by simpa [geB] using t5
                go_wp2_with fail
                go_quiet (first | (go_at_call 42; exact Calls.quiet_of_same (l1In_any _ _ _ _)) | (go_at_call 77; exact Calls.quiet_of_same (l2Key_any _ hfk.1 _)))
                go_wp2
                go_ret
                exact ⟨by rw [HB.out]; simp, hbq _⟩
              · have HB : Hid ((List.range (k + 1)).all (kidOk low last ks) = true) := all_range_succ hok.out (by rw [HKO.out]; simp [t1, t2, t4, t5, inB])
                have s5 : Op.bytesLess pd.1.toList kd.1.toList = true := by simpa [geB] using t5
                go_wp2_with fail
                go_quiet (first | (go_at_call 42; exact Calls.quiet_of_same (l1In_any _ _ _ _)) | (go_at_call 77; exact Calls.quiet_of_same (l2Key_any _ hfk.1 _)))
                go_wp2
                go_roundw
                case rel => exact ⟨k + 1, by omega, by go_num, HB, HD.out _⟩
                case measure => simp [intOf]; omega
            · have HB : Hid (kidsOk low last ks = false) := all_range_false (k := k) (by omega) (by rw [HKO.out]; simp [t2, t4])
              have t2' : keyB kd.1 = false := by simpa using t2
              go_wp2_with fail
              go_quiet (first | (go_at_call 42; exact Calls.quiet_of_same (l1In_any _ _ _ _)) | (go_at_call 77; exact Calls.quiet_of_same (l2Key_any _ hfk.1 _)))
              go_wp2
              go_ret
              exact ⟨by rw [HB.out]; simp, hbq _⟩
          · have HB : Hid ((List.range (k + 1)).all (kidOk low last ks) = true) := all_range_succ hok.out (by rw [HKO.out]; simp [t1, t4, inB])
            have s4 : decide ((0 : Int) < (k : Int)) = false := by simp; omega
            clear hK2
            go_wp2_with fail
            go_quiet (first | (go_at_call 42; exact Calls.quiet_of_same (l1In_any _ _ _ _)) | (go_at_call 77; exact Calls.quiet_of_same (l2Key_any _ hfk.1 _)))
            go_wp2
            go_roundw
            case rel => exact ⟨k + 1, by omega, by go_num, HB, HD.out _⟩
            case measure => simp [intOf]; omega
        · have s1 : decide (low ≤ kd.2 ∧ kd.2 ≤ last) = false := decide_eq_false t1
          have HB : Hid (kidsOk low last ks = false) := all_range_false (k := k) (by omega) (by rw [HKO.out]; simp [inB, t1])
          clear hK2
          go_wp2_with fail
          go_quiet (first | (go_at_call 42; exact Calls.quiet_of_same (l1In_any _ _ _ _)) | (go_at_call 77; exact Calls.quiet_of_same (l2Key_any _ hfk.1 _)))
          go_wp2
          go_ret
          exact ⟨by rw [HB.out]; simp, hbq _⟩
      · have HB : Hid (kidsOk low last ks = true) := by have := hok.out; rw [show k = n by omega, ← HL.out] at this; exact this
        go_wp2
        go_ret
        exact ⟨by rw [HSE.out, HB.out]; rfl, hbq 0⟩
  · have hse2 : s0.toList.isEmpty = false := by simp [hse]
    go_enter Tryz.func59, Tryz.ntmps59
    go_wp2
    go_ret
    refine ⟨?_, hb0⟩
    simp [hse]
end Go.Proofs.YtjbifddhbcfdcaaGreat
namespace Go.Proofs.YtjbifddhbcfdcaaGreat
open Go.RowKit
set_option linter.unusedVariables false
set_option maxRecDepth 100000

def shortB (e : PE) : Bool := decide (e.2.2.1 = 0) && decide (e.2.2.2 = (e.2.1.size : Int)) && decide (e.2.1.size ≤ 8)
def longB (low last : Int) (e : PE) : Bool := inB low last e.2.2.1 && e.2.1.toList.isEmpty && inB 9 400 e.2.2.2
def entOk (low last : Int) (es : List PE) (i : Nat) : Bool := keyB (es.getD i dE).1 && (shortB (es.getD i dE) || longB low last (es.getD i dE)) && !(decide (0 < i) && geB (es.getD (i - 1) dE).1 (es.getD i dE).1)
def entsOk (low last : Int) (es : List PE) : Bool := (List.range es.length).all (entOk low last es)
def leafOk (low last : Int) (p : Pg) : Bool := noMeta p && decide (p.ks.length = 0) && decide (p.next = 0) && p.data.toList.isEmpty && decide (p.es.length ≤ 4) && entsOk low last p.es

set_option maxHeartbeats 1600000 in
theorem l2Body_leaf0 (tx id root count : Int) (ka : Option Addr) (n kc : Nat) (ea : Option Addr) (m ec : Nat) (next : Int) (data : ByteArray) (low last : Int) (w : World) (hn : n ≤ maxLen) (hm : m ≤ maxLen) (hd : data.size ≤ maxLen)
    (h : ¬ id = 0 ∨ ¬ root = 0 ∨ ¬ count = 0 ∨ ¬ n = 0 ∨ ¬ next = 0 ∨ ¬ data.toList = [] ∨ 4 < m) :
    Calls Tryz.prog 59 #[.agg #[.int .i64 3, .int .i64 tx, .int .i64 id, .int .i64 root, .int .i64 count, .slice ka n kc, .slice ea m ec, .int .i64 next, .string data], .int .i64 low, .int .i64 last] w fun e w' => e = .returned (.bool false) ∧ Below w.heap.size w w' := by
  unfold maxLen at hd hn hm
  refine meta_cases id root count ?_ ?_ ?_ ?_
  · rintro rfl rfl rfl
    by_cases h1 : n = 0
    · subst h1
      by_cases h2 : next = 0
      · subst h2
        by_cases h3 : data.toList = []
        · have h5 : 4 < m := by simp [h3] at h; omega
          go_enter Tryz.func59, Tryz.ntmps59
          go_wp2
          go_ret
          exact ⟨rfl, (Below.refl _ _).alloc (Nat.le_refl _) _⟩
        · go_enter Tryz.func59, Tryz.ntmps59
          go_wp2
          go_ret
          exact ⟨rfl, (Below.refl _ _).alloc (Nat.le_refl _) _⟩
      · have h2' : (next != 0) = true := by simpa using h2
        go_enter Tryz.func59, Tryz.ntmps59
        go_wp2
        go_ret
        exact ⟨rfl, (Below.refl _ _).alloc (Nat.le_refl _) _⟩
    · have h1' : (0 : Int) < n := by omega
      clear h1 h
      go_enter Tryz.func59, Tryz.ntmps59
      go_wp2
      go_ret
      exact ⟨rfl, (Below.refl _ _).alloc (Nat.le_refl _) _⟩
  all_goals
    intros
    clear h
    go_enter Tryz.func59, Tryz.ntmps59
    go_wp2
    go_ret
    exact ⟨rfl, (Below.refl _ _).alloc (Nat.le_refl _) _⟩
end Go.Proofs.YtjbifddhbcfdcaaGreat
namespace Go.Proofs.YtjbifddhbcfdcaaGreat
open Go.RowKit
set_option linter.unusedVariables false
set_option maxRecDepth 100000

theorem box_slice {w : World} {N : Nat} {v0 v1 v2 v3 v4 v5 v6 v7 v8 : Value} {t : TypeId} (h : w.heap[N]? = some (.cells #[v0, v1, v2, v3, v4, v5, v6, v7, v8] t)) : w.cell? ⟨N, 5, none⟩ = some v5 ∧ w.cell? ⟨N, 6, none⟩ = some v6 ∧ w.cell? ⟨N, 0, none⟩ = some v0 ∧ w.cell? ⟨N, 2, none⟩ = some v2 ∧ w.cell? ⟨N, 3, none⟩ = some v3 ∧ w.cell? ⟨N, 4, none⟩ = some v4 ∧ w.cell? ⟨N, 7, none⟩ = some v7 ∧ w.cell? ⟨N, 8, none⟩ = some v8 ∧ w.cell? ⟨N, 1, none⟩ = some v1 := by
  refine ⟨?_, ?_, ?_, ?_, ?_, ?_, ?_, ?_, ?_⟩ <;> simp [World.cell?, h]
theorem below_dn2 {S : Nat} {w wr : World} {o : Obj} {q : Nat} (h : Below S w wr) (hS : S ≤ wr.heap.size) : Below S w ((wr.alloc o).drewN q) :=
  (h.alloc hS o).trans ⟨rfl, rfl, rfl, Nat.le_refl _, fun _ _ => rfl⟩

set_option maxHeartbeats 4000000 in
theorem l2Body_leaf1 (tx : Int) (ka : Option Addr) (kc : Nat) (es : List PE) (n : Nat) (ea : Option Addr) (ec : Nat) (data : ByteArray) (low last : Int) (hlow : 1 ≤ low) (w : World) (A B : Nat) (hB : B ≤ w.heap.size) (hE : EntsAt w A B ea n ec es) (hd : data.toList = []) (h4 : n ≤ 4) :
    Calls Tryz.prog 59 #[.agg #[.int .i64 3, .int .i64 tx, .int .i64 0, .int .i64 0, .int .i64 0, .slice ka 0 kc, .slice ea n ec, .int .i64 0, .string data], .int .i64 low, .int .i64 last] w fun e w' => e = .returned (.bool (entsOk low last es)) ∧ Below w.heap.size w w' := by
  have hb0 : Below w.heap.size w (w.alloc (.cells #[.int .i64 3, .int .i64 tx, .int .i64 0, .int .i64 0, .int .i64 0, .slice ka 0 kc, .slice ea n ec, .int .i64 0, .string data] 54)) := (Below.refl _ _).alloc (Nat.le_refl _) _
  have HL : Hid (es.length = n) := hE.1
  go_enter Tryz.func59, Tryz.ntmps59
  go_wp2_with fail
  go_loopw [9] (fun i wr => ∃ k : Nat, k ≤ n ∧ i = .int .i64 k ∧ Hid ((List.range k).all (entOk low last es) = true) ∧ Below w.heap.size w wr ∧ Hid (wr.heap[w.heap.size]? = some (.cells #[.int .i64 3, .int .i64 tx, .int .i64 0, .int .i64 0, .int .i64 0, .slice ka 0 kc, .slice ea n ec, .int .i64 0, .string data] 54))) (fun i _ => n - (intOf i).toNat)
  case atStart => exact ⟨0, Nat.zero_le _, rfl, rfl, hb0, heap_alloc_new w _⟩
  case round =>
    clear hb0
    obtain ⟨k, hk, rfl, hok, hbel, hbox⟩ := hrel
    have x6 := (box_slice hbox.out).2.1
    by_cases hlt : k < n
    · obtain ⟨b, off, rfl, hb, hfk, f0, f1, f2, f3⟩ := EntsAt.at (hE.below (hbel.mono hB)) (i := k) hlt
      have HEO : Hid (entOk low last es k = (keyB (es.getD k dE).1 && (shortB (es.getD k dE) || longB low last (es.getD k dE)) && !(decide (0 < k) && geB (es.getD (k - 1) dE).1 (es.getD k dE).1))) := rfl
      have hnk : n ≤ es.length := by have := HL.out; omega
      have hbk : b < wr.heap.size := by have := hbel.size; omega
      have hwl : w.heap.size < wr.heap.size := (Array.getElem?_eq_some_iff.1 hbox.out).1
      have HBX : Hid (∀ o q, ((wr.alloc o).drewN q).heap[w.heap.size]? = some (.cells #[.int .i64 3, .int .i64 tx, .int .i64 0, .int .i64 0, .int .i64 0, .slice ka 0 kc, .slice (some ⟨b, off, none⟩) n ec, .int .i64 0, .string data] 54)) := fun o q => (Below.heap_alloc _ _ _ (Array.getElem?_eq_some_iff.1 hbox.out).1).trans hbox.out
      have hE2 := hE.below (hbel.mono hB)
      clear hE
      generalize hkd : es.getD k dE = kd at f0 f1 f2 f3 HEO hfk
      clear hkd
      have hv := hfk.2.1
      unfold maxLen at hv
      by_cases t1 : kd.2.2.1 = 0
      · have s1 : (kd.2.2.1 == 0) = true := by simpa using t1
        have l1 : decide (low ≤ kd.2.2.1 ∧ kd.2.2.1 ≤ last) = false := decide_eq_false (by omega)
        have LB : longB low last kd = false := by simp [longB, inB]; omega
        by_cases t2 : kd.2.2.2 = (kd.2.1.size : Int)
        · have s2 : (kd.2.2.2 == (kd.2.1.size : Int)) = true := by simpa using t2
          by_cases t3 : kd.2.1.size ≤ 8
          · have s3 : decide ((kd.2.1.size : Int) ≤ 8) = true := by simp; omega
            have SB : shortB kd = true := by simp [shortB, t1, t2, t3]
            clear t1 t2 t3
            by_cases tk : keyB kd.1 = true
            · by_cases t4 : 0 < k
              · obtain ⟨b'', off'', hbo, hb'', hfj, g0, _⟩ := EntsAt.at hE2 (i := k - 1) (by omega)
                simp only [Option.some.injEq, Addr.mk.injEq, and_true] at hbo
                obtain ⟨rfl, rfl⟩ := hbo
                generalize hpd : es.getD (k - 1) dE = pd at g0 HEO
                clear hpd
                obtain ⟨k1, hk1⟩ : ∃ k1, k1 = k - 1 := ⟨_, rfl⟩
                rw [← hk1] at g0
                have i2 : (k : Int) - 1 = (k1 : Int) := by omega
                have i1 : k1 < n := by omega
                have i3 : IntKind.i64.wrap (k1 : Int) = (k1 : Int) := by rw [IntKind.wrap_i64]; omega
                have s4 : decide ((0 : Int) < (k : Int)) = true := by simp; omega
                clear hk1
                by_cases t5 : geB pd.1 kd.1 = true
                · have s5 : Op.bytesLess pd.1.toList kd.1.toList = false := by simpa [geB] using t5
                  have HB : Hid (entsOk low last es = false) := all_range_false (k := k) (by omega) (by rw [HEO.out]; simp [SB, tk, t4, t5])
                  clear HEO hE2
                  go_wp2_with (go_at_call 42; refine (l1In_any _ _ _ _).mono ?_; rintro e w1 ⟨rfl, rfl⟩)
                  go_quiet (first | (go_at_call 42; exact Calls.quiet_of_same (l1In_any _ _ _ _)) | (go_at_call 77; exact Calls.quiet_of_same (l2Key_any _ hfk.1 _)))
                  go_wp2
                  go_ret
                  exact ⟨by rw [HB.out]; rfl, below_dn2 hbel hbel.size⟩
                · have s5 : Op.bytesLess pd.1.toList kd.1.toList = true := by simpa [geB] using t5
                  have HB : Hid ((List.range (k + 1)).all (entOk low last es) = true) := all_range_succ hok.out (by rw [HEO.out]; simp [SB, tk, t5])
                  clear HEO hE2
                  go_wp2_with (go_at_call 42; refine (l1In_any _ _ _ _).mono ?_; rintro e w1 ⟨rfl, rfl⟩)
                  go_quiet (first | (go_at_call 42; exact Calls.quiet_of_same (l1In_any _ _ _ _)) | (go_at_call 77; exact Calls.quiet_of_same (l2Key_any _ hfk.1 _)))
                  go_wp2
                  go_roundw
                  case rel => exact ⟨k + 1, by omega, by go_num, HB, below_dn2 hbel hbel.size, HBX.out _ _⟩
                  case measure => simp [intOf]; omega
              · have s4 : decide ((0 : Int) < (k : Int)) = false := by simp; omega
                have HB : Hid ((List.range (k + 1)).all (entOk low last es) = true) := all_range_succ hok.out (by rw [HEO.out]; simp [SB, tk, t4])
                clear HEO hE2
                go_wp2_with (go_at_call 42; refine (l1In_any _ _ _ _).mono ?_; rintro e w1 ⟨rfl, rfl⟩)
                go_quiet (first | (go_at_call 42; exact Calls.quiet_of_same (l1In_any _ _ _ _)) | (go_at_call 77; exact Calls.quiet_of_same (l2Key_any _ hfk.1 _)))
                go_wp2
                go_roundw
                case rel => exact ⟨k + 1, by omega, by go_num, HB, below_dn2 hbel hbel.size, HBX.out _ _⟩
                case measure => simp [intOf]; omega
            · have tk' : keyB kd.1 = false := by simpa using tk
              have HB : Hid (entsOk low last es = false) := all_range_false (k := k) (by omega) (by rw [HEO.out]; simp [tk])
              clear HEO hE2
              go_wp2_with (go_at_call 42; refine (l1In_any _ _ _ _).mono ?_; rintro e w1 ⟨rfl, rfl⟩)
              go_quiet (first | (go_at_call 42; exact Calls.quiet_of_same (l1In_any _ _ _ _)) | (go_at_call 77; exact Calls.quiet_of_same (l2Key_any _ hfk.1 _)))
              go_wp2
              go_ret
              exact ⟨by rw [HB.out]; rfl, below_dn2 hbel hbel.size⟩
          · have s3 : decide ((kd.2.1.size : Int) ≤ 8) = false := by simp; omega
            have SB : shortB kd = false := by simp [shortB, t3]
            clear t1 t2 t3
            by_cases tk : keyB kd.1 = true
            · -- the key is good, the value not
              have HB : Hid (entsOk low last es = false) := all_range_false (k := k) (by omega) (by rw [HEO.out]; simp [SB, LB])
              clear HEO hE2
              go_wp2_with (go_at_call 42; refine (l1In_any _ _ _ _).mono ?_; rintro e w1 ⟨rfl, rfl⟩)
              go_quiet (first | (go_at_call 42; exact Calls.quiet_of_same (l1In_any _ _ _ _)) | (go_at_call 77; exact Calls.quiet_of_same (l2Key_any _ hfk.1 _)))
              go_wp2
              go_ret
              exact ⟨by rw [HB.out]; rfl, below_dn2 hbel hbel.size⟩
            · have tk' : keyB kd.1 = false := by simpa using tk
              have HB : Hid (entsOk low last es = false) := all_range_false (k := k) (by omega) (by rw [HEO.out]; simp [tk])
              clear HEO hE2
              go_wp2_with (go_at_call 42; refine (l1In_any _ _ _ _).mono ?_; rintro e w1 ⟨rfl, rfl⟩)
              go_quiet (first | (go_at_call 42; exact Calls.quiet_of_same (l1In_any _ _ _ _)) | (go_at_call 77; exact Calls.quiet_of_same (l2Key_any _ hfk.1 _)))
              go_wp2
              go_ret
              exact ⟨by rw [HB.out]; rfl, below_dn2 hbel hbel.size⟩
        · have s2 : (kd.2.2.2 == (kd.2.1.size : Int)) = false := by simpa using t2
          have SB : shortB kd = false := by simp [shortB, t2]
          clear t1 t2
          by_cases tk : keyB kd.1 = true
          · -- the key is good, the value not
            have HB : Hid (entsOk low last es = false) := all_range_false (k := k) (by omega) (by rw [HEO.out]; simp [SB, LB])
            clear HEO hE2
            go_wp2_with (go_at_call 42; refine (l1In_any _ _ _ _).mono ?_; rintro e w1 ⟨rfl, rfl⟩)
            go_quiet (first | (go_at_call 42; exact Calls.quiet_of_same (l1In_any _ _ _ _)) | (go_at_call 77; exact Calls.quiet_of_same (l2Key_any _ hfk.1 _)))
            go_wp2
            go_ret
            exact ⟨by rw [HB.out]; rfl, below_dn2 hbel hbel.size⟩
          · have tk' : keyB kd.1 = false := by simpa using tk
            have HB : Hid (entsOk low last es = false) := all_range_false (k := k) (by omega) (by rw [HEO.out]; simp [tk])
            clear HEO hE2
            go_wp2_with (go_at_call 42; refine (l1In_any _ _ _ _).mono ?_; rintro e w1 ⟨rfl, rfl⟩)
            go_quiet (first | (go_at_call 42; exact Calls.quiet_of_same (l1In_any _ _ _ _)) | (go_at_call 77; exact Calls.quiet_of_same (l2Key_any _ hfk.1 _)))
            go_wp2
            go_ret
            exact ⟨by rw [HB.out]; rfl, below_dn2 hbel hbel.size⟩
      · have s1 : (kd.2.2.1 == 0) = false := by simpa using t1
        have SB : shortB kd = false := by simp [shortB, t1]
        clear t1
        by_cases a1 : low ≤ kd.2.2.1 ∧ kd.2.2.1 ≤ last
        · have l1 : decide (low ≤ kd.2.2.1 ∧ kd.2.2.1 ≤ last) = true := decide_eq_true a1
          by_cases a2 : kd.2.1.toList = []
          · have l2 : kd.2.1.toList.isEmpty = true := by simp [a2]
            by_cases a3 : 9 ≤ kd.2.2.2 ∧ kd.2.2.2 ≤ 400
            · have l3 : decide ((9 : Int) ≤ kd.2.2.2 ∧ kd.2.2.2 ≤ 400) = true := decide_eq_true a3
              have LB : longB low last kd = true := by simp [longB, inB, a1, a2, a3]
              clear a1 a3
              by_cases tk : keyB kd.1 = true
              · by_cases t4 : 0 < k
                · obtain ⟨b'', off'', hbo, hb'', hfj, g0, _⟩ := EntsAt.at hE2 (i := k - 1) (by omega)
                  simp only [Option.some.injEq, Addr.mk.injEq, and_true] at hbo
                  obtain ⟨rfl, rfl⟩ := hbo
                  generalize hpd : es.getD (k - 1) dE = pd at g0 HEO
                  clear hpd
                  obtain ⟨k1, hk1⟩ : ∃ k1, k1 = k - 1 := ⟨_, rfl⟩
                  rw [← hk1] at g0
                  have i2 : (k : Int) - 1 = (k1 : Int) := by omega
                  have i1 : k1 < n := by omega
                  have i3 : IntKind.i64.wrap (k1 : Int) = (k1 : Int) := by rw [IntKind.wrap_i64]; omega
                  have s4 : decide ((0 : Int) < (k : Int)) = true := by simp; omega
                  clear hk1
                  by_cases t5 : geB pd.1 kd.1 = true
                  · have s5 : Op.bytesLess pd.1.toList kd.1.toList = false := by simpa [geB] using t5
                    have HB : Hid (entsOk low last es = false) := all_range_false (k := k) (by omega) (by rw [HEO.out]; simp [LB, tk, t4, t5])
                    clear HEO hE2
                    go_wp2_with (go_at_call 42; refine (l1In_any _ _ _ _).mono ?_; rintro e w1 ⟨rfl, rfl⟩)
                    go_quiet (first | (go_at_call 42; exact Calls.quiet_of_same (l1In_any _ _ _ _)) | (go_at_call 77; exact Calls.quiet_of_same (l2Key_any _ hfk.1 _)))
                    go_wp2
                    go_ret
                    exact ⟨by rw [HB.out]; rfl, below_dn2 hbel hbel.size⟩
                  · have s5 : Op.bytesLess pd.1.toList kd.1.toList = true := by simpa [geB] using t5
                    have HB : Hid ((List.range (k + 1)).all (entOk low last es) = true) := all_range_succ hok.out (by rw [HEO.out]; simp [LB, tk, t5])
                    clear HEO hE2
                    go_wp2_with (go_at_call 42; refine (l1In_any _ _ _ _).mono ?_; rintro e w1 ⟨rfl, rfl⟩)
                    go_quiet (first | (go_at_call 42; exact Calls.quiet_of_same (l1In_any _ _ _ _)) | (go_at_call 77; exact Calls.quiet_of_same (l2Key_any _ hfk.1 _)))
                    go_wp2
                    go_roundw
                    case rel => exact ⟨k + 1, by omega, by go_num, HB, below_dn2 hbel hbel.size, HBX.out _ _⟩
                    case measure => simp [intOf]; omega
                · have s4 : decide ((0 : Int) < (k : Int)) = false := by simp; omega
                  have HB : Hid ((List.range (k + 1)).all (entOk low last es) = true) := all_range_succ hok.out (by rw [HEO.out]; simp [LB, tk, t4])
                  clear HEO hE2
                  go_wp2_with (go_at_call 42; refine (l1In_any _ _ _ _).mono ?_; rintro e w1 ⟨rfl, rfl⟩)
                  go_quiet (first | (go_at_call 42; exact Calls.quiet_of_same (l1In_any _ _ _ _)) | (go_at_call 77; exact Calls.quiet_of_same (l2Key_any _ hfk.1 _)))
                  go_wp2
                  go_roundw
                  case rel => exact ⟨k + 1, by omega, by go_num, HB, below_dn2 hbel hbel.size, HBX.out _ _⟩
                  case measure => simp [intOf]; omega
              · have tk' : keyB kd.1 = false := by simpa using tk
                have HB : Hid (entsOk low last es = false) := all_range_false (k := k) (by omega) (by rw [HEO.out]; simp [tk])
                clear HEO hE2
                go_wp2_with (go_at_call 42; refine (l1In_any _ _ _ _).mono ?_; rintro e w1 ⟨rfl, rfl⟩)
                go_quiet (first | (go_at_call 42; exact Calls.quiet_of_same (l1In_any _ _ _ _)) | (go_at_call 77; exact Calls.quiet_of_same (l2Key_any _ hfk.1 _)))
                go_wp2
                go_ret
                exact ⟨by rw [HB.out]; rfl, below_dn2 hbel hbel.size⟩
            · have l3 : decide ((9 : Int) ≤ kd.2.2.2 ∧ kd.2.2.2 ≤ 400) = false := decide_eq_false a3
              have LB : longB low last kd = false := by simp [longB, inB, a1, a2]; omega
              clear a1 a3
              by_cases tk : keyB kd.1 = true
              · -- the key is good, the value not
                have HB : Hid (entsOk low last es = false) := all_range_false (k := k) (by omega) (by rw [HEO.out]; simp [SB, LB])
                clear HEO hE2
                go_wp2_with (go_at_call 42; refine (l1In_any _ _ _ _).mono ?_; rintro e w1 ⟨rfl, rfl⟩)
                go_quiet (first | (go_at_call 42; exact Calls.quiet_of_same (l1In_any _ _ _ _)) | (go_at_call 77; exact Calls.quiet_of_same (l2Key_any _ hfk.1 _)))
                go_wp2
                go_ret
                exact ⟨by rw [HB.out]; rfl, below_dn2 hbel hbel.size⟩
              · have tk' : keyB kd.1 = false := by simpa using tk
                have HB : Hid (entsOk low last es = false) := all_range_false (k := k) (by omega) (by rw [HEO.out]; simp [tk])
                clear HEO hE2
                go_wp2_with (go_at_call 42; refine (l1In_any _ _ _ _).mono ?_; rintro e w1 ⟨rfl, rfl⟩)
                go_quiet (first | (go_at_call 42; exact Calls.quiet_of_same (l1In_any _ _ _ _)) | (go_at_call 77; exact Calls.quiet_of_same (l2Key_any _ hfk.1 _)))
                go_wp2
                go_ret
                exact ⟨by rw [HB.out]; rfl, below_dn2 hbel hbel.size⟩
          · have l2 : kd.2.1.toList.isEmpty = false := by simp [a2]
            have LB : longB low last kd = false := by simp [longB, a2]
            clear a1
            by_cases tk : keyB kd.1 = true
            · -- the key is good, the value not
              have HB : Hid (entsOk low last es = false) := all_range_false (k := k) (by omega) (by rw [HEO.out]; simp [SB, LB])
              clear HEO hE2
              go_wp2_with (go_at_call 42; refine (l1In_any _ _ _ _).mono ?_; rintro e w1 ⟨rfl, rfl⟩)
              go_quiet (first | (go_at_call 42; exact Calls.quiet_of_same (l1In_any _ _ _ _)) | (go_at_call 77; exact Calls.quiet_of_same (l2Key_any _ hfk.1 _)))
              go_wp2
              go_ret
              exact ⟨by rw [HB.out]; rfl, below_dn2 hbel hbel.size⟩
            · have tk' : keyB kd.1 = false := by simpa using tk
              have HB : Hid (entsOk low last es = false) := all_range_false (k := k) (by omega) (by rw [HEO.out]; simp [tk])
              clear HEO hE2
              go_wp2_with (go_at_call 42; refine (l1In_any _ _ _ _).mono ?_; rintro e w1 ⟨rfl, rfl⟩)
              go_quiet (first | (go_at_call 42; exact Calls.quiet_of_same (l1In_any _ _ _ _)) | (go_at_call 77; exact Calls.quiet_of_same (l2Key_any _ hfk.1 _)))
              go_wp2
              go_ret
              exact ⟨by rw [HB.out]; rfl, below_dn2 hbel hbel.size⟩
        · have l1 : decide (low ≤ kd.2.2.1 ∧ kd.2.2.1 ≤ last) = false := decide_eq_false a1
          have LB : longB low last kd = false := by simp [longB, inB]; omega
          clear a1
          by_cases tk : keyB kd.1 = true
          · -- the key is good, the value not
            have HB : Hid (entsOk low last es = false) := all_range_false (k := k) (by omega) (by rw [HEO.out]; simp [SB, LB])
            clear HEO hE2
            go_wp2_with (go_at_call 42; refine (l1In_any _ _ _ _).mono ?_; rintro e w1 ⟨rfl, rfl⟩)
            go_quiet (first | (go_at_call 42; exact Calls.quiet_of_same (l1In_any _ _ _ _)) | (go_at_call 77; exact Calls.quiet_of_same (l2Key_any _ hfk.1 _)))
            go_wp2
            go_ret
            exact ⟨by rw [HB.out]; rfl, below_dn2 hbel hbel.size⟩
          · have tk' : keyB kd.1 = false := by simpa using tk
            have HB : Hid (entsOk low last es = false) := all_range_false (k := k) (by omega) (by rw [HEO.out]; simp [tk])
            clear HEO hE2
            go_wp2_with (go_at_call 42; refine (l1In_any _ _ _ _).mono ?_; rintro e w1 ⟨rfl, rfl⟩)
            go_quiet (first | (go_at_call 42; exact Calls.quiet_of_same (l1In_any _ _ _ _)) | (go_at_call 77; exact Calls.quiet_of_same (l2Key_any _ hfk.1 _)))
            go_wp2
            go_ret
            exact ⟨by rw [HB.out]; rfl, below_dn2 hbel hbel.size⟩
    · have HB : Hid (entsOk low last es = true) := by have := hok.out; rw [show k = n by omega, ← HL.out] at this; exact this
      go_wp2
      go_ret
      exact ⟨by rw [HB.out]; rfl, hbel⟩
end Go.Proofs.YtjbifddhbcfdcaaGreat
