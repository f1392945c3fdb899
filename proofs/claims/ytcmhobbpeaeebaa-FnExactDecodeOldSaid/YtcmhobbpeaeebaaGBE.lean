import Derived.Test.YtcmhobbpeaeebaaGAA
import Derived.Test.YtcmhobbpeaeebaaGAL
import Derived.Test.YtcmhobbpeaeebaaGBD
import Derived.WalkSpells
import Derived.WalkLawsBesides
import Derived.Laws.IdiomStrings
namespace Go.Proofs.Ytcmhobbpeaeebaa
namespace Old
open Go.RowKit
set_option linter.unusedVariables false
set_option maxRecDepth 100000

/-- What decoding answers. -/
def zPg : Pg := ⟨0, 0, 0, 0, 0, [], [], 0, ⟨#[]⟩⟩
def decR (bs : List Int) : Bool × Pg := if bs.length = 128 ∧ oldCodeOf (decP bs) = bs then (true, decP bs) else (false, zPg)
theorem none_own (n c : Nat) (g : Nat) : (Value.slice none n c).ownBlock = some g → False := by intro h; simp [Value.ownBlock] at h
theorem dec_impl (a : Option Addr) (n c : Nat) (bs : List Int) (w : World) (A B : Nat) (hB : B ≤ w.heap.size) (hb : BytesAt w A B a n c bs) :
    Calls Try.prog 14 #[.slice a n c] w fun e w' => ∃ ka kc ea ec, e = .returned (.agg #[.bool (decR bs).1, .int .i64 (decR bs).2.kind, .int .i64 (decR bs).2.tx, .int .i64 (decR bs).2.id, .int .i64 (decR bs).2.root, .int .i64 (decR bs).2.count, .slice ka (decR bs).2.ks.length kc, .slice ea (decR bs).2.es.length ec, .int .i64 (decR bs).2.next, .string (decR bs).2.data]) ∧ w'.ownsRow w.heap.size 100 2 (.slice ka (decR bs).2.ks.length kc) (decR bs).2.ks.length (rowsOf kidCells (decR bs).2.ks) ∧ w'.ownsRow w.heap.size 102 4 (.slice ea (decR bs).2.es.length ec) (decR bs).2.es.length (rowsOf entCells (decR bs).2.es) ∧ (∀ g, (Value.slice ka (decR bs).2.ks.length kc).ownBlock = some g → (Value.slice ea (decR bs).2.es.length ec).ownBlock = some g → False) ∧ Below w.heap.size w w' := by
  have hl := hb.1
  by_cases hn : n = 128
  · subst hn
    obtain ⟨g, o, rfl, _, _⟩ := hb.2.2.2.2.1 (by omega)
    refine (decode_any g o c bs w A B hB hb).mono ?_
    rintro e w' ⟨vk, ve, rfl, hO, hP, hor, hbel⟩
    by_cases hc : oldCodeOf (decP bs) = bs
    · have hd : decR bs = (true, decP bs) := if_pos ⟨hl, hc⟩
      rw [hd]
      obtain ⟨ka, kc, rfl⟩ := own_shape hO
      obtain ⟨ea, ec, rfl⟩ := own_shape hP
      refine ⟨ka, kc, ea, ec, by rw [decide_eq_true hc]; rfl, hO, hP, ?_, hbel⟩
      intro g h1 h2
      rcases hor with e | e
      · rw [e] at h1; exact none_own _ _ _ h1
      · rw [e] at h2; exact none_own _ _ _ h2
    · have hd : decR bs = (false, zPg) := if_neg (fun h => hc h.2)
      rw [hd]
      exact ⟨none, 0, none, 0, by rw [decide_eq_false hc]; rfl, World.ownsRow_nil _ _ _ _, World.ownsRow_nil _ _ _ _, fun g h1 _ => none_own _ _ _ h1, hbel⟩
  · refine (decode_short a n c hn w).mono ?_
    rintro e w' ⟨rfl, hbel⟩
    have hd : decR bs = (false, zPg) := if_neg (fun h => hn (hl.symm.trans h.1))
    rw [hd]
    exact ⟨none, 0, none, 0, rfl, World.ownsRow_nil _ _ _ _, World.ownsRow_nil _ _ _ _, fun g h1 _ => none_own _ _ _ h1, hbel⟩
end Old
end Go.Proofs.Ytcmhobbpeaeebaa
namespace Go.Proofs.Ytcmhobbpeaeebaa
namespace Old
open Go.RowKit
set_option linter.unusedVariables false
set_option maxRecDepth 100000

theorem dec_spec (a : Option Addr) (n c : Nat) (bs : List Int) (w : World) (A B : Nat) (hB : B ≤ w.heap.size) (hb : BytesAt w A B a n c bs) :
    Calls Try.prog 12 #[.slice a n c] w fun e w' => ∃ ka kc ea ec, e = .returned (.agg #[.bool (decR bs).1, .int .i64 (decR bs).2.kind, .int .i64 (decR bs).2.tx, .int .i64 (decR bs).2.id, .int .i64 (decR bs).2.root, .int .i64 (decR bs).2.count, .slice ka (decR bs).2.ks.length kc, .slice ea (decR bs).2.es.length ec, .int .i64 (decR bs).2.next, .string (decR bs).2.data]) ∧ w'.ownsRow w.heap.size 100 2 (.slice ka (decR bs).2.ks.length kc) (decR bs).2.ks.length (rowsOf kidCells (decR bs).2.ks) ∧ w'.ownsRow w.heap.size 102 4 (.slice ea (decR bs).2.es.length ec) (decR bs).2.es.length (rowsOf entCells (decR bs).2.es) ∧ (∀ g, (Value.slice ka (decR bs).2.ks.length kc).ownBlock = some g → (Value.slice ea (decR bs).2.es.length ec).ownBlock = some g → False) ∧ Below w.heap.size w w' := by
  have hl := hb.1
  by_cases hn : n = 128
  · subst hn
    obtain ⟨g, o, rfl, _, _⟩ := hb.2.2.2.2.1 (by omega)
    have hne : bs ≠ [] := by intro h; rw [h] at hl; simp at hl
    refine (specDecode_any g o c bs w A B hB hb).mono ?_
    rintro e w' ⟨vk, ve, rfl, hO, hP, hor, hbel⟩
    have hs := dec_same hne
    by_cases hc : oldCodeOf (decP bs) = bs
    · have h1 := hs.1 hc
      rw [h1] at hO hP
      have hd : decR bs = (true, decP bs) := if_pos ⟨hl, hc⟩
      rw [hd, h1]
      obtain ⟨ka, kc, rfl⟩ := own_shape hO
      obtain ⟨ea, ec, rfl⟩ := own_shape hP
      refine ⟨ka, kc, ea, ec, by rw [decide_eq_true hc]; rfl, hO, hP, ?_, hbel⟩
      intro g h1 h2
      rcases hor with e | e
      · rw [e] at h1; exact none_own _ _ _ h1
      · rw [e] at h2; exact none_own _ _ _ h2
    · have hd : decR bs = (false, zPg) := if_neg (fun h => hc h.2)
      have hf : ((sDec bs).2 && decide (oldCodeOf (sDec bs).1 = bs)) = false := by
        cases h2 : (sDec bs).2 with
        | false => rfl
        | true =>
          by_cases h3 : oldCodeOf (sDec bs).1 = bs
          · exact absurd (by rw [hs.2 h2 h3]; exact h3) hc
          · simp [h3]
      rw [hd, hf]
      exact ⟨none, 0, none, 0, rfl, World.ownsRow_nil _ _ _ _, World.ownsRow_nil _ _ _ _, fun g h1 _ => none_own _ _ _ h1, hbel⟩
  · refine (specDecode_short a n c hn w).mono ?_
    rintro e w' ⟨rfl, hbel⟩
    have hd : decR bs = (false, zPg) := if_neg (fun h => hn (hl.symm.trans h.1))
    rw [hd]
    exact ⟨none, 0, none, 0, rfl, World.ownsRow_nil _ _ _ _, World.ownsRow_nil _ _ _ _, fun g h1 _ => none_own _ _ _ h1, hbel⟩
/-- What is read back is a page, or the zero page: its lists fit. -/
theorem decR_fit (bs : List Int) (hb : AllB bs) : (∀ x ∈ (decR bs).2.ks, kidFit x) ∧ (∀ x ∈ (decR bs).2.es, entFit x) ∧ (decR bs).2.ks.length + (decR bs).2.es.length ≤ 255 := by
  unfold decR
  split
  · rename_i h
    have hne : bs ≠ [] := by intro e; rw [e] at h; simp at h
    have h1 := (dec_same hne).1 h.2
    have h2 : (sDec bs).1 = decP bs := by rw [h1]
    rw [show ((true, decP bs) : Bool × Pg).2 = (sDec bs).1 from h2.symm]
    refine ⟨(sDec_fit hb).2.1, (sDec_fit hb).2.2, ?_⟩
    rw [h2]
    exact code_count h.2 hne
  · exact ⟨(by intro x hx; cases hx), (by intro x hx; cases hx), Nat.zero_le _⟩
end Old
end Go.Proofs.Ytcmhobbpeaeebaa
namespace Go.Proofs.Ytcmhobbpeaeebaa
open Go.RowKit
set_option linter.unusedVariables false
set_option maxRecDepth 100000

/-- The decimal digits of k, ahead of out. -/
def digF : Nat → Nat → List UInt8 → List UInt8
  | 0, _, out => out
  | f + 1, k, out => if k = 0 then out else digF f (k / 10) (UInt8.ofNat (48 + k % 10) :: out)
def mkS (k : Nat) : ByteArray := if k = 0 then ⟨#[109, 48]⟩ else ⟨(109 :: digF 40 k []).toArray⟩

theorem glue (x y : List UInt8) : (⟨x.toArray⟩ : ByteArray) ++ (⟨y.toArray⟩ : ByteArray) = ⟨(x ++ y).toArray⟩ := by
  rw [ByteArray.mk_append_mk]
theorem digit_run (kk : Nat) (wr : World) : (convert 22 9 (.slice (some ⟨wr.heap.size, 0, none⟩) 1 1)).run Try.prog (wr.alloc (.cells #[.int .u8 (48 + (kk : Int) % 10)] 5)) = .ok (.string ⟨#[UInt8.ofNat (48 + kk % 10)]⟩) (wr.alloc (.cells #[.int .u8 (48 + (kk : Int) % 10)] 5)) := by
  refine run_convert_bytes_back (P := Try.prog) _ 22 9 5 ⟨wr.heap.size, 0, none⟩ 1 [UInt8.ofNat (48 + kk % 10)] Try.underlying22 Try.underlying5 Try.underlying9 ?_
  intro j hj
  simp at hj
  subst hj
  have e : (((UInt8.ofNat (48 + kk % 10)).toNat : Nat) : Int) = 48 + (kk : Int) % 10 := by
    rw [UInt8.toNat_ofNat']
    omega
  simp [Addr.add]
  omega

set_option maxHeartbeats 400000 in
theorem markText_any (k : Nat) (w : World) (hk : k ≤ 1099511627776) :
    Calls Try.prog 96 #[.int .i64 k] w fun e w' => e = .returned (.string (mkS k)) ∧ Below w.heap.size w w' := by
  by_cases h0 : k = 0
  · subst h0
    go_enter Try.func96, Try.ntmps96
    go_wp2
    go_ret
    exact ⟨rfl, Below.refl _ _⟩
  · go_enter Try.func96, Try.ntmps96
    go_wp2
    go_loopw [0, 3] (fun kv o wr => ∃ (kk f : Nat) (out : List UInt8), kv = .int .i64 kk ∧ kk ≤ 1099511627776 ∧ o = .string ⟨out.toArray⟩ ∧ Hid (digF 40 k [] = digF f kk out) ∧ Hid (kk < 10 ^ f) ∧ out.length ≤ 40 ∧ Hid (out.length + f = 40) ∧ Below w.heap.size w wr) (fun kv _ _ => (intOf kv).toNat)
    case atStart => exact ⟨k, 40, [], rfl, hk, rfl, rfl, by show _ < _; omega, by simp, by show _ = _; simp, Below.refl _ _⟩
    case round =>
      obtain ⟨kk, f, out, rfl, hkk, rfl, hd, hf, hol, hof, hbel⟩ := hrel
      by_cases hz : kk = 0
      · subst hz
        have HE : Hid ((⟨#[109]⟩ : ByteArray) ++ ⟨out.toArray⟩ = mkS k) := by
          show _ = _
          rw [show (⟨#[109]⟩ : ByteArray) = ⟨[109].toArray⟩ from rfl, glue]
          unfold mkS
          rw [if_neg h0, hd.out]
          cases f <;> simp [digF]
        go_wp2
        go_ret
        exact ⟨by rw [← HE.out]; rfl, hbel⟩
      · have hp : (0 : Int) < (kk : Int) := by omega
        have hrun := digit_run kk wr
        cases f with
        | zero => have := hf.out; simp at this; omega
        | succ f =>
          have HD : Hid (digF 40 k [] = digF f (kk / 10) (UInt8.ofNat (48 + kk % 10) :: out)) := by
            show _ = _
            rw [hd.out]
            simp [digF, hz]
          have HF : Hid (kk / 10 < 10 ^ f) := by
            have := hf.out
            show kk / 10 < 10 ^ f
            rw [Nat.div_lt_iff_lt_mul (by omega), ← Nat.pow_succ]
            exact this
          have HG : Hid ((⟨#[UInt8.ofNat (48 + kk % 10)]⟩ : ByteArray) ++ ⟨out.toArray⟩ = ⟨(UInt8.ofNat (48 + kk % 10) :: out).toArray⟩) := glue [UInt8.ofNat (48 + kk % 10)] out
          have hlen : out.length + 1 ≤ 40 := by have := hof.out; omega
          have hof2 : Hid ((UInt8.ofNat (48 + kk % 10) :: out).length + f = 40) := by show _ = _; have := hof.out; simp; omega
          have hb2 := hbel.alloc hbel.size (.cells #[.int .u8 (48 + (kk : Int) % 10)] 5)
          generalize UInt8.ofNat (48 + kk % 10) = dg at *
          go_wp2
          go_roundw
          case rel => exact ⟨kk / 10, f, dg :: out, by go_num, by omega, by rw [HG.out], HD, HF, by simpa using hlen, hof2, hb2⟩
          case measure => simp [intOf]; omega

/-- The marks that follow one another from k on. -/
def marks (k : Nat) (n : Nat) : List Int := (List.range n).map fun j => ((k + j : Nat) : Int) % 256
theorem marks_get (k n j : Nat) (h : j < n) : (marks k n).getD j 0 = ((k + j : Nat) : Int) % 256 := by simp [marks, List.getD, h]

set_option maxHeartbeats 400000 in
theorem heldByteS_any (a : Option Addr) (n c k : Nat) (w : World) (A B : Nat) (h : BytesAt w A B a n c (marks k n)) (hk : k + n ≤ 1099511627776) :
    Calls Try.prog 25 #[.slice a n c, .int .i64 k] w fun e w' => e = .returned (.int .i64 ((k + n : Nat) : Int)) ∧ w' = w := by
  obtain ⟨hl, hnc, hc, _, hcell, _⟩ := h
  go_enter Try.func25, Try.ntmps25
  go_wp2
  go_loop [1, 5] (fun kv i => ∃ j : Nat, j ≤ n ∧ i = .int .i64 j ∧ kv = .int .i64 ((k + j : Nat) : Int)) (fun _ i => n - (intOf i).toNat)
  case atStart => exact ⟨0, Nat.zero_le _, rfl, rfl⟩
  case round =>
    obtain ⟨j, hj, rfl, rfl⟩ := hrel
    by_cases hlt : j < n
    · obtain ⟨b, off, rfl, hb, hcb⟩ := hcell (by omega)
      have e1 := hcb j hlt
      rw [marks_get k n j hlt] at e1
      clear hcell hcb
      go_wp2
      go_round
      case rel => exact ⟨j + 1, by omega, by go_num, by go_num⟩
      case measure => simp [intOf]; omega
    · obtain rfl : j = n := by omega
      go_wp2
      go_ret
      exact ⟨rfl, rfl⟩
theorem grown_refl (w : World) (row : Option Nat) : w.grownBy w row := ⟨rfl, rfl, rfl, Nat.le_refl _, fun _ _ _ => rfl⟩
theorem grown_trans {a b c : World} {row : Option Nat} (h : a.grownBy b row) (k : b.grownBy c row) : a.grownBy c row :=
  ⟨k.os.trans h.os, k.tape.trans h.tape, k.output.trans h.output, Nat.le_trans h.size k.size, fun i hi hne => (k.block i (Nat.lt_of_lt_of_le hi h.size) hne).trans (h.block i hi hne)⟩
def MarkRes (w w' : World) (base : Nat) (v : Value) (n k : Nat) : Prop := w'.ownsRow base 5 1 v n (u8s (marks k n)) ∧ w.grownBy w' v.ownBlock

set_option maxHeartbeats 400000 in
theorem markByteS_any (a : Option Addr) (n c k base : Nat) (xs : List Value) (w : World) (h : w.ownsRow base 5 1 (.slice a n c) n xs) (hk : k + n ≤ 1099511627776) :
    Calls Try.prog 17 #[.slice a n c, .int .i64 k] w fun e w' => e = .returned (.int .i64 ((k + n : Nat) : Int)) ∧ MarkRes w w' base (.slice a n c) n k := by
  go_enter Try.func17, Try.ntmps17
  go_wp2
  go_loopw [1, 5] (fun kv i wr => ∃ (j : Nat) (ys : List Value), j ≤ n ∧ i = .int .i64 j ∧ kv = .int .i64 ((k + j : Nat) : Int) ∧ wr.ownsRow base 5 1 (.slice a n c) n ys ∧ Hid (∀ i, i < j → ys[i]? = some (.int .u8 (((k + i : Nat) : Int) % 256))) ∧ w.grownBy wr (Value.slice a n c).ownBlock) (fun _ i _ => n - (intOf i).toNat)
  case atStart => exact ⟨0, xs, Nat.zero_le _, rfl, rfl, h, fun i hi => absurd hi (Nat.not_lt_zero _), grown_refl _ _⟩
  case round =>
    clear h
    obtain ⟨j, ys, hj, rfl, rfl, hown, hys, hgr⟩ := hrel
    by_cases hlt : j < n
    · obtain ⟨g, rfl⟩ : ∃ g, a = some ⟨g, 0, none⟩ := by
        rcases hown.2 with ⟨_, h0⟩ | ⟨g, cap, cur, h0, _⟩
        · omega
        · injection h0 with h1; exact ⟨g, h1⟩
      have hf := hown.frozenAt j
      have hxl := hown.1
      obtain ⟨u, hu⟩ : ∃ u, wr.cell? ⟨g, j, none⟩ = some u := ⟨ys[j]'(by omega), by rw [hown.cellAt j (by omega)]; exact List.getElem?_eq_getElem _⟩
      obtain ⟨R1, R2⟩ := hown.stored j (.int .u8 (((k : Int) + (j : Int)) % 256))
      have HY : Hid (∀ i, i < j + 1 → (ys.set j (.int .u8 (((k : Int) + (j : Int)) % 256)))[i]? = some (.int .u8 (((k + i : Nat) : Int) % 256))) := by
        intro i hi
        by_cases hij : i = j
        · subst hij; rw [List.getElem?_set_self (by omega)]; simp
        · rw [List.getElem?_set_ne (by omega)]; exact hys.out i (by omega)
      have hgr2 : w.grownBy (wr.setCell ⟨g, j, none⟩ (.int .u8 (((k : Int) + (j : Int)) % 256))) (Value.slice (some ⟨g, 0, none⟩) n c).ownBlock := grown_trans hgr R2
      clear hown R2 hgr
      go_wp2
      go_roundw
      case rel => exact ⟨j + 1, _, by omega, by go_num, by go_num, R1, HY, hgr2⟩
      case measure => simp [intOf]; omega
    · obtain rfl : j = n := by omega
      have HR : Hid (wr.ownsRow base 5 1 (.slice a j c) j (u8s (marks k j))) := by
        have hxl := hown.1
        have e : ys = u8s (marks k j) := by
          apply List.ext_getElem?
          intro i
          by_cases hi : i < j
          · rw [hys.out i hi]; simp [u8s, marks, hi]
          · rw [List.getElem?_eq_none (by omega), List.getElem?_eq_none (by simp [u8s, marks]; omega)]
        rw [← e]; exact hown
      go_wp2
      go_ret
      exact ⟨rfl, HR.out, hgr⟩
theorem marks_byte (k n : Nat) : ∀ x ∈ marks k n, 0 ≤ x ∧ x ≤ 255 := by
  intro x hx
  simp [marks] at hx
  obtain ⟨a, _, rfl⟩ := hx
  omega
end Go.Proofs.Ytcmhobbpeaeebaa
namespace Go.Proofs.Ytcmhobbpeaeebaa
open Go.RowKit
set_option linter.unusedVariables false
set_option maxRecDepth 100000

/-- What marking makes of kids and entries. -/
def markK (k n : Nat) : List PK := (List.range n).map fun i => (mkS (k + 2 * i), ((k + 2 * i + 1 : Nat) : Int))
def markE (k n : Nat) : List PE := (List.range n).map fun i => (mkS (k + 4 * i), mkS (k + 4 * i + 1), ((k + 4 * i + 2 : Nat) : Int), ((k + 4 * i + 3 : Nat) : Int))
theorem markK_len (k n : Nat) : (markK k n).length = n := by simp [markK]
theorem markE_len (k n : Nat) : (markE k n).length = n := by simp [markE]
theorem markK_get (k n i : Nat) (h : i < n) : (markK k n).getD i dK = (mkS (k + 2 * i), ((k + 2 * i + 1 : Nat) : Int)) := by simp [markK, List.getD, h]
theorem markE_get (k n i : Nat) (h : i < n) : (markE k n).getD i dE = (mkS (k + 4 * i), mkS (k + 4 * i + 1), ((k + 4 * i + 2 : Nat) : Int), ((k + 4 * i + 3 : Nat) : Int)) := by simp [markE, List.getD, h]
theorem owns_some {w : World} {base e size n c : Nat} {a : Option Addr} {xs : List Value} (h : w.ownsRow base e size (.slice a n c) n xs) (hn : 0 < n) : ∃ g, a = some ⟨g, 0, none⟩ := by
  rcases h.2 with ⟨h0, h1⟩ | ⟨g, cap, cur, h0, _⟩
  · omega
  · injection h0 with h1; exact ⟨g, h1⟩
theorem fr_set {S : Nat → Prop} {w w' : World} (h : Fr S w w') {g o : Nat} (hS : S g) (u : Value) : Fr S w (w'.setCell ⟨g, o, none⟩ u) :=
  h.trans ⟨rfl, rfl, rfl, by simp [World.setCell], fun k _ hk => Below.heap_setCell w' _ u k (fun e => hk (e ▸ hS))⟩

set_option maxHeartbeats 400000 in
theorem markKidS_any (a : Option Addr) (n c k base : Nat) (xs : List Value) (w : World) (h : w.ownsRow base 100 2 (.slice a n c) n xs) (hk : k + 2 * n ≤ 1099511627776) :
    Calls Try.prog 66 #[.slice a n c, .int .i64 k] w fun e w' => e = .returned (.int .i64 ((k + 2 * n : Nat) : Int)) ∧ w'.ownsRow base 100 2 (.slice a n c) n (rowsOf kidCells (markK k n)) ∧ Fr (fun g => (Value.slice a n c).ownBlock = some g) w w' := by
  go_enter Try.func66, Try.ntmps66
  go_wp2
  go_loopw [1, 5] (fun kv i wr => ∃ (j : Nat) (ys : List Value), j ≤ n ∧ i = .int .i64 j ∧ kv = .int .i64 ((k + 2 * j : Nat) : Int) ∧ wr.ownsRow base 100 2 (.slice a n c) n ys ∧ (∀ q, q < j * 2 → ys[q]? = (rowsOf kidCells (markK k n))[q]?) ∧ Fr (fun g => (Value.slice a n c).ownBlock = some g) w wr) (fun _ i _ => n - (intOf i).toNat)
  case atStart => exact ⟨0, xs, Nat.zero_le _, rfl, rfl, h, fun q hq => by omega, Fr.refl _ _⟩
  case round =>
    clear h
    obtain ⟨j, ys, hj, rfl, rfl, hown, hgot, hfr⟩ := hrel
    have HG : Hid (∀ q, q < j * 2 → ys[q]? = (rowsOf kidCells (markK k n))[q]?) := hgot
    clear hgot
    by_cases hlt : j < n
    · obtain ⟨g, rfl⟩ := owns_some hown (by omega)
      have HS : Hid _ := set_twoP (ys := []) (markK_len k n) hlt (p := (mkS (k + 2 * j), ((k + 2 * j + 1 : Nat) : Int))) (markK_get k n j hlt).symm hown.1 HG.out
      obtain ⟨kj, hkj⟩ : ∃ kj, kj = k + 2 * j := ⟨_, rfl⟩
      rw [← hkj] at HS ⊢
      have HKJ : Hid (kj = k + 2 * j) := hkj
      have hkb : kj ≤ 1099511627776 := by omega
      clear hkj
      have hlt0 := (hown.lt g rfl).2
      go_wp2_with (go_at_call 96; refine (markText_any kj wr hkb).mono ?_; rintro e w1 ⟨rfl, hb1⟩; have hown2 := owns_below hown hb1; have hxl := hown2.1; have hf1 := hown2.frozenAt (j * 2); have hf2 := hown2.frozenAt (j * 2 + 1); obtain ⟨u, hu⟩ : ∃ u, w1.cell? ⟨g, j * 2, none⟩ = some u := ⟨ys[j * 2]'(by omega), by rw [hown2.cellAt (j * 2) (by omega)]; exact List.getElem?_eq_getElem _⟩; obtain ⟨u2, hu2⟩ : ∃ u, w1.cell? ⟨g, j * 2 + 1, none⟩ = some u := ⟨ys[j * 2 + 1]'(by omega), by rw [hown2.cellAt (j * 2 + 1) (by omega)]; exact List.getElem?_eq_getElem _⟩; have HO : Hid (w1.ownsRow base 100 2 (.slice (some ⟨g, 0, none⟩) n c) n ys) := hown2; clear hown2 hown)
      have HK2 : Hid (((kj : Int) + 1 + 1) = ((k + 2 * (j + 1) : Nat) : Int)) := by show _ = _; have := HKJ.out; omega
      have R := (HO.out.stored (j * 2) (.string (mkS kj))).1.stored (j * 2 + 1) (.int .i64 ((kj : Int) + 1))
      go_roundw
      case rel => exact ⟨j + 1, _, by omega, by go_num, by rw [HK2.out], R.1, by have := HS.out; simpa using this, fr_set (fr_set (hfr.trans (Fr.of_below hb1)) rfl _) rfl _⟩
      case measure => simp [intOf]; omega
    · go_wp2
      go_ret
      have hkn : j = n := by omega
      subst hkn
      refine ⟨rfl, ?_, hfr⟩
      rw [show rowsOf kidCells (markK k j) = ys from ?_]
      · exact hown
      · refine (List.ext_getElem? fun q => ?_).symm
        by_cases hq : q < j * 2
        · exact HG.out q (by omega)
        · rw [List.getElem?_eq_none (by rw [hown.1]; omega), List.getElem?_eq_none (by rw [rowsOf_length kc2, markK_len]; omega)]
set_option maxHeartbeats 400000 in
theorem markEntS_any (a : Option Addr) (n c k base : Nat) (xs : List Value) (w : World) (h : w.ownsRow base 102 4 (.slice a n c) n xs) (hk : k + 4 * n ≤ 1099511627776) :
    Calls Try.prog 67 #[.slice a n c, .int .i64 k] w fun e w' => e = .returned (.int .i64 ((k + 4 * n : Nat) : Int)) ∧ w'.ownsRow base 102 4 (.slice a n c) n (rowsOf entCells (markE k n)) ∧ Fr (fun g => (Value.slice a n c).ownBlock = some g) w w' := by
  go_enter Try.func67, Try.ntmps67
  go_wp2
  go_loopw [1, 5] (fun kv i wr => ∃ (j : Nat) (ys : List Value), j ≤ n ∧ i = .int .i64 j ∧ kv = .int .i64 ((k + 4 * j : Nat) : Int) ∧ wr.ownsRow base 102 4 (.slice a n c) n ys ∧ (∀ q, q < j * 4 → ys[q]? = (rowsOf entCells (markE k n))[q]?) ∧ Fr (fun g => (Value.slice a n c).ownBlock = some g) w wr) (fun _ i _ => n - (intOf i).toNat)
  case atStart => exact ⟨0, xs, Nat.zero_le _, rfl, rfl, h, fun q hq => by omega, Fr.refl _ _⟩
  case round =>
    clear h
    obtain ⟨j, ys, hj, rfl, rfl, hown, hgot, hfr⟩ := hrel
    have HG : Hid (∀ q, q < j * 4 → ys[q]? = (rowsOf entCells (markE k n))[q]?) := hgot
    clear hgot
    by_cases hlt : j < n
    · obtain ⟨g, rfl⟩ := owns_some hown (by omega)
      have HS : Hid _ := set_four (markE_len k n) hlt (p := (mkS (k + 4 * j), mkS (k + 4 * j + 1), ((k + 4 * j + 2 : Nat) : Int), ((k + 4 * j + 3 : Nat) : Int))) (markE_get k n j hlt).symm hown.1 HG.out
      obtain ⟨kj, hkj⟩ : ∃ kj, kj = k + 4 * j := ⟨_, rfl⟩
      rw [← hkj] at HS ⊢
      have HKJ : Hid (kj = k + 4 * j) := hkj
      have hkb : kj + 4 ≤ 1099511627776 := by omega
      clear hkj
      have hlt0 := (hown.lt g rfl).2
      go_wp2_with (first
        | (go_at_call 96; refine (markText_any (kj + 1) (w1.setCell ⟨g, j * 4, none⟩ (.string (mkS kj))) (by omega)).mono ?_; rintro e w2 ⟨rfl, hb2⟩; have hown3 := owns_below (HO.out.stored (j * 4) (.string (mkS kj))).1 hb2; have hxl2 := hown3.1; have hf1 := hown3.frozenAt (j * 4 + 1); have hf2 := hown3.frozenAt (j * 4 + 2); have hf3 := hown3.frozenAt (j * 4 + 3); obtain ⟨u1, hu1⟩ : ∃ u, w2.cell? ⟨g, j * 4 + 1, none⟩ = some u := ⟨_, by rw [hown3.cellAt (j * 4 + 1) (by omega)]; exact List.getElem?_eq_getElem (by omega)⟩; obtain ⟨u2, hu2⟩ : ∃ u, w2.cell? ⟨g, j * 4 + 2, none⟩ = some u := ⟨_, by rw [hown3.cellAt (j * 4 + 2) (by omega)]; exact List.getElem?_eq_getElem (by omega)⟩; obtain ⟨u3, hu3⟩ : ∃ u, w2.cell? ⟨g, j * 4 + 3, none⟩ = some u := ⟨_, by rw [hown3.cellAt (j * 4 + 3) (by omega)]; exact List.getElem?_eq_getElem (by omega)⟩; have HO3 : Hid (w2.ownsRow base 102 4 (.slice (some ⟨g, 0, none⟩) n c) n (ys.set (j * 4) (.string (mkS kj)))) := hown3; clear hown3)
        | (go_at_call 96; refine (markText_any kj wr (by omega)).mono ?_; rintro e w1 ⟨rfl, hb1⟩; have hown2 := owns_below hown hb1; have hxl := hown2.1; have hf0 := hown2.frozenAt (j * 4); obtain ⟨u, hu⟩ : ∃ u, w1.cell? ⟨g, j * 4, none⟩ = some u := ⟨ys[j * 4]'(by omega), by rw [hown2.cellAt (j * 4) (by omega)]; exact List.getElem?_eq_getElem _⟩; have HO : Hid (w1.ownsRow base 102 4 (.slice (some ⟨g, 0, none⟩) n c) n ys) := hown2; clear hown2 hown))
      have HK2 : Hid (((kj : Int) + 1 + 1 + 1 + 1) = ((k + 4 * (j + 1) : Nat) : Int)) := by show _ = _; have := HKJ.out; omega
      have R := ((HO3.out.stored (j * 4 + 1) (.string (mkS (kj + 1)))).1.stored (j * 4 + 2) (.int .i64 ((kj : Int) + 1 + 1))).1.stored (j * 4 + 3) (.int .i64 ((kj : Int) + 1 + 1 + 1))
      go_roundw
      case rel => exact ⟨j + 1, _, by omega, by go_num, by rw [HK2.out], R.1, by rw [show (kj : Int) + 1 + 1 = ((kj + 2 : Nat) : Int) by omega, show ((kj + 2 : Nat) : Int) + 1 = ((kj + 3 : Nat) : Int) by omega]; exact HS.out, fr_set (fr_set (fr_set ((fr_set (hfr.trans (Fr.of_below hb1)) rfl _).trans (Fr.of_below hb2)) rfl _) rfl _) rfl _⟩
      case measure => simp [intOf]; omega
    · go_wp2
      go_ret
      have hkn : j = n := by omega
      subst hkn
      refine ⟨rfl, ?_, hfr⟩
      rw [show rowsOf entCells (markE k j) = ys from ?_]
      · exact hown
      · refine (List.ext_getElem? fun q => ?_).symm
        by_cases hq : q < j * 4
        · exact HG.out q (by omega)
        · rw [List.getElem?_eq_none (by rw [hown.1]; omega), List.getElem?_eq_none (by rw [rowsOf_length ec4, markE_len]; omega)]
set_option maxHeartbeats 800000 in
theorem markPage_any (kind tx id root count : Int) (ka : Option Addr) (kn kc : Nat) (ea : Option Addr) (en ec : Nat) (next : Int) (data : ByteArray) (k base : Nat) (xs ys : List Value) (w : World) (hK : w.ownsRow base 100 2 (.slice ka kn kc) kn xs) (hE : w.ownsRow base 102 4 (.slice ea en ec) en ys) (hne : ∀ g, (Value.slice ka kn kc).ownBlock = some g → (Value.slice ea en ec).ownBlock = some g → False) (hk : k + 2 * kn + 4 * en ≤ 1099511627776) :
    Calls Try.prog 24 #[.agg #[.int .i64 kind, .int .i64 tx, .int .i64 id, .int .i64 root, .int .i64 count, .slice ka kn kc, .slice ea en ec, .int .i64 next, .string data], .int .i64 k] w fun e w' => e = .returned (.int .i64 ((k + 2 * kn + 4 * en : Nat) : Int)) ∧ w'.ownsRow base 100 2 (.slice ka kn kc) kn (rowsOf kidCells (markK k kn)) ∧ w'.ownsRow base 102 4 (.slice ea en ec) en (rowsOf entCells (markE (k + 2 * kn) en)) ∧ Fr (fun g => (Value.slice ka kn kc).ownBlock = some g ∨ (Value.slice ea en ec).ownBlock = some g) w w' := by
  go_enter Try.func24, Try.ntmps24
  go_wp2_with fail
  refine (markKidS_any ka kn kc k base xs _ (hK.alloc _) (by omega)).mono ?_
  rintro e w1 ⟨rfl, hO1, hfr1⟩
  have F0 : Fr (fun g => (Value.slice ka kn kc).ownBlock = some g ∨ (Value.slice ea en ec).ownBlock = some g) w w1 := (Fr.of_below ((Below.refl _ _).alloc (Nat.le_refl _) _)).trans (hfr1.weak fun g h => .inl h)
  have hE1 := owns_fr (hE.alloc _) hfr1 (fun g h h' => hne g h' h)
  have hc := hfr1.block w.heap.size (by simp) (fun h => by have := (hK.lt _ h).2; omega)
  have hc6 : w1.cell? ⟨w.heap.size, 6, none⟩ = some (.slice ea en ec) := by
    have : (w.alloc (.cells #[.int .i64 kind, .int .i64 tx, .int .i64 id, .int .i64 root, .int .i64 count, .slice ka kn kc, .slice ea en ec, .int .i64 next, .string data] 28)).cell? ⟨w.heap.size, 6, none⟩ = some (.slice ea en ec) := by simp
    rw [← this]; exact World.cell?_of_block hc
  clear hfr1 hc hE
  go_wp2_with fail
  refine (markEntS_any ea en ec (k + 2 * kn) base ys w1 hE1 (by omega)).mono ?_
  rintro e w2 ⟨rfl, hO2, hfr2⟩
  have F1 := F0.trans (hfr2.weak (T := fun g => (Value.slice ka kn kc).ownBlock = some g ∨ (Value.slice ea en ec).ownBlock = some g) fun g h => .inr h)
  have hO3 := owns_fr hO1 hfr2 (fun g h h' => hne g h h')
  clear hfr2 F0 hO1
  go_wp2
  go_ret
  exact ⟨rfl, hO3, hO2, F1⟩
end Go.Proofs.Ytcmhobbpeaeebaa
