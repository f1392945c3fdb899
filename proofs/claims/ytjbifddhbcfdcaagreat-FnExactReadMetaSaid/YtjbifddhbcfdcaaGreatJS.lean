import Derived.Test.YtjbifddhbcfdcaaGreatDF
import Derived.Test.YtjbifddhbcfdcaaGreatDG
import Derived.Test.YtjbifddhbcfdcaaGreatJL
import Derived.Test.YtjbifddhbcfdcaaGreatDsN
namespace Go.Proofs.YtjbifddhbcfdcaaGreat
namespace New
open Go.RowKit
set_option linter.unusedVariables false
set_option maxRecDepth 100000

/-- What decoding answers. -/
def zPg : Pg := ⟨0, 0, 0, 0, 0, [], [], 0, ⟨#[]⟩⟩
def decR (bs : List Int) : Bool × Pg := if bs.length = 128 ∧ newCodeOf (decP bs) = bs then (true, decP bs) else (false, zPg)
theorem none_own (n c : Nat) (g : Nat) : (Value.slice none n c).ownBlock = some g → False := by intro h; simp [Value.ownBlock] at h
theorem dec_impl (a : Option Addr) (n c : Nat) (bs : List Int) (w : World) (A B : Nat) (hB : B ≤ w.heap.size) (hb : BytesAt w A B a n c bs) :
    Calls Tryz.prog 34 #[.slice a n c] w fun e w' => ∃ ka kc ea ec, e = .returned (.agg #[.bool (decR bs).1, .int .i64 (decR bs).2.kind, .int .i64 (decR bs).2.tx, .int .i64 (decR bs).2.id, .int .i64 (decR bs).2.root, .int .i64 (decR bs).2.count, .slice ka (decR bs).2.ks.length kc, .slice ea (decR bs).2.es.length ec, .int .i64 (decR bs).2.next, .string (decR bs).2.data]) ∧ w'.ownsRow w.heap.size 119 2 (.slice ka (decR bs).2.ks.length kc) (decR bs).2.ks.length (rowsOf kidCells (decR bs).2.ks) ∧ w'.ownsRow w.heap.size 121 4 (.slice ea (decR bs).2.es.length ec) (decR bs).2.es.length (rowsOf entCells (decR bs).2.es) ∧ (∀ g, (Value.slice ka (decR bs).2.ks.length kc).ownBlock = some g → (Value.slice ea (decR bs).2.es.length ec).ownBlock = some g → False) ∧ Below w.heap.size w w' := by
  have hl := hb.1
  by_cases hn : n = 128
  · subst hn
    obtain ⟨g, o, rfl, _, _⟩ := hb.2.2.2.2.1 (by omega)
    refine (decode_any g o c bs w A B hB hb).mono ?_
    rintro e w' ⟨vk, ve, rfl, hO, hP, hor, hbel⟩
    by_cases hc : newCodeOf (decP bs) = bs
    · have hd : decR bs = (true, decP bs) := if_pos ⟨hl, hc⟩
      rw [hd]
      obtain ⟨ka, kc, rfl⟩ := own_shape hO
      obtain ⟨ea, ec, rfl⟩ := own_shape hP
      refine ⟨ka, kc, ea, ec, by rw [decide_eq_true hc]; rfl, hO, hP, ?_, hbel⟩
      intro g h1 h2
      rcases hor with e | e
      · rw [e] at h1; exact none_own _ _ _ h1
      · rw [e] at h2; exact none_own _ _ _ h2
    · have hd : decR bs = (false, zPg) := if_neg (fun h => hc h.2)
      rw [hd]
      exact ⟨none, 0, none, 0, by rw [decide_eq_false hc]; rfl, World.ownsRow_nil _ _ _ _, World.ownsRow_nil _ _ _ _, fun g h1 _ => none_own _ _ _ h1, hbel⟩
  · refine (decode_short a n c hn w).mono ?_
    rintro e w' ⟨rfl, hbel⟩
    have hd : decR bs = (false, zPg) := if_neg (fun h => hn (hl.symm.trans h.1))
    rw [hd]
    exact ⟨none, 0, none, 0, rfl, World.ownsRow_nil _ _ _ _, World.ownsRow_nil _ _ _ _, fun g h1 _ => none_own _ _ _ h1, hbel⟩
end New
end Go.Proofs.YtjbifddhbcfdcaaGreat
namespace Go.Proofs.YtjbifddhbcfdcaaGreat
namespace New
open Go.RowKit
set_option linter.unusedVariables false
set_option maxRecDepth 100000

theorem dec_spec (a : Option Addr) (n c : Nat) (bs : List Int) (w : World) (A B : Nat) (hB : B ≤ w.heap.size) (hb : BytesAt w A B a n c bs) :
    Calls Tryz.prog 24 #[.slice a n c] w fun e w' => ∃ ka kc ea ec, e = .returned (.agg #[.bool (decR bs).1, .int .i64 (decR bs).2.kind, .int .i64 (decR bs).2.tx, .int .i64 (decR bs).2.id, .int .i64 (decR bs).2.root, .int .i64 (decR bs).2.count, .slice ka (decR bs).2.ks.length kc, .slice ea (decR bs).2.es.length ec, .int .i64 (decR bs).2.next, .string (decR bs).2.data]) ∧ w'.ownsRow w.heap.size 119 2 (.slice ka (decR bs).2.ks.length kc) (decR bs).2.ks.length (rowsOf kidCells (decR bs).2.ks) ∧ w'.ownsRow w.heap.size 121 4 (.slice ea (decR bs).2.es.length ec) (decR bs).2.es.length (rowsOf entCells (decR bs).2.es) ∧ (∀ g, (Value.slice ka (decR bs).2.ks.length kc).ownBlock = some g → (Value.slice ea (decR bs).2.es.length ec).ownBlock = some g → False) ∧ Below w.heap.size w w' := by
  have hl := hb.1
  by_cases hn : n = 128
  · subst hn
    obtain ⟨g, o, rfl, _, _⟩ := hb.2.2.2.2.1 (by omega)
    have hne : bs ≠ [] := by intro h; rw [h] at hl; simp at hl
    refine (specDecode_any g o c bs w A B hB hb).mono ?_
    rintro e w' ⟨vk, ve, rfl, hO, hP, hor, hbel⟩
    have hs := dec_same hne
    by_cases hc : newCodeOf (decP bs) = bs
    · have h1 := hs.1 hc
      rw [h1] at hO hP
      have hd : decR bs = (true, decP bs) := if_pos ⟨hl, hc⟩
      rw [hd, h1]
      obtain ⟨ka, kc, rfl⟩ := own_shape hO
      obtain ⟨ea, ec, rfl⟩ := own_shape hP
      refine ⟨ka, kc, ea, ec, by rw [decide_eq_true hc]; rfl, hO, hP, ?_, hbel⟩
      intro g h1 h2
      rcases hor with e | e
      · rw [e] at h1; exact none_own _ _ _ h1
      · rw [e] at h2; exact none_own _ _ _ h2
    · have hd : decR bs = (false, zPg) := if_neg (fun h => hc h.2)
      have hf : ((sDec bs).2 && decide (newCodeOf (sDec bs).1 = bs)) = false := by
        cases h2 : (sDec bs).2 with
        | false => rfl
        | true =>
          by_cases h3 : newCodeOf (sDec bs).1 = bs
          · exact absurd (by rw [hs.2 h2 h3]; exact h3) hc
          · simp [h3]
      rw [hd, hf]
      exact ⟨none, 0, none, 0, rfl, World.ownsRow_nil _ _ _ _, World.ownsRow_nil _ _ _ _, fun g h1 _ => none_own _ _ _ h1, hbel⟩
  · refine (specDecode_short a n c hn w).mono ?_
    rintro e w' ⟨rfl, hbel⟩
    have hd : decR bs = (false, zPg) := if_neg (fun h => hn (hl.symm.trans h.1))
    rw [hd]
    exact ⟨none, 0, none, 0, rfl, World.ownsRow_nil _ _ _ _, World.ownsRow_nil _ _ _ _, fun g h1 _ => none_own _ _ _ h1, hbel⟩
/-- What is read back is a page, or the zero page: its lists fit. -/
theorem decR_fit (bs : List Int) (hb : AllB bs) : (∀ x ∈ (decR bs).2.ks, kidFit x) ∧ (∀ x ∈ (decR bs).2.es, entFit x) ∧ (decR bs).2.ks.length + (decR bs).2.es.length ≤ 255 := by
  unfold decR
  split
  · rename_i h
    have hne : bs ≠ [] := by intro e; rw [e] at h; simp at h
    have h1 := (dec_same hne).1 h.2
    have h2 : (sDec bs).1 = decP bs := by rw [h1]
    rw [show ((true, decP bs) : Bool × Pg).2 = (sDec bs).1 from h2.symm]
    refine ⟨(sDec_fit hb).2.1, (sDec_fit hb).2.2, ?_⟩
    rw [h2]
    exact code_count h.2 hne
  · exact ⟨(by intro x hx; cases hx), (by intro x hx; cases hx), Nat.zero_le _⟩
end New
end Go.Proofs.YtjbifddhbcfdcaaGreat
namespace Go.Proofs.YtjbifddhbcfdcaaGreat
open Go.RowKit Go.Maps
set_option linter.unusedVariables false
set_option maxRecDepth 100000

/-- What reading a meta answers. -/
structure MR where
  ok : Bool
  tx : Int
  id : Int
  root : Int
  count : Int
def mZ : MR := ⟨false, 0, 0, 0, 0⟩
def mStep (bs : List Int) (j : Nat) (s : MR) : MR := if (New.decR bs).2.kind = 1 ∧ (New.decR bs).2.tx % 2 = (j : Int) ∧ s.tx < (New.decR bs).2.tx then ⟨true, (New.decR bs).2.tx, (New.decR bs).2.id, (New.decR bs).2.root, (New.decR bs).2.count⟩ else s
def mIter (S : Nat → List Int) : Nat → MR
  | 0 => mZ
  | k + 1 => mStep (S k) k (mIter S k)
def MR.cells (s : MR) : Array Value := #[.bool s.ok, .int .i64 s.tx, .int .i64 s.id, .int .i64 s.root, .int .i64 s.count]
/-- Page j of a file's bytes, or nothing. -/
def cutP (fb : List Int) (j : Nat) : List Int := if j * 128 + 128 ≤ fb.length then (fb.drop (j * 128)).take 128 else []
theorem decR_none {bs : List Int} (h : bs.length ≠ 128) : New.decR bs = (false, New.zPg) := by unfold New.decR; rw [if_neg (fun e => h e.1)]
theorem decR_false {bs : List Int} (h : (New.decR bs).1 = false) : (New.decR bs).2.kind = 0 := by
  unfold New.decR at h ⊢
  split at h
  · cases h
  · rename_i hc; rw [if_neg hc]; rfl
theorem decR_zeros : (New.decR zeros).2.kind = 0 := by
  have h0 : New.rN zeros 4 1 = 0 := by kernel_rfl
  unfold New.decR
  split
  · show (New.readP zeros 8 (New.rN zeros 4 1) (New.rN zeros 5 1).toNat).kind = 0
    rw [h0]
    rfl
  · rfl
theorem mStep_none {bs : List Int} (h : (New.decR bs).2.kind = 0) (j : Nat) (s : MR) : mStep bs j s = s := by
  unfold mStep
  rw [if_neg (fun e => by rw [h] at e; exact absurd e.1 (by decide))]
theorem mStep_same {bs cs : List Int} (h : bs = cs ∨ ((New.decR bs).2.kind = 0 ∧ (New.decR cs).2.kind = 0)) (j : Nat) (s : MR) : mStep bs j s = mStep cs j s := by
  rcases h with rfl | ⟨h1, h2⟩
  · rfl
  · rw [mStep_none h1, mStep_none h2]
theorem mIter_same {S T : Nat → List Int} (h : ∀ j, S j = T j ∨ ((New.decR (S j)).2.kind = 0 ∧ (New.decR (T j)).2.kind = 0)) : ∀ k, mIter S k = mIter T k
  | 0 => rfl
  | k + 1 => by simp only [mIter]; rw [mIter_same h k]; exact mStep_same (h k) k _
/-- The page as the program's map gives it, and as the file has it. -/
theorem pages_same (L : List PF) (nm : ByteArray) (k : Nat) : mIter (fun j => (pageOf L nm (j : Int)).getD zeros) k = mIter (fun j => cutP (dataN L nm) j) k := by
  refine mIter_same (fun j => ?_) k
  show (pageOf L nm (j : Int)).getD zeros = cutP (dataN L nm) j ∨ _
  rw [pageOf_data]
  unfold pageF cutP
  by_cases h : j * 128 + 128 ≤ (dataN L nm).length
  · left
    rw [if_pos h, if_pos ⟨by omega, by omega⟩]
    simp
  · right
    rw [if_neg h, if_neg (by omega)]
    exact ⟨decR_zeros, by rw [decR_none (by simp)]; rfl⟩
theorem empty_file (k : Nat) : mIter (fun j => cutP [] j) k = mZ := by
  induction k with
  | zero => rfl
  | succ k ih =>
    simp only [mIter]
    rw [ih]
    exact mStep_none (by rw [show cutP [] k = [] from if_neg (by simp), decR_none (by simp)]; rfl) _ _
/-- The stamp of what is read is no negative number. -/
theorem decR_tx {bs : List Int} (h : ∀ x ∈ bs, 0 ≤ x ∧ x ≤ 255) : 0 ≤ (New.decR bs).2.tx ∧ (New.decR bs).2.tx ≤ 4294967295 := by
  unfold New.decR
  split
  · show 0 ≤ New.rN bs 0 4 ∧ New.rN bs 0 4 ≤ 4294967295
    unfold New.rN
    have h1 := numOf_range false (l := cutL bs 0 4) (fun x hx => h x (by unfold cutL at hx; exact List.mem_of_mem_drop (List.mem_of_mem_take hx)))
    have h2 : (cutL bs 0 4).length ≤ 4 := by unfold cutL; simp; omega
    have h3 : (256 : Int) ^ (cutL bs 0 4).length ≤ 4294967296 := by
      have : (256 : Int) ^ (cutL bs 0 4).length = ((256 ^ (cutL bs 0 4).length : Nat) : Int) := by simp
      rw [this]
      have h4 : (256 : Nat) ^ (cutL bs 0 4).length ≤ 256 ^ 4 := Nat.pow_le_pow_right (by omega) h2
      omega
    omega
  · show (0 : Int) ≤ 0 ∧ (0 : Int) ≤ 4294967295
    omega
end Go.Proofs.YtjbifddhbcfdcaaGreat
