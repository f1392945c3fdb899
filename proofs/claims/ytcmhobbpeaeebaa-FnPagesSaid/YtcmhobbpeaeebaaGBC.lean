import Derived.Test.YtcmhobbpeaeebaaGAV
import Derived.Test.YtcmhobbpeaeebaaGBA
import Derived.Test.YtcmhobbpeaeebaaDsN
namespace Go.Proofs.Ytcmhobbpeaeebaa
namespace New
open Go.RowKit
set_option linter.unusedVariables false
set_option maxRecDepth 100000

/-- What decoding answers. -/
def zPg : Pg := ⟨0, 0, 0, 0, 0, [], [], 0, ⟨#[]⟩⟩
def decR (bs : List Int) : Bool × Pg := if bs.length = 128 ∧ newCodeOf (decP bs) = bs then (true, decP bs) else (false, zPg)
theorem none_own (n c : Nat) (g : Nat) : (Value.slice none n c).ownBlock = some g → False := by intro h; simp [Value.ownBlock] at h
theorem dec_impl (a : Option Addr) (n c : Nat) (bs : List Int) (w : World) (A B : Nat) (hB : B ≤ w.heap.size) (hb : BytesAt w A B a n c bs) :
    Calls Try.prog 10 #[.slice a n c] w fun e w' => ∃ ka kc ea ec, e = .returned (.agg #[.bool (decR bs).1, .int .i64 (decR bs).2.kind, .int .i64 (decR bs).2.tx, .int .i64 (decR bs).2.id, .int .i64 (decR bs).2.root, .int .i64 (decR bs).2.count, .slice ka (decR bs).2.ks.length kc, .slice ea (decR bs).2.es.length ec, .int .i64 (decR bs).2.next, .string (decR bs).2.data]) ∧ w'.ownsRow w.heap.size 100 2 (.slice ka (decR bs).2.ks.length kc) (decR bs).2.ks.length (rowsOf kidCells (decR bs).2.ks) ∧ w'.ownsRow w.heap.size 102 4 (.slice ea (decR bs).2.es.length ec) (decR bs).2.es.length (rowsOf entCells (decR bs).2.es) ∧ (∀ g, (Value.slice ka (decR bs).2.ks.length kc).ownBlock = some g → (Value.slice ea (decR bs).2.es.length ec).ownBlock = some g → False) ∧ Below w.heap.size w w' := by
  have hl := hb.1
  by_cases hn : n = 128
  · subst hn
    obtain ⟨g, o, rfl, _, _⟩ := hb.2.2.2.2.1 (by omega)
    refine (decode_any g o c bs w A B hB hb).mono ?_
    rintro e w' ⟨vk, ve, rfl, hO, hP, hor, hbel⟩
    by_cases hc : newCodeOf (decP bs) = bs
    · have hd : decR bs = (true, decP bs) := if_pos ⟨hl, hc⟩
      rw [hd]
      obtain ⟨ka, kc, rfl⟩ := own_shape hO
      obtain ⟨ea, ec, rfl⟩ := own_shape hP
      refine ⟨ka, kc, ea, ec, by rw [decide_eq_true hc]; rfl, hO, hP, ?_, hbel⟩
      intro g h1 h2
      rcases hor with e | e
      · rw [e] at h1; exact none_own _ _ _ h1
      · rw [e] at h2; exact none_own _ _ _ h2
    · have hd : decR bs = (false, zPg) := if_neg (fun h => hc h.2)
      rw [hd]
      exact ⟨none, 0, none, 0, by rw [decide_eq_false hc]; rfl, World.ownsRow_nil _ _ _ _, World.ownsRow_nil _ _ _ _, fun g h1 _ => none_own _ _ _ h1, hbel⟩
  · refine (decode_short a n c hn w).mono ?_
    rintro e w' ⟨rfl, hbel⟩
    have hd : decR bs = (false, zPg) := if_neg (fun h => hn (hl.symm.trans h.1))
    rw [hd]
    exact ⟨none, 0, none, 0, rfl, World.ownsRow_nil _ _ _ _, World.ownsRow_nil _ _ _ _, fun g h1 _ => none_own _ _ _ h1, hbel⟩
end New
end Go.Proofs.Ytcmhobbpeaeebaa
namespace Go.Proofs.Ytcmhobbpeaeebaa
namespace New
open Go.RowKit
set_option linter.unusedVariables false
set_option maxRecDepth 100000

theorem dec_spec (a : Option Addr) (n c : Nat) (bs : List Int) (w : World) (A B : Nat) (hB : B ≤ w.heap.size) (hb : BytesAt w A B a n c bs) :
    Calls Try.prog 26 #[.slice a n c] w fun e w' => ∃ ka kc ea ec, e = .returned (.agg #[.bool (decR bs).1, .int .i64 (decR bs).2.kind, .int .i64 (decR bs).2.tx, .int .i64 (decR bs).2.id, .int .i64 (decR bs).2.root, .int .i64 (decR bs).2.count, .slice ka (decR bs).2.ks.length kc, .slice ea (decR bs).2.es.length ec, .int .i64 (decR bs).2.next, .string (decR bs).2.data]) ∧ w'.ownsRow w.heap.size 100 2 (.slice ka (decR bs).2.ks.length kc) (decR bs).2.ks.length (rowsOf kidCells (decR bs).2.ks) ∧ w'.ownsRow w.heap.size 102 4 (.slice ea (decR bs).2.es.length ec) (decR bs).2.es.length (rowsOf entCells (decR bs).2.es) ∧ (∀ g, (Value.slice ka (decR bs).2.ks.length kc).ownBlock = some g → (Value.slice ea (decR bs).2.es.length ec).ownBlock = some g → False) ∧ Below w.heap.size w w' := by
  have hl := hb.1
  by_cases hn : n = 128
  · subst hn
    obtain ⟨g, o, rfl, _, _⟩ := hb.2.2.2.2.1 (by omega)
    have hne : bs ≠ [] := by intro h; rw [h] at hl; simp at hl
    refine (specDecode_any g o c bs w A B hB hb).mono ?_
    rintro e w' ⟨vk, ve, rfl, hO, hP, hor, hbel⟩
    have hs := dec_same hne
    by_cases hc : newCodeOf (decP bs) = bs
    · have h1 := hs.1 hc
      rw [h1] at hO hP
      have hd : decR bs = (true, decP bs) := if_pos ⟨hl, hc⟩
      rw [hd, h1]
      obtain ⟨ka, kc, rfl⟩ := own_shape hO
      obtain ⟨ea, ec, rfl⟩ := own_shape hP
      refine ⟨ka, kc, ea, ec, by rw [decide_eq_true hc]; rfl, hO, hP, ?_, hbel⟩
      intro g h1 h2
      rcases hor with e | e
      · rw [e] at h1; exact none_own _ _ _ h1
      · rw [e] at h2; exact none_own _ _ _ h2
    · have hd : decR bs = (false, zPg) := if_neg (fun h => hc h.2)
      have hf : ((sDec bs).2 && decide (newCodeOf (sDec bs).1 = bs)) = false := by
        cases h2 : (sDec bs).2 with
        | false => rfl
        | true =>
          by_cases h3 : newCodeOf (sDec bs).1 = bs
          · exact absurd (by rw [hs.2 h2 h3]; exact h3) hc
          · simp [h3]
      rw [hd, hf]
      exact ⟨none, 0, none, 0, rfl, World.ownsRow_nil _ _ _ _, World.ownsRow_nil _ _ _ _, fun g h1 _ => none_own _ _ _ h1, hbel⟩
  · refine (specDecode_short a n c hn w).mono ?_
    rintro e w' ⟨rfl, hbel⟩
    have hd : decR bs = (false, zPg) := if_neg (fun h => hn (hl.symm.trans h.1))
    rw [hd]
    exact ⟨none, 0, none, 0, rfl, World.ownsRow_nil _ _ _ _, World.ownsRow_nil _ _ _ _, fun g h1 _ => none_own _ _ _ h1, hbel⟩
/-- What is read back is a page, or the zero page: its lists fit. -/
theorem decR_fit (bs : List Int) (hb : AllB bs) : (∀ x ∈ (decR bs).2.ks, kidFit x) ∧ (∀ x ∈ (decR bs).2.es, entFit x) ∧ (decR bs).2.ks.length + (decR bs).2.es.length ≤ 255 := by
  unfold decR
  split
  · rename_i h
    have hne : bs ≠ [] := by intro e; rw [e] at h; simp at h
    have h1 := (dec_same hne).1 h.2
    have h2 : (sDec bs).1 = decP bs := by rw [h1]
    rw [show ((true, decP bs) : Bool × Pg).2 = (sDec bs).1 from h2.symm]
    refine ⟨(sDec_fit hb).2.1, (sDec_fit hb).2.2, ?_⟩
    rw [h2]
    exact code_count h.2 hne
  · exact ⟨(by intro x hx; cases hx), (by intro x hx; cases hx), Nat.zero_le _⟩
end New
end Go.Proofs.Ytcmhobbpeaeebaa
namespace Go.Proofs.Ytcmhobbpeaeebaa
namespace Old
open Go.RowKit
set_option linter.unusedVariables false
set_option maxRecDepth 100000

def rN (bs : List Int) (k n : Nat) : Int := numOf true (cutL bs k n)
def tLen (bs : List Int) (k : Nat) : Nat := (rN bs k 1).toNat
def adv (k n : Nat) : Nat := min (k + n) 128
def tStr (bs : List Int) (k : Nat) : ByteArray := toB (cutL bs (adv k 1) (tLen bs k))
def tEnd (bs : List Int) (k : Nat) : Nat := adv (adv k 1) (tLen bs k)
def kEnd (bs : List Int) (k : Nat) : Nat := if true = true then adv (tEnd bs k) (8 - (tStr bs k).size) else tEnd bs k
/-- A cursor of this format at k, over bytes that lie below it. -/
structure RAt (w : World) (C g o c A B : Nat) (bs : List Int) (k : Nat) : Prop where
  cur : RCur w C g o c true 85 86 k
  byt : BytesAt w A B (some ⟨g, o, none⟩) 128 c bs
  low : B ≤ C
  top : B ≤ w.heap.size
  pos : k ≤ 128
theorem RAt.mv {w w' : World} {C g o c A B : Nat} {bs : List Int} {k k' : Nat} (h : RAt w C g o c A B bs k) (hm : Mv w w' C g o c true 85 86 k') (hk : k' ≤ 128) : RAt w' C g o c A B bs k' :=
  ⟨hm.1, h.byt.fr hm.2 h.low h.top, h.low, Nat.le_trans h.top hm.2.size, hk⟩
theorem RAt.drew {w : World} {C g o c A B : Nat} {bs : List Int} {k : Nat} (h : RAt w C g o c A B bs k) : RAt w.drew C g o c A B bs k := ⟨h.cur.drew, h.byt, h.low, h.top, h.pos⟩
theorem adv_le (k n : Nat) : adv k n ≤ 128 := by unfold adv; omega
theorem rN_range {w : World} {C g o c A B : Nat} {bs : List Int} {k : Nat} (h : RAt w C g o c A B bs k) (j n : Nat) : 0 ≤ rN bs j n ∧ rN bs j n < 256 ^ (min (j + n) 128 - j) := by
  have := numOf_range true (l := cutL bs j n) (fun x hx => h.byt.2.2.2.1 x (List.mem_of_mem_drop (List.mem_of_mem_take hx)))
  rw [cutL_len h.byt.1] at this
  exact this
theorem rN_small {w : World} {C g o c A B : Nat} {bs : List Int} {k : Nat} (h : RAt w C g o c A B bs k) (j n : Nat) (hn : n ≤ 4) : 0 ≤ rN bs j n ∧ rN bs j n < 4294967296 := by
  have h1 := rN_range h j n
  refine ⟨h1.1, Int.lt_of_lt_of_le h1.2 ?_⟩
  have h4 : min (j + n) 128 - j ≤ 4 := by omega
  generalize min (j + n) 128 - j = m at h4
  have h5 : m = 0 ∨ m = 1 ∨ m = 2 ∨ m = 3 ∨ m = 4 := by omega
  rcases h5 with rfl | rfl | rfl | rfl | rfl <;> decide
theorem rN_one {w : World} {C g o c A B : Nat} {bs : List Int} {k : Nat} (h : RAt w C g o c A B bs k) (j : Nat) : 0 ≤ rN bs j 1 ∧ rN bs j 1 ≤ 255 := by
  have h1 := rN_range h j 1
  refine ⟨h1.1, ?_⟩
  have h4 : min (j + 1) 128 - j ≤ 1 := by omega
  generalize min (j + 1) 128 - j = m at h4 h1
  have h5 : m = 0 ∨ m = 1 := by omega
  rcases h5 with rfl | rfl <;> simp at h1 <;> omega
theorem tLen_le {w : World} {C g o c A B : Nat} {bs : List Int} {k : Nat} (h : RAt w C g o c A B bs k) (j : Nat) : tLen bs j ≤ 255 := by
  have := rN_one h j
  unfold tLen
  omega
theorem tStr_size {w : World} {C g o c A B : Nat} {bs : List Int} {k : Nat} (h : RAt w C g o c A B bs k) (j : Nat) : (tStr bs j).size ≤ 255 := by
  have h1 := tLen_le h j
  rw [tStr, toB_size, cutL_len h.byt.1]
  omega
theorem Get (C g o c A B : Nat) (bs : List Int) (k n : Nat) (hn : n ≤ 4) (w : World) (h : RAt w C g o c A B bs k) :
    Calls Try.prog 86 #[.pointer (some ⟨C, 0, none⟩), .int .i64 n] w fun e w' => e = .returned (.int .i64 (rN bs k n)) ∧ Mv w w' C g o c true 85 86 (adv k n) :=
  getHigh_any C g o c _ _ k true n hn h.pos bs A B h.low w h.top h.byt h.cur
theorem smallWidthR (C g o c A B : Nat) (bs : List Int) (k : Nat) (w : World) (h : RAt w C g o c A B bs k) :
    Calls Try.prog 125 #[.pointer (some ⟨C, 0, none⟩)] w fun e w' => e = .returned (.int .i64 (smallN true)) ∧ w' = w := by
  obtain ⟨c0, c1, c2, c3, c4⟩ := h.cur.cells
  go_enter Try.func125, Try.ntmps125
  go_wp2
  go_ret
  exact ⟨rfl, rfl⟩
set_option maxHeartbeats 800000 in
theorem getSmall_any (C g o c A B : Nat) (bs : List Int) (k : Nat) (w : World) (h : RAt w C g o c A B bs k) :
    Calls Try.prog 123 #[.pointer (some ⟨C, 0, none⟩)] w fun e w' => e = .returned (.int .i64 (rN bs k (smallN true))) ∧ Mv w w' C g o c true 85 86 (adv k (smallN true)) := by
  obtain ⟨c0, c1, c2, c3, c4⟩ := h.cur.cells
  go_enter Try.func123, Try.ntmps123
  go_wp2_with fail
  go_region_held3 (fun w' => w'.cell? ⟨C, 4, none⟩ = some (.func (.func 86) #[.pointer (some ⟨C, 0, none⟩)] #[])) (go_keep)
    (first
      | (go_at_call 125; refine (smallWidthR C g o c A B bs k w.drew h.drew).mono ?_; rintro e w1 ⟨rfl, rfl⟩)
      | (go_at_call 86; refine (Get C g o c A B bs k (smallN true) (by decide) w.drew h.drew).mono ?_; rintro e w2 ⟨rfl, hM⟩; obtain ⟨_, _, _, _, q4⟩ := hM.1.cells))
  all_goals
    go_wp2
    go_ret
    exact ⟨rfl, hM.redraw⟩
set_option maxHeartbeats 800000 in
theorem getText_any (C g o c A B : Nat) (bs : List Int) (k : Nat) (w : World) (h : RAt w C g o c A B bs k) :
    Calls Try.prog 131 #[.pointer (some ⟨C, 0, none⟩)] w fun e w' => e = .returned (.string (tStr bs k)) ∧ Mv w w' C g o c true 85 86 (tEnd bs k) := by
  obtain ⟨c0, c1, c2, c3, c4⟩ := h.cur.cells
  have hone := rN_one h k
  have hw64 : IntKind.i64.wrap (rN bs k 1) = rN bs k 1 := by rw [IntKind.wrap_i64]; omega
  have HT : Hid (tStr bs k = toB (cutL bs (adv k 1) (rN bs k 1).toNat)) := rfl
  have HE : Hid (tEnd bs k = adv (adv k 1) (rN bs k 1).toNat) := rfl
  have HA := rN_one h k
  go_enter Try.func131, Try.ntmps131
  go_wp2_with fail
  refine (Get C g o c A B bs k 1 (by omega) w h).mono ?_
  rintro e w1 ⟨rfl, hM1⟩
  have h1 := h.mv hM1 (adv_le _ _)
  obtain ⟨d0, d1, d2, d3, d4⟩ := h1.cur.cells
  generalize hx : rN bs k 1 = x at hone hw64 HT HE ⊢
  obtain ⟨n, rfl⟩ : ∃ n : Nat, x = (n : Int) := ⟨x.toNat, by omega⟩
  simp only [Int.toNat_natCast] at HT HE
  clear hx c0 c1 c2 c3 c4 HA
  go_wp2_with fail
  refine (take_any C g o c _ _ (adv k 1) true n (by omega) h1.pos bs A B h1.low w1 h1.top h1.byt h1.cur).mono ?_
  rintro e w2 ⟨a2, c2, rfl, hB2, hM2⟩
  have hcv := str_conv hB2
  go_wp2
  go_ret
  rw [HT.out, HE.out]
  exact ⟨rfl, hM1.trans hM2⟩
set_option maxHeartbeats 800000 in
theorem getKey_any (C g o c A B : Nat) (bs : List Int) (k : Nat) (w : World) (h : RAt w C g o c A B bs k) :
    Calls Try.prog 116 #[.pointer (some ⟨C, 0, none⟩)] w fun e w' => e = .returned (.string (tStr bs k)) ∧ Mv w w' C g o c true 85 86 (kEnd bs k) := by
  have hsz := tStr_size h k
  go_enter Try.func116, Try.ntmps116
  go_wp2_with fail
  refine (getText_any C g o c A B bs k w h).mono ?_
  rintro e w1 ⟨rfl, hM1⟩
  have h1 := h.mv hM1 (adv_le _ _)
  obtain ⟨d0, d1, d2, d3, d4⟩ := h1.cur.cells
  have HK : Hid (kEnd bs k = if true = true then adv (tEnd bs k) (8 - (tStr bs k).size) else tEnd bs k) := rfl
  have HM : Hid (Mv w w1 C g o c true 85 86 (tEnd bs k)) := hM1
  clear hM1
  generalize tEnd bs k = te at h1 d1 HK HM ⊢
  generalize hts : tStr bs k = ts at hsz HK ⊢
  have HS : Hid (tStr bs k = ts) := hts
  clear hts
  by_cases h8 : ts.size ≤ 8
  · have e : (8 : Int) - (ts.size : Int) = ((8 - ts.size : Nat) : Int) := by omega
    go_wp2_with fail
    first
      | (go_ret; rw [HK.out, HS.out, if_neg (by decide)]; exact ⟨rfl, HM.out⟩)
      | (try rw [e]
         refine (take_any C g o c _ _ te true (8 - ts.size) (by omega) h1.pos bs A B h1.low w1 h1.top h1.byt h1.cur).mono ?_
         rintro e w2 ⟨a2, c2, rfl, hB2, hM2⟩
         go_wp2
         go_ret
         rw [HK.out, HS.out, if_pos (by decide)]
         exact ⟨rfl, HM.out.trans hM2⟩)
  · have e : 8 - ts.size = 0 := by omega
    have hneg : (8 : Int) - (ts.size : Int) < 0 := by omega
    go_wp2_with fail
    first
      | (go_ret; rw [HK.out, HS.out, if_neg (by decide)]; exact ⟨rfl, HM.out⟩)
      | (refine (take_any C g o c _ _ te true 0 (by omega) h1.pos bs A B h1.low w1 h1.top h1.byt h1.cur).mono ?_
         rintro e' w2 ⟨a2, c2, rfl, hB2, hM2⟩
         go_wp2
         go_ret
         rw [HK.out, HS.out, if_pos (by decide), e]
         exact ⟨rfl, HM.out.trans hM2⟩)
end Old
end Go.Proofs.Ytcmhobbpeaeebaa
namespace Go.Proofs.Ytcmhobbpeaeebaa
namespace Old
open Go.RowKit
set_option linter.unusedVariables false
set_option maxRecDepth 100000

theorem Fr.weaken {S T : Nat → Prop} {a b : World} (h : Fr S a b) (hst : ∀ x, S x → T x) : Fr T a b := ⟨h.1, h.2, h.3, h.4, fun k hk hT => h.block k hk (fun hs => hT (hst k hs))⟩
theorem box_frozen {w : World} {M t : Nat} {cs : Array Value} (h : w.heap[M]? = some (.cells cs t)) (j : Nat) : w.frozen? ⟨M, j, none⟩ = false := by simp [World.frozen?, h]
theorem box_two2 {w : World} {N : Nat} {v0 v1 : Value} {t : TypeId} (h : w.heap[N]? = some (.cells #[v0, v1] t)) : w.cell? ⟨N, 0, none⟩ = some v0 ∧ w.cell? ⟨N, 1, none⟩ = some v1 := by
  simp [World.cell?, h]
/-- The cursor went on to k', block M holds the box; nothing else that was there is written. -/
structure Rd (w w' : World) (C g o c A B : Nat) (bs : List Int) (k : Nat) (M : Nat) (box : Obj) : Prop where
  at' : RAt w' C g o c A B bs k
  box : w'.heap[M]? = some box
  fr : Fr (fun x => x = C ∨ x = M) w w'
theorem Rd.start {w : World} {C g o c A B : Nat} {bs : List Int} {k M : Nat} {box : Obj} (h : RAt w C g o c A B bs k) (hM : w.heap[M]? = some box) : Rd w w C g o c A B bs k M box := ⟨h, hM, Fr.refl _ _⟩
theorem Rd.mv {w w1 w2 : World} {C g o c A B : Nat} {bs : List Int} {k k' M : Nat} {box : Obj} (h : Rd w w1 C g o c A B bs k M box) (hMC : M ≠ C) (hm : Mv w1 w2 C g o c true 85 86 k') (hk : k' ≤ 128) : Rd w w2 C g o c A B bs k' M box :=
  ⟨h.at'.mv hm hk, (hm.2.block M (Array.getElem?_eq_some_iff.1 h.box).1 hMC).trans h.box, h.fr.trans (Fr.weaken hm.2 fun x hx => .inl hx)⟩
theorem Rd.drew {w w1 : World} {C g o c A B : Nat} {bs : List Int} {k M : Nat} {box : Obj} (h : Rd w w1 C g o c A B bs k M box) : Rd w w1.drew C g o c A B bs k M box := ⟨h.at'.drew, h.box, h.fr.trans (Fr.of_below (Below.refl _ _).drew)⟩
theorem Rd.redraw {w w1 : World} {C g o c A B : Nat} {bs : List Int} {k M : Nat} {box : Obj} (h : Rd w.drew w1 C g o c A B bs k M box) : Rd w w1 C g o c A B bs k M box := ⟨h.at', h.box, (Fr.of_below (Below.refl _ _).drew).trans h.fr⟩
theorem Rd.drewN {w w1 : World} {C g o c A B : Nat} {bs : List Int} {k M : Nat} {box : Obj} (h : Rd w w1 C g o c A B bs k M box) (q : Nat) : Rd w (w1.drewN q) C g o c A B bs k M box := ⟨⟨⟨h.at'.cur.box⟩, h.at'.byt, h.at'.low, h.at'.top, h.at'.pos⟩, h.box, h.fr.trans (Fr.of_below ⟨rfl, rfl, rfl, Nat.le_refl _, fun _ _ => rfl⟩)⟩
/-- A store into the box at M. -/
theorem Rd.put {w w1 : World} {C g o c A B : Nat} {bs : List Int} {k M t : Nat} {cs : Array Value} (h : Rd w w1 C g o c A B bs k M (.cells cs t)) (hMC : M ≠ C) (hBM : B ≤ M) (i : Nat) (v : Value) : Rd w (w1.setCell ⟨M, i, none⟩ v) C g o c A B bs k M (.cells (cs.setIfInBounds i v) t) := by
  have hs : ∀ x, x ≠ M → (w1.setCell ⟨M, i, none⟩ v).heap[x]? = w1.heap[x]? := fun x hx => Below.heap_setCell w1 ⟨M, i, none⟩ v x hx
  have hz : (w1.setCell ⟨M, i, none⟩ v).heap.size = w1.heap.size := by simp [World.setCell]
  refine ⟨⟨⟨(hs C (Ne.symm hMC)).trans h.at'.cur.box⟩, h.at'.byt.keep (fun x k1 k2 => hs x (by omega)), h.at'.low, by rw [hz]; exact h.at'.top, h.at'.pos⟩, ?_, h.fr.trans ⟨rfl, rfl, rfl, by rw [hz]; exact Nat.le_refl _, fun x _ hx => hs x (fun e => hx (.inr e))⟩⟩
  simp [World.setCell, Array.getElem?_modify, h.box]

def oNext (bs : List Int) (k : Nat) : Int := rN bs k (smallN true)
def oData (bs : List Int) (k : Nat) : ByteArray := tStr bs (adv k (smallN true))
def oEnd (bs : List Int) (k : Nat) : Nat := tEnd bs (adv k (smallN true))
set_option maxHeartbeats 800000 in
theorem overRead_any (C g o c A B : Nat) (bs : List Int) (k M : Nat) (count : Int) (w : World) (h : RAt w C g o c A B bs k) (hMC : M ≠ C) (hBM : B ≤ M) (n0 : Int) (d0 : ByteArray) (hM : w.heap[M]? = some (.cells #[.int .i64 n0, .string d0] 145)) :
    Calls Try.prog 143 #[.pointer (some ⟨M, 0, none⟩), .pointer (some ⟨C, 0, none⟩), .int .i64 count] w fun e w' => e = .returned (.tuple #[]) ∧ Rd w w' C g o c A B bs (oEnd bs k) M (.cells #[.int .i64 (oNext bs k), .string (oData bs k)] 145) := by
  have R0 := Rd.start h hM
  go_enter Try.func143, Try.ntmps143
  go_wp2_with fail
  refine (getSmall_any C g o c A B bs k w h).mono ?_
  rintro e w1 ⟨rfl, hM1⟩
  have R1 := R0.mv hMC hM1 (adv_le _ _)
  obtain ⟨x0, x1⟩ := box_two2 R1.box
  have f1 := box_frozen R1.box
  have R2 := R1.put hMC hBM 0 (.int .i64 (rN bs k (smallN true)))
  clear R0 hM1 R1
  go_wp2_with fail
  clear x0 x1 f1
  generalize w1.setCell ⟨M, 0, none⟩ (.int .i64 (rN bs k (smallN true))) = w2 at R2 ⊢
  refine (getText_any C g o c A B bs (adv k (smallN true)) w2 R2.at').mono ?_
  rintro e w3 ⟨rfl, hM3⟩
  have R3 := R2.mv hMC hM3 (adv_le _ _)
  obtain ⟨x0, x1⟩ := box_two2 (w := w3) (N := M) (by simpa using R3.box)
  have f3 := box_frozen R3.box
  have R4 := R3.put hMC hBM 1 (.string (tStr bs (adv k (smallN true))))
  clear R2 hM3 R3
  go_wp2
  go_end0
  exact ⟨rfl, by simpa [oNext, oData, oEnd] using R4⟩
end Old
end Go.Proofs.Ytcmhobbpeaeebaa
