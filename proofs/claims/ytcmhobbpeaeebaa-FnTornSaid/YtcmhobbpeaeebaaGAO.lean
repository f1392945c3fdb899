import Derived.Test.YtcmhobbpeaeebaaGAK
import Derived.Test.YtcmhobbpeaeebaaDh
namespace Go.Proofs.Ytcmhobbpeaeebaa
open Go.RowKit
set_option linter.unusedVariables false
set_option maxRecDepth 100000

theorem DPg.fr {w w' : World} {T m : Nat} {Φ : Pg → Prop} {v : Value} {F : Nat → Prop} (h : DPg w T m Φ v) (hF : Fr F w w') (hS : ∀ g, F g → g < T) : DPg w' T m Φ v := by
  obtain ⟨p, ka, kc, ea, ec, rfl, hf, hk, he, hkf, hef, hO, hP, hap, hlo⟩ := h
  exact ⟨p, ka, kc, ea, ec, rfl, hf, hk, he, hkf, hef, owns_fr hO hF (fun g e e' => by have := (hO.lt g e).1; have := hS g e'; omega), owns_fr hP hF (fun g e e' => by have := (hP.lt g e).1; have := hS g e'; omega), hap, hlo⟩
theorem DPg.below {w w' : World} {T m : Nat} {Φ : Pg → Prop} {v : Value} (h : DPg w T m Φ v) (hb : Below w.heap.size w w') : DPg w' T m Φ v := by
  obtain ⟨p, ka, kc, ea, ec, rfl, hf, hk, he, hkf, hef, hO, hP, hap, hlo⟩ := h
  exact ⟨p, ka, kc, ea, ec, rfl, hf, hk, he, hkf, hef, owns_below hO hb, owns_below hP hb, hap, hlo⟩
theorem DPg.weak {w : World} {T T' m m' : Nat} {Φ Ψ : Pg → Prop} {v : Value} (h : DPg w T m Φ v) (hT : T' ≤ T) (hm : m ≤ m') (hl : ∀ p, Φ p → Ψ p) : DPg w T' m' Ψ v := by
  obtain ⟨p, ka, kc, ea, ec, rfl, hf, hk, he, hkf, hef, hO, hP, hap, hlo⟩ := h
  exact ⟨p, ka, kc, ea, ec, rfl, hf, by omega, by omega, hkf, hef, own_lowerD hO hT, own_lowerD hP hT, hap, hl _ hlo⟩
set_option maxHeartbeats 1600000 in
theorem drawEncodePage_any (a : Option Addr) (n c : Nat) (bs : List Int) (w : World) (A B : Nat) (hB : B ≤ w.heap.size) (h : BytesAt w A B a n c bs) :
    Calls Try.prog 8 #[.slice a n c] w fun e w' => ∃ v, e = .returned v ∧ DPg w' w.heap.size 21 (fun p => -1 ≤ p.tx) v ∧ Below w.heap.size w w' := by
  go_enter Try.func8, Try.ntmps8
  go_wp2_with fail
  have HR0 := heap_alloc_new w (.cells #[.int .i64 0, .int .i64 0, .int .i64 0, .int .i64 0, .int .i64 0, .slice none 0 0, .slice none 0 0, .int .i64 0, .string ⟨#[]⟩] 28)
  have hb0 : Below w.heap.size w (w.alloc (.cells #[.int .i64 0, .int .i64 0, .int .i64 0, .int .i64 0, .int .i64 0, .slice none 0 0, .slice none 0 0, .int .i64 0, .string ⟨#[]⟩] 28)) := (Below.refl _ _).alloc (Nat.le_refl _) _
  have h0 := h.below (hb0.mono hB)
  generalize w.alloc (.cells #[.int .i64 0, .int .i64 0, .int .i64 0, .int .i64 0, .int .i64 0, .slice none 0 0, .slice none 0 0, .int .i64 0, .string ⟨#[]⟩] 28) = w0 at HR0 hb0 h0 ⊢
  have hR0 : w.heap.size < w0.heap.size := (Array.getElem?_eq_some_iff.1 HR0).1
  refine (l1New_any a n c bs w0 A B (Nat.le_trans hB hb0.size) h0).mono ?_
  rintro e w1 ⟨C, rfl, hC, hD1, hb1⟩
  have HR1 := (hb1.block _ hR0).trans HR0
  have b1 := hb0.trans (hb1.mono hb0.size)
  clear HR0 hb0 h0 hb1 h
  have hRC : w.heap.size < C := by omega
  clear hC
  go_wp2_with fail
  refine (l2DrawTx_any C A B w1 hD1).mono ?_
  rintro e w2 ⟨tx, rfl, htx, hD2, hF2⟩
  have HR2 := (hF2.block _ (Array.getElem?_eq_some_iff.1 HR1).1 (by omega)).trans HR1
  have b2 := b1.trans (hF2.below b1.size (fun g e => by omega))
  clear HR1 b1 hD1 hF2
  go_wp2_with fail
  have hC2 := hD2.lt
  refine (l2DrawPage_any C A B w2 hD2 2 999 tx (by omega) (by omega) htx).mono ?_
  rintro e w3 ⟨v, rfl, hv, hD3, hF3⟩
  have HR3 := (hF3.block _ (Array.getElem?_eq_some_iff.1 HR2).1 (by omega)).trans HR2
  have b3 := b2.trans (hF3.below b2.size (fun g e => by omega))
  have hs23 := hF3.size
  have hv' := hv
  obtain ⟨p, ka, kc, ea, ec, rfl, hf, hk, he, hkf, hef, hO, hP, hap, hlo⟩ := hv'
  clear hO hP hap hlo hf hkf hef HR2 b2 hD2 hF3 hk he
  go_wp2_with fail
  have HP4 := heap_alloc_new w3 (.cells #[.int .i64 p.kind, .int .i64 p.tx, .int .i64 p.id, .int .i64 p.root, .int .i64 p.count, .slice ka p.ks.length kc, .slice ea p.es.length ec, .int .i64 p.next, .string p.data] 28)
  have hal : Below w3.heap.size w3 (w3.alloc (.cells #[.int .i64 p.kind, .int .i64 p.tx, .int .i64 p.id, .int .i64 p.root, .int .i64 p.count, .slice ka p.ks.length kc, .slice ea p.es.length ec, .int .i64 p.next, .string p.data] 28)) := (Below.refl _ _).alloc (Nat.le_refl _) _
  generalize w3.alloc (.cells #[.int .i64 p.kind, .int .i64 p.tx, .int .i64 p.id, .int .i64 p.root, .int .i64 p.count, .slice ka p.ks.length kc, .slice ea p.es.length ec, .int .i64 p.next, .string p.data] 28) = w4 at HP4 hal ⊢
  have HR4 := (hal.block _ (Array.getElem?_eq_some_iff.1 HR3).1).trans HR3
  have b4 := b3.trans (hal.mono b3.size)
  have hD4 := hD3.below hal
  have hv4 := hv.below hal
  have hs34 := hal.size
  have hRP : w.heap.size < w3.heap.size := (Array.getElem?_eq_some_iff.1 HR3).1
  have hCP : C < w3.heap.size := hD3.lt
  clear HR3 b3 hD3 hv hal
  generalize w3.heap.size = P at HP4 hRP hCP hs34 hs23 ⊢
  refine (l1Once_any C A B w4 hD4 5 (by omega) (by omega)).mono ?_
  rintro e w5 ⟨b, rfl, hD5, hF5⟩
  have HR5 := (hF5.block _ (Array.getElem?_eq_some_iff.1 HR4).1 (by omega)).trans HR4
  have HP5 := (hF5.block _ (Array.getElem?_eq_some_iff.1 HP4).1 (by omega)).trans HP4
  have b5 := b4.trans (hF5.below b4.size (fun g e => by omega))
  have hs45 := hF5.size
  have hv5 := hv4.fr hF5 (fun g e => by omega)
  clear HR4 HP4 b4 hD4 hF5 hv4
  obtain ⟨p0, p1, p2, p3, p4, p5, p6, p7, p8⟩ := box_page HP5
  cases b
  · obtain ⟨r0, r1, r2, r3, r4, r5, r6, r7, r8⟩ := box_page HR5
    have ff := box_thaw HR5
    have HB := put9D_box HR5 (.int .i64 p.kind) (.int .i64 p.tx) (.int .i64 p.id) (.int .i64 p.root) (.int .i64 p.count) (.slice ka p.ks.length kc) (.slice ea p.es.length ec) (.int .i64 p.next) (.string p.data)
    have hz := put9D_fr w5 w.heap.size (.int .i64 p.kind) (.int .i64 p.tx) (.int .i64 p.id) (.int .i64 p.root) (.int .i64 p.count) (.slice ka p.ks.length kc) (.slice ea p.es.length ec) (.int .i64 p.next) (.string p.data)
    have hbZ := b5.trans (hz.below b5.size (fun g e => by omega))
    have hvZ := (hv5.fr hz (fun g e => by omega)).weak (show w.heap.size ≤ w2.heap.size by omega) (show 20 ≤ 21 by omega) (fun p hp => by show (-1 : Int) ≤ p.tx; have := hp.1; omega)
    have HV : Hid _ := hvZ
    clear hvZ hv5 hz
    go_wp2
    show bodyPost _ _ _ _ _ (put9D w5 w.heap.size (.int .i64 p.kind) (.int .i64 p.tx) (.int .i64 p.id) (.int .i64 p.root) (.int .i64 p.count) (.slice ka p.ks.length kc) (.slice ea p.es.length ec) (.int .i64 p.next) (.string p.data))
    clear r0 r1 r2 r3 r4 r5 r6 r7 r8
    obtain ⟨r0, r1, r2, r3, r4, r5, r6, r7, r8⟩ := box_page HB
    refine bodyPost_ret (v := .agg #[.int .i64 p.kind, .int .i64 p.tx, .int .i64 p.id, .int .i64 p.root, .int .i64 p.count, .slice ka p.ks.length kc, .slice ea p.es.length ec, .int .i64 p.next, .string p.data]) (by simp [results, Try.results8, go_sem, r0, r1, r2, r3, r4, r5, r6, r7, r8]) rfl ?_
    exact ⟨_, rfl, HV.out, hbZ⟩
  · go_wp2_with fail
    refine (l2SpoilPage_any C A B w5 hD5 (w.heap.size + 1) w2.heap.size (by omega) hC2 (by omega) _ (hv5.weak (Nat.le_refl _) (Nat.le_refl _) (fun p hp => by show (0 : Int) ≤ p.tx; have := hp.1; omega))).mono ?_
    rintro e w6 ⟨v, rfl, hv6, hb6⟩
    have HR6 := (hb6.block _ (by omega)).trans HR5
    have b6 := b5.trans (hb6.mono (by omega))
    have hv6' := hv6
    clear p0 p1 p2 p3 p4 p5 p6 p7 p8 HP5 HR5 hD5 hv5 hb6 b5
    obtain ⟨p, ka, kc, ea, ec, rfl, hf, hk, he, hkf, hef, hO, hP, hap, hlo⟩ := hv6'
    clear hO hP hap hlo hf hkf hef hk he
    obtain ⟨r0, r1, r2, r3, r4, r5, r6, r7, r8⟩ := box_page HR6
    have ff := box_thaw HR6
    have HB := put9D_box HR6 (.int .i64 p.kind) (.int .i64 p.tx) (.int .i64 p.id) (.int .i64 p.root) (.int .i64 p.count) (.slice ka p.ks.length kc) (.slice ea p.es.length ec) (.int .i64 p.next) (.string p.data)
    have hz := put9D_fr w6 w.heap.size (.int .i64 p.kind) (.int .i64 p.tx) (.int .i64 p.id) (.int .i64 p.root) (.int .i64 p.count) (.slice ka p.ks.length kc) (.slice ea p.es.length ec) (.int .i64 p.next) (.string p.data)
    have hbZ := b6.trans (hz.below b6.size (fun g e => by omega))
    have hvZ := (hv6.fr hz (fun g e => by omega)).weak (show w.heap.size ≤ w2.heap.size by omega) (Nat.le_refl _) (fun p hp => hp)
    have HV : Hid _ := hvZ
    clear hvZ hv6 hz
    go_wp2
    show bodyPost _ _ _ _ _ (put9D w6 w.heap.size (.int .i64 p.kind) (.int .i64 p.tx) (.int .i64 p.id) (.int .i64 p.root) (.int .i64 p.count) (.slice ka p.ks.length kc) (.slice ea p.es.length ec) (.int .i64 p.next) (.string p.data))
    clear r0 r1 r2 r3 r4 r5 r6 r7 r8
    obtain ⟨r0, r1, r2, r3, r4, r5, r6, r7, r8⟩ := box_page HB
    refine bodyPost_ret (v := .agg #[.int .i64 p.kind, .int .i64 p.tx, .int .i64 p.id, .int .i64 p.root, .int .i64 p.count, .slice ka p.ks.length kc, .slice ea p.es.length ec, .int .i64 p.next, .string p.data]) (by simp [results, Try.results8, go_sem, r0, r1, r2, r3, r4, r5, r6, r7, r8]) rfl ?_
    exact ⟨_, rfl, HV.out, hbZ⟩
end Go.Proofs.Ytcmhobbpeaeebaa
namespace Go.Proofs.Ytcmhobbpeaeebaa
open Go.RowKit
set_option linter.unusedVariables false
set_option maxRecDepth 100000

def padB (n : Nat) (l : List Int) : List Int := l ++ List.replicate (n - l.length) 0
def sumI (l : List Int) : Int := l.foldl (· + ·) 0
def oldCode (p : Pg) : List Int :=
  padB 127 ([79, p.kind, ((p.ks.length + p.es.length : Nat) : Int)] ++ bodyB true p) ++ [sumI (padB 127 ([79, p.kind, ((p.ks.length + p.es.length : Nat) : Int)] ++ bodyB true p)) % 256]
def oldCodeOf (p : Pg) : List Int := if p.tx = 0 ∧ bodyOk 1 998 p = true then oldCode p else []

theorem body_count {low last : Int} {p : Pg} (h : bodyOk low last p = true) : p.ks.length + p.es.length ≤ 255 := by
  unfold bodyOk at h
  split at h
  · simp [metaOk] at h; have h1 := h.1.1.1.2; have h2 := h.1.1.2; simp [h1, h2]
  · split at h
    · have := (branch_sizes h).1; simp [branchOk] at h; have h2 := h.1.1.1.1.1.1.2; simp [h2]; omega
    · split at h
      · have := (leaf_sizes h).1; simp [leafOk] at h; have h2 := h.1.1.1.1.2; simp [h2]; omega
      · split at h
        · simp [overOk] at h; have h1 := h.1.1.1.1.2; have h2 := h.1.1.1.2; simp [h1, h2]
        · cases h
theorem body_kind {low last : Int} {p : Pg} (h : bodyOk low last p = true) : 0 ≤ p.kind ∧ p.kind ≤ 255 := by
  unfold bodyOk at h
  split at h
  · omega
  · split at h
    · omega
    · split at h
      · omega
      · split at h
        · omega
        · cases h
theorem textB_byte {s : ByteArray} (h : s.size ≤ 255) : ∀ x ∈ textB s, 0 ≤ x ∧ x ≤ 255 := by
  intro x hx
  rcases List.mem_cons.1 hx with rfl | hx
  · omega
  · exact strB_byte s x hx
theorem bytes_app {a b : List Int} (ha : ∀ x ∈ a, 0 ≤ x ∧ x ≤ 255) (hb : ∀ x ∈ b, 0 ≤ x ∧ x ≤ 255) : ∀ x ∈ a ++ b, 0 ≤ x ∧ x ≤ 255 := by
  intro x hx
  rcases List.mem_append.1 hx with h | h
  · exact ha x h
  · exact hb x h
theorem kidsB_byte (hi : Bool) (nw : Nat) (ks : List PK) : ∀ n, (∀ i, i < n → 0 < i → (ks.getD i dK).1.size ≤ 8) → ∀ x ∈ kidsB hi nw ks n, 0 ≤ x ∧ x ≤ 255
  | 0, _ => by intro x hx; cases hx
  | n + 1, h => by
    refine bytes_app (kidsB_byte hi nw ks n (fun i h1 h2 => h i (by omega) h2)) (bytes_app ?_ (numB_byte _ _ _))
    split
    · rename_i h0; exact textB_byte (by have := h n (by omega) h0; omega)
    · intro x hx; cases hx
theorem entsB_byte (hi : Bool) (nw : Nat) (es : List PE) : ∀ n, (∀ i, i < n → (es.getD i dE).1.size ≤ 8 ∧ (es.getD i dE).2.1.size ≤ 8) → ∀ x ∈ entsB hi nw es n, 0 ≤ x ∧ x ≤ 255
  | 0, _ => by intro x hx; cases hx
  | n + 1, h => by
    have h8 := h n (by omega)
    refine bytes_app (entsB_byte hi nw es n (fun i h1 => h i (by omega))) (bytes_app (bytes_app (textB_byte (by omega)) ?_) ?_)
    · split
      · intro x hx; have := List.eq_of_mem_replicate hx; omega
      · intro x hx; cases hx
    · split
      · intro x hx
        rcases List.mem_cons.1 hx with rfl | hx
        · omega
        · exact textB_byte (by omega) x hx
      · intro x hx
        rcases List.mem_cons.1 hx with rfl | hx
        · omega
        · exact bytes_app (numB_byte _ _ _) (numB_byte _ _ _) x hx
theorem bodyB_byte (hi : Bool) {low last : Int} {p : Pg} (h : bodyOk low last p = true) : ∀ x ∈ bodyB hi p, 0 ≤ x ∧ x ≤ 255 := by
  unfold bodyOk at h
  unfold bodyB
  split at h
  · rename_i h1; rw [if_pos h1]
    cases hi
    · exact bytes_app (bytes_app (bytes_app (leB_byte _ _) (leB_byte _ _)) (leB_byte _ _)) (by intro x hx; simp at hx; omega)
    · exact bytes_app (bytes_app (beB_byte _ _) (beB_byte _ _)) (beB_byte _ _)
  · rename_i h1
    rw [if_neg h1]
    split at h
    · rename_i h2; rw [if_pos h2]; exact kidsB_byte _ _ _ _ (branch_sizes h).2
    · rename_i h2; rw [if_neg h2]
      split at h
      · rename_i h3; rw [if_pos h3]; exact entsB_byte _ _ _ _ (leaf_sizes h).2
      · rename_i h3; rw [if_neg h3]
        split at h
        · rename_i h4; rw [if_pos h4]
          exact bytes_app (numB_byte _ _ _) (textB_byte (by have := over_size h; omega))
        · cases h
theorem bytesAt_row {w : World} {base n c : Nat} {a : Option Addr} {bs : List Int} (h : w.ownsRow base 5 1 (.slice a n c) n (u8s bs)) (hw : ∀ x ∈ bs, 0 ≤ x ∧ x ≤ 255) : BytesAt w base w.heap.size a n c bs := by
  have hn : n = bs.length := by have := h.1; simp [u8s] at this; omega
  subst hn
  obtain ⟨a', n', c', hv, hB⟩ := bytesAt_of_own h hw
  injection hv with h1 h2 h3
  subst h1 h2 h3
  exact hB

theorem getD_byteB {bs : List Int} (hw : ∀ x ∈ bs, 0 ≤ x ∧ x ≤ 255) (k : Nat) : 0 ≤ bs.getD k 0 ∧ bs.getD k 0 ≤ 255 := by
  by_cases h : k < bs.length
  · rw [show bs.getD k 0 = bs[k] by simp [List.getD, h]]; exact hw _ (List.getElem_mem h)
  · rw [show bs.getD k 0 = 0 by simp [List.getD, Nat.le_of_not_lt h]]; omega
theorem sumI_take {l : List Int} {k : Nat} (h : k < l.length) : sumI (l.take (k + 1)) = sumI (l.take k) + l.getD k 0 := by
  rw [sumI, ← List.take_append_getElem h, List.foldl_append]
  simp [sumI, List.getD, h]
end Go.Proofs.Ytcmhobbpeaeebaa
namespace Go.Proofs.Ytcmhobbpeaeebaa
open Go.RowKit
set_option linter.unusedVariables false
set_option maxRecDepth 100000

/-- The number that bytes are, the lowest first. -/
def leN : List Int → Int
  | [] => 0
  | b :: r => b + 256 * leN r
def numOf (high : Bool) (bs : List Int) : Int := if high then leN bs.reverse else leN bs
theorem leN_snoc : ∀ (l : List Int) (x : Int), leN (l ++ [x]) = leN l + 256 ^ l.length * x
  | [], x => by simp [leN]
  | b :: r, x => by
    rw [List.cons_append, leN, leN_snoc r x, leN, List.length_cons, Int.pow_succ]
    rw [Int.mul_add, ← Int.mul_assoc, Int.mul_comm (256 ^ r.length) 256, Int.add_assoc]
theorem leN_range : ∀ (l : List Int), (∀ x ∈ l, 0 ≤ x ∧ x ≤ 255) → 0 ≤ leN l ∧ leN l < 256 ^ l.length
  | [], _ => by simp [leN]
  | b :: r, h => by
    have h1 := h b (List.mem_cons_self ..)
    have h2 := leN_range r (fun x hx => h x (List.mem_cons_of_mem _ hx))
    rw [leN, List.length_cons, Int.pow_succ]
    omega
theorem numOf_range (high : Bool) {l : List Int} (h : ∀ x ∈ l, 0 ≤ x ∧ x ≤ 255) : 0 ≤ numOf high l ∧ numOf high l < 256 ^ l.length := by
  cases high
  · exact leN_range l h
  · have := leN_range l.reverse (fun x hx => h x (List.mem_reverse.1 hx))
    simpa [numOf] using this
theorem leN_leB : ∀ n x, 0 ≤ x → x < 256 ^ n → leN (leB n x) = x
  | 0, x, h0, h1 => by simp at h1; simp [leB, leN]; omega
  | n + 1, x, h0, h1 => by
    rw [Int.pow_succ] at h1
    rw [leB, leN, leN_leB n (x / 256) (by omega) (by omega)]
    omega
theorem numOf_numB (high : Bool) (n : Nat) (x : Int) (h0 : 0 ≤ x) (h1 : x < 256 ^ n) : numOf high (numB high n x) = x := by
  cases high
  · exact leN_leB n x h0 h1
  · simp [numOf, numB, beB, leN_leB n x h0 h1]
theorem or_comm64 (a b : Int) : bits .or .i64 a b = bits .or .i64 b a := by
  show IntKind.i64.wrap ((BitVec.ofInt 64 a ||| BitVec.ofInt 64 b).toNat : Int) = IntKind.i64.wrap ((BitVec.ofInt 64 b ||| BitVec.ofInt 64 a).toNat : Int)
  rw [BitVec.or_comm]
theorem wrap62 : ∀ n : Int, 0 ≤ n → n < 2 ^ 62 → IntKind.i64.wrap n = n := by
  intro n h0 h1
  rw [IntKind.wrap_i64]
  have : (2 : Int) ^ 62 = 4611686018427387904 := by decide
  omega
theorem or_join (i : Nat) (x y : Int) (hx0 : 0 ≤ x) (hx : x % 2 ^ i = 0) (hx1 : x < 4611686018427387904) (hy0 : 0 ≤ y) (hy : y < 2 ^ i) (hy1 : y < 4611686018427387904) : bits .or .i64 x y = x + y :=
  bits_join .i64 62 (by decide) wrap62 i x y hx0 hx (by have : (2 : Int) ^ 62 = 4611686018427387904 := by decide
                                                        omega) hy0 hy (by have : (2 : Int) ^ 62 = 4611686018427387904 := by decide
                                                                          omega)
theorem or_low0 {y x : Int} (hy : 0 ≤ y ∧ y < 256 ^ 0) (hx : 0 ≤ x ∧ x ≤ 255) : bits .or .i64 y x = y + 256 ^ 0 * x := by
  simp at hy
  obtain rfl : y = 0 := by omega
  rw [or_comm64, or_join 0 x 0 (by omega) (by simp) (by omega) (by omega) (by simp) (by omega)]
  simp
theorem or_low1 {y x : Int} (hy : 0 ≤ y ∧ y < 256 ^ 1) (hx : 0 ≤ x ∧ x ≤ 255) : bits .or .i64 y (x * 256) = y + 256 ^ 1 * x := by
  have h1 : (256 : Int) ^ 1 = 256 := by decide
  have h2 : (2 : Int) ^ 8 = 256 := by decide
  rw [h1] at hy
  rw [or_comm64, or_join 8 (x * 256) y (by omega) (by omega) (by omega) (by omega) (by omega) (by omega)]
  omega
theorem or_low2 {y x : Int} (hy : 0 ≤ y ∧ y < 256 ^ 2) (hx : 0 ≤ x ∧ x ≤ 255) : bits .or .i64 y (x * 65536) = y + 256 ^ 2 * x := by
  have h1 : (256 : Int) ^ 2 = 65536 := by decide
  have h2 : (2 : Int) ^ 16 = 65536 := by decide
  rw [h1] at hy
  rw [or_comm64, or_join 16 (x * 65536) y (by omega) (by omega) (by omega) (by omega) (by omega) (by omega)]
  omega
theorem or_low3 {y x : Int} (hy : 0 ≤ y ∧ y < 256 ^ 3) (hx : 0 ≤ x ∧ x ≤ 255) : bits .or .i64 y (x * 16777216) = y + 256 ^ 3 * x := by
  have h1 : (256 : Int) ^ 3 = 16777216 := by decide
  have h2 : (2 : Int) ^ 24 = 16777216 := by decide
  rw [h1] at hy
  rw [or_comm64, or_join 24 (x * 16777216) y (by omega) (by omega) (by omega) (by omega) (by omega) (by omega)]
  omega
theorem or_high {y x : Int} (hy : 0 ≤ y ∧ y < 16777216) (hx : 0 ≤ x ∧ x ≤ 255) : bits .or .i64 (y * 256) x = 256 * y + x := by
  have h2 : (2 : Int) ^ 8 = 256 := by decide
  rw [or_join 8 (y * 256) x (by omega) (by omega) (by omega) (by omega) (by omega) (by omega)]
  omega
set_option maxHeartbeats 800000 in
theorem getLow_any (C g o c pf gf k : Nat) (old : Bool) (n : Nat) (hn : n ≤ 4) (hk : k ≤ 128) (bs : List Int) (A B : Nat) (hBC : B ≤ C) (w : World) (hBs : B ≤ w.heap.size) (hB : BytesAt w A B (some ⟨g, o, none⟩) 128 c bs) (h : RCur w C g o c old pf gf k) :
    Calls Try.prog 80 #[.pointer (some ⟨C, 0, none⟩), .int .i64 n] w fun e w' => e = .returned (.int .i64 (numOf false (cutL bs k n))) ∧ Mv w w' C g o c old pf gf (min (k + n) 128) := by
  have hl := cutL_len hB.1 k n
  go_enter Try.func80, Try.ntmps80
  go_wp2_with fail
  refine (take_any C g o c pf gf k old n (by omega) hk bs A B hBC w hBs hB h).mono ?_
  rintro e w1 ⟨a1, c1, rfl, hB1, hM1⟩
  have hl4 : min (k + n) 128 - k ≤ 4 := by omega
  generalize hk' : min (k + n) 128 = k' at hB1 hM1 hl hl4 ⊢
  have HK : Hid (min (k + n) 128 = k') := hk'
  generalize k' - k = m at hB1 hl hl4 ⊢
  generalize hq : cutL bs k n = l at hB1 hl ⊢
  have HQ : Hid (cutL bs k n = l) := hq
  clear hk' hq
  have hby := hB1.2.2.2.1
  have HM1 : Hid (Mv w w1 C g o c old pf gf k') := hM1
  have HL : Hid (l.length = m) := hl
  clear hM1 hl hB h
  go_wp2_with fail
  go_loopw [5, 12] (fun x i wr => ∃ j : Nat, j ≤ m ∧ i = .int .i64 j ∧ wr = w1 ∧ x = .int .i64 (leN (l.take j))) (fun _ i _ => m - (intOf i).toNat)
  case atStart => exact ⟨0, by omega, rfl, rfl, rfl⟩
  case round =>
    obtain ⟨j, hj, rfl, rfl, rfl⟩ := hrel
    by_cases hlt : j < m
    · obtain ⟨b, off, rfl, hb, hcb⟩ := hB1.2.2.2.2.1 (by omega)
      have e1 := hcb j hlt
      have hx := getD_byteB hby j
      have hr := leN_range (l.take j) (fun x hx => hby x (List.mem_of_mem_take hx))
      have hlj : (l.take j).length = j := by have := HL.out; simp; omega
      rw [hlj] at hr
      have HS : Hid (leN (l.take (j + 1)) = leN (l.take j) + 256 ^ j * l.getD j 0) := by
        show _ = _
        have hll := HL.out
        rw [List.take_add_one, show l[j]?.toList = [l.getD j 0] by simp [List.getD, show j < l.length by omega], leN_snoc, hlj]
      generalize l.getD j 0 = x at e1 hx HS
      generalize leN (l.take j) = y at hr HS ⊢
      clear hB1 hcb hlj
      have h4 : j = 0 ∨ j = 1 ∨ j = 2 ∨ j = 3 := by omega
      rcases h4 with rfl | rfl | rfl | rfl
      · simp only [Nat.add_zero] at e1
        go_wp2
        go_roundw
        case rel => exact ⟨1, by omega, rfl, trivial, by rw [HS.out, or_low0 hr hx]⟩
        case measure => simp [intOf]; omega
      · go_wp2
        go_roundw
        case rel => exact ⟨2, by omega, rfl, trivial, by rw [HS.out, or_low1 hr hx]⟩
        case measure => simp [intOf]; omega
      · go_wp2
        go_roundw
        case rel => exact ⟨3, by omega, rfl, trivial, by rw [HS.out, or_low2 hr hx]⟩
        case measure => simp [intOf]; omega
      · go_wp2
        go_roundw
        case rel => exact ⟨4, by omega, rfl, trivial, by rw [HS.out, or_low3 hr hx]⟩
        case measure => simp [intOf]; omega
    · go_wp2
      go_ret
      obtain rfl : j = m := by omega
      rw [List.take_of_length_le (by have := HL.out; omega)]
      rw [HQ.out, HK.out]
      exact ⟨rfl, HM1.out⟩
theorem beN_take {l : List Int} {j : Nat} (h : j < l.length) : numOf true (l.take (j + 1)) = 256 * numOf true (l.take j) + l.getD j 0 := by
  rw [List.take_add_one, show l[j]?.toList = [l.getD j 0] by simp [List.getD, h]]
  simp only [numOf, if_true, List.reverse_append, List.reverse_cons, List.reverse_nil, List.nil_append, List.singleton_append, leN]
  omega
set_option maxHeartbeats 800000 in
theorem getHigh_any (C g o c pf gf k : Nat) (old : Bool) (n : Nat) (hn : n ≤ 4) (hk : k ≤ 128) (bs : List Int) (A B : Nat) (hBC : B ≤ C) (w : World) (hBs : B ≤ w.heap.size) (hB : BytesAt w A B (some ⟨g, o, none⟩) 128 c bs) (h : RCur w C g o c old pf gf k) :
    Calls Try.prog 86 #[.pointer (some ⟨C, 0, none⟩), .int .i64 n] w fun e w' => e = .returned (.int .i64 (numOf true (cutL bs k n))) ∧ Mv w w' C g o c old pf gf (min (k + n) 128) := by
  have hl := cutL_len hB.1 k n
  go_enter Try.func86, Try.ntmps86
  go_wp2_with fail
  refine (take_any C g o c pf gf k old n (by omega) hk bs A B hBC w hBs hB h).mono ?_
  rintro e w1 ⟨a1, c1, rfl, hB1, hM1⟩
  have hl4 : min (k + n) 128 - k ≤ 4 := by omega
  generalize hk' : min (k + n) 128 = k' at hB1 hM1 hl hl4 ⊢
  have HK : Hid (min (k + n) 128 = k') := hk'
  generalize k' - k = m at hB1 hl hl4 ⊢
  generalize hq : cutL bs k n = l at hB1 hl ⊢
  have HQ : Hid (cutL bs k n = l) := hq
  clear hk' hq
  have hby := hB1.2.2.2.1
  have HM1 : Hid (Mv w w1 C g o c old pf gf k') := hM1
  have HL : Hid (l.length = m) := hl
  clear hM1 hl hB h
  go_wp2_with fail
  go_loopw [5, 12] (fun x i wr => ∃ j : Nat, j ≤ m ∧ i = .int .i64 j ∧ wr = w1 ∧ x = .int .i64 (numOf true (l.take j))) (fun _ i _ => m - (intOf i).toNat)
  case atStart => exact ⟨0, by omega, rfl, rfl, rfl⟩
  case round =>
    obtain ⟨j, hj, rfl, rfl, rfl⟩ := hrel
    by_cases hlt : j < m
    · obtain ⟨b, off, rfl, hb, hcb⟩ := hB1.2.2.2.2.1 (by omega)
      have e1 := hcb j hlt
      have hx := getD_byteB hby j
      have hr := numOf_range true (l := l.take j) (fun x hx => hby x (List.mem_of_mem_take hx))
      have hlj : (l.take j).length = j := by have := HL.out; simp; omega
      rw [hlj] at hr
      have hr3 : 0 ≤ numOf true (l.take j) ∧ numOf true (l.take j) < 16777216 := by
        refine ⟨hr.1, ?_⟩
        have h4 : j = 0 ∨ j = 1 ∨ j = 2 ∨ j = 3 := by omega
        rcases h4 with rfl | rfl | rfl | rfl <;> simp at hr ⊢ <;> omega
      have HS : Hid (numOf true (l.take (j + 1)) = 256 * numOf true (l.take j) + l.getD j 0) := beN_take (by have := HL.out; omega)
      generalize l.getD j 0 = x at e1 hx HS
      generalize numOf true (l.take j) = y at hr3 HS ⊢
      clear hB1 hcb hlj hr
      go_wp2
      go_roundw
      case rel => exact ⟨j + 1, by omega, by go_num, trivial, by rw [HS.out, or_high hr3 hx]⟩
      case measure => simp [intOf]; omega
    · go_wp2
      go_ret
      obtain rfl : j = m := by omega
      rw [List.take_of_length_le (by have := HL.out; omega)]
      rw [HQ.out, HK.out]
      exact ⟨rfl, HM1.out⟩
end Go.Proofs.Ytcmhobbpeaeebaa
namespace Go.Proofs.Ytcmhobbpeaeebaa
namespace New
open Go.RowKit
set_option linter.unusedVariables false
set_option maxRecDepth 100000

def rN (bs : List Int) (k n : Nat) : Int := numOf false (cutL bs k n)
def tLen (bs : List Int) (k : Nat) : Nat := (rN bs k 1).toNat
def adv (k n : Nat) : Nat := min (k + n) 128
def tStr (bs : List Int) (k : Nat) : ByteArray := toB (cutL bs (adv k 1) (tLen bs k))
def tEnd (bs : List Int) (k : Nat) : Nat := adv (adv k 1) (tLen bs k)
def kEnd (bs : List Int) (k : Nat) : Nat := if false = true then adv (tEnd bs k) (8 - (tStr bs k).size) else tEnd bs k
/-- A cursor of this format at k, over bytes that lie below it. -/
structure RAt (w : World) (C g o c A B : Nat) (bs : List Int) (k : Nat) : Prop where
  cur : RCur w C g o c false 79 80 k
  byt : BytesAt w A B (some ⟨g, o, none⟩) 128 c bs
  low : B ≤ C
  top : B ≤ w.heap.size
  pos : k ≤ 128
theorem RAt.mv {w w' : World} {C g o c A B : Nat} {bs : List Int} {k k' : Nat} (h : RAt w C g o c A B bs k) (hm : Mv w w' C g o c false 79 80 k') (hk : k' ≤ 128) : RAt w' C g o c A B bs k' :=
  ⟨hm.1, h.byt.fr hm.2 h.low h.top, h.low, Nat.le_trans h.top hm.2.size, hk⟩
theorem RAt.drew {w : World} {C g o c A B : Nat} {bs : List Int} {k : Nat} (h : RAt w C g o c A B bs k) : RAt w.drew C g o c A B bs k := ⟨h.cur.drew, h.byt, h.low, h.top, h.pos⟩
theorem adv_le (k n : Nat) : adv k n ≤ 128 := by unfold adv; omega
theorem rN_range {w : World} {C g o c A B : Nat} {bs : List Int} {k : Nat} (h : RAt w C g o c A B bs k) (j n : Nat) : 0 ≤ rN bs j n ∧ rN bs j n < 256 ^ (min (j + n) 128 - j) := by
  have := numOf_range false (l := cutL bs j n) (fun x hx => h.byt.2.2.2.1 x (List.mem_of_mem_drop (List.mem_of_mem_take hx)))
  rw [cutL_len h.byt.1] at this
  exact this
theorem rN_small {w : World} {C g o c A B : Nat} {bs : List Int} {k : Nat} (h : RAt w C g o c A B bs k) (j n : Nat) (hn : n ≤ 4) : 0 ≤ rN bs j n ∧ rN bs j n < 4294967296 := by
  have h1 := rN_range h j n
  refine ⟨h1.1, Int.lt_of_lt_of_le h1.2 ?_⟩
  have h4 : min (j + n) 128 - j ≤ 4 := by omega
  generalize min (j + n) 128 - j = m at h4
  have h5 : m = 0 ∨ m = 1 ∨ m = 2 ∨ m = 3 ∨ m = 4 := by omega
  rcases h5 with rfl | rfl | rfl | rfl | rfl <;> decide
theorem rN_one {w : World} {C g o c A B : Nat} {bs : List Int} {k : Nat} (h : RAt w C g o c A B bs k) (j : Nat) : 0 ≤ rN bs j 1 ∧ rN bs j 1 ≤ 255 := by
  have h1 := rN_range h j 1
  refine ⟨h1.1, ?_⟩
  have h4 : min (j + 1) 128 - j ≤ 1 := by omega
  generalize min (j + 1) 128 - j = m at h4 h1
  have h5 : m = 0 ∨ m = 1 := by omega
  rcases h5 with rfl | rfl <;> simp at h1 <;> omega
theorem tLen_le {w : World} {C g o c A B : Nat} {bs : List Int} {k : Nat} (h : RAt w C g o c A B bs k) (j : Nat) : tLen bs j ≤ 255 := by
  have := rN_one h j
  unfold tLen
  omega
theorem tStr_size {w : World} {C g o c A B : Nat} {bs : List Int} {k : Nat} (h : RAt w C g o c A B bs k) (j : Nat) : (tStr bs j).size ≤ 255 := by
  have h1 := tLen_le h j
  rw [tStr, toB_size, cutL_len h.byt.1]
  omega
theorem Get (C g o c A B : Nat) (bs : List Int) (k n : Nat) (hn : n ≤ 4) (w : World) (h : RAt w C g o c A B bs k) :
    Calls Try.prog 80 #[.pointer (some ⟨C, 0, none⟩), .int .i64 n] w fun e w' => e = .returned (.int .i64 (rN bs k n)) ∧ Mv w w' C g o c false 79 80 (adv k n) :=
  getLow_any C g o c _ _ k false n hn h.pos bs A B h.low w h.top h.byt h.cur
theorem smallWidthR (C g o c A B : Nat) (bs : List Int) (k : Nat) (w : World) (h : RAt w C g o c A B bs k) :
    Calls Try.prog 125 #[.pointer (some ⟨C, 0, none⟩)] w fun e w' => e = .returned (.int .i64 (smallN false)) ∧ w' = w := by
  obtain ⟨c0, c1, c2, c3, c4⟩ := h.cur.cells
  go_enter Try.func125, Try.ntmps125
  go_wp2
  go_ret
  exact ⟨rfl, rfl⟩
set_option maxHeartbeats 800000 in
theorem getSmall_any (C g o c A B : Nat) (bs : List Int) (k : Nat) (w : World) (h : RAt w C g o c A B bs k) :
    Calls Try.prog 123 #[.pointer (some ⟨C, 0, none⟩)] w fun e w' => e = .returned (.int .i64 (rN bs k (smallN false))) ∧ Mv w w' C g o c false 79 80 (adv k (smallN false)) := by
  obtain ⟨c0, c1, c2, c3, c4⟩ := h.cur.cells
  go_enter Try.func123, Try.ntmps123
  go_wp2_with fail
  go_region_held3 (fun w' => w'.cell? ⟨C, 4, none⟩ = some (.func (.func 80) #[.pointer (some ⟨C, 0, none⟩)] #[])) (go_keep)
    (first
      | (go_at_call 125; refine (smallWidthR C g o c A B bs k w.drew h.drew).mono ?_; rintro e w1 ⟨rfl, rfl⟩)
      | (go_at_call 80; refine (Get C g o c A B bs k (smallN false) (by decide) w.drew h.drew).mono ?_; rintro e w2 ⟨rfl, hM⟩; obtain ⟨_, _, _, _, q4⟩ := hM.1.cells))
  all_goals
    go_wp2
    go_ret
    exact ⟨rfl, hM.redraw⟩
set_option maxHeartbeats 800000 in
theorem getText_any (C g o c A B : Nat) (bs : List Int) (k : Nat) (w : World) (h : RAt w C g o c A B bs k) :
    Calls Try.prog 131 #[.pointer (some ⟨C, 0, none⟩)] w fun e w' => e = .returned (.string (tStr bs k)) ∧ Mv w w' C g o c false 79 80 (tEnd bs k) := by
  obtain ⟨c0, c1, c2, c3, c4⟩ := h.cur.cells
  have hone := rN_one h k
  have hw64 : IntKind.i64.wrap (rN bs k 1) = rN bs k 1 := by rw [IntKind.wrap_i64]; omega
  have HT : Hid (tStr bs k = toB (cutL bs (adv k 1) (rN bs k 1).toNat)) := rfl
  have HE : Hid (tEnd bs k = adv (adv k 1) (rN bs k 1).toNat) := rfl
  have HA := rN_one h k
  go_enter Try.func131, Try.ntmps131
  go_wp2_with fail
  refine (Get C g o c A B bs k 1 (by omega) w h).mono ?_
  rintro e w1 ⟨rfl, hM1⟩
  have h1 := h.mv hM1 (adv_le _ _)
  obtain ⟨d0, d1, d2, d3, d4⟩ := h1.cur.cells
  generalize hx : rN bs k 1 = x at hone hw64 HT HE ⊢
  obtain ⟨n, rfl⟩ : ∃ n : Nat, x = (n : Int) := ⟨x.toNat, by omega⟩
  simp only [Int.toNat_natCast] at HT HE
  clear hx c0 c1 c2 c3 c4 HA
  go_wp2_with fail
  refine (take_any C g o c _ _ (adv k 1) false n (by omega) h1.pos bs A B h1.low w1 h1.top h1.byt h1.cur).mono ?_
  rintro e w2 ⟨a2, c2, rfl, hB2, hM2⟩
  have hcv := str_conv hB2
  go_wp2
  go_ret
  rw [HT.out, HE.out]
  exact ⟨rfl, hM1.trans hM2⟩
set_option maxHeartbeats 800000 in
theorem getKey_any (C g o c A B : Nat) (bs : List Int) (k : Nat) (w : World) (h : RAt w C g o c A B bs k) :
    Calls Try.prog 116 #[.pointer (some ⟨C, 0, none⟩)] w fun e w' => e = .returned (.string (tStr bs k)) ∧ Mv w w' C g o c false 79 80 (kEnd bs k) := by
  have hsz := tStr_size h k
  go_enter Try.func116, Try.ntmps116
  go_wp2_with fail
  refine (getText_any C g o c A B bs k w h).mono ?_
  rintro e w1 ⟨rfl, hM1⟩
  have h1 := h.mv hM1 (adv_le _ _)
  obtain ⟨d0, d1, d2, d3, d4⟩ := h1.cur.cells
  have HK : Hid (kEnd bs k = if false = true then adv (tEnd bs k) (8 - (tStr bs k).size) else tEnd bs k) := rfl
  have HM : Hid (Mv w w1 C g o c false 79 80 (tEnd bs k)) := hM1
  clear hM1
  generalize tEnd bs k = te at h1 d1 HK HM ⊢
  generalize hts : tStr bs k = ts at hsz HK ⊢
  have HS : Hid (tStr bs k = ts) := hts
  clear hts
  by_cases h8 : ts.size ≤ 8
  · have e : (8 : Int) - (ts.size : Int) = ((8 - ts.size : Nat) : Int) := by omega
    go_wp2_with fail
    first
      | (go_ret; rw [HK.out, HS.out, if_neg (by decide)]; exact ⟨rfl, HM.out⟩)
      | (try rw [e]
         refine (take_any C g o c _ _ te false (8 - ts.size) (by omega) h1.pos bs A B h1.low w1 h1.top h1.byt h1.cur).mono ?_
         rintro e w2 ⟨a2, c2, rfl, hB2, hM2⟩
         go_wp2
         go_ret
         rw [HK.out, HS.out, if_pos (by decide)]
         exact ⟨rfl, HM.out.trans hM2⟩)
  · have e : 8 - ts.size = 0 := by omega
    have hneg : (8 : Int) - (ts.size : Int) < 0 := by omega
    go_wp2_with fail
    first
      | (go_ret; rw [HK.out, HS.out, if_neg (by decide)]; exact ⟨rfl, HM.out⟩)
      | (refine (take_any C g o c _ _ te false 0 (by omega) h1.pos bs A B h1.low w1 h1.top h1.byt h1.cur).mono ?_
         rintro e' w2 ⟨a2, c2, rfl, hB2, hM2⟩
         go_wp2
         go_ret
         rw [HK.out, HS.out, if_pos (by decide), e]
         exact ⟨rfl, HM.out.trans hM2⟩)
end New
end Go.Proofs.Ytcmhobbpeaeebaa
namespace Go.Proofs.Ytcmhobbpeaeebaa
namespace New
open Go.RowKit
set_option linter.unusedVariables false
set_option maxRecDepth 100000

theorem Fr.weaken {S T : Nat → Prop} {a b : World} (h : Fr S a b) (hst : ∀ x, S x → T x) : Fr T a b := ⟨h.1, h.2, h.3, h.4, fun k hk hT => h.block k hk (fun hs => hT (hst k hs))⟩
theorem box_frozen {w : World} {M t : Nat} {cs : Array Value} (h : w.heap[M]? = some (.cells cs t)) (j : Nat) : w.frozen? ⟨M, j, none⟩ = false := by simp [World.frozen?, h]
theorem box_two2 {w : World} {N : Nat} {v0 v1 : Value} {t : TypeId} (h : w.heap[N]? = some (.cells #[v0, v1] t)) : w.cell? ⟨N, 0, none⟩ = some v0 ∧ w.cell? ⟨N, 1, none⟩ = some v1 := by
  simp [World.cell?, h]
/-- The cursor went on to k', block M holds the box; nothing else that was there is written. -/
structure Rd (w w' : World) (C g o c A B : Nat) (bs : List Int) (k : Nat) (M : Nat) (box : Obj) : Prop where
  at' : RAt w' C g o c A B bs k
  box : w'.heap[M]? = some box
  fr : Fr (fun x => x = C ∨ x = M) w w'
theorem Rd.start {w : World} {C g o c A B : Nat} {bs : List Int} {k M : Nat} {box : Obj} (h : RAt w C g o c A B bs k) (hM : w.heap[M]? = some box) : Rd w w C g o c A B bs k M box := ⟨h, hM, Fr.refl _ _⟩
theorem Rd.mv {w w1 w2 : World} {C g o c A B : Nat} {bs : List Int} {k k' M : Nat} {box : Obj} (h : Rd w w1 C g o c A B bs k M box) (hMC : M ≠ C) (hm : Mv w1 w2 C g o c false 79 80 k') (hk : k' ≤ 128) : Rd w w2 C g o c A B bs k' M box :=
  ⟨h.at'.mv hm hk, (hm.2.block M (Array.getElem?_eq_some_iff.1 h.box).1 hMC).trans h.box, h.fr.trans (Fr.weaken hm.2 fun x hx => .inl hx)⟩
theorem Rd.drew {w w1 : World} {C g o c A B : Nat} {bs : List Int} {k M : Nat} {box : Obj} (h : Rd w w1 C g o c A B bs k M box) : Rd w w1.drew C g o c A B bs k M box := ⟨h.at'.drew, h.box, h.fr.trans (Fr.of_below (Below.refl _ _).drew)⟩
theorem Rd.redraw {w w1 : World} {C g o c A B : Nat} {bs : List Int} {k M : Nat} {box : Obj} (h : Rd w.drew w1 C g o c A B bs k M box) : Rd w w1 C g o c A B bs k M box := ⟨h.at', h.box, (Fr.of_below (Below.refl _ _).drew).trans h.fr⟩
theorem Rd.drewN {w w1 : World} {C g o c A B : Nat} {bs : List Int} {k M : Nat} {box : Obj} (h : Rd w w1 C g o c A B bs k M box) (q : Nat) : Rd w (w1.drewN q) C g o c A B bs k M box := ⟨⟨⟨h.at'.cur.box⟩, h.at'.byt, h.at'.low, h.at'.top, h.at'.pos⟩, h.box, h.fr.trans (Fr.of_below ⟨rfl, rfl, rfl, Nat.le_refl _, fun _ _ => rfl⟩)⟩
/-- A store into the box at M. -/
theorem Rd.put {w w1 : World} {C g o c A B : Nat} {bs : List Int} {k M t : Nat} {cs : Array Value} (h : Rd w w1 C g o c A B bs k M (.cells cs t)) (hMC : M ≠ C) (hBM : B ≤ M) (i : Nat) (v : Value) : Rd w (w1.setCell ⟨M, i, none⟩ v) C g o c A B bs k M (.cells (cs.setIfInBounds i v) t) := by
  have hs : ∀ x, x ≠ M → (w1.setCell ⟨M, i, none⟩ v).heap[x]? = w1.heap[x]? := fun x hx => Below.heap_setCell w1 ⟨M, i, none⟩ v x hx
  have hz : (w1.setCell ⟨M, i, none⟩ v).heap.size = w1.heap.size := by simp [World.setCell]
  refine ⟨⟨⟨(hs C (Ne.symm hMC)).trans h.at'.cur.box⟩, h.at'.byt.keep (fun x k1 k2 => hs x (by omega)), h.at'.low, by rw [hz]; exact h.at'.top, h.at'.pos⟩, ?_, h.fr.trans ⟨rfl, rfl, rfl, by rw [hz]; exact Nat.le_refl _, fun x _ hx => hs x (fun e => hx (.inr e))⟩⟩
  simp [World.setCell, Array.getElem?_modify, h.box]

def oNext (bs : List Int) (k : Nat) : Int := rN bs k (smallN false)
def oData (bs : List Int) (k : Nat) : ByteArray := tStr bs (adv k (smallN false))
def oEnd (bs : List Int) (k : Nat) : Nat := tEnd bs (adv k (smallN false))
set_option maxHeartbeats 800000 in
theorem overRead_any (C g o c A B : Nat) (bs : List Int) (k M : Nat) (count : Int) (w : World) (h : RAt w C g o c A B bs k) (hMC : M ≠ C) (hBM : B ≤ M) (n0 : Int) (d0 : ByteArray) (hM : w.heap[M]? = some (.cells #[.int .i64 n0, .string d0] 145)) :
    Calls Try.prog 143 #[.pointer (some ⟨M, 0, none⟩), .pointer (some ⟨C, 0, none⟩), .int .i64 count] w fun e w' => e = .returned (.tuple #[]) ∧ Rd w w' C g o c A B bs (oEnd bs k) M (.cells #[.int .i64 (oNext bs k), .string (oData bs k)] 145) := by
  have R0 := Rd.start h hM
  go_enter Try.func143, Try.ntmps143
  go_wp2_with fail
  refine (getSmall_any C g o c A B bs k w h).mono ?_
  rintro e w1 ⟨rfl, hM1⟩
  have R1 := R0.mv hMC hM1 (adv_le _ _)
  obtain ⟨x0, x1⟩ := box_two2 R1.box
  have f1 := box_frozen R1.box
  have R2 := R1.put hMC hBM 0 (.int .i64 (rN bs k (smallN false)))
  clear R0 hM1 R1
  go_wp2_with fail
  clear x0 x1 f1
  generalize w1.setCell ⟨M, 0, none⟩ (.int .i64 (rN bs k (smallN false))) = w2 at R2 ⊢
  refine (getText_any C g o c A B bs (adv k (smallN false)) w2 R2.at').mono ?_
  rintro e w3 ⟨rfl, hM3⟩
  have R3 := R2.mv hMC hM3 (adv_le _ _)
  obtain ⟨x0, x1⟩ := box_two2 (w := w3) (N := M) (by simpa using R3.box)
  have f3 := box_frozen R3.box
  have R4 := R3.put hMC hBM 1 (.string (tStr bs (adv k (smallN false))))
  clear R2 hM3 R3
  go_wp2
  go_end0
  exact ⟨rfl, by simpa [oNext, oData, oEnd] using R4⟩
end New
end Go.Proofs.Ytcmhobbpeaeebaa
