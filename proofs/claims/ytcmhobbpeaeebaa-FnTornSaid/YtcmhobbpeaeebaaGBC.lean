import Derived.Test.YtcmhobbpeaeebaaGAA
import Derived.Test.YtcmhobbpeaeebaaGAK
import Derived.Test.YtcmhobbpeaeebaaGAO
import Derived.Laws.BitsAll
namespace Go.Proofs.Ytcmhobbpeaeebaa
open Go.RowKit
set_option linter.unusedVariables false
set_option maxRecDepth 100000

def crcBit (c : Int) : Int := if c % 2 = 1 then bits .xor .u32 (c / 2) 3988292384 else c / 2
def crcBits : Nat → Int → Int
  | 0, c => c
  | k + 1, c => crcBit (crcBits k c)
def crcByte (c x : Int) : Int := crcBits 8 (bits .xor .u32 c x)
def crcList (c : Int) (bs : List Int) : Int := bs.foldl crcByte c
theorem xor32_range (a b : Int) : 0 ≤ bits .xor .u32 a b ∧ bits .xor .u32 a b < 4294967296 := by
  unfold bits
  simp only [IntKind.wrap_u32']
  omega

theorem and1_u32 {q : Int} (h : 0 ≤ q ∧ q < 4294967296) : bits .and .u32 q 1 = q % 2 := by
  rw [u32_and q 1 h.1 h.2 (by omega) (by omega), show (1 : Int).toNat = 1 from rfl, nat_mask1]
  omega
theorem crcBit_range {c : Int} (h : 0 ≤ c ∧ c < 4294967296) : 0 ≤ crcBit c ∧ crcBit c < 4294967296 := by
  unfold crcBit
  split
  · exact xor32_range _ _
  · omega
theorem crcBits_range {c : Int} (h : 0 ≤ c ∧ c < 4294967296) : ∀ k, 0 ≤ crcBits k c ∧ crcBits k c < 4294967296
  | 0 => h
  | k + 1 => crcBit_range (crcBits_range h k)
theorem getD_byte {bs : List Int} (hw : ∀ x ∈ bs, 0 ≤ x ∧ x ≤ 255) (k : Nat) : 0 ≤ bs.getD k 0 ∧ bs.getD k 0 ≤ 255 := by
  by_cases h : k < bs.length
  · rw [show bs.getD k 0 = bs[k] by simp [List.getD, h]]; exact hw _ (List.getElem_mem h)
  · rw [show bs.getD k 0 = 0 by simp [List.getD, Nat.le_of_not_lt h]]; omega
theorem crcList_take {bs : List Int} {k : Nat} (h : k < bs.length) (c : Int) : crcList c (bs.take (k + 1)) = crcByte (crcList c (bs.take k)) (bs.getD k 0) := by
  rw [crcList, ← List.take_append_getElem h, List.foldl_append]
  simp [crcList, List.getD, h]
theorem crcList_range {c : Int} (h : 0 ≤ c ∧ c < 4294967296) (bs : List Int) : 0 ≤ crcList c bs ∧ crcList c bs < 4294967296 := by
  induction bs generalizing c with
  | nil => exact h
  | cons b r ih => exact ih (crcBits_range (xor32_range _ _) 8)

set_option maxHeartbeats 400000 in
theorem specCrc_any (c : Int) (hc : 0 ≤ c ∧ c < 4294967296) (a : Option Addr) (n cc : Nat) (bs : List Int) (w : World) (A B : Nat) (h : BytesAt w A B a n cc bs) :
    Calls Try.prog 45 #[.int .u32 c, .slice a n cc] w fun e w' => e = .returned (.int .u32 (bits .xor .u32 IntKind.u32.max (crcList (bits .xor .u32 IntKind.u32.max c) bs))) ∧ w' = w := by
  obtain ⟨hl, hnc, hcm, hw, hcell, _⟩ := h
  unfold maxLen at hcm
  go_enter Try.func45, Try.ntmps45
  have hsg : IntKind.u32.signed = false := rfl
  go_wp2_with fail
  have r0 := xor32_range IntKind.u32.max c
  generalize hc0 : bits .xor .u32 IntKind.u32.max c = c0 at r0 ⊢
  have HC0 : Hid (bits .xor .u32 IntKind.u32.max c = c0) := hc0
  clear hc0
  go_loopw [0, 5] (fun x i wr => ∃ k : Nat, ∃ y, k ≤ n ∧ i = .int .i64 k ∧ x = .int .u32 y ∧ wr = w ∧ (0 ≤ y ∧ y < 4294967296) ∧ y = crcList c0 (bs.take k)) (fun x i _ => n - (intOf i).toNat)
  case atStart => exact ⟨0, _, Nat.zero_le _, rfl, rfl, rfl, r0, rfl⟩
  case round =>
    obtain ⟨k, y, hk, rfl, rfl, rfl, hy, hyl⟩ := hrel
    have HY : Hid (y = crcList c0 (bs.take k)) := hyl
    clear hyl
    by_cases hlt : k < n
    · obtain ⟨b, off, rfl, hb, hcb⟩ := hcell (by omega)
      have e1 := hcb k hlt
      have hx := getD_byte hw k
      have HZ : Hid (crcList c0 (bs.take (k + 1)) = crcBits 8 (bits .xor .u32 y (bs.getD k 0))) := by
        rw [HY.out]; exact crcList_take (by omega) c0
      clear hcell hcb
      generalize bs.getD k 0 = x at e1 hx HZ
      have hx2 : x % 4294967296 = x := by omega
      have hz := xor32_range y x
      go_wp2_with fail
      generalize bits .xor .u32 y x = z at HZ hz ⊢
      go_loopw [0, 6] (fun x i wr' => ∃ j : Nat, ∃ q, j ≤ 8 ∧ i = .int .i64 j ∧ x = .int .u32 q ∧ wr' = wr ∧ (0 ≤ q ∧ q < 4294967296) ∧ q = crcBits j z) (fun x i _ => 8 - (intOf i).toNat)
      case atStart => exact ⟨0, _, Nat.zero_le _, rfl, rfl, rfl, hz, rfl⟩
      case round =>
        obtain ⟨j, q, hj, rfl, rfl, rfl, hq, hql⟩ := hrel
        have HQ : Hid (q = crcBits j z) := hql
        clear hql
        by_cases hlj : j < 8
        · by_cases hp : q % 2 = 1
          · have HC : Hid (bits .xor .u32 (q / 2) 3988292384 = crcBits (j + 1) z) := by show _ = crcBit _; rw [← HQ.out, crcBit, if_pos hp]
            go_wp2
            go_roundw
            case rel => exact ⟨j + 1, _, by omega, by go_num, rfl, trivial, xor32_range _ _, HC.out⟩
            case measure => simp [intOf]; omega
          · have HC : Hid (q / 2 = crcBits (j + 1) z) := by show _ = crcBit _; rw [← HQ.out, crcBit, if_neg hp]
            go_wp2
            go_roundw
            case rel => exact ⟨j + 1, _, by omega, by go_num, rfl, trivial, by omega, HC.out⟩
            case measure => simp [intOf]; omega
        · have HJ : Hid (j = 8) := (by omega : j = 8)
          go_wp2
          go_roundw
          case rel => exact ⟨k + 1, q, by omega, by go_num, rfl, trivial, hq, by rw [HZ.out, HQ.out, HJ.out]⟩
          case measure => simp [intOf]; omega
    · go_wp2
      go_ret
      have HN : y = crcList c0 bs := by rw [HY.out, List.take_of_length_le (by omega)]
      rw [HC0.out, ← HN]
      exact ⟨rfl, rfl⟩

set_option maxHeartbeats 400000 in
theorem implCrc_any (c : Int) (hc : 0 ≤ c ∧ c < 4294967296) (a : Option Addr) (n cc : Nat) (bs : List Int) (w : World) (A B : Nat) (h : BytesAt w A B a n cc bs) :
    Calls Try.prog 62 #[.int .u32 c, .slice a n cc] w fun e w' => e = .returned (.int .u32 (bits .xor .u32 IntKind.u32.max (crcList (bits .xor .u32 IntKind.u32.max c) bs))) ∧ w' = w := by
  obtain ⟨hl, hnc, hcm, hw, hcell, _⟩ := h
  unfold maxLen at hcm
  go_enter Try.func62, Try.ntmps62
  have hsg : IntKind.u32.signed = false := rfl
  go_wp2_with fail
  have r0 := xor32_range IntKind.u32.max c
  generalize hc0 : bits .xor .u32 IntKind.u32.max c = c0 at r0 ⊢
  have HC0 : Hid (bits .xor .u32 IntKind.u32.max c = c0) := hc0
  clear hc0
  go_loopw [0, 11] (fun x i wr => ∃ k : Nat, ∃ y, k ≤ n ∧ i = .int .i64 k ∧ x = .int .u32 y ∧ wr = w ∧ (0 ≤ y ∧ y < 4294967296) ∧ y = crcList c0 (bs.take k)) (fun x i _ => n - (intOf i).toNat)
  case atStart => exact ⟨0, _, Nat.zero_le _, rfl, rfl, rfl, r0, rfl⟩
  case round =>
    obtain ⟨k, y, hk, rfl, rfl, rfl, hy, hyl⟩ := hrel
    have HY : Hid (y = crcList c0 (bs.take k)) := hyl
    clear hyl
    by_cases hlt : k < n
    · obtain ⟨b, off, rfl, hb, hcb⟩ := hcell (by omega)
      have e1 := hcb k hlt
      have hx := getD_byte hw k
      have HZ : Hid (crcList c0 (bs.take (k + 1)) = crcBits 8 (bits .xor .u32 y (bs.getD k 0))) := by
        rw [HY.out]; exact crcList_take (by omega) c0
      clear hcell hcb
      generalize bs.getD k 0 = x at e1 hx HZ
      have hx2 : x % 4294967296 = x := by omega
      have hz := xor32_range y x
      go_wp2_with fail
      generalize bits .xor .u32 y x = z at HZ hz ⊢
      go_loopw [0, 19] (fun x i wr' => ∃ j : Nat, ∃ q, j ≤ 8 ∧ i = .int .i64 j ∧ x = .int .u32 q ∧ wr' = wr ∧ (0 ≤ q ∧ q < 4294967296) ∧ q = crcBits j z) (fun x i _ => 8 - (intOf i).toNat)
      case atStart => exact ⟨0, _, Nat.zero_le _, rfl, rfl, rfl, hz, rfl⟩
      case round =>
        obtain ⟨j, q, hj, rfl, rfl, rfl, hq, hql⟩ := hrel
        have HQ : Hid (q = crcBits j z) := hql
        clear hql
        by_cases hlj : j < 8
        · by_cases hp : q % 2 = 1
          · have hand : bits .and .u32 q 1 = q % 2 := and1_u32 hq
            have HC : Hid (bits .xor .u32 (q / 2) 3988292384 = crcBits (j + 1) z) := by show _ = crcBit _; rw [← HQ.out, crcBit, if_pos hp]
            go_wp2
            go_roundw
            case rel => exact ⟨j + 1, _, by omega, by go_num, rfl, trivial, xor32_range _ _, HC.out⟩
            case measure => simp [intOf]; omega
          · have hand : bits .and .u32 q 1 = q % 2 := and1_u32 hq
            have HC : Hid (q / 2 = crcBits (j + 1) z) := by show _ = crcBit _; rw [← HQ.out, crcBit, if_neg hp]
            go_wp2
            go_roundw
            case rel => exact ⟨j + 1, _, by omega, by go_num, rfl, trivial, by omega, HC.out⟩
            case measure => simp [intOf]; omega
        · have HJ : Hid (j = 8) := (by omega : j = 8)
          go_wp2
          go_roundw
          case rel => exact ⟨k + 1, q, by omega, by go_num, rfl, trivial, hq, by rw [HZ.out, HQ.out, HJ.out]⟩
          case measure => simp [intOf]; omega
    · go_wp2
      go_ret
      have HN : y = crcList c0 bs := by rw [HY.out, List.take_of_length_le (by omega)]
      rw [HC0.out, ← HN]
      exact ⟨rfl, rfl⟩
end Go.Proofs.Ytcmhobbpeaeebaa
namespace Go.Proofs.Ytcmhobbpeaeebaa
open Go.RowKit
set_option linter.unusedVariables false
set_option maxRecDepth 100000

theorem l2New_any (w : World) : Calls Try.prog 44 #[] w fun e w' => e = .returned (.agg #[.bool false, .int .i64 4, .bool false]) ∧ Below w.heap.size w w' := by
  go_enter Try.func44, Try.ntmps44
  go_wp2
  exact bodyPost_ret (v := .agg #[.bool false, .int .i64 4, .bool false]) (by simp [results, Try.results44, go_sem]) rfl ⟨rfl, by first | exact Below.refl _ _ | exact (Below.refl _ _).alloc (Nat.le_refl _) _⟩

def crcOf (l : List Int) : Int := bits .xor .u32 IntKind.u32.max (crcList (bits .xor .u32 IntKind.u32.max 0) l)
theorem specCrc0 (a : Option Addr) (n cc : Nat) (bs : List Int) (w : World) (A B : Nat) (h : BytesAt w A B a n cc bs) :
    Calls Try.prog 45 #[.int .u32 0, .slice a n cc] w fun e w' => e = .returned (.int .u32 (crcOf bs)) ∧ w' = w := specCrc_any 0 (by omega) a n cc bs w A B h
theorem crcOf_range (l : List Int) : 0 ≤ crcOf l ∧ crcOf l < 4294967296 := xor32_range _ _
def newHead (p : Pg) : List Int := leB 4 p.tx ++ [p.kind, ((p.ks.length + p.es.length : Nat) : Int), 0, 0] ++ bodyB false p
def sealN (tx : Int) (l : List Int) : List Int := padB 120 l ++ leB 4 (crcOf (padB 120 l)) ++ leB 4 tx
def newCodeOf (p : Pg) : List Int := if inB 1 2000000000 p.tx = true ∧ bodyOk 2 999 p = true then sealN p.tx (newHead p) else []

set_option maxHeartbeats 1600000 in
theorem specEncodePage_any (p : Pg) (hf : PgFit p) (htx : I64 p.tx) (ka : Option Addr) (kc : Nat) (ea : Option Addr) (ec : Nat) (w : World) (A B : Nat) (hB : B ≤ w.heap.size) (hK : KidsAt w A B ka p.ks.length kc p.ks) (hE : EntsAt w A B ea p.es.length ec p.es) :
    Calls Try.prog 9 #[.agg #[.int .i64 p.kind, .int .i64 p.tx, .int .i64 p.id, .int .i64 p.root, .int .i64 p.count, .slice ka p.ks.length kc, .slice ea p.es.length ec, .int .i64 p.next, .string p.data]] w fun e w' => ∃ v, e = .returned v ∧ w'.ownsRow w.heap.size 5 1 v (newCodeOf p).length (u8s (newCodeOf p)) ∧ Below w.heap.size w w' := by
  have hb0 : Below w.heap.size w (w.alloc (.cells #[.int .i64 p.kind, .int .i64 p.tx, .int .i64 p.id, .int .i64 p.root, .int .i64 p.count, .slice ka p.ks.length kc, .slice ea p.es.length ec, .int .i64 p.next, .string p.data] 28)) := (Below.refl _ _).alloc (Nat.le_refl _) _
  have HX0 := heap_alloc_new w (.cells #[.int .i64 p.kind, .int .i64 p.tx, .int .i64 p.id, .int .i64 p.root, .int .i64 p.count, .slice ka p.ks.length kc, .slice ea p.es.length ec, .int .i64 p.next, .string p.data] 28)
  by_cases hin : inB 1 2000000000 p.tx = true
  · have hd : decide (1 ≤ p.tx ∧ p.tx ≤ 2000000000) = true := hin
    by_cases hok : bodyOk 2 999 p = true
    · go_enter Try.func9, Try.ntmps9
      go_wp2_with fail
      refine (l1In_any p.tx 1 2000000000 _).mono ?_
      rw [hd]
      rintro e w0 ⟨rfl, rfl⟩
      go_wp2_with fail
      refine (l2Body_any p hf ka kc ea ec 2 999 (by omega) _ A B (by simp; omega) (hK.below (hb0.mono hB)) (hE.below (hb0.mono hB))).mono ?_
      rw [hok]
      rintro e w1 ⟨rfl, hb1⟩
      have hB2 := hb0.trans (hb1.mono (by simp))
      have HX1 := eb_call HX0 hb1
      obtain ⟨c5, c6, c0, c2, c3, c4, c7, c8, c1⟩ := box_slice HX1
      go_wp2_with fail
      have hcnt := body_count hok
      have hkd := body_kind hok
      have hkw : IntKind.u8.wrap p.kind = p.kind := u8_in p.kind hkd
      have hlen := bodyB_len false hok
      go_region_held3 (fun w' => w'.cell? ⟨w.heap.size, 0, none⟩ = some (.int .i64 p.kind) ∧ w'.cell? ⟨w.heap.size, 1, none⟩ = some (.int .i64 p.tx) ∧ w'.cell? ⟨w.heap.size, 2, none⟩ = some (.int .i64 p.id) ∧ w'.cell? ⟨w.heap.size, 3, none⟩ = some (.int .i64 p.root) ∧ w'.cell? ⟨w.heap.size, 4, none⟩ = some (.int .i64 p.count) ∧ w'.cell? ⟨w.heap.size, 5, none⟩ = some (.slice ka p.ks.length kc) ∧ w'.cell? ⟨w.heap.size, 6, none⟩ = some (.slice ea p.es.length ec) ∧ w'.cell? ⟨w.heap.size, 7, none⟩ = some (.int .i64 p.next) ∧ w'.cell? ⟨w.heap.size, 8, none⟩ = some (.string p.data)) (go_keep)
        (first
          | (refine step_ab rfl _ _ rfl (w.heap.size + 1) _ 4 (numB false 4 p.tx) (by simp [Act.eval]) hR3 (some ⟨w3.heap.size, 0, none⟩) 4 4 [p.kind, ((p.ks.length + p.es.length : Nat) : Int), 0, 0] _ _ (by simp [Act.eval]) hL3 (by omega) (Array.getElem?_eq_some_iff.1 HX3').1 ?_; intro v4 w4 hO4 hg4; have HX4 := eb_grown HX3' (by decide) hR3 hg4; have hB5 := hB4'.grown hg4 hB4'.size (fun g e => Nat.le_of_succ_le (hR3.lt g e).1); obtain ⟨k5, k6, k0, k2, k3, k4, k7, k8, k1⟩ := box_slice HX4)
          | (go_at_call 41; refine (l2Count_any p ka p.ks.length kc ea p.es.length ec hcnt w2).mono ?_; rintro e w3 ⟨rfl, hb3⟩; have HX3 := eb_call HX2 hb3; have hB4 := hB3.trans (hb3.mono hB3.size); have hL3 := bytesAt_lit4 w3 p.kind ((p.ks.length + p.es.length : Nat) : Int) 0 0 (by intro x hx; simp at hx; omega); have hba : Below w3.heap.size w3 (w3.alloc (.cells #[.int .u8 p.kind, .int .u8 ((p.ks.length + p.es.length : Nat) : Int), .int .u8 0, .int .u8 0] 5)) := (Below.refl _ _).alloc (Nat.le_refl _) _; have hR3 := owns_below (owns_below hR2 hb3) hba; have HX3' := eb_call HX3 hba; have hB4' := hB4.trans (hba.mono hB4.size); obtain ⟨k5, k6, k0, k2, k3, k4, k7, k8, k1⟩ := box_slice HX3)
          | (go_at_call 40; refine (l2Put_any false p.tx htx 4 (by omega) w1.drew).mono ?_; rintro e w2 ⟨a2, r2, rfl, hR2', _, hb2⟩; have hR2 := owns_base (base' := w.heap.size + 1) hR2' (Array.getElem?_eq_some_iff.1 HX1).1; have HX2 := eb_call (w' := w1.drew) HX1 hb2; have hB3 := hB2.drew.trans (hb2.mono hB2.size); obtain ⟨k5, k6, k0, k2, k3, k4, k7, k8, k1⟩ := box_slice HX2))
      have hO4 : w4.ownsRow (w.heap.size + 1) 5 1 v4 8 (u8s (numB false 4 p.tx ++ [p.kind, ((p.ks.length + p.es.length : Nat) : Int), 0, 0])) := hO4
      obtain ⟨a4, r4, rfl⟩ := own_shape hO4
      have hby0 : ∀ x ∈ numB false 4 p.tx ++ [p.kind, ((p.ks.length + p.es.length : Nat) : Int), 0, 0], 0 ≤ x ∧ x ≤ 255 := bytes_app (numB_byte _ _ _) (by intro x hx; simp at hx; omega)
      have HH : Hid (newHead p = (numB false 4 p.tx ++ [p.kind, ((p.ks.length + p.es.length : Nat) : Int), 0, 0]) ++ bodyB false p) := rfl
      have hl0 : (numB false 4 p.tx ++ [p.kind, ((p.ks.length + p.es.length : Nat) : Int), 0, 0]).length = 8 := by simp [numB_len]
      generalize numB false 4 p.tx ++ [p.kind, ((p.ks.length + p.es.length : Nat) : Int), 0, 0] = l0 at hO4 hby0 HH hl0
      clear hcnt hkd hkw hR2' hb2 hR2 HX2 hB3 hb3 HX3 hB4 hL3 hba hR3 HX3' hB4' hg4 HX1 hB2 hb1 c0 c1 c2 c3 c4 c5 c6 c7 c8
      go_wp2_with fail
      go_region_held3 (fun w' => w'.cell? ⟨w.heap.size, 0, none⟩ = some (.int .i64 p.kind) ∧ w'.cell? ⟨w.heap.size, 1, none⟩ = some (.int .i64 p.tx) ∧ w'.cell? ⟨w.heap.size, 2, none⟩ = some (.int .i64 p.id) ∧ w'.cell? ⟨w.heap.size, 3, none⟩ = some (.int .i64 p.root) ∧ w'.cell? ⟨w.heap.size, 4, none⟩ = some (.int .i64 p.count) ∧ w'.cell? ⟨w.heap.size, 5, none⟩ = some (.slice ka p.ks.length kc) ∧ w'.cell? ⟨w.heap.size, 6, none⟩ = some (.slice ea p.es.length ec) ∧ w'.cell? ⟨w.heap.size, 7, none⟩ = some (.int .i64 p.next) ∧ w'.cell? ⟨w.heap.size, 8, none⟩ = some (.string p.data)) (go_keep)
        (first
          | (go_at_call 42; refine (l2Zeros_any v7 (8 + m6) 120 (w.heap.size + 1) (l0 ++ bodyB false p) hl7 hm7 (by omega) w7 hO7 hs7).mono ?_; rintro e w8 ⟨v8, rfl, hO8, hb8⟩; have HX8 := (hb8.block w.heap.size (Nat.lt_succ_self _)).trans HX7; have hB9 := hB8.trans (hb8.mono (Nat.le_succ _)); obtain ⟨k5, k6, k0, k2, k3, k4, k7, k8, k1⟩ := box_slice HX8)
          | (refine step_ab rfl _ _ rfl (w.heap.size + 1) _ 8 l0 (by simp [Act.eval]) hR6 a6 m6 c6 (bodyB false p) _ _ (by simp [Act.eval]) hBW (by have := hBW.1; omega) hs6 ?_; intro v7 w7 hO7 hg7; have HX7 := eb_grown HX6 (by decide) hR6 hg7; have hB8 := hB7.grown hg7 hB7.size (fun g e => Nat.le_of_succ_le (hR6.lt g e).1); have hs7 : w.heap.size + 1 ≤ w7.heap.size := (Array.getElem?_eq_some_iff.1 HX7).1; obtain ⟨k5, k6, k0, k2, k3, k4, k7, k8, k1⟩ := box_slice HX7)
          | (go_at_call 43; refine (l2WriteBody_any false p hf 2 999 hok ka kc ea ec w5 A B (Nat.le_trans hB hB6.size) (hK.below (hB6.mono hB)) (hE.below (hB6.mono hB))).mono ?_; rintro e w6 ⟨v6, m6, rfl, hO6, hb6⟩; obtain ⟨a6, c6, rfl⟩ := own_shape hO6; have hBW := bytesAt_row hO6 (bodyB_byte false hok); have hR6 := owns_below hR5 hb6; have HX6 := eb_call HX5 hb6; have hB7 := hB6.trans (hb6.mono hB6.size); have hs6 : w.heap.size + 1 ≤ w6.heap.size := (Array.getElem?_eq_some_iff.1 HX6).1; have hl7 : (l0 ++ bodyB false p).length = 8 + m6 := (by rw [List.length_append]; have := hBW.1; omega); have hm7 : 8 + m6 ≤ 120 := (by have := hBW.1; omega); obtain ⟨k5, k6, k0, k2, k3, k4, k7, k8, k1⟩ := box_slice HX6)
          | (go_at_call 44; refine (l2New_any w4.drew).mono ?_; rintro e w5 ⟨rfl, hb5⟩; have hR5 := owns_below (w := w4.drew) hO4 hb5; have HX5 := eb_call (w' := w4.drew) HX4 hb5; have hB6 := hB5.drew.trans (hb5.mono hB5.size); obtain ⟨k5, k6, k0, k2, k3, k4, k7, k8, k1⟩ := box_slice HX5))
      obtain ⟨a8, c8', rfl⟩ := own_shape hO8
      have HPL : Hid (padB 120 (newHead p) = l0 ++ bodyB false p ++ List.replicate (120 - (8 + m6)) 0) := by show padB 120 (newHead p) = _; rw [HH.out, padB, hl7]
      have hl8 : (l0 ++ bodyB false p ++ List.replicate (120 - (8 + m6)) (0 : Int)).length = 120 := by rw [List.length_append, hl7, List.length_replicate]; omega
      have hby8 : ∀ x ∈ l0 ++ bodyB false p ++ List.replicate (120 - (8 + m6)) (0 : Int), 0 ≤ x ∧ x ≤ 255 := bytes_app (bytes_app hby0 (bodyB_byte false hok)) (by intro x hx; have := List.eq_of_mem_replicate hx; omega)
      generalize l0 ++ bodyB false p ++ List.replicate (120 - (8 + m6)) (0 : Int) = l1 at hO8 HPL hl8 hby8
      clear hlen hR5 HX5 hB6 hb5 hO6 hb6 hBW hR6 HX6 hB7 hs6 hl7 hm7 hO7 hg7 HX7 hB8 hs7 hb8 hO4 hB5 HX4 hby0 hl0
      have hBA := bytesAt_row hO8 hby8
      have hcr := crcOf_range l1
      have hcw : IntKind.i64.wrap (crcOf l1) = crcOf l1 := by rw [IntKind.wrap_i64]; omega
      have hci : I64 (crcOf l1) := by unfold I64; omega
      have HCR : Hid (sealN p.tx (newHead p) = l1 ++ leB 4 (crcOf l1) ++ leB 4 p.tx) := by show sealN p.tx (newHead p) = _; rw [sealN, HPL.out]
      generalize hcq : crcOf l1 = q at hcr hcw hci HCR
      go_wp2_with fail
      refine (specCrc0 a8 120 c8' l1 w8 _ _ hBA).mono ?_
      rw [hcq]
      rintro e w9 ⟨rfl, hw9⟩
      subst hw9
      go_wp2_with fail
      refine (l2Put_any false q hci 4 (by omega) w9).mono ?_
      rintro e w10 ⟨a10, c10, rfl, _, hBW, hb10⟩
      have hR10 := owns_below hO8 hb10
      have HX10 := eb_call HX8 hb10
      have hB11 := hB9.trans (hb10.mono hB9.size)
      have hs10 : w.heap.size + 1 ≤ w10.heap.size := (Array.getElem?_eq_some_iff.1 HX10).1
      clear hO8 HX8 hB9 hb10 hBA
      go_wp2_with (at_builtin; refine wpList_ab rfl _ _ rfl (w.heap.size + 1) _ 120 l1 rfl hR10 a10 4 c10 (numB false 4 q) _ _ rfl hBW (by omega) hs10 ?_; intro v11 w11 hO11' hg11; have hO11 : w11.ownsRow (w.heap.size + 1) 5 1 v11 124 (u8s (l1 ++ numB false 4 q)) := hO11'; have HX11 := eb_grown HX10 (by decide) hR10 hg11; have hB12 := hB11.grown hg11 hB11.size (fun g e => Nat.le_of_succ_le (hR10.lt g e).1); obtain ⟨a11, c11, rfl⟩ := own_shape hO11; obtain ⟨k5, k6, k0, k2, k3, k4, k7, k8, k1⟩ := box_slice HX11)
      clear hR10 HX10 hB11 hs10 hg11 hBW hO11'
      refine (l2Put_any false p.tx htx 4 (by omega) w11).mono ?_
      rintro e w12 ⟨a12, c12, rfl, _, hBW, hb12⟩
      have hR12 := owns_below hO11 hb12
      have HX12 := eb_call HX11 hb12
      have hB13 := hB12.trans (hb12.mono hB12.size)
      have hs12 : w.heap.size + 1 ≤ w12.heap.size := (Array.getElem?_eq_some_iff.1 HX12).1
      clear hO11 HX11 hB12 hb12 k0 k1 k2 k3 k4 k5 k6 k7 k8
      go_wp2_with (at_builtin; refine wpList_ab rfl _ _ rfl (w.heap.size + 1) _ 124 (l1 ++ numB false 4 q) rfl hR12 a12 4 c12 (numB false 4 p.tx) _ _ rfl hBW (by omega) hs12 ?_; intro v13 w13 hO13 hg13)
      go_ret
      have hB14 := hB13.grown hg13 hB13.size (fun g e => Nat.le_of_succ_le (hR12.lt g e).1)
      refine ⟨_, rfl, ?_, hB14⟩
      rw [newCodeOf, if_pos ⟨hin, hok⟩, HCR.out]
      have hll : (l1 ++ leB 4 q ++ leB 4 p.tx).length = 128 := by simp [leB_len, hl8]
      rw [hll]
      exact owns_base hO13 (Nat.le_succ _)
    · have hok' : bodyOk 2 999 p = false := by simpa using hok
      go_enter Try.func9, Try.ntmps9
      go_wp2_with fail
      refine (l1In_any p.tx 1 2000000000 _).mono ?_
      rw [hd]
      rintro e w0 ⟨rfl, rfl⟩
      go_wp2_with fail
      refine (l2Body_any p hf ka kc ea ec 2 999 (by omega) _ A B (by simp; omega) (hK.below (hb0.mono hB)) (hE.below (hb0.mono hB))).mono ?_
      rw [hok']
      rintro e w1 ⟨rfl, hb1⟩
      have hB2 := hb0.trans (hb1.mono (by simp))
      go_wp2
      go_ret
      refine ⟨_, rfl, ?_, hB2.alloc hB2.size _⟩
      rw [newCodeOf, if_neg (fun h => hok h.2)]
      exact World.ownsRow_made w1 #[] 0 hB2.size (by unfold maxLen; omega) (by simp)
  · have hd : decide (1 ≤ p.tx ∧ p.tx ≤ 2000000000) = false := by simpa [inB] using hin
    go_enter Try.func9, Try.ntmps9
    go_wp2_with fail
    refine (l1In_any p.tx 1 2000000000 _).mono ?_
    rw [hd]
    rintro e w0 ⟨rfl, rfl⟩
    go_wp2
    go_ret
    refine ⟨_, rfl, ?_, hb0.alloc (by simp) _⟩
    rw [newCodeOf, if_neg (fun h => hin h.1)]
    have h := World.ownsRow_made (base := w.heap.size) (e := 5) (size := 1) (w.alloc (.cells #[.int .i64 p.kind, .int .i64 p.tx, .int .i64 p.id, .int .i64 p.root, .int .i64 p.count, .slice ka p.ks.length kc, .slice ea p.es.length ec, .int .i64 p.next, .string p.data] 28)) #[] 0 (by simp) (by unfold maxLen; omega) (by simp)
    simpa [u8s] using h
end Go.Proofs.Ytcmhobbpeaeebaa
namespace Go.Proofs.Ytcmhobbpeaeebaa
open Go.RowKit
set_option linter.unusedVariables false
set_option maxRecDepth 100000

theorem leB_take (x : Int) {n i : Nat} (h : i < n) : (leB n x).take (i + 1) = (leB n x).take i ++ [shr8 i x % 256] := by
  rw [List.take_add_one, leB_get x n i h]; rfl

set_option maxHeartbeats 800000 in
theorem putLow_any (C G k pf gf : Nat) (old : Bool) (L : List Int) (x : Int) (hx : I64 x) (n : Nat) (hn : n ≤ 8) (w : World) (h : Cur w C G old pf gf k L) (hk : k + n ≤ 128) :
    Calls Try.prog 79 #[.pointer (some ⟨C, 0, none⟩), .int .i64 x, .int .i64 n] w fun e w' => e = .returned (.tuple #[]) ∧ Wrote w w' C G old pf gf k L (leB n x) := by
  go_enter Try.func79, Try.ntmps79
  go_wp2_with fail
  go_loopw [1, 7] (fun xv iv wr => ∃ i : Nat, i ≤ n ∧ iv = .int .i64 i ∧ xv = .int .i64 (shr8 i x) ∧ Hid (Wrote w wr C G old pf gf k L ((leB n x).take i))) (fun _ iv _ => n - (intOf iv).toNat)
  case atStart => exact ⟨0, Nat.zero_le _, rfl, rfl, by show Wrote _ _ _ _ _ _ _ _ _ _; simpa using wrote_nil h⟩
  case round =>
    obtain ⟨i, hi, rfl, rfl, HW⟩ := hrel
    by_cases hlt : i < n
    · have HS : Hid ((leB n x).take (i + 1) = (leB n x).take i ++ [shr8 i x % 256]) := leB_take x hlt
      have HY : Hid (shr8 (i + 1) x = shr8 i x / 256) := rfl
      have hr := shr8_range hx i
      unfold I64 at hr
      have hc := HW.out.1
      have hll : ((leB n x).take i).length = i := by simp [leB_len]; omega
      rw [hll] at hc
      generalize shr8 i x = y at *
      go_wp2_with fail
      refine (putByte_any C G (k + i) pf gf old _ (y % 256) wr hc (by omega)).mono ?_
      rintro e w1 ⟨rfl, hw1⟩
      have R : Hid (Wrote w w1 C G old pf gf k L ((leB n x).take (i + 1))) := by
        show Wrote _ _ _ _ _ _ _ _ _ _
        rw [HS.out]
        exact HW.out.trans (by rw [hll, h.len]; omega) (by rw [hll]; exact hw1)
      clear hw1 hc HW
      go_wp2
      go_roundw
      case rel => exact ⟨i + 1, by omega, by go_num, by rw [HY.out], R⟩
      case measure => simp [intOf]; omega
    · go_wp2
      go_end0
      have := HW.out
      rw [List.take_of_length_le (by rw [leB_len]; omega)] at this
      exact ⟨rfl, this⟩
theorem putLow_num (C G gf : Nat) : PutNum C G false 79 gf := fun k L x n w hx hn h hk => putLow_any C G k _ gf false L x hx n hn w h hk
end Go.Proofs.Ytcmhobbpeaeebaa
namespace Go.Proofs.Ytcmhobbpeaeebaa
namespace New
open Go.RowKit
/-- The cursor's way of writing numbers. -/
theorem Put (C G : Nat) : ∀ (k : Nat) (L : List Int) (x : Int) (n : Nat) (w : World), I64 x → n ≤ 8 → Cur w C G false 79 80 k L → k + n ≤ 128 →
    Calls Try.prog 79 #[.pointer (some ⟨C, 0, none⟩), .int .i64 x, .int .i64 n] w fun e w' => e = .returned (.tuple #[]) ∧ Wrote w w' C G false 79 80 k L (numB false n x) :=
  fun k L x n w hx hn h hk => putLow_any C G k _ _ false L x hx n hn w h hk
end New
end Go.Proofs.Ytcmhobbpeaeebaa
namespace Go.Proofs.Ytcmhobbpeaeebaa
namespace New
open Go.RowKit
set_option linter.unusedVariables false
set_option maxRecDepth 100000

set_option maxHeartbeats 800000 in
theorem putSmall_any (C G k : Nat) (L : List Int) (x : Int) (hx : I64 x) (w : World) (h : Cur w C G false 79 80 k L) (hk : k + 4 ≤ 128) :
    Calls Try.prog 124 #[.pointer (some ⟨C, 0, none⟩), .int .i64 x] w fun e w' => e = .returned (.tuple #[]) ∧ Wrote w w' C G false 79 80 k L (numB false (smallN false) x) := by
  obtain ⟨e0, e1, e2, e3, e4⟩ := h.cells
  have hsm := smallN_le false
  go_enter Try.func124, Try.ntmps124
  go_wp2_with fail
  go_region_held3 (fun w' => w'.cell? ⟨C, 3, none⟩ = some (.func (.func 79) #[.pointer (some ⟨C, 0, none⟩)] #[])) (go_keep)
    (first
      | (go_at_call 125; refine (smallWidth_any C G k 79 80 false L w.drew h.drew).mono ?_; rintro e w1 ⟨rfl, rfl⟩)
      | (go_at_call 79; refine (Put C G k L x (smallN false) w.drew hx (by omega) h.drew (by omega)).mono ?_; rintro e w2 ⟨rfl, hW⟩; obtain ⟨_, _, _, q3, _⟩ := hW.1.cells))
  go_wp2
  go_end0
  exact ⟨rfl, hW.1, (Fr.of_below (Below.refl _ _).drew).trans hW.2⟩
end New
end Go.Proofs.Ytcmhobbpeaeebaa
namespace Go.Proofs.Ytcmhobbpeaeebaa
namespace New
open Go.RowKit
set_option linter.unusedVariables false
set_option maxRecDepth 100000

theorem numB_one (old : Bool) (x : Int) (h : 0 ≤ x ∧ x ≤ 255) : numB old 1 x = [x] := by
  have : x % 256 = x := by omega
  cases old <;> simp [numB, beB, leB, this]

set_option maxHeartbeats 800000 in
theorem putText_any (C G k : Nat) (L : List Int) (s : ByteArray) (w : World) (h : Cur w C G false 79 80 k L) (hk : k + s.size + 1 < 128) :
    Calls Try.prog 133 #[.pointer (some ⟨C, 0, none⟩), .string s] w fun e w' => e = .returned (.tuple #[]) ∧ Wrote w w' C G false 79 80 k L (textB s) := by
  obtain ⟨e0, e1, e2, e3, e4⟩ := h.cells
  go_enter Try.func133, Try.ntmps133
  go_wp2_with fail
  refine (Put C G k L (s.size : Int) 1 w (by unfold I64; omega) (by omega) h (by omega)).mono ?_
  rintro e w1 ⟨rfl, hW1⟩
  rw [numB_one _ _ (by omega)] at hW1
  clear e0 e1 e2 e3 e4
  go_wp2_with fail
  refine (putLetters_any C G (k + 1) _ _ _ (lay L k [(s.size : Int)]) s w1 hW1.1 (by omega) (by omega)).mono ?_
  rintro e w2 ⟨rfl, hW2⟩
  have hl := h.len
  have R : Hid (Wrote w w2 C G false 79 80 k L (textB s)) := hW1.trans (by simp [hl]; omega) hW2
  clear hW1 hW2 h
  go_wp2
  go_end0
  exact ⟨rfl, R.out⟩

theorem Wrote.skip {w w' : World} {C G k pf gf : Nat} {old : Bool} {L bs : List Int} (h : Wrote w w' C G old pf gf k L bs) (z : Nat) (hz : (L.drop (k + bs.length)).take z = List.replicate z 0) : Wrote w (w'.setCell ⟨C, 1, none⟩ (.int .i64 ((k + bs.length + z : Nat) : Int))) C G old pf gf k L (bs ++ List.replicate z 0) := by
  refine ⟨?_, fr_setB h.2 (.inl rfl) _⟩
  have key : L.drop (k + bs.length) = List.replicate z 0 ++ L.drop (k + bs.length + z) := by
    rw [← hz]
    have := (List.take_append_drop z (L.drop (k + bs.length))).symm
    rw [List.drop_drop] at this
    exact this
  have e : lay L k (bs ++ List.replicate z 0) = lay L k bs := by
    unfold lay
    rw [key, List.length_append, List.length_replicate, ← Nat.add_assoc]
    simp only [List.append_assoc]
  rw [e, List.length_append, List.length_replicate, ← Nat.add_assoc]
  exact h.1.move _

set_option maxHeartbeats 800000 in
theorem putKey_any (C G k : Nat) (L : List Int) (s : ByteArray) (w : World) (h : Cur w C G false 79 80 k L) (hs : s.size ≤ 8) (hk : k + 10 < 128) (hz : (L.drop (k + (s.size + 1))).take (8 - s.size) = List.replicate (8 - s.size) 0) :
    Calls Try.prog 140 #[.pointer (some ⟨C, 0, none⟩), .string s] w fun e w' => e = .returned (.tuple #[]) ∧ Wrote w w' C G false 79 80 k L (textB s ++ (if false then List.replicate (8 - s.size) 0 else [])) := by
  go_enter Try.func140, Try.ntmps140
  go_wp2_with fail
  refine (putText_any C G k L s w h (by omega)).mono ?_
  rintro e w1 ⟨rfl, hW1⟩
  obtain ⟨e0, e1, e2, e3, e4⟩ := hW1.1.cells
  have hfC : ∀ o, w1.frozen? ⟨C, o, none⟩ = false := by intro o; simp [World.frozen?, hW1.1.box]
  have HL : Hid ((textB s).length = s.size + 1) := textB_len s
  have HW : Hid (Wrote w w1 C G false 79 80 k L (textB s)) := hW1
  rw [HL.out] at e1
  clear hW1
  go_wp2
  go_end0
  refine ⟨rfl, ?_⟩
  first
    | (have R := Wrote.skip HW.out (8 - s.size) (by rw [HL.out]; exact hz)
       rw [HL.out, show ((k + (s.size + 1) + (8 - s.size) : Nat) : Int) = (k : Int) + ((s.size : Int) + 1) + (8 - (s.size : Int)) by omega] at R
       exact R)
    | (have R := HW.out
       simpa using R)
set_option maxHeartbeats 800000 in
theorem sumBytes_any (a : Option Addr) (n c : Nat) (bs : List Int) (w : World) (A B : Nat) (h : BytesAt w A B a n c bs) (hn : n ≤ 128) :
    Calls Try.prog 71 #[.slice a n c] w fun e w' => e = .returned (.int .i64 (sumI bs)) ∧ w' = w := by
  obtain ⟨hl, hnc, hcm, hw, hcell, _⟩ := h
  have HL : Hid (bs.length = n) := hl
  clear hl
  go_enter Try.func71, Try.ntmps71
  go_wp2_with fail
  go_loopw [3, 8] (fun sv iv wr => ∃ i : Nat, i ≤ n ∧ iv = .int .i64 i ∧ wr = w ∧ ∃ y : Int, sv = .int .i64 y ∧ (0 ≤ y ∧ y ≤ 255 * i) ∧ Hid (y = sumI (bs.take i))) (fun _ iv _ => n - (intOf iv).toNat)
  case atStart => exact ⟨0, Nat.zero_le _, rfl, rfl, 0, rfl, by simp, rfl⟩
  case round =>
    obtain ⟨i, hi, rfl, rfl, y, rfl, hy, HY⟩ := hrel
    by_cases hlt : i < n
    · obtain ⟨b, off, rfl, hb, hcb⟩ := hcell (by omega)
      have e1 := hcb i hlt
      have hx := getD_byteB hw i
      have HS : Hid (y + bs.getD i 0 = sumI (bs.take (i + 1))) := by show _ = _; rw [sumI_take (by have := HL.out; omega), ← HY.out]
      generalize bs.getD i 0 = x at e1 hx HS
      clear hcell hcb
      go_wp2
      go_roundw
      case rel => exact ⟨i + 1, by omega, by go_num, trivial, y + x, by go_num, by omega, HS⟩
      case measure => simp [intOf]; omega
    · have HE : Hid (y = sumI bs) := by show _ = _; rw [HY.out, List.take_of_length_le (by have := HL.out; omega)]
      go_wp2
      go_ret
      rw [← HE.out]
      exact ⟨rfl, rfl⟩
end New
end Go.Proofs.Ytcmhobbpeaeebaa
