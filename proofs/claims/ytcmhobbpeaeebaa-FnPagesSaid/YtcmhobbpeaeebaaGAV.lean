import Derived.Test.YtcmhobbpeaeebaaGAA
import Derived.Test.YtcmhobbpeaeebaaGAD
import Derived.Test.YtcmhobbpeaeebaaGAH
import Derived.Test.YtcmhobbpeaeebaaGAL
import Derived.Deep.QuietTactic
namespace Go.Proofs.Ytcmhobbpeaeebaa
namespace New
open Go.RowKit
set_option linter.unusedVariables false
set_option maxRecDepth 100000

theorem toB_inj {a b : List Int} (ha : ∀ x ∈ a, 0 ≤ x ∧ x ≤ 255) (hb : ∀ x ∈ b, 0 ≤ x ∧ x ≤ 255) : toB a = toB b ↔ a = b := by
  constructor
  · intro h
    have := congrArg strB h
    rwa [strB_toB ha, strB_toB hb] at this
  · rintro rfl; rfl
theorem bytesEqual_any (a b : Option Addr) (n m c d : Nat) (x y : List Int) (w : World) (A B A2 B2 : Nat) (hx : BytesAt w A B a n c x) (hy : BytesAt w A2 B2 b m d y) :
    Calls Try.prog 82 #[.slice a n c, .slice b m d] w fun e w' => e = .returned (.bool (decide (x = y))) ∧ Below w.heap.size w w' := by
  have h1 := str_conv hx
  have h2 := str_conv hy
  have hd : ((toB x).toList == (toB y).toList) = decide (x = y) := by
    have h3 := toB_inj hx.2.2.2.1 hy.2.2.2.1
    have h4 : ((toB x).toList == (toB y).toList) = decide (toB x = toB y) := by
      rw [ByteArray.toList_eq, ByteArray.toList_eq, Bool.eq_iff_iff]
      simp only [beq_iff_eq, decide_eq_true_eq]
      constructor
      · intro h; exact ByteArray.ext (Array.ext' h)
      · intro h; rw [h]
    rw [h4]
    simp [h3]
  go_enter Try.func82, Try.ntmps82
  go_wp2
  go_ret
  exact ⟨by rw [← hd]; rfl, Below.refl _ _⟩
/-- What decoding answers: the page where b is its code, else the zero value. -/
def resVal (ok : Bool) (p : Pg) (vk ve : Value) : Value :=
  if ok then .agg #[.bool true, .int .i64 p.kind, .int .i64 p.tx, .int .i64 p.id, .int .i64 p.root, .int .i64 p.count, vk, ve, .int .i64 p.next, .string p.data]
  else .agg #[.bool false, .int .i64 0, .int .i64 0, .int .i64 0, .int .i64 0, .int .i64 0, .slice none 0 0, .slice none 0 0, .int .i64 0, .string ⟨#[]⟩]
def put10 (w : World) (N : Nat) (u0 u1 u2 u3 u4 u5 u6 u7 u8 u9 : Value) : World :=
  (((((((((w.setCell ⟨N, 0, none⟩ u0).setCell ⟨N, 1, none⟩ u1).setCell ⟨N, 2, none⟩ u2).setCell ⟨N, 3, none⟩ u3).setCell ⟨N, 4, none⟩ u4).setCell ⟨N, 5, none⟩ u5).setCell ⟨N, 6, none⟩ u6).setCell ⟨N, 7, none⟩ u7).setCell ⟨N, 8, none⟩ u8).setCell ⟨N, 9, none⟩ u9
theorem put10_box {w : World} {N t : Nat} {v0 v1 v2 v3 v4 v5 v6 v7 v8 v9 : Value} (h : w.heap[N]? = some (.cells #[v0, v1, v2, v3, v4, v5, v6, v7, v8, v9] t)) (u0 u1 u2 u3 u4 u5 u6 u7 u8 u9 : Value) : (put10 w N u0 u1 u2 u3 u4 u5 u6 u7 u8 u9).heap[N]? = some (.cells #[u0, u1, u2, u3, u4, u5, u6, u7, u8, u9] t) := by
  simp [put10, World.setCell, Array.getElem?_modify, h]
theorem setq_fr (w : World) (N i : Nat) (u : Value) : Fr (fun x => x = N) w (w.setCell ⟨N, i, none⟩ u) := ⟨rfl, rfl, rfl, by simp [World.setCell], fun k _ hk => Below.heap_setCell w ⟨N, i, none⟩ u k hk⟩
theorem put10_fr (w : World) (N : Nat) (u0 u1 u2 u3 u4 u5 u6 u7 u8 u9 : Value) : Fr (fun x => x = N) w (put10 w N u0 u1 u2 u3 u4 u5 u6 u7 u8 u9) :=
  (((((((((setq_fr _ _ _ _).trans (setq_fr _ _ _ _)).trans (setq_fr _ _ _ _)).trans (setq_fr _ _ _ _)).trans (setq_fr _ _ _ _)).trans (setq_fr _ _ _ _)).trans (setq_fr _ _ _ _)).trans (setq_fr _ _ _ _)).trans (setq_fr _ _ _ _)).trans (setq_fr _ _ _ _)
theorem box_ten {w : World} {N : Nat} {v0 v1 v2 v3 v4 v5 v6 v7 v8 v9 : Value} {t : TypeId} (h : w.heap[N]? = some (.cells #[v0, v1, v2, v3, v4, v5, v6, v7, v8, v9] t)) : w.cell? ⟨N, 0, none⟩ = some v0 ∧ w.cell? ⟨N, 1, none⟩ = some v1 ∧ w.cell? ⟨N, 2, none⟩ = some v2 ∧ w.cell? ⟨N, 3, none⟩ = some v3 ∧ w.cell? ⟨N, 4, none⟩ = some v4 ∧ w.cell? ⟨N, 5, none⟩ = some v5 ∧ w.cell? ⟨N, 6, none⟩ = some v6 ∧ w.cell? ⟨N, 7, none⟩ = some v7 ∧ w.cell? ⟨N, 8, none⟩ = some v8 ∧ w.cell? ⟨N, 9, none⟩ = some v9 := by
  simp [World.cell?, h]
theorem box_frozenq {w : World} {M t : Nat} {cs : Array Value} (h : w.heap[M]? = some (.cells cs t)) (j : Nat) : w.frozen? ⟨M, j, none⟩ = false := by simp [World.frozen?, h]
set_option maxHeartbeats 1600000 in
theorem coded_any (p : Pg) (hf : PgFit p) (ka : Option Addr) (kc : Nat) (ea : Option Addr) (ec : Nat) (ba : Option Addr) (bc : Nat) (bs : List Int) (w : World) (A B A2 B2 : Nat) (hB : B ≤ w.heap.size) (hB2 : B2 ≤ w.heap.size) (hK : KidsAt w A B ka p.ks.length kc p.ks) (hE : EntsAt w A B ea p.es.length ec p.es) (hb : BytesAt w A2 B2 ba 128 bc bs) :
    Calls Try.prog 48 #[.agg #[.int .i64 p.kind, .int .i64 p.tx, .int .i64 p.id, .int .i64 p.root, .int .i64 p.count, .slice ka p.ks.length kc, .slice ea p.es.length ec, .int .i64 p.next, .string p.data], .func (.func 22) #[] #[], .slice ba 128 bc] w fun e w' => e = .returned (resVal (decide (newCodeOf p = bs)) p (.slice ka p.ks.length kc) (.slice ea p.es.length ec)) ∧ Below w.heap.size w w' := by
  go_enter Try.func48, Try.ntmps48
  go_wp2_with fail
  have hbw0 : Below w.heap.size w ((w.alloc (.cells #[.int .i64 p.kind, .int .i64 p.tx, .int .i64 p.id, .int .i64 p.root, .int .i64 p.count, .slice ka p.ks.length kc, .slice ea p.es.length ec, .int .i64 p.next, .string p.data] 28)).alloc (.cells #[.bool false, .int .i64 0, .int .i64 0, .int .i64 0, .int .i64 0, .int .i64 0, .slice none 0 0, .slice none 0 0, .int .i64 0, .string ⟨#[]⟩] 32)) := ((Below.refl _ _).alloc (Nat.le_refl _) _).alloc (by simp) _
  have HR0 := heap_alloc_new (w.alloc (.cells #[.int .i64 p.kind, .int .i64 p.tx, .int .i64 p.id, .int .i64 p.root, .int .i64 p.count, .slice ka p.ks.length kc, .slice ea p.es.length ec, .int .i64 p.next, .string p.data] 28)) (.cells #[.bool false, .int .i64 0, .int .i64 0, .int .i64 0, .int .i64 0, .int .i64 0, .slice none 0 0, .slice none 0 0, .int .i64 0, .string ⟨#[]⟩] 32)
  have hsz : (w.alloc (.cells #[.int .i64 p.kind, .int .i64 p.tx, .int .i64 p.id, .int .i64 p.root, .int .i64 p.count, .slice ka p.ks.length kc, .slice ea p.es.length ec, .int .i64 p.next, .string p.data] 28)).heap.size = w.heap.size + 1 := by simp
  rw [hsz] at HR0
  have HP0 : ((w.alloc (.cells #[.int .i64 p.kind, .int .i64 p.tx, .int .i64 p.id, .int .i64 p.root, .int .i64 p.count, .slice ka p.ks.length kc, .slice ea p.es.length ec, .int .i64 p.next, .string p.data] 28)).alloc (.cells #[.bool false, .int .i64 0, .int .i64 0, .int .i64 0, .int .i64 0, .int .i64 0, .slice none 0 0, .slice none 0 0, .int .i64 0, .string ⟨#[]⟩] 32)).heap[w.heap.size]? = some (.cells #[.int .i64 p.kind, .int .i64 p.tx, .int .i64 p.id, .int .i64 p.root, .int .i64 p.count, .slice ka p.ks.length kc, .slice ea p.es.length ec, .int .i64 p.next, .string p.data] 28) := (((Below.refl (w.alloc (.cells #[.int .i64 p.kind, .int .i64 p.tx, .int .i64 p.id, .int .i64 p.root, .int .i64 p.count, .slice ka p.ks.length kc, .slice ea p.es.length ec, .int .i64 p.next, .string p.data] 28)).heap.size _).alloc (Nat.le_refl _) _).block w.heap.size (by simp)).trans (heap_alloc_new w _)
  generalize (w.alloc (.cells #[.int .i64 p.kind, .int .i64 p.tx, .int .i64 p.id, .int .i64 p.root, .int .i64 p.count, .slice ka p.ks.length kc, .slice ea p.es.length ec, .int .i64 p.next, .string p.data] 28)).alloc (.cells #[.bool false, .int .i64 0, .int .i64 0, .int .i64 0, .int .i64 0, .int .i64 0, .slice none 0 0, .slice none 0 0, .int .i64 0, .string ⟨#[]⟩] 32) = W at hbw0 HR0 HP0 ⊢
  clear hsz
  refine (encodePage_any p hf ka kc ea ec W A B (Nat.le_trans hB hbw0.size) (hK.below (hbw0.mono hB)) (hE.below (hbw0.mono hB))).mono ?_
  rintro e w1 ⟨v1, rfl, hO1, hb1⟩
  obtain ⟨va, vc, rfl⟩ := own_shape hO1
  have hbw1 := hbw0.trans (hb1.mono hbw0.size)
  have HR1 := eb_call HR0 hb1
  have HP1 := eb_call HP0 hb1
  have hby1 := bytesAt_row hO1 (codeN_byte p)
  have hbs := hb.below (hbw1.mono hB2)
  clear hbw0 HR0 HP0 hO1 hb1 hK hE hb
  go_wp2_with fail
  refine (bytesEqual_any va ba _ 128 vc bc (newCodeOf p) bs w1 _ _ _ _ hby1 hbs).mono ?_
  rintro e w2 ⟨rfl, hb2⟩
  have hbw := hbw1.trans (hb2.mono hbw1.size)
  have HR2 := eb_call HR1 hb2
  have HP2 := eb_call HP1 hb2
  have HR3 := HR2
  obtain ⟨c5, c6, c0, c2, c3, c4, c7, c8, c1⟩ := box_slice HP2
  clear hbw1 hby1 hbs hb2
  by_cases hd : newCodeOf p = bs
  · have hdec : decide (newCodeOf p = bs) = true := by simpa using hd
    rw [hdec]
    have HB10 := put10_box HR3 (.bool true) (.int .i64 p.kind) (.int .i64 p.tx) (.int .i64 p.id) (.int .i64 p.root) (.int .i64 p.count) (.slice ka p.ks.length kc) (.slice ea p.es.length ec) (.int .i64 p.next) (.string p.data)
    have hb4 : Below w.heap.size w (put10 w2 (w.heap.size + 1) (.bool true) (.int .i64 p.kind) (.int .i64 p.tx) (.int .i64 p.id) (.int .i64 p.root) (.int .i64 p.count) (.slice ka p.ks.length kc) (.slice ea p.es.length ec) (.int .i64 p.next) (.string p.data)) := hbw.trans ((put10_fr w2 (w.heap.size + 1) (.bool true) (.int .i64 p.kind) (.int .i64 p.tx) (.int .i64 p.id) (.int .i64 p.root) (.int .i64 p.count) (.slice ka p.ks.length kc) (.slice ea p.es.length ec) (.int .i64 p.next) (.string p.data)).below hbw.size (fun g e => by omega))
    have f3 := box_frozenq HR3
    obtain ⟨d0, d1, d2, d3, d4, d5, d6, d7, d8, d9⟩ := box_ten HR3
    clear HP2 HR2 HR1 HP1
    go_wp2
    show bodyPost _ _ _ _ _ (put10 w2 (w.heap.size + 1) (.bool true) (.int .i64 p.kind) (.int .i64 p.tx) (.int .i64 p.id) (.int .i64 p.root) (.int .i64 p.count) (.slice ka p.ks.length kc) (.slice ea p.es.length ec) (.int .i64 p.next) (.string p.data))
    clear d0 d1 d2 d3 d4 d5 d6 d7 d8 d9
    obtain ⟨d0, d1, d2, d3, d4, d5, d6, d7, d8, d9⟩ := box_ten HB10
    exact bodyPost_ret (v := .agg #[.bool true, .int .i64 p.kind, .int .i64 p.tx, .int .i64 p.id, .int .i64 p.root, .int .i64 p.count, .slice ka p.ks.length kc, .slice ea p.es.length ec, .int .i64 p.next, .string p.data]) (by simp [results, Try.results48, go_sem, d0, d1, d2, d3, d4, d5, d6, d7, d8, d9]) rfl ⟨by rw [hdec]; rfl, hb4⟩
  · have hdec : decide (newCodeOf p = bs) = false := by simpa using hd
    rw [hdec]
    have HB10 := put10_box HR3 (.bool false) (.int .i64 0) (.int .i64 0) (.int .i64 0) (.int .i64 0) (.int .i64 0) (.slice none 0 0) (.slice none 0 0) (.int .i64 0) (.string ⟨#[]⟩)
    have hb4 : Below w.heap.size w (put10 w2 (w.heap.size + 1) (.bool false) (.int .i64 0) (.int .i64 0) (.int .i64 0) (.int .i64 0) (.int .i64 0) (.slice none 0 0) (.slice none 0 0) (.int .i64 0) (.string ⟨#[]⟩)) := hbw.trans ((put10_fr w2 (w.heap.size + 1) (.bool false) (.int .i64 0) (.int .i64 0) (.int .i64 0) (.int .i64 0) (.int .i64 0) (.slice none 0 0) (.slice none 0 0) (.int .i64 0) (.string ⟨#[]⟩)).below hbw.size (fun g e => by omega))
    have f3 := box_frozenq HR3
    obtain ⟨d0, d1, d2, d3, d4, d5, d6, d7, d8, d9⟩ := box_ten HR3
    clear HP2 HR2 HR1 HP1
    go_wp2
    show bodyPost _ _ _ _ _ (put10 w2 (w.heap.size + 1) (.bool false) (.int .i64 0) (.int .i64 0) (.int .i64 0) (.int .i64 0) (.int .i64 0) (.slice none 0 0) (.slice none 0 0) (.int .i64 0) (.string ⟨#[]⟩))
    clear d0 d1 d2 d3 d4 d5 d6 d7 d8 d9
    obtain ⟨d0, d1, d2, d3, d4, d5, d6, d7, d8, d9⟩ := box_ten HB10
    exact bodyPost_ret (v := .agg #[.bool false, .int .i64 0, .int .i64 0, .int .i64 0, .int .i64 0, .int .i64 0, .slice none 0 0, .slice none 0 0, .int .i64 0, .string ⟨#[]⟩]) (by simp [results, Try.results48, go_sem, d0, d1, d2, d3, d4, d5, d6, d7, d8, d9]) rfl ⟨by rw [hdec]; rfl, hb4⟩
end New
end Go.Proofs.Ytcmhobbpeaeebaa
namespace Go.Proofs.Ytcmhobbpeaeebaa
open Go.RowKit
set_option linter.unusedVariables false
set_option maxRecDepth 100000

theorem toB_cmpW {x y : List Int} (hx : ∀ z ∈ x, 0 ≤ z ∧ z ≤ 255) (hy : ∀ z ∈ y, 0 ≤ z ∧ z ≤ 255) : ((toB x).toList == (toB y).toList) = decide (x = y) := by
  have h3 := New.toB_inj hx hy
  have h4 : ((toB x).toList == (toB y).toList) = decide (toB x = toB y) := by
    rw [ByteArray.toList_eq, ByteArray.toList_eq, Bool.eq_iff_iff]
    simp only [beq_iff_eq, decide_eq_true_eq]
    constructor
    · intro h; exact ByteArray.ext (Array.ext' h)
    · intro h; rw [h]
  rw [h4]
  simp [h3]
theorem lwBytes_any (a : Option Addr) (n c : Nat) (bs : List Int) (a2 : Option Addr) (n2 c2 : Nat) (bs2 : List Int) (w : World) (A B A2 B2 : Nat) (h : BytesAt w A B a n c bs) (h2 : BytesAt w A2 B2 a2 n2 c2 bs2) :
    Calls Try.prog 11 #[.slice a n c, .slice a2 n2 c2] w fun e w' => e = .returned (.bool (decide (bs = bs2))) ∧ w' = w := by
  have s1 := str_conv h
  have s2 := str_conv h2
  have hc := toB_cmpW h.2.2.2.1 h2.2.2.2.1
  go_enter Try.func11, Try.ntmps11
  go_wp2

  go_ret
  exact ⟨rfl, rfl⟩
end Go.Proofs.Ytcmhobbpeaeebaa
namespace Go.Proofs.Ytcmhobbpeaeebaa
open Go.RowKit
set_option linter.unusedVariables false
set_option maxRecDepth 100000

/-- The number that bytes are, the lowest first. -/
def leN : List Int → Int
  | [] => 0
  | b :: r => b + 256 * leN r
def numOf (high : Bool) (bs : List Int) : Int := if high then leN bs.reverse else leN bs
theorem leN_snoc : ∀ (l : List Int) (x : Int), leN (l ++ [x]) = leN l + 256 ^ l.length * x
  | [], x => by simp [leN]
  | b :: r, x => by
    rw [List.cons_append, leN, leN_snoc r x, leN, List.length_cons, Int.pow_succ]
    rw [Int.mul_add, ← Int.mul_assoc, Int.mul_comm (256 ^ r.length) 256, Int.add_assoc]
theorem leN_range : ∀ (l : List Int), (∀ x ∈ l, 0 ≤ x ∧ x ≤ 255) → 0 ≤ leN l ∧ leN l < 256 ^ l.length
  | [], _ => by simp [leN]
  | b :: r, h => by
    have h1 := h b (List.mem_cons_self ..)
    have h2 := leN_range r (fun x hx => h x (List.mem_cons_of_mem _ hx))
    rw [leN, List.length_cons, Int.pow_succ]
    omega
theorem numOf_range (high : Bool) {l : List Int} (h : ∀ x ∈ l, 0 ≤ x ∧ x ≤ 255) : 0 ≤ numOf high l ∧ numOf high l < 256 ^ l.length := by
  cases high
  · exact leN_range l h
  · have := leN_range l.reverse (fun x hx => h x (List.mem_reverse.1 hx))
    simpa [numOf] using this
theorem leN_leB : ∀ n x, 0 ≤ x → x < 256 ^ n → leN (leB n x) = x
  | 0, x, h0, h1 => by simp at h1; simp [leB, leN]; omega
  | n + 1, x, h0, h1 => by
    rw [Int.pow_succ] at h1
    rw [leB, leN, leN_leB n (x / 256) (by omega) (by omega)]
    omega
theorem numOf_numB (high : Bool) (n : Nat) (x : Int) (h0 : 0 ≤ x) (h1 : x < 256 ^ n) : numOf high (numB high n x) = x := by
  cases high
  · exact leN_leB n x h0 h1
  · simp [numOf, numB, beB, leN_leB n x h0 h1]
theorem or_comm64 (a b : Int) : bits .or .i64 a b = bits .or .i64 b a := by
  show IntKind.i64.wrap ((BitVec.ofInt 64 a ||| BitVec.ofInt 64 b).toNat : Int) = IntKind.i64.wrap ((BitVec.ofInt 64 b ||| BitVec.ofInt 64 a).toNat : Int)
  rw [BitVec.or_comm]
theorem wrap62 : ∀ n : Int, 0 ≤ n → n < 2 ^ 62 → IntKind.i64.wrap n = n := by
  intro n h0 h1
  rw [IntKind.wrap_i64]
  have : (2 : Int) ^ 62 = 4611686018427387904 := by decide
  omega
theorem or_join (i : Nat) (x y : Int) (hx0 : 0 ≤ x) (hx : x % 2 ^ i = 0) (hx1 : x < 4611686018427387904) (hy0 : 0 ≤ y) (hy : y < 2 ^ i) (hy1 : y < 4611686018427387904) : bits .or .i64 x y = x + y :=
  bits_join .i64 62 (by decide) wrap62 i x y hx0 hx (by have : (2 : Int) ^ 62 = 4611686018427387904 := by decide
                                                        omega) hy0 hy (by have : (2 : Int) ^ 62 = 4611686018427387904 := by decide
                                                                          omega)
theorem or_low0 {y x : Int} (hy : 0 ≤ y ∧ y < 256 ^ 0) (hx : 0 ≤ x ∧ x ≤ 255) : bits .or .i64 y x = y + 256 ^ 0 * x := by
  simp at hy
  obtain rfl : y = 0 := by omega
  rw [or_comm64, or_join 0 x 0 (by omega) (by simp) (by omega) (by omega) (by simp) (by omega)]
  simp
theorem or_low1 {y x : Int} (hy : 0 ≤ y ∧ y < 256 ^ 1) (hx : 0 ≤ x ∧ x ≤ 255) : bits .or .i64 y (x * 256) = y + 256 ^ 1 * x := by
  have h1 : (256 : Int) ^ 1 = 256 := by decide
  have h2 : (2 : Int) ^ 8 = 256 := by decide
  rw [h1] at hy
  rw [or_comm64, or_join 8 (x * 256) y (by omega) (by omega) (by omega) (by omega) (by omega) (by omega)]
  omega
theorem or_low2 {y x : Int} (hy : 0 ≤ y ∧ y < 256 ^ 2) (hx : 0 ≤ x ∧ x ≤ 255) : bits .or .i64 y (x * 65536) = y + 256 ^ 2 * x := by
  have h1 : (256 : Int) ^ 2 = 65536 := by decide
  have h2 : (2 : Int) ^ 16 = 65536 := by decide
  rw [h1] at hy
  rw [or_comm64, or_join 16 (x * 65536) y (by omega) (by omega) (by omega) (by omega) (by omega) (by omega)]
  omega
theorem or_low3 {y x : Int} (hy : 0 ≤ y ∧ y < 256 ^ 3) (hx : 0 ≤ x ∧ x ≤ 255) : bits .or .i64 y (x * 16777216) = y + 256 ^ 3 * x := by
  have h1 : (256 : Int) ^ 3 = 16777216 := by decide
  have h2 : (2 : Int) ^ 24 = 16777216 := by decide
  rw [h1] at hy
  rw [or_comm64, or_join 24 (x * 16777216) y (by omega) (by omega) (by omega) (by omega) (by omega) (by omega)]
  omega
theorem or_high {y x : Int} (hy : 0 ≤ y ∧ y < 16777216) (hx : 0 ≤ x ∧ x ≤ 255) : bits .or .i64 (y * 256) x = 256 * y + x := by
  have h2 : (2 : Int) ^ 8 = 256 := by decide
  rw [or_join 8 (y * 256) x (by omega) (by omega) (by omega) (by omega) (by omega) (by omega)]
  omega
set_option maxHeartbeats 800000 in
theorem getLow_any (C g o c pf gf k : Nat) (old : Bool) (n : Nat) (hn : n ≤ 4) (hk : k ≤ 128) (bs : List Int) (A B : Nat) (hBC : B ≤ C) (w : World) (hBs : B ≤ w.heap.size) (hB : BytesAt w A B (some ⟨g, o, none⟩) 128 c bs) (h : RCur w C g o c old pf gf k) :
    Calls Try.prog 80 #[.pointer (some ⟨C, 0, none⟩), .int .i64 n] w fun e w' => e = .returned (.int .i64 (numOf false (cutL bs k n))) ∧ Mv w w' C g o c old pf gf (min (k + n) 128) := by
  have hl := cutL_len hB.1 k n
  go_enter Try.func80, Try.ntmps80
  go_wp2_with fail
  refine (take_any C g o c pf gf k old n (by omega) hk bs A B hBC w hBs hB h).mono ?_
  rintro e w1 ⟨a1, c1, rfl, hB1, hM1⟩
  have hl4 : min (k + n) 128 - k ≤ 4 := by omega
  generalize hk' : min (k + n) 128 = k' at hB1 hM1 hl hl4 ⊢
  have HK : Hid (min (k + n) 128 = k') := hk'
  generalize k' - k = m at hB1 hl hl4 ⊢
  generalize hq : cutL bs k n = l at hB1 hl ⊢
  have HQ : Hid (cutL bs k n = l) := hq
  clear hk' hq
  have hby := hB1.2.2.2.1
  have HM1 : Hid (Mv w w1 C g o c old pf gf k') := hM1
  have HL : Hid (l.length = m) := hl
  clear hM1 hl hB h
  go_wp2_with fail
  go_loopw [5, 12] (fun x i wr => ∃ j : Nat, j ≤ m ∧ i = .int .i64 j ∧ wr = w1 ∧ x = .int .i64 (leN (l.take j))) (fun _ i _ => m - (intOf i).toNat)
  case atStart => exact ⟨0, by omega, rfl, rfl, rfl⟩
  case round =>
    obtain ⟨j, hj, rfl, rfl, rfl⟩ := hrel
    by_cases hlt : j < m
    · obtain ⟨b, off, rfl, hb, hcb⟩ := hB1.2.2.2.2.1 (by omega)
      have e1 := hcb j hlt
      have hx := getD_byteB hby j
      have hr := leN_range (l.take j) (fun x hx => hby x (List.mem_of_mem_take hx))
      have hlj : (l.take j).length = j := by have := HL.out; simp; omega
      rw [hlj] at hr
      have HS : Hid (leN (l.take (j + 1)) = leN (l.take j) + 256 ^ j * l.getD j 0) := by
        show _ = _
        have hll := HL.out
        rw [List.take_add_one, show l[j]?.toList = [l.getD j 0] by simp [List.getD, show j < l.length by omega], leN_snoc, hlj]
      generalize l.getD j 0 = x at e1 hx HS
      generalize leN (l.take j) = y at hr HS ⊢
      clear hB1 hcb hlj
      have h4 : j = 0 ∨ j = 1 ∨ j = 2 ∨ j = 3 := by omega
      rcases h4 with rfl | rfl | rfl | rfl
      · simp only [Nat.add_zero] at e1
        go_wp2
        go_roundw
        case rel => exact ⟨1, by omega, rfl, trivial, by rw [HS.out, or_low0 hr hx]⟩
        case measure => simp [intOf]; omega
      · go_wp2
        go_roundw
        case rel => exact ⟨2, by omega, rfl, trivial, by rw [HS.out, or_low1 hr hx]⟩
        case measure => simp [intOf]; omega
      · go_wp2
        go_roundw
        case rel => exact ⟨3, by omega, rfl, trivial, by rw [HS.out, or_low2 hr hx]⟩
        case measure => simp [intOf]; omega
      · go_wp2
        go_roundw
        case rel => exact ⟨4, by omega, rfl, trivial, by rw [HS.out, or_low3 hr hx]⟩
        case measure => simp [intOf]; omega
    · go_wp2
      go_ret
      obtain rfl : j = m := by omega
      rw [List.take_of_length_le (by have := HL.out; omega)]
      rw [HQ.out, HK.out]
      exact ⟨rfl, HM1.out⟩
theorem beN_take {l : List Int} {j : Nat} (h : j < l.length) : numOf true (l.take (j + 1)) = 256 * numOf true (l.take j) + l.getD j 0 := by
  rw [List.take_add_one, show l[j]?.toList = [l.getD j 0] by simp [List.getD, h]]
  simp only [numOf, if_true, List.reverse_append, List.reverse_cons, List.reverse_nil, List.nil_append, List.singleton_append, leN]
  omega
set_option maxHeartbeats 800000 in
theorem getHigh_any (C g o c pf gf k : Nat) (old : Bool) (n : Nat) (hn : n ≤ 4) (hk : k ≤ 128) (bs : List Int) (A B : Nat) (hBC : B ≤ C) (w : World) (hBs : B ≤ w.heap.size) (hB : BytesAt w A B (some ⟨g, o, none⟩) 128 c bs) (h : RCur w C g o c old pf gf k) :
    Calls Try.prog 86 #[.pointer (some ⟨C, 0, none⟩), .int .i64 n] w fun e w' => e = .returned (.int .i64 (numOf true (cutL bs k n))) ∧ Mv w w' C g o c old pf gf (min (k + n) 128) := by
  have hl := cutL_len hB.1 k n
  go_enter Try.func86, Try.ntmps86
  go_wp2_with fail
  refine (take_any C g o c pf gf k old n (by omega) hk bs A B hBC w hBs hB h).mono ?_
  rintro e w1 ⟨a1, c1, rfl, hB1, hM1⟩
  have hl4 : min (k + n) 128 - k ≤ 4 := by omega
  generalize hk' : min (k + n) 128 = k' at hB1 hM1 hl hl4 ⊢
  have HK : Hid (min (k + n) 128 = k') := hk'
  generalize k' - k = m at hB1 hl hl4 ⊢
  generalize hq : cutL bs k n = l at hB1 hl ⊢
  have HQ : Hid (cutL bs k n = l) := hq
  clear hk' hq
  have hby := hB1.2.2.2.1
  have HM1 : Hid (Mv w w1 C g o c old pf gf k') := hM1
  have HL : Hid (l.length = m) := hl
  clear hM1 hl hB h
  go_wp2_with fail
  go_loopw [5, 12] (fun x i wr => ∃ j : Nat, j ≤ m ∧ i = .int .i64 j ∧ wr = w1 ∧ x = .int .i64 (numOf true (l.take j))) (fun _ i _ => m - (intOf i).toNat)
  case atStart => exact ⟨0, by omega, rfl, rfl, rfl⟩
  case round =>
    obtain ⟨j, hj, rfl, rfl, rfl⟩ := hrel
    by_cases hlt : j < m
    · obtain ⟨b, off, rfl, hb, hcb⟩ := hB1.2.2.2.2.1 (by omega)
      have e1 := hcb j hlt
      have hx := getD_byteB hby j
      have hr := numOf_range true (l := l.take j) (fun x hx => hby x (List.mem_of_mem_take hx))
      have hlj : (l.take j).length = j := by have := HL.out; simp; omega
      rw [hlj] at hr
      have hr3 : 0 ≤ numOf true (l.take j) ∧ numOf true (l.take j) < 16777216 := by
        refine ⟨hr.1, ?_⟩
        have h4 : j = 0 ∨ j = 1 ∨ j = 2 ∨ j = 3 := by omega
        rcases h4 with rfl | rfl | rfl | rfl <;> simp at hr ⊢ <;> omega
      have HS : Hid (numOf true (l.take (j + 1)) = 256 * numOf true (l.take j) + l.getD j 0) := beN_take (by have := HL.out; omega)
      generalize l.getD j 0 = x at e1 hx HS
      generalize numOf true (l.take j) = y at hr3 HS ⊢
      clear hB1 hcb hlj hr
      go_wp2
      go_roundw
      case rel => exact ⟨j + 1, by omega, by go_num, trivial, by rw [HS.out, or_high hr3 hx]⟩
      case measure => simp [intOf]; omega
    · go_wp2
      go_ret
      obtain rfl : j = m := by omega
      rw [List.take_of_length_le (by have := HL.out; omega)]
      rw [HQ.out, HK.out]
      exact ⟨rfl, HM1.out⟩
end Go.Proofs.Ytcmhobbpeaeebaa
namespace Go.Proofs.Ytcmhobbpeaeebaa
namespace New
open Go.RowKit
set_option linter.unusedVariables false
set_option maxRecDepth 100000

def rN (bs : List Int) (k n : Nat) : Int := numOf false (cutL bs k n)
def tLen (bs : List Int) (k : Nat) : Nat := (rN bs k 1).toNat
def adv (k n : Nat) : Nat := min (k + n) 128
def tStr (bs : List Int) (k : Nat) : ByteArray := toB (cutL bs (adv k 1) (tLen bs k))
def tEnd (bs : List Int) (k : Nat) : Nat := adv (adv k 1) (tLen bs k)
def kEnd (bs : List Int) (k : Nat) : Nat := if false = true then adv (tEnd bs k) (8 - (tStr bs k).size) else tEnd bs k
/-- A cursor of this format at k, over bytes that lie below it. -/
structure RAt (w : World) (C g o c A B : Nat) (bs : List Int) (k : Nat) : Prop where
  cur : RCur w C g o c false 79 80 k
  byt : BytesAt w A B (some ⟨g, o, none⟩) 128 c bs
  low : B ≤ C
  top : B ≤ w.heap.size
  pos : k ≤ 128
theorem RAt.mv {w w' : World} {C g o c A B : Nat} {bs : List Int} {k k' : Nat} (h : RAt w C g o c A B bs k) (hm : Mv w w' C g o c false 79 80 k') (hk : k' ≤ 128) : RAt w' C g o c A B bs k' :=
  ⟨hm.1, h.byt.fr hm.2 h.low h.top, h.low, Nat.le_trans h.top hm.2.size, hk⟩
theorem RAt.drew {w : World} {C g o c A B : Nat} {bs : List Int} {k : Nat} (h : RAt w C g o c A B bs k) : RAt w.drew C g o c A B bs k := ⟨h.cur.drew, h.byt, h.low, h.top, h.pos⟩
theorem adv_le (k n : Nat) : adv k n ≤ 128 := by unfold adv; omega
theorem rN_range {w : World} {C g o c A B : Nat} {bs : List Int} {k : Nat} (h : RAt w C g o c A B bs k) (j n : Nat) : 0 ≤ rN bs j n ∧ rN bs j n < 256 ^ (min (j + n) 128 - j) := by
  have := numOf_range false (l := cutL bs j n) (fun x hx => h.byt.2.2.2.1 x (List.mem_of_mem_drop (List.mem_of_mem_take hx)))
  rw [cutL_len h.byt.1] at this
  exact this
theorem rN_small {w : World} {C g o c A B : Nat} {bs : List Int} {k : Nat} (h : RAt w C g o c A B bs k) (j n : Nat) (hn : n ≤ 4) : 0 ≤ rN bs j n ∧ rN bs j n < 4294967296 := by
  have h1 := rN_range h j n
  refine ⟨h1.1, Int.lt_of_lt_of_le h1.2 ?_⟩
  have h4 : min (j + n) 128 - j ≤ 4 := by omega
  generalize min (j + n) 128 - j = m at h4
  have h5 : m = 0 ∨ m = 1 ∨ m = 2 ∨ m = 3 ∨ m = 4 := by omega
  rcases h5 with rfl | rfl | rfl | rfl | rfl <;> decide
theorem rN_one {w : World} {C g o c A B : Nat} {bs : List Int} {k : Nat} (h : RAt w C g o c A B bs k) (j : Nat) : 0 ≤ rN bs j 1 ∧ rN bs j 1 ≤ 255 := by
  have h1 := rN_range h j 1
  refine ⟨h1.1, ?_⟩
  have h4 : min (j + 1) 128 - j ≤ 1 := by omega
  generalize min (j + 1) 128 - j = m at h4 h1
  have h5 : m = 0 ∨ m = 1 := by omega
  rcases h5 with rfl | rfl <;> simp at h1 <;> omega
theorem tLen_le {w : World} {C g o c A B : Nat} {bs : List Int} {k : Nat} (h : RAt w C g o c A B bs k) (j : Nat) : tLen bs j ≤ 255 := by
  have := rN_one h j
  unfold tLen
  omega
theorem tStr_size {w : World} {C g o c A B : Nat} {bs : List Int} {k : Nat} (h : RAt w C g o c A B bs k) (j : Nat) : (tStr bs j).size ≤ 255 := by
  have h1 := tLen_le h j
  rw [tStr, toB_size, cutL_len h.byt.1]
  omega
theorem Get (C g o c A B : Nat) (bs : List Int) (k n : Nat) (hn : n ≤ 4) (w : World) (h : RAt w C g o c A B bs k) :
    Calls Try.prog 80 #[.pointer (some ⟨C, 0, none⟩), .int .i64 n] w fun e w' => e = .returned (.int .i64 (rN bs k n)) ∧ Mv w w' C g o c false 79 80 (adv k n) :=
  getLow_any C g o c _ _ k false n hn h.pos bs A B h.low w h.top h.byt h.cur
theorem smallWidthR (C g o c A B : Nat) (bs : List Int) (k : Nat) (w : World) (h : RAt w C g o c A B bs k) :
    Calls Try.prog 125 #[.pointer (some ⟨C, 0, none⟩)] w fun e w' => e = .returned (.int .i64 (smallN false)) ∧ w' = w := by
  obtain ⟨c0, c1, c2, c3, c4⟩ := h.cur.cells
  go_enter Try.func125, Try.ntmps125
  go_wp2
  go_ret
  exact ⟨rfl, rfl⟩
set_option maxHeartbeats 800000 in
theorem getSmall_any (C g o c A B : Nat) (bs : List Int) (k : Nat) (w : World) (h : RAt w C g o c A B bs k) :
    Calls Try.prog 123 #[.pointer (some ⟨C, 0, none⟩)] w fun e w' => e = .returned (.int .i64 (rN bs k (smallN false))) ∧ Mv w w' C g o c false 79 80 (adv k (smallN false)) := by
  obtain ⟨c0, c1, c2, c3, c4⟩ := h.cur.cells
  go_enter Try.func123, Try.ntmps123
  go_wp2_with fail
  go_region_held3 (fun w' => w'.cell? ⟨C, 4, none⟩ = some (.func (.func 80) #[.pointer (some ⟨C, 0, none⟩)] #[])) (go_keep)
    (first
      | (go_at_call 125; refine (smallWidthR C g o c A B bs k w.drew h.drew).mono ?_; rintro e w1 ⟨rfl, rfl⟩)
      | (go_at_call 80; refine (Get C g o c A B bs k (smallN false) (by decide) w.drew h.drew).mono ?_; rintro e w2 ⟨rfl, hM⟩; obtain ⟨_, _, _, _, q4⟩ := hM.1.cells))
  all_goals
    go_wp2
    go_ret
    exact ⟨rfl, hM.redraw⟩
set_option maxHeartbeats 800000 in
theorem getText_any (C g o c A B : Nat) (bs : List Int) (k : Nat) (w : World) (h : RAt w C g o c A B bs k) :
    Calls Try.prog 131 #[.pointer (some ⟨C, 0, none⟩)] w fun e w' => e = .returned (.string (tStr bs k)) ∧ Mv w w' C g o c false 79 80 (tEnd bs k) := by
  obtain ⟨c0, c1, c2, c3, c4⟩ := h.cur.cells
  have hone := rN_one h k
  have hw64 : IntKind.i64.wrap (rN bs k 1) = rN bs k 1 := by rw [IntKind.wrap_i64]; omega
  have HT : Hid (tStr bs k = toB (cutL bs (adv k 1) (rN bs k 1).toNat)) := rfl
  have HE : Hid (tEnd bs k = adv (adv k 1) (rN bs k 1).toNat) := rfl
  have HA := rN_one h k
  go_enter Try.func131, Try.ntmps131
  go_wp2_with fail
  refine (Get C g o c A B bs k 1 (by omega) w h).mono ?_
  rintro e w1 ⟨rfl, hM1⟩
  have h1 := h.mv hM1 (adv_le _ _)
  obtain ⟨d0, d1, d2, d3, d4⟩ := h1.cur.cells
  generalize hx : rN bs k 1 = x at hone hw64 HT HE ⊢
  obtain ⟨n, rfl⟩ : ∃ n : Nat, x = (n : Int) := ⟨x.toNat, by omega⟩
  simp only [Int.toNat_natCast] at HT HE
  clear hx c0 c1 c2 c3 c4 HA
  go_wp2_with fail
  refine (take_any C g o c _ _ (adv k 1) false n (by omega) h1.pos bs A B h1.low w1 h1.top h1.byt h1.cur).mono ?_
  rintro e w2 ⟨a2, c2, rfl, hB2, hM2⟩
  have hcv := str_conv hB2
  go_wp2
  go_ret
  rw [HT.out, HE.out]
  exact ⟨rfl, hM1.trans hM2⟩
set_option maxHeartbeats 800000 in
theorem getKey_any (C g o c A B : Nat) (bs : List Int) (k : Nat) (w : World) (h : RAt w C g o c A B bs k) :
    Calls Try.prog 116 #[.pointer (some ⟨C, 0, none⟩)] w fun e w' => e = .returned (.string (tStr bs k)) ∧ Mv w w' C g o c false 79 80 (kEnd bs k) := by
  have hsz := tStr_size h k
  go_enter Try.func116, Try.ntmps116
  go_wp2_with fail
  refine (getText_any C g o c A B bs k w h).mono ?_
  rintro e w1 ⟨rfl, hM1⟩
  have h1 := h.mv hM1 (adv_le _ _)
  obtain ⟨d0, d1, d2, d3, d4⟩ := h1.cur.cells
  have HK : Hid (kEnd bs k = if false = true then adv (tEnd bs k) (8 - (tStr bs k).size) else tEnd bs k) := rfl
  have HM : Hid (Mv w w1 C g o c false 79 80 (tEnd bs k)) := hM1
  clear hM1
  generalize tEnd bs k = te at h1 d1 HK HM ⊢
  generalize hts : tStr bs k = ts at hsz HK ⊢
  have HS : Hid (tStr bs k = ts) := hts
  clear hts
  by_cases h8 : ts.size ≤ 8
  · have e : (8 : Int) - (ts.size : Int) = ((8 - ts.size : Nat) : Int) := by omega
    go_wp2_with fail
    first
      | (go_ret; rw [HK.out, HS.out, if_neg (by decide)]; exact ⟨rfl, HM.out⟩)
      | (try rw [e]
         refine (take_any C g o c _ _ te false (8 - ts.size) (by omega) h1.pos bs A B h1.low w1 h1.top h1.byt h1.cur).mono ?_
         rintro e w2 ⟨a2, c2, rfl, hB2, hM2⟩
         go_wp2
         go_ret
         rw [HK.out, HS.out, if_pos (by decide)]
         exact ⟨rfl, HM.out.trans hM2⟩)
  · have e : 8 - ts.size = 0 := by omega
    have hneg : (8 : Int) - (ts.size : Int) < 0 := by omega
    go_wp2_with fail
    first
      | (go_ret; rw [HK.out, HS.out, if_neg (by decide)]; exact ⟨rfl, HM.out⟩)
      | (refine (take_any C g o c _ _ te false 0 (by omega) h1.pos bs A B h1.low w1 h1.top h1.byt h1.cur).mono ?_
         rintro e' w2 ⟨a2, c2, rfl, hB2, hM2⟩
         go_wp2
         go_ret
         rw [HK.out, HS.out, if_pos (by decide), e]
         exact ⟨rfl, HM.out.trans hM2⟩)
end New
end Go.Proofs.Ytcmhobbpeaeebaa
namespace Go.Proofs.Ytcmhobbpeaeebaa
namespace New
open Go.RowKit
set_option linter.unusedVariables false
set_option maxRecDepth 100000

theorem Fr.weaken {S T : Nat → Prop} {a b : World} (h : Fr S a b) (hst : ∀ x, S x → T x) : Fr T a b := ⟨h.1, h.2, h.3, h.4, fun k hk hT => h.block k hk (fun hs => hT (hst k hs))⟩
theorem box_frozen {w : World} {M t : Nat} {cs : Array Value} (h : w.heap[M]? = some (.cells cs t)) (j : Nat) : w.frozen? ⟨M, j, none⟩ = false := by simp [World.frozen?, h]
theorem box_two2 {w : World} {N : Nat} {v0 v1 : Value} {t : TypeId} (h : w.heap[N]? = some (.cells #[v0, v1] t)) : w.cell? ⟨N, 0, none⟩ = some v0 ∧ w.cell? ⟨N, 1, none⟩ = some v1 := by
  simp [World.cell?, h]
/-- The cursor went on to k', block M holds the box; nothing else that was there is written. -/
structure Rd (w w' : World) (C g o c A B : Nat) (bs : List Int) (k : Nat) (M : Nat) (box : Obj) : Prop where
  at' : RAt w' C g o c A B bs k
  box : w'.heap[M]? = some box
  fr : Fr (fun x => x = C ∨ x = M) w w'
theorem Rd.start {w : World} {C g o c A B : Nat} {bs : List Int} {k M : Nat} {box : Obj} (h : RAt w C g o c A B bs k) (hM : w.heap[M]? = some box) : Rd w w C g o c A B bs k M box := ⟨h, hM, Fr.refl _ _⟩
theorem Rd.mv {w w1 w2 : World} {C g o c A B : Nat} {bs : List Int} {k k' M : Nat} {box : Obj} (h : Rd w w1 C g o c A B bs k M box) (hMC : M ≠ C) (hm : Mv w1 w2 C g o c false 79 80 k') (hk : k' ≤ 128) : Rd w w2 C g o c A B bs k' M box :=
  ⟨h.at'.mv hm hk, (hm.2.block M (Array.getElem?_eq_some_iff.1 h.box).1 hMC).trans h.box, h.fr.trans (Fr.weaken hm.2 fun x hx => .inl hx)⟩
theorem Rd.drew {w w1 : World} {C g o c A B : Nat} {bs : List Int} {k M : Nat} {box : Obj} (h : Rd w w1 C g o c A B bs k M box) : Rd w w1.drew C g o c A B bs k M box := ⟨h.at'.drew, h.box, h.fr.trans (Fr.of_below (Below.refl _ _).drew)⟩
theorem Rd.redraw {w w1 : World} {C g o c A B : Nat} {bs : List Int} {k M : Nat} {box : Obj} (h : Rd w.drew w1 C g o c A B bs k M box) : Rd w w1 C g o c A B bs k M box := ⟨h.at', h.box, (Fr.of_below (Below.refl _ _).drew).trans h.fr⟩
theorem Rd.drewN {w w1 : World} {C g o c A B : Nat} {bs : List Int} {k M : Nat} {box : Obj} (h : Rd w w1 C g o c A B bs k M box) (q : Nat) : Rd w (w1.drewN q) C g o c A B bs k M box := ⟨⟨⟨h.at'.cur.box⟩, h.at'.byt, h.at'.low, h.at'.top, h.at'.pos⟩, h.box, h.fr.trans (Fr.of_below ⟨rfl, rfl, rfl, Nat.le_refl _, fun _ _ => rfl⟩)⟩
/-- A store into the box at M. -/
theorem Rd.put {w w1 : World} {C g o c A B : Nat} {bs : List Int} {k M t : Nat} {cs : Array Value} (h : Rd w w1 C g o c A B bs k M (.cells cs t)) (hMC : M ≠ C) (hBM : B ≤ M) (i : Nat) (v : Value) : Rd w (w1.setCell ⟨M, i, none⟩ v) C g o c A B bs k M (.cells (cs.setIfInBounds i v) t) := by
  have hs : ∀ x, x ≠ M → (w1.setCell ⟨M, i, none⟩ v).heap[x]? = w1.heap[x]? := fun x hx => Below.heap_setCell w1 ⟨M, i, none⟩ v x hx
  have hz : (w1.setCell ⟨M, i, none⟩ v).heap.size = w1.heap.size := by simp [World.setCell]
  refine ⟨⟨⟨(hs C (Ne.symm hMC)).trans h.at'.cur.box⟩, h.at'.byt.keep (fun x k1 k2 => hs x (by omega)), h.at'.low, by rw [hz]; exact h.at'.top, h.at'.pos⟩, ?_, h.fr.trans ⟨rfl, rfl, rfl, by rw [hz]; exact Nat.le_refl _, fun x _ hx => hs x (fun e => hx (.inr e))⟩⟩
  simp [World.setCell, Array.getElem?_modify, h.box]

def oNext (bs : List Int) (k : Nat) : Int := rN bs k (smallN false)
def oData (bs : List Int) (k : Nat) : ByteArray := tStr bs (adv k (smallN false))
def oEnd (bs : List Int) (k : Nat) : Nat := tEnd bs (adv k (smallN false))
set_option maxHeartbeats 800000 in
theorem overRead_any (C g o c A B : Nat) (bs : List Int) (k M : Nat) (count : Int) (w : World) (h : RAt w C g o c A B bs k) (hMC : M ≠ C) (hBM : B ≤ M) (n0 : Int) (d0 : ByteArray) (hM : w.heap[M]? = some (.cells #[.int .i64 n0, .string d0] 145)) :
    Calls Try.prog 143 #[.pointer (some ⟨M, 0, none⟩), .pointer (some ⟨C, 0, none⟩), .int .i64 count] w fun e w' => e = .returned (.tuple #[]) ∧ Rd w w' C g o c A B bs (oEnd bs k) M (.cells #[.int .i64 (oNext bs k), .string (oData bs k)] 145) := by
  have R0 := Rd.start h hM
  go_enter Try.func143, Try.ntmps143
  go_wp2_with fail
  refine (getSmall_any C g o c A B bs k w h).mono ?_
  rintro e w1 ⟨rfl, hM1⟩
  have R1 := R0.mv hMC hM1 (adv_le _ _)
  obtain ⟨x0, x1⟩ := box_two2 R1.box
  have f1 := box_frozen R1.box
  have R2 := R1.put hMC hBM 0 (.int .i64 (rN bs k (smallN false)))
  clear R0 hM1 R1
  go_wp2_with fail
  clear x0 x1 f1
  generalize w1.setCell ⟨M, 0, none⟩ (.int .i64 (rN bs k (smallN false))) = w2 at R2 ⊢
  refine (getText_any C g o c A B bs (adv k (smallN false)) w2 R2.at').mono ?_
  rintro e w3 ⟨rfl, hM3⟩
  have R3 := R2.mv hMC hM3 (adv_le _ _)
  obtain ⟨x0, x1⟩ := box_two2 (w := w3) (N := M) (by simpa using R3.box)
  have f3 := box_frozen R3.box
  have R4 := R3.put hMC hBM 1 (.string (tStr bs (adv k (smallN false))))
  clear R2 hM3 R3
  go_wp2
  go_end0
  exact ⟨rfl, by simpa [oNext, oData, oEnd] using R4⟩
end New
end Go.Proofs.Ytcmhobbpeaeebaa
namespace Go.Proofs.Ytcmhobbpeaeebaa
open Go.RowKit
set_option linter.unusedVariables false
set_option maxRecDepth 100000

theorem info_Kid : (Try.prog.info? 100).map (fun i => (i.zero, i.size, i.bytes)) = some (some (.agg #[.string ByteArray.empty, .int .i64 0]), 2, 24) := by kernel_rfl
theorem info_Ent : (Try.prog.info? 102).map (fun i => (i.zero, i.size, i.bytes)) = some (some (.agg #[.string ByteArray.empty, .string ByteArray.empty, .int .i64 0, .int .i64 0]), 4, 48) := by kernel_rfl

theorem set_twoP {xs ys : List Value} {n k : Nat} {p : PK} {cs : List PK} (hl : cs.length = n) (hk : k < n) (hp : p = cs.getD k dK) (hx : xs.length = n * 2) (h : ∀ j, j < k * 2 → xs[j]? = (rowsOf kidCells cs)[j]?) :
    ∀ j, j < (k + 1) * 2 → ((xs.set (k * 2) (.string p.1)).set (k * 2 + 1) (.int .i64 p.2))[j]? = (rowsOf kidCells cs)[j]? := by
  intro j hj
  have e0 := rowsOf_get kc2 dK cs k 0 (by omega) (by omega)
  have e1 := rowsOf_get kc2 dK cs k 1 (by omega) (by omega)
  by_cases h0 : j = k * 2
  · subst h0
    rw [List.getElem?_set_ne (by omega), List.getElem?_set_self (by omega), hp]
    simpa [kidCells] using e0.symm
  · by_cases h1 : j = k * 2 + 1
    · subst h1
      rw [List.getElem?_set_self (by simp; omega), hp]
      simpa [kidCells] using e1.symm
    · rw [List.getElem?_set_ne (by omega), List.getElem?_set_ne (by omega)]
      exact h j (by omega)
theorem set_four {xs : List Value} {n k : Nat} {p : PE} {cs : List PE} (hl : cs.length = n) (hk : k < n) (hp : p = cs.getD k dE) (hx : xs.length = n * 4) (h : ∀ j, j < k * 4 → xs[j]? = (rowsOf entCells cs)[j]?) :
    ∀ j, j < (k + 1) * 4 → ((((xs.set (k * 4) (.string p.1)).set (k * 4 + 1) (.string p.2.1)).set (k * 4 + 2) (.int .i64 p.2.2.1)).set (k * 4 + 3) (.int .i64 p.2.2.2))[j]? = (rowsOf entCells cs)[j]? := by
  intro j hj
  have e0 := rowsOf_get ec4 dE cs k 0 (by omega) (by omega)
  have e1 := rowsOf_get ec4 dE cs k 1 (by omega) (by omega)
  have e2 := rowsOf_get ec4 dE cs k 2 (by omega) (by omega)
  have e3 := rowsOf_get ec4 dE cs k 3 (by omega) (by omega)
  by_cases h0 : j = k * 4
  · subst h0
    rw [List.getElem?_set_ne (by omega), List.getElem?_set_ne (by omega), List.getElem?_set_ne (by omega), List.getElem?_set_self (by omega), hp]
    simpa [entCells] using e0.symm
  · by_cases h1 : j = k * 4 + 1
    · subst h1
      rw [List.getElem?_set_ne (by omega), List.getElem?_set_ne (by omega), List.getElem?_set_self (by simp; omega), hp]
      simpa [entCells] using e1.symm
    · by_cases h2 : j = k * 4 + 2
      · subst h2
        rw [List.getElem?_set_ne (by omega), List.getElem?_set_self (by simp; omega), hp]
        simpa [entCells] using e2.symm
      · by_cases h3 : j = k * 4 + 3
        · subst h3
          rw [List.getElem?_set_self (by simp; omega), hp]
          simpa [entCells] using e3.symm
        · rw [List.getElem?_set_ne (by omega), List.getElem?_set_ne (by omega), List.getElem?_set_ne (by omega), List.getElem?_set_ne (by omega)]
          exact h j (by omega)

set_option maxHeartbeats 400000 in
theorem toKid_any (k : PK) (w : World) :
    Calls Try.prog 91 #[.agg #[.string k.1, .int .i64 k.2]] w fun e w' => e = .returned (.agg #[.string k.1, .int .i64 k.2]) ∧ Below w.heap.size w w' := by
  go_enter Try.func91, Try.ntmps91
  go_wp2
  exact bodyPost_ret (v := .agg #[.string k.1, .int .i64 k.2]) (by simp [results, Try.results91, go_sem]) rfl ⟨rfl, (((Below.refl _ _).alloc (Nat.le_refl _) _).alloc (by simp) _).alloc (by simp; omega) _⟩
set_option maxHeartbeats 400000 in
theorem toEnt_any (k : PE) (w : World) :
    Calls Try.prog 92 #[.agg #[.string k.1, .string k.2.1, .int .i64 k.2.2.1, .int .i64 k.2.2.2]] w fun e w' => e = .returned (.agg #[.string k.1, .string k.2.1, .int .i64 k.2.2.1, .int .i64 k.2.2.2]) ∧ Below w.heap.size w w' := by
  go_enter Try.func92, Try.ntmps92
  go_wp2
  exact bodyPost_ret (v := .agg #[.string k.1, .string k.2.1, .int .i64 k.2.2.1, .int .i64 k.2.2.2]) (by simp [results, Try.results92, go_sem]) rfl ⟨rfl, (((Below.refl _ _).alloc (Nat.le_refl _) _).alloc (by simp) _).alloc (by simp; omega) _⟩

set_option maxHeartbeats 400000 in
theorem toKidS_any (a : Option Addr) (n c : Nat) (ks : List PK) (w : World) (A B : Nat) (hB : B ≤ w.heap.size) (h : KidsAt w A B a n c ks) (hn : n ≤ 1048576) :
    Calls Try.prog 57 #[.slice a n c] w fun e w' => ∃ g, w.heap.size ≤ g ∧ e = .returned (.slice (some ⟨g, 0, none⟩) n n) ∧ w'.ownsRow w.heap.size 100 2 (.slice (some ⟨g, 0, none⟩) n n) n (rowsOf kidCells ks) ∧ Below w.heap.size w w' := by
  have hl := h.1
  have HL : Hid (ks.length = n) := hl
  clear hl
  obtain ⟨i0, hi, hz0, hz1, hz2⟩ := info_parts info_Kid
  go_enter Try.func57, Try.ntmps57
  go_wp2_with (at_make; refine wpList_make_full _ rfl _ _ 25 rfl w.heap.size 100 i0 _ 2 Try.underlying25 hi hz0 hz1 .i64 .i64 n n n rfl rfl rfl rfl (by rw [hz2]; omega) (by unfold maxLen; omega) (Nat.le_refl _) ?_; intro w1 hown hgr)
  have hb1 : Below w.heap.size w w1 := (Below.refl _ _).grown hgr (Nat.le_refl _) (by simp)
  go_loopw [4] (fun i wr => ∃ k : Nat, k ≤ n ∧ i = .int .i64 k ∧ Below w.heap.size w wr ∧ ∃ xs, wr.ownsRow w.heap.size 100 2 (.slice (some ⟨w.heap.size, 0, none⟩) n n) n xs ∧ ∀ j, j < k * 2 → xs[j]? = (rowsOf kidCells ks)[j]?) (fun i _ => n - (intOf i).toNat)
  case atStart => exact ⟨0, Nat.zero_le _, rfl, hb1, _, hown, fun j hj => by omega⟩
  case round =>
    clear hown hgr hb1
    obtain ⟨k, hk, rfl, hbel, xs, hown, hgot⟩ := hrel
    have HG : Hid (∀ j, j < k * 2 → xs[j]? = (rowsOf kidCells ks)[j]?) := hgot
    clear hgot
    by_cases hlt : k < n
    · obtain ⟨b, off, rfl, hb, hfit, e0, e1⟩ := KidsAt.at (h.below (hbel.mono hB)) hlt
      have HS := fun p hp => set_twoP (ys := []) HL.out hlt (p := p) hp hown.1 HG.out
      obtain ⟨kd, hkd⟩ : ∃ kd, kd = ks.getD k dK := ⟨_, rfl⟩
      have HS2 : Hid _ := HS kd hkd
      rw [← hkd] at e0 e1 hfit
      clear hkd HS h
      have hs := hbel.size
      have hlt0 := (hown.lt w.heap.size rfl).2
      go_wp2_with fail
      refine (toKid_any kd wr).mono ?_
      rintro e w2 ⟨rfl, hb2⟩
      have hown2 := owns_below hown hb2
      have hbel2 := hbel.trans (hb2.mono hs)
      have hxl := hown2.1
      have R := (hown2.stored (k * 2) (.string kd.1)).1.stored (k * 2 + 1) (.int .i64 kd.2)
      have hbel3 := (hbel2.setCell (p := ⟨w.heap.size, k * 2, none⟩) (Nat.le_refl _) (.string kd.1)).setCell (p := ⟨w.heap.size, k * 2 + 1, none⟩) (Nat.le_refl _) (.int .i64 kd.2)
      have hf1 := hown2.frozenAt (k * 2)
      have hf2 := hown2.frozenAt (k * 2 + 1)
      obtain ⟨u, hu⟩ : ∃ u, w2.cell? ⟨w.heap.size, k * 2, none⟩ = some u := ⟨xs[k * 2]'(by omega), by rw [hown2.cellAt (k * 2) (by omega)]; exact List.getElem?_eq_getElem _⟩
      obtain ⟨u2, hu2⟩ : ∃ u, w2.cell? ⟨w.heap.size, k * 2 + 1, none⟩ = some u := ⟨xs[k * 2 + 1]'(by omega), by rw [hown2.cellAt (k * 2 + 1) (by omega)]; exact List.getElem?_eq_getElem _⟩
      clear hown hown2 hbel hbel2 hb2 e0 e1
      go_wp2
      go_roundw
      case rel => exact ⟨k + 1, by omega, by go_num, hbel3, _, R.1, HS2.out⟩
      case measure => simp [intOf]; omega
    · go_wp2
      go_ret
      have hkn : k = n := by omega
      refine ⟨w.heap.size, Nat.le_refl _, rfl, ?_, hbel⟩
      rw [show rowsOf kidCells ks = xs from ?_]
      · exact hown
      · refine (List.ext_getElem? fun j => ?_).symm
        by_cases hj : j < n * 2
        · exact HG.out j (by omega)
        · rw [List.getElem?_eq_none (by rw [hown.1]; omega), List.getElem?_eq_none (by rw [rowsOf_length kc2, HL.out]; omega)]
set_option maxHeartbeats 400000 in
theorem toEntS_any (a : Option Addr) (n c : Nat) (ks : List PE) (w : World) (A B : Nat) (hB : B ≤ w.heap.size) (h : EntsAt w A B a n c ks) (hn : n ≤ 1048576) :
    Calls Try.prog 58 #[.slice a n c] w fun e w' => ∃ g, w.heap.size ≤ g ∧ e = .returned (.slice (some ⟨g, 0, none⟩) n n) ∧ w'.ownsRow w.heap.size 102 4 (.slice (some ⟨g, 0, none⟩) n n) n (rowsOf entCells ks) ∧ Below w.heap.size w w' := by
  have hl := h.1
  have HL : Hid (ks.length = n) := hl
  clear hl
  obtain ⟨i0, hi, hz0, hz1, hz2⟩ := info_parts info_Ent
  go_enter Try.func58, Try.ntmps58
  go_wp2_with (at_make; refine wpList_make_full _ rfl _ _ 26 rfl w.heap.size 102 i0 _ 4 Try.underlying26 hi hz0 hz1 .i64 .i64 n n n rfl rfl rfl rfl (by rw [hz2]; omega) (by unfold maxLen; omega) (Nat.le_refl _) ?_; intro w1 hown hgr)
  have hb1 : Below w.heap.size w w1 := (Below.refl _ _).grown hgr (Nat.le_refl _) (by simp)
  go_loopw [4] (fun i wr => ∃ k : Nat, k ≤ n ∧ i = .int .i64 k ∧ Below w.heap.size w wr ∧ ∃ xs, wr.ownsRow w.heap.size 102 4 (.slice (some ⟨w.heap.size, 0, none⟩) n n) n xs ∧ ∀ j, j < k * 4 → xs[j]? = (rowsOf entCells ks)[j]?) (fun i _ => n - (intOf i).toNat)
  case atStart => exact ⟨0, Nat.zero_le _, rfl, hb1, _, hown, fun j hj => by omega⟩
  case round =>
    clear hown hgr hb1
    obtain ⟨k, hk, rfl, hbel, xs, hown, hgot⟩ := hrel
    have HG : Hid (∀ j, j < k * 4 → xs[j]? = (rowsOf entCells ks)[j]?) := hgot
    clear hgot
    by_cases hlt : k < n
    · obtain ⟨b, off, rfl, hb, hfit, e0, e1, e2, e3⟩ := EntsAt.at (h.below (hbel.mono hB)) hlt
      have HS := fun p hp => set_four HL.out hlt (p := p) hp hown.1 HG.out
      obtain ⟨kd, hkd⟩ : ∃ kd, kd = ks.getD k dE := ⟨_, rfl⟩
      have HS2 : Hid _ := HS kd hkd
      rw [← hkd] at e0 e1 e2 e3 hfit
      clear hkd HS h
      have hs := hbel.size
      have hlt0 := (hown.lt w.heap.size rfl).2
      go_wp2_with fail
      refine (toEnt_any kd wr).mono ?_
      rintro e w2 ⟨rfl, hb2⟩
      have hown2 := owns_below hown hb2
      have hbel2 := hbel.trans (hb2.mono hs)
      have hxl := hown2.1
      have R := (((hown2.stored (k * 4) (.string kd.1)).1.stored (k * 4 + 1) (.string kd.2.1)).1.stored (k * 4 + 2) (.int .i64 kd.2.2.1)).1.stored (k * 4 + 3) (.int .i64 kd.2.2.2)
      have hbel3 := (((hbel2.setCell (p := ⟨w.heap.size, k * 4, none⟩) (Nat.le_refl _) (.string kd.1)).setCell (p := ⟨w.heap.size, k * 4 + 1, none⟩) (Nat.le_refl _) (.string kd.2.1)).setCell (p := ⟨w.heap.size, k * 4 + 2, none⟩) (Nat.le_refl _) (.int .i64 kd.2.2.1)).setCell (p := ⟨w.heap.size, k * 4 + 3, none⟩) (Nat.le_refl _) (.int .i64 kd.2.2.2)
      have hf1 := hown2.frozenAt (k * 4)
      have hf2 := hown2.frozenAt (k * 4 + 1)
      have hf3 := hown2.frozenAt (k * 4 + 2)
      have hf4 := hown2.frozenAt (k * 4 + 3)
      obtain ⟨u, hu⟩ : ∃ u, w2.cell? ⟨w.heap.size, k * 4, none⟩ = some u := ⟨xs[k * 4]'(by omega), by rw [hown2.cellAt (k * 4) (by omega)]; exact List.getElem?_eq_getElem _⟩
      obtain ⟨u2, hu2⟩ : ∃ u, w2.cell? ⟨w.heap.size, k * 4 + 1, none⟩ = some u := ⟨xs[k * 4 + 1]'(by omega), by rw [hown2.cellAt (k * 4 + 1) (by omega)]; exact List.getElem?_eq_getElem _⟩
      obtain ⟨u3, hu3⟩ : ∃ u, w2.cell? ⟨w.heap.size, k * 4 + 2, none⟩ = some u := ⟨xs[k * 4 + 2]'(by omega), by rw [hown2.cellAt (k * 4 + 2) (by omega)]; exact List.getElem?_eq_getElem _⟩
      obtain ⟨u4, hu4⟩ : ∃ u, w2.cell? ⟨w.heap.size, k * 4 + 3, none⟩ = some u := ⟨xs[k * 4 + 3]'(by omega), by rw [hown2.cellAt (k * 4 + 3) (by omega)]; exact List.getElem?_eq_getElem _⟩
      clear hown hown2 hbel hbel2 hb2 e0 e1 e2 e3
      go_wp2
      go_roundw
      case rel => exact ⟨k + 1, by omega, by go_num, hbel3, _, R.1, HS2.out⟩
      case measure => simp [intOf]; omega
    · go_wp2
      go_ret
      have hkn : k = n := by omega
      refine ⟨w.heap.size, Nat.le_refl _, rfl, ?_, hbel⟩
      rw [show rowsOf entCells ks = xs from ?_]
      · exact hown
      · refine (List.ext_getElem? fun j => ?_).symm
        by_cases hj : j < n * 4
        · exact HG.out j (by omega)
        · rw [List.getElem?_eq_none (by rw [hown.1]; omega), List.getElem?_eq_none (by rw [rowsOf_length ec4, HL.out]; omega)]
theorem toMeta_any (id root count : Int) (w : World) :
    Calls Try.prog 56 #[.agg #[.int .i64 id, .int .i64 root, .int .i64 count]] w fun e w' => e = .returned (.agg #[.int .i64 id, .int .i64 root, .int .i64 count]) ∧ Below w.heap.size w w' := by
  go_enter Try.func56, Try.ntmps56
  go_wp2
  exact bodyPost_ret (v := .agg #[.int .i64 id, .int .i64 root, .int .i64 count]) (by simp [results, Try.results56, go_sem]) rfl ⟨rfl, (((Below.refl _ _).alloc (Nat.le_refl _) _).alloc (by simp) _).alloc (by simp; omega) _⟩
end Go.Proofs.Ytcmhobbpeaeebaa
