import Derived.Test.YtcmhobbpeaeebaaGAD
import Derived.Test.YtcmhobbpeaeebaaGAU
import Derived.Test.YtcmhobbpeaeebaaGBF
import Derived.Test.YtcmhobbpeaeebaaGBI
namespace Go.Proofs.Ytcmhobbpeaeebaa
namespace Old
open Go.RowKit
set_option linter.unusedVariables false
set_option maxRecDepth 100000

/-- The page that a code may be the code of. -/
def decP (bs : List Int) : Pg := readP bs 3 (rN bs 1 1) (rN bs 2 1).toNat
/-- The page that the specification reads of a code, and whether its bytes sufficed. -/
def sDec (bs : List Int) : Pg × Bool := sRead ((bs.drop 3).take 124) (bs.getD 1 0) (bs.getD 2 0).toNat
theorem code_form {p : Pg} (htx : p.tx = 0) (hok : bodyOk 1 998 p = true) : ∃ post, oldCodeOf p = [79] ++ ([p.kind] ++ ([((p.ks.length + p.es.length : Nat) : Int)] ++ (bodyB true p ++ post))) ∧ (oldCodeOf p).length = 128 := by
  have hl := bodyB_len true hok
  refine ⟨List.replicate (127 - ([79, p.kind, ((p.ks.length + p.es.length : Nat) : Int)] ++ bodyB true p).length) 0 ++ [sumI (padB 127 ([79, p.kind, ((p.ks.length + p.es.length : Nat) : Int)] ++ bodyB true p)) % 256], ?_, ?_⟩
  · rw [oldCodeOf, if_pos ⟨htx, hok⟩]
    simp [oldCode, padB, List.append_assoc]
  · rw [oldCodeOf, if_pos ⟨htx, hok⟩]
    simp [oldCode, padB]
    omega
theorem dec_code {p : Pg} (htx : p.tx = 0) (hok : bodyOk 1 998 p = true) : decP (oldCodeOf p) = p ∧ sDec (oldCodeOf p) = (p, true) := by
  obtain ⟨post, hf, hlen⟩ := code_form htx hok
  have hl := bodyB_len true hok
  have hkd := body_kind hok
  have hcn := body_count hok
  have h0 : Has (oldCodeOf p) 0 ([79] ++ ([p.kind] ++ ([((p.ks.length + p.es.length : Nat) : Int)] ++ (bodyB true p ++ post)))) := ⟨[], by rw [List.drop_zero, List.append_nil]; exact hf⟩
  have r0 := Has.right h0
  have g1 := Has.left r0
  have r1 := Has.right r0
  have g2 := Has.left r1
  have r2 := Has.right r1
  simp only [List.length_cons, List.length_nil, Nat.zero_add] at g1 g2 r2
  have r4 : Has (oldCodeOf p) 3 (bodyB true p) := Has.left r2
  obtain ⟨a2, _⟩ := g1.byte hlen (by omega) hkd
  obtain ⟨a3, _⟩ := g2.byte hlen (by omega) (by omega)
  have hpg := page_has (by omega) (by omega) hok hlen 3 r4 (by omega)
  have hL2 : Has (((oldCodeOf p).drop 3).take 124) 0 (bodyB true p) := by
    obtain ⟨q, hq⟩ := r4
    refine ⟨q.take (124 - (bodyB true p).length), ?_⟩
    rw [List.drop_zero, hq, List.take_append, List.take_of_length_le (by omega)]
  have hsp := spage_has (by omega) (by omega) hok hL2
  have b1 : (oldCodeOf p).getD 1 0 = p.kind := by
    have q := g1.take
    have hd : (oldCodeOf p).drop 1 = (oldCodeOf p).getD 1 0 :: (oldCodeOf p).drop 2 := by
      rw [List.drop_eq_getElem_cons (by omega)]; simp [List.getD, show 1 < (oldCodeOf p).length by omega]
    rw [hd] at q
    simpa using q
  have b2 : (oldCodeOf p).getD 2 0 = ((p.ks.length + p.es.length : Nat) : Int) := by
    have q := g2.take
    have hd : (oldCodeOf p).drop 2 = (oldCodeOf p).getD 2 0 :: (oldCodeOf p).drop 3 := by
      rw [List.drop_eq_getElem_cons (by omega)]; simp [List.getD, show 2 < (oldCodeOf p).length by omega]
    rw [hd] at q
    simpa using q
  have e2 : rN (oldCodeOf p) 2 1 = ((p.ks.length + p.es.length : Nat) : Int) := a3
  have e1 : rN (oldCodeOf p) 1 1 = p.kind := a2
  have ep : ({ p with tx := 0 } : Pg) = p := by rw [← htx]
  refine ⟨?_, ?_⟩
  · rw [decP, e1, e2, Int.toNat_natCast, hpg, ep]
  · rw [sDec, b1, b2, Int.toNat_natCast, hsp, ep]
/-- Both readings answer alike. -/
theorem dec_same {bs : List Int} (h : bs ≠ []) : (oldCodeOf (decP bs) = bs → sDec bs = (decP bs, true)) ∧ ((sDec bs).2 = true → oldCodeOf (sDec bs).1 = bs → decP bs = (sDec bs).1) := by
  have key : ∀ p : Pg, oldCodeOf p = bs → decP bs = p ∧ sDec bs = (p, true) := by
    intro p hp
    by_cases hg : p.tx = 0 ∧ bodyOk 1 998 p = true
    · have := dec_code hg.1 hg.2
      rw [hp] at this; exact this
    · rw [oldCodeOf, if_neg hg] at hp
      exact absurd hp.symm h
  refine ⟨fun h1 => (key _ h1).2, fun _ h2 => (key _ h2).1⟩
end Old
end Go.Proofs.Ytcmhobbpeaeebaa
namespace Go.Proofs.Ytcmhobbpeaeebaa
namespace Old
open Go.RowKit
set_option linter.unusedVariables false
set_option maxRecDepth 100000

theorem toB_inj {a b : List Int} (ha : ∀ x ∈ a, 0 ≤ x ∧ x ≤ 255) (hb : ∀ x ∈ b, 0 ≤ x ∧ x ≤ 255) : toB a = toB b ↔ a = b := by
  constructor
  · intro h
    have := congrArg strB h
    rwa [strB_toB ha, strB_toB hb] at this
  · rintro rfl; rfl
theorem bytesEqual_any (a b : Option Addr) (n m c d : Nat) (x y : List Int) (w : World) (A B A2 B2 : Nat) (hx : BytesAt w A B a n c x) (hy : BytesAt w A2 B2 b m d y) :
    Calls Try.prog 82 #[.slice a n c, .slice b m d] w fun e w' => e = .returned (.bool (decide (x = y))) ∧ Below w.heap.size w w' := by
  have h1 := str_conv hx
  have h2 := str_conv hy
  have hd : ((toB x).toList == (toB y).toList) = decide (x = y) := by
    have h3 := toB_inj hx.2.2.2.1 hy.2.2.2.1
    have h4 : ((toB x).toList == (toB y).toList) = decide (toB x = toB y) := by
      rw [ByteArray.toList_eq, ByteArray.toList_eq, Bool.eq_iff_iff]
      simp only [beq_iff_eq, decide_eq_true_eq]
      constructor
      · intro h; exact ByteArray.ext (Array.ext' h)
      · intro h; rw [h]
    rw [h4]
    simp [h3]
  go_enter Try.func82, Try.ntmps82
  go_wp2
  go_ret
  exact ⟨by rw [← hd]; rfl, Below.refl _ _⟩
/-- What decoding answers: the page where b is its code, else the zero value. -/
def resVal (ok : Bool) (p : Pg) (vk ve : Value) : Value :=
  if ok then .agg #[.bool true, .int .i64 p.kind, .int .i64 p.tx, .int .i64 p.id, .int .i64 p.root, .int .i64 p.count, vk, ve, .int .i64 p.next, .string p.data]
  else .agg #[.bool false, .int .i64 0, .int .i64 0, .int .i64 0, .int .i64 0, .int .i64 0, .slice none 0 0, .slice none 0 0, .int .i64 0, .string ⟨#[]⟩]
def put10 (w : World) (N : Nat) (u0 u1 u2 u3 u4 u5 u6 u7 u8 u9 : Value) : World :=
  (((((((((w.setCell ⟨N, 0, none⟩ u0).setCell ⟨N, 1, none⟩ u1).setCell ⟨N, 2, none⟩ u2).setCell ⟨N, 3, none⟩ u3).setCell ⟨N, 4, none⟩ u4).setCell ⟨N, 5, none⟩ u5).setCell ⟨N, 6, none⟩ u6).setCell ⟨N, 7, none⟩ u7).setCell ⟨N, 8, none⟩ u8).setCell ⟨N, 9, none⟩ u9
theorem put10_box {w : World} {N t : Nat} {v0 v1 v2 v3 v4 v5 v6 v7 v8 v9 : Value} (h : w.heap[N]? = some (.cells #[v0, v1, v2, v3, v4, v5, v6, v7, v8, v9] t)) (u0 u1 u2 u3 u4 u5 u6 u7 u8 u9 : Value) : (put10 w N u0 u1 u2 u3 u4 u5 u6 u7 u8 u9).heap[N]? = some (.cells #[u0, u1, u2, u3, u4, u5, u6, u7, u8, u9] t) := by
  simp [put10, World.setCell, Array.getElem?_modify, h]
theorem setq_fr (w : World) (N i : Nat) (u : Value) : Fr (fun x => x = N) w (w.setCell ⟨N, i, none⟩ u) := ⟨rfl, rfl, rfl, by simp [World.setCell], fun k _ hk => Below.heap_setCell w ⟨N, i, none⟩ u k hk⟩
theorem put10_fr (w : World) (N : Nat) (u0 u1 u2 u3 u4 u5 u6 u7 u8 u9 : Value) : Fr (fun x => x = N) w (put10 w N u0 u1 u2 u3 u4 u5 u6 u7 u8 u9) :=
  (((((((((setq_fr _ _ _ _).trans (setq_fr _ _ _ _)).trans (setq_fr _ _ _ _)).trans (setq_fr _ _ _ _)).trans (setq_fr _ _ _ _)).trans (setq_fr _ _ _ _)).trans (setq_fr _ _ _ _)).trans (setq_fr _ _ _ _)).trans (setq_fr _ _ _ _)).trans (setq_fr _ _ _ _)
theorem box_ten {w : World} {N : Nat} {v0 v1 v2 v3 v4 v5 v6 v7 v8 v9 : Value} {t : TypeId} (h : w.heap[N]? = some (.cells #[v0, v1, v2, v3, v4, v5, v6, v7, v8, v9] t)) : w.cell? ⟨N, 0, none⟩ = some v0 ∧ w.cell? ⟨N, 1, none⟩ = some v1 ∧ w.cell? ⟨N, 2, none⟩ = some v2 ∧ w.cell? ⟨N, 3, none⟩ = some v3 ∧ w.cell? ⟨N, 4, none⟩ = some v4 ∧ w.cell? ⟨N, 5, none⟩ = some v5 ∧ w.cell? ⟨N, 6, none⟩ = some v6 ∧ w.cell? ⟨N, 7, none⟩ = some v7 ∧ w.cell? ⟨N, 8, none⟩ = some v8 ∧ w.cell? ⟨N, 9, none⟩ = some v9 := by
  simp [World.cell?, h]
theorem box_frozenq {w : World} {M t : Nat} {cs : Array Value} (h : w.heap[M]? = some (.cells cs t)) (j : Nat) : w.frozen? ⟨M, j, none⟩ = false := by simp [World.frozen?, h]
set_option maxHeartbeats 1600000 in
theorem coded_any (p : Pg) (hf : PgFit p) (ka : Option Addr) (kc : Nat) (ea : Option Addr) (ec : Nat) (ba : Option Addr) (bc : Nat) (bs : List Int) (w : World) (A B A2 B2 : Nat) (hB : B ≤ w.heap.size) (hB2 : B2 ≤ w.heap.size) (hK : KidsAt w A B ka p.ks.length kc p.ks) (hE : EntsAt w A B ea p.es.length ec p.es) (hb : BytesAt w A2 B2 ba 128 bc bs) :
    Calls Try.prog 48 #[.agg #[.int .i64 p.kind, .int .i64 p.tx, .int .i64 p.id, .int .i64 p.root, .int .i64 p.count, .slice ka p.ks.length kc, .slice ea p.es.length ec, .int .i64 p.next, .string p.data], .func (.func 29) #[] #[], .slice ba 128 bc] w fun e w' => e = .returned (resVal (decide (oldCodeOf p = bs)) p (.slice ka p.ks.length kc) (.slice ea p.es.length ec)) ∧ Below w.heap.size w w' := by
  go_enter Try.func48, Try.ntmps48
  go_wp2_with fail
  have hbw0 : Below w.heap.size w ((w.alloc (.cells #[.int .i64 p.kind, .int .i64 p.tx, .int .i64 p.id, .int .i64 p.root, .int .i64 p.count, .slice ka p.ks.length kc, .slice ea p.es.length ec, .int .i64 p.next, .string p.data] 28)).alloc (.cells #[.bool false, .int .i64 0, .int .i64 0, .int .i64 0, .int .i64 0, .int .i64 0, .slice none 0 0, .slice none 0 0, .int .i64 0, .string ⟨#[]⟩] 32)) := ((Below.refl _ _).alloc (Nat.le_refl _) _).alloc (by simp) _
  have HR0 := heap_alloc_new (w.alloc (.cells #[.int .i64 p.kind, .int .i64 p.tx, .int .i64 p.id, .int .i64 p.root, .int .i64 p.count, .slice ka p.ks.length kc, .slice ea p.es.length ec, .int .i64 p.next, .string p.data] 28)) (.cells #[.bool false, .int .i64 0, .int .i64 0, .int .i64 0, .int .i64 0, .int .i64 0, .slice none 0 0, .slice none 0 0, .int .i64 0, .string ⟨#[]⟩] 32)
  have hsz : (w.alloc (.cells #[.int .i64 p.kind, .int .i64 p.tx, .int .i64 p.id, .int .i64 p.root, .int .i64 p.count, .slice ka p.ks.length kc, .slice ea p.es.length ec, .int .i64 p.next, .string p.data] 28)).heap.size = w.heap.size + 1 := by simp
  rw [hsz] at HR0
  have HP0 : ((w.alloc (.cells #[.int .i64 p.kind, .int .i64 p.tx, .int .i64 p.id, .int .i64 p.root, .int .i64 p.count, .slice ka p.ks.length kc, .slice ea p.es.length ec, .int .i64 p.next, .string p.data] 28)).alloc (.cells #[.bool false, .int .i64 0, .int .i64 0, .int .i64 0, .int .i64 0, .int .i64 0, .slice none 0 0, .slice none 0 0, .int .i64 0, .string ⟨#[]⟩] 32)).heap[w.heap.size]? = some (.cells #[.int .i64 p.kind, .int .i64 p.tx, .int .i64 p.id, .int .i64 p.root, .int .i64 p.count, .slice ka p.ks.length kc, .slice ea p.es.length ec, .int .i64 p.next, .string p.data] 28) := (((Below.refl (w.alloc (.cells #[.int .i64 p.kind, .int .i64 p.tx, .int .i64 p.id, .int .i64 p.root, .int .i64 p.count, .slice ka p.ks.length kc, .slice ea p.es.length ec, .int .i64 p.next, .string p.data] 28)).heap.size _).alloc (Nat.le_refl _) _).block w.heap.size (by simp)).trans (heap_alloc_new w _)
  generalize (w.alloc (.cells #[.int .i64 p.kind, .int .i64 p.tx, .int .i64 p.id, .int .i64 p.root, .int .i64 p.count, .slice ka p.ks.length kc, .slice ea p.es.length ec, .int .i64 p.next, .string p.data] 28)).alloc (.cells #[.bool false, .int .i64 0, .int .i64 0, .int .i64 0, .int .i64 0, .int .i64 0, .slice none 0 0, .slice none 0 0, .int .i64 0, .string ⟨#[]⟩] 32) = W at hbw0 HR0 HP0 ⊢
  clear hsz
  refine (encodeOld_any p hf ka kc ea ec W A B (Nat.le_trans hB hbw0.size) (hK.below (hbw0.mono hB)) (hE.below (hbw0.mono hB))).mono ?_
  rintro e w1 ⟨v1, rfl, hO1, hb1⟩
  obtain ⟨va, vc, rfl⟩ := own_shape hO1
  have hbw1 := hbw0.trans (hb1.mono hbw0.size)
  have HR1 := eb_call HR0 hb1
  have HP1 := eb_call HP0 hb1
  have hby1 := bytesAt_row hO1 (code_byte p)
  have hbs := hb.below (hbw1.mono hB2)
  clear hbw0 HR0 HP0 hO1 hb1 hK hE hb
  go_wp2_with fail
  refine (bytesEqual_any va ba _ 128 vc bc (oldCodeOf p) bs w1 _ _ _ _ hby1 hbs).mono ?_
  rintro e w2 ⟨rfl, hb2⟩
  have hbw := hbw1.trans (hb2.mono hbw1.size)
  have HR2 := eb_call HR1 hb2
  have HP2 := eb_call HP1 hb2
  have HR3 := HR2
  obtain ⟨c5, c6, c0, c2, c3, c4, c7, c8, c1⟩ := box_slice HP2
  clear hbw1 hby1 hbs hb2
  by_cases hd : oldCodeOf p = bs
  · have hdec : decide (oldCodeOf p = bs) = true := by simpa using hd
    rw [hdec]
    have HB10 := put10_box HR3 (.bool true) (.int .i64 p.kind) (.int .i64 p.tx) (.int .i64 p.id) (.int .i64 p.root) (.int .i64 p.count) (.slice ka p.ks.length kc) (.slice ea p.es.length ec) (.int .i64 p.next) (.string p.data)
    have hb4 : Below w.heap.size w (put10 w2 (w.heap.size + 1) (.bool true) (.int .i64 p.kind) (.int .i64 p.tx) (.int .i64 p.id) (.int .i64 p.root) (.int .i64 p.count) (.slice ka p.ks.length kc) (.slice ea p.es.length ec) (.int .i64 p.next) (.string p.data)) := hbw.trans ((put10_fr w2 (w.heap.size + 1) (.bool true) (.int .i64 p.kind) (.int .i64 p.tx) (.int .i64 p.id) (.int .i64 p.root) (.int .i64 p.count) (.slice ka p.ks.length kc) (.slice ea p.es.length ec) (.int .i64 p.next) (.string p.data)).below hbw.size (fun g e => by omega))
    have f3 := box_frozenq HR3
    obtain ⟨d0, d1, d2, d3, d4, d5, d6, d7, d8, d9⟩ := box_ten HR3
    clear HP2 HR2 HR1 HP1
    go_wp2
    show bodyPost _ _ _ _ _ (put10 w2 (w.heap.size + 1) (.bool true) (.int .i64 p.kind) (.int .i64 p.tx) (.int .i64 p.id) (.int .i64 p.root) (.int .i64 p.count) (.slice ka p.ks.length kc) (.slice ea p.es.length ec) (.int .i64 p.next) (.string p.data))
    clear d0 d1 d2 d3 d4 d5 d6 d7 d8 d9
    obtain ⟨d0, d1, d2, d3, d4, d5, d6, d7, d8, d9⟩ := box_ten HB10
    exact bodyPost_ret (v := .agg #[.bool true, .int .i64 p.kind, .int .i64 p.tx, .int .i64 p.id, .int .i64 p.root, .int .i64 p.count, .slice ka p.ks.length kc, .slice ea p.es.length ec, .int .i64 p.next, .string p.data]) (by simp [results, Try.results48, go_sem, d0, d1, d2, d3, d4, d5, d6, d7, d8, d9]) rfl ⟨by rw [hdec]; rfl, hb4⟩
  · have hdec : decide (oldCodeOf p = bs) = false := by simpa using hd
    rw [hdec]
    have HB10 := put10_box HR3 (.bool false) (.int .i64 0) (.int .i64 0) (.int .i64 0) (.int .i64 0) (.int .i64 0) (.slice none 0 0) (.slice none 0 0) (.int .i64 0) (.string ⟨#[]⟩)
    have hb4 : Below w.heap.size w (put10 w2 (w.heap.size + 1) (.bool false) (.int .i64 0) (.int .i64 0) (.int .i64 0) (.int .i64 0) (.int .i64 0) (.slice none 0 0) (.slice none 0 0) (.int .i64 0) (.string ⟨#[]⟩)) := hbw.trans ((put10_fr w2 (w.heap.size + 1) (.bool false) (.int .i64 0) (.int .i64 0) (.int .i64 0) (.int .i64 0) (.int .i64 0) (.slice none 0 0) (.slice none 0 0) (.int .i64 0) (.string ⟨#[]⟩)).below hbw.size (fun g e => by omega))
    have f3 := box_frozenq HR3
    obtain ⟨d0, d1, d2, d3, d4, d5, d6, d7, d8, d9⟩ := box_ten HR3
    clear HP2 HR2 HR1 HP1
    go_wp2
    show bodyPost _ _ _ _ _ (put10 w2 (w.heap.size + 1) (.bool false) (.int .i64 0) (.int .i64 0) (.int .i64 0) (.int .i64 0) (.int .i64 0) (.slice none 0 0) (.slice none 0 0) (.int .i64 0) (.string ⟨#[]⟩))
    clear d0 d1 d2 d3 d4 d5 d6 d7 d8 d9
    obtain ⟨d0, d1, d2, d3, d4, d5, d6, d7, d8, d9⟩ := box_ten HB10
    exact bodyPost_ret (v := .agg #[.bool false, .int .i64 0, .int .i64 0, .int .i64 0, .int .i64 0, .int .i64 0, .slice none 0 0, .slice none 0 0, .int .i64 0, .string ⟨#[]⟩]) (by simp [results, Try.results48, go_sem, d0, d1, d2, d3, d4, d5, d6, d7, d8, d9]) rfl ⟨by rw [hdec]; rfl, hb4⟩
end Old
end Go.Proofs.Ytcmhobbpeaeebaa
namespace Go.Proofs.Ytcmhobbpeaeebaa
namespace Old
open Go.RowKit
set_option linter.unusedVariables false
set_option maxRecDepth 100000

theorem i64_small {x : Int} (h : 0 ≤ x ∧ x < 4294967296) : I64 x := by unfold I64; omega
theorem kidsR_fit {w : World} {C g o c A B : Nat} {bs : List Int} {k : Nat} (h : RAt w C g o c A B bs k) (j : Nat) : ∀ n, ∀ x ∈ (kidsR bs j n).1, kidFit x
  | 0 => by intro x hx; simp [kidsR] at hx
  | n + 1 => by
    intro x hx
    rw [kidsR] at hx
    rcases List.mem_append.1 hx with hx | hx
    · exact kidsR_fit h j n x hx
    · simp only [List.mem_singleton] at hx
      subst hx
      refine ⟨?_, i64_small (rN_small h _ _ (by decide))⟩
      show (kSep bs n (kidsR bs j n).2).size ≤ maxLen
      unfold kSep maxLen
      split
      · have := tStr_size h (kidsR bs j n).2; omega
      · decide
theorem z64 : I64 0 := by unfold I64; decide
theorem entFit_mk {s t : ByteArray} {x y : Int} (h1 : s.size ≤ maxLen) (h2 : t.size ≤ maxLen) (h3 : I64 x) (h4 : I64 y) : entFit (s, t, x, y) := ⟨h1, h2, h3, h4⟩
theorem entR_fit {w : World} {C g o c A B : Nat} {bs : List Int} {k : Nat} (h : RAt w C g o c A B bs k) (p : Nat) : entFit (entR bs p).1 := by
  have h1 := tStr_size h p
  have h2 := tStr_size h (adv (kEnd bs p) 1)
  have m1 : (tStr bs p).size ≤ maxLen := by unfold maxLen; omega
  have m2 : (tStr bs (adv (kEnd bs p) 1)).size ≤ maxLen := by unfold maxLen; omega
  have m0 : (⟨#[]⟩ : ByteArray).size ≤ maxLen := Nat.zero_le _
  have r1 := i64_small (rN_small h (adv (kEnd bs p) 1) (smallN true) (by decide))
  have r2 := i64_small (rN_small h (adv (adv (kEnd bs p) 1) (smallN true)) (smallN true) (by decide))
  have r3 : I64 ((tStr bs (adv (kEnd bs p) 1)).size : Int) := by unfold I64; omega
  unfold entR
  generalize rN bs (adv (kEnd bs p) 1) (smallN true) = x1 at r1 ⊢
  generalize rN bs (adv (adv (kEnd bs p) 1) (smallN true)) (smallN true) = x2 at r2 ⊢
  by_cases hz : rN bs (kEnd bs p) 1 = 0
  · rw [if_pos hz]
    exact entFit_mk m1 m2 z64 r3
  · rw [if_neg hz]
    exact entFit_mk m1 m0 r1 r2
theorem entsR_fit {w : World} {C g o c A B : Nat} {bs : List Int} {k : Nat} (h : RAt w C g o c A B bs k) (j : Nat) : ∀ n, ∀ x ∈ (entsR bs j n).1, entFit x
  | 0 => by intro x hx; simp [entsR] at hx
  | n + 1 => by
    intro x hx
    rw [entsR] at hx
    rcases List.mem_append.1 hx with hx | hx
    · exact entsR_fit h j n x hx
    · simp only [List.mem_singleton] at hx
      subst hx
      exact entR_fit h _
theorem s64 (x : Int) (h : 0 ≤ x ∧ x ≤ 4) : I64 x := by unfold I64; omega
theorem readP_fit {w : World} {C g o c A B : Nat} {bs : List Int} {k : Nat} (h : RAt w C g o c A B bs k) (j : Nat) (kind : Int) (n : Nat) : PgFit (readP bs j kind n) ∧ (∀ x ∈ (readP bs j kind n).ks, kidFit x) ∧ (∀ x ∈ (readP bs j kind n).es, entFit x) := by
  have e0 : (⟨#[]⟩ : ByteArray).size ≤ maxLen := Nat.zero_le _
  unfold readP
  split
  · exact ⟨⟨s64 1 (by decide), z64, i64_small (rN_small h _ _ (by decide)), i64_small (rN_small h _ _ (by decide)), i64_small (rN_small h _ _ (by decide)), z64, e0⟩, (by intro x hx; cases hx), (by intro x hx; cases hx)⟩
  · split
    · exact ⟨⟨s64 2 (by decide), z64, z64, z64, z64, z64, e0⟩, kidsR_fit h j n, (by intro x hx; cases hx)⟩
    · split
      · exact ⟨⟨s64 3 (by decide), z64, z64, z64, z64, z64, e0⟩, (by intro x hx; cases hx), entsR_fit h j n⟩
      · split
        · exact ⟨⟨s64 4 (by decide), z64, z64, z64, z64, i64_small (rN_small h _ _ (by decide)), by have := tStr_size h (adv j (smallN true)); unfold maxLen; show (oData bs j).size ≤ _; unfold oData; omega⟩, (by intro x hx; cases hx), (by intro x hx; cases hx)⟩
        · exact ⟨⟨s64 0 (by decide), z64, z64, z64, z64, z64, e0⟩, (by intro x hx; cases hx), (by intro x hx; cases hx)⟩
theorem getD_fit {α : Type} {P : α → Prop} {l : List α} (h : ∀ x ∈ l, P x) (d : α) : ∀ i, i < l.length → P (l.getD i d) := by
  intro i hi
  rw [show l.getD i d = l[i] by simp [List.getD, hi]]
  exact h _ (List.getElem_mem hi)
end Old
end Go.Proofs.Ytcmhobbpeaeebaa
