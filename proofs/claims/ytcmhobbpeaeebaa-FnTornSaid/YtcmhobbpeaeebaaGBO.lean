import Derived.Test.YtcmhobbpeaeebaaGAK
import Derived.Test.YtcmhobbpeaeebaaRbN
import Derived.Test.YtcmhobbpeaeebaaGBN
namespace Go.Proofs.Ytcmhobbpeaeebaa
namespace New
open Go.RowKit
set_option linter.unusedVariables false
set_option maxRecDepth 100000

theorem toB_inj {a b : List Int} (ha : ∀ x ∈ a, 0 ≤ x ∧ x ≤ 255) (hb : ∀ x ∈ b, 0 ≤ x ∧ x ≤ 255) : toB a = toB b ↔ a = b := by
  constructor
  · intro h
    have := congrArg strB h
    rwa [strB_toB ha, strB_toB hb] at this
  · rintro rfl; rfl
theorem bytesEqual_any (a b : Option Addr) (n m c d : Nat) (x y : List Int) (w : World) (A B A2 B2 : Nat) (hx : BytesAt w A B a n c x) (hy : BytesAt w A2 B2 b m d y) :
    Calls Try.prog 82 #[.slice a n c, .slice b m d] w fun e w' => e = .returned (.bool (decide (x = y))) ∧ Below w.heap.size w w' := by
  have h1 := str_conv hx
  have h2 := str_conv hy
  have hd : ((toB x).toList == (toB y).toList) = decide (x = y) := by
    have h3 := toB_inj hx.2.2.2.1 hy.2.2.2.1
    have h4 : ((toB x).toList == (toB y).toList) = decide (toB x = toB y) := by
      rw [ByteArray.toList_eq, ByteArray.toList_eq, Bool.eq_iff_iff]
      simp only [beq_iff_eq, decide_eq_true_eq]
      constructor
      · intro h; exact ByteArray.ext (Array.ext' h)
      · intro h; rw [h]
    rw [h4]
    simp [h3]
  go_enter Try.func82, Try.ntmps82
  go_wp2
  go_ret
  exact ⟨by rw [← hd]; rfl, Below.refl _ _⟩
/-- What decoding answers: the page where b is its code, else the zero value. -/
def resVal (ok : Bool) (p : Pg) (vk ve : Value) : Value :=
  if ok then .agg #[.bool true, .int .i64 p.kind, .int .i64 p.tx, .int .i64 p.id, .int .i64 p.root, .int .i64 p.count, vk, ve, .int .i64 p.next, .string p.data]
  else .agg #[.bool false, .int .i64 0, .int .i64 0, .int .i64 0, .int .i64 0, .int .i64 0, .slice none 0 0, .slice none 0 0, .int .i64 0, .string ⟨#[]⟩]
def put10 (w : World) (N : Nat) (u0 u1 u2 u3 u4 u5 u6 u7 u8 u9 : Value) : World :=
  (((((((((w.setCell ⟨N, 0, none⟩ u0).setCell ⟨N, 1, none⟩ u1).setCell ⟨N, 2, none⟩ u2).setCell ⟨N, 3, none⟩ u3).setCell ⟨N, 4, none⟩ u4).setCell ⟨N, 5, none⟩ u5).setCell ⟨N, 6, none⟩ u6).setCell ⟨N, 7, none⟩ u7).setCell ⟨N, 8, none⟩ u8).setCell ⟨N, 9, none⟩ u9
theorem put10_box {w : World} {N t : Nat} {v0 v1 v2 v3 v4 v5 v6 v7 v8 v9 : Value} (h : w.heap[N]? = some (.cells #[v0, v1, v2, v3, v4, v5, v6, v7, v8, v9] t)) (u0 u1 u2 u3 u4 u5 u6 u7 u8 u9 : Value) : (put10 w N u0 u1 u2 u3 u4 u5 u6 u7 u8 u9).heap[N]? = some (.cells #[u0, u1, u2, u3, u4, u5, u6, u7, u8, u9] t) := by
  simp [put10, World.setCell, Array.getElem?_modify, h]
theorem setq_fr (w : World) (N i : Nat) (u : Value) : Fr (fun x => x = N) w (w.setCell ⟨N, i, none⟩ u) := ⟨rfl, rfl, rfl, by simp [World.setCell], fun k _ hk => Below.heap_setCell w ⟨N, i, none⟩ u k hk⟩
theorem put10_fr (w : World) (N : Nat) (u0 u1 u2 u3 u4 u5 u6 u7 u8 u9 : Value) : Fr (fun x => x = N) w (put10 w N u0 u1 u2 u3 u4 u5 u6 u7 u8 u9) :=
  (((((((((setq_fr _ _ _ _).trans (setq_fr _ _ _ _)).trans (setq_fr _ _ _ _)).trans (setq_fr _ _ _ _)).trans (setq_fr _ _ _ _)).trans (setq_fr _ _ _ _)).trans (setq_fr _ _ _ _)).trans (setq_fr _ _ _ _)).trans (setq_fr _ _ _ _)).trans (setq_fr _ _ _ _)
theorem box_ten {w : World} {N : Nat} {v0 v1 v2 v3 v4 v5 v6 v7 v8 v9 : Value} {t : TypeId} (h : w.heap[N]? = some (.cells #[v0, v1, v2, v3, v4, v5, v6, v7, v8, v9] t)) : w.cell? ⟨N, 0, none⟩ = some v0 ∧ w.cell? ⟨N, 1, none⟩ = some v1 ∧ w.cell? ⟨N, 2, none⟩ = some v2 ∧ w.cell? ⟨N, 3, none⟩ = some v3 ∧ w.cell? ⟨N, 4, none⟩ = some v4 ∧ w.cell? ⟨N, 5, none⟩ = some v5 ∧ w.cell? ⟨N, 6, none⟩ = some v6 ∧ w.cell? ⟨N, 7, none⟩ = some v7 ∧ w.cell? ⟨N, 8, none⟩ = some v8 ∧ w.cell? ⟨N, 9, none⟩ = some v9 := by
  simp [World.cell?, h]
theorem box_frozenq {w : World} {M t : Nat} {cs : Array Value} (h : w.heap[M]? = some (.cells cs t)) (j : Nat) : w.frozen? ⟨M, j, none⟩ = false := by simp [World.frozen?, h]
set_option maxHeartbeats 1600000 in
theorem coded_any (p : Pg) (hf : PgFit p) (ka : Option Addr) (kc : Nat) (ea : Option Addr) (ec : Nat) (ba : Option Addr) (bc : Nat) (bs : List Int) (w : World) (A B A2 B2 : Nat) (hB : B ≤ w.heap.size) (hB2 : B2 ≤ w.heap.size) (hK : KidsAt w A B ka p.ks.length kc p.ks) (hE : EntsAt w A B ea p.es.length ec p.es) (hb : BytesAt w A2 B2 ba 128 bc bs) :
    Calls Try.prog 48 #[.agg #[.int .i64 p.kind, .int .i64 p.tx, .int .i64 p.id, .int .i64 p.root, .int .i64 p.count, .slice ka p.ks.length kc, .slice ea p.es.length ec, .int .i64 p.next, .string p.data], .func (.func 22) #[] #[], .slice ba 128 bc] w fun e w' => e = .returned (resVal (decide (newCodeOf p = bs)) p (.slice ka p.ks.length kc) (.slice ea p.es.length ec)) ∧ Below w.heap.size w w' := by
  go_enter Try.func48, Try.ntmps48
  go_wp2_with fail
  have hbw0 : Below w.heap.size w ((w.alloc (.cells #[.int .i64 p.kind, .int .i64 p.tx, .int .i64 p.id, .int .i64 p.root, .int .i64 p.count, .slice ka p.ks.length kc, .slice ea p.es.length ec, .int .i64 p.next, .string p.data] 28)).alloc (.cells #[.bool false, .int .i64 0, .int .i64 0, .int .i64 0, .int .i64 0, .int .i64 0, .slice none 0 0, .slice none 0 0, .int .i64 0, .string ⟨#[]⟩] 32)) := ((Below.refl _ _).alloc (Nat.le_refl _) _).alloc (by simp) _
  have HR0 := heap_alloc_new (w.alloc (.cells #[.int .i64 p.kind, .int .i64 p.tx, .int .i64 p.id, .int .i64 p.root, .int .i64 p.count, .slice ka p.ks.length kc, .slice ea p.es.length ec, .int .i64 p.next, .string p.data] 28)) (.cells #[.bool false, .int .i64 0, .int .i64 0, .int .i64 0, .int .i64 0, .int .i64 0, .slice none 0 0, .slice none 0 0, .int .i64 0, .string ⟨#[]⟩] 32)
  have hsz : (w.alloc (.cells #[.int .i64 p.kind, .int .i64 p.tx, .int .i64 p.id, .int .i64 p.root, .int .i64 p.count, .slice ka p.ks.length kc, .slice ea p.es.length ec, .int .i64 p.next, .string p.data] 28)).heap.size = w.heap.size + 1 := by simp
  rw [hsz] at HR0
  have HP0 : ((w.alloc (.cells #[.int .i64 p.kind, .int .i64 p.tx, .int .i64 p.id, .int .i64 p.root, .int .i64 p.count, .slice ka p.ks.length kc, .slice ea p.es.length ec, .int .i64 p.next, .string p.data] 28)).alloc (.cells #[.bool false, .int .i64 0, .int .i64 0, .int .i64 0, .int .i64 0, .int .i64 0, .slice none 0 0, .slice none 0 0, .int .i64 0, .string ⟨#[]⟩] 32)).heap[w.heap.size]? = some (.cells #[.int .i64 p.kind, .int .i64 p.tx, .int .i64 p.id, .int .i64 p.root, .int .i64 p.count, .slice ka p.ks.length kc, .slice ea p.es.length ec, .int .i64 p.next, .string p.data] 28) := (((Below.refl (w.alloc (.cells #[.int .i64 p.kind, .int .i64 p.tx, .int .i64 p.id, .int .i64 p.root, .int .i64 p.count, .slice ka p.ks.length kc, .slice ea p.es.length ec, .int .i64 p.next, .string p.data] 28)).heap.size _).alloc (Nat.le_refl _) _).block w.heap.size (by simp)).trans (heap_alloc_new w _)
  generalize (w.alloc (.cells #[.int .i64 p.kind, .int .i64 p.tx, .int .i64 p.id, .int .i64 p.root, .int .i64 p.count, .slice ka p.ks.length kc, .slice ea p.es.length ec, .int .i64 p.next, .string p.data] 28)).alloc (.cells #[.bool false, .int .i64 0, .int .i64 0, .int .i64 0, .int .i64 0, .int .i64 0, .slice none 0 0, .slice none 0 0, .int .i64 0, .string ⟨#[]⟩] 32) = W at hbw0 HR0 HP0 ⊢
  clear hsz
  refine (encodePage_any p hf ka kc ea ec W A B (Nat.le_trans hB hbw0.size) (hK.below (hbw0.mono hB)) (hE.below (hbw0.mono hB))).mono ?_
  rintro e w1 ⟨v1, rfl, hO1, hb1⟩
  obtain ⟨va, vc, rfl⟩ := own_shape hO1
  have hbw1 := hbw0.trans (hb1.mono hbw0.size)
  have HR1 := eb_call HR0 hb1
  have HP1 := eb_call HP0 hb1
  have hby1 := bytesAt_row hO1 (codeN_byte p)
  have hbs := hb.below (hbw1.mono hB2)
  clear hbw0 HR0 HP0 hO1 hb1 hK hE hb
  go_wp2_with fail
  refine (bytesEqual_any va ba _ 128 vc bc (newCodeOf p) bs w1 _ _ _ _ hby1 hbs).mono ?_
  rintro e w2 ⟨rfl, hb2⟩
  have hbw := hbw1.trans (hb2.mono hbw1.size)
  have HR2 := eb_call HR1 hb2
  have HP2 := eb_call HP1 hb2
  have HR3 := HR2
  obtain ⟨c5, c6, c0, c2, c3, c4, c7, c8, c1⟩ := box_slice HP2
  clear hbw1 hby1 hbs hb2
  by_cases hd : newCodeOf p = bs
  · have hdec : decide (newCodeOf p = bs) = true := by simpa using hd
    rw [hdec]
    have HB10 := put10_box HR3 (.bool true) (.int .i64 p.kind) (.int .i64 p.tx) (.int .i64 p.id) (.int .i64 p.root) (.int .i64 p.count) (.slice ka p.ks.length kc) (.slice ea p.es.length ec) (.int .i64 p.next) (.string p.data)
    have hb4 : Below w.heap.size w (put10 w2 (w.heap.size + 1) (.bool true) (.int .i64 p.kind) (.int .i64 p.tx) (.int .i64 p.id) (.int .i64 p.root) (.int .i64 p.count) (.slice ka p.ks.length kc) (.slice ea p.es.length ec) (.int .i64 p.next) (.string p.data)) := hbw.trans ((put10_fr w2 (w.heap.size + 1) (.bool true) (.int .i64 p.kind) (.int .i64 p.tx) (.int .i64 p.id) (.int .i64 p.root) (.int .i64 p.count) (.slice ka p.ks.length kc) (.slice ea p.es.length ec) (.int .i64 p.next) (.string p.data)).below hbw.size (fun g e => by omega))
    have f3 := box_frozenq HR3
    obtain ⟨d0, d1, d2, d3, d4, d5, d6, d7, d8, d9⟩ := box_ten HR3
    clear HP2 HR2 HR1 HP1
    go_wp2
    show bodyPost _ _ _ _ _ (put10 w2 (w.heap.size + 1) (.bool true) (.int .i64 p.kind) (.int .i64 p.tx) (.int .i64 p.id) (.int .i64 p.root) (.int .i64 p.count) (.slice ka p.ks.length kc) (.slice ea p.es.length ec) (.int .i64 p.next) (.string p.data))
    clear d0 d1 d2 d3 d4 d5 d6 d7 d8 d9
    obtain ⟨d0, d1, d2, d3, d4, d5, d6, d7, d8, d9⟩ := box_ten HB10
    exact bodyPost_ret (v := .agg #[.bool true, .int .i64 p.kind, .int .i64 p.tx, .int .i64 p.id, .int .i64 p.root, .int .i64 p.count, .slice ka p.ks.length kc, .slice ea p.es.length ec, .int .i64 p.next, .string p.data]) (by simp [results, Try.results48, go_sem, d0, d1, d2, d3, d4, d5, d6, d7, d8, d9]) rfl ⟨by rw [hdec]; rfl, hb4⟩
  · have hdec : decide (newCodeOf p = bs) = false := by simpa using hd
    rw [hdec]
    have HB10 := put10_box HR3 (.bool false) (.int .i64 0) (.int .i64 0) (.int .i64 0) (.int .i64 0) (.int .i64 0) (.slice none 0 0) (.slice none 0 0) (.int .i64 0) (.string ⟨#[]⟩)
    have hb4 : Below w.heap.size w (put10 w2 (w.heap.size + 1) (.bool false) (.int .i64 0) (.int .i64 0) (.int .i64 0) (.int .i64 0) (.int .i64 0) (.slice none 0 0) (.slice none 0 0) (.int .i64 0) (.string ⟨#[]⟩)) := hbw.trans ((put10_fr w2 (w.heap.size + 1) (.bool false) (.int .i64 0) (.int .i64 0) (.int .i64 0) (.int .i64 0) (.int .i64 0) (.slice none 0 0) (.slice none 0 0) (.int .i64 0) (.string ⟨#[]⟩)).below hbw.size (fun g e => by omega))
    have f3 := box_frozenq HR3
    obtain ⟨d0, d1, d2, d3, d4, d5, d6, d7, d8, d9⟩ := box_ten HR3
    clear HP2 HR2 HR1 HP1
    go_wp2
    show bodyPost _ _ _ _ _ (put10 w2 (w.heap.size + 1) (.bool false) (.int .i64 0) (.int .i64 0) (.int .i64 0) (.int .i64 0) (.int .i64 0) (.slice none 0 0) (.slice none 0 0) (.int .i64 0) (.string ⟨#[]⟩))
    clear d0 d1 d2 d3 d4 d5 d6 d7 d8 d9
    obtain ⟨d0, d1, d2, d3, d4, d5, d6, d7, d8, d9⟩ := box_ten HB10
    exact bodyPost_ret (v := .agg #[.bool false, .int .i64 0, .int .i64 0, .int .i64 0, .int .i64 0, .int .i64 0, .slice none 0 0, .slice none 0 0, .int .i64 0, .string ⟨#[]⟩]) (by simp [results, Try.results48, go_sem, d0, d1, d2, d3, d4, d5, d6, d7, d8, d9]) rfl ⟨by rw [hdec]; rfl, hb4⟩
end New
end Go.Proofs.Ytcmhobbpeaeebaa
namespace Go.Proofs.Ytcmhobbpeaeebaa
namespace New
open Go.RowKit
set_option linter.unusedVariables false
set_option maxRecDepth 100000

theorem i64_small {x : Int} (h : 0 ≤ x ∧ x < 4294967296) : I64 x := by unfold I64; omega
theorem kidsR_fit {w : World} {C g o c A B : Nat} {bs : List Int} {k : Nat} (h : RAt w C g o c A B bs k) (j : Nat) : ∀ n, ∀ x ∈ (kidsR bs j n).1, kidFit x
  | 0 => by intro x hx; simp [kidsR] at hx
  | n + 1 => by
    intro x hx
    rw [kidsR] at hx
    rcases List.mem_append.1 hx with hx | hx
    · exact kidsR_fit h j n x hx
    · simp only [List.mem_singleton] at hx
      subst hx
      refine ⟨?_, i64_small (rN_small h _ _ (by decide))⟩
      show (kSep bs n (kidsR bs j n).2).size ≤ maxLen
      unfold kSep maxLen
      split
      · have := tStr_size h (kidsR bs j n).2; omega
      · decide
theorem z64 : I64 0 := by unfold I64; decide
theorem entFit_mk {s t : ByteArray} {x y : Int} (h1 : s.size ≤ maxLen) (h2 : t.size ≤ maxLen) (h3 : I64 x) (h4 : I64 y) : entFit (s, t, x, y) := ⟨h1, h2, h3, h4⟩
theorem entR_fit {w : World} {C g o c A B : Nat} {bs : List Int} {k : Nat} (h : RAt w C g o c A B bs k) (p : Nat) : entFit (entR bs p).1 := by
  have h1 := tStr_size h p
  have h2 := tStr_size h (adv (kEnd bs p) 1)
  have m1 : (tStr bs p).size ≤ maxLen := by unfold maxLen; omega
  have m2 : (tStr bs (adv (kEnd bs p) 1)).size ≤ maxLen := by unfold maxLen; omega
  have m0 : (⟨#[]⟩ : ByteArray).size ≤ maxLen := Nat.zero_le _
  have r1 := i64_small (rN_small h (adv (kEnd bs p) 1) (smallN false) (by decide))
  have r2 := i64_small (rN_small h (adv (adv (kEnd bs p) 1) (smallN false)) (smallN false) (by decide))
  have r3 : I64 ((tStr bs (adv (kEnd bs p) 1)).size : Int) := by unfold I64; omega
  unfold entR
  generalize rN bs (adv (kEnd bs p) 1) (smallN false) = x1 at r1 ⊢
  generalize rN bs (adv (adv (kEnd bs p) 1) (smallN false)) (smallN false) = x2 at r2 ⊢
  by_cases hz : rN bs (kEnd bs p) 1 = 0
  · rw [if_pos hz]
    exact entFit_mk m1 m2 z64 r3
  · rw [if_neg hz]
    exact entFit_mk m1 m0 r1 r2
theorem entsR_fit {w : World} {C g o c A B : Nat} {bs : List Int} {k : Nat} (h : RAt w C g o c A B bs k) (j : Nat) : ∀ n, ∀ x ∈ (entsR bs j n).1, entFit x
  | 0 => by intro x hx; simp [entsR] at hx
  | n + 1 => by
    intro x hx
    rw [entsR] at hx
    rcases List.mem_append.1 hx with hx | hx
    · exact entsR_fit h j n x hx
    · simp only [List.mem_singleton] at hx
      subst hx
      exact entR_fit h _
theorem s64 (x : Int) (h : 0 ≤ x ∧ x ≤ 4) : I64 x := by unfold I64; omega
theorem readP_fit {w : World} {C g o c A B : Nat} {bs : List Int} {k : Nat} (h : RAt w C g o c A B bs k) (j : Nat) (kind : Int) (n : Nat) : PgFit (readP bs j kind n) ∧ (∀ x ∈ (readP bs j kind n).ks, kidFit x) ∧ (∀ x ∈ (readP bs j kind n).es, entFit x) := by
  have e0 : (⟨#[]⟩ : ByteArray).size ≤ maxLen := Nat.zero_le _
  unfold readP
  split
  · exact ⟨⟨s64 1 (by decide), z64, i64_small (rN_small h _ _ (by decide)), i64_small (rN_small h _ _ (by decide)), i64_small (rN_small h _ _ (by decide)), z64, e0⟩, (by intro x hx; cases hx), (by intro x hx; cases hx)⟩
  · split
    · exact ⟨⟨s64 2 (by decide), z64, z64, z64, z64, z64, e0⟩, kidsR_fit h j n, (by intro x hx; cases hx)⟩
    · split
      · exact ⟨⟨s64 3 (by decide), z64, z64, z64, z64, z64, e0⟩, (by intro x hx; cases hx), entsR_fit h j n⟩
      · split
        · exact ⟨⟨s64 4 (by decide), z64, z64, z64, z64, i64_small (rN_small h _ _ (by decide)), by have := tStr_size h (adv j (smallN false)); unfold maxLen; show (oData bs j).size ≤ _; unfold oData; omega⟩, (by intro x hx; cases hx), (by intro x hx; cases hx)⟩
        · exact ⟨⟨s64 0 (by decide), z64, z64, z64, z64, z64, e0⟩, (by intro x hx; cases hx), (by intro x hx; cases hx)⟩
theorem getD_fit {α : Type} {P : α → Prop} {l : List α} (h : ∀ x ∈ l, P x) (d : α) : ∀ i, i < l.length → P (l.getD i d) := by
  intro i hi
  rw [show l.getD i d = l[i] by simp [List.getD, hi]]
  exact h _ (List.getElem_mem hi)
end New
end Go.Proofs.Ytcmhobbpeaeebaa
namespace Go.Proofs.Ytcmhobbpeaeebaa
namespace New
open Go.RowKit
set_option linter.unusedVariables false
set_option maxRecDepth 100000

theorem newCursorR (g o c : Nat) (w : World) :
    Calls Try.prog 46 #[.slice (some ⟨g, o, none⟩) 128 c] w fun e w' => e = .returned (.pointer (some ⟨w.heap.size, 0, none⟩)) ∧ RCur w' w.heap.size g o c false 79 80 0 ∧ Below w.heap.size w w' := by
  go_enter Try.func46, Try.ntmps46
  go_wp2
  go_ret
  exact ⟨rfl, ⟨heap_alloc_new w _⟩, (Below.refl _ _).alloc (Nat.le_refl _) _⟩
/-- The page that a code may be the code of. -/
def decP (bs : List Int) : Pg := { readP bs 8 (rN bs 4 1) (rN bs 5 1).toNat with tx := rN bs 0 4 }
set_option maxHeartbeats 1600000 in
theorem decode_any (g o c : Nat) (bs : List Int) (w : World) (A B : Nat) (hB : B ≤ w.heap.size) (hb : BytesAt w A B (some ⟨g, o, none⟩) 128 c bs) :
    Calls Try.prog 10 #[.slice (some ⟨g, o, none⟩) 128 c] w fun e w' => ∃ vk ve, e = .returned (resVal (decide (newCodeOf (decP bs) = bs)) (decP bs) vk ve) ∧ w'.ownsRow w.heap.size 100 2 vk (decP bs).ks.length (rowsOf kidCells (decP bs).ks) ∧ w'.ownsRow w.heap.size 102 4 ve (decP bs).es.length (rowsOf entCells (decP bs).es) ∧ (vk = .slice none 0 0 ∨ ve = .slice none 0 0) ∧ Below w.heap.size w w' := by
  go_enter Try.func10, Try.ntmps10
  go_wp2_with fail
  have hb0 : Below w.heap.size w (w.alloc (.cells #[.bool false, .int .i64 0, .int .i64 0, .int .i64 0, .int .i64 0, .int .i64 0, .slice none 0 0, .slice none 0 0, .int .i64 0, .string ⟨#[]⟩] 32)) := (Below.refl _ _).alloc (Nat.le_refl _) _
  have HR0 := heap_alloc_new w (.cells #[.bool false, .int .i64 0, .int .i64 0, .int .i64 0, .int .i64 0, .int .i64 0, .slice none 0 0, .slice none 0 0, .int .i64 0, .string ⟨#[]⟩] 32)
  generalize w.alloc (.cells #[.bool false, .int .i64 0, .int .i64 0, .int .i64 0, .int .i64 0, .int .i64 0, .slice none 0 0, .slice none 0 0, .int .i64 0, .string ⟨#[]⟩] 32) = W0 at hb0 HR0 ⊢
  have hN0 := (Array.getElem?_eq_some_iff.1 HR0).1
  refine (newCursorR g o c W0).mono ?_
  rintro e w1 ⟨rfl, hC1, hb1⟩
  have HR1 := eb_call HR0 hb1
  have hbw1 := hb0.trans (hb1.mono hb0.size)
  have hby1 := hb.below (hbw1.mono hB)
  have hWC : w.heap.size < W0.heap.size := hN0
  have hC1l := (Array.getElem?_eq_some_iff.1 hC1.box).1
  have hA1 : RAt w1 W0.heap.size g o c A B bs 0 := ⟨hC1, hby1, by have := hb0.size; omega, Nat.le_trans hB hbw1.size, by omega⟩
  clear HR0 hb0 hb1 hC1 hby1 hN0
  generalize W0.heap.size = C at hWC hC1l hA1 ⊢
  obtain ⟨c0, c1, c2, c3, c4⟩ := hA1.cur.cells
  go_wp2_with fail
  have hkc := rN_one hA1 5
  have HDP : Hid (decP bs = { readP bs 8 (rN bs 4 1) (rN bs 5 1).toNat with tx := rN bs 0 4 }) := rfl
  have hft := readP_fit hA1 8 (rN bs 4 1) (rN bs 5 1).toNat
  have htx := i64_small (rN_small hA1 0 4 (by omega))
  obtain ⟨n, hnn⟩ : ∃ n : Nat, rN bs 5 1 = (n : Int) := ⟨(rN bs 5 1).toNat, by omega⟩
  have hn : n ≤ 255 := by omega
  go_region_held3 (fun w' => w'.cell? ⟨C, 4, none⟩ = some (.func (.func 80) #[.pointer (some ⟨C, 0, none⟩)] #[])) (go_keep)
    (first
      | (go_at_call 80; refine (Get C g o c A B bs 5 1 (by omega) w3 hA3).mono ?_; rintro e w4 ⟨rfl, hM4⟩; have hA4 : RAt w4 C g o c A B bs 6 := hA3.mv hM4 (by decide); have hF4 := hF3.trans hM4.2; obtain ⟨_, _, _, _, q4⟩ := hA4.cur.cells)
      | (go_at_call 80; refine (Get C g o c A B bs 4 1 (by omega) w2 hA2).mono ?_; rintro e w3 ⟨rfl, hM3⟩; have hA3 : RAt w3 C g o c A B bs 5 := hA2.mv hM3 (by decide); have hF3 := hF2.trans hM3.2; obtain ⟨_, _, _, _, q4⟩ := hA3.cur.cells)
      | (go_at_call 80; refine (Get C g o c A B bs 0 4 (by omega) w1.drew hA1.drew).mono ?_; rintro e w2 ⟨rfl, hM2⟩; have hA2 : RAt w2 C g o c A B bs 4 := hA1.drew.mv hM2 (by decide); have hF2 : Fr (fun x => x = C) w1 w2 := hM2.redraw.2; obtain ⟨_, _, _, _, q4⟩ := hA2.cur.cells))
  have HR4 := (hF4.block w.heap.size (by have := (Array.getElem?_eq_some_iff.1 HR1).1; omega) (by omega)).trans HR1
  have hbw4 := hbw1.trans (hF4.below hbw1.size (fun g e => by omega))
  rw [hnn, Int.toNat_natCast] at HDP hft
  clear hnn
  generalize rN bs 4 1 = kd at HDP hft ⊢
  generalize rN bs 0 4 = tx at HDP htx ⊢
  clear hM2 hM3 hM4 hA1 hA2 hA3 hF2 hF3 hF4 HR1 hbw1 c0 c1 c2 c3 c4 hkc
  obtain ⟨c0, c1, c2, c3, c4⟩ := hA4.cur.cells
  go_wp2_with fail
  refine (Get C g o c A B bs 6 2 (by omega) w4 hA4).mono ?_
  rintro e w5 ⟨rfl, hM5⟩
  have hA5 : RAt w5 C g o c A B bs 8 := hA4.mv hM5 (by decide)
  have HR5 := (hM5.2.block w.heap.size (by have := (Array.getElem?_eq_some_iff.1 HR4).1; omega) (by omega)).trans HR4
  have hbw5 := hbw4.trans (hM5.2.below hbw4.size (fun g e => by omega))
  clear hM5 hA4 HR4 hbw4 c0 c1 c2 c3 c4
  go_wp2_with fail
  refine (readBody_any C g o c A B bs 8 kd n hn w5 hA5).mono ?_
  rintro e w6 ⟨v6, rfl, ⟨vk, ve, rfl, hOk, hOe, hor⟩, hF6⟩
  have HR6 := (hF6.block w.heap.size (by have := (Array.getElem?_eq_some_iff.1 HR5).1; omega) (by omega)).trans HR5
  have hbw6 := hbw5.trans (hF6.below hbw5.size (fun g e => by omega))
  have hby6 := hb.below (hbw6.mono hB)
  obtain ⟨hfp, hfk, hfe⟩ := hft
  have HDP2 : Hid (decP bs = { readP bs 8 kd n with tx := tx }) := HDP
  have HW5 := (Array.getElem?_eq_some_iff.1 HR5).1
  clear HDP HR5 hA5 hF6 hb
  have hfp' : PgFit { readP bs 8 kd n with tx := tx } := ⟨hfp.kind, htx, hfp.id, hfp.root, hfp.count, hfp.next, hfp.data⟩
  generalize hq : readP bs 8 kd n = q at hOk hOe hfp hfk hfe hfp' HDP2 ⊢
  clear hq
  obtain ⟨vka, vkc, rfl⟩ := own_shape hOk
  obtain ⟨vea, vec, rfl⟩ := own_shape hOe
  go_wp2_with fail
  have hb7 : Below w6.heap.size w6 (w6.alloc (.cells #[.int .i64 q.kind, .int .i64 tx, .int .i64 q.id, .int .i64 q.root, .int .i64 q.count, .slice vka q.ks.length vkc, .slice vea q.es.length vec, .int .i64 q.next, .string q.data] 28)) := (Below.refl _ _).alloc (Nat.le_refl _) _
  generalize w6.alloc (.cells #[.int .i64 q.kind, .int .i64 tx, .int .i64 q.id, .int .i64 q.root, .int .i64 q.count, .slice vka q.ks.length vkc, .slice vea q.es.length vec, .int .i64 q.next, .string q.data] 28) = w7 at hb7 ⊢
  have hbw7 := hbw6.trans (hb7.mono hbw6.size)
  have hOk7 := owns_below hOk hb7
  have hOe7 := owns_below hOe hb7
  obtain ⟨_, _, e2, hK7⟩ := RowsAt.of_owns kc2 hOk7 rfl (getD_fit hfk dK)
  cases e2
  obtain ⟨_, _, e2, hE7⟩ := RowsAt.of_owns ec4 hOe7 rfl (getD_fit hfe dE)
  cases e2
  have hby7 := hby6.below (hb7.mono (Nat.le_trans hB hbw6.size))
  have HR7 := eb_call HR6 hb7
  refine (coded_any { q with tx := tx } hfp' vka vkc vea vec (some ⟨g, o, none⟩) c bs w7 _ _ A B (Nat.le_refl _) (Nat.le_trans hB hbw7.size) hK7 hE7 hby7).mono ?_
  rintro e w8 ⟨rfl, hb8⟩
  have hbw8 := hbw7.trans (hb8.mono hbw7.size)
  have HR8 := eb_call HR7 hb8
  have hOk8 := owns_below hOk7 hb8
  have hOe8 := owns_below hOe7 hb8
  have hs5 := hbw5.size
  have hW5 : w.heap.size < w5.heap.size := HW5
  clear HR6 HR7 hby6 hby7 hK7 hE7 hb7 hb8 hOk hOe hOk7 hOe7 hbw6 hbw7
  by_cases hd : newCodeOf { q with tx := tx } = bs
  · have hdec : decide (newCodeOf { q with tx := tx } = bs) = true := by simpa using hd
    rw [hdec]
    simp only [resVal, if_true]
    have HB10 := put10_box HR8 (.bool true) (.int .i64 q.kind) (.int .i64 tx) (.int .i64 q.id) (.int .i64 q.root) (.int .i64 q.count) (.slice vka q.ks.length vkc) (.slice vea q.es.length vec) (.int .i64 q.next) (.string q.data)
    have hb9 : Below w.heap.size w (put10 w8 w.heap.size (.bool true) (.int .i64 q.kind) (.int .i64 tx) (.int .i64 q.id) (.int .i64 q.root) (.int .i64 q.count) (.slice vka q.ks.length vkc) (.slice vea q.es.length vec) (.int .i64 q.next) (.string q.data)) := hbw8.trans ((put10_fr w8 w.heap.size (.bool true) (.int .i64 q.kind) (.int .i64 tx) (.int .i64 q.id) (.int .i64 q.root) (.int .i64 q.count) (.slice vka q.ks.length vkc) (.slice vea q.es.length vec) (.int .i64 q.next) (.string q.data)).below hbw8.size (fun g e => by omega))
    have f8 := box_frozenq HR8
    obtain ⟨d0, d1, d2, d3, d4, d5, d6, d7, d8, d9⟩ := box_ten HR8
    have hOk9 := owns_base (base' := w.heap.size) (owns_fr hOk8 (put10_fr w8 w.heap.size (.bool true) (.int .i64 q.kind) (.int .i64 tx) (.int .i64 q.id) (.int .i64 q.root) (.int .i64 q.count) (.slice vka q.ks.length vkc) (.slice vea q.es.length vec) (.int .i64 q.next) (.string q.data)) (fun g' e e' => by have := (hOk8.lt g' e).1; omega)) (by omega)
    have hOe9 := owns_base (base' := w.heap.size) (owns_fr hOe8 (put10_fr w8 w.heap.size (.bool true) (.int .i64 q.kind) (.int .i64 tx) (.int .i64 q.id) (.int .i64 q.root) (.int .i64 q.count) (.slice vka q.ks.length vkc) (.slice vea q.es.length vec) (.int .i64 q.next) (.string q.data)) (fun g' e e' => by have := (hOe8.lt g' e).1; omega)) (by omega)
    go_wp2
    show bodyPost _ _ _ _ _ (put10 w8 w.heap.size (.bool true) (.int .i64 q.kind) (.int .i64 tx) (.int .i64 q.id) (.int .i64 q.root) (.int .i64 q.count) (.slice vka q.ks.length vkc) (.slice vea q.es.length vec) (.int .i64 q.next) (.string q.data))
    clear d0 d1 d2 d3 d4 d5 d6 d7 d8 d9
    obtain ⟨d0, d1, d2, d3, d4, d5, d6, d7, d8, d9⟩ := box_ten HB10
    refine bodyPost_ret (v := .agg #[.bool true, .int .i64 q.kind, .int .i64 tx, .int .i64 q.id, .int .i64 q.root, .int .i64 q.count, .slice vka q.ks.length vkc, .slice vea q.es.length vec, .int .i64 q.next, .string q.data]) (by simp [results, Try.results10, go_sem, d0, d1, d2, d3, d4, d5, d6, d7, d8, d9]) rfl ?_
    rw [HDP2.out]
    exact ⟨.slice vka q.ks.length vkc, .slice vea q.es.length vec, by rw [hdec]; rfl, hOk9, hOe9, hor, hb9⟩
  · have hdec : decide (newCodeOf { q with tx := tx } = bs) = false := by simpa using hd
    rw [hdec]
    simp only [resVal, Bool.false_eq_true, if_false]
    have HB10 := put10_box HR8 (.bool false) (.int .i64 0) (.int .i64 0) (.int .i64 0) (.int .i64 0) (.int .i64 0) (.slice none 0 0) (.slice none 0 0) (.int .i64 0) (.string ⟨#[]⟩)
    have hb9 : Below w.heap.size w (put10 w8 w.heap.size (.bool false) (.int .i64 0) (.int .i64 0) (.int .i64 0) (.int .i64 0) (.int .i64 0) (.slice none 0 0) (.slice none 0 0) (.int .i64 0) (.string ⟨#[]⟩)) := hbw8.trans ((put10_fr w8 w.heap.size (.bool false) (.int .i64 0) (.int .i64 0) (.int .i64 0) (.int .i64 0) (.int .i64 0) (.slice none 0 0) (.slice none 0 0) (.int .i64 0) (.string ⟨#[]⟩)).below hbw8.size (fun g e => by omega))
    have f8 := box_frozenq HR8
    obtain ⟨d0, d1, d2, d3, d4, d5, d6, d7, d8, d9⟩ := box_ten HR8
    have hOk9 := owns_base (base' := w.heap.size) (owns_fr hOk8 (put10_fr w8 w.heap.size (.bool false) (.int .i64 0) (.int .i64 0) (.int .i64 0) (.int .i64 0) (.int .i64 0) (.slice none 0 0) (.slice none 0 0) (.int .i64 0) (.string ⟨#[]⟩)) (fun g' e e' => by have := (hOk8.lt g' e).1; omega)) (by omega)
    have hOe9 := owns_base (base' := w.heap.size) (owns_fr hOe8 (put10_fr w8 w.heap.size (.bool false) (.int .i64 0) (.int .i64 0) (.int .i64 0) (.int .i64 0) (.int .i64 0) (.slice none 0 0) (.slice none 0 0) (.int .i64 0) (.string ⟨#[]⟩)) (fun g' e e' => by have := (hOe8.lt g' e).1; omega)) (by omega)
    go_wp2
    show bodyPost _ _ _ _ _ (put10 w8 w.heap.size (.bool false) (.int .i64 0) (.int .i64 0) (.int .i64 0) (.int .i64 0) (.int .i64 0) (.slice none 0 0) (.slice none 0 0) (.int .i64 0) (.string ⟨#[]⟩))
    clear d0 d1 d2 d3 d4 d5 d6 d7 d8 d9
    obtain ⟨d0, d1, d2, d3, d4, d5, d6, d7, d8, d9⟩ := box_ten HB10
    refine bodyPost_ret (v := .agg #[.bool false, .int .i64 0, .int .i64 0, .int .i64 0, .int .i64 0, .int .i64 0, .slice none 0 0, .slice none 0 0, .int .i64 0, .string ⟨#[]⟩]) (by simp [results, Try.results10, go_sem, d0, d1, d2, d3, d4, d5, d6, d7, d8, d9]) rfl ?_
    rw [HDP2.out]
    exact ⟨.slice vka q.ks.length vkc, .slice vea q.es.length vec, by rw [hdec]; rfl, hOk9, hOe9, hor, hb9⟩
theorem decode_short (ba : Option Addr) (n bc : Nat) (hn : n ≠ 128) (w : World) :
    Calls Try.prog 10 #[.slice ba n bc] w fun e w' => e = .returned (.agg #[.bool false, .int .i64 0, .int .i64 0, .int .i64 0, .int .i64 0, .int .i64 0, .slice none 0 0, .slice none 0 0, .int .i64 0, .string ⟨#[]⟩]) ∧ Below w.heap.size w w' := by
  have hne : ((n : Int) != 128) = true := by simp; omega
  go_enter Try.func10, Try.ntmps10
  go_wp2
  exact bodyPost_ret (v := .agg #[.bool false, .int .i64 0, .int .i64 0, .int .i64 0, .int .i64 0, .int .i64 0, .slice none 0 0, .slice none 0 0, .int .i64 0, .string ⟨#[]⟩]) (by simp [results, Try.results10, go_sem]) rfl ⟨rfl, (Below.refl _ _).alloc (Nat.le_refl _) _⟩
end New
end Go.Proofs.Ytcmhobbpeaeebaa
