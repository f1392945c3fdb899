import Derived.Test.YtjbifddhbcfdcaaGreatJF
import Derived.Test.YtjbifddhbcfdcaaGreatJO
namespace Go.Proofs.YtjbifddhbcfdcaaGreat
namespace New
open Go.RowKit
set_option linter.unusedVariables false
set_option maxRecDepth 100000

theorem toB_inj {a b : List Int} (ha : ∀ x ∈ a, 0 ≤ x ∧ x ≤ 255) (hb : ∀ x ∈ b, 0 ≤ x ∧ x ≤ 255) : toB a = toB b ↔ a = b := by
  constructor
  · intro h
    have := congrArg strB h
    rwa [strB_toB ha, strB_toB hb] at this
  · rintro rfl; rfl
theorem bytesEqual_any (a b : Option Addr) (n m c d : Nat) (x y : List Int) (w : World) (A B A2 B2 : Nat) (hx : BytesAt w A B a n c x) (hy : BytesAt w A2 B2 b m d y) :
    Calls Tryz.prog 72 #[.slice a n c, .slice b m d] w fun e w' => e = .returned (.bool (decide (x = y))) ∧ Below w.heap.size w w' := by
  have h1 := str_conv hx
  have h2 := str_conv hy
  have hd : ((toB x).toList == (toB y).toList) = decide (x = y) := by
    have h3 := toB_inj hx.2.2.2.1 hy.2.2.2.1
    have h4 : ((toB x).toList == (toB y).toList) = decide (toB x = toB y) := by
      rw [ByteArray.toList_eq, ByteArray.toList_eq, Bool.eq_iff_iff]
      simp only [beq_iff_eq, decide_eq_true_eq]
      constructor
      · intro h; exact ByteArray.ext (Array.ext' h)
      · intro h; rw [h]
    rw [h4]
    simp [h3]
  go_enter Tryz.func72, Tryz.ntmps72
  go_wp2
  go_ret
  exact ⟨by rw [← hd]; rfl, Below.refl _ _⟩
/-- What decoding answers: the page where b is its code, else the zero value. -/
def resVal (ok : Bool) (p : Pg) (vk ve : Value) : Value :=
  if ok then .agg #[.bool true, .int .i64 p.kind, .int .i64 p.tx, .int .i64 p.id, .int .i64 p.root, .int .i64 p.count, vk, ve, .int .i64 p.next, .string p.data]
  else .agg #[.bool false, .int .i64 0, .int .i64 0, .int .i64 0, .int .i64 0, .int .i64 0, .slice none 0 0, .slice none 0 0, .int .i64 0, .string ⟨#[]⟩]
def put10 (w : World) (N : Nat) (u0 u1 u2 u3 u4 u5 u6 u7 u8 u9 : Value) : World :=
  (((((((((w.setCell ⟨N, 0, none⟩ u0).setCell ⟨N, 1, none⟩ u1).setCell ⟨N, 2, none⟩ u2).setCell ⟨N, 3, none⟩ u3).setCell ⟨N, 4, none⟩ u4).setCell ⟨N, 5, none⟩ u5).setCell ⟨N, 6, none⟩ u6).setCell ⟨N, 7, none⟩ u7).setCell ⟨N, 8, none⟩ u8).setCell ⟨N, 9, none⟩ u9
theorem put10_box {w : World} {N t : Nat} {v0 v1 v2 v3 v4 v5 v6 v7 v8 v9 : Value} (h : w.heap[N]? = some (.cells #[v0, v1, v2, v3, v4, v5, v6, v7, v8, v9] t)) (u0 u1 u2 u3 u4 u5 u6 u7 u8 u9 : Value) : (put10 w N u0 u1 u2 u3 u4 u5 u6 u7 u8 u9).heap[N]? = some (.cells #[u0, u1, u2, u3, u4, u5, u6, u7, u8, u9] t) := by
  simp [put10, World.setCell, Array.getElem?_modify, h]
theorem setq_fr (w : World) (N i : Nat) (u : Value) : Fr (fun x => x = N) w (w.setCell ⟨N, i, none⟩ u) := ⟨rfl, rfl, rfl, by simp [World.setCell], fun k _ hk => Below.heap_setCell w ⟨N, i, none⟩ u k hk⟩
theorem put10_fr (w : World) (N : Nat) (u0 u1 u2 u3 u4 u5 u6 u7 u8 u9 : Value) : Fr (fun x => x = N) w (put10 w N u0 u1 u2 u3 u4 u5 u6 u7 u8 u9) :=
  (((((((((setq_fr _ _ _ _).trans (setq_fr _ _ _ _)).trans (setq_fr _ _ _ _)).trans (setq_fr _ _ _ _)).trans (setq_fr _ _ _ _)).trans (setq_fr _ _ _ _)).trans (setq_fr _ _ _ _)).trans (setq_fr _ _ _ _)).trans (setq_fr _ _ _ _)).trans (setq_fr _ _ _ _)
theorem box_ten {w : World} {N : Nat} {v0 v1 v2 v3 v4 v5 v6 v7 v8 v9 : Value} {t : TypeId} (h : w.heap[N]? = some (.cells #[v0, v1, v2, v3, v4, v5, v6, v7, v8, v9] t)) : w.cell? ⟨N, 0, none⟩ = some v0 ∧ w.cell? ⟨N, 1, none⟩ = some v1 ∧ w.cell? ⟨N, 2, none⟩ = some v2 ∧ w.cell? ⟨N, 3, none⟩ = some v3 ∧ w.cell? ⟨N, 4, none⟩ = some v4 ∧ w.cell? ⟨N, 5, none⟩ = some v5 ∧ w.cell? ⟨N, 6, none⟩ = some v6 ∧ w.cell? ⟨N, 7, none⟩ = some v7 ∧ w.cell? ⟨N, 8, none⟩ = some v8 ∧ w.cell? ⟨N, 9, none⟩ = some v9 := by
  simp [World.cell?, h]
theorem box_frozenq {w : World} {M t : Nat} {cs : Array Value} (h : w.heap[M]? = some (.cells cs t)) (j : Nat) : w.frozen? ⟨M, j, none⟩ = false := by simp [World.frozen?, h]
set_option maxHeartbeats 1600000 in
theorem coded_any (p : Pg) (hf : PgFit p) (ka : Option Addr) (kc : Nat) (ea : Option Addr) (ec : Nat) (ba : Option Addr) (bc : Nat) (bs : List Int) (w : World) (A B A2 B2 : Nat) (hB : B ≤ w.heap.size) (hB2 : B2 ≤ w.heap.size) (hK : KidsAt w A B ka p.ks.length kc p.ks) (hE : EntsAt w A B ea p.es.length ec p.es) (hb : BytesAt w A2 B2 ba 128 bc bs) :
    Calls Tryz.prog 54 #[.agg #[.int .i64 p.kind, .int .i64 p.tx, .int .i64 p.id, .int .i64 p.root, .int .i64 p.count, .slice ka p.ks.length kc, .slice ea p.es.length ec, .int .i64 p.next, .string p.data], .func (.func 55) #[] #[], .slice ba 128 bc] w fun e w' => e = .returned (resVal (decide (newCodeOf p = bs)) p (.slice ka p.ks.length kc) (.slice ea p.es.length ec)) ∧ Below w.heap.size w w' := by
  go_enter Tryz.func54, Tryz.ntmps54
  go_wp2_with fail
  have hbw0 : Below w.heap.size w ((w.alloc (.cells #[.int .i64 p.kind, .int .i64 p.tx, .int .i64 p.id, .int .i64 p.root, .int .i64 p.count, .slice ka p.ks.length kc, .slice ea p.es.length ec, .int .i64 p.next, .string p.data] 54)).alloc (.cells #[.bool false, .int .i64 0, .int .i64 0, .int .i64 0, .int .i64 0, .int .i64 0, .slice none 0 0, .slice none 0 0, .int .i64 0, .string ⟨#[]⟩] 66)) := ((Below.refl _ _).alloc (Nat.le_refl _) _).alloc (by simp) _
  have HR0 := heap_alloc_new (w.alloc (.cells #[.int .i64 p.kind, .int .i64 p.tx, .int .i64 p.id, .int .i64 p.root, .int .i64 p.count, .slice ka p.ks.length kc, .slice ea p.es.length ec, .int .i64 p.next, .string p.data] 54)) (.cells #[.bool false, .int .i64 0, .int .i64 0, .int .i64 0, .int .i64 0, .int .i64 0, .slice none 0 0, .slice none 0 0, .int .i64 0, .string ⟨#[]⟩] 66)
  have hsz : (w.alloc (.cells #[.int .i64 p.kind, .int .i64 p.tx, .int .i64 p.id, .int .i64 p.root, .int .i64 p.count, .slice ka p.ks.length kc, .slice ea p.es.length ec, .int .i64 p.next, .string p.data] 54)).heap.size = w.heap.size + 1 := by simp
  rw [hsz] at HR0
  have HP0 : ((w.alloc (.cells #[.int .i64 p.kind, .int .i64 p.tx, .int .i64 p.id, .int .i64 p.root, .int .i64 p.count, .slice ka p.ks.length kc, .slice ea p.es.length ec, .int .i64 p.next, .string p.data] 54)).alloc (.cells #[.bool false, .int .i64 0, .int .i64 0, .int .i64 0, .int .i64 0, .int .i64 0, .slice none 0 0, .slice none 0 0, .int .i64 0, .string ⟨#[]⟩] 66)).heap[w.heap.size]? = some (.cells #[.int .i64 p.kind, .int .i64 p.tx, .int .i64 p.id, .int .i64 p.root, .int .i64 p.count, .slice ka p.ks.length kc, .slice ea p.es.length ec, .int .i64 p.next, .string p.data] 54) := (((Below.refl (w.alloc (.cells #[.int .i64 p.kind, .int .i64 p.tx, .int .i64 p.id, .int .i64 p.root, .int .i64 p.count, .slice ka p.ks.length kc, .slice ea p.es.length ec, .int .i64 p.next, .string p.data] 54)).heap.size _).alloc (Nat.le_refl _) _).block w.heap.size (by simp)).trans (heap_alloc_new w _)
  generalize (w.alloc (.cells #[.int .i64 p.kind, .int .i64 p.tx, .int .i64 p.id, .int .i64 p.root, .int .i64 p.count, .slice ka p.ks.length kc, .slice ea p.es.length ec, .int .i64 p.next, .string p.data] 54)).alloc (.cells #[.bool false, .int .i64 0, .int .i64 0, .int .i64 0, .int .i64 0, .int .i64 0, .slice none 0 0, .slice none 0 0, .int .i64 0, .string ⟨#[]⟩] 66) = W at hbw0 HR0 HP0 ⊢
  clear hsz
  refine (encodePage_any p hf ka kc ea ec W A B (Nat.le_trans hB hbw0.size) (hK.below (hbw0.mono hB)) (hE.below (hbw0.mono hB))).mono ?_
  rintro e w1 ⟨v1, rfl, hO1, hb1⟩
  obtain ⟨va, vc, rfl⟩ := own_shape hO1
  have hbw1 := hbw0.trans (hb1.mono hbw0.size)
  have HR1 := eb_call HR0 hb1
  have HP1 := eb_call HP0 hb1
  have hby1 := bytesAt_row hO1 (codeN_byte p)
  have hbs := hb.below (hbw1.mono hB2)
  clear hbw0 HR0 HP0 hO1 hb1 hK hE hb
  go_wp2_with fail
  refine (bytesEqual_any va ba _ 128 vc bc (newCodeOf p) bs w1 _ _ _ _ hby1 hbs).mono ?_
  rintro e w2 ⟨rfl, hb2⟩
  have hbw := hbw1.trans (hb2.mono hbw1.size)
  have HR2 := eb_call HR1 hb2
  have HP2 := eb_call HP1 hb2
  have HR3 := HR2
  obtain ⟨c5, c6, c0, c2, c3, c4, c7, c8, c1⟩ := box_slice HP2
  clear hbw1 hby1 hbs hb2
  by_cases hd : newCodeOf p = bs
  · have hdec : decide (newCodeOf p = bs) = true := by simpa using hd
    rw [hdec]
    have HB10 := put10_box HR3 (.bool true) (.int .i64 p.kind) (.int .i64 p.tx) (.int .i64 p.id) (.int .i64 p.root) (.int .i64 p.count) (.slice ka p.ks.length kc) (.slice ea p.es.length ec) (.int .i64 p.next) (.string p.data)
    have hb4 : Below w.heap.size w (put10 w2 (w.heap.size + 1) (.bool true) (.int .i64 p.kind) (.int .i64 p.tx) (.int .i64 p.id) (.int .i64 p.root) (.int .i64 p.count) (.slice ka p.ks.length kc) (.slice ea p.es.length ec) (.int .i64 p.next) (.string p.data)) := hbw.trans ((put10_fr w2 (w.heap.size + 1) (.bool true) (.int .i64 p.kind) (.int .i64 p.tx) (.int .i64 p.id) (.int .i64 p.root) (.int .i64 p.count) (.slice ka p.ks.length kc) (.slice ea p.es.length ec) (.int .i64 p.next) (.string p.data)).below hbw.size (fun g e => by omega))
    have f3 := box_frozenq HR3
    obtain ⟨d0, d1, d2, d3, d4, d5, d6, d7, d8, d9⟩ := box_ten HR3
    clear HP2 HR2 HR1 HP1
    go_wp2
    show bodyPost _ _ _ _ _ (put10 w2 (w.heap.size + 1) (.bool true) (.int .i64 p.kind) (.int .i64 p.tx) (.int .i64 p.id) (.int .i64 p.root) (.int .i64 p.count) (.slice ka p.ks.length kc) (.slice ea p.es.length ec) (.int .i64 p.next) (.string p.data))
    clear d0 d1 d2 d3 d4 d5 d6 d7 d8 d9
    obtain ⟨d0, d1, d2, d3, d4, d5, d6, d7, d8, d9⟩ := box_ten HB10
    exact bodyPost_ret (v := .agg #[.bool true, .int .i64 p.kind, .int .i64 p.tx, .int .i64 p.id, .int .i64 p.root, .int .i64 p.count, .slice ka p.ks.length kc, .slice ea p.es.length ec, .int .i64 p.next, .string p.data]) (by simp [results, Tryz.results54, go_sem, d0, d1, d2, d3, d4, d5, d6, d7, d8, d9]) rfl ⟨by rw [hdec]; rfl, hb4⟩
  · have hdec : decide (newCodeOf p = bs) = false := by simpa using hd
    rw [hdec]
    have HB10 := put10_box HR3 (.bool false) (.int .i64 0) (.int .i64 0) (.int .i64 0) (.int .i64 0) (.int .i64 0) (.slice none 0 0) (.slice none 0 0) (.int .i64 0) (.string ⟨#[]⟩)
    have hb4 : Below w.heap.size w (put10 w2 (w.heap.size + 1) (.bool false) (.int .i64 0) (.int .i64 0) (.int .i64 0) (.int .i64 0) (.int .i64 0) (.slice none 0 0) (.slice none 0 0) (.int .i64 0) (.string ⟨#[]⟩)) := hbw.trans ((put10_fr w2 (w.heap.size + 1) (.bool false) (.int .i64 0) (.int .i64 0) (.int .i64 0) (.int .i64 0) (.int .i64 0) (.slice none 0 0) (.slice none 0 0) (.int .i64 0) (.string ⟨#[]⟩)).below hbw.size (fun g e => by omega))
    have f3 := box_frozenq HR3
    obtain ⟨d0, d1, d2, d3, d4, d5, d6, d7, d8, d9⟩ := box_ten HR3
    clear HP2 HR2 HR1 HP1
    go_wp2
    show bodyPost _ _ _ _ _ (put10 w2 (w.heap.size + 1) (.bool false) (.int .i64 0) (.int .i64 0) (.int .i64 0) (.int .i64 0) (.int .i64 0) (.slice none 0 0) (.slice none 0 0) (.int .i64 0) (.string ⟨#[]⟩))
    clear d0 d1 d2 d3 d4 d5 d6 d7 d8 d9
    obtain ⟨d0, d1, d2, d3, d4, d5, d6, d7, d8, d9⟩ := box_ten HB10
    exact bodyPost_ret (v := .agg #[.bool false, .int .i64 0, .int .i64 0, .int .i64 0, .int .i64 0, .int .i64 0, .slice none 0 0, .slice none 0 0, .int .i64 0, .string ⟨#[]⟩]) (by simp [results, Tryz.results54, go_sem, d0, d1, d2, d3, d4, d5, d6, d7, d8, d9]) rfl ⟨by rw [hdec]; rfl, hb4⟩
end New
end Go.Proofs.YtjbifddhbcfdcaaGreat
