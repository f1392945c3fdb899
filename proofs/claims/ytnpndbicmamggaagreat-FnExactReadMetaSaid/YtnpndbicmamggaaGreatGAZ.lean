import Derived.Test.YtnpndbicmamggaaGreatGAB
import Derived.Test.YtnpndbicmamggaaGreatGAU
import Derived.Test.YtnpndbicmamggaaGreatGAX
import Derived.Test.YtnpndbicmamggaaGreatGAY
namespace Go.Proofs.YtnpndbicmamggaaGreat
namespace New
open Go.RowKit
set_option linter.unusedVariables false
set_option maxRecDepth 100000

def Enc (p : Pg) (ka : Option Addr) (kc : Nat) (ea : Option Addr) (ec : Nat) (w : World) : Prop :=
  Calls Tryz.prog 55 #[.agg #[.int .i64 p.kind, .int .i64 p.tx, .int .i64 p.id, .int .i64 p.root, .int .i64 p.count, .slice ka p.ks.length kc, .slice ea p.es.length ec, .int .i64 p.next, .string p.data]] w fun e w' => ∃ v, e = .returned v ∧ w'.ownsRow w.heap.size 5 1 v (newCodeOf p).length (u8s (newCodeOf p)) ∧ Below w.heap.size w w'
theorem enc_nil {p : Pg} {ka : Option Addr} {kc : Nat} {ea : Option Addr} {ec : Nat} {w : World} (h0 : ¬ (inB 1 2000000000 p.tx = true ∧ bodyOk 2 999 p = true))
    (h : Calls Tryz.prog 55 #[.agg #[.int .i64 p.kind, .int .i64 p.tx, .int .i64 p.id, .int .i64 p.root, .int .i64 p.count, .slice ka p.ks.length kc, .slice ea p.es.length ec, .int .i64 p.next, .string p.data]] w fun e w' => e = .returned (.slice none 0 0) ∧ Below w.heap.size w w') : Enc p ka kc ea ec w := by
  refine h.mono ?_
  rintro e w' ⟨rfl, hb⟩
  refine ⟨_, rfl, ?_, hb⟩
  rw [newCodeOf, if_neg h0]
  exact World.ownsRow_nil _ _ _ _
theorem seal_len (tx : Int) {l : List Int} (h : l.length ≤ 120) : (sealN tx l).length = 128 := by simp [sealN, padB, leB_len]; omega
theorem enc_good {p : Pg} {ka : Option Addr} {kc : Nat} {ea : Option Addr} {ec : Nat} {w : World} (htx : inB 1 2000000000 p.tx = true) (hok : bodyOk 2 999 p = true) (c : Int) (b : List Int) (hc : c = ((p.ks.length + p.es.length : Nat) : Int)) (hb : b = bodyB false p)
    (h : Calls Tryz.prog 55 #[.agg #[.int .i64 p.kind, .int .i64 p.tx, .int .i64 p.id, .int .i64 p.root, .int .i64 p.count, .slice ka p.ks.length kc, .slice ea p.es.length ec, .int .i64 p.next, .string p.data]] w fun e w' => ∃ v, e = .returned v ∧ w'.ownsRow w.heap.size 5 1 v 128 (u8s (sealN p.tx (headN p.tx p.kind c b))) ∧ Below w.heap.size w w') : Enc p ka kc ea ec w := by
  refine h.mono ?_
  rintro e w' ⟨v, rfl, ho, hbl⟩
  refine ⟨_, rfl, ?_, hbl⟩
  have e1 : newCodeOf p = sealN p.tx (headN p.tx p.kind c b) := by
    rw [newCodeOf, if_pos ⟨htx, hok⟩, headN_eq, hc, hb]
    rfl
  have hl := bodyB_len false hok
  rw [e1, seal_len _ (by simp [headN, hb, leB_len]; omega)]
  exact ho

theorem cond_of {b : Bool} {α : Type} (x y : α) (h : b = true) : cond b x y = x := by rw [h]; rfl
theorem cond_not {b : Bool} {α : Type} (x y : α) (h : b = false) : cond b x y = y := by rw [h]; rfl

theorem encodePage_any (p : Pg) (hf : PgFit p) (ka : Option Addr) (kc : Nat) (ea : Option Addr) (ec : Nat) (w : World) (A B : Nat) (hB : B ≤ w.heap.size) (hK : KidsAt w A B ka p.ks.length kc p.ks) (hE : EntsAt w A B ea p.es.length ec p.es) : Enc p ka kc ea ec w := by
  obtain ⟨kind, tx, id, root, count, ks, es, next, data⟩ := p
  have hfi := hf.id
  have ht := hf.tx
  have hfr := hf.root
  have hfc := hf.count
  have hfn := hf.next
  have hfd := hf.data
  simp only at hK hE hfi hfr hfc hfn hfd ht
  by_cases h1 : kind = 1
  · subst h1
    have hbo : bodyOk 2 999 ⟨1, tx, id, root, count, ks, es, next, data⟩ = ((inB 1 2000000000 id && inB 2 999 root && inB 0 2000000000 count) && (decide (ks.length = 0) && decide (es.length = 0) && decide (next = 0) && data.toList.isEmpty)) := by
      simp only [bodyOk, if_pos, metaOk, Bool.and_assoc]
    have HB := fun W0 (hb : Below w.heap.size w W0) => bodyOf_meta tx id root count ka ks.length kc ks ea es.length ec es next data W0 A B (Nat.le_trans hB hb.size) (hK.below (hb.mono hB)) (hE.below (hb.mono hB))
    by_cases hc : (decide (ks.length = 0) && decide (es.length = 0) && decide (next = 0) && data.toList.isEmpty) = true
    · by_cases htx : inB 1 2000000000 tx = true
      · by_cases hv : (inB 1 2000000000 id && inB 2 999 root && inB 0 2000000000 count) = true
        · refine enc_good htx (by rw [hbo, hv, hc]; rfl) 0 _ ?_ rfl (encNew_meta tx id root count hfi hfr hfc ka ks.length kc ks ea es.length ec es next data w A B hB hK hE hc ht htx hv)
          simp only [Bool.and_eq_true, decide_eq_true_eq] at hc
          simp [hc.1.1.1, hc.1.1.2]
        · have hv' : (inB 1 2000000000 id && inB 2 999 root && inB 0 2000000000 count) = false := by simpa using hv
          exact enc_nil (by rw [hbo, hv']; simp) (encBad_meta tx id root count ka ks.length kc ks ea es.length ec es next data w A B hB hK hE hc htx hv')
      · exact enc_nil (fun h => htx h.1) (encNew_tx 150 1 tx id root count (by simpa using htx) ka ks.length kc ea es.length ec next data w (fun W0 hb => (HB W0 hb).mono fun e w' ⟨M, he, _, _, hb'⟩ => ⟨M, by rw [he, cond_of _ _ hc], hb'⟩))
    · have hc' : (decide (ks.length = 0) && decide (es.length = 0) && decide (next = 0) && data.toList.isEmpty) = false := by simpa using hc
      exact enc_nil (by rw [hbo, hc']; simp) (encNew_nil 1 tx id root count ka ks.length kc ea es.length ec next data w (fun W0 hb => (HB W0 hb).mono fun e w' ⟨M, he, _, _, hb'⟩ => ⟨by rw [he, cond_not _ _ hc'], hb'⟩))
  by_cases h2 : kind = 2
  · subst h2
    have hbo : bodyOk 2 999 ⟨2, tx, id, root, count, ks, es, next, data⟩ = ((decide (id = 0 ∧ root = 0 ∧ count = 0) && decide (es.length = 0) && decide (next = 0) && data.toList.isEmpty) && (decide (2 ≤ ks.length) && decide (ks.length ≤ 4) && (ks.getD 0 dK).1.toList.isEmpty && kidsOk 2 999 ks)) := by
      simp [bodyOk, branchOk, noMeta, Bool.and_assoc]
    have HB := fun W0 (hb : Below w.heap.size w W0) => bodyOf_branch tx id root count ka ks.length kc ks ea es.length ec es next data W0 A B (Nat.le_trans hB hb.size) (hK.below (hb.mono hB)) (hE.below (hb.mono hB))
    by_cases hc : (decide (id = 0 ∧ root = 0 ∧ count = 0) && decide (es.length = 0) && decide (next = 0) && data.toList.isEmpty) = true
    · by_cases htx : inB 1 2000000000 tx = true
      · by_cases hv : (decide (2 ≤ ks.length) && decide (ks.length ≤ 4) && (ks.getD 0 dK).1.toList.isEmpty && kidsOk 2 999 ks) = true
        · have hok : bodyOk 2 999 ⟨2, tx, id, root, count, ks, es, next, data⟩ = true := by rw [hbo, hv, hc]; rfl
          have hsz := branch_sizes (low := 2) (last := 999) (p := ⟨2, tx, id, root, count, ks, es, next, data⟩) (by simpa [bodyOk] using hok)
          refine enc_good htx hok (ks.length : Int) _ ?_ rfl (encNew_branch tx id root count ka ks.length kc ks ea es.length ec es next data w A B hB hK hE hsz.1 hsz.2 hc ht htx hv)
          simp only [Bool.and_eq_true, decide_eq_true_eq] at hc
          simp [hc.1.1.2]
        · have hv' : (decide (2 ≤ ks.length) && decide (ks.length ≤ 4) && (ks.getD 0 dK).1.toList.isEmpty && kidsOk 2 999 ks) = false := by simpa using hv
          exact enc_nil (by rw [hbo, hv']; simp) (encBad_branch tx id root count ka ks.length kc ks ea es.length ec es next data w A B hB hK hE hc htx hv')
      · exact enc_nil (fun h => htx h.1) (encNew_tx 153 2 tx id root count (by simpa using htx) ka ks.length kc ea es.length ec next data w (fun W0 hb => (HB W0 hb).mono fun e w' ⟨M, he, _, _, hb'⟩ => ⟨M, by rw [he, cond_of _ _ hc], hb'⟩))
    · have hc' : (decide (id = 0 ∧ root = 0 ∧ count = 0) && decide (es.length = 0) && decide (next = 0) && data.toList.isEmpty) = false := by simpa using hc
      exact enc_nil (by rw [hbo, hc']; simp) (encNew_nil 2 tx id root count ka ks.length kc ea es.length ec next data w (fun W0 hb => (HB W0 hb).mono fun e w' ⟨M, he, _, _, hb'⟩ => ⟨by rw [he, cond_not _ _ hc'], hb'⟩))
  by_cases h3 : kind = 3
  · subst h3
    have hbo : bodyOk 2 999 ⟨3, tx, id, root, count, ks, es, next, data⟩ = ((decide (id = 0 ∧ root = 0 ∧ count = 0) && decide (ks.length = 0) && decide (next = 0) && data.toList.isEmpty) && (decide (es.length ≤ 4) && entsOk 2 999 es)) := by
      simp [bodyOk, leafOk, noMeta, Bool.and_assoc]
    have HB := fun W0 (hb : Below w.heap.size w W0) => bodyOf_leaf tx id root count ka ks.length kc ks ea es.length ec es next data W0 A B (Nat.le_trans hB hb.size) (hK.below (hb.mono hB)) (hE.below (hb.mono hB))
    by_cases hc : (decide (id = 0 ∧ root = 0 ∧ count = 0) && decide (ks.length = 0) && decide (next = 0) && data.toList.isEmpty) = true
    · by_cases htx : inB 1 2000000000 tx = true
      · by_cases hv : (decide (es.length ≤ 4) && entsOk 2 999 es) = true
        · have hok : bodyOk 2 999 ⟨3, tx, id, root, count, ks, es, next, data⟩ = true := by rw [hbo, hv, hc]; rfl
          have hsz := leaf_sizes (low := 2) (last := 999) (p := ⟨3, tx, id, root, count, ks, es, next, data⟩) (by simpa [bodyOk] using hok)
          refine enc_good htx hok (es.length : Int) _ ?_ rfl (encNew_leaf tx id root count ka ks.length kc ks ea es.length ec es next data w A B hB hK hE hsz.1 hsz.2 hc ht htx hv)
          simp only [Bool.and_eq_true, decide_eq_true_eq] at hc
          simp [hc.1.1.2]
        · have hv' : (decide (es.length ≤ 4) && entsOk 2 999 es) = false := by simpa using hv
          exact enc_nil (by rw [hbo, hv']; simp) (encBad_leaf tx id root count ka ks.length kc ks ea es.length ec es next data w A B hB hK hE hc htx hv')
      · exact enc_nil (fun h => htx h.1) (encNew_tx 156 3 tx id root count (by simpa using htx) ka ks.length kc ea es.length ec next data w (fun W0 hb => (HB W0 hb).mono fun e w' ⟨M, he, _, _, hb'⟩ => ⟨M, by rw [he, cond_of _ _ hc], hb'⟩))
    · have hc' : (decide (id = 0 ∧ root = 0 ∧ count = 0) && decide (ks.length = 0) && decide (next = 0) && data.toList.isEmpty) = false := by simpa using hc
      exact enc_nil (by rw [hbo, hc']; simp) (encNew_nil 3 tx id root count ka ks.length kc ea es.length ec next data w (fun W0 hb => (HB W0 hb).mono fun e w' ⟨M, he, _, _, hb'⟩ => ⟨by rw [he, cond_not _ _ hc'], hb'⟩))
  by_cases h4 : kind = 4
  · subst h4
    have hbo : bodyOk 2 999 ⟨4, tx, id, root, count, ks, es, next, data⟩ = ((decide (id = 0 ∧ root = 0 ∧ count = 0) && decide (ks.length = 0) && decide (es.length = 0)) && (decide (1 ≤ data.size) && decide (data.size ≤ 96) && (decide (next = 0) || (inB 2 999 next && decide (data.size = 96))))) := by
      simp [bodyOk, overOk, noMeta, Bool.and_assoc]
    have HB := fun W0 (hb : Below w.heap.size w W0) => bodyOf_over tx id root count ka ks.length kc ks ea es.length ec es next data W0 A B (Nat.le_trans hB hb.size) (hK.below (hb.mono hB)) (hE.below (hb.mono hB))
    by_cases hc : (decide (id = 0 ∧ root = 0 ∧ count = 0) && decide (ks.length = 0) && decide (es.length = 0)) = true
    · by_cases htx : inB 1 2000000000 tx = true
      · by_cases hv : (decide (1 ≤ data.size) && decide (data.size ≤ 96) && (decide (next = 0) || (inB 2 999 next && decide (data.size = 96)))) = true
        · have hok : bodyOk 2 999 ⟨4, tx, id, root, count, ks, es, next, data⟩ = true := by rw [hbo, hv, hc]; rfl
          have hsz := over_size (low := 2) (last := 999) (p := ⟨4, tx, id, root, count, ks, es, next, data⟩) (by simpa [bodyOk] using hok)
          refine enc_good htx hok 0 _ ?_ rfl (encNew_over tx id root count ka ks.length kc ks ea es.length ec es next data w A B hB hK hE hfn hsz hc ht htx hv)
          simp only [Bool.and_eq_true, decide_eq_true_eq] at hc
          simp [hc.1.2, hc.2]
        · have hv' : (decide (1 ≤ data.size) && decide (data.size ≤ 96) && (decide (next = 0) || (inB 2 999 next && decide (data.size = 96)))) = false := by simpa using hv
          exact enc_nil (by rw [hbo, hv']; simp) (encBad_over tx id root count ka ks.length kc ks ea es.length ec es next data w A B hB hK hE hfd hc htx hv')
      · exact enc_nil (fun h => htx h.1) (encNew_tx 159 4 tx id root count (by simpa using htx) ka ks.length kc ea es.length ec next data w (fun W0 hb => (HB W0 hb).mono fun e w' ⟨M, he, _, _, hb'⟩ => ⟨M, by rw [he, cond_of _ _ hc], hb'⟩))
    · have hc' : (decide (id = 0 ∧ root = 0 ∧ count = 0) && decide (ks.length = 0) && decide (es.length = 0)) = false := by simpa using hc
      exact enc_nil (by rw [hbo, hc']; simp) (encNew_nil 4 tx id root count ka ks.length kc ea es.length ec next data w (fun W0 hb => (HB W0 hb).mono fun e w' ⟨M, he, _, _, hb'⟩ => ⟨by rw [he, cond_not _ _ hc'], hb'⟩))
  · exact enc_nil (by simp [bodyOk, h1, h2, h3, h4]) (encNew_nil kind tx id root count ka ks.length kc ea es.length ec next data w (fun W0 hb => bodyOf_nil kind tx id root count h1 h2 h3 h4 ka ks.length kc ea es.length ec next data W0))
end New
end Go.Proofs.YtnpndbicmamggaaGreat
namespace Go.Proofs.YtnpndbicmamggaaGreat
open Go.RowKit
set_option linter.unusedVariables false
set_option maxRecDepth 100000

theorem codeN_len (p : Pg) : (newCodeOf p).length ≤ 128 := by
  unfold newCodeOf
  split
  · rename_i h
    have hl := bodyB_len false h.2
    rw [New.seal_len _ (by simp [newHead, leB_len]; omega)]
    omega
  · simp
theorem codeN_byte (p : Pg) : ∀ x ∈ newCodeOf p, 0 ≤ x ∧ x ≤ 255 := by
  unfold newCodeOf
  split
  · rename_i h
    have hk := body_kind h.2
    have hc := body_count h.2
    have hb : ∀ x ∈ newHead p, 0 ≤ x ∧ x ≤ 255 := bytes_app (bytes_app (leB_byte _ _) (by intro x hx; simp at hx; omega)) (bodyB_byte false h.2)
    exact bytes_app (bytes_app (New.padB_byte hb) (leB_byte _ _)) (leB_byte _ _)
  · intro x hx; cases hx

end Go.Proofs.YtnpndbicmamggaaGreat
namespace Go.Proofs.YtnpndbicmamggaaGreat
namespace New
open Go.RowKit
set_option linter.unusedVariables false
set_option maxRecDepth 100000

theorem toB_inj {a b : List Int} (ha : ∀ x ∈ a, 0 ≤ x ∧ x ≤ 255) (hb : ∀ x ∈ b, 0 ≤ x ∧ x ≤ 255) : toB a = toB b ↔ a = b := by
  constructor
  · intro h
    have := congrArg strB h
    rwa [strB_toB ha, strB_toB hb] at this
  · rintro rfl; rfl
theorem bytesEqual_any (a b : Option Addr) (n m c d : Nat) (x y : List Int) (w : World) (A B A2 B2 : Nat) (hx : BytesAt w A B a n c x) (hy : BytesAt w A2 B2 b m d y) :
    Calls Tryz.prog 72 #[.slice a n c, .slice b m d] w fun e w' => e = .returned (.bool (decide (x = y))) ∧ Below w.heap.size w w' := by
  have h1 := str_conv hx
  have h2 := str_conv hy
  have hd : ((toB x).toList == (toB y).toList) = decide (x = y) := by
    have h3 := toB_inj hx.2.2.2.1 hy.2.2.2.1
    have h4 : ((toB x).toList == (toB y).toList) = decide (toB x = toB y) := by
      rw [ByteArray.toList_eq, ByteArray.toList_eq, Bool.eq_iff_iff]
      simp only [beq_iff_eq, decide_eq_true_eq]
      constructor
      · intro h; exact ByteArray.ext (Array.ext' h)
      · intro h; rw [h]
    rw [h4]
    simp [h3]
  go_enter Tryz.func72, Tryz.ntmps72
  go_wp2
  go_ret
  exact ⟨by rw [← hd]; rfl, Below.refl _ _⟩
/-- What decoding answers: the page where b is its code, else the zero value. -/
def resVal (ok : Bool) (p : Pg) (vk ve : Value) : Value :=
  if ok then .agg #[.bool true, .int .i64 p.kind, .int .i64 p.tx, .int .i64 p.id, .int .i64 p.root, .int .i64 p.count, vk, ve, .int .i64 p.next, .string p.data]
  else .agg #[.bool false, .int .i64 0, .int .i64 0, .int .i64 0, .int .i64 0, .int .i64 0, .slice none 0 0, .slice none 0 0, .int .i64 0, .string ⟨#[]⟩]
def put10 (w : World) (N : Nat) (u0 u1 u2 u3 u4 u5 u6 u7 u8 u9 : Value) : World :=
  (((((((((w.setCell ⟨N, 0, none⟩ u0).setCell ⟨N, 1, none⟩ u1).setCell ⟨N, 2, none⟩ u2).setCell ⟨N, 3, none⟩ u3).setCell ⟨N, 4, none⟩ u4).setCell ⟨N, 5, none⟩ u5).setCell ⟨N, 6, none⟩ u6).setCell ⟨N, 7, none⟩ u7).setCell ⟨N, 8, none⟩ u8).setCell ⟨N, 9, none⟩ u9
theorem put10_box {w : World} {N t : Nat} {v0 v1 v2 v3 v4 v5 v6 v7 v8 v9 : Value} (h : w.heap[N]? = some (.cells #[v0, v1, v2, v3, v4, v5, v6, v7, v8, v9] t)) (u0 u1 u2 u3 u4 u5 u6 u7 u8 u9 : Value) : (put10 w N u0 u1 u2 u3 u4 u5 u6 u7 u8 u9).heap[N]? = some (.cells #[u0, u1, u2, u3, u4, u5, u6, u7, u8, u9] t) := by
  simp [put10, World.setCell, Array.getElem?_modify, h]
theorem setq_fr (w : World) (N i : Nat) (u : Value) : Fr (fun x => x = N) w (w.setCell ⟨N, i, none⟩ u) := ⟨rfl, rfl, rfl, by simp [World.setCell], fun k _ hk => Below.heap_setCell w ⟨N, i, none⟩ u k hk⟩
theorem put10_fr (w : World) (N : Nat) (u0 u1 u2 u3 u4 u5 u6 u7 u8 u9 : Value) : Fr (fun x => x = N) w (put10 w N u0 u1 u2 u3 u4 u5 u6 u7 u8 u9) :=
  (((((((((setq_fr _ _ _ _).trans (setq_fr _ _ _ _)).trans (setq_fr _ _ _ _)).trans (setq_fr _ _ _ _)).trans (setq_fr _ _ _ _)).trans (setq_fr _ _ _ _)).trans (setq_fr _ _ _ _)).trans (setq_fr _ _ _ _)).trans (setq_fr _ _ _ _)).trans (setq_fr _ _ _ _)
theorem box_ten {w : World} {N : Nat} {v0 v1 v2 v3 v4 v5 v6 v7 v8 v9 : Value} {t : TypeId} (h : w.heap[N]? = some (.cells #[v0, v1, v2, v3, v4, v5, v6, v7, v8, v9] t)) : w.cell? ⟨N, 0, none⟩ = some v0 ∧ w.cell? ⟨N, 1, none⟩ = some v1 ∧ w.cell? ⟨N, 2, none⟩ = some v2 ∧ w.cell? ⟨N, 3, none⟩ = some v3 ∧ w.cell? ⟨N, 4, none⟩ = some v4 ∧ w.cell? ⟨N, 5, none⟩ = some v5 ∧ w.cell? ⟨N, 6, none⟩ = some v6 ∧ w.cell? ⟨N, 7, none⟩ = some v7 ∧ w.cell? ⟨N, 8, none⟩ = some v8 ∧ w.cell? ⟨N, 9, none⟩ = some v9 := by
  simp [World.cell?, h]
theorem box_frozenq {w : World} {M t : Nat} {cs : Array Value} (h : w.heap[M]? = some (.cells cs t)) (j : Nat) : w.frozen? ⟨M, j, none⟩ = false := by simp [World.frozen?, h]
set_option maxHeartbeats 1600000 in
theorem coded_any (p : Pg) (hf : PgFit p) (ka : Option Addr) (kc : Nat) (ea : Option Addr) (ec : Nat) (ba : Option Addr) (bc : Nat) (bs : List Int) (w : World) (A B A2 B2 : Nat) (hB : B ≤ w.heap.size) (hB2 : B2 ≤ w.heap.size) (hK : KidsAt w A B ka p.ks.length kc p.ks) (hE : EntsAt w A B ea p.es.length ec p.es) (hb : BytesAt w A2 B2 ba 128 bc bs) :
    Calls Tryz.prog 54 #[.agg #[.int .i64 p.kind, .int .i64 p.tx, .int .i64 p.id, .int .i64 p.root, .int .i64 p.count, .slice ka p.ks.length kc, .slice ea p.es.length ec, .int .i64 p.next, .string p.data], .func (.func 55) #[] #[], .slice ba 128 bc] w fun e w' => e = .returned (resVal (decide (newCodeOf p = bs)) p (.slice ka p.ks.length kc) (.slice ea p.es.length ec)) ∧ Below w.heap.size w w' := by
  go_enter Tryz.func54, Tryz.ntmps54
  go_wp2_with fail
  have hbw0 : Below w.heap.size w ((w.alloc (.cells #[.int .i64 p.kind, .int .i64 p.tx, .int .i64 p.id, .int .i64 p.root, .int .i64 p.count, .slice ka p.ks.length kc, .slice ea p.es.length ec, .int .i64 p.next, .string p.data] 54)).alloc (.cells #[.bool false, .int .i64 0, .int .i64 0, .int .i64 0, .int .i64 0, .int .i64 0, .slice none 0 0, .slice none 0 0, .int .i64 0, .string ⟨#[]⟩] 66)) := ((Below.refl _ _).alloc (Nat.le_refl _) _).alloc (by simp) _
  have HR0 := heap_alloc_new (w.alloc (.cells #[.int .i64 p.kind, .int .i64 p.tx, .int .i64 p.id, .int .i64 p.root, .int .i64 p.count, .slice ka p.ks.length kc, .slice ea p.es.length ec, .int .i64 p.next, .string p.data] 54)) (.cells #[.bool false, .int .i64 0, .int .i64 0, .int .i64 0, .int .i64 0, .int .i64 0, .slice none 0 0, .slice none 0 0, .int .i64 0, .string ⟨#[]⟩] 66)
  have hsz : (w.alloc (.cells #[.int .i64 p.kind, .int .i64 p.tx, .int .i64 p.id, .int .i64 p.root, .int .i64 p.count, .slice ka p.ks.length kc, .slice ea p.es.length ec, .int .i64 p.next, .string p.data] 54)).heap.size = w.heap.size + 1 := by simp
  rw [hsz] at HR0
  have HP0 : ((w.alloc (.cells #[.int .i64 p.kind, .int .i64 p.tx, .int .i64 p.id, .int .i64 p.root, .int .i64 p.count, .slice ka p.ks.length kc, .slice ea p.es.length ec, .int .i64 p.next, .string p.data] 54)).alloc (.cells #[.bool false, .int .i64 0, .int .i64 0, .int .i64 0, .int .i64 0, .int .i64 0, .slice none 0 0, .slice none 0 0, .int .i64 0, .string ⟨#[]⟩] 66)).heap[w.heap.size]? = some (.cells #[.int .i64 p.kind, .int .i64 p.tx, .int .i64 p.id, .int .i64 p.root, .int .i64 p.count, .slice ka p.ks.length kc, .slice ea p.es.length ec, .int .i64 p.next, .string p.data] 54) := (((Below.refl (w.alloc (.cells #[.int .i64 p.kind, .int .i64 p.tx, .int .i64 p.id, .int .i64 p.root, .int .i64 p.count, .slice ka p.ks.length kc, .slice ea p.es.length ec, .int .i64 p.next, .string p.data] 54)).heap.size _).alloc (Nat.le_refl _) _).block w.heap.size (by simp)).trans (heap_alloc_new w _)
  generalize (w.alloc (.cells #[.int .i64 p.kind, .int .i64 p.tx, .int .i64 p.id, .int .i64 p.root, .int .i64 p.count, .slice ka p.ks.length kc, .slice ea p.es.length ec, .int .i64 p.next, .string p.data] 54)).alloc (.cells #[.bool false, .int .i64 0, .int .i64 0, .int .i64 0, .int .i64 0, .int .i64 0, .slice none 0 0, .slice none 0 0, .int .i64 0, .string ⟨#[]⟩] 66) = W at hbw0 HR0 HP0 ⊢
  clear hsz
  refine (encodePage_any p hf ka kc ea ec W A B (Nat.le_trans hB hbw0.size) (hK.below (hbw0.mono hB)) (hE.below (hbw0.mono hB))).mono ?_
  rintro e w1 ⟨v1, rfl, hO1, hb1⟩
  obtain ⟨va, vc, rfl⟩ := own_shape hO1
  have hbw1 := hbw0.trans (hb1.mono hbw0.size)
  have HR1 := eb_call HR0 hb1
  have HP1 := eb_call HP0 hb1
  have hby1 := bytesAt_row hO1 (codeN_byte p)
  have hbs := hb.below (hbw1.mono hB2)
  clear hbw0 HR0 HP0 hO1 hb1 hK hE hb
  go_wp2_with fail
  refine (bytesEqual_any va ba _ 128 vc bc (newCodeOf p) bs w1 _ _ _ _ hby1 hbs).mono ?_
  rintro e w2 ⟨rfl, hb2⟩
  have hbw := hbw1.trans (hb2.mono hbw1.size)
  have HR2 := eb_call HR1 hb2
  have HP2 := eb_call HP1 hb2
  have HR3 := HR2
  obtain ⟨c5, c6, c0, c2, c3, c4, c7, c8, c1⟩ := box_slice HP2
  clear hbw1 hby1 hbs hb2
  by_cases hd : newCodeOf p = bs
  · have hdec : decide (newCodeOf p = bs) = true := by simpa using hd
    rw [hdec]
    have HB10 := put10_box HR3 (.bool true) (.int .i64 p.kind) (.int .i64 p.tx) (.int .i64 p.id) (.int .i64 p.root) (.int .i64 p.count) (.slice ka p.ks.length kc) (.slice ea p.es.length ec) (.int .i64 p.next) (.string p.data)
    have hb4 : Below w.heap.size w (put10 w2 (w.heap.size + 1) (.bool true) (.int .i64 p.kind) (.int .i64 p.tx) (.int .i64 p.id) (.int .i64 p.root) (.int .i64 p.count) (.slice ka p.ks.length kc) (.slice ea p.es.length ec) (.int .i64 p.next) (.string p.data)) := hbw.trans ((put10_fr w2 (w.heap.size + 1) (.bool true) (.int .i64 p.kind) (.int .i64 p.tx) (.int .i64 p.id) (.int .i64 p.root) (.int .i64 p.count) (.slice ka p.ks.length kc) (.slice ea p.es.length ec) (.int .i64 p.next) (.string p.data)).below hbw.size (fun g e => by omega))
    have f3 := box_frozenq HR3
    obtain ⟨d0, d1, d2, d3, d4, d5, d6, d7, d8, d9⟩ := box_ten HR3
    clear HP2 HR2 HR1 HP1
    go_wp2
    show bodyPost _ _ _ _ _ (put10 w2 (w.heap.size + 1) (.bool true) (.int .i64 p.kind) (.int .i64 p.tx) (.int .i64 p.id) (.int .i64 p.root) (.int .i64 p.count) (.slice ka p.ks.length kc) (.slice ea p.es.length ec) (.int .i64 p.next) (.string p.data))
    clear d0 d1 d2 d3 d4 d5 d6 d7 d8 d9
    obtain ⟨d0, d1, d2, d3, d4, d5, d6, d7, d8, d9⟩ := box_ten HB10
    exact bodyPost_ret (v := .agg #[.bool true, .int .i64 p.kind, .int .i64 p.tx, .int .i64 p.id, .int .i64 p.root, .int .i64 p.count, .slice ka p.ks.length kc, .slice ea p.es.length ec, .int .i64 p.next, .string p.data]) (by simp [results, Tryz.results54, go_sem, d0, d1, d2, d3, d4, d5, d6, d7, d8, d9]) rfl ⟨by rw [hdec]; rfl, hb4⟩
  · have hdec : decide (newCodeOf p = bs) = false := by simpa using hd
    rw [hdec]
    have HB10 := put10_box HR3 (.bool false) (.int .i64 0) (.int .i64 0) (.int .i64 0) (.int .i64 0) (.int .i64 0) (.slice none 0 0) (.slice none 0 0) (.int .i64 0) (.string ⟨#[]⟩)
    have hb4 : Below w.heap.size w (put10 w2 (w.heap.size + 1) (.bool false) (.int .i64 0) (.int .i64 0) (.int .i64 0) (.int .i64 0) (.int .i64 0) (.slice none 0 0) (.slice none 0 0) (.int .i64 0) (.string ⟨#[]⟩)) := hbw.trans ((put10_fr w2 (w.heap.size + 1) (.bool false) (.int .i64 0) (.int .i64 0) (.int .i64 0) (.int .i64 0) (.int .i64 0) (.slice none 0 0) (.slice none 0 0) (.int .i64 0) (.string ⟨#[]⟩)).below hbw.size (fun g e => by omega))
    have f3 := box_frozenq HR3
    obtain ⟨d0, d1, d2, d3, d4, d5, d6, d7, d8, d9⟩ := box_ten HR3
    clear HP2 HR2 HR1 HP1
    go_wp2
    show bodyPost _ _ _ _ _ (put10 w2 (w.heap.size + 1) (.bool false) (.int .i64 0) (.int .i64 0) (.int .i64 0) (.int .i64 0) (.int .i64 0) (.slice none 0 0) (.slice none 0 0) (.int .i64 0) (.string ⟨#[]⟩))
    clear d0 d1 d2 d3 d4 d5 d6 d7 d8 d9
    obtain ⟨d0, d1, d2, d3, d4, d5, d6, d7, d8, d9⟩ := box_ten HB10
    exact bodyPost_ret (v := .agg #[.bool false, .int .i64 0, .int .i64 0, .int .i64 0, .int .i64 0, .int .i64 0, .slice none 0 0, .slice none 0 0, .int .i64 0, .string ⟨#[]⟩]) (by simp [results, Tryz.results54, go_sem, d0, d1, d2, d3, d4, d5, d6, d7, d8, d9]) rfl ⟨by rw [hdec]; rfl, hb4⟩
end New
end Go.Proofs.YtnpndbicmamggaaGreat
