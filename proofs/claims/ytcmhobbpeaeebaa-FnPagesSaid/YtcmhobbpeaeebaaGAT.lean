import Derived.Test.YtcmhobbpeaeebaaGAN
import Derived.Test.YtcmhobbpeaeebaaEnOm
import Derived.Test.YtcmhobbpeaeebaaEnOb
import Derived.Test.YtcmhobbpeaeebaaEnOl
import Derived.Test.YtcmhobbpeaeebaaEnOo
import Derived.Test.YtcmhobbpeaeebaaEnB
namespace Go.Proofs.Ytcmhobbpeaeebaa
namespace Old
open Go.RowKit
set_option linter.unusedVariables false
set_option maxRecDepth 100000

set_option maxHeartbeats 1600000 in
theorem bodyOf_nil (kind tx id root count : Int) (hk1 : kind ≠ 1) (hk2 : kind ≠ 2) (hk3 : kind ≠ 3) (hk4 : kind ≠ 4) (ka : Option Addr) (n kc : Nat) (ea : Option Addr) (m ec : Nat) (next : Int) (data : ByteArray) (w : World) :
    Calls Try.prog 59 #[.agg #[.int .i64 kind, .int .i64 tx, .int .i64 id, .int .i64 root, .int .i64 count, .slice ka n kc, .slice ea m ec, .int .i64 next, .string data]] w fun e w' => e = .returned .nilIface ∧ Below w.heap.size w w' := by
  have hb0 : Below w.heap.size w (w.alloc (.cells #[.int .i64 kind, .int .i64 tx, .int .i64 id, .int .i64 root, .int .i64 count, .slice ka n kc, .slice ea m ec, .int .i64 next, .string data] 28)) := (Below.refl _ _).alloc (Nat.le_refl _) _
  go_enter Try.func59, Try.ntmps59
  go_wp2_with fail
  generalize w.alloc (.cells #[.int .i64 kind, .int .i64 tx, .int .i64 id, .int .i64 root, .int .i64 count, .slice ka n kc, .slice ea m ec, .int .i64 next, .string data] 28) = W0 at hb0 ⊢
  refine (kindBody_nil kind tx id root count hk1 hk2 hk3 hk4 ka n kc ea m ec next data W0).mono ?_
  rintro e w1 ⟨rfl, hb1⟩
  have hb2 := hb0.trans (hb1.mono hb0.size)
  clear hb0 hb1
  go_wp2
  go_ret
  exact ⟨rfl, hb2⟩
set_option maxHeartbeats 1600000 in
theorem encOld_nil (kind tx id root count : Int) (ka : Option Addr) (n kc : Nat) (ea : Option Addr) (m ec : Nat) (next : Int) (data : ByteArray) (w : World)
    (H : ∀ W0 : World, Below w.heap.size w W0 → Calls Try.prog 59 #[.agg #[.int .i64 kind, .int .i64 tx, .int .i64 id, .int .i64 root, .int .i64 count, .slice ka n kc, .slice ea m ec, .int .i64 next, .string data]] W0 fun e w' => e = .returned .nilIface ∧ Below W0.heap.size W0 w') :
    Calls Try.prog 29 #[.agg #[.int .i64 kind, .int .i64 tx, .int .i64 id, .int .i64 root, .int .i64 count, .slice ka n kc, .slice ea m ec, .int .i64 next, .string data]] w fun e w' => e = .returned (.slice none 0 0) ∧ Below w.heap.size w w' := by
  have hb0 : Below w.heap.size w (w.alloc (.cells #[.int .i64 kind, .int .i64 tx, .int .i64 id, .int .i64 root, .int .i64 count, .slice ka n kc, .slice ea m ec, .int .i64 next, .string data] 28)) := (Below.refl _ _).alloc (Nat.le_refl _) _
  go_enter Try.func29, Try.ntmps29
  go_wp2_with fail
  generalize w.alloc (.cells #[.int .i64 kind, .int .i64 tx, .int .i64 id, .int .i64 root, .int .i64 count, .slice ka n kc, .slice ea m ec, .int .i64 next, .string data] 28) = W0 at hb0 ⊢
  refine (H W0 hb0).mono ?_
  rintro e w1 ⟨rfl, hb1⟩
  have hb2 := hb0.trans (hb1.mono hb0.size)
  have hbq : ∀ q, Below w.heap.size w (w1.drewN q) := fun q => hb2.trans ⟨rfl, rfl, rfl, Nat.le_refl _, fun _ _ => rfl⟩
  clear hb0 hb1 H
  go_wp2_with fail
  go_quiet (fail)
  go_wp2
  go_ret
  exact ⟨rfl, hbq _⟩
set_option maxHeartbeats 1600000 in
theorem encOld_tx (T : TypeId) (kind tx id root count : Int) (htx : tx ≠ 0) (ka : Option Addr) (n kc : Nat) (ea : Option Addr) (m ec : Nat) (next : Int) (data : ByteArray) (w : World)
    (H : ∀ W0 : World, Below w.heap.size w W0 → Calls Try.prog 59 #[.agg #[.int .i64 kind, .int .i64 tx, .int .i64 id, .int .i64 root, .int .i64 count, .slice ka n kc, .slice ea m ec, .int .i64 next, .string data]] W0 fun e w' => ∃ M, e = .returned (.iface T (.pointer (some ⟨M, 0, none⟩))) ∧ Below W0.heap.size W0 w') :
    Calls Try.prog 29 #[.agg #[.int .i64 kind, .int .i64 tx, .int .i64 id, .int .i64 root, .int .i64 count, .slice ka n kc, .slice ea m ec, .int .i64 next, .string data]] w fun e w' => e = .returned (.slice none 0 0) ∧ Below w.heap.size w w' := by
  have hb0 : Below w.heap.size w (w.alloc (.cells #[.int .i64 kind, .int .i64 tx, .int .i64 id, .int .i64 root, .int .i64 count, .slice ka n kc, .slice ea m ec, .int .i64 next, .string data] 28)) := (Below.refl _ _).alloc (Nat.le_refl _) _
  have HX0 : (w.alloc (.cells #[.int .i64 kind, .int .i64 tx, .int .i64 id, .int .i64 root, .int .i64 count, .slice ka n kc, .slice ea m ec, .int .i64 next, .string data] 28)).heap[w.heap.size]? = _ := heap_alloc_new w _
  have st : (tx != 0) = true := by simpa using htx
  clear htx
  go_enter Try.func29, Try.ntmps29
  go_wp2_with fail
  generalize w.alloc (.cells #[.int .i64 kind, .int .i64 tx, .int .i64 id, .int .i64 root, .int .i64 count, .slice ka n kc, .slice ea m ec, .int .i64 next, .string data] 28) = W0 at hb0 HX0 ⊢
  refine (H W0 hb0).mono ?_
  rintro e w1 ⟨M, rfl, hb1⟩
  have hb2 := hb0.trans (hb1.mono hb0.size)
  have HX1 := eb_call HX0 hb1
  obtain ⟨c5, c6, c0, c2, c3, c4, c7, c8, c1⟩ := box_slice HX1
  have hbq : ∀ q, Below w.heap.size w (w1.drewN q) := fun q => hb2.trans ⟨rfl, rfl, rfl, Nat.le_refl _, fun _ _ => rfl⟩
  clear hb0 hb1 H HX0 HX1
  go_wp2_with fail
  go_quiet (fail)
  go_wp2
  go_ret
  exact ⟨rfl, hbq _⟩
end Old
end Go.Proofs.Ytcmhobbpeaeebaa
namespace Go.Proofs.Ytcmhobbpeaeebaa
namespace Old
open Go.RowKit
set_option linter.unusedVariables false
set_option maxRecDepth 100000

def Enc (p : Pg) (ka : Option Addr) (kc : Nat) (ea : Option Addr) (ec : Nat) (w : World) : Prop :=
  Calls Try.prog 29 #[.agg #[.int .i64 p.kind, .int .i64 p.tx, .int .i64 p.id, .int .i64 p.root, .int .i64 p.count, .slice ka p.ks.length kc, .slice ea p.es.length ec, .int .i64 p.next, .string p.data]] w fun e w' => ∃ v, e = .returned v ∧ w'.ownsRow w.heap.size 5 1 v (oldCodeOf p).length (u8s (oldCodeOf p)) ∧ Below w.heap.size w w'
theorem enc_nil {p : Pg} {ka : Option Addr} {kc : Nat} {ea : Option Addr} {ec : Nat} {w : World} (h0 : ¬ (p.tx = 0 ∧ bodyOk 1 998 p = true))
    (h : Calls Try.prog 29 #[.agg #[.int .i64 p.kind, .int .i64 p.tx, .int .i64 p.id, .int .i64 p.root, .int .i64 p.count, .slice ka p.ks.length kc, .slice ea p.es.length ec, .int .i64 p.next, .string p.data]] w fun e w' => e = .returned (.slice none 0 0) ∧ Below w.heap.size w w') : Enc p ka kc ea ec w := by
  refine h.mono ?_
  rintro e w' ⟨rfl, hb⟩
  refine ⟨_, rfl, ?_, hb⟩
  rw [oldCodeOf, if_neg h0]
  exact World.ownsRow_nil _ _ _ _
theorem seal_len {l : List Int} (h : l.length ≤ 127) : (sealO l).length = 128 := by simp [sealO, padB]; omega
theorem enc_good {p : Pg} {ka : Option Addr} {kc : Nat} {ea : Option Addr} {ec : Nat} {w : World} (htx : p.tx = 0) (hok : bodyOk 1 998 p = true) (c : Int) (b : List Int) (hc : c = ((p.ks.length + p.es.length : Nat) : Int)) (hb : b = bodyB true p)
    (h : Calls Try.prog 29 #[.agg #[.int .i64 p.kind, .int .i64 p.tx, .int .i64 p.id, .int .i64 p.root, .int .i64 p.count, .slice ka p.ks.length kc, .slice ea p.es.length ec, .int .i64 p.next, .string p.data]] w fun e w' => ∃ v, e = .returned v ∧ w'.ownsRow w.heap.size 5 1 v 128 (u8s (sealO (headO p.kind c b))) ∧ Below w.heap.size w w') : Enc p ka kc ea ec w := by
  refine h.mono ?_
  rintro e w' ⟨v, rfl, ho, hbl⟩
  refine ⟨_, rfl, ?_, hbl⟩
  have e1 : oldCodeOf p = sealO (headO p.kind c b) := by
    rw [oldCodeOf, if_pos ⟨htx, hok⟩, hc, hb]
    rfl
  have hl := bodyB_len true hok
  rw [e1, seal_len (by simp [headO, hb]; omega)]
  exact ho

theorem cond_of {b : Bool} {α : Type} (x y : α) (h : b = true) : cond b x y = x := by rw [h]; rfl
theorem cond_not {b : Bool} {α : Type} (x y : α) (h : b = false) : cond b x y = y := by rw [h]; rfl

theorem encodeOld_any (p : Pg) (hf : PgFit p) (ka : Option Addr) (kc : Nat) (ea : Option Addr) (ec : Nat) (w : World) (A B : Nat) (hB : B ≤ w.heap.size) (hK : KidsAt w A B ka p.ks.length kc p.ks) (hE : EntsAt w A B ea p.es.length ec p.es) : Enc p ka kc ea ec w := by
  obtain ⟨kind, tx, id, root, count, ks, es, next, data⟩ := p
  have hfi := hf.id
  have hfr := hf.root
  have hfc := hf.count
  have hfn := hf.next
  have hfd := hf.data
  simp only at hK hE hfi hfr hfc hfn hfd
  by_cases h1 : kind = 1
  · subst h1
    have hbo : bodyOk 1 998 ⟨1, tx, id, root, count, ks, es, next, data⟩ = ((inB 1 2000000000 id && inB 1 998 root && inB 0 2000000000 count) && (decide (ks.length = 0) && decide (es.length = 0) && decide (next = 0) && data.toList.isEmpty)) := by
      simp only [bodyOk, if_pos, metaOk, Bool.and_assoc]
    have HB := fun W0 (hb : Below w.heap.size w W0) => bodyOf_meta tx id root count ka ks.length kc ks ea es.length ec es next data W0 A B (Nat.le_trans hB hb.size) (hK.below (hb.mono hB)) (hE.below (hb.mono hB))
    by_cases hc : (decide (ks.length = 0) && decide (es.length = 0) && decide (next = 0) && data.toList.isEmpty) = true
    · by_cases htx : tx = 0
      · by_cases hv : (inB 1 2000000000 id && inB 1 998 root && inB 0 2000000000 count) = true
        · refine enc_good htx (by rw [hbo, hv, hc]; rfl) 0 _ ?_ rfl (encOld_meta tx id root count hfi hfr hfc ka ks.length kc ks ea es.length ec es next data w A B hB hK hE hc htx hv)
          simp only [Bool.and_eq_true, decide_eq_true_eq] at hc
          simp [hc.1.1.1, hc.1.1.2]
        · have hv' : (inB 1 2000000000 id && inB 1 998 root && inB 0 2000000000 count) = false := by simpa using hv
          exact enc_nil (by rw [hbo, hv']; simp) (encBad_meta tx id root count ka ks.length kc ks ea es.length ec es next data w A B hB hK hE hc htx hv')
      · exact enc_nil (fun h => htx h.1) (encOld_tx 134 1 tx id root count htx ka ks.length kc ea es.length ec next data w (fun W0 hb => (HB W0 hb).mono fun e w' ⟨M, he, _, _, hb'⟩ => ⟨M, by rw [he, cond_of _ _ hc], hb'⟩))
    · have hc' : (decide (ks.length = 0) && decide (es.length = 0) && decide (next = 0) && data.toList.isEmpty) = false := by simpa using hc
      exact enc_nil (by rw [hbo, hc']; simp) (encOld_nil 1 tx id root count ka ks.length kc ea es.length ec next data w (fun W0 hb => (HB W0 hb).mono fun e w' ⟨M, he, _, _, hb'⟩ => ⟨by rw [he, cond_not _ _ hc'], hb'⟩))
  by_cases h2 : kind = 2
  · subst h2
    have hbo : bodyOk 1 998 ⟨2, tx, id, root, count, ks, es, next, data⟩ = ((decide (id = 0 ∧ root = 0 ∧ count = 0) && decide (es.length = 0) && decide (next = 0) && data.toList.isEmpty) && (decide (2 ≤ ks.length) && decide (ks.length ≤ 4) && (ks.getD 0 dK).1.toList.isEmpty && kidsOk 1 998 ks)) := by
      simp [bodyOk, branchOk, noMeta, Bool.and_assoc]
    have HB := fun W0 (hb : Below w.heap.size w W0) => bodyOf_branch tx id root count ka ks.length kc ks ea es.length ec es next data W0 A B (Nat.le_trans hB hb.size) (hK.below (hb.mono hB)) (hE.below (hb.mono hB))
    by_cases hc : (decide (id = 0 ∧ root = 0 ∧ count = 0) && decide (es.length = 0) && decide (next = 0) && data.toList.isEmpty) = true
    · by_cases htx : tx = 0
      · by_cases hv : (decide (2 ≤ ks.length) && decide (ks.length ≤ 4) && (ks.getD 0 dK).1.toList.isEmpty && kidsOk 1 998 ks) = true
        · have hok : bodyOk 1 998 ⟨2, tx, id, root, count, ks, es, next, data⟩ = true := by rw [hbo, hv, hc]; rfl
          have hsz := branch_sizes (low := 1) (last := 998) (p := ⟨2, tx, id, root, count, ks, es, next, data⟩) (by simpa [bodyOk] using hok)
          refine enc_good htx hok (ks.length : Int) _ ?_ rfl (encOld_branch tx id root count ka ks.length kc ks ea es.length ec es next data w A B hB hK hE hsz.1 hsz.2 hc htx hv)
          simp only [Bool.and_eq_true, decide_eq_true_eq] at hc
          simp [hc.1.1.2]
        · have hv' : (decide (2 ≤ ks.length) && decide (ks.length ≤ 4) && (ks.getD 0 dK).1.toList.isEmpty && kidsOk 1 998 ks) = false := by simpa using hv
          exact enc_nil (by rw [hbo, hv']; simp) (encBad_branch tx id root count ka ks.length kc ks ea es.length ec es next data w A B hB hK hE hc htx hv')
      · exact enc_nil (fun h => htx h.1) (encOld_tx 137 2 tx id root count htx ka ks.length kc ea es.length ec next data w (fun W0 hb => (HB W0 hb).mono fun e w' ⟨M, he, _, _, hb'⟩ => ⟨M, by rw [he, cond_of _ _ hc], hb'⟩))
    · have hc' : (decide (id = 0 ∧ root = 0 ∧ count = 0) && decide (es.length = 0) && decide (next = 0) && data.toList.isEmpty) = false := by simpa using hc
      exact enc_nil (by rw [hbo, hc']; simp) (encOld_nil 2 tx id root count ka ks.length kc ea es.length ec next data w (fun W0 hb => (HB W0 hb).mono fun e w' ⟨M, he, _, _, hb'⟩ => ⟨by rw [he, cond_not _ _ hc'], hb'⟩))
  by_cases h3 : kind = 3
  · subst h3
    have hbo : bodyOk 1 998 ⟨3, tx, id, root, count, ks, es, next, data⟩ = ((decide (id = 0 ∧ root = 0 ∧ count = 0) && decide (ks.length = 0) && decide (next = 0) && data.toList.isEmpty) && (decide (es.length ≤ 4) && entsOk 1 998 es)) := by
      simp [bodyOk, leafOk, noMeta, Bool.and_assoc]
    have HB := fun W0 (hb : Below w.heap.size w W0) => bodyOf_leaf tx id root count ka ks.length kc ks ea es.length ec es next data W0 A B (Nat.le_trans hB hb.size) (hK.below (hb.mono hB)) (hE.below (hb.mono hB))
    by_cases hc : (decide (id = 0 ∧ root = 0 ∧ count = 0) && decide (ks.length = 0) && decide (next = 0) && data.toList.isEmpty) = true
    · by_cases htx : tx = 0
      · by_cases hv : (decide (es.length ≤ 4) && entsOk 1 998 es) = true
        · have hok : bodyOk 1 998 ⟨3, tx, id, root, count, ks, es, next, data⟩ = true := by rw [hbo, hv, hc]; rfl
          have hsz := leaf_sizes (low := 1) (last := 998) (p := ⟨3, tx, id, root, count, ks, es, next, data⟩) (by simpa [bodyOk] using hok)
          refine enc_good htx hok (es.length : Int) _ ?_ rfl (encOld_leaf tx id root count ka ks.length kc ks ea es.length ec es next data w A B hB hK hE hsz.1 hsz.2 hc htx hv)
          simp only [Bool.and_eq_true, decide_eq_true_eq] at hc
          simp [hc.1.1.2]
        · have hv' : (decide (es.length ≤ 4) && entsOk 1 998 es) = false := by simpa using hv
          exact enc_nil (by rw [hbo, hv']; simp) (encBad_leaf tx id root count ka ks.length kc ks ea es.length ec es next data w A B hB hK hE hc htx hv')
      · exact enc_nil (fun h => htx h.1) (encOld_tx 140 3 tx id root count htx ka ks.length kc ea es.length ec next data w (fun W0 hb => (HB W0 hb).mono fun e w' ⟨M, he, _, _, hb'⟩ => ⟨M, by rw [he, cond_of _ _ hc], hb'⟩))
    · have hc' : (decide (id = 0 ∧ root = 0 ∧ count = 0) && decide (ks.length = 0) && decide (next = 0) && data.toList.isEmpty) = false := by simpa using hc
      exact enc_nil (by rw [hbo, hc']; simp) (encOld_nil 3 tx id root count ka ks.length kc ea es.length ec next data w (fun W0 hb => (HB W0 hb).mono fun e w' ⟨M, he, _, _, hb'⟩ => ⟨by rw [he, cond_not _ _ hc'], hb'⟩))
  by_cases h4 : kind = 4
  · subst h4
    have hbo : bodyOk 1 998 ⟨4, tx, id, root, count, ks, es, next, data⟩ = ((decide (id = 0 ∧ root = 0 ∧ count = 0) && decide (ks.length = 0) && decide (es.length = 0)) && (decide (1 ≤ data.size) && decide (data.size ≤ 96) && (decide (next = 0) || (inB 1 998 next && decide (data.size = 96))))) := by
      simp [bodyOk, overOk, noMeta, Bool.and_assoc]
    have HB := fun W0 (hb : Below w.heap.size w W0) => bodyOf_over tx id root count ka ks.length kc ks ea es.length ec es next data W0 A B (Nat.le_trans hB hb.size) (hK.below (hb.mono hB)) (hE.below (hb.mono hB))
    by_cases hc : (decide (id = 0 ∧ root = 0 ∧ count = 0) && decide (ks.length = 0) && decide (es.length = 0)) = true
    · by_cases htx : tx = 0
      · by_cases hv : (decide (1 ≤ data.size) && decide (data.size ≤ 96) && (decide (next = 0) || (inB 1 998 next && decide (data.size = 96)))) = true
        · have hok : bodyOk 1 998 ⟨4, tx, id, root, count, ks, es, next, data⟩ = true := by rw [hbo, hv, hc]; rfl
          have hsz := over_size (low := 1) (last := 998) (p := ⟨4, tx, id, root, count, ks, es, next, data⟩) (by simpa [bodyOk] using hok)
          refine enc_good htx hok 0 _ ?_ rfl (encOld_over tx id root count ka ks.length kc ks ea es.length ec es next data w A B hB hK hE hfn hsz hc htx hv)
          simp only [Bool.and_eq_true, decide_eq_true_eq] at hc
          simp [hc.1.2, hc.2]
        · have hv' : (decide (1 ≤ data.size) && decide (data.size ≤ 96) && (decide (next = 0) || (inB 1 998 next && decide (data.size = 96)))) = false := by simpa using hv
          exact enc_nil (by rw [hbo, hv']; simp) (encBad_over tx id root count ka ks.length kc ks ea es.length ec es next data w A B hB hK hE hfd hc htx hv')
      · exact enc_nil (fun h => htx h.1) (encOld_tx 143 4 tx id root count htx ka ks.length kc ea es.length ec next data w (fun W0 hb => (HB W0 hb).mono fun e w' ⟨M, he, _, _, hb'⟩ => ⟨M, by rw [he, cond_of _ _ hc], hb'⟩))
    · have hc' : (decide (id = 0 ∧ root = 0 ∧ count = 0) && decide (ks.length = 0) && decide (es.length = 0)) = false := by simpa using hc
      exact enc_nil (by rw [hbo, hc']; simp) (encOld_nil 4 tx id root count ka ks.length kc ea es.length ec next data w (fun W0 hb => (HB W0 hb).mono fun e w' ⟨M, he, _, _, hb'⟩ => ⟨by rw [he, cond_not _ _ hc'], hb'⟩))
  · exact enc_nil (by simp [bodyOk, h1, h2, h3, h4]) (encOld_nil kind tx id root count ka ks.length kc ea es.length ec next data w (fun W0 hb => bodyOf_nil kind tx id root count h1 h2 h3 h4 ka ks.length kc ea es.length ec next data W0))
end Old
end Go.Proofs.Ytcmhobbpeaeebaa
