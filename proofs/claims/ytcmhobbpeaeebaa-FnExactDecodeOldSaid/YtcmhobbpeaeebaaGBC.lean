import Derived.Test.YtcmhobbpeaeebaaGAB
import Derived.Test.YtcmhobbpeaeebaaGAU
import Derived.Test.YtcmhobbpeaeebaaGAO
import Derived.Test.YtcmhobbpeaeebaaGAW
import Derived.Test.YtcmhobbpeaeebaaEnOm
import Derived.Test.YtcmhobbpeaeebaaEnOb
import Derived.Test.YtcmhobbpeaeebaaEnOl
import Derived.Test.YtcmhobbpeaeebaaEnOo
import Derived.Test.YtcmhobbpeaeebaaEnB
namespace Go.Proofs.Ytcmhobbpeaeebaa
namespace Old
open Go.RowKit
set_option linter.unusedVariables false
set_option maxRecDepth 100000

set_option maxHeartbeats 1600000 in
theorem bodyOf_nil (kind tx id root count : Int) (hk1 : kind ≠ 1) (hk2 : kind ≠ 2) (hk3 : kind ≠ 3) (hk4 : kind ≠ 4) (ka : Option Addr) (n kc : Nat) (ea : Option Addr) (m ec : Nat) (next : Int) (data : ByteArray) (w : World) :
    Calls Try.prog 59 #[.agg #[.int .i64 kind, .int .i64 tx, .int .i64 id, .int .i64 root, .int .i64 count, .slice ka n kc, .slice ea m ec, .int .i64 next, .string data]] w fun e w' => e = .returned .nilIface ∧ Below w.heap.size w w' := by
  have hb0 : Below w.heap.size w (w.alloc (.cells #[.int .i64 kind, .int .i64 tx, .int .i64 id, .int .i64 root, .int .i64 count, .slice ka n kc, .slice ea m ec, .int .i64 next, .string data] 28)) := (Below.refl _ _).alloc (Nat.le_refl _) _
  go_enter Try.func59, Try.ntmps59
  go_wp2_with fail
  generalize w.alloc (.cells #[.int .i64 kind, .int .i64 tx, .int .i64 id, .int .i64 root, .int .i64 count, .slice ka n kc, .slice ea m ec, .int .i64 next, .string data] 28) = W0 at hb0 ⊢
  refine (kindBody_nil kind tx id root count hk1 hk2 hk3 hk4 ka n kc ea m ec next data W0).mono ?_
  rintro e w1 ⟨rfl, hb1⟩
  have hb2 := hb0.trans (hb1.mono hb0.size)
  clear hb0 hb1
  go_wp2
  go_ret
  exact ⟨rfl, hb2⟩
set_option maxHeartbeats 1600000 in
theorem encOld_nil (kind tx id root count : Int) (ka : Option Addr) (n kc : Nat) (ea : Option Addr) (m ec : Nat) (next : Int) (data : ByteArray) (w : World)
    (H : ∀ W0 : World, Below w.heap.size w W0 → Calls Try.prog 59 #[.agg #[.int .i64 kind, .int .i64 tx, .int .i64 id, .int .i64 root, .int .i64 count, .slice ka n kc, .slice ea m ec, .int .i64 next, .string data]] W0 fun e w' => e = .returned .nilIface ∧ Below W0.heap.size W0 w') :
    Calls Try.prog 29 #[.agg #[.int .i64 kind, .int .i64 tx, .int .i64 id, .int .i64 root, .int .i64 count, .slice ka n kc, .slice ea m ec, .int .i64 next, .string data]] w fun e w' => e = .returned (.slice none 0 0) ∧ Below w.heap.size w w' := by
  have hb0 : Below w.heap.size w (w.alloc (.cells #[.int .i64 kind, .int .i64 tx, .int .i64 id, .int .i64 root, .int .i64 count, .slice ka n kc, .slice ea m ec, .int .i64 next, .string data] 28)) := (Below.refl _ _).alloc (Nat.le_refl _) _
  go_enter Try.func29, Try.ntmps29
  go_wp2_with fail
  generalize w.alloc (.cells #[.int .i64 kind, .int .i64 tx, .int .i64 id, .int .i64 root, .int .i64 count, .slice ka n kc, .slice ea m ec, .int .i64 next, .string data] 28) = W0 at hb0 ⊢
  refine (H W0 hb0).mono ?_
  rintro e w1 ⟨rfl, hb1⟩
  have hb2 := hb0.trans (hb1.mono hb0.size)
  have hbq : ∀ q, Below w.heap.size w (w1.drewN q) := fun q => hb2.trans ⟨rfl, rfl, rfl, Nat.le_refl _, fun _ _ => rfl⟩
  clear hb0 hb1 H
  go_wp2_with fail
  go_quiet (fail)
  go_wp2
  go_ret
  exact ⟨rfl, hbq _⟩
set_option maxHeartbeats 1600000 in
theorem encOld_tx (T : TypeId) (kind tx id root count : Int) (htx : tx ≠ 0) (ka : Option Addr) (n kc : Nat) (ea : Option Addr) (m ec : Nat) (next : Int) (data : ByteArray) (w : World)
    (H : ∀ W0 : World, Below w.heap.size w W0 → Calls Try.prog 59 #[.agg #[.int .i64 kind, .int .i64 tx, .int .i64 id, .int .i64 root, .int .i64 count, .slice ka n kc, .slice ea m ec, .int .i64 next, .string data]] W0 fun e w' => ∃ M, e = .returned (.iface T (.pointer (some ⟨M, 0, none⟩))) ∧ Below W0.heap.size W0 w') :
    Calls Try.prog 29 #[.agg #[.int .i64 kind, .int .i64 tx, .int .i64 id, .int .i64 root, .int .i64 count, .slice ka n kc, .slice ea m ec, .int .i64 next, .string data]] w fun e w' => e = .returned (.slice none 0 0) ∧ Below w.heap.size w w' := by
  have hb0 : Below w.heap.size w (w.alloc (.cells #[.int .i64 kind, .int .i64 tx, .int .i64 id, .int .i64 root, .int .i64 count, .slice ka n kc, .slice ea m ec, .int .i64 next, .string data] 28)) := (Below.refl _ _).alloc (Nat.le_refl _) _
  have HX0 : (w.alloc (.cells #[.int .i64 kind, .int .i64 tx, .int .i64 id, .int .i64 root, .int .i64 count, .slice ka n kc, .slice ea m ec, .int .i64 next, .string data] 28)).heap[w.heap.size]? = _ := heap_alloc_new w _
  have st : (tx != 0) = true := by simpa using htx
  clear htx
  go_enter Try.func29, Try.ntmps29
  go_wp2_with fail
  generalize w.alloc (.cells #[.int .i64 kind, .int .i64 tx, .int .i64 id, .int .i64 root, .int .i64 count, .slice ka n kc, .slice ea m ec, .int .i64 next, .string data] 28) = W0 at hb0 HX0 ⊢
  refine (H W0 hb0).mono ?_
  rintro e w1 ⟨M, rfl, hb1⟩
  have hb2 := hb0.trans (hb1.mono hb0.size)
  have HX1 := eb_call HX0 hb1
  obtain ⟨c5, c6, c0, c2, c3, c4, c7, c8, c1⟩ := box_slice HX1
  have hbq : ∀ q, Below w.heap.size w (w1.drewN q) := fun q => hb2.trans ⟨rfl, rfl, rfl, Nat.le_refl _, fun _ _ => rfl⟩
  clear hb0 hb1 H HX0 HX1
  go_wp2_with fail
  go_quiet (fail)
  go_wp2
  go_ret
  exact ⟨rfl, hbq _⟩
end Old
end Go.Proofs.Ytcmhobbpeaeebaa
namespace Go.Proofs.Ytcmhobbpeaeebaa
namespace Old
open Go.RowKit
set_option linter.unusedVariables false
set_option maxRecDepth 100000

def Enc (p : Pg) (ka : Option Addr) (kc : Nat) (ea : Option Addr) (ec : Nat) (w : World) : Prop :=
  Calls Try.prog 29 #[.agg #[.int .i64 p.kind, .int .i64 p.tx, .int .i64 p.id, .int .i64 p.root, .int .i64 p.count, .slice ka p.ks.length kc, .slice ea p.es.length ec, .int .i64 p.next, .string p.data]] w fun e w' => ∃ v, e = .returned v ∧ w'.ownsRow w.heap.size 5 1 v (oldCodeOf p).length (u8s (oldCodeOf p)) ∧ Below w.heap.size w w'
theorem enc_nil {p : Pg} {ka : Option Addr} {kc : Nat} {ea : Option Addr} {ec : Nat} {w : World} (h0 : ¬ (p.tx = 0 ∧ bodyOk 1 998 p = true))
    (h : Calls Try.prog 29 #[.agg #[.int .i64 p.kind, .int .i64 p.tx, .int .i64 p.id, .int .i64 p.root, .int .i64 p.count, .slice ka p.ks.length kc, .slice ea p.es.length ec, .int .i64 p.next, .string p.data]] w fun e w' => e = .returned (.slice none 0 0) ∧ Below w.heap.size w w') : Enc p ka kc ea ec w := by
  refine h.mono ?_
  rintro e w' ⟨rfl, hb⟩
  refine ⟨_, rfl, ?_, hb⟩
  rw [oldCodeOf, if_neg h0]
  exact World.ownsRow_nil _ _ _ _
theorem seal_len {l : List Int} (h : l.length ≤ 127) : (sealO l).length = 128 := by simp [sealO, padB]; omega
theorem enc_good {p : Pg} {ka : Option Addr} {kc : Nat} {ea : Option Addr} {ec : Nat} {w : World} (htx : p.tx = 0) (hok : bodyOk 1 998 p = true) (c : Int) (b : List Int) (hc : c = ((p.ks.length + p.es.length : Nat) : Int)) (hb : b = bodyB true p)
    (h : Calls Try.prog 29 #[.agg #[.int .i64 p.kind, .int .i64 p.tx, .int .i64 p.id, .int .i64 p.root, .int .i64 p.count, .slice ka p.ks.length kc, .slice ea p.es.length ec, .int .i64 p.next, .string p.data]] w fun e w' => ∃ v, e = .returned v ∧ w'.ownsRow w.heap.size 5 1 v 128 (u8s (sealO (headO p.kind c b))) ∧ Below w.heap.size w w') : Enc p ka kc ea ec w := by
  refine h.mono ?_
  rintro e w' ⟨v, rfl, ho, hbl⟩
  refine ⟨_, rfl, ?_, hbl⟩
  have e1 : oldCodeOf p = sealO (headO p.kind c b) := by
    rw [oldCodeOf, if_pos ⟨htx, hok⟩, hc, hb]
    rfl
  have hl := bodyB_len true hok
  rw [e1, seal_len (by simp [headO, hb]; omega)]
  exact ho

theorem cond_of {b : Bool} {α : Type} (x y : α) (h : b = true) : cond b x y = x := by rw [h]; rfl
theorem cond_not {b : Bool} {α : Type} (x y : α) (h : b = false) : cond b x y = y := by rw [h]; rfl

theorem encodeOld_any (p : Pg) (hf : PgFit p) (ka : Option Addr) (kc : Nat) (ea : Option Addr) (ec : Nat) (w : World) (A B : Nat) (hB : B ≤ w.heap.size) (hK : KidsAt w A B ka p.ks.length kc p.ks) (hE : EntsAt w A B ea p.es.length ec p.es) : Enc p ka kc ea ec w := by
  obtain ⟨kind, tx, id, root, count, ks, es, next, data⟩ := p
  have hfi := hf.id
  have hfr := hf.root
  have hfc := hf.count
  have hfn := hf.next
  have hfd := hf.data
  simp only at hK hE hfi hfr hfc hfn hfd
  by_cases h1 : kind = 1
  · subst h1
    have hbo : bodyOk 1 998 ⟨1, tx, id, root, count, ks, es, next, data⟩ = ((inB 1 2000000000 id && inB 1 998 root && inB 0 2000000000 count) && (decide (ks.length = 0) && decide (es.length = 0) && decide (next = 0) && data.toList.isEmpty)) := by
      simp only [bodyOk, if_pos, metaOk, Bool.and_assoc]
    have HB := fun W0 (hb : Below w.heap.size w W0) => bodyOf_meta tx id root count ka ks.length kc ks ea es.length ec es next data W0 A B (Nat.le_trans hB hb.size) (hK.below (hb.mono hB)) (hE.below (hb.mono hB))
    by_cases hc : (decide (ks.length = 0) && decide (es.length = 0) && decide (next = 0) && data.toList.isEmpty) = true
    · by_cases htx : tx = 0
      · by_cases hv : (inB 1 2000000000 id && inB 1 998 root && inB 0 2000000000 count) = true
        · refine enc_good htx (by rw [hbo, hv, hc]; rfl) 0 _ ?_ rfl (encOld_meta tx id root count hfi hfr hfc ka ks.length kc ks ea es.length ec es next data w A B hB hK hE hc htx hv)
          simp only [Bool.and_eq_true, decide_eq_true_eq] at hc
          simp [hc.1.1.1, hc.1.1.2]
        · have hv' : (inB 1 2000000000 id && inB 1 998 root && inB 0 2000000000 count) = false := by simpa using hv
          exact enc_nil (by rw [hbo, hv']; simp) (encBad_meta tx id root count ka ks.length kc ks ea es.length ec es next data w A B hB hK hE hc htx hv')
      · exact enc_nil (fun h => htx h.1) (encOld_tx 134 1 tx id root count htx ka ks.length kc ea es.length ec next data w (fun W0 hb => (HB W0 hb).mono fun e w' ⟨M, he, _, _, hb'⟩ => ⟨M, by rw [he, cond_of _ _ hc], hb'⟩))
    · have hc' : (decide (ks.length = 0) && decide (es.length = 0) && decide (next = 0) && data.toList.isEmpty) = false := by simpa using hc
      exact enc_nil (by rw [hbo, hc']; simp) (encOld_nil 1 tx id root count ka ks.length kc ea es.length ec next data w (fun W0 hb => (HB W0 hb).mono fun e w' ⟨M, he, _, _, hb'⟩ => ⟨by rw [he, cond_not _ _ hc'], hb'⟩))
  by_cases h2 : kind = 2
  · subst h2
    have hbo : bodyOk 1 998 ⟨2, tx, id, root, count, ks, es, next, data⟩ = ((decide (id = 0 ∧ root = 0 ∧ count = 0) && decide (es.length = 0) && decide (next = 0) && data.toList.isEmpty) && (decide (2 ≤ ks.length) && decide (ks.length ≤ 4) && (ks.getD 0 dK).1.toList.isEmpty && kidsOk 1 998 ks)) := by
      simp [bodyOk, branchOk, noMeta, Bool.and_assoc]
    have HB := fun W0 (hb : Below w.heap.size w W0) => bodyOf_branch tx id root count ka ks.length kc ks ea es.length ec es next data W0 A B (Nat.le_trans hB hb.size) (hK.below (hb.mono hB)) (hE.below (hb.mono hB))
    by_cases hc : (decide (id = 0 ∧ root = 0 ∧ count = 0) && decide (es.length = 0) && decide (next = 0) && data.toList.isEmpty) = true
    · by_cases htx : tx = 0
      · by_cases hv : (decide (2 ≤ ks.length) && decide (ks.length ≤ 4) && (ks.getD 0 dK).1.toList.isEmpty && kidsOk 1 998 ks) = true
        · have hok : bodyOk 1 998 ⟨2, tx, id, root, count, ks, es, next, data⟩ = true := by rw [hbo, hv, hc]; rfl
          have hsz := branch_sizes (low := 1) (last := 998) (p := ⟨2, tx, id, root, count, ks, es, next, data⟩) (by simpa [bodyOk] using hok)
          refine enc_good htx hok (ks.length : Int) _ ?_ rfl (encOld_branch tx id root count ka ks.length kc ks ea es.length ec es next data w A B hB hK hE hsz.1 hsz.2 hc htx hv)
          simp only [Bool.and_eq_true, decide_eq_true_eq] at hc
          simp [hc.1.1.2]
        · have hv' : (decide (2 ≤ ks.length) && decide (ks.length ≤ 4) && (ks.getD 0 dK).1.toList.isEmpty && kidsOk 1 998 ks) = false := by simpa using hv
          exact enc_nil (by rw [hbo, hv']; simp) (encBad_branch tx id root count ka ks.length kc ks ea es.length ec es next data w A B hB hK hE hc htx hv')
      · exact enc_nil (fun h => htx h.1) (encOld_tx 137 2 tx id root count htx ka ks.length kc ea es.length ec next data w (fun W0 hb => (HB W0 hb).mono fun e w' ⟨M, he, _, _, hb'⟩ => ⟨M, by rw [he, cond_of _ _ hc], hb'⟩))
    · have hc' : (decide (id = 0 ∧ root = 0 ∧ count = 0) && decide (es.length = 0) && decide (next = 0) && data.toList.isEmpty) = false := by simpa using hc
      exact enc_nil (by rw [hbo, hc']; simp) (encOld_nil 2 tx id root count ka ks.length kc ea es.length ec next data w (fun W0 hb => (HB W0 hb).mono fun e w' ⟨M, he, _, _, hb'⟩ => ⟨by rw [he, cond_not _ _ hc'], hb'⟩))
  by_cases h3 : kind = 3
  · subst h3
    have hbo : bodyOk 1 998 ⟨3, tx, id, root, count, ks, es, next, data⟩ = ((decide (id = 0 ∧ root = 0 ∧ count = 0) && decide (ks.length = 0) && decide (next = 0) && data.toList.isEmpty) && (decide (es.length ≤ 4) && entsOk 1 998 es)) := by
      simp [bodyOk, leafOk, noMeta, Bool.and_assoc]
    have HB := fun W0 (hb : Below w.heap.size w W0) => bodyOf_leaf tx id root count ka ks.length kc ks ea es.length ec es next data W0 A B (Nat.le_trans hB hb.size) (hK.below (hb.mono hB)) (hE.below (hb.mono hB))
    by_cases hc : (decide (id = 0 ∧ root = 0 ∧ count = 0) && decide (ks.length = 0) && decide (next = 0) && data.toList.isEmpty) = true
    · by_cases htx : tx = 0
      · by_cases hv : (decide (es.length ≤ 4) && entsOk 1 998 es) = true
        · have hok : bodyOk 1 998 ⟨3, tx, id, root, count, ks, es, next, data⟩ = true := by rw [hbo, hv, hc]; rfl
          have hsz := leaf_sizes (low := 1) (last := 998) (p := ⟨3, tx, id, root, count, ks, es, next, data⟩) (by simpa [bodyOk] using hok)
          refine enc_good htx hok (es.length : Int) _ ?_ rfl (encOld_leaf tx id root count ka ks.length kc ks ea es.length ec es next data w A B hB hK hE hsz.1 hsz.2 hc htx hv)
          simp only [Bool.and_eq_true, decide_eq_true_eq] at hc
          simp [hc.1.1.2]
        · have hv' : (decide (es.length ≤ 4) && entsOk 1 998 es) = false := by simpa using hv
          exact enc_nil (by rw [hbo, hv']; simp) (encBad_leaf tx id root count ka ks.length kc ks ea es.length ec es next data w A B hB hK hE hc htx hv')
      · exact enc_nil (fun h => htx h.1) (encOld_tx 140 3 tx id root count htx ka ks.length kc ea es.length ec next data w (fun W0 hb => (HB W0 hb).mono fun e w' ⟨M, he, _, _, hb'⟩ => ⟨M, by rw [he, cond_of _ _ hc], hb'⟩))
    · have hc' : (decide (id = 0 ∧ root = 0 ∧ count = 0) && decide (ks.length = 0) && decide (next = 0) && data.toList.isEmpty) = false := by simpa using hc
      exact enc_nil (by rw [hbo, hc']; simp) (encOld_nil 3 tx id root count ka ks.length kc ea es.length ec next data w (fun W0 hb => (HB W0 hb).mono fun e w' ⟨M, he, _, _, hb'⟩ => ⟨by rw [he, cond_not _ _ hc'], hb'⟩))
  by_cases h4 : kind = 4
  · subst h4
    have hbo : bodyOk 1 998 ⟨4, tx, id, root, count, ks, es, next, data⟩ = ((decide (id = 0 ∧ root = 0 ∧ count = 0) && decide (ks.length = 0) && decide (es.length = 0)) && (decide (1 ≤ data.size) && decide (data.size ≤ 96) && (decide (next = 0) || (inB 1 998 next && decide (data.size = 96))))) := by
      simp [bodyOk, overOk, noMeta, Bool.and_assoc]
    have HB := fun W0 (hb : Below w.heap.size w W0) => bodyOf_over tx id root count ka ks.length kc ks ea es.length ec es next data W0 A B (Nat.le_trans hB hb.size) (hK.below (hb.mono hB)) (hE.below (hb.mono hB))
    by_cases hc : (decide (id = 0 ∧ root = 0 ∧ count = 0) && decide (ks.length = 0) && decide (es.length = 0)) = true
    · by_cases htx : tx = 0
      · by_cases hv : (decide (1 ≤ data.size) && decide (data.size ≤ 96) && (decide (next = 0) || (inB 1 998 next && decide (data.size = 96)))) = true
        · have hok : bodyOk 1 998 ⟨4, tx, id, root, count, ks, es, next, data⟩ = true := by rw [hbo, hv, hc]; rfl
          have hsz := over_size (low := 1) (last := 998) (p := ⟨4, tx, id, root, count, ks, es, next, data⟩) (by simpa [bodyOk] using hok)
          refine enc_good htx hok 0 _ ?_ rfl (encOld_over tx id root count ka ks.length kc ks ea es.length ec es next data w A B hB hK hE hfn hsz hc htx hv)
          simp only [Bool.and_eq_true, decide_eq_true_eq] at hc
          simp [hc.1.2, hc.2]
        · have hv' : (decide (1 ≤ data.size) && decide (data.size ≤ 96) && (decide (next = 0) || (inB 1 998 next && decide (data.size = 96)))) = false := by simpa using hv
          exact enc_nil (by rw [hbo, hv']; simp) (encBad_over tx id root count ka ks.length kc ks ea es.length ec es next data w A B hB hK hE hfd hc htx hv')
      · exact enc_nil (fun h => htx h.1) (encOld_tx 143 4 tx id root count htx ka ks.length kc ea es.length ec next data w (fun W0 hb => (HB W0 hb).mono fun e w' ⟨M, he, _, _, hb'⟩ => ⟨M, by rw [he, cond_of _ _ hc], hb'⟩))
    · have hc' : (decide (id = 0 ∧ root = 0 ∧ count = 0) && decide (ks.length = 0) && decide (es.length = 0)) = false := by simpa using hc
      exact enc_nil (by rw [hbo, hc']; simp) (encOld_nil 4 tx id root count ka ks.length kc ea es.length ec next data w (fun W0 hb => (HB W0 hb).mono fun e w' ⟨M, he, _, _, hb'⟩ => ⟨by rw [he, cond_not _ _ hc'], hb'⟩))
  · exact enc_nil (by simp [bodyOk, h1, h2, h3, h4]) (encOld_nil kind tx id root count ka ks.length kc ea es.length ec next data w (fun W0 hb => bodyOf_nil kind tx id root count h1 h2 h3 h4 ka ks.length kc ea es.length ec next data W0))
end Old
end Go.Proofs.Ytcmhobbpeaeebaa
namespace Go.Proofs.Ytcmhobbpeaeebaa
open Go.RowKit
set_option linter.unusedVariables false
set_option maxRecDepth 100000

theorem code_len (p : Pg) : (oldCodeOf p).length ≤ 128 := by
  unfold oldCodeOf
  split
  · rename_i h
    have := bodyB_len true h.2
    simp [oldCode, padB]
    omega
  · simp
theorem code_byte (p : Pg) : ∀ x ∈ oldCodeOf p, 0 ≤ x ∧ x ≤ 255 := by
  unfold oldCodeOf
  split
  · rename_i h
    have hk := body_kind h.2
    have hc := body_count h.2
    have hb : ∀ x ∈ [79, p.kind, ((p.ks.length + p.es.length : Nat) : Int)] ++ bodyB true p, 0 ≤ x ∧ x ≤ 255 := bytes_app (by intro x hx; simp at hx; omega) (bodyB_byte true h.2)
    exact bytes_app (Old.padB_byte hb) (by intro x hx; simp at hx; omega)
  · intro x hx; cases hx

end Go.Proofs.Ytcmhobbpeaeebaa
namespace Go.Proofs.Ytcmhobbpeaeebaa
namespace Old
open Go.RowKit
set_option linter.unusedVariables false
set_option maxRecDepth 100000

theorem toB_inj {a b : List Int} (ha : ∀ x ∈ a, 0 ≤ x ∧ x ≤ 255) (hb : ∀ x ∈ b, 0 ≤ x ∧ x ≤ 255) : toB a = toB b ↔ a = b := by
  constructor
  · intro h
    have := congrArg strB h
    rwa [strB_toB ha, strB_toB hb] at this
  · rintro rfl; rfl
theorem bytesEqual_any (a b : Option Addr) (n m c d : Nat) (x y : List Int) (w : World) (A B A2 B2 : Nat) (hx : BytesAt w A B a n c x) (hy : BytesAt w A2 B2 b m d y) :
    Calls Try.prog 82 #[.slice a n c, .slice b m d] w fun e w' => e = .returned (.bool (decide (x = y))) ∧ Below w.heap.size w w' := by
  have h1 := str_conv hx
  have h2 := str_conv hy
  have hd : ((toB x).toList == (toB y).toList) = decide (x = y) := by
    have h3 := toB_inj hx.2.2.2.1 hy.2.2.2.1
    have h4 : ((toB x).toList == (toB y).toList) = decide (toB x = toB y) := by
      rw [ByteArray.toList_eq, ByteArray.toList_eq, Bool.eq_iff_iff]
      simp only [beq_iff_eq, decide_eq_true_eq]
      constructor
      · intro h; exact ByteArray.ext (Array.ext' h)
      · intro h; rw [h]
    rw [h4]
    simp [h3]
  go_enter Try.func82, Try.ntmps82
  go_wp2
  go_ret
  exact ⟨by rw [← hd]; rfl, Below.refl _ _⟩
/-- What decoding answers: the page where b is its code, else the zero value. -/
def resVal (ok : Bool) (p : Pg) (vk ve : Value) : Value :=
  if ok then .agg #[.bool true, .int .i64 p.kind, .int .i64 p.tx, .int .i64 p.id, .int .i64 p.root, .int .i64 p.count, vk, ve, .int .i64 p.next, .string p.data]
  else .agg #[.bool false, .int .i64 0, .int .i64 0, .int .i64 0, .int .i64 0, .int .i64 0, .slice none 0 0, .slice none 0 0, .int .i64 0, .string ⟨#[]⟩]
def put10 (w : World) (N : Nat) (u0 u1 u2 u3 u4 u5 u6 u7 u8 u9 : Value) : World :=
  (((((((((w.setCell ⟨N, 0, none⟩ u0).setCell ⟨N, 1, none⟩ u1).setCell ⟨N, 2, none⟩ u2).setCell ⟨N, 3, none⟩ u3).setCell ⟨N, 4, none⟩ u4).setCell ⟨N, 5, none⟩ u5).setCell ⟨N, 6, none⟩ u6).setCell ⟨N, 7, none⟩ u7).setCell ⟨N, 8, none⟩ u8).setCell ⟨N, 9, none⟩ u9
theorem put10_box {w : World} {N t : Nat} {v0 v1 v2 v3 v4 v5 v6 v7 v8 v9 : Value} (h : w.heap[N]? = some (.cells #[v0, v1, v2, v3, v4, v5, v6, v7, v8, v9] t)) (u0 u1 u2 u3 u4 u5 u6 u7 u8 u9 : Value) : (put10 w N u0 u1 u2 u3 u4 u5 u6 u7 u8 u9).heap[N]? = some (.cells #[u0, u1, u2, u3, u4, u5, u6, u7, u8, u9] t) := by
  simp [put10, World.setCell, Array.getElem?_modify, h]
theorem setq_fr (w : World) (N i : Nat) (u : Value) : Fr (fun x => x = N) w (w.setCell ⟨N, i, none⟩ u) := ⟨rfl, rfl, rfl, by simp [World.setCell], fun k _ hk => Below.heap_setCell w ⟨N, i, none⟩ u k hk⟩
theorem put10_fr (w : World) (N : Nat) (u0 u1 u2 u3 u4 u5 u6 u7 u8 u9 : Value) : Fr (fun x => x = N) w (put10 w N u0 u1 u2 u3 u4 u5 u6 u7 u8 u9) :=
  (((((((((setq_fr _ _ _ _).trans (setq_fr _ _ _ _)).trans (setq_fr _ _ _ _)).trans (setq_fr _ _ _ _)).trans (setq_fr _ _ _ _)).trans (setq_fr _ _ _ _)).trans (setq_fr _ _ _ _)).trans (setq_fr _ _ _ _)).trans (setq_fr _ _ _ _)).trans (setq_fr _ _ _ _)
theorem box_ten {w : World} {N : Nat} {v0 v1 v2 v3 v4 v5 v6 v7 v8 v9 : Value} {t : TypeId} (h : w.heap[N]? = some (.cells #[v0, v1, v2, v3, v4, v5, v6, v7, v8, v9] t)) : w.cell? ⟨N, 0, none⟩ = some v0 ∧ w.cell? ⟨N, 1, none⟩ = some v1 ∧ w.cell? ⟨N, 2, none⟩ = some v2 ∧ w.cell? ⟨N, 3, none⟩ = some v3 ∧ w.cell? ⟨N, 4, none⟩ = some v4 ∧ w.cell? ⟨N, 5, none⟩ = some v5 ∧ w.cell? ⟨N, 6, none⟩ = some v6 ∧ w.cell? ⟨N, 7, none⟩ = some v7 ∧ w.cell? ⟨N, 8, none⟩ = some v8 ∧ w.cell? ⟨N, 9, none⟩ = some v9 := by
  simp [World.cell?, h]
theorem box_frozenq {w : World} {M t : Nat} {cs : Array Value} (h : w.heap[M]? = some (.cells cs t)) (j : Nat) : w.frozen? ⟨M, j, none⟩ = false := by simp [World.frozen?, h]
set_option maxHeartbeats 1600000 in
theorem coded_any (p : Pg) (hf : PgFit p) (ka : Option Addr) (kc : Nat) (ea : Option Addr) (ec : Nat) (ba : Option Addr) (bc : Nat) (bs : List Int) (w : World) (A B A2 B2 : Nat) (hB : B ≤ w.heap.size) (hB2 : B2 ≤ w.heap.size) (hK : KidsAt w A B ka p.ks.length kc p.ks) (hE : EntsAt w A B ea p.es.length ec p.es) (hb : BytesAt w A2 B2 ba 128 bc bs) :
    Calls Try.prog 48 #[.agg #[.int .i64 p.kind, .int .i64 p.tx, .int .i64 p.id, .int .i64 p.root, .int .i64 p.count, .slice ka p.ks.length kc, .slice ea p.es.length ec, .int .i64 p.next, .string p.data], .func (.func 29) #[] #[], .slice ba 128 bc] w fun e w' => e = .returned (resVal (decide (oldCodeOf p = bs)) p (.slice ka p.ks.length kc) (.slice ea p.es.length ec)) ∧ Below w.heap.size w w' := by
  go_enter Try.func48, Try.ntmps48
  go_wp2_with fail
  have hbw0 : Below w.heap.size w ((w.alloc (.cells #[.int .i64 p.kind, .int .i64 p.tx, .int .i64 p.id, .int .i64 p.root, .int .i64 p.count, .slice ka p.ks.length kc, .slice ea p.es.length ec, .int .i64 p.next, .string p.data] 28)).alloc (.cells #[.bool false, .int .i64 0, .int .i64 0, .int .i64 0, .int .i64 0, .int .i64 0, .slice none 0 0, .slice none 0 0, .int .i64 0, .string ⟨#[]⟩] 32)) := ((Below.refl _ _).alloc (Nat.le_refl _) _).alloc (by simp) _
  have HR0 := heap_alloc_new (w.alloc (.cells #[.int .i64 p.kind, .int .i64 p.tx, .int .i64 p.id, .int .i64 p.root, .int .i64 p.count, .slice ka p.ks.length kc, .slice ea p.es.length ec, .int .i64 p.next, .string p.data] 28)) (.cells #[.bool false, .int .i64 0, .int .i64 0, .int .i64 0, .int .i64 0, .int .i64 0, .slice none 0 0, .slice none 0 0, .int .i64 0, .string ⟨#[]⟩] 32)
  have hsz : (w.alloc (.cells #[.int .i64 p.kind, .int .i64 p.tx, .int .i64 p.id, .int .i64 p.root, .int .i64 p.count, .slice ka p.ks.length kc, .slice ea p.es.length ec, .int .i64 p.next, .string p.data] 28)).heap.size = w.heap.size + 1 := by simp
  rw [hsz] at HR0
  have HP0 : ((w.alloc (.cells #[.int .i64 p.kind, .int .i64 p.tx, .int .i64 p.id, .int .i64 p.root, .int .i64 p.count, .slice ka p.ks.length kc, .slice ea p.es.length ec, .int .i64 p.next, .string p.data] 28)).alloc (.cells #[.bool false, .int .i64 0, .int .i64 0, .int .i64 0, .int .i64 0, .int .i64 0, .slice none 0 0, .slice none 0 0, .int .i64 0, .string ⟨#[]⟩] 32)).heap[w.heap.size]? = some (.cells #[.int .i64 p.kind, .int .i64 p.tx, .int .i64 p.id, .int .i64 p.root, .int .i64 p.count, .slice ka p.ks.length kc, .slice ea p.es.length ec, .int .i64 p.next, .string p.data] 28) := (((Below.refl (w.alloc (.cells #[.int .i64 p.kind, .int .i64 p.tx, .int .i64 p.id, .int .i64 p.root, .int .i64 p.count, .slice ka p.ks.length kc, .slice ea p.es.length ec, .int .i64 p.next, .string p.data] 28)).heap.size _).alloc (Nat.le_refl _) _).block w.heap.size (by simp)).trans (heap_alloc_new w _)
  generalize (w.alloc (.cells #[.int .i64 p.kind, .int .i64 p.tx, .int .i64 p.id, .int .i64 p.root, .int .i64 p.count, .slice ka p.ks.length kc, .slice ea p.es.length ec, .int .i64 p.next, .string p.data] 28)).alloc (.cells #[.bool false, .int .i64 0, .int .i64 0, .int .i64 0, .int .i64 0, .int .i64 0, .slice none 0 0, .slice none 0 0, .int .i64 0, .string ⟨#[]⟩] 32) = W at hbw0 HR0 HP0 ⊢
  clear hsz
  refine (encodeOld_any p hf ka kc ea ec W A B (Nat.le_trans hB hbw0.size) (hK.below (hbw0.mono hB)) (hE.below (hbw0.mono hB))).mono ?_
  rintro e w1 ⟨v1, rfl, hO1, hb1⟩
  obtain ⟨va, vc, rfl⟩ := own_shape hO1
  have hbw1 := hbw0.trans (hb1.mono hbw0.size)
  have HR1 := eb_call HR0 hb1
  have HP1 := eb_call HP0 hb1
  have hby1 := bytesAt_row hO1 (code_byte p)
  have hbs := hb.below (hbw1.mono hB2)
  clear hbw0 HR0 HP0 hO1 hb1 hK hE hb
  go_wp2_with fail
  refine (bytesEqual_any va ba _ 128 vc bc (oldCodeOf p) bs w1 _ _ _ _ hby1 hbs).mono ?_
  rintro e w2 ⟨rfl, hb2⟩
  have hbw := hbw1.trans (hb2.mono hbw1.size)
  have HR2 := eb_call HR1 hb2
  have HP2 := eb_call HP1 hb2
  have HR3 := HR2
  obtain ⟨c5, c6, c0, c2, c3, c4, c7, c8, c1⟩ := box_slice HP2
  clear hbw1 hby1 hbs hb2
  by_cases hd : oldCodeOf p = bs
  · have hdec : decide (oldCodeOf p = bs) = true := by simpa using hd
    rw [hdec]
    have HB10 := put10_box HR3 (.bool true) (.int .i64 p.kind) (.int .i64 p.tx) (.int .i64 p.id) (.int .i64 p.root) (.int .i64 p.count) (.slice ka p.ks.length kc) (.slice ea p.es.length ec) (.int .i64 p.next) (.string p.data)
    have hb4 : Below w.heap.size w (put10 w2 (w.heap.size + 1) (.bool true) (.int .i64 p.kind) (.int .i64 p.tx) (.int .i64 p.id) (.int .i64 p.root) (.int .i64 p.count) (.slice ka p.ks.length kc) (.slice ea p.es.length ec) (.int .i64 p.next) (.string p.data)) := hbw.trans ((put10_fr w2 (w.heap.size + 1) (.bool true) (.int .i64 p.kind) (.int .i64 p.tx) (.int .i64 p.id) (.int .i64 p.root) (.int .i64 p.count) (.slice ka p.ks.length kc) (.slice ea p.es.length ec) (.int .i64 p.next) (.string p.data)).below hbw.size (fun g e => by omega))
    have f3 := box_frozenq HR3
    obtain ⟨d0, d1, d2, d3, d4, d5, d6, d7, d8, d9⟩ := box_ten HR3
    clear HP2 HR2 HR1 HP1
    go_wp2
    show bodyPost _ _ _ _ _ (put10 w2 (w.heap.size + 1) (.bool true) (.int .i64 p.kind) (.int .i64 p.tx) (.int .i64 p.id) (.int .i64 p.root) (.int .i64 p.count) (.slice ka p.ks.length kc) (.slice ea p.es.length ec) (.int .i64 p.next) (.string p.data))
    clear d0 d1 d2 d3 d4 d5 d6 d7 d8 d9
    obtain ⟨d0, d1, d2, d3, d4, d5, d6, d7, d8, d9⟩ := box_ten HB10
    exact bodyPost_ret (v := .agg #[.bool true, .int .i64 p.kind, .int .i64 p.tx, .int .i64 p.id, .int .i64 p.root, .int .i64 p.count, .slice ka p.ks.length kc, .slice ea p.es.length ec, .int .i64 p.next, .string p.data]) (by simp [results, Try.results48, go_sem, d0, d1, d2, d3, d4, d5, d6, d7, d8, d9]) rfl ⟨by rw [hdec]; rfl, hb4⟩
  · have hdec : decide (oldCodeOf p = bs) = false := by simpa using hd
    rw [hdec]
    have HB10 := put10_box HR3 (.bool false) (.int .i64 0) (.int .i64 0) (.int .i64 0) (.int .i64 0) (.int .i64 0) (.slice none 0 0) (.slice none 0 0) (.int .i64 0) (.string ⟨#[]⟩)
    have hb4 : Below w.heap.size w (put10 w2 (w.heap.size + 1) (.bool false) (.int .i64 0) (.int .i64 0) (.int .i64 0) (.int .i64 0) (.int .i64 0) (.slice none 0 0) (.slice none 0 0) (.int .i64 0) (.string ⟨#[]⟩)) := hbw.trans ((put10_fr w2 (w.heap.size + 1) (.bool false) (.int .i64 0) (.int .i64 0) (.int .i64 0) (.int .i64 0) (.int .i64 0) (.slice none 0 0) (.slice none 0 0) (.int .i64 0) (.string ⟨#[]⟩)).below hbw.size (fun g e => by omega))
    have f3 := box_frozenq HR3
    obtain ⟨d0, d1, d2, d3, d4, d5, d6, d7, d8, d9⟩ := box_ten HR3
    clear HP2 HR2 HR1 HP1
    go_wp2
    show bodyPost _ _ _ _ _ (put10 w2 (w.heap.size + 1) (.bool false) (.int .i64 0) (.int .i64 0) (.int .i64 0) (.int .i64 0) (.int .i64 0) (.slice none 0 0) (.slice none 0 0) (.int .i64 0) (.string ⟨#[]⟩))
    clear d0 d1 d2 d3 d4 d5 d6 d7 d8 d9
    obtain ⟨d0, d1, d2, d3, d4, d5, d6, d7, d8, d9⟩ := box_ten HB10
    exact bodyPost_ret (v := .agg #[.bool false, .int .i64 0, .int .i64 0, .int .i64 0, .int .i64 0, .int .i64 0, .slice none 0 0, .slice none 0 0, .int .i64 0, .string ⟨#[]⟩]) (by simp [results, Try.results48, go_sem, d0, d1, d2, d3, d4, d5, d6, d7, d8, d9]) rfl ⟨by rw [hdec]; rfl, hb4⟩
end Old
end Go.Proofs.Ytcmhobbpeaeebaa
namespace Go.Proofs.Ytcmhobbpeaeebaa
namespace Old
open Go.RowKit
set_option linter.unusedVariables false
set_option maxRecDepth 100000

theorem i64_small {x : Int} (h : 0 ≤ x ∧ x < 4294967296) : I64 x := by unfold I64; omega
theorem kidsR_fit {w : World} {C g o c A B : Nat} {bs : List Int} {k : Nat} (h : RAt w C g o c A B bs k) (j : Nat) : ∀ n, ∀ x ∈ (kidsR bs j n).1, kidFit x
  | 0 => by intro x hx; simp [kidsR] at hx
  | n + 1 => by
    intro x hx
    rw [kidsR] at hx
    rcases List.mem_append.1 hx with hx | hx
    · exact kidsR_fit h j n x hx
    · simp only [List.mem_singleton] at hx
      subst hx
      refine ⟨?_, i64_small (rN_small h _ _ (by decide))⟩
      show (kSep bs n (kidsR bs j n).2).size ≤ maxLen
      unfold kSep maxLen
      split
      · have := tStr_size h (kidsR bs j n).2; omega
      · decide
theorem z64 : I64 0 := by unfold I64; decide
theorem entFit_mk {s t : ByteArray} {x y : Int} (h1 : s.size ≤ maxLen) (h2 : t.size ≤ maxLen) (h3 : I64 x) (h4 : I64 y) : entFit (s, t, x, y) := ⟨h1, h2, h3, h4⟩
theorem entR_fit {w : World} {C g o c A B : Nat} {bs : List Int} {k : Nat} (h : RAt w C g o c A B bs k) (p : Nat) : entFit (entR bs p).1 := by
  have h1 := tStr_size h p
  have h2 := tStr_size h (adv (kEnd bs p) 1)
  have m1 : (tStr bs p).size ≤ maxLen := by unfold maxLen; omega
  have m2 : (tStr bs (adv (kEnd bs p) 1)).size ≤ maxLen := by unfold maxLen; omega
  have m0 : (⟨#[]⟩ : ByteArray).size ≤ maxLen := Nat.zero_le _
  have r1 := i64_small (rN_small h (adv (kEnd bs p) 1) (smallN true) (by decide))
  have r2 := i64_small (rN_small h (adv (adv (kEnd bs p) 1) (smallN true)) (smallN true) (by decide))
  have r3 : I64 ((tStr bs (adv (kEnd bs p) 1)).size : Int) := by unfold I64; omega
  unfold entR
  generalize rN bs (adv (kEnd bs p) 1) (smallN true) = x1 at r1 ⊢
  generalize rN bs (adv (adv (kEnd bs p) 1) (smallN true)) (smallN true) = x2 at r2 ⊢
  by_cases hz : rN bs (kEnd bs p) 1 = 0
  · rw [if_pos hz]
    exact entFit_mk m1 m2 z64 r3
  · rw [if_neg hz]
    exact entFit_mk m1 m0 r1 r2
theorem entsR_fit {w : World} {C g o c A B : Nat} {bs : List Int} {k : Nat} (h : RAt w C g o c A B bs k) (j : Nat) : ∀ n, ∀ x ∈ (entsR bs j n).1, entFit x
  | 0 => by intro x hx; simp [entsR] at hx
  | n + 1 => by
    intro x hx
    rw [entsR] at hx
    rcases List.mem_append.1 hx with hx | hx
    · exact entsR_fit h j n x hx
    · simp only [List.mem_singleton] at hx
      subst hx
      exact entR_fit h _
theorem s64 (x : Int) (h : 0 ≤ x ∧ x ≤ 4) : I64 x := by unfold I64; omega
theorem readP_fit {w : World} {C g o c A B : Nat} {bs : List Int} {k : Nat} (h : RAt w C g o c A B bs k) (j : Nat) (kind : Int) (n : Nat) : PgFit (readP bs j kind n) ∧ (∀ x ∈ (readP bs j kind n).ks, kidFit x) ∧ (∀ x ∈ (readP bs j kind n).es, entFit x) := by
  have e0 : (⟨#[]⟩ : ByteArray).size ≤ maxLen := Nat.zero_le _
  unfold readP
  split
  · exact ⟨⟨s64 1 (by decide), z64, i64_small (rN_small h _ _ (by decide)), i64_small (rN_small h _ _ (by decide)), i64_small (rN_small h _ _ (by decide)), z64, e0⟩, (by intro x hx; cases hx), (by intro x hx; cases hx)⟩
  · split
    · exact ⟨⟨s64 2 (by decide), z64, z64, z64, z64, z64, e0⟩, kidsR_fit h j n, (by intro x hx; cases hx)⟩
    · split
      · exact ⟨⟨s64 3 (by decide), z64, z64, z64, z64, z64, e0⟩, (by intro x hx; cases hx), entsR_fit h j n⟩
      · split
        · exact ⟨⟨s64 4 (by decide), z64, z64, z64, z64, i64_small (rN_small h _ _ (by decide)), by have := tStr_size h (adv j (smallN true)); unfold maxLen; show (oData bs j).size ≤ _; unfold oData; omega⟩, (by intro x hx; cases hx), (by intro x hx; cases hx)⟩
        · exact ⟨⟨s64 0 (by decide), z64, z64, z64, z64, z64, e0⟩, (by intro x hx; cases hx), (by intro x hx; cases hx)⟩
theorem getD_fit {α : Type} {P : α → Prop} {l : List α} (h : ∀ x ∈ l, P x) (d : α) : ∀ i, i < l.length → P (l.getD i d) := by
  intro i hi
  rw [show l.getD i d = l[i] by simp [List.getD, hi]]
  exact h _ (List.getElem_mem hi)
end Old
end Go.Proofs.Ytcmhobbpeaeebaa
