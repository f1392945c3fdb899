import Derived.Test.YtmmdkjeoadlikaaMkW
import Derived.Test.YtmmdkjeoadlikaaMkPW
import Derived.Test.YtmmdkjeoadlikaaHdF
import Derived.Test.YtmmdkjeoadlikaaHdP
namespace Go.Proofs.Ytmmdkjeoadlikaa
open Go.RowKit
set_option linter.unusedVariables false
set_option maxRecDepth 100000

/-- A disk's two lists in memory of one's own; no block is in both. -/
structure OwnD (w : World) (base : Nat) (v u : Value) (fs : List PF) (ps : List PP) (xs vs ys us : List Value) : Prop where
  files : OwnF w base v fs xs vs
  cache : OwnP w base u ps ys us
  apart : ∀ g, Blk v vs g → ¬ Blk u us g
theorem OwnF.blk {w : World} {base : Nat} {v : Value} {fs : List PF} {xs vs : List Value} (h : OwnF w base v fs xs vs) {g : Nat} (hg : Blk v vs g) : base ≤ g ∧ g < w.heap.size := by
  rcases hg with hg | ⟨j, hj, hg⟩
  · exact h.row.lt g hg
  · exact (h.data j (by rw [← h.len]; exact hj)).lt g hg
theorem OwnP.blk {w : World} {base : Nat} {v : Value} {fs : List PP} {xs vs : List Value} (h : OwnP w base v fs xs vs) {g : Nat} (hg : Blk v vs g) : base ≤ g ∧ g < w.heap.size := by
  rcases hg with hg | ⟨j, hj, hg⟩
  · exact h.row.lt g hg
  · exact (h.data j (by rw [← h.len]; exact hj)).lt g hg
theorem OwnD.below {w w' : World} {base : Nat} {v u : Value} {fs : List PF} {ps : List PP} {xs vs ys us : List Value} (h : OwnD w base v u fs ps xs vs ys us) (hb : Below w.heap.size w w') : OwnD w' base v u fs ps xs vs ys us :=
  ⟨h.files.below hb, h.cache.below hb, h.apart⟩
/-- A world apart from another's lists: one may be written, the other stays. -/
theorem OwnD.fr {S : Nat → Prop} {w w' : World} {base : Nat} {v u : Value} {fs : List PF} {ps : List PP} {xs vs ys us : List Value} (h : OwnD w base v u fs ps xs vs ys us) (hf : Fr S w w') (hS : ∀ g, Blk v vs g ∨ Blk u us g → ¬ S g) : OwnD w' base v u fs ps xs vs ys us :=
  ⟨h.files.fr hf (fun g hg => hS g (.inl hg)), h.cache.fr hf (fun g hg => hS g (.inr hg)), h.apart⟩

set_option maxHeartbeats 400000 in
theorem markDisk_any (a : Option Addr) (n c : Nat) (b : Option Addr) (m d : Nat) (cp fu de : Value) (k base : Nat) (fs : List PF) (ps : List PP) (xs vs ys us : List Value) (w : World) (h : OwnD w base (.slice a n c) (.slice b m d) fs ps xs vs ys us) (hn : n = fs.length) (hm : m = ps.length) (hb : base ≤ w.heap.size) (hk : kP (kF k fs) ps ≤ 1099511627776) :
    Calls Try.prog 13 #[.agg #[.slice a n c, .slice b m d, cp, fu, de], .int .i64 k] w fun e w' => e = .returned (.int .i64 ((kP (kF k fs) ps : Nat) : Int)) ∧ ∃ xs' ys', OwnD w' base (.slice a n c) (.slice b m d) (markF k fs) (markP (kF k fs) ps) xs' vs ys' us ∧ Below base w w' ∧ Fr (fun g => Blk (.slice a n c) vs g ∨ Blk (.slice b m d) us g) w w' := by
  have hk1 : kF k fs ≤ 1099511627776 := by have := kP_le (kF k fs) ps; omega
  replace hn : Hid (n = fs.length) := hn
  replace hm : Hid (m = ps.length) := hm
  have HH : Hid (OwnD w base (.slice a n c) (.slice b m d) fs ps xs vs ys us) := h
  have H0 : Hid (OwnD (w.alloc (.cells #[.slice a n c, .slice b m d, cp, fu, de] 32)) base (.slice a n c) (.slice b m d) fs ps xs vs ys us) := h.below ((Below.refl _ _).alloc (Nat.le_refl _) _)
  clear h
  go_enter Try.func13, Try.ntmps13
  go_wp2_with fail
  refine (markFileS_any a n c k base fs xs vs _ H0.out.files hn.out (by simp; omega) hk1).mono ?_
  rintro e w1 ⟨rfl, xs1, hF1, hfr1⟩
  have HF1 : Hid (OwnF w1 base (.slice a n c) (markF k fs) xs1 vs) := hF1
  have HP1 : Hid (OwnP w1 base (.slice b m d) ps ys us) := H0.out.cache.fr hfr1 (fun g hu hS => HH.out.apart g hS hu)
  have c1 : w1.cell? ⟨w.heap.size, 1, none⟩ = some (.slice b m d) := by
    have hk : Keeps w.heap.size (w.heap.size + 1) (w.alloc (.cells #[.slice a n c, .slice b m d, cp, fu, de] 32)) w1 := by
      intro i h1 h2
      obtain rfl : i = w.heap.size := by omega
      exact hfr1.block _ (by simp) (fun hS => by have := (HH.out.files.blk hS).2; omega)
    rw [hk.cell (Nat.le_refl _) (Nat.lt_succ_self _)]
    simp
  have hs1 := hfr1.size
  have HS1 : Hid (Fr (Blk (.slice a n c) vs) (w.alloc (.cells #[.slice a n c, .slice b m d, cp, fu, de] 32)) w1) := hfr1
  simp at hs1
  clear hF1 hfr1
  go_wp2_with fail
  refine (markPendS_any b m d (kF k fs) base ps ys us w1 HP1.out hm.out (by omega) hk).mono ?_
  rintro e w2 ⟨rfl, ys1, hP2, hfr2⟩
  have R : OwnD w2 base (.slice a n c) (.slice b m d) (markF k fs) (markP (kF k fs) ps) xs1 vs ys1 us ∧ Below base w w2 ∧ Fr (fun g => Blk (.slice a n c) vs g ∨ Blk (.slice b m d) us g) w w2 :=
    ⟨⟨HF1.out.fr hfr2 (fun g hg hS => HH.out.apart g hg hS), hP2, HH.out.apart⟩,
     (((Below.refl _ _).alloc hb _).trans (HS1.out.below (by simp; omega) (fun g hg => (HH.out.files.blk hg).1))).trans (hfr2.below (by omega) (fun g hg => (HH.out.cache.blk hg).1)),
     ((Fr.of_below ((Below.refl _ _).alloc (Nat.le_refl _) _)).trans (HS1.out.weak (fun g e => .inl e))).trans (hfr2.weak (fun g e => .inr e))⟩
  clear hP2 hfr2
  go_wp2_with fail
  go_ret
  exact ⟨rfl, _, _, R.1, R.2.1, R.2.2⟩
end Go.Proofs.Ytmmdkjeoadlikaa
