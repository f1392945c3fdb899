import Derived.Test.YtmmdkjeoadlikaaCsW
import Derived.Test.YtmmdkjeoadlikaaTd
namespace Go.Proofs.Ytmmdkjeoadlikaa
open Go.RowKit
set_option linter.unusedVariables false
set_option maxRecDepth 100000

set_option maxHeartbeats 800000 in
theorem toDisk_own (a : Option Addr) (n c : Nat) (fs : List PF) (b : Option Addr) (m d : Nat) (ps : List PP) (cp fu : Int) (de : Bool) (w : World) (A B : Nat) (hB : B ≤ w.heap.size)
    (hF : FilesAt w A B a n c fs) (hP : PendsAt w A B b m d ps) (hn : n ≤ 1048576) (hm : m ≤ 1048576) (hall : ∀ j, j < n → (fs.getD j (ByteArray.empty, [])).2.length ≤ 1048576) (hall2 : ∀ j, j < m → (ps.getD j (ByteArray.empty, 0, [])).2.2.length ≤ 1048576) :
    Calls Try.prog 9 #[.agg #[.slice a n c, .slice b m d, .int .i64 cp, .int .i64 fu, .bool de]] w fun e w' => ∃ g h xs vs ys us, e = .returned (.agg #[.slice (some ⟨g, 0, none⟩) n n, .slice (some ⟨h, 0, none⟩) m m, .int .i64 cp, .int .i64 fu, .bool de]) ∧ OwnD w' w.heap.size (.slice (some ⟨g, 0, none⟩) n n) (.slice (some ⟨h, 0, none⟩) m m) fs ps xs vs ys us ∧ Below w.heap.size w w' := by
  go_enter Try.func9, Try.ntmps9
  go_wp2_with fail
  have hb0 : Below w.heap.size w (((w.alloc (.cells #[.slice a n c, .slice b m d, .int .i64 cp, .int .i64 fu, .bool de] 25)).alloc (.cells #[.slice none 0 0, .slice none 0 0, .int .i64 0, .int .i64 0, .bool false] 32)).alloc (.cells #[.slice none 0 0, .slice none 0 0, .int .i64 0, .int .i64 0, .bool false] 32)) := (((Below.refl _ _).alloc (Nat.le_refl _) _).alloc (by simp) _).alloc (by simp; omega) _
  refine (toFileS_own _ _ _ fs _ A B (by simp; omega) (hF.below (hb0.mono hB)) hn hall).mono ?_
  rintro e w1 ⟨g, xs, vs, rfl, hFg, hb1⟩
  have hz := hb1.size
  simp at hz
  have hz1 : w.heap.size < w1.heap.size := by omega
  have hz2 : w.heap.size + 1 < w1.heap.size := by omega
  have hz3 : w.heap.size + 1 + 1 < w1.heap.size := by omega
  obtain ⟨hc1, hf1⟩ := bcell hb1
  have hb2 := hb0.trans (hb1.mono (by simp; omega))
  have hFg3 : OwnF w1 (w.heap.size + 3) (.slice (some ⟨g, 0, none⟩) n n) fs xs vs := OwnF.lower hFg (by simp)
  clear hb0 hFg
  go_wp2_with fail
  have hset := fr_setCell w1 (w.heap.size + 1 + 1) 0 (.slice (some ⟨g, 0, none⟩) n n)
  have hb3 := hb2.setCell (p := ⟨w.heap.size + 1 + 1, 0, none⟩) (by simp; omega) (.slice (some ⟨g, 0, none⟩) n n)
  have hF2 := hFg3.fr hset (fun k hk e => by have := (hFg3.blk hk).1; omega)
  clear hFg3
  refine (toPendS_own _ _ _ ps _ A B (by simp; omega) (hP.below (hb3.mono hB)) hm hall2).mono ?_
  rintro e w2 ⟨h, ys, us, rfl, hPh, hb4⟩
  have hF3 := hF2.below hb4
  have hb5 := hb3.trans (hb4.mono (by simp; omega))
  have hy := hb4.size
  simp at hy
  have hPh3 : OwnP w2 w1.heap.size (.slice (some ⟨h, 0, none⟩) m m) ps ys us := OwnP.lower hPh (by simp)
  have hFlt : ∀ k, Blk (.slice (some ⟨g, 0, none⟩) n n) vs k → w.heap.size + 3 ≤ k ∧ k < w1.heap.size := fun k hk => by have := hF2.blk hk; simpa using this
  have hy1 : w.heap.size < w2.heap.size := by omega
  have hy2 : w.heap.size + 1 < w2.heap.size := by omega
  have hy3 : w.heap.size + 1 + 1 < w2.heap.size := by omega
  obtain ⟨hc2, hf2⟩ := bcell hb4
  have HF3 : Hid (OwnF w2 (w.heap.size + 3) (.slice (some ⟨g, 0, none⟩) n n) fs xs vs) := hF3
  have HP3 : Hid (OwnP w2 w1.heap.size (.slice (some ⟨h, 0, none⟩) m m) ps ys us) := hPh3
  have HLT : Hid (∀ k, Blk (.slice (some ⟨g, 0, none⟩) n n) vs k → w.heap.size + 3 ≤ k ∧ k < w1.heap.size) := hFlt
  clear hb3 hb2 hF2 hb1 hF3 hPh hPh3 hFlt hset
  have hfr : ∀ (W : World), Fr (fun k => w.heap.size < k ∧ k < w.heap.size + 3) w2 W → OwnD W w.heap.size (.slice (some ⟨g, 0, none⟩) n n) (.slice (some ⟨h, 0, none⟩) m m) fs ps xs vs ys us ∧ Below w.heap.size w W := fun W hW => by
    refine ⟨⟨OwnF.lower (HF3.out.fr hW (fun k hk e => by have := (HF3.out.blk hk).1; omega)) (by omega), OwnP.lower (HP3.out.fr hW (fun k hk e => by have := (HP3.out.blk hk).1; omega)) (by omega), fun k hk hk2 => ?_⟩, hb5.trans (hW.below (by omega) (fun k e => by omega))⟩
    have := HLT.out k hk
    have := (HP3.out.blk hk2).1
    omega
  have HFR : Hid (∀ (W : World), Fr (fun k => w.heap.size < k ∧ k < w.heap.size + 3) w2 W → OwnD W w.heap.size (.slice (some ⟨g, 0, none⟩) n n) (.slice (some ⟨h, 0, none⟩) m m) fs ps xs vs ys us ∧ Below w.heap.size w W) := hfr
  clear hfr HF3 HP3 HLT hb5
  go_wp2
  refine bodyPost_ret (v := .agg #[.slice (some ⟨g, 0, none⟩) n n, .slice (some ⟨h, 0, none⟩) m m, .int .i64 cp, .int .i64 fu, .bool de]) (by simp [results, Try.results9, go_sem, hc2, hc1, hz2]) rfl ?_
  refine ⟨g, h, xs, vs, ys, us, rfl, ?_⟩
  refine HFR.out _ ?_
  iterate 9 refine Fr.trans ?_ ((fr_setCell _ _ _ _).weak (fun k e => by omega))
  exact Fr.refl _ _
end Go.Proofs.Ytmmdkjeoadlikaa
