import Derived.Test.YtmmdkjeoadlikaaMkF
import Derived.Deep.RegionLaw
namespace Go.Proofs.Ytmmdkjeoadlikaa
open Go.RowKit
set_option linter.unusedVariables false
set_option maxRecDepth 100000

theorem mark_name {w w1 : World} {base g n c j ln : Nat} {va : Option Addr} {vc : Nat} {fs : List PF} {ys vs : List Value} {nm : ByteArray} (h : OwnF w base (.slice (some ⟨g, 0, none⟩) n c) fs ys vs) (hb : Below w.heap.size w w1) (hj : j < fs.length) (hv : vs.getD j (.slice none 0 0) = .slice va ln vc) (hs : nm.size ≤ maxLen) :
    Hid (OwnF w1 base (.slice (some ⟨g, 0, none⟩) n c) fs ys vs) ∧ Hid (OwnF (w1.setCell ⟨g, j * 2, none⟩ (.string nm)) base (.slice (some ⟨g, 0, none⟩) n c) (fs.set j (nm, (fs.getD j (ByteArray.empty, [])).2)) (ys.set (j * 2) (.string nm)) vs ∧ w1.grownBy (w1.setCell ⟨g, j * 2, none⟩ (.string nm)) (some g)) ∧
    (∃ u, w1.cell? ⟨g, j * 2, none⟩ = some u) ∧ w1.cell? ⟨g, j * 2 + 1, none⟩ = some (.slice va ln vc) ∧ w1.frozen? ⟨g, j * 2, none⟩ = false := by
  have h1 := h.below hb
  have hn : n = fs.length := by
    rcases h1.row.2 with ⟨h', _⟩ | ⟨g', cap', cur, h', _⟩
    · simp at h'
    · simp at h'; omega
  subst hn
  refine ⟨h1, h1.rename hj hs, ⟨.string (fs.getD j (ByteArray.empty, [])).1, ?_⟩, ?_, h1.row.frozenAt _⟩
  · rw [h1.row.cellAt _ (by omega)]; exact (h1.name j hj).1
  · rw [h1.row.cellAt _ (by omega), h1.val j hj, hv]
theorem mark_call {w : World} {base j ln kj : Nat} {v : Value} {va : Option Addr} {vc : Nat} {fs : List PF} {ys vs : List Value} {nm : ByteArray} {P : Prop} (h : OwnF w base v (fs.set j (nm, (fs.getD j (ByteArray.empty, [])).2)) ys vs ∧ P) (hj : j < fs.length) (hv : vs.getD j (.slice none 0 0) = .slice va ln vc) (hg : (fs.getD j (ByteArray.empty, [])).2.length = ln) (hk : kj + 1 + ln ≤ 1099511627776) :
    Calls Try.prog 14 #[.slice va ln vc, .int .i64 ((kj : Int) + 1)] w fun e w' => e = .returned (.int .i64 ((kj + 1 + ln : Nat) : Int)) ∧ w'.ownsRow base 5 1 (.slice va ln vc) ln (u8s (marks (kj + 1) ln)) ∧ w.grownBy w' (Value.slice va ln vc).ownBlock := by
  have h1 := h.1.data j (by simpa using hj)
  rw [hv, getD_set _ _ _ _ _ hj, if_pos rfl, hg] at h1
  exact markByteS_any va ln vc (kj + 1) base _ w h1 hk

set_option maxHeartbeats 400000 in
theorem markFileS_any (a : Option Addr) (n c k base : Nat) (fs : List PF) (xs vs : List Value) (w : World) (h : OwnF w base (.slice a n c) fs xs vs) (hn : n = fs.length) (hb : base ≤ w.heap.size) (hk : kF k fs ≤ 1099511627776) :
    Calls Try.prog 37 #[.slice a n c, .int .i64 k] w fun e w' => e = .returned (.int .i64 ((kF k fs : Nat) : Int)) ∧ ∃ ys, OwnF w' base (.slice a n c) (markF k fs) ys vs ∧ Fr (Blk (.slice a n c) vs) w w' := by
  have hnb : n ≤ 1099511627776 := by have := kF_le k fs; omega
  replace hn : Hid (n = fs.length) := hn
  go_enter Try.func37, Try.ntmps37
  go_wp2
  go_loopw [1, 5] (fun kv i wr => ∃ (j : Nat) (ys : List Value), j ≤ n ∧ i = .int .i64 j ∧ kv = .int .i64 ((kF k (fs.take j) : Nat) : Int) ∧ OwnF wr base (.slice a n c) (stF k fs j) ys vs ∧ Fr (Blk (.slice a n c) vs) w wr) (fun _ i _ => n - (intOf i).toNat)
  case atStart => exact ⟨0, xs, Nat.zero_le _, rfl, by simp [kF], by simpa [stF, markF] using h, Fr.refl _ _⟩
  case round =>
    clear h
    obtain ⟨j, ys, hj, rfl, rfl, hO, hfr⟩ := hrel
    by_cases hlt : j < n
    · obtain ⟨g, rfl⟩ : ∃ g, a = some ⟨g, 0, none⟩ := by
        rcases hO.row.2 with ⟨h0, h1⟩ | ⟨g, cap, cur, h0, _⟩
        · have := hn.out; rw [stF_length _ _ _ (by omega)] at h1; omega
        · injection h0 with h1; exact ⟨g, h1⟩
      have hjf : j < fs.length := by have := hn.out; omega
      have hsl := stF_length k fs j (by omega)
      have hget := stF_get k fs j hjf (ByteArray.empty, [])
      have hK := kF_take k fs j hjf
      have hKle := kF_take_le k fs (j + 1)
      obtain ⟨kj, hkj⟩ : ∃ kj, kj = kF k (fs.take j) := ⟨_, rfl⟩
      rw [← hkj] at hK ⊢
      have hfl : n = fs.length := hn.out
      obtain ⟨va, vc, hv⟩ := own_shape (hO.data j (by omega))
      rw [hget] at hv
      obtain ⟨ln, hln⟩ : ∃ ln, ln = fs[j].2.length := ⟨_, rfl⟩
      rw [← hln] at hK hv
      have hkb : kj + 1 + ln ≤ 1099511627776 := by omega
      have HO : Hid (OwnF wr base (.slice (some ⟨g, 0, none⟩) n c) (stF k fs j) ys vs) := hO
      have HV : Hid (vs.getD j (.slice none 0 0) = .slice va ln vc) := hv
      have HS : Hid (stF k fs (j + 1) = (stF k fs j).set j (mkS kj, marks (kj + 1) ln)) := by
        show _ = _
        rw [stF_succ k fs j hjf, ← hkj, ← hln]
      have HG : Hid (((stF k fs j).getD j (ByteArray.empty, [])).2.length = ln) := by show _ = _; rw [hget, hln]
      have HK : Hid (kF k (fs.take (j + 1)) = kj + 1 + ln) := hK
      have HL : Hid (j < (stF k fs j).length) := by show _ < _; omega
      clear hO hv hget hK hKle hkj hln hfl hsl hjf
      go_wp2_with (first
        | (go_at_call 74
           refine (markText_any kj wr (by omega)).mono ?_
           rintro e w1 ⟨rfl, hb1⟩
           obtain ⟨HO1, HR1, ⟨u0, c0⟩, c1, f0⟩ := mark_name HO.out hb1 HL.out HV.out (nm := mkS kj) (mkS_size kj))
        | (go_at_call 14
           refine (mark_call HR1.out HL.out HV.out HG.out hkb).mono ?_
           rintro e w2 ⟨rfl, hM1, hM2⟩))
      have R : OwnF w2 base (.slice (some ⟨g, 0, none⟩) n c) (stF k fs (j + 1)) (ys.set (j * 2) (.string (mkS kj))) vs ∧ Fr (Blk (.slice (some ⟨g, 0, none⟩) n c) vs) w w2 := by
        have hv := HV.out
        have hl := HL.out
        obtain ⟨r1, r2⟩ := HR1.out
        have h2 := r1.over (i := j) (w' := w2) (l := marks (kj + 1) ln) (by simpa using hl) (by rw [hv, marks_length]; exact hM1) (by rw [hv]; exact hM2) (marks_byte _ _)
        rw [getD_set _ _ _ _ _ hl, if_pos rfl, List.set_set] at h2
        rw [HS.out]
        have hvl := HO.out.len
        exact ⟨h2, ((hfr.trans (Fr.of_below hb1)).trans (Fr.of_grown r2 (fun _ e => .inl e))).trans (Fr.of_grown hM2 (fun _ e => .inr ⟨j, by omega, by rw [hv]; exact e⟩))⟩
      have hK2 := HK.out
      clear hM1 hM2 HR1 HO1 hb1 hfr HO
      go_roundw
      case rel => exact ⟨j + 1, _, by omega, by go_num, by rw [hK2]; go_num, R.1, R.2⟩
      case measure => simp [intOf]; omega
    · have hj2 : fs.take j = fs := List.take_of_length_le (by have := hn.out; omega)
      have hj3 : stF k fs j = markF k fs := by
        unfold stF
        rw [hj2, List.drop_eq_nil_of_le (by have := hn.out; omega), List.append_nil]
      rw [hj3] at hO
      rw [hj2]
      clear hj2 hj3
      go_wp2
      go_ret
      exact ⟨rfl, ys, hO, hfr⟩
end Go.Proofs.Ytmmdkjeoadlikaa
