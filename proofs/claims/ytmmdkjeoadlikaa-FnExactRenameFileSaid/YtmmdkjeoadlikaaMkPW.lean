import Derived.Test.YtmmdkjeoadlikaaMkP
namespace Go.Proofs.Ytmmdkjeoadlikaa
open Go.RowKit
set_option linter.unusedVariables false
set_option maxRecDepth 100000

theorem markp_name {w w1 : World} {base g n c j ln : Nat} {va : Option Addr} {vc : Nat} {fs : List PP} {ys vs : List Value} {nm : ByteArray} {pg : Int} (h : OwnP w base (.slice (some ⟨g, 0, none⟩) n c) fs ys vs) (hb : Below w.heap.size w w1) (hj : j < fs.length) (hv : vs.getD j (.slice none 0 0) = .slice va ln vc) (hs : nm.size ≤ maxLen) (hpg : -9223372036854775808 ≤ pg ∧ pg ≤ 9223372036854775807) :
    Hid (OwnP ((w1.setCell ⟨g, j * 3, none⟩ (.string nm)).setCell ⟨g, j * 3 + 1, none⟩ (.int .i64 pg)) base (.slice (some ⟨g, 0, none⟩) n c) (fs.set j (nm, pg, (fs.getD j (ByteArray.empty, 0, [])).2.2)) ((ys.set (j * 3) (.string nm)).set (j * 3 + 1) (.int .i64 pg)) vs ∧ w1.grownBy ((w1.setCell ⟨g, j * 3, none⟩ (.string nm)).setCell ⟨g, j * 3 + 1, none⟩ (.int .i64 pg)) (some g)) ∧
    (∃ u, w1.cell? ⟨g, j * 3, none⟩ = some u) ∧ (∃ u, w1.cell? ⟨g, j * 3 + 1, none⟩ = some u) ∧ w1.cell? ⟨g, j * 3 + 2, none⟩ = some (.slice va ln vc) ∧ w1.frozen? ⟨g, j * 3, none⟩ = false ∧ (w1.setCell ⟨g, j * 3, none⟩ (.string nm)).frozen? ⟨g, j * 3 + 1, none⟩ = false ∧ w1.frozen? ⟨g, j * 3 + 1, none⟩ = false := by
  have h1 := h.below hb
  have hn : n = fs.length := by
    rcases h1.row.2 with ⟨h', _⟩ | ⟨g', cap', cur, h', _⟩
    · simp at h'
    · simp at h'; omega
  subst hn
  obtain ⟨r1, r2⟩ := h1.rename hj hs
  obtain ⟨q1, q2⟩ := r1.repage (i := j) (pg := pg) (by simpa using hj) hpg
  have hf := r1.row
  rw [List.length_set] at hf
  refine ⟨⟨?_, grown_trans r2 q2⟩, ⟨.string (fs.getD j (ByteArray.empty, 0, [])).1, ?_⟩, ⟨.int .i64 (fs.getD j (ByteArray.empty, 0, [])).2.1, ?_⟩, ?_, h1.row.frozenAt _, hf.frozenAt _, h1.row.frozenAt _⟩
  · rw [getD_set _ _ _ _ _ hj, if_pos rfl, List.set_set] at q1
    exact q1
  · rw [h1.row.cellAt _ (by omega)]; exact (h1.name j hj).1
  · rw [h1.row.cellAt _ (by omega)]; exact (h1.page j hj).1
  · rw [h1.row.cellAt _ (by omega), h1.val j hj, hv]
theorem markp_call {w : World} {base j ln kj : Nat} {v : Value} {va : Option Addr} {vc : Nat} {fs : List PP} {ys vs : List Value} {nm : ByteArray} {pg : Int} {P : Prop} (h : OwnP w base v (fs.set j (nm, pg, (fs.getD j (ByteArray.empty, 0, [])).2.2)) ys vs ∧ P) (hj : j < fs.length) (hv : vs.getD j (.slice none 0 0) = .slice va ln vc) (hg : (fs.getD j (ByteArray.empty, 0, [])).2.2.length = ln) (hk : kj + 2 + ln ≤ 1099511627776) :
    Calls Try.prog 14 #[.slice va ln vc, .int .i64 ((kj : Int) + 1 + 1)] w fun e w' => e = .returned (.int .i64 ((kj + 2 + ln : Nat) : Int)) ∧ w'.ownsRow base 5 1 (.slice va ln vc) ln (u8s (marks (kj + 2) ln)) ∧ w.grownBy w' (Value.slice va ln vc).ownBlock := by
  have h1 := h.1.data j (by simpa using hj)
  rw [hv, getD_set _ _ _ _ _ hj, if_pos rfl, hg] at h1
  exact markByteS_any va ln vc (kj + 2) base _ w h1 hk

set_option maxHeartbeats 400000 in
theorem markPendS_any (a : Option Addr) (n c k base : Nat) (fs : List PP) (xs vs : List Value) (w : World) (h : OwnP w base (.slice a n c) fs xs vs) (hn : n = fs.length) (hb : base ≤ w.heap.size) (hk : kP k fs ≤ 1099511627776) :
    Calls Try.prog 38 #[.slice a n c, .int .i64 k] w fun e w' => e = .returned (.int .i64 ((kP k fs : Nat) : Int)) ∧ ∃ ys, OwnP w' base (.slice a n c) (markP k fs) ys vs ∧ Fr (Blk (.slice a n c) vs) w w' := by
  have hnb : n ≤ 1099511627776 := by have := kP_le k fs; omega
  replace hn : Hid (n = fs.length) := hn
  go_enter Try.func38, Try.ntmps38
  go_wp2
  go_loopw [1, 5] (fun kv i wr => ∃ (j : Nat) (ys : List Value), j ≤ n ∧ i = .int .i64 j ∧ kv = .int .i64 ((kP k (fs.take j) : Nat) : Int) ∧ OwnP wr base (.slice a n c) (stP k fs j) ys vs ∧ Fr (Blk (.slice a n c) vs) w wr) (fun _ i _ => n - (intOf i).toNat)
  case atStart => exact ⟨0, xs, Nat.zero_le _, rfl, by simp [kP], by simpa [stP, markP] using h, Fr.refl _ _⟩
  case round =>
    clear h
    obtain ⟨j, ys, hj, rfl, rfl, hO, hfr⟩ := hrel
    by_cases hlt : j < n
    · obtain ⟨g, rfl⟩ : ∃ g, a = some ⟨g, 0, none⟩ := by
        rcases hO.row.2 with ⟨h0, h1⟩ | ⟨g, cap, cur, h0, _⟩
        · have := hn.out; rw [stP_length _ _ _ (by omega)] at h1; omega
        · injection h0 with h1; exact ⟨g, h1⟩
      have hjf : j < fs.length := by have := hn.out; omega
      have hsl := stP_length k fs j (by omega)
      have hget := stP_get k fs j hjf (ByteArray.empty, 0, [])
      have hK := kP_take k fs j hjf
      have hKle := kP_take_le k fs (j + 1)
      obtain ⟨kj, hkj⟩ : ∃ kj, kj = kP k (fs.take j) := ⟨_, rfl⟩
      rw [← hkj] at hK ⊢
      have hfl : n = fs.length := hn.out
      obtain ⟨va, vc, hv⟩ := own_shape (hO.data j (by omega))
      rw [hget] at hv
      obtain ⟨ln, hln⟩ : ∃ ln, ln = fs[j].2.2.length := ⟨_, rfl⟩
      rw [← hln] at hK hv
      have hkb : kj + 2 + ln ≤ 1099511627776 := by omega
      have HO : Hid (OwnP wr base (.slice (some ⟨g, 0, none⟩) n c) (stP k fs j) ys vs) := hO
      have HV : Hid (vs.getD j (.slice none 0 0) = .slice va ln vc) := hv
      have HS : Hid (stP k fs (j + 1) = (stP k fs j).set j (mkS kj, ((kj + 1 : Nat) : Int), marks (kj + 2) ln)) := by
        show _ = _
        rw [stP_succ k fs j hjf, ← hkj, ← hln]
      have HG : Hid (((stP k fs j).getD j (ByteArray.empty, 0, [])).2.2.length = ln) := by show _ = _; rw [hget, hln]
      have HK : Hid (kP k (fs.take (j + 1)) = kj + 2 + ln) := hK
      have HL : Hid (j < (stP k fs j).length) := by show _ < _; omega
      clear hO hv hget hK hKle hkj hln hfl hsl hjf
      go_wp2_with (first
        | (go_at_call 74
           refine (markText_any kj wr (by omega)).mono ?_
           rintro e w1 ⟨rfl, hb1⟩
           obtain ⟨HR1, ⟨u0, c0⟩, ⟨u1, c1⟩, c2, f0, f1, f2⟩ := markp_name HO.out hb1 HL.out HV.out (nm := mkS kj) (pg := (kj : Int) + 1) (mkS_size kj) (by omega))
        | (go_at_call 14
           refine (markp_call HR1.out HL.out HV.out HG.out hkb).mono ?_
           rintro e w2 ⟨rfl, hM1, hM2⟩))
      have R : OwnP w2 base (.slice (some ⟨g, 0, none⟩) n c) (stP k fs (j + 1)) ((ys.set (j * 3) (.string (mkS kj))).set (j * 3 + 1) (.int .i64 ((kj : Int) + 1))) vs ∧ Fr (Blk (.slice (some ⟨g, 0, none⟩) n c) vs) w w2 := by
        have hv := HV.out
        have hl := HL.out
        obtain ⟨r1, r2⟩ := HR1.out
        have h2 := r1.over (i := j) (w' := w2) (l := marks (kj + 2) ln) (by simpa using hl) (by rw [hv, marks_length]; exact hM1) (by rw [hv]; exact hM2) (marks_byte _ _)
        rw [getD_set _ _ _ _ _ hl, if_pos rfl, List.set_set] at h2
        rw [HS.out]
        have hvl := HO.out.len
        exact ⟨h2, ((hfr.trans (Fr.of_below hb1)).trans (Fr.of_grown r2 (fun _ e => .inl e))).trans (Fr.of_grown hM2 (fun _ e => .inr ⟨j, by omega, by rw [hv]; exact e⟩))⟩
      have hK2 := HK.out
      clear hM1 hM2 HR1 hb1 hfr HO
      go_roundw
      case rel => exact ⟨j + 1, _, by omega, by go_num, by rw [hK2]; go_num, R.1, R.2⟩
      case measure => simp [intOf]; omega
    · have hj2 : fs.take j = fs := List.take_of_length_le (by have := hn.out; omega)
      have hj3 : stP k fs j = markP k fs := by
        unfold stP
        rw [hj2, List.drop_eq_nil_of_le (by have := hn.out; omega), List.append_nil]
      rw [hj3] at hO
      rw [hj2]
      clear hj2 hj3
      go_wp2
      go_ret
      exact ⟨rfl, ys, hO, hfr⟩
end Go.Proofs.Ytmmdkjeoadlikaa
