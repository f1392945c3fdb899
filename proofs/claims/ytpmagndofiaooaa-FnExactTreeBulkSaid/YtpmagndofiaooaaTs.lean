import Derived.Test.YtpmagndofiaooaaTt
namespace Go.Proofs.Ytpmagndofiaooaa
open Go.RowKit
set_option linter.unusedVariables false
set_option maxRecDepth 100000

theorem box6 {w : World} {g : Nat} {v0 v1 v2 v3 v4 v5 : Value} {t : TypeId} (h : w.heap[g]? = some (.cells #[v0, v1, v2, v3, v4, v5] t)) : w.cell? ⟨g, 0, none⟩ = some v0 ∧ w.cell? ⟨g, 1, none⟩ = some v1 ∧ w.cell? ⟨g, 2, none⟩ = some v2 ∧ w.cell? ⟨g, 3, none⟩ = some v3 ∧ w.cell? ⟨g, 4, none⟩ = some v4 ∧ w.cell? ⟨g, 5, none⟩ = some v5 := by
  simp [World.cell?, h]
set_option maxHeartbeats 400000 in
theorem szInt64S_any (a : Option Addr) (n c : Nat) (left : Int) (w : World) (h0 : 0 ≤ left) (h1 : left ≤ 1048576) (hn : n ≤ maxLen) :
    Calls Try.prog 73 #[.slice a n c, .int .i64 left] w fun e w' => ∃ r : Int, e = .returned (.int .i64 r) ∧ (-1 ≤ r ∧ r ≤ left ∧ (0 ≤ r → r = left - n)) ∧ w' = w := by
  unfold maxLen at hn
  by_cases h : left - n < 0
  · go_enter Try.func73, Try.ntmps73
    go_wp2
    go_ret
    exact ⟨-1, rfl, ⟨by omega, by omega, by omega⟩, rfl⟩
  · go_enter Try.func73, Try.ntmps73
    go_wp2
    go_ret
    exact ⟨left - n, rfl, ⟨by omega, by omega, by omega⟩, rfl⟩
set_option maxHeartbeats 400000 in
theorem szStringS_any (a : Option Addr) (n c : Nat) (xs : List ByteArray) (left : Int) (w : World) (h0 : 0 ≤ left) (h1 : left ≤ 1048576) (A B : Nat) (hB : B ≤ w.heap.size) (hF : StrsAt w A B a n c xs) :
    Calls Try.prog 72 #[.slice a n c, .int .i64 left] w fun e w' => ∃ r : Int, e = .returned (.int .i64 r) ∧ (-1 ≤ r ∧ r ≤ left ∧ (0 ≤ r → r = left - wStrs xs)) ∧ Below w.heap.size w w' := by
  have hc := hF.2.2.1
  have hnc := hF.2.1
  have hl := hF.1
  unfold maxLen at hc
  have HN := wStrs_len xs
  have HN2 : Hid ((xs.length : Int) ≤ wStrs xs ∧ xs.length = n) := ⟨HN, hl⟩
  clear HN hl
  by_cases h : left - n < 0
  · go_enter Try.func72, Try.ntmps72
    go_wp2
    go_ret
    exact ⟨-1, rfl, ⟨by omega, by omega, by omega⟩, Below.refl _ _⟩
  · go_enter Try.func72, Try.ntmps72
    go_wp2
    go_loopw [1, 5] (fun l i wr => ∃ (k : Nat) (r : Int), k ≤ n ∧ i = .int .i64 k ∧ l = .int .i64 r ∧ 0 ≤ r ∧ r ≤ left - n ∧ Hid (r = left - n + k - wStrs (xs.take k)) ∧ Below w.heap.size w wr) (fun _ i _ => n - (intOf i).toNat)
    case atStart => exact ⟨0, left - n, Nat.zero_le _, rfl, rfl, by omega, by omega, by show _ = _; simp [wStrs], Below.refl _ _⟩
    case round =>
      obtain ⟨k, r, hk, rfl, rfl, hr0, hr1, HR, hbel⟩ := hrel
      by_cases hlt : k < n
      · obtain ⟨b, off, rfl, hb, hfit, e0⟩ := StrsAt.at (hF.below (hbel.mono hB)) hlt
        have hsn := take_snocD xs k ByteArray.empty (by have := HN2.out; omega)
        generalize xs.getD k ByteArray.empty = s at hfit e0 hsn
        have HS : Hid (wStrs (xs.take (k + 1)) = wStrs (xs.take k) + s.size + 1) := by show wStrs (xs.take (k + 1)) = _; rw [hsn, wStrs_append]; simp [wStrs]; omega
        clear hsn hF
        unfold maxLen at hfit
        by_cases h2 : r - s.size < 0
        · go_wp2
          go_ret
          exact ⟨-1, rfl, ⟨by omega, by omega, by omega⟩, hbel⟩
        · have H3 : Hid (r - s.size = left - n + (k + 1 : Nat) - wStrs (xs.take (k + 1))) := by
            have e1 := HR.out; have e2 := HS.out
            show r - s.size = _
            omega
          clear HR HS
          go_wp2
          go_roundw
          case rel => exact ⟨k + 1, r - s.size, by omega, by go_num, rfl, by omega, by omega, H3, hbel⟩
          case measure => simp [intOf]; omega
      · go_wp2
        go_ret
        refine ⟨r, rfl, ⟨by omega, by omega, fun _ => ?_⟩, hbel⟩
        have e1 := HR.out
        rw [List.take_of_length_le (by have := HN2.out; omega)] at e1
        omega
set_option maxHeartbeats 800000 in
theorem szTNode_any (t : TN) (ka : Option Addr) (kn kc : Nat) (va : Option Addr) (vn vc : Nat) (oa : Option Addr) (on oc : Nat) (ya : Option Addr) (yn yc : Nat) (left : Int) (w : World) (h0 : 0 ≤ left) (h1 : left ≤ 1048576) (A B : Nat) (hB : B ≤ w.heap.size)
    (hK : StrsAt w A B ka kn kc t.keys) (hV : StrsAt w A B va vn vc t.vals) (hO : IntsAt w A B oa on oc t.over) (hY : IntsAt w A B ya yn yc t.kids) :
    Calls Try.prog 60 #[.agg #[.bool t.leaf, .int .i64 t.page, .slice ka kn kc, .slice va vn vc, .slice oa on oc, .slice ya yn yc], .int .i64 left] w fun e w' => ∃ r : Int, e = .returned (.int .i64 r) ∧ (-1 ≤ r ∧ r ≤ left ∧ (0 ≤ r → r = left - wTN t)) ∧ Below w.heap.size w w' := by
  have HO : Hid (t.over.length = on ∧ t.kids.length = yn) := ⟨hO.1, hY.1⟩
  have hom : on ≤ maxLen := Nat.le_trans hO.2.1 hO.2.2.1
  have hym : yn ≤ maxLen := Nat.le_trans hY.2.1 hY.2.2.1
  clear hO hY
  generalize hlf : t.leaf = lf
  generalize hpg : t.page = pg
  clear hlf hpg
  go_enter Try.func60, Try.ntmps60
  go_wp2_with fail
  have hb0 : Below w.heap.size w (w.alloc (.cells #[.bool lf, .int .i64 pg, .slice ka kn kc, .slice va vn vc, .slice oa on oc, .slice ya yn yc] 108)) := (Below.refl _ _).alloc (Nat.le_refl _) _
  have A0 := heap_alloc_new w (.cells #[.bool lf, .int .i64 pg, .slice ka kn kc, .slice va vn vc, .slice oa on oc, .slice ya yn yc] 108)
  have z0 : w.heap.size < (w.alloc (.cells #[.bool lf, .int .i64 pg, .slice ka kn kc, .slice va vn vc, .slice oa on oc, .slice ya yn yc] 108)).heap.size := by simp
  generalize (w.alloc (.cells #[.bool lf, .int .i64 pg, .slice ka kn kc, .slice va vn vc, .slice oa on oc, .slice ya yn yc] 108)) = W0 at hb0 A0 z0 ⊢
  refine (szStringS_any _ _ _ t.keys _ _ h0 h1 A B (by omega) (hK.below (hb0.mono hB))).mono ?_
  rintro e w1 ⟨r, rfl, hr, hb1⟩
  have b1 := hb0.trans (hb1.mono hb0.size)
  have A1 := (hb1.block _ z0).trans A0
  have z1 : w.heap.size < w1.heap.size := Nat.lt_of_lt_of_le z0 hb1.size
  obtain ⟨x0, x1, x2, x3, x4, x5⟩ := box6 A1
  by_cases t1 : r < 0
  · go_wp2_with fail
    go_ret
    exact ⟨-1, rfl, ⟨by omega, by omega, by omega⟩, b1⟩
  have HR : Hid (r = left - wStrs t.keys) := hr.2.2 (by omega)
  have hr1 := hr.2.1
  clear hr hb1 A0 z0 hb0
  go_wp2_with fail
  refine (szStringS_any _ _ _ t.vals _ _ (by omega) (by omega) A B (by have := b1.size; omega) (hV.below (b1.mono hB))).mono ?_
  rintro e w2 ⟨q, rfl, hq, hb2⟩
  have b2 := b1.trans (hb2.mono b1.size)
  have A2 := (hb2.block _ z1).trans A1
  have z2 : w.heap.size < w2.heap.size := Nat.lt_of_lt_of_le z1 hb2.size
  clear x0 x1 x2 x3 x4 x5
  obtain ⟨x0, x1, x2, x3, x4, x5⟩ := box6 A2
  by_cases t2 : q < 0
  · go_wp2_with fail
    go_ret
    exact ⟨-1, rfl, ⟨by omega, by omega, by omega⟩, b2⟩
  have HQ : Hid (q = r - wStrs t.vals) := hq.2.2 (by omega)
  have hq1 := hq.2.1
  clear hq hb2 A1 z1 b1
  go_wp2_with fail
  refine (szInt64S_any _ _ _ _ _ (by omega) (by omega) hom).mono ?_
  rintro e w3 ⟨p, rfl, hp, rfl⟩
  by_cases t3 : p < 0
  · go_wp2_with fail
    go_ret
    exact ⟨-1, rfl, ⟨by omega, by omega, by omega⟩, b2⟩
  have HP : Hid (p = q - on) := hp.2.2 (by omega)
  have hp1 := hp.2.1
  clear hp
  go_wp2_with fail
  refine (szInt64S_any _ _ _ _ _ (by omega) (by omega) hym).mono ?_
  rintro e w4 ⟨o, rfl, ho, rfl⟩
  by_cases t4 : o < 0
  · go_wp2_with fail
    go_ret
    exact ⟨-1, rfl, ⟨by omega, by omega, by omega⟩, b2⟩
  have HV : Hid (o = p - yn) := ho.2.2 (by omega)
  have ho1 := ho.2.1
  clear ho
  go_wp2_with fail
  go_ret
  refine ⟨o, rfl, ⟨by omega, by omega, fun _ => ?_⟩, b2⟩
  have e1 := HR.out; have e2 := HQ.out; have e3 := HP.out; have e4 := HV.out; have e5 := HO.out
  unfold wTN
  omega
set_option maxHeartbeats 400000 in
theorem szTNodeS_any (a : Option Addr) (n c : Nat) (ts : List TN) (left : Int) (w : World) (h0 : 0 ≤ left) (h1 : left ≤ 1048576) (A B : Nat) (hB : B ≤ w.heap.size) (hF : NodesAt w A B a n c ts) :
    Calls Try.prog 43 #[.slice a n c, .int .i64 left] w fun e w' => ∃ r : Int, e = .returned (.int .i64 r) ∧ (-1 ≤ r ∧ r ≤ left ∧ (0 ≤ r → r = left - wTNs ts)) ∧ Below w.heap.size w w' := by
  have hc := hF.2.2.1
  have hnc := hF.2.1
  have hl := hF.1
  unfold maxLen at hc
  have HN := wTNs_len ts
  have HN2 : Hid ((ts.length : Int) ≤ wTNs ts ∧ ts.length = n) := ⟨HN, hl⟩
  clear HN hl
  by_cases h : left - n < 0
  · go_enter Try.func43, Try.ntmps43
    go_wp2
    go_ret
    exact ⟨-1, rfl, ⟨by omega, by omega, by omega⟩, Below.refl _ _⟩
  · go_enter Try.func43, Try.ntmps43
    go_wp2
    go_loopw [1, 5] (fun l i wr => ∃ (k : Nat) (r : Int), k ≤ n ∧ i = .int .i64 k ∧ l = .int .i64 r ∧ 0 ≤ r ∧ r ≤ left - n ∧ Hid (r = left - n + k - wTNs (ts.take k)) ∧ Below w.heap.size w wr) (fun _ i _ => n - (intOf i).toNat)
    case atStart => exact ⟨0, left - n, Nat.zero_le _, rfl, rfl, by omega, by omega, by show _ = _; simp [wTNs], Below.refl _ _⟩
    case round =>
      obtain ⟨k, r, hk, rfl, rfl, hr0, hr1, HR, hbel⟩ := hrel
      by_cases hlt : k < n
      · obtain ⟨b, off, rfl, hb, ka, kn, kc, va, vn, vc, oa, on, oc, ya, yn, yc, hN⟩ := NodesAt.at (hF.below (hbel.mono hB)) hlt
        have hsn := take_snocD ts k dT (by have := HN2.out; omega)
        generalize ts.getD k dT = t at hN hsn
        have HS : Hid (wTNs (ts.take (k + 1)) = wTNs (ts.take k) + wTN t + 1) := by show wTNs (ts.take (k + 1)) = _; rw [hsn, wTNs_append]; simp [wTNs]; omega
        clear hsn hF
        obtain ⟨c0, c1, c2, c3, c4, c5, hpg, hK, hV, hO, hY⟩ := hN
        have hs := hbel.size
        go_wp2_with fail
        refine (szTNode_any t ka kn kc va vn vc oa on oc ya yn yc _ _ hr0 (by omega) A B (by omega) hK hV hO hY).mono ?_
        rintro e w1 ⟨r2, rfl, hr2, hb2⟩
        have hb3 := hbel.trans (hb2.mono hs)
        by_cases h2 : r2 < 0
        · go_wp2
          go_ret
          exact ⟨-1, rfl, ⟨by omega, by omega, by omega⟩, hb3⟩
        · have h3 : r2 = r - wTN t := hr2.2.2 (by omega)
          have h4 := wTN_nonneg t
          have H3 : Hid (r2 = left - n + (k + 1 : Nat) - wTNs (ts.take (k + 1))) := by
            have e1 := HR.out; have e2 := HS.out
            show r2 = _
            omega
          clear h3 h4 HR HS
          go_wp2
          go_roundw
          case rel => exact ⟨k + 1, r2, by omega, by go_num, rfl, by omega, by omega, H3, hb3⟩
          case measure => simp [intOf]; omega
      · go_wp2
        go_ret
        refine ⟨r, rfl, ⟨by omega, by omega, fun _ => ?_⟩, hbel⟩
        have e1 := HR.out
        rw [List.take_of_length_le (by have := HN2.out; omega)] at e1
        omega
set_option maxHeartbeats 400000 in
theorem szTree_any (a : Option Addr) (n c : Nat) (ts : List TN) (left : Int) (w : World) (h0 : 0 ≤ left) (h1 : left ≤ 1048576) (A B : Nat) (hB : B ≤ w.heap.size) (hF : NodesAt w A B a n c ts) :
    Calls Try.prog 16 #[.agg #[.slice a n c], .int .i64 left] w fun e w' => ∃ r : Int, e = .returned (.int .i64 r) ∧ (-1 ≤ r ∧ r ≤ left ∧ (0 ≤ r → r = left - wTNs ts)) ∧ Below w.heap.size w w' := by
  have hb0 : Below w.heap.size w (w.alloc (.cells #[.slice a n c] 37)) := (Below.refl _ _).alloc (Nat.le_refl _) _
  go_enter Try.func16, Try.ntmps16
  go_wp2_with fail
  refine (szTNodeS_any _ _ _ ts _ _ h0 h1 A B (by simp; omega) (hF.below (hb0.mono hB))).mono ?_
  rintro e w1 ⟨r, rfl, hr, hb1⟩
  have hb2 := hb0.trans (hb1.mono hb0.size)
  by_cases h2 : r < 0
  · go_wp2_with fail
    go_ret
    exact ⟨-1, rfl, ⟨by omega, by omega, by omega⟩, hb2⟩
  · go_wp2_with fail
    go_ret
    exact ⟨r, rfl, hr, hb2⟩
end Go.Proofs.Ytpmagndofiaooaa
