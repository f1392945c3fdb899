import Derived.Test.YtpmagndofiaooaaTsa
import Derived.Test.YtpmagndofiaooaaTgh
namespace Go.Proofs.Ytpmagndofiaooaa
open Go.RowKit
set_option linter.unusedVariables false
set_option linter.unusedSimpArgs false
set_option maxRecDepth 100000

/-- What the program's scan answers. -/
def implScan (ts : List TN) (lo hi : ByteArray) (zs : List (ByteArray × ByteArray × Int)) : Prop := (¬ ImplOk ts → zs = []) ∧ (ImplOk ts → ∃ t met, gr ts (ts.length + 1) 0 (fun _ => false) = some (t, ts.length, met) ∧ zs = scanL lo hi t.slots)
theorem scan_eq {ts : List TN} {lo hi : ByteArray} {zs ys : List (ByteArray × ByteArray × Int)} (h1 : specScan ts lo hi zs) (h2 : implScan ts lo hi ys) : ys = zs := by
  by_cases h : ImplOk ts
  · obtain ⟨t, met, e, e2⟩ := h2.2 h
    rw [e2, h1.2 ((valid_iff ts).2 h)]
    obtain ⟨a1, _⟩ := gr_some ts _ 0 _ _ _ _ (Nat.zero_le _) e
    rw [a1]
  · rw [h2.1 h, h1.1 (fun h3 => h ((valid_iff ts).1 h3))]
theorem sl_cells {w : World} {base : Nat} {oa : Option Addr} {m oc : Nat} {zs : List (ByteArray × ByteArray × Int)} (hown : w.ownsRow base 86 3 (.slice oa m oc) m (rowsOf slCells zs)) (hlen : zs.length = m) {wr : World} (hb : Below w.heap.size w wr) {j : Nat} (hj : j < m) : ∃ g, oa = some ⟨g, 0, none⟩ ∧ g < wr.heap.size ∧ wr.cell? ⟨g, j * 3, none⟩ = some (.string (zs.getD j (ByteArray.empty, ByteArray.empty, 0)).1) ∧ wr.cell? ⟨g, j * 3 + 1, none⟩ = some (.string (zs.getD j (ByteArray.empty, ByteArray.empty, 0)).2.1) ∧ wr.cell? ⟨g, j * 3 + 2, none⟩ = some (.int .i64 (zs.getD j (ByteArray.empty, ByteArray.empty, 0)).2.2) := by
  rcases hown.2 with ⟨e, e2⟩ | ⟨g, cap, cur, e, _⟩
  · omega
  · simp only [Value.slice.injEq] at e
    obtain ⟨rfl, _, rfl⟩ := e
    have hl := hown.lt g rfl
    have hc : ∀ r, r < 3 → wr.cell? ⟨g, j * 3 + r, none⟩ = (slCells (zs.getD j (ByteArray.empty, ByteArray.empty, 0)))[r]? := fun r hr => by
      rw [World.cell?_of_block (w := w) (a := ⟨g, j * 3 + r, none⟩) (hb.block g hl.2), hown.cellAt (j * 3 + r) (by omega)]
      exact rowsOf_get sl3 _ zs j r (by omega) hr
    exact ⟨g, rfl, Nat.lt_of_lt_of_le hl.2 hb.size, by simpa [slCells] using hc 0 (by omega), by simpa [slCells] using hc 1 (by omega), by simpa [slCells] using hc 2 (by omega)⟩
set_option maxHeartbeats 4000000 in
theorem implScan_any (ts : List TN) (lo hi : ByteArray) (a : Option Addr) (n c A B : Nat) (w : World) (hB : B ≤ w.heap.size) (hT : NodesAt w A B a n c ts) :
    Calls Try.prog 24 #[.agg #[.slice a n c], .string lo, .string hi] w fun e w' => ∃ zs, implScan ts lo hi zs ∧ ScanAns zs w e w' := by
  obtain ⟨N, hN⟩ : ∃ N, w.heap.size = N := ⟨_, rfl⟩
  have b0 := (Below.refl w.heap.size w).alloc (Nat.le_refl _) (.cells #[.slice a n c] 26)
  have z0 : (w.alloc (.cells #[.slice a n c] 26)).heap.size = N + 1 := by simp [hN]
  have hcall := grow_any ts a n c A B _ (Nat.le_trans hB b0.size) (hT.below (b0.mono hB))
  obtain ⟨ip, hip, hp0, hp1, hp2⟩ := info_parts info_Pair
  clear hT
  go_enter Try.func24, Try.ntmps24
  go_wp2_with fail
  refine hcall.mono ?_
  rintro e w1 ⟨hno, hyes, hb⟩
  have b1 := b0.trans (hb.mono b0.size)
  have hs1 := hb.size
  clear hcall
  by_cases h : ImplOk ts
  · obtain ⟨t, met, u, hgr, hky, hasc, rfl, hGI⟩ := hyes h
    obtain ⟨ty, v, rfl⟩ := hGI.shape
    obtain ⟨gs1, gs2, gs3, gs4, gs5, gs6, gs7, gs8⟩ := gr_some ts _ 0 _ t _ _ (Nat.zero_le _) hgr
    have HOK : Hid (ImplOk ts ∧ gr ts (ts.length + 1) 0 (fun _ => false) = some (t, ts.length, met)) := ⟨h, hgr⟩
    have hsl := slots_len t ⟨true, gs5⟩
    have hn3 := h.1
    have hS4 : t.slots.length ≤ 4000 := by have := gs4.1; omega
    obtain ⟨ha, f9, r9, hme, hcf, hcl⟩ := GIs.slots (base := w1.heap.size) (P := fun b => (w.alloc (.cells #[.slice a n c] 26)).heap.size ≤ b ∧ b < w1.heap.size) (fun b hb => hb.2) t ty v gs3 (GM.see _ _ _ hGI)
    have hcl2 := hcl w1 (Below.refl _ w1) none 0 0 [] (World.ownsRow_nil _ _ _ _) (by omega) (Nat.le_refl _)
    simp only [Nat.zero_add, List.nil_append] at hcl2
    obtain ⟨S, hS⟩ : ∃ S, t.slots = S := ⟨_, rfl⟩
    have HS : Hid (t.slots = S) := hS
    rw [hS] at hcl2 hS4
    have HSL : Hid (Calls Try.prog f9 #[r9, .slice none 0 0] w1 fun e w2 => ∃ oa' oc', e = .returned (.slice oa' S.length oc') ∧ w2.ownsRow w1.heap.size 86 3 (.slice oa' S.length oc') S.length (rowsOf slCells S) ∧ Fr (fun k => w1.heap.size ≤ k) w1 w2) := hcl2
    have hcf2 := hcf (.slice none 0 0)
    clear hno hyes h hgr hky hasc hGI gs1 gs2 gs3 gs4 gs5 gs6 gs7 gs8 hsl hn3 hcl hcl2 hcf hS
    go_wp2_with fail
    refine HSL.out.mono ?_
    rintro e w2 ⟨oa', oc', rfl, hown2, hfr2⟩
    have b2 := b1.trans (hfr2.below (by omega) (fun k hk => by omega))
    obtain ⟨sl, hsl⟩ : ∃ sl, S.length = sl := ⟨_, rfl⟩
    have HSN : Hid (S.length = sl) := hsl
    rw [hsl] at hown2 hS4 ⊢
    have HCE : Hid (∀ wr, Below w2.heap.size w2 wr → ∀ j, j < sl → ∃ g, oa' = some ⟨g, 0, none⟩ ∧ g < wr.heap.size ∧ wr.cell? ⟨g, j * 3, none⟩ = some (.string (S.getD j (ByteArray.empty, ByteArray.empty, 0)).1) ∧ wr.cell? ⟨g, j * 3 + 1, none⟩ = some (.string (S.getD j (ByteArray.empty, ByteArray.empty, 0)).2.1) ∧ wr.cell? ⟨g, j * 3 + 2, none⟩ = some (.int .i64 (S.getD j (ByteArray.empty, ByteArray.empty, 0)).2.2)) := fun wr hb j hj => sl_cells hown2 hsl hb hj
    have HB2 : Hid (∀ wr, Below w2.heap.size w2 wr → Below w.heap.size w wr) := fun wr hb => b2.trans (hb.mono b2.size)
    have hsz2 := b2.size
    clear hown2 hfr2 HSL hsl b1 b2 b0 hb ha hme hcf2
    go_wp2_with fail
    go_loopw [9, 22] (fun o i wr => ∃ (j m : Nat) (va : Option Addr) (vc : Nat), j ≤ sl ∧ i = .int .i64 j ∧ o = .slice va m vc ∧ m ≤ j ∧ Hid (m = (scanL lo hi (S.take j)).length) ∧ wr.ownsRow w2.heap.size 53 2 (.slice va m vc) m (rowsOf prCells (scanL lo hi (S.take j))) ∧ Below w2.heap.size w2 wr) (fun _ i _ => sl - (intOf i).toNat)
    case atStart => exact ⟨0, 0, none, 0, Nat.zero_le _, rfl, rfl, Nat.le_refl _, by show _ = _; simp [scanL], by simpa [scanL, rowsOf] using World.ownsRow_nil _ _ _ _, Below.refl _ _⟩
    case round =>
      obtain ⟨j, m, va, vc, hj, rfl, rfl, hmj, HMM, hown, hbel⟩ := hrel
      have hszr := hbel.size
      by_cases hlt : j < sl
      · obtain ⟨gp, rfl, hgl, c0, c1, c2⟩ := HCE.out wr hbel j hlt
        have hsn := scan_snoc lo hi S j (by have := HSN.out; omega) (ByteArray.empty, ByteArray.empty, 0)
        obtain ⟨s, hs⟩ : ∃ s, S.getD j (ByteArray.empty, ByteArray.empty, 0) = s := ⟨_, rfl⟩
        rw [hs] at c0 c1 c2 hsn
        clear hs
        obtain ⟨sk, sv, so⟩ := s
        simp only at c0 c1 c2 hsn
        obtain ⟨sb, hsb⟩ : ∃ sb, scanB lo hi sk = sb := ⟨_, rfl⟩
        rw [hsb] at hsn
        have ab1 := (Below.refl wr.heap.size wr).alloc (Nat.le_refl _) (.cells #[.string sk, .string sv, .int .i64 so] 86)
        have ab2 := (Below.refl (wr.alloc (.cells #[.string sk, .string sv, .int .i64 so] 86)).heap.size _).alloc (Nat.le_refl _) (.cells #[.string sk, .string sv] 53)
        have z1 : (wr.alloc (.cells #[.string sk, .string sv, .int .i64 so] 86)).heap.size = wr.heap.size + 1 := by simp
        have hb1 := hbel.trans (ab1.mono hszr)
        have hb2 := hb1.trans (ab2.mono (by omega))
        have HSKIP : Hid (sb = false → Hid (m = (scanL lo hi (S.take (j + 1))).length) ∧ (wr.alloc (.cells #[.string sk, .string sv, .int .i64 so] 86)).ownsRow w2.heap.size 53 2 (.slice va m vc) m (rowsOf prCells (scanL lo hi (S.take (j + 1))))) := fun h => by
          rw [h] at hsn
          simp at hsn
          rw [hsn]
          exact ⟨HMM, owns_below hown ab1⟩
        have HRW : Hid (((wr.alloc (.cells #[.string sk, .string sv, .int .i64 so] 86)).alloc (.cells #[.string sk, .string sv] 53)).ownsRow w2.heap.size 53 2 (.slice va m vc) m (rowsOf prCells (scanL lo hi (S.take j)))) := owns_below (owns_below hown ab1) ab2
        have hNs : w2.heap.size ≤ ((wr.alloc (.cells #[.string sk, .string sv, .int .i64 so] 86)).alloc (.cells #[.string sk, .string sv] 53)).heap.size := by have := ab1.size; have := ab2.size; omega
        have hcl := fun k hk => (owns_below (owns_below hown ab1) ab2).lt k hk
        have HPU0 : Hid (sb = true → ∀ v' w6, w6.ownsRow w2.heap.size 53 2 v' (m + 1) (rowsOf prCells (scanL lo hi (S.take j)) ++ [.string sk, .string sv]) → ((wr.alloc (.cells #[.string sk, .string sv, .int .i64 so] 86)).alloc (.cells #[.string sk, .string sv] 53)).grownBy w6 (Value.slice va m vc).ownBlock → ∃ va' vc', v' = .slice va' (m + 1) vc' ∧ w6.ownsRow w2.heap.size 53 2 (.slice va' (m + 1) vc') (m + 1) (rowsOf prCells (scanL lo hi (S.take (j + 1)))) ∧ Below w2.heap.size w2 w6 ∧ Hid (m + 1 = (scanL lo hi (S.take (j + 1))).length)) := fun h v' w6 h1 h2 => by
          rw [h] at hsn
          simp only [if_true] at hsn
          obtain ⟨va', vc', rfl⟩ := own_shape h1
          refine ⟨va', vc', rfl, by rw [hsn, rowsOf_append]; exact h1, hb2.trans ((Fr.of_grown (S := fun k => w2.heap.size ≤ k) h2 (fun k e => (hcl k e).1)).below hNs (fun k hk => hk)), ?_⟩
          show _ = _
          rw [hsn, List.length_append, ← HMM.out]
          rfl
        unfold scanB at hsb
        have HSB : Hid (((Op.bytesLess lo.toList sk.toList || lo.toList == sk.toList) && (hi.toList.isEmpty || Op.bytesLess sk.toList hi.toList)) = sb) := hsb
        have hcells := cell_two_newT (wr.alloc (.cells #[.string sk, .string sv, .int .i64 so] 86)) (.string sk) (.string sv) 53
        rw [z1] at hcells
        clear hsn hsb ab1 ab2 hown HMM hcl hb2
        by_cases t1 : (Op.bytesLess lo.toList sk.toList || lo.toList == sk.toList) = true
        · by_cases t2 : hi.toList = []
          · have hsb : sb = true := by rw [← HSB.out, t1, t2]; rfl
            have HPU : Hid _ := HPU0.out hsb
            clear HPU0 HSKIP HSB hsb
            go_wp2_with (at_builtin; refine wpList_append_ownD _ rfl _ _ 28 rfl w2.heap.size 53 ip _ 2 32 Try.underlying28 hip hp0 hp1 hp2 rfl (by decide) (.slice va m vc) m _ rfl HRW.out ⟨wr.heap.size + 1, 0, none⟩ 1 1 [.string sk, .string sv] rfl rfl hcells (by simp [Value.oneCell']) (by unfold maxLen; omega) (by omega) hNs ?_; intro v' w6 h1 h2 h3; obtain ⟨va', vc', rfl, R1, R2, R3⟩ := HPU.out v' w6 h1 h2; clear h1 h2 h3 HPU HRW)
            go_roundw
            case rel => exact ⟨j + 1, m + 1, va', vc', by omega, by go_num, rfl, by omega, R3, R1, R2⟩
            case measure => simp [intOf]; omega
          · have t2' : hi.toList.isEmpty = false := by simpa using t2
            by_cases t3 : Op.bytesLess sk.toList hi.toList = true
            · have hsb : sb = true := by rw [← HSB.out, t1, t3]; simp
              have HPU : Hid _ := HPU0.out hsb
              clear HPU0 HSKIP HSB hsb
              go_wp2_with (at_builtin; refine wpList_append_ownD _ rfl _ _ 28 rfl w2.heap.size 53 ip _ 2 32 Try.underlying28 hip hp0 hp1 hp2 rfl (by decide) (.slice va m vc) m _ rfl HRW.out ⟨wr.heap.size + 1, 0, none⟩ 1 1 [.string sk, .string sv] rfl rfl hcells (by simp [Value.oneCell']) (by unfold maxLen; omega) (by omega) hNs ?_; intro v' w6 h1 h2 h3; obtain ⟨va', vc', rfl, R1, R2, R3⟩ := HPU.out v' w6 h1 h2; clear h1 h2 h3 HPU HRW)
              go_roundw
              case rel => exact ⟨j + 1, m + 1, va', vc', by omega, by go_num, rfl, by omega, R3, R1, R2⟩
              case measure => simp [intOf]; omega
            · have t3' : Op.bytesLess sk.toList hi.toList = false := by simpa using t3
              have hsb : sb = false := by rw [← HSB.out, t1, t3']; simpa using t2
              subst hsb
              clear HPU0 HSB HRW t3
              go_wp2_with fail
              go_roundw
              case rel => exact ⟨j + 1, m, va, vc, by omega, by go_num, rfl, by omega, (HSKIP.out rfl).1, (HSKIP.out rfl).2, hb1⟩
              case measure => simp [intOf]; omega
        · have t1' : (Op.bytesLess lo.toList sk.toList || lo.toList == sk.toList) = false := by simpa using t1
          have hsb : sb = false := by rw [← HSB.out, t1']; rfl
          subst hsb
          clear HPU0 HSB HRW t1
          go_wp2_with fail
          go_roundw
          case rel => exact ⟨j + 1, m, va, vc, by omega, by go_num, rfl, by omega, (HSKIP.out rfl).1, (HSKIP.out rfl).2, hb1⟩
          case measure => simp [intOf]; omega
      · have HALL : Hid (scanL lo hi (S.take j) = scanL lo hi S) := by
          show _ = _
          rw [List.take_of_length_le (by have := HSN.out; omega)]
        rw [HALL.out] at hown HMM
        have hm2 : m = (scanL lo hi S).length := HMM.out
        have HFIN : Hid (ScanAns (scanL lo hi S) w (.returned (.slice va m vc)) wr) := ⟨va, vc, by rw [hm2], by rw [← hm2]; exact owns_base hown hsz2, HB2.out wr hbel⟩
        clear hown HMM hm2 HALL
        go_wp2_with fail
        go_ret
        exact ⟨scanL lo hi S, ⟨fun h => absurd HOK.out.1 h, fun _ => ⟨t, met, HOK.out.2, by rw [HS.out]⟩⟩, HFIN.out⟩
  · obtain rfl := hno h
    have HNO : Hid (¬ ImplOk ts) := h
    clear hno hyes h
    go_wp2_with fail
    go_ret
    exact ⟨[], ⟨fun _ => rfl, fun h => absurd h HNO.out⟩, none, 0, rfl, World.ownsRow_nil _ _ _ _, b1⟩
end Go.Proofs.Ytpmagndofiaooaa
