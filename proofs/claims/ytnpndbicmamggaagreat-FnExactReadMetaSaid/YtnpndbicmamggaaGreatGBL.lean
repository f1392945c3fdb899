import Derived.Test.YtnpndbicmamggaaGreatGBG
import Derived.Test.YtnpndbicmamggaaGreatGBI
import Derived.Test.YtnpndbicmamggaaGreatGBJ
import Derived.Test.YtnpndbicmamggaaGreatGBK
namespace Go.Proofs.YtnpndbicmamggaaGreat
open Go.RowKit Go.Maps
set_option linter.unusedVariables false
set_option maxRecDepth 100000

theorem cutP_len (fb : List Int) (j : Nat) : (cutP fb j).length = if j * 128 + 128 ≤ fb.length then 128 else 0 := by
  unfold cutP
  split
  · simp; omega
  · rfl
theorem cutP_byte {fb : List Int} (h : ∀ x ∈ fb, 0 ≤ x ∧ x ≤ 255) (j : Nat) : ∀ x ∈ cutP fb j, 0 ≤ x ∧ x ≤ 255 := by
  unfold cutP
  split
  · exact fun x hx => h x (List.mem_of_mem_drop (List.mem_of_mem_take hx))
  · intro x hx; cases hx
theorem BytesAt.part {w : World} {A B : Nat} {b off n c j : Nat} {fb : List Int} (h : BytesAt w A B (some ⟨b, off, none⟩) n c fb) (hj : j * 128 + 128 ≤ n) : BytesAt w A B (some ⟨b, off + j * 128, none⟩) 128 (c - j * 128) ((fb.drop (j * 128)).take 128) := by
  obtain ⟨h1, h2, h3, h4, h5, h6⟩ := h
  refine ⟨by simp; omega, by omega, by omega, fun x hx => h4 x (List.mem_of_mem_drop (List.mem_of_mem_take hx)), fun hn => ?_, fun e => by cases e⟩
  obtain ⟨b', off', e, hlt, hc⟩ := h5 (by omega)
  cases e
  refine ⟨b, off + j * 128, rfl, hlt, fun i hi => ?_⟩
  rw [show off + j * 128 + i = off + (j * 128 + i) by omega, hc _ (by omega)]
  simp only [List.getD, List.getElem?_take_of_lt hi, List.getElem?_drop]
set_option maxHeartbeats 800000 in
theorem l4At_any (a : Option Addr) (n c : Nat) (fb : List Int) (j : Nat) (hj : j ≤ 2) (w : World) (A B : Nat) (hB : B ≤ w.heap.size) (hb : BytesAt w A B a n c fb) :
    Calls Tryz.prog 25 #[.slice a n c, .int .i64 (j : Int)] w fun e w' => ∃ a' c', e = .returned (.slice a' (cutP fb j).length c') ∧ BytesAt w' A w'.heap.size a' (cutP fb j).length c' (cutP fb j) ∧ Below w.heap.size w w' := by
  have hl := hb.1
  have hnc := hb.2.1
  have hc0 := hb.2.2.1
  unfold maxLen at hc0
  have hlen := cutP_len fb j
  by_cases h : j * 128 + 128 ≤ n
  · obtain ⟨b, off, rfl, hlt, _⟩ := hb.2.2.2.2.1 (by omega)
    have hp := hb.part h
    have e1 : cutP fb j = (fb.drop (j * 128)).take 128 := if_pos (by omega)
    have e2 : (cutP fb j).length = 128 := by rw [hlen, if_pos (by omega)]
    have HP : Hid (BytesAt w A B (some ⟨b, off + j * 128, none⟩) 128 (c - j * 128) (cutP fb j)) := by rw [e1]; exact hp
    have hq : ¬ (n : Int) / 128 ≤ (j : Int) := by omega
    rw [e2]
    clear hp e1 e2 hlen hl hb
    go_enter Tryz.func25, Tryz.ntmps25
    go_wp2
    go_ret
    exact ⟨some ⟨b, off + j * 128, none⟩, c - j * 128, by rw [show (j + 1) * 128 - j * 128 = 128 by omega]; rfl, HP.out.up (Nat.le_refl _) hB, Below.refl _ _⟩
  · have e1 : cutP fb j = [] := if_neg (by omega)
    have hq : (n : Int) / 128 ≤ (j : Int) := by omega
    rw [e1]
    clear hlen hl hb
    go_enter Tryz.func25, Tryz.ntmps25
    go_wp2
    go_ret
    exact ⟨some ⟨w.heap.size, 0, none⟩, 0, rfl, bytesAt_none _ 0 (by unfold maxLen; omega), (Below.refl _ _).alloc (Nat.le_refl _) _⟩
/-- The bytes of the file of a name as seen. -/
def fileB (fs : List PF) (ps : List PP) (cp fu : Int) (nm : ByteArray) : List Int := if specV fs ps cp fu = true then dataN (lastF ps fs) nm else []
set_option maxHeartbeats 1600000 in
theorem l4File_any (nm : ByteArray) (hnm : nm.size ≤ maxLen) (a : Option Addr) (n c : Nat) (fs : List PF) (b : Option Addr) (m d : Nat) (ps : List PP) (cp fu : Int) (de : Bool) (w : World) (A B : Nat) (hB : B ≤ w.heap.size) (hF : FilesAt w A B a n c fs) (hP : PendsAt w A B b m d ps)
    (hall : ∀ j, j < n → (fs.getD j (ByteArray.empty, [])).2.length ≤ 1048576) :
    Calls Tryz.prog 13 #[.agg #[.slice a n c, .slice b m d, .int .i64 cp, .int .i64 fu, .bool de], .string nm] w fun e w' => ∃ a' c', e = .returned (.slice a' (fileB fs ps cp fu nm).length c') ∧ BytesAt w' w.heap.size w'.heap.size a' (fileB fs ps cp fu nm).length c' (fileB fs ps cp fu nm) ∧ Below w.heap.size w w' := by
  have hb0 : Below w.heap.size w (w.alloc (.cells #[.slice a n c, .slice b m d, .int .i64 cp, .int .i64 fu, .bool de] 35)) := (Below.refl _ _).alloc (Nat.le_refl _) _
  have k0 := heap_alloc_new w (.cells #[.slice a n c, .slice b m d, .int .i64 cp, .int .i64 fu, .bool de] 35)
  have z0 : (w.alloc (.cells #[.slice a n c, .slice b m d, .int .i64 cp, .int .i64 fu, .bool de] 35)).heap.size = w.heap.size + 1 := by simp
  have HF : Hid (∀ W, Below w.heap.size w W → FilesAt W A B a n c fs) := fun W hW => hF.below (hW.mono hB)
  have HP : Hid (∀ W, Below w.heap.size w W → PendsAt W A B b m d ps) := fun W hW => hP.below (hW.mono hB)
  have HFL : Hid (fs.length = n) := hF.1
  have HA : Hid (∀ j, j < n → (fs.getD j (ByteArray.empty, [])).2.length ≤ 1048576) := hall
  clear hF hP hall
  obtain ⟨fb, hfb⟩ : ∃ fb, fb = fileB fs ps cp fu nm := ⟨_, rfl⟩
  rw [← hfb]
  have HFB : Hid (fb = fileB fs ps cp fu nm) := hfb
  clear hfb
  go_enter Tryz.func13, Tryz.ntmps13
  go_wp2_with fail
  generalize w.alloc (.cells #[.slice a n c, .slice b m d, .int .i64 cp, .int .i64 fu, .bool de] 35) = W0 at hb0 k0 z0 ⊢
  refine (specValid_any a n c fs b m d ps cp fu de W0 A B (by omega) (HF.out _ hb0) (HP.out _ hb0) HA.out).mono ?_
  rintro e w1 ⟨rfl, hb1⟩
  have bel1 : Below w.heap.size w w1 := hb0.trans (hb1.mono (by omega))
  have X1 := box_below k0 hb1
  have s1 := hb1.size
  have l1 : w.heap.size < w1.heap.size := by omega
  obtain ⟨vv, hvv⟩ : ∃ v, v = specV fs ps cp fu := ⟨_, rfl⟩
  rw [← hvv]
  have HV : Hid (vv = specV fs ps cp fu) := hvv
  clear hvv hb0 hb1 k0 z0 s1
  cases vv
  · have e1 : fb = [] := by rw [HFB.out]; unfold fileB; rw [← HV.out]; simp
    subst e1
    go_wp2_with fail
    go_ret
    exact ⟨some ⟨w1.heap.size, 0, none⟩, 0, rfl, bytesAt_none _ 0 (by unfold maxLen; omega), bel1.trans ((Below.refl _ _).alloc bel1.size _)⟩
  · have e1 : fb = dataN (lastF ps fs) nm := by rw [HFB.out]; unfold fileB; rw [← HV.out]; simp
    have HE : Hid (fb = dataN (lastF ps fs) nm) := e1
    obtain ⟨q1, q2, q3, q4, q5⟩ := specV_parts HV.out.symm
    have HQ4 : Hid (cacheS cp ps fs = true) := q4
    have hn12 : n ≤ 12 := by have := HFL.out; omega
    obtain ⟨x0, x1, x2, x3, x4⟩ := box_fiveC X1
    clear e1 q1 q4 q5 HFB HV
    go_wp2_with fail
    clear x0 x1 x2 x3 x4 X1
    refine (l1Seen_any a n c fs b m d ps cp fu de w1 A B (by omega) (HF.out _ bel1) (HP.out _ bel1) hn12 q2 q3 HQ4.out).mono ?_
    rintro e w2 ⟨v2, xs2, vs2, rfl, hO2, hb2⟩
    obtain ⟨a2, n2, c2, rfl, hn2, hF2⟩ := hO2.files
    have bel2 : Below w.heap.size w w2 := bel1.trans (hb2.mono bel1.size)
    have s2 := hb2.size
    clear hO2 hb2 HQ4 hn2
    go_wp2_with fail
    refine (l1Find_any _ _ _ (lastF ps fs) nm w2 _ _ hF2).mono ?_
    rintro e w3 ⟨rfl, rfl⟩
    rcases findI_cases (lastF ps fs) nm with ⟨e1, e2⟩ | ⟨e1, e2⟩
    · rw [e1]
      have e3 : fb = [] := by rw [HE.out]; exact dataN_none (by omega)
      subst e3
      clear e1 e2 hF2
      go_wp2_with fail
      go_ret
      exact ⟨some ⟨w3.heap.size, 0, none⟩, 0, rfl, bytesAt_none _ 0 (by unfold maxLen; omega), bel2.trans ((Below.refl _ _).alloc bel2.size _)⟩
    · rw [e1]
      obtain ⟨hc1, hc2, hc3, hcell⟩ := hF2
      obtain ⟨ab, aoff, rfl, hab, hcb⟩ := hcell (by omega)
      obtain ⟨p1, p2, pa, pn, pc, p3, p4⟩ := hcb (findN (lastF ps fs) nm) (by omega)
      have e3 : fb = ((lastF ps fs).getD (findN (lastF ps fs) nm) (ByteArray.empty, [])).2 := by rw [HE.out]; unfold dataN; rw [if_pos e2]
      have e4 : pn = fb.length := by rw [e3]; exact p4.1.symm
      have HB : Hid (BytesAt w3 w.heap.size w3.heap.size pa fb.length pc fb) := by
        have h4 := p4
        rw [← e3, e4] at h4
        exact h4.up (by omega) (Nat.le_refl _)
      have hii : findN (lastF ps fs) nm < n2 := by omega
      unfold maxLen at hc3
      obtain ⟨ix, hix⟩ : ∃ ix, ix = findN (lastF ps fs) nm := ⟨_, rfl⟩
      rw [← hix] at hii p3 ⊢
      rw [e4] at p3
      clear e1 e2 e3 e4 hcb hcell p4 p1 p2 hix HE hc1
      go_wp2_with fail
      go_ret
      exact ⟨pa, pc, rfl, HB.out, bel2⟩
/-- A page that was read, and the answer so far, in letters. -/
theorem mStep_take {bs : List Int} {ok : Bool} {kd tx id rt ct nx : Int} {kl : List PK} {el : List PE} {da : ByteArray} {j : Nat} {s : MR} (h : (ok, (⟨kd, tx, id, rt, ct, kl, el, nx, da⟩ : Pg)) = New.decR bs) (h1 : kd = 1) (h2 : tx % 2 = (j : Int)) (h3 : s.tx < tx) : mStep bs j s = ⟨true, tx, id, rt, ct⟩ := by
  unfold mStep
  rw [← h, if_pos ⟨h1, h2, h3⟩]
theorem mStep_leave {bs : List Int} {ok : Bool} {kd tx id rt ct nx : Int} {kl : List PK} {el : List PE} {da : ByteArray} {j : Nat} {s : MR} (h : (ok, (⟨kd, tx, id, rt, ct, kl, el, nx, da⟩ : Pg)) = New.decR bs) (h1 : ¬ (kd = 1 ∧ tx % 2 = (j : Int) ∧ s.tx < tx)) : mStep bs j s = s := by
  unfold mStep
  rw [← h, if_neg h1]
set_option maxHeartbeats 3200000 in
theorem l4Meta_any (a : Option Addr) (n c : Nat) (fb : List Int) (w : World) (A B : Nat) (hB : B ≤ w.heap.size) (hb : BytesAt w A B a n c fb) :
    Calls Tryz.prog 12 #[.slice a n c] w fun e w' => e = .returned (.agg (mIter (fun j => cutP fb j) 2).cells) ∧ Below w.heap.size w w' := by
  have HB : Hid (∀ W, Below w.heap.size w W → BytesAt W A B a n c fb) := fun W hW => hb.below (hW.mono hB)
  have HBY : Hid (∀ x ∈ fb, 0 ≤ x ∧ x ≤ 255) := hb.2.2.2.1
  obtain ⟨W0, hW0⟩ : ∃ W0, W0 = (w.alloc (.cells #[.bool false, .int .i64 0, .int .i64 0, .int .i64 0, .int .i64 0] 30)).alloc (.cells #[.bool false, .int .i64 0, .int .i64 0, .int .i64 0, .int .i64 0] 30) := ⟨_, rfl⟩
  have z : ∀ (X : World) (x : Obj), (X.alloc x).heap.size = X.heap.size + 1 := fun X x => by simp
  have hs0 : W0.heap.size = w.heap.size + 2 := by rw [hW0]; simp
  have hb0 : Below w.heap.size w W0 := by rw [hW0]; exact ((Below.refl _ _).alloc (Nat.le_refl _) _).alloc (by simp) _
  have k0 : W0.heap[w.heap.size]? = some (.cells #[.bool false, .int .i64 0, .int .i64 0, .int .i64 0, .int .i64 0] 30) := by rw [hW0, heap_alloc_old _ _ (by simp)]; exact heap_alloc_new _ _
  have k1 : W0.heap[w.heap.size + 1]? = some (.cells #[.bool false, .int .i64 0, .int .i64 0, .int .i64 0, .int .i64 0] 30) := by rw [hW0]; have := heap_alloc_new (w.alloc (.cells #[.bool false, .int .i64 0, .int .i64 0, .int .i64 0, .int .i64 0] 30)) (.cells #[.bool false, .int .i64 0, .int .i64 0, .int .i64 0, .int .i64 0] 30); rwa [z] at this
  have HW0 : Hid (W0 = (w.alloc (.cells #[.bool false, .int .i64 0, .int .i64 0, .int .i64 0, .int .i64 0] 30)).alloc (.cells #[.bool false, .int .i64 0, .int .i64 0, .int .i64 0, .int .i64 0] 30)) := hW0
  have H0 : Hid (w.heap.size + 2 ≤ W0.heap.size ∧ W0.heap[w.heap.size]? = some (.cells #[.bool false, .int .i64 0, .int .i64 0, .int .i64 0, .int .i64 0] 30) ∧ W0.heap[w.heap.size + 1]? = some (.cells (mIter (fun j => cutP fb j) 0).cells 30) ∧ Below w.heap.size w W0) := ⟨by omega, k0, k1, hb0⟩
  obtain ⟨R, hR⟩ : ∃ R, R = mIter (fun j => cutP fb j) 2 := ⟨_, rfl⟩
  rw [← hR]
  have HR : Hid (R = mIter (fun j => cutP fb j) 2) := hR
  clear hb hW0 hs0 hb0 k0 k1 z hR
  go_enter Tryz.func12, Tryz.ntmps12
  go_wp2_with fail
  rw [← HW0.out]
  clear HW0
  go_loopw [4, 5] (fun i _ wr => ∃ (k : Nat), k ≤ 2 ∧ i = .int .i64 k ∧ Hid (w.heap.size + 2 ≤ wr.heap.size ∧ wr.heap[w.heap.size]? = some (.cells #[.bool false, .int .i64 0, .int .i64 0, .int .i64 0, .int .i64 0] 30) ∧ wr.heap[w.heap.size + 1]? = some (.cells (mIter (fun j => cutP fb j) k).cells 30) ∧ Below w.heap.size w wr)) (fun i _ _ => 2 - (intOf i).toNat)
  case atStart => exact ⟨0, by omega, rfl, H0⟩
  case round =>
    clear H0
    obtain ⟨k, hk, rfl, HX⟩ := hrel
    by_cases hlt : k < 2
    · have hs1 := HX.out.1
      go_wp2_with fail
      refine (l4At_any a n c fb k (by omega) wr A B (by have := HX.out.2.2.2.size; omega) (HB.out _ HX.out.2.2.2)).mono ?_
      rintro e w2 ⟨a2, c2, rfl, hb2, hbel2⟩
      go_wp2_with fail
      obtain ⟨D, hD⟩ : ∃ D, D = New.decR (cutP fb k) := ⟨_, rfl⟩
      have hspec := New.dec_spec a2 _ c2 (cutP fb k) w2 A w2.heap.size (Nat.le_refl _) hb2
      have htx := decR_tx (cutP_byte HBY.out k)
      have hok0 := decR_false (bs := cutP fb k)
      rw [← hD] at hspec htx hok0
      obtain ⟨ok, kd, tx, id, rt, ct, kl, el, nx, da⟩ := D
      simp only at hspec htx hok0
      have HD : Hid ((ok, (⟨kd, tx, id, rt, ct, kl, el, nx, da⟩ : Pg)) = New.decR (cutP fb k)) := hD
      have HOK : Hid (ok = false → kd = 0) := hok0
      clear hD hb2 hok0
      refine hspec.mono ?_
      rintro e w3 ⟨va, vc, ea, ec, rfl, _, _, _, hbel3⟩
      have B3 : Below wr.heap.size wr w3 := hbel2.trans (hbel3.mono hbel2.size)
      have X0 := box_below HX.out.2.1 B3
      have X1 := box_below HX.out.2.2.1 B3
      have s3 := B3.size
      have BW : Below w.heap.size w w3 := HX.out.2.2.2.trans (B3.mono HX.out.2.2.2.size)
      obtain ⟨s, hs⟩ : ∃ s, s = mIter (fun j => cutP fb j) k := ⟨_, rfl⟩
      rw [← hs] at X1
      have HS : Hid (mIter (fun j => cutP fb j) (k + 1) = mStep (cutP fb k) k s) := by show _ = _; rw [hs]; rfl
      clear hs hbel2 hbel3 B3 hspec HX
      obtain ⟨so, st, si, sr, sc⟩ := s
      simp only [MR.cells] at X1
      obtain ⟨o0, o1, o2, o3, o4⟩ := box_fiveC X1
      have ofz := box_thawC X1
      have l3 : w.heap.size + 1 < w3.heap.size := by omega
      have hal := (Below.refl w3.heap.size w3).alloc (Nat.le_refl _) (.cells #[.bool ok, .int .i64 kd, .int .i64 tx, .int .i64 id, .int .i64 rt, .int .i64 ct, .slice va kl.length vc, .slice ea el.length ec, .int .i64 nx, .string da] 66)
      have Y0 := box_below X0 hal
      have Y1 := box_below X1 hal
      have y3 : w.heap.size + 2 ≤ (w3.alloc (.cells #[.bool ok, .int .i64 kd, .int .i64 tx, .int .i64 id, .int .i64 rt, .int .i64 ct, .slice va kl.length vc, .slice ea el.length ec, .int .i64 nx, .string da] 66)).heap.size := by simp; omega
      have YW : Below w.heap.size w (w3.alloc (.cells #[.bool ok, .int .i64 kd, .int .i64 tx, .int .i64 id, .int .i64 rt, .int .i64 ct, .slice va kl.length vc, .slice ea el.length ec, .int .i64 nx, .string da] 66)) := BW.trans (hal.mono BW.size)
      have HLV : Hid (mStep (cutP fb k) k ⟨so, st, si, sr, sc⟩ = ⟨so, st, si, sr, sc⟩ → (w.heap.size + 2 ≤ (w3.alloc (.cells #[.bool ok, .int .i64 kd, .int .i64 tx, .int .i64 id, .int .i64 rt, .int .i64 ct, .slice va kl.length vc, .slice ea el.length ec, .int .i64 nx, .string da] 66)).heap.size ∧ (w3.alloc (.cells #[.bool ok, .int .i64 kd, .int .i64 tx, .int .i64 id, .int .i64 rt, .int .i64 ct, .slice va kl.length vc, .slice ea el.length ec, .int .i64 nx, .string da] 66)).heap[w.heap.size]? = some (.cells #[.bool false, .int .i64 0, .int .i64 0, .int .i64 0, .int .i64 0] 30) ∧ (w3.alloc (.cells #[.bool ok, .int .i64 kd, .int .i64 tx, .int .i64 id, .int .i64 rt, .int .i64 ct, .slice va kl.length vc, .slice ea el.length ec, .int .i64 nx, .string da] 66)).heap[w.heap.size + 1]? = some (.cells (mIter (fun j => cutP fb j) (k + 1)).cells 30) ∧ Below w.heap.size w (w3.alloc (.cells #[.bool ok, .int .i64 kd, .int .i64 tx, .int .i64 id, .int .i64 rt, .int .i64 ct, .slice va kl.length vc, .slice ea el.length ec, .int .i64 nx, .string da] 66)))) := fun h => ⟨y3, Y0, by rw [HS.out, h]; exact Y1, YW⟩
      have HTK : Hid (mStep (cutP fb k) k ⟨so, st, si, sr, sc⟩ = ⟨true, tx, id, rt, ct⟩ → (w.heap.size + 2 ≤ ((put5C w3 (w.heap.size + 1) (.bool true) (.int .i64 tx) (.int .i64 id) (.int .i64 rt) (.int .i64 ct)).alloc (.cells #[.bool ok, .int .i64 kd, .int .i64 tx, .int .i64 id, .int .i64 rt, .int .i64 ct, .slice va kl.length vc, .slice ea el.length ec, .int .i64 nx, .string da] 66)).heap.size ∧ ((put5C w3 (w.heap.size + 1) (.bool true) (.int .i64 tx) (.int .i64 id) (.int .i64 rt) (.int .i64 ct)).alloc (.cells #[.bool ok, .int .i64 kd, .int .i64 tx, .int .i64 id, .int .i64 rt, .int .i64 ct, .slice va kl.length vc, .slice ea el.length ec, .int .i64 nx, .string da] 66)).heap[w.heap.size]? = some (.cells #[.bool false, .int .i64 0, .int .i64 0, .int .i64 0, .int .i64 0] 30) ∧ ((put5C w3 (w.heap.size + 1) (.bool true) (.int .i64 tx) (.int .i64 id) (.int .i64 rt) (.int .i64 ct)).alloc (.cells #[.bool ok, .int .i64 kd, .int .i64 tx, .int .i64 id, .int .i64 rt, .int .i64 ct, .slice va kl.length vc, .slice ea el.length ec, .int .i64 nx, .string da] 66)).heap[w.heap.size + 1]? = some (.cells (mIter (fun j => cutP fb j) (k + 1)).cells 30) ∧ Below w.heap.size w ((put5C w3 (w.heap.size + 1) (.bool true) (.int .i64 tx) (.int .i64 id) (.int .i64 rt) (.int .i64 ct)).alloc (.cells #[.bool ok, .int .i64 kd, .int .i64 tx, .int .i64 id, .int .i64 rt, .int .i64 ct, .slice va kl.length vc, .slice ea el.length ec, .int .i64 nx, .string da] 66)))) := fun h => by
        have hf := put5C_fr w3 (w.heap.size + 1) (.bool true) (.int .i64 tx) (.int .i64 id) (.int .i64 rt) (.int .i64 ct)
        have hal2 := (Below.refl _ (put5C w3 (w.heap.size + 1) (.bool true) (.int .i64 tx) (.int .i64 id) (.int .i64 rt) (.int .i64 ct))).alloc (Nat.le_refl _) (.cells #[.bool ok, .int .i64 kd, .int .i64 tx, .int .i64 id, .int .i64 rt, .int .i64 ct, .slice va kl.length vc, .slice ea el.length ec, .int .i64 nx, .string da] 66)
        have bz : Below w.heap.size w (put5C w3 (w.heap.size + 1) (.bool true) (.int .i64 tx) (.int .i64 id) (.int .i64 rt) (.int .i64 ct)) := BW.trans (hf.below BW.size (fun g e => by omega))
        refine ⟨Nat.le_trans (show w.heap.size + 2 ≤ w3.heap.size by omega) (Nat.le_trans hf.size hal2.size), box_below (box_fr X0 hf (by omega)) hal2, ?_, bz.trans (hal2.mono bz.size)⟩
        rw [HS.out, h]
        exact box_below (put5C_box X1 _ _ _ _ _) hal2
      have LV : ¬ (kd = 1 ∧ tx % 2 = (k : Int) ∧ st < tx) → Hid (w.heap.size + 2 ≤ (w3.alloc (.cells #[.bool ok, .int .i64 kd, .int .i64 tx, .int .i64 id, .int .i64 rt, .int .i64 ct, .slice va kl.length vc, .slice ea el.length ec, .int .i64 nx, .string da] 66)).heap.size ∧ (w3.alloc (.cells #[.bool ok, .int .i64 kd, .int .i64 tx, .int .i64 id, .int .i64 rt, .int .i64 ct, .slice va kl.length vc, .slice ea el.length ec, .int .i64 nx, .string da] 66)).heap[w.heap.size]? = some (.cells #[.bool false, .int .i64 0, .int .i64 0, .int .i64 0, .int .i64 0] 30) ∧ (w3.alloc (.cells #[.bool ok, .int .i64 kd, .int .i64 tx, .int .i64 id, .int .i64 rt, .int .i64 ct, .slice va kl.length vc, .slice ea el.length ec, .int .i64 nx, .string da] 66)).heap[w.heap.size + 1]? = some (.cells (mIter (fun j => cutP fb j) (k + 1)).cells 30) ∧ Below w.heap.size w (w3.alloc (.cells #[.bool ok, .int .i64 kd, .int .i64 tx, .int .i64 id, .int .i64 rt, .int .i64 ct, .slice va kl.length vc, .slice ea el.length ec, .int .i64 nx, .string da] 66))) := fun h => HLV.out (mStep_leave HD.out h)
      clear hal Y0 Y1 y3 YW BW X0
      cases ok
      · have ek := HOK.out rfl
        have RR := LV (fun h => by rw [ek] at h; exact absurd h.1 (by decide))
        subst ek
        clear LV HD HTK HLV HOK
        go_wp2_with fail
        go_roundw
        case rel => exact ⟨k + 1, by omega, by go_num, RR⟩
        case measure => simp [intOf]; omega
      · clear HOK
        by_cases c1 : kd = 1
        · by_cases c2 : tx % 2 = (k : Int)
          · by_cases c3 : st < tx
            · have HRR : Hid _ := HTK.out (mStep_take HD.out c1 c2 c3)
              subst c1
              clear LV HD HTK HLV
              go_wp2_with fail
              go_roundw
              case rel => exact ⟨k + 1, by omega, by go_num, HRR⟩
              case measure => simp [intOf]; omega
            · have RR := LV (fun h => c3 h.2.2)
              subst c1
              clear LV HD HTK HLV
              go_wp2_with fail
              go_roundw
              case rel => exact ⟨k + 1, by omega, by go_num, RR⟩
              case measure => simp [intOf]; omega
          · have RR := LV (fun h => c2 h.2.1)
            subst c1
            clear LV HD HTK HLV
            go_wp2_with fail
            go_roundw
            case rel => exact ⟨k + 1, by omega, by go_num, RR⟩
            case measure => simp [intOf]; omega
        · have RR := LV (fun h => c1 h.1)
          clear LV HD HTK HLV
          go_wp2_with fail
          go_roundw
          case rel => exact ⟨k + 1, by omega, by go_num, RR⟩
          case measure => simp [intOf]; omega
    · have ek : k = 2 := by omega
      subst ek
      have XL := HX.out.2.2.1
      have X1 := HX.out.2.1
      have lL := HX.out.1
      have BW := HX.out.2.2.2
      rw [← HR.out] at XL
      clear HX
      obtain ⟨ro, rx, ri, rr, rc⟩ := R
      simp only [MR.cells] at XL
      obtain ⟨o0, o1, o2, o3, o4⟩ := box_fiveC XL
      obtain ⟨z0, z1, z2, z3, z4⟩ := box_fiveC X1
      have hz := box_thawC X1
      have X5 := put5C_box X1 (.bool ro) (.int .i64 rx) (.int .i64 ri) (.int .i64 rr) (.int .i64 rc)
      have hf := put5C_fr wr w.heap.size (.bool ro) (.int .i64 rx) (.int .i64 ri) (.int .i64 rr) (.int .i64 rc)
      have HB5 : Hid (Below w.heap.size w (put5C wr w.heap.size (.bool ro) (.int .i64 rx) (.int .i64 ri) (.int .i64 rr) (.int .i64 rc))) := BW.trans (hf.below BW.size (fun g e => by omega))
      have l0 : w.heap.size < wr.heap.size := by omega
      have l1 : w.heap.size + 1 < wr.heap.size := by omega
      clear hf BW
      go_wp2_with fail
      show bodyPost _ _ _ _ _ (put5C wr w.heap.size (.bool ro) (.int .i64 rx) (.int .i64 ri) (.int .i64 rr) (.int .i64 rc))
      clear z0 z1 z2 z3 z4 hz
      obtain ⟨z0, z1, z2, z3, z4⟩ := box_fiveC X5
      exact bodyPost_ret (v := .agg #[.bool ro, .int .i64 rx, .int .i64 ri, .int .i64 rr, .int .i64 rc]) (by simp [results, Tryz.results12, go_sem, z0, z1, z2, z3, z4]) rfl ⟨rfl, HB5.out⟩
/-- What the document's function answers. -/
def metaS (fs : List PF) (ps : List PP) (cp fu : Int) (nm : ByteArray) : MR := mIter (fun j => cutP (fileB fs ps cp fu nm) j) 2
set_option maxHeartbeats 800000 in
theorem specMeta_any (nm : ByteArray) (hnm : nm.size ≤ maxLen) (a : Option Addr) (n c : Nat) (fs : List PF) (b : Option Addr) (m d : Nat) (ps : List PP) (cp fu : Int) (de : Bool) (w : World) (A B : Nat) (hB : B ≤ w.heap.size) (hF : FilesAt w A B a n c fs) (hP : PendsAt w A B b m d ps)
    (hall : ∀ j, j < n → (fs.getD j (ByteArray.empty, [])).2.length ≤ 1048576) :
    Calls Tryz.prog 5 #[.agg #[.slice a n c, .slice b m d, .int .i64 cp, .int .i64 fu, .bool de], .string nm] w fun e w' => e = .returned (.agg (metaS fs ps cp fu nm).cells) ∧ Below w.heap.size w w' := by
  obtain ⟨W0, hW0⟩ : ∃ W0, W0 = (w.alloc (.cells #[.slice a n c, .slice b m d, .int .i64 cp, .int .i64 fu, .bool de] 35)).alloc (.cells #[.bool false, .int .i64 0, .int .i64 0, .int .i64 0, .int .i64 0] 30) := ⟨_, rfl⟩
  have z : ∀ (X : World) (x : Obj), (X.alloc x).heap.size = X.heap.size + 1 := fun X x => by simp
  have hs0 : W0.heap.size = w.heap.size + 2 := by rw [hW0]; simp
  have hb0 : Below w.heap.size w W0 := by rw [hW0]; exact ((Below.refl _ _).alloc (Nat.le_refl _) _).alloc (by simp) _
  have k1 : W0.heap[w.heap.size + 1]? = some (.cells #[.bool false, .int .i64 0, .int .i64 0, .int .i64 0, .int .i64 0] 30) := by rw [hW0]; have := heap_alloc_new (w.alloc (.cells #[.slice a n c, .slice b m d, .int .i64 cp, .int .i64 fu, .bool de] 35)) (.cells #[.bool false, .int .i64 0, .int .i64 0, .int .i64 0, .int .i64 0] 30); rwa [z] at this
  obtain ⟨R, hR⟩ : ∃ R, R = metaS fs ps cp fu nm := ⟨_, rfl⟩
  rw [← hR]
  have HR : Hid (R = metaS fs ps cp fu nm) := hR
  have HW0 : Hid _ := hW0
  clear hR hW0 z
  go_enter Tryz.func5, Tryz.ntmps5
  go_wp2_with fail
  rw [← HW0.out]
  refine (l4File_any nm hnm a n c fs b m d ps cp fu de W0 A B (by omega) (hF.below (hb0.mono hB)) (hP.below (hb0.mono hB)) hall).mono ?_
  rintro e w1 ⟨a1, c1, rfl, hby, hb1⟩
  go_wp2_with fail
  refine (l4Meta_any a1 _ c1 _ w1 W0.heap.size w1.heap.size (Nat.le_refl _) hby).mono ?_
  rintro e w2 ⟨rfl, hb2⟩
  have b2 : Below W0.heap.size W0 w2 := hb1.trans (hb2.mono hb1.size)
  have X := box_below k1 b2
  have s2 := b2.size
  have BW : Below w.heap.size w w2 := hb0.trans (b2.mono hb0.size)
  rw [show mIter (fun j => cutP (fileB fs ps cp fu nm) j) 2 = R from HR.out.symm]
  clear hb1 hb2 b2 hby k1 hb0 hF hP hall HR HW0
  obtain ⟨ro, rx, ri, rr, rc⟩ := R
  simp only [MR.cells]
  obtain ⟨z0, z1, z2, z3, z4⟩ := box_fiveC X
  have hz := box_thawC X
  have X5 := put5C_box X (.bool ro) (.int .i64 rx) (.int .i64 ri) (.int .i64 rr) (.int .i64 rc)
  have hf := put5C_fr w2 (w.heap.size + 1) (.bool ro) (.int .i64 rx) (.int .i64 ri) (.int .i64 rr) (.int .i64 rc)
  have HB5 : Hid (Below w.heap.size w (put5C w2 (w.heap.size + 1) (.bool ro) (.int .i64 rx) (.int .i64 ri) (.int .i64 rr) (.int .i64 rc))) := BW.trans (hf.below BW.size (fun g e => by omega))
  have l1 : w.heap.size + 1 < w2.heap.size := by omega
  clear hf BW
  go_wp2_with fail
  show bodyPost _ _ _ _ _ (put5C w2 (w.heap.size + 1) (.bool ro) (.int .i64 rx) (.int .i64 ri) (.int .i64 rr) (.int .i64 rc))
  clear z0 z1 z2 z3 z4 hz
  obtain ⟨z0, z1, z2, z3, z4⟩ := box_fiveC X5
  exact bodyPost_ret (v := .agg #[.bool ro, .int .i64 rx, .int .i64 ri, .int .i64 rr, .int .i64 rc]) (by simp [results, Tryz.results5, go_sem, z0, z1, z2, z3, z4]) rfl ⟨rfl, HB5.out⟩
end Go.Proofs.YtnpndbicmamggaaGreat
namespace Go.Proofs.YtnpndbicmamggaaGreat
open Go.RowKit Go.Maps
set_option linter.unusedVariables false
set_option maxRecDepth 100000

theorem files_byte {w : World} {A B : Nat} {a : Option Addr} {n c : Nat} {fs : List PF} (h : FilesAt w A B a n c fs) : ByteF fs := by
  obtain ⟨h1, h2, h3, h4⟩ := h
  intro nm x hx
  unfold dataN at hx
  by_cases hf : findN fs nm < fs.length
  · rw [if_pos hf] at hx
    obtain ⟨ab, aoff, _, _, hcb⟩ := h4 (by omega)
    obtain ⟨p1, p2, pa, pn, pc, p3, p4⟩ := hcb (findN fs nm) (by omega)
    exact p4.2.2.2.1 x hx
  · rw [if_neg hf] at hx; cases hx
set_option maxHeartbeats 3200000 in
theorem see_any (a : Option Addr) (n c : Nat) (fs : List PF) (b : Option Addr) (m d : Nat) (ps : List PP) (cp fu : Int) (de : Bool) (w : World) (A B : Nat) (hB : B ≤ w.heap.size) (hF : FilesAt w A B a n c fs) (hP : PendsAt w A B b m d ps)
    (hn : n ≤ 12) (hm : m ≤ 1000) (hcp : cp ≤ 1000) (htot : totalI fs ≤ cp) (hca : cacheS cp ps fs = true) (hI : Inv fs) :
    Calls Tryz.prog 17 #[.agg #[.slice a n c, .slice b m d, .int .i64 cp, .int .i64 fu, .bool de]] w fun e w' => ∃ (mb q : Nat) (D : DataW Unit), e = .returned (.map (some mb)) ∧ w.heap.size ≤ mb ∧ MapS w' mb q D ∧ q ≤ 2097152 ∧ RepS D (pageOf (lastF ps fs)) ∧ ByteF (lastF ps fs) ∧ Inv (lastF ps fs) ∧ Below w.heap.size w w' := by
  have hb0 : Below w.heap.size w (w.alloc (.cells #[.slice a n c, .slice b m d, .int .i64 cp, .int .i64 fu, .bool de] 35)) := (Below.refl _ _).alloc (Nat.le_refl _) _
  have k0 := heap_alloc_new w (.cells #[.slice a n c, .slice b m d, .int .i64 cp, .int .i64 fu, .bool de] 35)
  have hsm := small_of_total (fs := fs) (by omega)
  have hfl := hF.1
  have HBY : Hid (ByteF fs) := files_byte hF
  have HI : Hid (Inv fs) := hI
  have HCA : Hid (cacheS cp ps fs = true) := hca
  go_enter Tryz.func17, Tryz.ntmps17
  go_wp2_with fail
  refine (durable_any a n c fs b m d ps cp fu de _ A B (by simp; omega) (hF.below (hb0.mono hB)) (by omega) hI hn (fun j hj => Nat.le_trans (hsm j (by omega)) (by omega))).mono ?_
  rintro e w1 ⟨mb, q1, D1, rfl, hmb1, hM1, hq1, hR1, hb1⟩
  have hmb : w.heap.size < mb := by simp at hmb1; omega
  have F1 : Hid (Below w.heap.size w w1) := hb0.trans (hb1.mono (by simp))
  have hz1 : w.heap.size < w1.heap.size := by have := hb1.size; simp at this; omega
  have hbx1 : w1.heap[w.heap.size]? = some (.cells #[.slice a n c, .slice b m d, .int .i64 cp, .int .i64 fu, .bool de] 35) := (hb1.block _ (by simp)).trans k0
  have HBX : Hid (w1.heap[w.heap.size]? = some (.cells #[.slice a n c, .slice b m d, .int .i64 cp, .int .i64 fu, .bool de] 35)) := hbx1
  have HM1 : Hid (MapS w1 mb q1 D1) := hM1
  have HR1 : Hid (RepS D1 (pageOf fs)) := hR1
  have HPL : Hid (ps.length = m) := hP.1
  have HP : Hid (∀ W, Below w.heap.size w W → PendsAt W A B b m d ps) := fun W hW => hP.below (hW.mono hB)
  have pnc := hP.2.1
  have pc0 := hP.2.2.1
  unfold maxLen at pc0
  obtain ⟨y0, y1, y2⟩ := box_cells hbx1
  clear hF hca hI hb0 k0 hb1 hbx1 hM1 hR1 hsm hmb1 hP
  go_wp2
  clear y0 y1 y2
  go_loopw [5, 11] (fun _ i wr => ∃ (k q : Nat) (fk : List PF) (D : DataW Unit), k ≤ m ∧ i = .int .i64 k ∧ q ≤ 1048576 + k * 1001 ∧ Hid (MapS wr mb q D) ∧ Hid (RepS D (pageOf fk)) ∧ Hid (Inv fk) ∧ Hid (ByteF fk) ∧ Hid (totalI fk ≤ cp) ∧ Hid (cacheS cp (ps.drop k) fk = true) ∧ Hid (lastF ps fs = lastF (ps.drop k) fk) ∧ Hid (Below w.heap.size w wr)) (fun _ i _ => m - (intOf i).toNat)
  case atStart => exact ⟨0, q1, fs, D1, Nat.zero_le _, rfl, by omega, HM1, HR1, HI, HBY, htot, HCA, rfl, F1⟩
  case round =>
    clear F1 hz1 HBX HM1 HR1 HI HBY HCA
    obtain ⟨k, q, fk, D, hk, rfl, hq, HM, HR, HI, HBY, HT, HCA, HLA, HBE⟩ := hrel
    by_cases hlt : k < m
    · obtain ⟨_, _, _, pcell⟩ := HP.out wr HBE.out
      obtain ⟨pb, poff, rfl, hpb, hpc⟩ := pcell (by omega)
      have e1 := hpc k hlt
      have hpl := HPL.out
      have hdr : ps.drop k = ps.getD k (ByteArray.empty, 0, []) :: ps.drop (k + 1) := by
        rw [List.drop_eq_getElem_cons (by omega)]; simp [List.getD, List.getElem?_eq_getElem (show k < ps.length by omega)]
      obtain ⟨p, hp⟩ : ∃ p, p = ps.getD k (ByteArray.empty, 0, []) := ⟨_, rfl⟩
      rw [← hp] at e1 hdr
      clear hp
      obtain ⟨nm, pq, pd⟩ := p
      obtain ⟨g1, g2, g3, g4, da, dn, dc, g5, g6⟩ := e1
      simp only at g1 g2 g3 g4 g6
      have hca' := HCA.out
      rw [hdr] at hca'
      simp only [cacheS, Bool.and_eq_true, pendOk, fitsB, decide_eq_true_eq, beq_iff_eq] at hca'
      obtain ⟨⟨⟨t1, t2⟩, t3, t4⟩, ⟨t5, t6⟩, t7⟩ := hca'
      obtain ⟨pgN, rfl⟩ := Int.eq_ofNat_of_zero_le t3
      have hst : stepP fk (nm, (pgN : Int), pd) = doP fk nm pgN pd := by simp [stepP]
      rw [hst] at t5 t6 t7
      have L1 : Hid (lastF ps fs = lastF (ps.drop (k + 1)) (doP fk nm pgN pd)) := by show _ = _; rw [HLA.out, hdr]; simp only [lastF]; rw [hst]
      have hle := lenI_le_total fk nm
      have htk := HT.out
      have hpg : pgN ≤ 1000 := by omega
      have hdn : dn = 128 := by rw [← g6.1]; exact t2
      subst hdn
      have T6 : Hid (totalI (doP fk nm pgN pd) ≤ cp) := t6
      have T7 : Hid (cacheS cp (ps.drop (k + 1)) (doP fk nm pgN pd) = true) := t7
      have T4 : Hid ((pgN : Int) ≤ lenI fk nm) := t4
      have T2 : Hid (pd.length = 128) := t2
      have hbs := HBE.out.size
      have hbk : pb < wr.heap.size := by omega
      have HG6 : Hid (BytesAt wr A B da 128 dc pd) := g6
      have I1 : Hid (Inv (doP fk nm pgN pd)) := doP_inv HI.out
      have B1 : Hid (ByteF (doP fk nm pgN pd)) := HBY.out.do HI.out g6.2.2.2.1
      clear hpc pcell g6 t5 t6 t7 hdr hst hle htk t1 t2 t3 t4 hpl
      have hal : Below wr.heap.size wr (wr.alloc (.cells #[.string nm, .int .i64 (pgN : Int), .slice da 128 dc] 73)) := (Below.refl _ _).alloc (Nat.le_refl _) _
      go_wp2_with fail
      refine (write_any nm g2 pgN 128 (lenI fk nm).toNat mb q da dc pd D (pageOf fk) _ A B (by simp; omega) (HG6.out.below (hal.mono (by omega))) (.inr (by omega)) (Nat.le_refl _) (by omega) (by omega) (World.ownsMap.alloc HM.out _) HR.out (fun t => page_there HI.out nm t) (fun t bs hb => page_byte HBY.out nm t bs hb)).mono ?_
      rintro e w3 ⟨rfl, q3, D3, hq3, hM3, hR3, hF3⟩
      have R3 : Hid (RepS D3 (pageOf (doP fk nm pgN pd))) := hR3.congr fun nm' t => do_write HI.out T4.out T2.out nm' t
      have M3 : Hid (MapS w3 mb q3 D3) := hM3
      have E3 : Hid (Below w.heap.size w w3) := (HBE.out.trans (hal.mono (by omega))).trans (hF3.below (by simp; omega) (fun g e => by omega))
      clear hM3 hR3 hF3 hal
      go_wp2
      go_roundw
      case rel => exact ⟨k + 1, q3, doP fk nm pgN pd, D3, by omega, by go_num, by omega, M3, R3, I1, B1, T6, T7, L1, E3⟩
      case measure => simp [intOf]; omega
    · have HL : Hid (lastF ps fs = fk) := by show _ = _; rw [HLA.out, List.drop_eq_nil_of_le (by have := HPL.out; omega)]; rfl
      go_wp2
      go_ret
      exact ⟨mb, q, D, rfl, by omega, HM.out, by omega, by rw [HL.out]; exact HR.out, by rw [HL.out]; exact HBY.out, by rw [HL.out]; exact HI.out, HBE.out⟩
end Go.Proofs.YtnpndbicmamggaaGreat
namespace Go.Proofs.YtnpndbicmamggaaGreat
open Go.RowKit Go.Maps
set_option linter.unusedVariables false
set_option maxRecDepth 100000

theorem run_sliceAllM (g : Nat) (w : World) : (Instr.sliceAt 82 (.pointer (some ⟨g, 0, none⟩)) none none none).run Tryz.prog w = .ok (.slice (some ⟨g, 0, none⟩) 128 128) w := by
  rw [run_sliceAt_array_all w 82 _ arrSheet, elemSheet, show (sizeOf 5).run Tryz.prog w = .ok 1 w by kernel_rfl]
  simp [slicedAt, go_sem, Addr.add]
theorem sheet_bytes {w : World} {g : Nat} {bs : List Int} (h : w.heap[g]? = some (.cells (u8s bs).toArray 82)) (hl : bs.length = 128) (hb : ∀ x ∈ bs, 0 ≤ x ∧ x ≤ 255) : BytesAt w g (g + 1) (some ⟨g, 0, none⟩) 128 128 bs := by
  refine ⟨hl, Nat.le_refl _, by unfold maxLen; omega, hb, fun _ => ⟨g, 0, rfl, ⟨Nat.le_refl _, by omega⟩, fun i hi => ?_⟩, fun e => by cases e⟩
  rw [Nat.zero_add]
  simp only [World.cell?, h]
  simp [u8s, List.getD, List.getElem?_eq_getElem (show i < bs.length by omega)]
theorem box_nineM {w : World} {N : Nat} {v0 v1 v2 v3 v4 v5 v6 v7 v8 : Value} {t : TypeId} (h : w.heap[N]? = some (.cells #[v0, v1, v2, v3, v4, v5, v6, v7, v8] t)) : w.cell? ⟨N, 0, none⟩ = some v0 ∧ w.cell? ⟨N, 1, none⟩ = some v1 ∧ w.cell? ⟨N, 2, none⟩ = some v2 ∧ w.cell? ⟨N, 3, none⟩ = some v3 ∧ w.cell? ⟨N, 4, none⟩ = some v4 ∧ w.cell? ⟨N, 5, none⟩ = some v5 ∧ w.cell? ⟨N, 6, none⟩ = some v6 ∧ w.cell? ⟨N, 7, none⟩ = some v7 ∧ w.cell? ⟨N, 8, none⟩ = some v8 := by
  refine ⟨?_, ?_, ?_, ?_, ?_, ?_, ?_, ?_, ?_⟩ <;> simp [World.cell?, h]
def put9M (w : World) (N : Nat) (u0 u1 u2 u3 u4 u5 u6 u7 u8 : Value) : World := (((((((((w.setCell ⟨N, 0, none⟩ u0).setCell ⟨N, 1, none⟩ u1).setCell ⟨N, 2, none⟩ u2).setCell ⟨N, 3, none⟩ u3).setCell ⟨N, 4, none⟩ u4).setCell ⟨N, 5, none⟩ u5).setCell ⟨N, 6, none⟩ u6).setCell ⟨N, 7, none⟩ u7).setCell ⟨N, 8, none⟩ u8)
theorem put9M_box {w : World} {N t : Nat} {v0 v1 v2 v3 v4 v5 v6 v7 v8 : Value} (h : w.heap[N]? = some (.cells #[v0, v1, v2, v3, v4, v5, v6, v7, v8] t)) (u0 u1 u2 u3 u4 u5 u6 u7 u8 : Value) : (put9M w N u0 u1 u2 u3 u4 u5 u6 u7 u8).heap[N]? = some (.cells #[u0, u1, u2, u3, u4, u5, u6, u7, u8] t) := by
  simp [put9M, World.setCell, Array.getElem?_modify, h]
theorem put9M_fr (w : World) (N : Nat) (u0 u1 u2 u3 u4 u5 u6 u7 u8 : Value) : Fr (fun x => x = N) w (put9M w N u0 u1 u2 u3 u4 u5 u6 u7 u8) :=
  ((((((((fr_setCell _ _ _ _).trans (fr_setCell _ _ _ _)).trans (fr_setCell _ _ _ _)).trans (fr_setCell _ _ _ _)).trans (fr_setCell _ _ _ _)).trans (fr_setCell _ _ _ _)).trans (fr_setCell _ _ _ _)).trans (fr_setCell _ _ _ _)).trans (fr_setCell _ _ _ _)
theorem two_allocsM {w : World} {x0 x1 : Obj} {W0 : World} (h : W0 = (w.alloc x0).alloc x1) : W0.heap.size = w.heap.size + 2 ∧ Below w.heap.size w W0 ∧ W0.heap[w.heap.size]? = some x0 ∧ W0.heap[w.heap.size + 1]? = some x1 := by
  subst h
  have z : ∀ (X : World) (x : Obj), (X.alloc x).heap.size = X.heap.size + 1 := fun X x => by simp
  refine ⟨by simp, ((Below.refl _ _).alloc (Nat.le_refl _) _).alloc (by simp only [z]; omega) _, ?_, ?_⟩
  · rw [heap_alloc_old _ _ (by simp only [z]; omega)]; exact heap_alloc_new _ _
  · have := heap_alloc_new (w.alloc x0) x1; rwa [z] at this
theorem run_fieldPage (v0 v1 v2 v3 v4 v5 v6 v7 v8 v9 : Value) (w : World) : (Instr.field 66 (.agg #[v0, v1, v2, v3, v4, v5, v6, v7, v8, v9]) 1).run Tryz.prog w = .ok (.agg #[v1, v2, v3, v4, v5, v6, v7, v8, v9]) w := by
  simp [Instr.field, asAgg, go_sem]
set_option maxHeartbeats 1600000 in
theorem decoded_any (nm : ByteArray) (hnm : nm.size ≤ maxLen) (j mb q : Nat) (hj : j ≤ 2) (DM : DataW Unit) (S : ByteArray → Int → Option (List Int)) (w : World) (hM : MapS w mb q DM) (hR : RepS DM S) (hbs : ∀ t bs, S nm t = some bs → bs.length = 128 ∧ ∀ x ∈ bs, 0 ≤ x ∧ x ≤ 255) :
    Calls Tryz.prog 18 #[.map (some mb), .string nm, .int .i64 (j : Int)] w fun e w' => ∃ ka kc ea ec, e = .returned (.agg #[.int .i64 (New.decR (oldS S nm j)).2.kind, .int .i64 (New.decR (oldS S nm j)).2.tx, .int .i64 (New.decR (oldS S nm j)).2.id, .int .i64 (New.decR (oldS S nm j)).2.root, .int .i64 (New.decR (oldS S nm j)).2.count, .slice ka (New.decR (oldS S nm j)).2.ks.length kc, .slice ea (New.decR (oldS S nm j)).2.es.length ec, .int .i64 (New.decR (oldS S nm j)).2.next, .string (New.decR (oldS S nm j)).2.data]) ∧ Below w.heap.size w w' := by
  have hpw : (Lit.int .i64 (j : Int)).wf = true := WalkArith.wf_i64 (by omega)
  have k0 := heap_alloc_new w (.cells #[.int .i64 0, .int .i64 0, .int .i64 0, .int .i64 0, .int .i64 0, .slice none 0 0, .slice none 0 0, .int .i64 0, .string ⟨#[]⟩] 54)
  have hb0 : Below w.heap.size w (w.alloc (.cells #[.int .i64 0, .int .i64 0, .int .i64 0, .int .i64 0, .int .i64 0, .slice none 0 0, .slice none 0 0, .int .i64 0, .string ⟨#[]⟩] 54)) := (Below.refl _ _).alloc (Nat.le_refl _) _
  have hs0 : (w.alloc (.cells #[.int .i64 0, .int .i64 0, .int .i64 0, .int .i64 0, .int .i64 0, .slice none 0 0, .slice none 0 0, .int .i64 0, .string ⟨#[]⟩] 54)).heap.size = w.heap.size + 1 := by simp
  have hM0 : MapS (w.alloc (.cells #[.int .i64 0, .int .i64 0, .int .i64 0, .int .i64 0, .int .i64 0, .slice none 0 0, .slice none 0 0, .int .i64 0, .string ⟨#[]⟩] 54)) mb q DM := World.ownsMap.alloc hM _
  obtain ⟨hlk, hol, hor⟩ := look_plF (nm := nm) (pg := (j : Int)) hM0 hR hnm hpw (fun bs hb => hbs _ _ hb)
  obtain ⟨old, hold⟩ : ∃ old, old = oldS S nm (j : Int) := ⟨_, rfl⟩
  rw [← hold] at hlk hol hor ⊢
  have hul : (u8s old).length = 128 := by simp [u8s, hol]
  have hst := storeCells_new (w.alloc (.cells #[.int .i64 0, .int .i64 0, .int .i64 0, .int .i64 0, .int .i64 0, .slice none 0 0, .slice none 0 0, .int .i64 0, .string ⟨#[]⟩] 54)) old hol
  rw [hs0] at hst
  have hsl := fun W => run_sliceAllM (w.heap.size + 1) W
  have HK0 : Hid _ := k0
  have HB0 : Hid _ := hb0
  have HS0 : Hid _ := hs0
  obtain ⟨D, hD⟩ : ∃ D, D = New.decR old := ⟨_, rfl⟩
  rw [← hD]
  have HD : Hid (D = New.decR old) := hD
  clear hold hM hM0 hR k0 hb0 hs0 hD
  go_enter Tryz.func18, Tryz.ntmps18
  go_wp2_with fail
  obtain ⟨W1, hW1⟩ : ∃ W1, W1 = (w.alloc (.cells #[.int .i64 0, .int .i64 0, .int .i64 0, .int .i64 0, .int .i64 0, .slice none 0 0, .slice none 0 0, .int .i64 0, .string ⟨#[]⟩] 54)).alloc (.cells (u8s old).toArray 82) := ⟨_, rfl⟩
  obtain ⟨hs1, hb1, k0, k1⟩ := two_allocsM hW1
  rw [← hW1]
  clear hW1 HK0 HB0 HS0 hlk hst hsl
  have hby := sheet_bytes k1 hol hor
  have himp := New.dec_impl _ _ _ old W1 _ _ (by omega) hby
  rw [← HD.out] at himp
  refine himp.mono ?_
  rintro e w2 ⟨ka, kc, ea, ec, rfl, _, _, _, hb2⟩
  have X := box_below k0 hb2
  have s2 := hb2.size
  have bel2 : Below w.heap.size w w2 := hb1.trans (hb2.mono (by omega))
  clear k0 k1 hby himp hb2 hb1 hor hol hul
  obtain ⟨x0, x1, x2, x3, x4, x5, x6, x7, x8⟩ := box_nineM X
  have fx := box_thawC X
  have l2 : w.heap.size < w2.heap.size := by omega
  have X5 := put9M_box X (.int .i64 D.2.kind) (.int .i64 D.2.tx) (.int .i64 D.2.id) (.int .i64 D.2.root) (.int .i64 D.2.count) (.slice ka D.2.ks.length kc) (.slice ea D.2.es.length ec) (.int .i64 D.2.next) (.string D.2.data)
  have hf := put9M_fr w2 w.heap.size (.int .i64 D.2.kind) (.int .i64 D.2.tx) (.int .i64 D.2.id) (.int .i64 D.2.root) (.int .i64 D.2.count) (.slice ka D.2.ks.length kc) (.slice ea D.2.es.length ec) (.int .i64 D.2.next) (.string D.2.data)
  have HB5 : Hid (Below w.heap.size w (put9M w2 w.heap.size (.int .i64 D.2.kind) (.int .i64 D.2.tx) (.int .i64 D.2.id) (.int .i64 D.2.root) (.int .i64 D.2.count) (.slice ka D.2.ks.length kc) (.slice ea D.2.es.length ec) (.int .i64 D.2.next) (.string D.2.data))) := bel2.trans (hf.below bel2.size (fun g e => by omega))
  clear hf bel2
  have hfl := run_fieldPage (.bool D.1) (.int .i64 D.2.kind) (.int .i64 D.2.tx) (.int .i64 D.2.id) (.int .i64 D.2.root) (.int .i64 D.2.count) (.slice ka D.2.ks.length kc) (.slice ea D.2.es.length ec) (.int .i64 D.2.next) (.string D.2.data) w2
  go_wp2_with fail
  show bodyPost _ _ _ _ _ (put9M w2 w.heap.size (.int .i64 D.2.kind) (.int .i64 D.2.tx) (.int .i64 D.2.id) (.int .i64 D.2.root) (.int .i64 D.2.count) (.slice ka D.2.ks.length kc) (.slice ea D.2.es.length ec) (.int .i64 D.2.next) (.string D.2.data))
  clear x0 x1 x2 x3 x4 x5 x6 x7 x8 fx
  obtain ⟨x0, x1, x2, x3, x4, x5, x6, x7, x8⟩ := box_nineM X5
  exact bodyPost_ret (v := .agg #[.int .i64 D.2.kind, .int .i64 D.2.tx, .int .i64 D.2.id, .int .i64 D.2.root, .int .i64 D.2.count, .slice ka D.2.ks.length kc, .slice ea D.2.es.length ec, .int .i64 D.2.next, .string D.2.data]) (by simp [results, Tryz.results18, go_sem, x0, x1, x2, x3, x4, x5, x6, x7, x8]) rfl ⟨ka, kc, ea, ec, rfl, HB5.out⟩
/-- What the program answers. -/
def metaI (fs : List PF) (ps : List PP) (cp fu : Int) (nm : ByteArray) : MR := if implV fs ps cp fu = true then mIter (fun j => (pageOf (lastF ps fs) nm (j : Int)).getD zeros) 2 else mZ
set_option maxHeartbeats 3200000 in
theorem implMeta_any (nm : ByteArray) (hnm : nm.size ≤ maxLen) (a : Option Addr) (n c : Nat) (fs : List PF) (b : Option Addr) (m d : Nat) (ps : List PP) (cp fu : Int) (de : Bool) (w : World) (A B : Nat) (hB : B ≤ w.heap.size) (hF : FilesAt w A B a n c fs) (hP : PendsAt w A B b m d ps)
    (hall : ∀ j, j < n → (fs.getD j (ByteArray.empty, [])).2.length ≤ 1048576) :
    Calls Tryz.prog 7 #[.agg #[.slice a n c, .slice b m d, .int .i64 cp, .int .i64 fu, .bool de], .string nm] w fun e w' => e = .returned (.agg (metaI fs ps cp fu nm).cells) ∧ Below w.heap.size w w' := by
  have HF : Hid (∀ W, Below w.heap.size w W → FilesAt W A B a n c fs) := fun W hW => hF.below (hW.mono hB)
  have HP : Hid (∀ W, Below w.heap.size w W → PendsAt W A B b m d ps) := fun W hW => hP.below (hW.mono hB)
  have HA : Hid (∀ j, j < n → (fs.getD j (ByteArray.empty, [])).2.length ≤ 1048576) := hall
  have HFL : Hid (fs.length = n) := hF.1
  have HPL : Hid (ps.length = m) := hP.1
  obtain ⟨R, hR⟩ : ∃ R, R = metaI fs ps cp fu nm := ⟨_, rfl⟩
  rw [← hR]
  have HR : Hid (R = metaI fs ps cp fu nm) := hR
  clear hF hP hall hR
  go_enter Tryz.func7, Tryz.ntmps7
  go_wp2_with fail
  obtain ⟨W0, hW0⟩ : ∃ W0, W0 = (w.alloc (.cells #[.slice a n c, .slice b m d, .int .i64 cp, .int .i64 fu, .bool de] 35)).alloc (.cells #[.bool false, .int .i64 0, .int .i64 0, .int .i64 0, .int .i64 0] 30) := ⟨_, rfl⟩
  obtain ⟨hs0, hb0, k0, k1⟩ := two_allocsM hW0
  rw [← hW0]
  clear hW0
  refine (implValid_any a n c fs b m d ps cp fu de W0 A B (by omega) (HF.out _ hb0) (HP.out _ hb0) HA.out).mono ?_
  rintro e w1 ⟨rfl, hb1⟩
  have X0 := box_below k0 hb1
  have X1 := box_below k1 hb1
  have s1 := hb1.size
  have bel1 : Below w.heap.size w w1 := hb0.trans (hb1.mono (by omega))
  have l0 : w.heap.size < w1.heap.size := by omega
  have l1 : w.heap.size + 1 < w1.heap.size := by omega
  obtain ⟨vv, hvv⟩ : ∃ v, v = implV fs ps cp fu := ⟨_, rfl⟩
  rw [← hvv]
  have HV : Hid (vv = implV fs ps cp fu) := hvv
  clear hvv k0 k1 hb0 hb1 hs0
  cases vv
  · have e1 : R = mZ := by rw [HR.out]; unfold metaI; rw [← HV.out]; simp
    subst e1
    obtain ⟨z0, z1, z2, z3, z4⟩ := box_fiveC X1
    have hz := box_thawC X1
    have X3 := put5C_box X1 (.bool false) (.int .i64 0) (.int .i64 0) (.int .i64 0) (.int .i64 0)
    have hf := put5C_fr w1 (w.heap.size + 1) (.bool false) (.int .i64 0) (.int .i64 0) (.int .i64 0) (.int .i64 0)
    have HB5 : Hid (Below w.heap.size w (put5C w1 (w.heap.size + 1) (.bool false) (.int .i64 0) (.int .i64 0) (.int .i64 0) (.int .i64 0))) := bel1.trans (hf.below bel1.size (fun g e => by omega))
    clear hf bel1
    go_wp2_with fail
    show bodyPost _ _ _ _ _ (put5C w1 (w.heap.size + 1) (.bool false) (.int .i64 0) (.int .i64 0) (.int .i64 0) (.int .i64 0))
    clear z0 z1 z2 z3 z4 hz
    obtain ⟨z0, z1, z2, z3, z4⟩ := box_fiveC X3
    exact bodyPost_ret (v := .agg mZ.cells) (by simp [results, Tryz.results7, go_sem, z0, z1, z2, z3, z4, MR.cells, mZ]) rfl ⟨rfl, HB5.out⟩
  · have e1 : R = mIter (fun j => (pageOf (lastF ps fs) nm (j : Int)).getD zeros) 2 := by rw [HR.out]; unfold metaI; rw [← HV.out]; simp
    have HR2 : Hid (R = mIter (fun j => (pageOf (lastF ps fs) nm (j : Int)).getD zeros) 2) := e1
    obtain ⟨q1, q2, q3, q4, q5⟩ := specV_parts (by rw [valid_eq]; exact HV.out.symm)
    have hpm : m ≤ 1000 := by
      have h2 := HV.out.symm
      simp only [implV, Bool.and_eq_true, decide_eq_true_eq] at h2
      have := HPL.out
      omega
    have hn12 : n ≤ 12 := by have := HFL.out; omega
    have HQ4 : Hid (cacheS cp ps fs = true) := q4
    have HI : Hid (Inv fs) := inv_all q5
    obtain ⟨z0, z1, z2, z3, z4⟩ := box_fiveC X0
    clear e1 q1 q4 q5 HR HV
    go_wp2_with fail
    refine (see_any a n c fs b m d ps cp fu de w1 A B (by have := bel1.size; omega) (HF.out _ bel1) (HP.out _ bel1) hn12 hpm q2 q3 HQ4.out HI.out).mono ?_
    rintro e w2 ⟨mb, q, D, rfl, hmb, hM, hq, hRep, hBF, hI2, hb2⟩
    have Y1 := box_below X1 hb2
    have s2 := hb2.size
    have bel2 : Below w.heap.size w w2 := bel1.trans (hb2.mono bel1.size)
    have hmbl : mb < w2.heap.size := World.ownsMap.lt hM
    obtain ⟨S, hS⟩ : ∃ S, S = pageOf (lastF ps fs) := ⟨_, rfl⟩
    have HREP : Hid (RepS D S) := by rw [hS]; exact hRep
    have HBS : Hid (∀ t bs, S nm t = some bs → bs.length = 128 ∧ ∀ x ∈ bs, 0 ≤ x ∧ x ≤ 255) := by rw [hS]; exact fun t bs hb => page_byte hBF nm t bs hb
    have HR3 : Hid (R = mIter (fun j => oldS S nm (j : Int)) 2) := by rw [hS]; exact HR2.out
    have HOB : Hid (∀ j : Nat, ∀ x ∈ oldS S nm (j : Int), 0 ≤ x ∧ x ≤ 255) := fun j x hx => by
      unfold oldS at hx
      cases h : S nm (j : Int) with
      | some bs => rw [h] at hx; exact (HBS.out _ _ h).2 x hx
      | none => rw [h] at hx; exact zeros_in x hx
    have hal := (Below.refl w2.heap.size w2).alloc (Nat.le_refl _) (.cells #[.bool false, .int .i64 0, .int .i64 0, .int .i64 0, .int .i64 0] 30)
    obtain ⟨LB, hLB⟩ : ∃ LB, LB = w2.heap.size := ⟨_, rfl⟩
    have hlb : w.heap.size + 1 < LB ∧ mb < LB := by omega
    have H0 : Hid (LB < (w2.alloc (.cells #[.bool false, .int .i64 0, .int .i64 0, .int .i64 0, .int .i64 0] 30)).heap.size ∧ MapS (w2.alloc (.cells #[.bool false, .int .i64 0, .int .i64 0, .int .i64 0, .int .i64 0] 30)) mb q D ∧ (w2.alloc (.cells #[.bool false, .int .i64 0, .int .i64 0, .int .i64 0, .int .i64 0] 30)).heap[w.heap.size + 1]? = some (.cells #[.bool false, .int .i64 0, .int .i64 0, .int .i64 0, .int .i64 0] 30) ∧ (w2.alloc (.cells #[.bool false, .int .i64 0, .int .i64 0, .int .i64 0, .int .i64 0] 30)).heap[LB]? = some (.cells (mIter (fun j => oldS S nm (j : Int)) 0).cells 30) ∧ Below w.heap.size w (w2.alloc (.cells #[.bool false, .int .i64 0, .int .i64 0, .int .i64 0, .int .i64 0] 30))) := ⟨by simp; omega, World.ownsMap.alloc hM _, box_below Y1 hal, by rw [hLB]; exact heap_alloc_new _ _, bel2.trans (hal.mono bel2.size)⟩
    clear hS hRep hBF hI2 hM hal Y1 X0 X1 z0 z1 z2 z3 z4 bel1 bel2 HQ4 HI HR2 hb2 hmb s1 l0 l1
    go_wp2_with fail
    rw [← hLB]
    clear hLB
    generalize w2.alloc (.cells #[.bool false, .int .i64 0, .int .i64 0, .int .i64 0, .int .i64 0] 30) = W3 at H0 ⊢
    go_loopw [7, 8, 15] (fun _ _ i wr => ∃ (k : Nat), k ≤ 2 ∧ i = .int .i64 k ∧ Hid (LB < wr.heap.size ∧ MapS wr mb q D ∧ wr.heap[w.heap.size + 1]? = some (.cells #[.bool false, .int .i64 0, .int .i64 0, .int .i64 0, .int .i64 0] 30) ∧ wr.heap[LB]? = some (.cells (mIter (fun j => oldS S nm (j : Int)) k).cells 30) ∧ Below w.heap.size w wr)) (fun _ _ i _ => 2 - (intOf i).toNat)
    case atStart => exact ⟨0, by omega, rfl, H0⟩
    case round =>
      clear H0
      obtain ⟨k, hk, rfl, HX⟩ := hrel
      by_cases hlt : k < 2
      · go_wp2_with fail
        obtain ⟨DD, hD⟩ : ∃ DD, DD = New.decR (oldS S nm (k : Int)) := ⟨_, rfl⟩
        have himp := decoded_any nm hnm k mb q (by omega) D S wr HX.out.2.1 HREP.out HBS.out
        have htx := decR_tx (HOB.out k)
        rw [← hD] at himp htx
        obtain ⟨ok, kd, tx, id, rt, ct, kl, el, nx, da⟩ := DD
        simp only at himp htx
        have HD : Hid ((ok, (⟨kd, tx, id, rt, ct, kl, el, nx, da⟩ : Pg)) = New.decR (oldS S nm (k : Int))) := hD
        clear hD
        refine himp.mono ?_
        rintro e w3 ⟨ka, kc, ea, ec, rfl, B3⟩
        have X1 := box_below HX.out.2.2.1 B3
        have XL := box_below HX.out.2.2.2.1 B3
        have s3 := B3.size
        have BW : Below w.heap.size w w3 := HX.out.2.2.2.2.trans (B3.mono HX.out.2.2.2.2.size)
        have M3 : MapS w3 mb q D := HX.out.2.1.to (B3.block mb (World.ownsMap.lt HX.out.2.1))
        have lL : LB < w3.heap.size := by have := HX.out.1; omega
        obtain ⟨s, hs⟩ : ∃ s, s = mIter (fun j => oldS S nm (j : Int)) k := ⟨_, rfl⟩
        rw [← hs] at XL
        have HS : Hid (mIter (fun j => oldS S nm (j : Int)) (k + 1) = mStep (oldS S nm (k : Int)) k s) := by show _ = _; rw [hs]; rfl
        clear hs B3 himp HX
        obtain ⟨so, st, si, sr, sc⟩ := s
        simp only [MR.cells] at XL
        obtain ⟨o0, o1, o2, o3, o4⟩ := box_fiveC XL
        have ofz := box_thawC XL
        have hal := (Below.refl w3.heap.size w3).alloc (Nat.le_refl _) (.cells #[.int .i64 kd, .int .i64 tx, .int .i64 id, .int .i64 rt, .int .i64 ct, .slice ka kl.length kc, .slice ea el.length ec, .int .i64 nx, .string da] 54)
        have Y1 := box_below X1 hal
        have YL := box_below XL hal
        have YM : MapS (w3.alloc (.cells #[.int .i64 kd, .int .i64 tx, .int .i64 id, .int .i64 rt, .int .i64 ct, .slice ka kl.length kc, .slice ea el.length ec, .int .i64 nx, .string da] 54)) mb q D := World.ownsMap.alloc M3 _
        have YW : Below w.heap.size w (w3.alloc (.cells #[.int .i64 kd, .int .i64 tx, .int .i64 id, .int .i64 rt, .int .i64 ct, .slice ka kl.length kc, .slice ea el.length ec, .int .i64 nx, .string da] 54)) := BW.trans (hal.mono BW.size)
        have y3 : LB < (w3.alloc (.cells #[.int .i64 kd, .int .i64 tx, .int .i64 id, .int .i64 rt, .int .i64 ct, .slice ka kl.length kc, .slice ea el.length ec, .int .i64 nx, .string da] 54)).heap.size := by simp; omega
        have HLV : Hid (mStep (oldS S nm (k : Int)) k ⟨so, st, si, sr, sc⟩ = ⟨so, st, si, sr, sc⟩ → LB < (w3.alloc (.cells #[.int .i64 kd, .int .i64 tx, .int .i64 id, .int .i64 rt, .int .i64 ct, .slice ka kl.length kc, .slice ea el.length ec, .int .i64 nx, .string da] 54)).heap.size ∧ MapS (w3.alloc (.cells #[.int .i64 kd, .int .i64 tx, .int .i64 id, .int .i64 rt, .int .i64 ct, .slice ka kl.length kc, .slice ea el.length ec, .int .i64 nx, .string da] 54)) mb q D ∧ (w3.alloc (.cells #[.int .i64 kd, .int .i64 tx, .int .i64 id, .int .i64 rt, .int .i64 ct, .slice ka kl.length kc, .slice ea el.length ec, .int .i64 nx, .string da] 54)).heap[w.heap.size + 1]? = some (.cells #[.bool false, .int .i64 0, .int .i64 0, .int .i64 0, .int .i64 0] 30) ∧ (w3.alloc (.cells #[.int .i64 kd, .int .i64 tx, .int .i64 id, .int .i64 rt, .int .i64 ct, .slice ka kl.length kc, .slice ea el.length ec, .int .i64 nx, .string da] 54)).heap[LB]? = some (.cells (mIter (fun j => oldS S nm (j : Int)) (k + 1)).cells 30) ∧ Below w.heap.size w (w3.alloc (.cells #[.int .i64 kd, .int .i64 tx, .int .i64 id, .int .i64 rt, .int .i64 ct, .slice ka kl.length kc, .slice ea el.length ec, .int .i64 nx, .string da] 54))) := fun h => ⟨y3, YM, Y1, by rw [HS.out, h]; exact YL, YW⟩
        have HTK : Hid (mStep (oldS S nm (k : Int)) k ⟨so, st, si, sr, sc⟩ = ⟨true, tx, id, rt, ct⟩ → LB < ((put5C w3 LB (.bool true) (.int .i64 tx) (.int .i64 id) (.int .i64 rt) (.int .i64 ct)).alloc (.cells #[.int .i64 kd, .int .i64 tx, .int .i64 id, .int .i64 rt, .int .i64 ct, .slice ka kl.length kc, .slice ea el.length ec, .int .i64 nx, .string da] 54)).heap.size ∧ MapS ((put5C w3 LB (.bool true) (.int .i64 tx) (.int .i64 id) (.int .i64 rt) (.int .i64 ct)).alloc (.cells #[.int .i64 kd, .int .i64 tx, .int .i64 id, .int .i64 rt, .int .i64 ct, .slice ka kl.length kc, .slice ea el.length ec, .int .i64 nx, .string da] 54)) mb q D ∧ ((put5C w3 LB (.bool true) (.int .i64 tx) (.int .i64 id) (.int .i64 rt) (.int .i64 ct)).alloc (.cells #[.int .i64 kd, .int .i64 tx, .int .i64 id, .int .i64 rt, .int .i64 ct, .slice ka kl.length kc, .slice ea el.length ec, .int .i64 nx, .string da] 54)).heap[w.heap.size + 1]? = some (.cells #[.bool false, .int .i64 0, .int .i64 0, .int .i64 0, .int .i64 0] 30) ∧ ((put5C w3 LB (.bool true) (.int .i64 tx) (.int .i64 id) (.int .i64 rt) (.int .i64 ct)).alloc (.cells #[.int .i64 kd, .int .i64 tx, .int .i64 id, .int .i64 rt, .int .i64 ct, .slice ka kl.length kc, .slice ea el.length ec, .int .i64 nx, .string da] 54)).heap[LB]? = some (.cells (mIter (fun j => oldS S nm (j : Int)) (k + 1)).cells 30) ∧ Below w.heap.size w ((put5C w3 LB (.bool true) (.int .i64 tx) (.int .i64 id) (.int .i64 rt) (.int .i64 ct)).alloc (.cells #[.int .i64 kd, .int .i64 tx, .int .i64 id, .int .i64 rt, .int .i64 ct, .slice ka kl.length kc, .slice ea el.length ec, .int .i64 nx, .string da] 54))) := fun h => by
          have hf := put5C_fr w3 LB (.bool true) (.int .i64 tx) (.int .i64 id) (.int .i64 rt) (.int .i64 ct)
          have hal2 := (Below.refl _ (put5C w3 LB (.bool true) (.int .i64 tx) (.int .i64 id) (.int .i64 rt) (.int .i64 ct))).alloc (Nat.le_refl _) (.cells #[.int .i64 kd, .int .i64 tx, .int .i64 id, .int .i64 rt, .int .i64 ct, .slice ka kl.length kc, .slice ea el.length ec, .int .i64 nx, .string da] 54)
          have bz : Below w.heap.size w (put5C w3 LB (.bool true) (.int .i64 tx) (.int .i64 id) (.int .i64 rt) (.int .i64 ct)) := BW.trans (hf.below BW.size (fun g e => by omega))
          refine ⟨Nat.lt_of_lt_of_le lL (Nat.le_trans hf.size hal2.size), World.ownsMap.alloc (M3.to (hf.block mb (World.ownsMap.lt M3) (by omega))) _, box_below (box_fr X1 hf (by omega)) hal2, ?_, bz.trans (hal2.mono bz.size)⟩
          rw [HS.out, h]
          exact box_below (put5C_box XL _ _ _ _ _) hal2
        clear hal Y1 YL YM YW y3 M3 BW X1
        have LV : ¬ (kd = 1 ∧ tx % 2 = (k : Int) ∧ st < tx) → Hid (LB < (w3.alloc (.cells #[.int .i64 kd, .int .i64 tx, .int .i64 id, .int .i64 rt, .int .i64 ct, .slice ka kl.length kc, .slice ea el.length ec, .int .i64 nx, .string da] 54)).heap.size ∧ MapS (w3.alloc (.cells #[.int .i64 kd, .int .i64 tx, .int .i64 id, .int .i64 rt, .int .i64 ct, .slice ka kl.length kc, .slice ea el.length ec, .int .i64 nx, .string da] 54)) mb q D ∧ (w3.alloc (.cells #[.int .i64 kd, .int .i64 tx, .int .i64 id, .int .i64 rt, .int .i64 ct, .slice ka kl.length kc, .slice ea el.length ec, .int .i64 nx, .string da] 54)).heap[w.heap.size + 1]? = some (.cells #[.bool false, .int .i64 0, .int .i64 0, .int .i64 0, .int .i64 0] 30) ∧ (w3.alloc (.cells #[.int .i64 kd, .int .i64 tx, .int .i64 id, .int .i64 rt, .int .i64 ct, .slice ka kl.length kc, .slice ea el.length ec, .int .i64 nx, .string da] 54)).heap[LB]? = some (.cells (mIter (fun j => oldS S nm (j : Int)) (k + 1)).cells 30) ∧ Below w.heap.size w (w3.alloc (.cells #[.int .i64 kd, .int .i64 tx, .int .i64 id, .int .i64 rt, .int .i64 ct, .slice ka kl.length kc, .slice ea el.length ec, .int .i64 nx, .string da] 54))) := fun h => HLV.out (mStep_leave HD.out h)
        by_cases c1 : kd = 1
        · by_cases c2 : tx % 2 = (k : Int)
          · by_cases c3 : st < tx
            · have RR := HTK.out (mStep_take HD.out c1 c2 c3)
              have HRR : Hid _ := RR
              subst c1
              clear LV RR HD
              go_wp2_with fail
              go_roundw
              case rel => exact ⟨k + 1, by omega, by go_num, HRR⟩
              case measure => simp [intOf]; omega
            · have RR := LV (fun h => c3 h.2.2)
              subst c1
              clear LV HD HTK HLV
              go_wp2_with fail
              go_roundw
              case rel => exact ⟨k + 1, by omega, by go_num, RR⟩
              case measure => simp [intOf]; omega
          · have RR := LV (fun h => c2 h.2.1)
            subst c1
            clear LV HD HTK HLV
            go_wp2_with fail
            go_roundw
            case rel => exact ⟨k + 1, by omega, by go_num, RR⟩
            case measure => simp [intOf]; omega
        · have RR := LV (fun h => c1 h.1)
          clear LV HD HTK HLV
          go_wp2_with fail
          go_roundw
          case rel => exact ⟨k + 1, by omega, by go_num, RR⟩
          case measure => simp [intOf]; omega
      · have ek : k = 2 := by omega
        subst ek
        have XL := HX.out.2.2.2.1
        have X1 := HX.out.2.2.1
        have lL := HX.out.1
        have BW := HX.out.2.2.2.2
        rw [← HR3.out] at XL
        clear HX
        obtain ⟨ro, rx, ri, rr, rc⟩ := R
        simp only [MR.cells] at XL ⊢
        obtain ⟨o0, o1, o2, o3, o4⟩ := box_fiveC XL
        obtain ⟨z0, z1, z2, z3, z4⟩ := box_fiveC X1
        have hz := box_thawC X1
        have X5 := put5C_box X1 (.bool ro) (.int .i64 rx) (.int .i64 ri) (.int .i64 rr) (.int .i64 rc)
        have hf := put5C_fr wr (w.heap.size + 1) (.bool ro) (.int .i64 rx) (.int .i64 ri) (.int .i64 rr) (.int .i64 rc)
        have HB5 : Hid (Below w.heap.size w (put5C wr (w.heap.size + 1) (.bool ro) (.int .i64 rx) (.int .i64 ri) (.int .i64 rr) (.int .i64 rc))) := BW.trans (hf.below BW.size (fun g e => by omega))
        have l1 : w.heap.size + 1 < wr.heap.size := by omega
        clear hf BW
        go_wp2_with fail
        show bodyPost _ _ _ _ _ (put5C wr (w.heap.size + 1) (.bool ro) (.int .i64 rx) (.int .i64 ri) (.int .i64 rr) (.int .i64 rc))
        clear z0 z1 z2 z3 z4 hz
        obtain ⟨z0, z1, z2, z3, z4⟩ := box_fiveC X5
        exact bodyPost_ret (v := .agg #[.bool ro, .int .i64 rx, .int .i64 ri, .int .i64 rr, .int .i64 rc]) (by simp [results, Tryz.results7, go_sem, z0, z1, z2, z3, z4]) rfl ⟨rfl, HB5.out⟩
end Go.Proofs.YtnpndbicmamggaaGreat
