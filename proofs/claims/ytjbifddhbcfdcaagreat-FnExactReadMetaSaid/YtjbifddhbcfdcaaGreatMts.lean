import Derived.Test.YtjbifddhbcfdcaaGreatDC
import Derived.Test.YtjbifddhbcfdcaaGreatDF
import Derived.Test.YtjbifddhbcfdcaaGreatDH
import Derived.Test.YtjbifddhbcfdcaaGreatJS
namespace Go.Proofs.YtjbifddhbcfdcaaGreat
open Go.RowKit Go.Maps
set_option linter.unusedVariables false
set_option maxRecDepth 100000

theorem cutP_len (fb : List Int) (j : Nat) : (cutP fb j).length = if j * 128 + 128 ≤ fb.length then 128 else 0 := by
  unfold cutP
  split
  · simp; omega
  · rfl
theorem cutP_byte {fb : List Int} (h : ∀ x ∈ fb, 0 ≤ x ∧ x ≤ 255) (j : Nat) : ∀ x ∈ cutP fb j, 0 ≤ x ∧ x ≤ 255 := by
  unfold cutP
  split
  · exact fun x hx => h x (List.mem_of_mem_drop (List.mem_of_mem_take hx))
  · intro x hx; cases hx
theorem BytesAt.part {w : World} {A B : Nat} {b off n c j : Nat} {fb : List Int} (h : BytesAt w A B (some ⟨b, off, none⟩) n c fb) (hj : j * 128 + 128 ≤ n) : BytesAt w A B (some ⟨b, off + j * 128, none⟩) 128 (c - j * 128) ((fb.drop (j * 128)).take 128) := by
  obtain ⟨h1, h2, h3, h4, h5, h6⟩ := h
  refine ⟨by simp; omega, by omega, by omega, fun x hx => h4 x (List.mem_of_mem_drop (List.mem_of_mem_take hx)), fun hn => ?_, fun e => by cases e⟩
  obtain ⟨b', off', e, hlt, hc⟩ := h5 (by omega)
  cases e
  refine ⟨b, off + j * 128, rfl, hlt, fun i hi => ?_⟩
  rw [show off + j * 128 + i = off + (j * 128 + i) by omega, hc _ (by omega)]
  simp only [List.getD, List.getElem?_take_of_lt hi, List.getElem?_drop]
set_option maxHeartbeats 800000 in
theorem l4At_any (a : Option Addr) (n c : Nat) (fb : List Int) (j : Nat) (hj : j ≤ 2) (w : World) (A B : Nat) (hB : B ≤ w.heap.size) (hb : BytesAt w A B a n c fb) :
    Calls Tryz.prog 25 #[.slice a n c, .int .i64 (j : Int)] w fun e w' => ∃ a' c', e = .returned (.slice a' (cutP fb j).length c') ∧ BytesAt w' A w'.heap.size a' (cutP fb j).length c' (cutP fb j) ∧ Below w.heap.size w w' := by
  have hl := hb.1
  have hnc := hb.2.1
  have hc0 := hb.2.2.1
  unfold maxLen at hc0
  have hlen := cutP_len fb j
  by_cases h : j * 128 + 128 ≤ n
  · obtain ⟨b, off, rfl, hlt, _⟩ := hb.2.2.2.2.1 (by omega)
    have hp := hb.part h
    have e1 : cutP fb j = (fb.drop (j * 128)).take 128 := if_pos (by omega)
    have e2 : (cutP fb j).length = 128 := by rw [hlen, if_pos (by omega)]
    have HP : Hid (BytesAt w A B (some ⟨b, off + j * 128, none⟩) 128 (c - j * 128) (cutP fb j)) := by rw [e1]; exact hp
    have hq : ¬ (n : Int) / 128 ≤ (j : Int) := by omega
    rw [e2]
    clear hp e1 e2 hlen hl hb
    go_enter Tryz.func25, Tryz.ntmps25
    go_wp2
    go_ret
    exact ⟨some ⟨b, off + j * 128, none⟩, c - j * 128, by rw [show (j + 1) * 128 - j * 128 = 128 by omega]; rfl, HP.out.up (Nat.le_refl _) hB, Below.refl _ _⟩
  · have e1 : cutP fb j = [] := if_neg (by omega)
    have hq : (n : Int) / 128 ≤ (j : Int) := by omega
    rw [e1]
    clear hlen hl hb
    go_enter Tryz.func25, Tryz.ntmps25
    go_wp2
    go_ret
    exact ⟨some ⟨w.heap.size, 0, none⟩, 0, rfl, bytesAt_none _ 0 (by unfold maxLen; omega), (Below.refl _ _).alloc (Nat.le_refl _) _⟩
/-- The bytes of the file of a name as seen. -/
def fileB (fs : List PF) (ps : List PP) (cp fu : Int) (nm : ByteArray) : List Int := if specV fs ps cp fu = true then dataN (lastF ps fs) nm else []
set_option maxHeartbeats 1600000 in
theorem l4File_any (nm : ByteArray) (hnm : nm.size ≤ maxLen) (a : Option Addr) (n c : Nat) (fs : List PF) (b : Option Addr) (m d : Nat) (ps : List PP) (cp fu : Int) (de : Bool) (w : World) (A B : Nat) (hB : B ≤ w.heap.size) (hF : FilesAt w A B a n c fs) (hP : PendsAt w A B b m d ps)
    (hall : ∀ j, j < n → (fs.getD j (ByteArray.empty, [])).2.length ≤ 1048576) :
    Calls Tryz.prog 13 #[.agg #[.slice a n c, .slice b m d, .int .i64 cp, .int .i64 fu, .bool de], .string nm] w fun e w' => ∃ a' c', e = .returned (.slice a' (fileB fs ps cp fu nm).length c') ∧ BytesAt w' w.heap.size w'.heap.size a' (fileB fs ps cp fu nm).length c' (fileB fs ps cp fu nm) ∧ Below w.heap.size w w' := by
  have hb0 : Below w.heap.size w (w.alloc (.cells #[.slice a n c, .slice b m d, .int .i64 cp, .int .i64 fu, .bool de] 35)) := (Below.refl _ _).alloc (Nat.le_refl _) _
  have k0 := heap_alloc_new w (.cells #[.slice a n c, .slice b m d, .int .i64 cp, .int .i64 fu, .bool de] 35)
  have z0 : (w.alloc (.cells #[.slice a n c, .slice b m d, .int .i64 cp, .int .i64 fu, .bool de] 35)).heap.size = w.heap.size + 1 := by simp
  have HF : Hid (∀ W, Below w.heap.size w W → FilesAt W A B a n c fs) := fun W hW => hF.below (hW.mono hB)
  have HP : Hid (∀ W, Below w.heap.size w W → PendsAt W A B b m d ps) := fun W hW => hP.below (hW.mono hB)
  have HFL : Hid (fs.length = n) := hF.1
  have HA : Hid (∀ j, j < n → (fs.getD j (ByteArray.empty, [])).2.length ≤ 1048576) := hall
  clear hF hP hall
  obtain ⟨fb, hfb⟩ : ∃ fb, fb = fileB fs ps cp fu nm := ⟨_, rfl⟩
  rw [← hfb]
  have HFB : Hid (fb = fileB fs ps cp fu nm) := hfb
  clear hfb
  go_enter Tryz.func13, Tryz.ntmps13
  go_wp2_with fail
  generalize w.alloc (.cells #[.slice a n c, .slice b m d, .int .i64 cp, .int .i64 fu, .bool de] 35) = W0 at hb0 k0 z0 ⊢
  refine (specValid_any a n c fs b m d ps cp fu de W0 A B (by omega) (HF.out _ hb0) (HP.out _ hb0) HA.out).mono ?_
  rintro e w1 ⟨rfl, hb1⟩
  have bel1 : Below w.heap.size w w1 := hb0.trans (hb1.mono (by omega))
  have X1 := box_below k0 hb1
  have s1 := hb1.size
  have l1 : w.heap.size < w1.heap.size := by omega
  obtain ⟨vv, hvv⟩ : ∃ v, v = specV fs ps cp fu := ⟨_, rfl⟩
  rw [← hvv]
  have HV : Hid (vv = specV fs ps cp fu) := hvv
  clear hvv hb0 hb1 k0 z0 s1
  cases vv
  · have e1 : fb = [] := by rw [HFB.out]; unfold fileB; rw [← HV.out]; simp
    subst e1
    go_wp2_with fail
    go_ret
    exact ⟨some ⟨w1.heap.size, 0, none⟩, 0, rfl, bytesAt_none _ 0 (by unfold maxLen; omega), bel1.trans ((Below.refl _ _).alloc bel1.size _)⟩
  · have e1 : fb = dataN (lastF ps fs) nm := by rw [HFB.out]; unfold fileB; rw [← HV.out]; simp
    have HE : Hid (fb = dataN (lastF ps fs) nm) := e1
    obtain ⟨q1, q2, q3, q4, q5⟩ := specV_parts HV.out.symm
    have HQ4 : Hid (cacheS cp ps fs = true) := q4
    have hn12 : n ≤ 12 := by have := HFL.out; omega
    obtain ⟨x0, x1, x2, x3, x4⟩ := box_fiveC X1
    clear e1 q1 q4 q5 HFB HV
    go_wp2_with fail
    clear x0 x1 x2 x3 x4 X1
    refine (l1Seen_any a n c fs b m d ps cp fu de w1 A B (by omega) (HF.out _ bel1) (HP.out _ bel1) hn12 q2 q3 HQ4.out).mono ?_
    rintro e w2 ⟨v2, xs2, vs2, rfl, hO2, hb2⟩
    obtain ⟨a2, n2, c2, rfl, hn2, hF2⟩ := hO2.files
    have bel2 : Below w.heap.size w w2 := bel1.trans (hb2.mono bel1.size)
    have s2 := hb2.size
    clear hO2 hb2 HQ4 hn2
    go_wp2_with fail
    refine (l1Find_any _ _ _ (lastF ps fs) nm w2 _ _ hF2).mono ?_
    rintro e w3 ⟨rfl, rfl⟩
    rcases findI_cases (lastF ps fs) nm with ⟨e1, e2⟩ | ⟨e1, e2⟩
    · rw [e1]
      have e3 : fb = [] := by rw [HE.out]; exact dataN_none (by omega)
      subst e3
      clear e1 e2 hF2
      go_wp2_with fail
      go_ret
      exact ⟨some ⟨w3.heap.size, 0, none⟩, 0, rfl, bytesAt_none _ 0 (by unfold maxLen; omega), bel2.trans ((Below.refl _ _).alloc bel2.size _)⟩
    · rw [e1]
      obtain ⟨hc1, hc2, hc3, hcell⟩ := hF2
      obtain ⟨ab, aoff, rfl, hab, hcb⟩ := hcell (by omega)
      obtain ⟨p1, p2, pa, pn, pc, p3, p4⟩ := hcb (findN (lastF ps fs) nm) (by omega)
      have e3 : fb = ((lastF ps fs).getD (findN (lastF ps fs) nm) (ByteArray.empty, [])).2 := by rw [HE.out]; unfold dataN; rw [if_pos e2]
      have e4 : pn = fb.length := by rw [e3]; exact p4.1.symm
      have HB : Hid (BytesAt w3 w.heap.size w3.heap.size pa fb.length pc fb) := by
        have h4 := p4
        rw [← e3, e4] at h4
        exact h4.up (by omega) (Nat.le_refl _)
      have hii : findN (lastF ps fs) nm < n2 := by omega
      unfold maxLen at hc3
      obtain ⟨ix, hix⟩ : ∃ ix, ix = findN (lastF ps fs) nm := ⟨_, rfl⟩
      rw [← hix] at hii p3 ⊢
      rw [e4] at p3
      clear e1 e2 e3 e4 hcb hcell p4 p1 p2 hix HE hc1
      go_wp2_with fail
      go_ret
      exact ⟨pa, pc, rfl, HB.out, bel2⟩
/-- A page that was read, and the answer so far, in letters. -/
theorem mStep_take {bs : List Int} {ok : Bool} {kd tx id rt ct nx : Int} {kl : List PK} {el : List PE} {da : ByteArray} {j : Nat} {s : MR} (h : (ok, (⟨kd, tx, id, rt, ct, kl, el, nx, da⟩ : Pg)) = New.decR bs) (h1 : kd = 1) (h2 : tx % 2 = (j : Int)) (h3 : s.tx < tx) : mStep bs j s = ⟨true, tx, id, rt, ct⟩ := by
  unfold mStep
  rw [← h, if_pos ⟨h1, h2, h3⟩]
theorem mStep_leave {bs : List Int} {ok : Bool} {kd tx id rt ct nx : Int} {kl : List PK} {el : List PE} {da : ByteArray} {j : Nat} {s : MR} (h : (ok, (⟨kd, tx, id, rt, ct, kl, el, nx, da⟩ : Pg)) = New.decR bs) (h1 : ¬ (kd = 1 ∧ tx % 2 = (j : Int) ∧ s.tx < tx)) : mStep bs j s = s := by
  unfold mStep
  rw [← h, if_neg h1]
set_option maxHeartbeats 3200000 in
theorem l4Meta_any (a : Option Addr) (n c : Nat) (fb : List Int) (w : World) (A B : Nat) (hB : B ≤ w.heap.size) (hb : BytesAt w A B a n c fb) :
    Calls Tryz.prog 12 #[.slice a n c] w fun e w' => e = .returned (.agg (mIter (fun j => cutP fb j) 2).cells) ∧ Below w.heap.size w w' := by
  have HB : Hid (∀ W, Below w.heap.size w W → BytesAt W A B a n c fb) := fun W hW => hb.below (hW.mono hB)
  have HBY : Hid (∀ x ∈ fb, 0 ≤ x ∧ x ≤ 255) := hb.2.2.2.1
  obtain ⟨W0, hW0⟩ : ∃ W0, W0 = (w.alloc (.cells #[.bool false, .int .i64 0, .int .i64 0, .int .i64 0, .int .i64 0] 30)).alloc (.cells #[.bool false, .int .i64 0, .int .i64 0, .int .i64 0, .int .i64 0] 30) := ⟨_, rfl⟩
  have z : ∀ (X : World) (x : Obj), (X.alloc x).heap.size = X.heap.size + 1 := fun X x => by simp
  have hs0 : W0.heap.size = w.heap.size + 2 := by rw [hW0]; simp
  have hb0 : Below w.heap.size w W0 := by rw [hW0]; exact ((Below.refl _ _).alloc (Nat.le_refl _) _).alloc (by simp) _
  have k0 : W0.heap[w.heap.size]? = some (.cells #[.bool false, .int .i64 0, .int .i64 0, .int .i64 0, .int .i64 0] 30) := by rw [hW0, heap_alloc_old _ _ (by simp)]; exact heap_alloc_new _ _
  have k1 : W0.heap[w.heap.size + 1]? = some (.cells #[.bool false, .int .i64 0, .int .i64 0, .int .i64 0, .int .i64 0] 30) := by rw [hW0]; have := heap_alloc_new (w.alloc (.cells #[.bool false, .int .i64 0, .int .i64 0, .int .i64 0, .int .i64 0] 30)) (.cells #[.bool false, .int .i64 0, .int .i64 0, .int .i64 0, .int .i64 0] 30); rwa [z] at this
  have HW0 : Hid (W0 = (w.alloc (.cells #[.bool false, .int .i64 0, .int .i64 0, .int .i64 0, .int .i64 0] 30)).alloc (.cells #[.bool false, .int .i64 0, .int .i64 0, .int .i64 0, .int .i64 0] 30)) := hW0
  have H0 : Hid (w.heap.size + 2 ≤ W0.heap.size ∧ W0.heap[w.heap.size]? = some (.cells #[.bool false, .int .i64 0, .int .i64 0, .int .i64 0, .int .i64 0] 30) ∧ W0.heap[w.heap.size + 1]? = some (.cells (mIter (fun j => cutP fb j) 0).cells 30) ∧ Below w.heap.size w W0) := ⟨by omega, k0, k1, hb0⟩
  obtain ⟨R, hR⟩ : ∃ R, R = mIter (fun j => cutP fb j) 2 := ⟨_, rfl⟩
  rw [← hR]
  have HR : Hid (R = mIter (fun j => cutP fb j) 2) := hR
  clear hb hW0 hs0 hb0 k0 k1 z hR
  go_enter Tryz.func12, Tryz.ntmps12
  go_wp2_with fail
  rw [← HW0.out]
  clear HW0
  go_loopw [4, 5] (fun i _ wr => ∃ (k : Nat), k ≤ 2 ∧ i = .int .i64 k ∧ Hid (w.heap.size + 2 ≤ wr.heap.size ∧ wr.heap[w.heap.size]? = some (.cells #[.bool false, .int .i64 0, .int .i64 0, .int .i64 0, .int .i64 0] 30) ∧ wr.heap[w.heap.size + 1]? = some (.cells (mIter (fun j => cutP fb j) k).cells 30) ∧ Below w.heap.size w wr)) (fun i _ _ => 2 - (intOf i).toNat)
  case atStart => exact ⟨0, by omega, rfl, H0⟩
  case round =>
    clear H0
    obtain ⟨k, hk, rfl, HX⟩ := hrel
    by_cases hlt : k < 2
    · have hs1 := HX.out.1
      go_wp2_with fail
      refine (l4At_any a n c fb k (by omega) wr A B (by have := HX.out.2.2.2.size; omega) (HB.out _ HX.out.2.2.2)).mono ?_
      rintro e w2 ⟨a2, c2, rfl, hb2, hbel2⟩
      go_wp2_with fail
      obtain ⟨D, hD⟩ : ∃ D, D = New.decR (cutP fb k) := ⟨_, rfl⟩
      have hspec := New.dec_spec a2 _ c2 (cutP fb k) w2 A w2.heap.size (Nat.le_refl _) hb2
      have htx := decR_tx (cutP_byte HBY.out k)
      have hok0 := decR_false (bs := cutP fb k)
      rw [← hD] at hspec htx hok0
      obtain ⟨ok, kd, tx, id, rt, ct, kl, el, nx, da⟩ := D
      simp only at hspec htx hok0
      have HD : Hid ((ok, (⟨kd, tx, id, rt, ct, kl, el, nx, da⟩ : Pg)) = New.decR (cutP fb k)) := hD
      have HOK : Hid (ok = false → kd = 0) := hok0
      clear hD hb2 hok0
      refine hspec.mono ?_
      rintro e w3 ⟨va, vc, ea, ec, rfl, _, _, _, hbel3⟩
      have B3 : Below wr.heap.size wr w3 := hbel2.trans (hbel3.mono hbel2.size)
      have X0 := box_below HX.out.2.1 B3
      have X1 := box_below HX.out.2.2.1 B3
      have s3 := B3.size
      have BW : Below w.heap.size w w3 := HX.out.2.2.2.trans (B3.mono HX.out.2.2.2.size)
      obtain ⟨s, hs⟩ : ∃ s, s = mIter (fun j => cutP fb j) k := ⟨_, rfl⟩
      rw [← hs] at X1
      have HS : Hid (mIter (fun j => cutP fb j) (k + 1) = mStep (cutP fb k) k s) := by show _ = _; rw [hs]; rfl
      clear hs hbel2 hbel3 B3 hspec HX
      obtain ⟨so, st, si, sr, sc⟩ := s
      simp only [MR.cells] at X1
      obtain ⟨o0, o1, o2, o3, o4⟩ := box_fiveC X1
      have ofz := box_thawC X1
      have l3 : w.heap.size + 1 < w3.heap.size := by omega
      have hal := (Below.refl w3.heap.size w3).alloc (Nat.le_refl _) (.cells #[.bool ok, .int .i64 kd, .int .i64 tx, .int .i64 id, .int .i64 rt, .int .i64 ct, .slice va kl.length vc, .slice ea el.length ec, .int .i64 nx, .string da] 66)
      have Y0 := box_below X0 hal
      have Y1 := box_below X1 hal
      have y3 : w.heap.size + 2 ≤ (w3.alloc (.cells #[.bool ok, .int .i64 kd, .int .i64 tx, .int .i64 id, .int .i64 rt, .int .i64 ct, .slice va kl.length vc, .slice ea el.length ec, .int .i64 nx, .string da] 66)).heap.size := by simp; omega
      have YW : Below w.heap.size w (w3.alloc (.cells #[.bool ok, .int .i64 kd, .int .i64 tx, .int .i64 id, .int .i64 rt, .int .i64 ct, .slice va kl.length vc, .slice ea el.length ec, .int .i64 nx, .string da] 66)) := BW.trans (hal.mono BW.size)
      have HLV : Hid (mStep (cutP fb k) k ⟨so, st, si, sr, sc⟩ = ⟨so, st, si, sr, sc⟩ → (w.heap.size + 2 ≤ (w3.alloc (.cells #[.bool ok, .int .i64 kd, .int .i64 tx, .int .i64 id, .int .i64 rt, .int .i64 ct, .slice va kl.length vc, .slice ea el.length ec, .int .i64 nx, .string da] 66)).heap.size ∧ (w3.alloc (.cells #[.bool ok, .int .i64 kd, .int .i64 tx, .int .i64 id, .int .i64 rt, .int .i64 ct, .slice va kl.length vc, .slice ea el.length ec, .int .i64 nx, .string da] 66)).heap[w.heap.size]? = some (.cells #[.bool false, .int .i64 0, .int .i64 0, .int .i64 0, .int .i64 0] 30) ∧ (w3.alloc (.cells #[.bool ok, .int .i64 kd, .int .i64 tx, .int .i64 id, .int .i64 rt, .int .i64 ct, .slice va kl.length vc, .slice ea el.length ec, .int .i64 nx, .string da] 66)).heap[w.heap.size + 1]? = some (.cells (mIter (fun j => cutP fb j) (k + 1)).cells 30) ∧ Below w.heap.size w (w3.alloc (.cells #[.bool ok, .int .i64 kd, .int .i64 tx, .int .i64 id, .int .i64 rt, .int .i64 ct, .slice va kl.length vc, .slice ea el.length ec, .int .i64 nx, .string da] 66)))) := fun h => ⟨y3, Y0, by rw [HS.out, h]; exact Y1, YW⟩
      have HTK : Hid (mStep (cutP fb k) k ⟨so, st, si, sr, sc⟩ = ⟨true, tx, id, rt, ct⟩ → (w.heap.size + 2 ≤ ((put5C w3 (w.heap.size + 1) (.bool true) (.int .i64 tx) (.int .i64 id) (.int .i64 rt) (.int .i64 ct)).alloc (.cells #[.bool ok, .int .i64 kd, .int .i64 tx, .int .i64 id, .int .i64 rt, .int .i64 ct, .slice va kl.length vc, .slice ea el.length ec, .int .i64 nx, .string da] 66)).heap.size ∧ ((put5C w3 (w.heap.size + 1) (.bool true) (.int .i64 tx) (.int .i64 id) (.int .i64 rt) (.int .i64 ct)).alloc (.cells #[.bool ok, .int .i64 kd, .int .i64 tx, .int .i64 id, .int .i64 rt, .int .i64 ct, .slice va kl.length vc, .slice ea el.length ec, .int .i64 nx, .string da] 66)).heap[w.heap.size]? = some (.cells #[.bool false, .int .i64 0, .int .i64 0, .int .i64 0, .int .i64 0] 30) ∧ ((put5C w3 (w.heap.size + 1) (.bool true) (.int .i64 tx) (.int .i64 id) (.int .i64 rt) (.int .i64 ct)).alloc (.cells #[.bool ok, .int .i64 kd, .int .i64 tx, .int .i64 id, .int .i64 rt, .int .i64 ct, .slice va kl.length vc, .slice ea el.length ec, .int .i64 nx, .string da] 66)).heap[w.heap.size + 1]? = some (.cells (mIter (fun j => cutP fb j) (k + 1)).cells 30) ∧ Below w.heap.size w ((put5C w3 (w.heap.size + 1) (.bool true) (.int .i64 tx) (.int .i64 id) (.int .i64 rt) (.int .i64 ct)).alloc (.cells #[.bool ok, .int .i64 kd, .int .i64 tx, .int .i64 id, .int .i64 rt, .int .i64 ct, .slice va kl.length vc, .slice ea el.length ec, .int .i64 nx, .string da] 66)))) := fun h => by
        have hf := put5C_fr w3 (w.heap.size + 1) (.bool true) (.int .i64 tx) (.int .i64 id) (.int .i64 rt) (.int .i64 ct)
        have hal2 := (Below.refl _ (put5C w3 (w.heap.size + 1) (.bool true) (.int .i64 tx) (.int .i64 id) (.int .i64 rt) (.int .i64 ct))).alloc (Nat.le_refl _) (.cells #[.bool ok, .int .i64 kd, .int .i64 tx, .int .i64 id, .int .i64 rt, .int .i64 ct, .slice va kl.length vc, .slice ea el.length ec, .int .i64 nx, .string da] 66)
        have bz : Below w.heap.size w (put5C w3 (w.heap.size + 1) (.bool true) (.int .i64 tx) (.int .i64 id) (.int .i64 rt) (.int .i64 ct)) := BW.trans (hf.below BW.size (fun g e => by omega))
        refine ⟨Nat.le_trans (show w.heap.size + 2 ≤ w3.heap.size by omega) (Nat.le_trans hf.size hal2.size), box_below (box_fr X0 hf (by omega)) hal2, ?_, bz.trans (hal2.mono bz.size)⟩
        rw [HS.out, h]
        exact box_below (put5C_box X1 _ _ _ _ _) hal2
      have LV : ¬ (kd = 1 ∧ tx % 2 = (k : Int) ∧ st < tx) → Hid (w.heap.size + 2 ≤ (w3.alloc (.cells #[.bool ok, .int .i64 kd, .int .i64 tx, .int .i64 id, .int .i64 rt, .int .i64 ct, .slice va kl.length vc, .slice ea el.length ec, .int .i64 nx, .string da] 66)).heap.size ∧ (w3.alloc (.cells #[.bool ok, .int .i64 kd, .int .i64 tx, .int .i64 id, .int .i64 rt, .int .i64 ct, .slice va kl.length vc, .slice ea el.length ec, .int .i64 nx, .string da] 66)).heap[w.heap.size]? = some (.cells #[.bool false, .int .i64 0, .int .i64 0, .int .i64 0, .int .i64 0] 30) ∧ (w3.alloc (.cells #[.bool ok, .int .i64 kd, .int .i64 tx, .int .i64 id, .int .i64 rt, .int .i64 ct, .slice va kl.length vc, .slice ea el.length ec, .int .i64 nx, .string da] 66)).heap[w.heap.size + 1]? = some (.cells (mIter (fun j => cutP fb j) (k + 1)).cells 30) ∧ Below w.heap.size w (w3.alloc (.cells #[.bool ok, .int .i64 kd, .int .i64 tx, .int .i64 id, .int .i64 rt, .int .i64 ct, .slice va kl.length vc, .slice ea el.length ec, .int .i64 nx, .string da] 66))) := fun h => HLV.out (mStep_leave HD.out h)
      clear hal Y0 Y1 y3 YW BW X0
      cases ok
      · have ek := HOK.out rfl
        have RR := LV (fun h => by rw [ek] at h; exact absurd h.1 (by decide))
        subst ek
        clear LV HD HTK HLV HOK
        go_wp2_with fail
        go_roundw
        case rel => exact ⟨k + 1, by omega, by go_num, RR⟩
        case measure => simp [intOf]; omega
      · clear HOK
        by_cases c1 : kd = 1
        · by_cases c2 : tx % 2 = (k : Int)
          · by_cases c3 : st < tx
            · have HRR : Hid _ := HTK.out (mStep_take HD.out c1 c2 c3)
              subst c1
              clear LV HD HTK HLV
              go_wp2_with fail
              go_roundw
              case rel => exact ⟨k + 1, by omega, by go_num, HRR⟩
              case measure => simp [intOf]; omega
            · have RR := LV (fun h => c3 h.2.2)
              subst c1
              clear LV HD HTK HLV
              go_wp2_with fail
              go_roundw
              case rel => exact ⟨k + 1, by omega, by go_num, RR⟩
              case measure => simp [intOf]; omega
          · have RR := LV (fun h => c2 h.2.1)
            subst c1
            clear LV HD HTK HLV
            go_wp2_with fail
            go_roundw
            case rel => exact ⟨k + 1, by omega, by go_num, RR⟩
            case measure => simp [intOf]; omega
        · have RR := LV (fun h => c1 h.1)
          clear LV HD HTK HLV
          go_wp2_with fail
          go_roundw
          case rel => exact ⟨k + 1, by omega, by go_num, RR⟩
          case measure => simp [intOf]; omega
    · have ek : k = 2 := by omega
      subst ek
      have XL := HX.out.2.2.1
      have X1 := HX.out.2.1
      have lL := HX.out.1
      have BW := HX.out.2.2.2
      rw [← HR.out] at XL
      clear HX
      obtain ⟨ro, rx, ri, rr, rc⟩ := R
      simp only [MR.cells] at XL
      obtain ⟨o0, o1, o2, o3, o4⟩ := box_fiveC XL
      obtain ⟨z0, z1, z2, z3, z4⟩ := box_fiveC X1
      have hz := box_thawC X1
      have X5 := put5C_box X1 (.bool ro) (.int .i64 rx) (.int .i64 ri) (.int .i64 rr) (.int .i64 rc)
      have hf := put5C_fr wr w.heap.size (.bool ro) (.int .i64 rx) (.int .i64 ri) (.int .i64 rr) (.int .i64 rc)
      have HB5 : Hid (Below w.heap.size w (put5C wr w.heap.size (.bool ro) (.int .i64 rx) (.int .i64 ri) (.int .i64 rr) (.int .i64 rc))) := BW.trans (hf.below BW.size (fun g e => by omega))
      have l0 : w.heap.size < wr.heap.size := by omega
      have l1 : w.heap.size + 1 < wr.heap.size := by omega
      clear hf BW
      go_wp2_with fail
      show bodyPost _ _ _ _ _ (put5C wr w.heap.size (.bool ro) (.int .i64 rx) (.int .i64 ri) (.int .i64 rr) (.int .i64 rc))
      clear z0 z1 z2 z3 z4 hz
      obtain ⟨z0, z1, z2, z3, z4⟩ := box_fiveC X5
      exact bodyPost_ret (v := .agg #[.bool ro, .int .i64 rx, .int .i64 ri, .int .i64 rr, .int .i64 rc]) (by simp [results, Tryz.results12, go_sem, z0, z1, z2, z3, z4]) rfl ⟨rfl, HB5.out⟩
/-- What the document's function answers. -/
def metaS (fs : List PF) (ps : List PP) (cp fu : Int) (nm : ByteArray) : MR := mIter (fun j => cutP (fileB fs ps cp fu nm) j) 2
set_option maxHeartbeats 800000 in
theorem specMeta_any (nm : ByteArray) (hnm : nm.size ≤ maxLen) (a : Option Addr) (n c : Nat) (fs : List PF) (b : Option Addr) (m d : Nat) (ps : List PP) (cp fu : Int) (de : Bool) (w : World) (A B : Nat) (hB : B ≤ w.heap.size) (hF : FilesAt w A B a n c fs) (hP : PendsAt w A B b m d ps)
    (hall : ∀ j, j < n → (fs.getD j (ByteArray.empty, [])).2.length ≤ 1048576) :
    Calls Tryz.prog 5 #[.agg #[.slice a n c, .slice b m d, .int .i64 cp, .int .i64 fu, .bool de], .string nm] w fun e w' => e = .returned (.agg (metaS fs ps cp fu nm).cells) ∧ Below w.heap.size w w' := by
  obtain ⟨W0, hW0⟩ : ∃ W0, W0 = (w.alloc (.cells #[.slice a n c, .slice b m d, .int .i64 cp, .int .i64 fu, .bool de] 35)).alloc (.cells #[.bool false, .int .i64 0, .int .i64 0, .int .i64 0, .int .i64 0] 30) := ⟨_, rfl⟩
  have z : ∀ (X : World) (x : Obj), (X.alloc x).heap.size = X.heap.size + 1 := fun X x => by simp
  have hs0 : W0.heap.size = w.heap.size + 2 := by rw [hW0]; simp
  have hb0 : Below w.heap.size w W0 := by rw [hW0]; exact ((Below.refl _ _).alloc (Nat.le_refl _) _).alloc (by simp) _
  have k1 : W0.heap[w.heap.size + 1]? = some (.cells #[.bool false, .int .i64 0, .int .i64 0, .int .i64 0, .int .i64 0] 30) := by rw [hW0]; have := heap_alloc_new (w.alloc (.cells #[.slice a n c, .slice b m d, .int .i64 cp, .int .i64 fu, .bool de] 35)) (.cells #[.bool false, .int .i64 0, .int .i64 0, .int .i64 0, .int .i64 0] 30); rwa [z] at this
  obtain ⟨R, hR⟩ : ∃ R, R = metaS fs ps cp fu nm := ⟨_, rfl⟩
  rw [← hR]
  have HR : Hid (R = metaS fs ps cp fu nm) := hR
  have HW0 : Hid _ := hW0
  clear hR hW0 z
  go_enter Tryz.func5, Tryz.ntmps5
  go_wp2_with fail
  rw [← HW0.out]
  refine (l4File_any nm hnm a n c fs b m d ps cp fu de W0 A B (by omega) (hF.below (hb0.mono hB)) (hP.below (hb0.mono hB)) hall).mono ?_
  rintro e w1 ⟨a1, c1, rfl, hby, hb1⟩
  go_wp2_with fail
  refine (l4Meta_any a1 _ c1 _ w1 W0.heap.size w1.heap.size (Nat.le_refl _) hby).mono ?_
  rintro e w2 ⟨rfl, hb2⟩
  have b2 : Below W0.heap.size W0 w2 := hb1.trans (hb2.mono hb1.size)
  have X := box_below k1 b2
  have s2 := b2.size
  have BW : Below w.heap.size w w2 := hb0.trans (b2.mono hb0.size)
  rw [show mIter (fun j => cutP (fileB fs ps cp fu nm) j) 2 = R from HR.out.symm]
  clear hb1 hb2 b2 hby k1 hb0 hF hP hall HR HW0
  obtain ⟨ro, rx, ri, rr, rc⟩ := R
  simp only [MR.cells]
  obtain ⟨z0, z1, z2, z3, z4⟩ := box_fiveC X
  have hz := box_thawC X
  have X5 := put5C_box X (.bool ro) (.int .i64 rx) (.int .i64 ri) (.int .i64 rr) (.int .i64 rc)
  have hf := put5C_fr w2 (w.heap.size + 1) (.bool ro) (.int .i64 rx) (.int .i64 ri) (.int .i64 rr) (.int .i64 rc)
  have HB5 : Hid (Below w.heap.size w (put5C w2 (w.heap.size + 1) (.bool ro) (.int .i64 rx) (.int .i64 ri) (.int .i64 rr) (.int .i64 rc))) := BW.trans (hf.below BW.size (fun g e => by omega))
  have l1 : w.heap.size + 1 < w2.heap.size := by omega
  clear hf BW
  go_wp2_with fail
  show bodyPost _ _ _ _ _ (put5C w2 (w.heap.size + 1) (.bool ro) (.int .i64 rx) (.int .i64 ri) (.int .i64 rr) (.int .i64 rc))
  clear z0 z1 z2 z3 z4 hz
  obtain ⟨z0, z1, z2, z3, z4⟩ := box_fiveC X5
  exact bodyPost_ret (v := .agg #[.bool ro, .int .i64 rx, .int .i64 ri, .int .i64 rr, .int .i64 rc]) (by simp [results, Tryz.results5, go_sem, z0, z1, z2, z3, z4]) rfl ⟨rfl, HB5.out⟩
end Go.Proofs.YtjbifddhbcfdcaaGreat
