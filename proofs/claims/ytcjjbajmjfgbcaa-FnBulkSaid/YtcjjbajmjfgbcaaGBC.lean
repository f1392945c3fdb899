import Derived.Test.YtcjjbajmjfgbcaaGAQ
import Derived.Test.YtcjjbajmjfgbcaaGAZ
import Derived.Test.YtcjjbajmjfgbcaaGBB
namespace Go.Proofs.Ytcjjbajmjfgbcaa
open Go.RowKit
set_option linter.unusedVariables false
set_option linter.unusedSimpArgs false
set_option maxRecDepth 100000
theorem belDN {B : Nat} {a w : World} (h : Below B a w) (n : Nat) : Below B a (w.drewN n) := h.trans ⟨rfl, rfl, rfl, Nat.le_refl _, fun _ _ => rfl⟩
abbrev dP : ByteArray × ByteArray := (ByteArray.empty, ByteArray.empty)
def okAt (zs : List (ByteArray × ByteArray)) (j : Nat) : Bool := kyB (zs.getD j dP).1 && decide ((zs.getD j dP).2.size ≤ 400) && (decide (j = 0) || lessB (zs.getD (j - 1) dP).1 (zs.getD j dP).1)
def bulkOk (zs : List (ByteArray × ByteArray)) : Bool := (List.range zs.length).all (okAt zs)
def bulkNs (zs : List (ByteArray × ByteArray)) : List TN := if bulkOk zs = false then [] else if zs.length = 0 then [⟨true, 0, [], [], [], []⟩] else if 1000 < (rootT zs).nodes then [] else (rootT zs).flat 0
theorem bulk_bad {zs : List (ByteArray × ByteArray)} {j : Nat} (hj : j < zs.length) (h : okAt zs j = false) : bulkNs zs = [] := by
 unfold bulkNs
 rw [if_pos]
 unfold bulkOk
 rw [List.all_eq_false]
 exact ⟨j, List.mem_range.2 hj, by simp [h]⟩
theorem bulk_good {zs : List (ByteArray × ByteArray)} (h : ∀ j, j < zs.length → okAt zs j = true) : bulkOk zs = true := by
 unfold bulkOk
 rw [List.all_eq_true]
 intro x hx
 exact h x (List.mem_range.1 hx)
def BulkAns (w : World) (zs : List (ByteArray × ByteArray)) (e : Ending) (w' : World) : Prop := ∃ oa oc us, e = .returned (.agg #[.slice oa (bulkNs zs).length oc]) ∧ OwnT w' w.heap.size (.slice oa (bulkNs zs).length oc) ((bulkNs zs).map TN.nd) us ∧ Below w.heap.size w w'
theorem BulkAns.no {w w' : World} {zs : List (ByteArray × ByteArray)} (h : bulkNs zs = []) (hb : Below w.heap.size w w') : BulkAns w zs (.returned (.agg #[.slice none 0 0])) w' := by
 refine ⟨none, 0, fun _ _ => .slice none 0 0, by rw [h]; rfl, ?_, hb⟩
 rw [h]
 exact OwnT.nil _ _ _
set_option maxHeartbeats 8000000 in
theorem implBulk_any (a : Option Addr) (n c : Nat) (zs : List (ByteArray × ByteArray)) (w : World) (B : Nat) (hB : B ≤ w.heap.size) (hp : PrAt w B a n c zs) (hn : n ≤ 1048576) :
  Calls Try.prog 5 #[.slice a n c] w fun e w' => BulkAns w zs e w' := by
 have HZ : Hid (zs.length = n) := hp.1
 have hcc := hp.2.1
 have hcm := hp.2.2.1
 unfold maxLen at hcm
 have HP : Hid (∀ W, Below w.heap.size w W → PrAt W B a n c zs) := fun W hW => hp.below (hW.mono hB)
 have HPC : Hid (∀ W, Below w.heap.size w W → ∀ j, j < n → ∃ b off, a = some ⟨b, off, none⟩ ∧ b < W.heap.size ∧ W.cell? ⟨b, off + j * 2, none⟩ = some (.string (zs.getD j dP).1) ∧ W.cell? ⟨b, off + j * 2 + 1, none⟩ = some (.string (zs.getD j dP).2) ∧ ∀ q, q + 1 = j → W.cell? ⟨b, off + q * 2, none⟩ = some (.string (zs.getD q dP).1)) := fun W hW j hj => by
  obtain ⟨b, off, e, hbB, hc⟩ := (HP.out W hW).2.2.2 (by omega)
  exact ⟨b, off, e, by have := hW.size; omega, (hc j hj).1, (hc j hj).2, fun q hq => (hc q (by omega)).1⟩
 clear hp
 have hb0 : Below w.heap.size w (w.alloc (.cells #[.slice none 0 0] 27)) := (Below.refl _ _).alloc (Nat.le_refl _) _
 have hx0 := heap_alloc_new w (.cells #[.slice none 0 0] 27)
 obtain ⟨X, hX⟩ : ∃ X, X = w.heap.size := ⟨_, rfl⟩
 rw [← hX] at hx0
 go_enter Try.func5, Try.ntmps5
 go_upto_region 1 with fail
 rw [← hX]
 have HXW : Hid (X = w.heap.size) := hX
 generalize w.alloc (.cells #[.slice none 0 0] 27) = W0 at hb0 hx0 ⊢
 clear hX
 have HS0 : Hid (W0.heap[X]? = some (.cells #[.slice none 0 0] 27) ∧ Below w.heap.size w W0) := ⟨hx0, hb0⟩
 clear hb0 hx0
 go_wp2_with fail
 go_loopw [3, 4, 9] (fun _ _ i wr => ∃ j : Nat, j ≤ n ∧ i = .int .i64 j ∧ Hid (∀ q, q < j → okAt zs q = true) ∧ Hid (wr.heap[X]? = some (.cells #[.slice none 0 0] 27) ∧ Below w.heap.size w wr)) (fun _ _ i _ => n - (intOf i).toNat)
 case atStart => exact ⟨0, Nat.zero_le _, rfl, fun q hq => by omega, HS0⟩
 case round =>
  clear HS0
  obtain ⟨j, hj, rfl, HG, HS⟩ := hrel
  by_cases hlt : j < n
  ·obtain ⟨b, off, rfl, hbl, ck, cv, cq⟩ := HPC.out wr HS.out.2 j hlt
   obtain ⟨z, hz⟩ : ∃ z, zs.getD j dP = z := ⟨_, rfl⟩
   rw [hz] at ck cv
   have HZJ : Hid (zs.getD j dP = z) := hz
   obtain ⟨ky, vl⟩ := z
   replace ck : wr.cell? ⟨b, off + j * 2, none⟩ = some (.string ky) := ck
   replace cv : wr.cell? ⟨b, off + j * 2 + 1, none⟩ = some (.string vl) := cv
   have HOK : Hid (okAt zs j = (kyB ky && decide (vl.size ≤ 400) && (decide (j = 0) || lessB (zs.getD (j - 1) dP).1 ky))) := by
    show _ = _
    unfold okAt; rw [hz]
   have hba : Below wr.heap.size wr (wr.alloc (.cells #[.string ky, .string vl] 37)) := (Below.refl _ _).alloc (Nat.le_refl _) _
   have SB := heap_alloc_new wr (.cells #[.string ky, .string vl] 37)
   have hbW := HS.out.2.trans (hba.mono HS.out.2.size)
   have hxW := boxT_below HS.out.1 hba
   have HQ : Hid (∀ q, q + 1 = j → (wr.alloc (.cells #[.string ky, .string vl] 37)).cell? ⟨b, off + q * 2, none⟩ = some (.string (zs.getD q dP).1)) := fun q hq => (hba.cell (p := ⟨b, off + q * 2, none⟩) hbl).trans (cq q hq)
   have hblW : b < (wr.alloc (.cells #[.string ky, .string vl] 37)).heap.size := Nat.lt_of_lt_of_le hbl hba.size
   obtain ⟨S, hS⟩ : ∃ S, S = wr.heap.size := ⟨_, rfl⟩
   rw [← hS] at SB
   clear hz cq
   go_upto_region 4 with fail
   rw [← hS]
   clear hS ck cv
   generalize wr.alloc (.cells #[.string ky, .string vl] 37) = V at SB hba hbW hxW HQ hblW ⊢
   obtain ⟨s0, s1⟩ := box_twoG SB
   have hSl := (Array.getElem?_eq_some_iff.1 SB).1
   have hXl := (Array.getElem?_eq_some_iff.1 hxW).1
   have xV : V.cell? ⟨X, 0, none⟩ = some (.slice none 0 0) := by simp [World.cell?, hxW]
   have zV := box_fz hxW 0
   have yX : ∀ q, ((V.drewN q).setCell ⟨X, 0, none⟩ (.slice none 0 0)).cell? ⟨X, 0, none⟩ = some (.slice none 0 0) := fun q => by simp [World.cell?, World.setCell, Array.getElem?_modify, hxW]
   have HBW : Hid (∀ q, Below w.heap.size w ((V.drewN q).setCell ⟨X, 0, none⟩ (.slice none 0 0))) := fun q => (belDN hbW q).trans ((fr_setT (V.drewN q) X 0 (.slice none 0 0)).below (by have := hbW.size; exact this) (fun b e => by have := HXW.out; omega))
   have HNX : Hid (∀ q, (V.drewN q).heap[X]? = some (.cells #[.slice none 0 0] 27) ∧ Below w.heap.size w (V.drewN q)) := fun q => ⟨hxW, belDN hbW q⟩
   have hKC := isKeyU_any ky
   clear SB hba HS hbW hxW
   by_cases t1 : kyB ky = true
   ·rw [t1] at hKC HOK
    by_cases t2 : vl.size ≤ 400
    ·have d2 : decide ((400 : Int) < (vl.size : Int)) = false := by simp; omega
     have e2 : decide (vl.size ≤ 400) = true := by simp; omega
     rw [e2] at HOK
     clear t1 t2 e2
     by_cases tj : j = 0
     ·subst tj
      have HG2 : Hid (∀ q, q < 0 + 1 → okAt zs q = true) := fun q hq => by
       obtain rfl : q = 0 := by omega
       rw [HOK.out]; rfl
      clear HQ
      go_wp2_with fail
      go_quiet ((go_at_call 17; exact Calls.quiet_of_same (hKC _)))
      go_wp2_with fail
      go_roundw
      case rel => exact ⟨0 + 1, by omega, by go_num, HG2, HNX.out _⟩
      case measure => simp [intOf]; omega
     ·obtain ⟨q, rfl⟩ : ∃ q, j = q + 1 := ⟨j - 1, by omega⟩
      have hpk := HQ.out q rfl
      have HOK2 : Hid (okAt zs (q + 1) = lessB (zs.getD q dP).1 ky) := by
       show _ = _
       rw [HOK.out]; simp
      obtain ⟨s9, hs9⟩ : ∃ s9, (zs.getD q dP).1 = s9 := ⟨_, rfl⟩
      rw [hs9] at hpk HOK2
      unfold lessB at HOK2
      have hwq : IntKind.i64.wrap (q : Int) = q := by rw [IntKind.wrap_i64]; omega
      clear HQ HOK hs9
      obtain ⟨r1, hr1⟩ : ∃ r1, Op.bytesLess s9.toList ky.toList = r1 := ⟨_, rfl⟩
      rw [hr1] at HOK2
      cases r1
      ·have HNO : Hid (bulkNs zs = []) := bulk_bad (j := q + 1) (by rw [HZ.out]; exact hlt) HOK2.out
       clear HOK2
       go_wp2_with fail
       go_quiet ((go_at_call 17; exact Calls.quiet_of_same (hKC _)))
       go_wp2_with fail
       exact bodyPost_ret (v := .agg #[.slice none 0 0]) (by simp [results, Try.results5, go_sem, yX]) rfl (BulkAns.no HNO.out (HBW.out _))
      ·have HG2 : Hid (∀ p, p < q + 1 + 1 → okAt zs p = true) := fun p hp => by
        by_cases hpe : p = q + 1
        ·rw [hpe]; exact HOK2.out
        ·exact HG.out p (by omega)
       clear HOK2
       go_wp2_with fail
       go_quiet ((go_at_call 17; exact Calls.quiet_of_same (hKC _)))
       go_wp2_with fail
       go_roundw
       case rel => exact ⟨q + 1 + 1, by omega, by go_num, HG2, HNX.out _⟩
       case measure => simp [intOf]; omega
    ·have d2 : decide ((400 : Int) < (vl.size : Int)) = true := by simp; omega
     have HNO : Hid (bulkNs zs = []) := bulk_bad (j := j) (by rw [HZ.out]; exact hlt) (by rw [HOK.out]; simp [t2])
     clear t1 t2
     go_wp2_with fail
     go_quiet ((go_at_call 17; exact Calls.quiet_of_same (hKC _)))
     go_wp2_with fail
     exact bodyPost_ret (v := .agg #[.slice none 0 0]) (by simp [results, Try.results5, go_sem, yX]) rfl (BulkAns.no HNO.out (HBW.out _))
   ·have HNO : Hid (bulkNs zs = []) := bulk_bad (j := j) (by rw [HZ.out]; exact hlt) (by rw [HOK.out]; simp [t1])
    have hk : kyB ky = false := by simpa using t1
    rw [hk] at hKC
    clear t1
    go_wp2_with fail
    go_quiet ((go_at_call 17; exact Calls.quiet_of_same (hKC _)))
    go_wp2_with fail
    exact bodyPost_ret (v := .agg #[.slice none 0 0]) (by simp [results, Try.results5, go_sem, yX]) rfl (BulkAns.no HNO.out (HBW.out _))
  ·obtain rfl : j = n := by omega
   rename World => wo
   have HGOOD : Hid (bulkOk zs = true) := bulk_good (fun q hq => HG.out q (by rw [HZ.out] at hq; exact hq))
   have hxr := HS.out.1
   have hXl := (Array.getElem?_eq_some_iff.1 hxr).1
   have hbr := HS.out.2
   have hsr := hbr.size
   by_cases h0 : j = 0
   ·subst h0
    have HN1 : Hid (bulkNs zs = [⟨true, 0, [], [], [], []⟩]) := by
     show _ = _
     unfold bulkNs
     rw [HGOOD.out, if_neg (by simp), if_pos HZ.out]
    clear HG HP HPC
    go_wp2_with (first | (go_at_call 10; refine (implNewU_any wo).mono ?_; rintro ex w9 ⟨oa, oc, us, rfl, hO, hB⟩; have hx9 := boxT_below hxr hB; have hl9 := (Array.getElem?_eq_some_iff.1 hx9).1; have c9 : w9.cell? ⟨X, 0, none⟩ = some (.slice none 0 0) := (by simp [World.cell?, hx9]); have z9 := box_fz hx9 0))
    have F10 := fr_setT w9 X 0 (.slice oa 1 oc)
    have hO2 : OwnT (w9.setCell ⟨X, 0, none⟩ (.slice oa 1 oc)) w.heap.size (.slice oa 1 oc) [TN.nd ⟨true, 0, [], [], [], []⟩] us := (hO.fr F10 (fun g hg e => by have := (hO.blk hg).1; omega)).lower (by omega)
    have hb10 : Below w.heap.size w (w9.setCell ⟨X, 0, none⟩ (.slice oa 1 oc)) := (hbr.trans (hB.mono hsr)).trans (F10.below (by have := hB.size; omega) (fun b e => by have := HXW.out; omega))
    have x10 : (w9.setCell ⟨X, 0, none⟩ (.slice oa 1 oc)).cell? ⟨X, 0, none⟩ = some (.slice oa 1 oc) := by simp [World.cell?, World.setCell, Array.getElem?_modify, hx9]
    refine bodyPost_ret (v := .agg #[.slice oa 1 oc]) (by simp [results, Try.results5, go_sem, x10]) rfl ⟨oa, oc, us, ?_, ?_, hb10⟩
    ·rw [HN1.out]; rfl
    ·rw [HN1.out]; exact hO2
   ·have hne : ((j : Int) == 0) = false := by simp; omega
    have hPA := HP.out wo hbr
    go_wp2_with (first | (go_at_call 18; refine (bulkLeaves_any a j c zs wo B (by omega) hPA hn).mono ?_; rintro ex w1 ⟨la, lm, lc, us, rfl, hLV⟩))
    have HL1 : Hid (LvSt wo w1 wo.heap.size lm lc la (lvlB zs) us ∧ LvOk j (lvlB zs) ∧ (lvlB zs).length ≤ zs.length) := ⟨hLV, by have h9 := lvlB_ok (zs := zs) (by rw [HZ.out]; omega); rw [HZ.out] at h9; exact h9, by rw [show (lvlB zs).length = (chunks zs).length by simp [lvlB]]; exact chunks_le _ zs (Nat.le_refl _)⟩
    clear hLV hPA HG HP HPC HS
    go_loopw [5] (fun lv wx => ∃ (lm lc f : Nat) (la : Option Addr) (ts : List T) (us : List Value), lv = .slice la lm lc ∧ lm ≤ 1048576 ∧ Hid (LvSt wo wx wo.heap.size lm lc la ts us ∧ LvOk j ts ∧ topF f ts = topF zs.length (lvlB zs) ∧ ts.length ≤ f) ∧ Hid (wo.heap.size ≤ wx.heap.size)) (fun lv _ => match lv with | .slice _ m _ => m | _ => 0)
    case atStart => exact ⟨lm, lc, zs.length, la, lvlB zs, us, rfl, by have h1 := HL1.out.1.len; have h2 := HL1.out.2.1.le; omega, ⟨HL1.out.1, HL1.out.2.1, rfl, HL1.out.2.2⟩, HL1.out.1.bel.size⟩
    case round =>
     clear HL1
     obtain ⟨lm, lc, f, la, ts, us, rfl, hlm, HL, HSZ⟩ := hrel
     have hrw := HL.out.1.row
     have hpos : 0 < lm := by rw [← HL.out.1.len]; exact HL.out.2.1.pos
     obtain ⟨g, rfl, hgl, hcp, hcx, hc0⟩ : ∃ g, la = some ⟨g, 0, none⟩ ∧ g < wr.heap.size ∧ lm ≤ lc ∧ lc ≤ 2 ^ 63 - 1 ∧ wr.cell? ⟨g, 0, none⟩ = us[0]? := by
      rcases hrw.2 with ⟨e, e2⟩ | ⟨g, cap, cur, e, hg1, hg2, h1, h2, _⟩
      ·omega
      ·have e9 := e
       simp only [Value.slice.injEq] at e
       obtain ⟨rfl, _, rfl⟩ := e
       exact ⟨g, rfl, (hrw.lt g rfl).2, h1, by unfold maxLen at h2; exact h2, hrw.cellAt 0 (by omega)⟩
     clear hrw
     by_cases h1 : 1 < lm
     ·have hd : decide ((1 : Int) < (lm : Int)) = true := by simp; omega
      have hcall := bulkInner_any wo wo.heap.size (some ⟨g, 0, none⟩) lm lc ts us wr HSZ.out HL.out.1 hlm hcx hcp
      have hup := upT_ok HL.out.2.1 (by rw [HL.out.1.len]; omega)
      have HUP : Hid (LvOk j (upT ts) ∧ (upT ts).length * 2 ≤ ts.length) := hup
      have HTL : Hid (ts.length = lm) := HL.out.1.len
      clear hup
      go_wp2_with (first | (go_at_call 19; refine hcall.mono ?_; rintro ex w2 ⟨la2, lm2, lc2, us2, rfl, hL2, hs2⟩))
      have hl2 := hL2.len
      have hl3 : lm2 = (upT ts).length := hl2.symm
      have h9 := HUP.out.2
      have h8 := HTL.out
      have HNX : Hid (LvSt wo w2 wo.heap.size lm2 lc2 la2 (upT ts) us2 ∧ LvOk j (upT ts) ∧ topF (f - 1) (upT ts) = topF zs.length (lvlB zs) ∧ (upT ts).length ≤ f - 1) := by
       obtain ⟨f', rfl⟩ : ∃ f', f = f' + 1 := ⟨f - 1, by have := HL.out.2.2.2; omega⟩
       have hst := topF_step (f := f') (ts := ts) (by omega) HL.out.2.2.2 HUP.out.2
       exact ⟨hL2, HUP.out.1, by rw [← HL.out.2.2.1, hst.1]; rfl, hst.2⟩
      have HS2 : Hid (wo.heap.size ≤ w2.heap.size) := Nat.le_trans HSZ.out hs2
      clear hL2 hl2
      go_roundw
      case rel => exact ⟨lm2, lc2, f - 1, la2, upT ts, us2, rfl, by omega, HNX, HS2⟩
      case measure => show lm2 < lm; omega
     ·obtain rfl : lm = 1 := by omega
      obtain ⟨t, ht⟩ : ∃ t, ts[0]? = some t := ⟨_, List.getElem?_eq_getElem (by rw [HL.out.1.len]; omega)⟩
      obtain ⟨u, hu, hG⟩ := HL.out.1.node 0 t ht
      obtain ⟨ty, v, rfl⟩ := hG.shape
      rw [hu] at hc0
      have htm := List.mem_of_getElem? ht
      have hwh := HL.out.2.1.all t htm
      have hroot : rootT zs = t := by
       unfold rootT
       rw [← HL.out.2.2.1, topF_done f (by rw [HL.out.1.len]; omega)]
       cases ts with
       | nil => simp at ht
       | cons x r => simpa using ht
      have hnod : t.nodes ≤ 2097152 := by
       have h5 := HL.out.2.1.sum
       have h6 : t.nodes ≤ sumN ts := by
        cases ts with
        | nil => simp at ht
        | cons x r => simp at ht; subst ht; unfold sumN; simp
       omega
      have hTd := told_any wr hwh.1 hG (fun b hp => hp.2.1) (by omega)
      have HFL : Hid ((t.flat 0).length = t.nodes) := T.flat_len t hwh.1 0
      have HBN : Hid (bulkNs zs = if 1000 < t.nodes then [] else t.flat 0) := by
       show _ = _
       unfold bulkNs
       rw [HGOOD.out, if_neg (by simp), if_neg (by rw [HZ.out]; omega), hroot]
      have hxw := boxT_below (w' := wr) hxr HL.out.1.bel
      have hbw := hbr.trans (HL.out.1.bel.mono hsr)
      have hszw := HSZ.out
      clear hroot hG hu ht htm hwh HL
      by_cases hbig : 1000 < t.nodes
      ·have hdb : decide ((1000 : Int) < (t.nodes : Int)) = true := by simp; omega
       go_wp2_with (first | (go_at_call 20; refine hTd.mono ?_; rintro ex w9 ⟨oa, oc, us9, rfl, hO, hB⟩; have hxa := boxT_below (boxT_below hxw hB) ((Below.refl w9.heap.size w9).alloc (Nat.le_refl _) (.cells #[.slice oa t.nodes oc] 27)); have hla := (Array.getElem?_eq_some_iff.1 hxa).1; have ca : (w9.alloc (.cells #[.slice oa t.nodes oc] 27)).cell? ⟨X, 0, none⟩ = some (.slice none 0 0) := (by simp [World.cell?, hxa]); have za := box_fz hxa 0; have hxl9 : X < w9.heap.size := (Array.getElem?_eq_some_iff.1 (boxT_below hxw hB)).1))
       have hba : Below w9.heap.size w9 (w9.alloc (.cells #[.slice oa t.nodes oc] 27)) := (Below.refl _ _).alloc (Nat.le_refl _) _
       have F10 := fr_setT w9 X 0 (.slice none 0 0)
       have hbs : Below (w9.setCell ⟨X, 0, none⟩ (.slice none 0 0)).heap.size (w9.setCell ⟨X, 0, none⟩ (.slice none 0 0)) ((w9.setCell ⟨X, 0, none⟩ (.slice none 0 0)).alloc (.cells #[.slice oa t.nodes oc] 27)) := (Below.refl _ _).alloc (Nat.le_refl _) _
       have hs9 := hB.size
       have hsa := hba.size
       have hb10 : Below w.heap.size w ((w9.setCell ⟨X, 0, none⟩ (.slice none 0 0)).alloc (.cells #[.slice oa t.nodes oc] 27)) := ((hbw.trans (hB.mono hbw.size)).trans (F10.below (by have := hbw.size; omega) (fun b e => by have := HXW.out; omega))).trans (hbs.mono (by have := hbw.size; have := F10.size; omega))
       have x9 : (w9.setCell ⟨X, 0, none⟩ (.slice none 0 0)).cell? ⟨X, 0, none⟩ = some (.slice none 0 0) := by simp [World.cell?, World.setCell, Array.getElem?_modify, boxT_below hxw hB]
       have x10 : ((w9.setCell ⟨X, 0, none⟩ (.slice none 0 0)).alloc (.cells #[.slice oa t.nodes oc] 27)).cell? ⟨X, 0, none⟩ = some (.slice none 0 0) := (hbs.cell (p := ⟨X, 0, none⟩) (by have := F10.size; show X < _; omega)).trans x9
       exact bodyPost_ret (v := .agg #[.slice none 0 0]) (by simp [results, Try.results5, go_sem, x10]) rfl (BulkAns.no (by rw [HBN.out, if_pos hbig]) hb10)
      ·have hdb : decide ((1000 : Int) < (t.nodes : Int)) = false := by simp; omega
       go_wp2_with (first | (go_at_call 20; refine hTd.mono ?_; rintro ex w9 ⟨oa, oc, us9, rfl, hO, hB⟩; have hxa := boxT_below (boxT_below hxw hB) ((Below.refl w9.heap.size w9).alloc (Nat.le_refl _) (.cells #[.slice oa t.nodes oc] 27)); have hla := (Array.getElem?_eq_some_iff.1 hxa).1; have ca : (w9.alloc (.cells #[.slice oa t.nodes oc] 27)).cell? ⟨X, 0, none⟩ = some (.slice none 0 0) := (by simp [World.cell?, hxa]); have za := box_fz hxa 0; have hxl9 : X < w9.heap.size := (Array.getElem?_eq_some_iff.1 (boxT_below hxw hB)).1))
       have hba : Below w9.heap.size w9 (w9.alloc (.cells #[.slice oa t.nodes oc] 27)) := (Below.refl _ _).alloc (Nat.le_refl _) _
       have F10 := fr_setT w9 X 0 (.slice oa t.nodes oc)
       have hbs : Below (w9.setCell ⟨X, 0, none⟩ (.slice oa t.nodes oc)).heap.size (w9.setCell ⟨X, 0, none⟩ (.slice oa t.nodes oc)) ((w9.setCell ⟨X, 0, none⟩ (.slice oa t.nodes oc)).alloc (.cells #[.slice oa t.nodes oc] 27)) := (Below.refl _ _).alloc (Nat.le_refl _) _
       have hs9 := hB.size
       have hsa := hba.size
       have hb10 : Below w.heap.size w ((w9.setCell ⟨X, 0, none⟩ (.slice oa t.nodes oc)).alloc (.cells #[.slice oa t.nodes oc] 27)) := ((hbw.trans (hB.mono hbw.size)).trans (F10.below (by have := hbw.size; omega) (fun b e => by have := HXW.out; omega))).trans (hbs.mono (by have := hbw.size; have := F10.size; omega))
       have x9 : (w9.setCell ⟨X, 0, none⟩ (.slice oa t.nodes oc)).cell? ⟨X, 0, none⟩ = some (.slice oa t.nodes oc) := by simp [World.cell?, World.setCell, Array.getElem?_modify, boxT_below hxw hB]
       have x10 : ((w9.setCell ⟨X, 0, none⟩ (.slice oa t.nodes oc)).alloc (.cells #[.slice oa t.nodes oc] 27)).cell? ⟨X, 0, none⟩ = some (.slice oa t.nodes oc) := (hbs.cell (p := ⟨X, 0, none⟩) (by have := F10.size; show X < _; omega)).trans x9
       have hO2 : OwnT ((w9.setCell ⟨X, 0, none⟩ (.slice oa t.nodes oc)).alloc (.cells #[.slice oa t.nodes oc] 27)) w.heap.size (.slice oa t.nodes oc) ((t.flat 0).map TN.nd) us9 := ((hO.fr F10 (fun g hg e => by have := (hO.blk hg).1; omega)).below hbs).lower (by have := hbw.size; omega)
       have hlen : (bulkNs zs).length = t.nodes := by rw [HBN.out, if_neg hbig, HFL.out]
       refine bodyPost_ret (v := .agg #[.slice oa t.nodes oc]) (by simp [results, Try.results5, go_sem, x10]) rfl ⟨oa, oc, us9, by rw [hlen], ?_, hb10⟩
       rw [hlen, HBN.out, if_neg hbig]
       exact hO2
theorem emptyI (w : World) : (w.alloc (.cells #[] 3)).ownsRow w.heap.size 3 1 (.slice (some ⟨w.heap.size, 0, none⟩) 0 0) 0 [] := by
 have := World.ownsRow_made w #[] (base := w.heap.size) (e := 3) (size := 1) 0 (by simp) (by unfold maxLen; omega) (by simp)
 simpa using this
set_option maxHeartbeats 2000000 in
theorem groups_any (n : Nat) (hn : n ≤ 10000000) (w : World) :
  Calls Try.prog 23 #[.int .i64 n] w fun e w' => ∃ a c, e = .returned (.slice a (sharesL n).length c) ∧ w'.ownsRow w.heap.size 3 1 (.slice a (sharesL n).length c) (sharesL n).length (rowsOf intCells (sharesL n)) ∧ Below w.heap.size w w' := by
 obtain ⟨i0, hi0, hz0, hz1, hz2⟩ := info_parts info_int
 obtain ⟨FIN, hF⟩ : ∃ F, F = sharesL n := ⟨_, rfl⟩
 rw [← hF]
 have HF : Hid ([] ++ sharesL n = FIN) := hF.symm
 clear hF
 have HE : Hid ((w.alloc (.cells #[] 3)).ownsRow w.heap.size 3 1 (.slice (some ⟨w.heap.size, 0, none⟩) 0 0) 0 [] ∧ Below w.heap.size w (w.alloc (.cells #[] 3))) := ⟨emptyI w, (Below.refl _ _).alloc (Nat.le_refl _) _⟩
 go_enter Try.func23, Try.ntmps23
 go_wp2_with fail
 go_loopw [0, 3, 4] (fun cv o _ wr => ∃ (k : Nat) (xs : List Int) (a : Option Addr) (c : Nat), k + xs.length ≤ n ∧ cv = .int .i64 k ∧ o = .slice a xs.length c ∧ Hid (xs ++ sharesL k = FIN) ∧ Hid (wr.ownsRow w.heap.size 3 1 (.slice a xs.length c) xs.length (rowsOf intCells xs) ∧ Below w.heap.size w wr)) (fun cv _ _ _ => (intOf cv).toNat)
 case atStart => exact ⟨n, [], some ⟨w.heap.size, 0, none⟩, 0, by simp, rfl, rfl, HF, HE.out.1, HE.out.2⟩
 case round =>
  clear HF HE
  obtain ⟨k, xs, a, c, hk, rfl, rfl, HX, HO⟩ := hrel
  by_cases h0 : 0 < k
  ·obtain ⟨hs1, hs2, hs3⟩ := shareN_le h0
   have hstep := sharesL_step h0
   obtain ⟨s, hs⟩ : ∃ s, s = shareN k := ⟨_, rfl⟩
   rw [← hs] at hs1 hs2 hs3 hstep
   have HX2 : Hid ((xs ++ [(s : Int)]) ++ sharesL (k - s) = FIN) := by
    show _ = _
    rw [← HX.out, hstep]; simp
   have hd0 : decide ((0 : Int) < (k : Int)) = true := by simp; omega
   have hrow := HO.out.1
   have hbel := HO.out.2
   obtain ⟨xl, hxl⟩ : ∃ xl, xl = xs.length := ⟨_, rfl⟩
   have HXL : Hid (xl = xs.length) := hxl
   rw [← hxl] at hrow hk ⊢
   clear HO HX hstep hxl
   have hcell := cell_one_new wr (.int .i64 (s : Int)) 3
   have hsz := hbel.size
   have HSH : Hid (s = shareN k) := hs
   clear hs
   by_cases h5 : k = 5
   ·have h5d : ((k : Int) == 5) = true := by simp; omega
    have hs3' : s = 3 := by rw [HSH.out, h5]; rfl
    subst hs3'
    have hlt4 : ¬ (k : Int) < 4 := by omega
    clear h5
    go_wp2_with (at_builtin; refine wpList_append_ownD _ rfl _ _ 53 rfl w.heap.size 3 i0 _ 1 8 Try.underlying53 hi0 hz0 hz1 hz2 rfl (by decide) _ _ _ rfl (hrow.alloc _) ⟨wr.heap.size, 0, none⟩ 1 1 [.int .i64 3] rfl rfl hcell (by simp [Value.oneCell']) (by unfold maxLen; omega) (by omega) (by simp; omega) ?_; intro v' w5 hown' hgr' hat'; obtain ⟨g5, e5, rfl⟩ := rowSuccT hown')
    have HR : Hid (w5.ownsRow w.heap.size 3 1 (.slice (some ⟨g5, 0, none⟩) (xs ++ [(((3 : Nat)) : Int)]).length e5) (xs ++ [(((3 : Nat)) : Int)]).length (rowsOf intCells (xs ++ [(((3 : Nat)) : Int)])) ∧ Below w.heap.size w w5) := by
     refine ⟨?_, (hbel.alloc hsz _).grown hgr' (by simp; omega) (fun q e => (hrow.lt q e).1)⟩
     rw [List.length_append, ← HXL.out, show rowsOf intCells (xs ++ [(((3 : Nat)) : Int)]) = rowsOf intCells xs ++ [.int .i64 3] by simp [rowsOf, intCells]]
     exact hown'
    have HLL : Hid ((xs ++ [(((3 : Nat)) : Int)]).length = xl + 1) := by show _ = _; rw [List.length_append, ← HXL.out]; rfl
    clear hown' hgr' hat' hrow hbel hcell
    go_roundw
    case rel => exact ⟨k - 3, xs ++ [(((3 : Nat)) : Int)], some ⟨g5, 0, none⟩, e5, by rw [HLL.out]; omega, by go_num, by rw [HLL.out], HX2, HR⟩
    case measure => simp [intOf]; omega
   ·have h5d : ((k : Int) == 5) = false := by simp; omega
    by_cases h4 : k < 4
    ·have hd4 : (k : Int) < 4 := by omega
     have hs4 : s = k := by rw [HSH.out]; unfold shareN; rw [if_neg h5]; omega
     subst hs4
     clear h5
     go_wp2_with (at_builtin; refine wpList_append_ownD _ rfl _ _ 53 rfl w.heap.size 3 i0 _ 1 8 Try.underlying53 hi0 hz0 hz1 hz2 rfl (by decide) _ _ _ rfl (hrow.alloc _) ⟨wr.heap.size, 0, none⟩ 1 1 [.int .i64 (s : Int)] rfl rfl hcell (by simp [Value.oneCell']) (by unfold maxLen; omega) (by omega) (by simp; omega) ?_; intro v' w5 hown' hgr' hat'; obtain ⟨g5, e5, rfl⟩ := rowSuccT hown')
     have HR : Hid (w5.ownsRow w.heap.size 3 1 (.slice (some ⟨g5, 0, none⟩) (xs ++ [(s : Int)]).length e5) (xs ++ [(s : Int)]).length (rowsOf intCells (xs ++ [(s : Int)])) ∧ Below w.heap.size w w5) := by
      refine ⟨?_, (hbel.alloc hsz _).grown hgr' (by simp; omega) (fun q e => (hrow.lt q e).1)⟩
      rw [List.length_append, ← HXL.out, show rowsOf intCells (xs ++ [(s : Int)]) = rowsOf intCells xs ++ [.int .i64 (s : Int)] by simp [rowsOf, intCells]]
      exact hown'
     have HLL : Hid ((xs ++ [(s : Int)]).length = xl + 1) := by show _ = _; rw [List.length_append, ← HXL.out]; rfl
     clear hown' hgr' hat' hrow hbel hcell
     go_roundw
     case rel => exact ⟨s - s, xs ++ [(s : Int)], some ⟨g5, 0, none⟩, e5, by rw [HLL.out]; omega, by go_num, by rw [HLL.out], HX2, HR⟩
     case measure => simp [intOf]; omega
    ·have hd4 : ¬ (k : Int) < 4 := by omega
     have hs4 : s = 4 := by rw [HSH.out]; unfold shareN; rw [if_neg h5]; omega
     subst hs4
     clear h5
     go_wp2_with (at_builtin; refine wpList_append_ownD _ rfl _ _ 53 rfl w.heap.size 3 i0 _ 1 8 Try.underlying53 hi0 hz0 hz1 hz2 rfl (by decide) _ _ _ rfl (hrow.alloc _) ⟨wr.heap.size, 0, none⟩ 1 1 [.int .i64 4] rfl rfl hcell (by simp [Value.oneCell']) (by unfold maxLen; omega) (by omega) (by simp; omega) ?_; intro v' w5 hown' hgr' hat'; obtain ⟨g5, e5, rfl⟩ := rowSuccT hown')
     have HR : Hid (w5.ownsRow w.heap.size 3 1 (.slice (some ⟨g5, 0, none⟩) (xs ++ [(((4 : Nat)) : Int)]).length e5) (xs ++ [(((4 : Nat)) : Int)]).length (rowsOf intCells (xs ++ [(((4 : Nat)) : Int)])) ∧ Below w.heap.size w w5) := by
      refine ⟨?_, (hbel.alloc hsz _).grown hgr' (by simp; omega) (fun q e => (hrow.lt q e).1)⟩
      rw [List.length_append, ← HXL.out, show rowsOf intCells (xs ++ [(((4 : Nat)) : Int)]) = rowsOf intCells xs ++ [.int .i64 4] by simp [rowsOf, intCells]]
      exact hown'
     have HLL : Hid ((xs ++ [(((4 : Nat)) : Int)]).length = xl + 1) := by show _ = _; rw [List.length_append, ← HXL.out]; rfl
     clear hown' hgr' hat' hrow hbel hcell
     go_roundw
     case rel => exact ⟨k - 4, xs ++ [(((4 : Nat)) : Int)], some ⟨g5, 0, none⟩, e5, by rw [HLL.out]; omega, by go_num, by rw [HLL.out], HX2, HR⟩
     case measure => simp [intOf]; omega
  ·obtain rfl : k = 0 := by omega
   have hxe : xs = FIN := by rw [← HX.out, sharesL_zero, List.append_nil]
   subst hxe
   clear HX
   go_wp2_with fail
   go_ret
   exact ⟨a, c, rfl, HO.out.1, HO.out.2⟩
theorem chunks_two {α : Type} : ∀ (k : Nat) (l : List α), l.length ≤ k → 2 ≤ l.length → ∀ c ∈ chunks l, 2 ≤ c.length
 | 0, l, h, h2, c, hc => by omega
 | k + 1, l, h, h2, c, hc => by
  obtain ⟨h3, h4⟩ := shareN_rest h2
  have hs := shareN_le (n := l.length) (by omega)
  rw [chunks_step (by omega), List.mem_cons] at hc
  rcases hc with rfl | hc
  ·rw [List.length_take]; omega
  ·rcases h4 with h5 | h5
   ·rw [List.drop_eq_nil_of_le (by omega), chunks_nil] at hc; simp at hc
   ·exact chunks_two k (l.drop (shareN l.length)) (by rw [List.length_drop]; omega) (by rw [List.length_drop]; omega) c hc
theorem chunks_four {α : Type} : ∀ (k : Nat) (l : List α), l.length ≤ k → l.length ≤ (chunks l).length * 4
 | 0, l, h => by omega
 | k + 1, l, h => by
  by_cases h0 : 0 < l.length
  ·have hs := shareN_le h0
   rw [chunks_step h0, List.length_cons]
   have := chunks_four k (l.drop (shareN l.length)) (by rw [List.length_drop]; omega)
   rw [List.length_drop] at this
   omega
  ·omega
def keysOk (t : T) : Prop := t.slots.all (fun s => kyB s.1) = true
structure LvGd (ts : List T) : Prop where
 all : ∀ t ∈ ts, t.good true = true ∧ keysOk t
 two : 2 ≤ ts.length → ∀ t ∈ ts, t.good false = true
theorem leafB_good {c : List (ByteArray × ByteArray)} (r : Bool) (h : c.length ≤ 4) (h2 : r = true ∨ 2 ≤ c.length) (hv : ∀ z ∈ c, z.2.size ≤ 400) : (leafB c).good r = true := by
 rw [T.good_eq]
 have h3 : (leafB c).size = c.length := (leafB_ok h).2.1
 have h4 : ((leafB c).vals.zip (leafB c).over).all (fun x => standB (leafB c).page x.1 x.2) = true := by
  rw [List.all_eq_true]
  intro x hx
  obtain ⟨v, o⟩ := x
  have e : (leafB c).vals.zip (leafB c).over = c.map (fun z => (z.2, (0 : Int))) := by
   unfold leafB
   simp only
   clear hx h3 hv h2 h
   induction c with
   | nil => rfl
   | cons z q ih => simp only [List.map_cons, List.zip_cons_cons, ih]
  rw [e] at hx
  obtain ⟨z, hz, e2⟩ := List.mem_map.1 hx
  simp only [Prod.mk.injEq] at e2
  obtain ⟨rfl, rfl⟩ := e2
  have := hv z hz
  simp [standB, leafB, this]
 rw [h4, h3]
 simp only [leafB, List.length_map, List.map_nil, List.all_nil, decide_true, Bool.and_true, Bool.true_and, Bool.not_true, Bool.false_or]
 simp only [beq_self_eq_true, Bool.true_or, Bool.and_true, decide_eq_true_eq]
 refine ⟨?_, h⟩
 rcases h2 with rfl | h2
 ·simp
 ·split <;> omega
theorem leafB_keys {c : List (ByteArray × ByteArray)} (hk : ∀ z ∈ c, kyB z.1 = true) : keysOk (leafB c) := by
 unfold keysOk
 have e : (leafB c).slots = slB c := by
  rw [T.slots_eq, slB_zip]
  show slB c ++ [] = slB c
  rw [List.append_nil]
 rw [e, List.all_eq_true]
 intro s hs
 obtain ⟨z, hz, rfl⟩ := List.mem_map.1 hs
 exact hk z hz
theorem innB_good {c : List T} (r : Bool) (h : 2 ≤ c.length ∧ c.length ≤ 4) (hg : ∀ t ∈ c, t.good false = true) : (innB c).good r = true := by
 rw [T.good_eq]
 have h1 : (c.map (fun t => t.good false)).all id = true := List.all_eq_true.2 (fun b hb => by obtain ⟨t, ht, rfl⟩ := List.mem_map.1 hb; exact hg t ht)
 have h2 : (innB c).size = c.length := rfl
 show (decide _ && _ && _ && (c.map (fun t => t.good false)).all id && c.all _) = true
 rw [h1, h2]
 simp [innB]
 omega
theorem innB_keys {c : List T} (hk : ∀ t ∈ c, keysOk t) : keysOk (innB c) := by
 unfold keysOk
 rw [List.all_eq_true]
 intro s hs
 rw [T.slots_eq] at hs
 replace hs : s ∈ [] ++ (c.map T.slots).flatten := hs
 rw [List.nil_append, List.mem_flatten] at hs
 obtain ⟨l, hl, hs⟩ := hs
 obtain ⟨t, ht, rfl⟩ := List.mem_map.1 hl
 exact List.all_eq_true.1 (hk t ht) s hs
theorem bulk_at {zs : List (ByteArray × ByteArray)} (h : bulkOk zs = true) : ∀ z ∈ zs, kyB z.1 = true ∧ z.2.size ≤ 400 := by
 intro z hz
 obtain ⟨i, hi, rfl⟩ := List.mem_iff_getElem.1 hz
 unfold bulkOk at h
 have := List.all_eq_true.1 h i (List.mem_range.2 hi)
 unfold okAt at this
 simp only [Bool.and_eq_true, decide_eq_true_eq, List.getD, List.getElem?_eq_getElem hi, Option.getD_some] at this
 exact ⟨this.1.1, this.1.2⟩
theorem lvlB_gd {zs : List (ByteArray × ByteArray)} (h : bulkOk zs = true) : LvGd (lvlB zs) := by
 have hm := chunks_mem _ zs (Nat.le_refl _)
 have hz := bulk_at h
 refine ⟨fun t ht => ?_, fun h2 t ht => ?_⟩
 ·obtain ⟨c, hc, rfl⟩ := List.mem_map.1 ht
  exact ⟨leafB_good true (hm c hc).2.1 (.inl rfl) (fun z hz' => (hz z ((hm c hc).2.2 z hz')).2), leafB_keys (fun z hz' => (hz z ((hm c hc).2.2 z hz')).1)⟩
 ·obtain ⟨c, hc, rfl⟩ := List.mem_map.1 ht
  have h3 := chunks_le _ zs (Nat.le_refl _)
  have h4 : (lvlB zs).length = (chunks zs).length := by simp [lvlB]
  exact leafB_good false (hm c hc).2.1 (.inr (chunks_two _ zs (Nat.le_refl _) (by omega) c hc)) (fun z hz' => (hz z ((hm c hc).2.2 z hz')).2)
theorem upT_gd {ts : List T} (h : LvGd ts) (h2 : 2 ≤ ts.length) : LvGd (upT ts) := by
 have hm := chunks_mem _ ts (Nat.le_refl _)
 have ht2 := chunks_two _ ts (Nat.le_refl _) h2
 refine ⟨fun t ht => ?_, fun _ t ht => ?_⟩
 ·obtain ⟨c, hc, rfl⟩ := List.mem_map.1 ht
  exact ⟨innB_good true ⟨ht2 c hc, (hm c hc).2.1⟩ (fun t ht' => h.two h2 t ((hm c hc).2.2 t ht')), innB_keys (fun t ht' => (h.all t ((hm c hc).2.2 t ht')).2)⟩
 ·obtain ⟨c, hc, rfl⟩ := List.mem_map.1 ht
  exact innB_good false ⟨ht2 c hc, (hm c hc).2.1⟩ (fun t ht' => h.two h2 t ((hm c hc).2.2 t ht'))
theorem sum_up {n : Nat} {ts : List T} (h : LvOk n ts) : sumN ts ≤ sumN (upT ts) := by
 have hm := chunks_mem _ ts (Nat.le_refl _)
 have hi : ∀ c ∈ chunks ts, (innB c).nodes = 1 + sumN c := fun c hc => (innB_ok (hm c hc).1 (fun t ht => h.all t ((hm c hc).2.2 t ht))).2.2
 unfold upT
 rw [sumN_map innB (fun c => 1 + sumN c) _ hi]
 have hf := chunks_flat _ ts (Nat.le_refl _)
 have : sumN ts = sumN (chunks ts).flatten := by rw [hf]
 rw [this]
 generalize chunks ts = q
 induction q with
 | nil => exact Nat.le_refl _
 | cons x r ih =>
  simp only [List.map_cons, List.sum_cons, List.flatten_cons]
  unfold sumN at ih ⊢
  rw [List.map_append, List.sum_append]; omega
theorem top_sum {n : Nat} : ∀ (f : Nat) (ts : List T), LvOk n ts → ts.length ≤ f → ∃ t, topF f ts = [t] ∧ sumN ts ≤ t.nodes
 | 0, ts, h, hf => by have := h.pos; omega
 | f + 1, ts, h, hf => by
  by_cases h1 : 1 < ts.length
  ·have hu := upT_ok h h1
   have hst := topF_step (f := f) h1 hf hu.2
   obtain ⟨t, e, hs⟩ := top_sum f (upT ts) hu.1 hst.2
   exact ⟨t, by rw [hst.1, e], Nat.le_trans (sum_up h) hs⟩
  ·rw [topF_done _ (by omega)]
   have := h.pos
   match ts, h1, this with
   | [t], _, _ => exact ⟨t, rfl, by simp [sumN]⟩
   | [], _, h => simp at h
   | _ :: _ :: _, h, _ => simp at h
theorem bulk_big {zs : List (ByteArray × ByteArray)} (h : 4000 < zs.length) : bulkNs zs = [] := by
 unfold bulkNs
 split
 ·rfl
 ·rw [if_neg (by omega), if_pos]
  obtain ⟨t, e, hs⟩ := top_sum (n := zs.length) zs.length (lvlB zs) (lvlB_ok (by omega)) (by rw [show (lvlB zs).length = (chunks zs).length by simp [lvlB]]; exact chunks_le _ zs (Nat.le_refl _))
  have h4 := chunks_four _ zs (Nat.le_refl _)
  have hm := chunks_mem _ zs (Nat.le_refl _)
  have e2 : sumN (lvlB zs) = (chunks zs).length := by
   unfold lvlB
   rw [sumN_map leafB (fun _ => 1) _ (fun c hc => (leafB_ok (hm c hc).2.1).2.2)]
   generalize chunks zs = q
   induction q with
   | nil => rfl
   | cons x r ih => simp only [List.map_cons, List.sum_cons, List.length_cons, ih]; omega
  have : rootT zs = t := by unfold rootT; rw [e]; rfl
  rw [this]; omega
def lvN (n : Nat) : Nat := (n + 3) / 4
theorem chunks_len {α : Type} : ∀ (k : Nat) (l : List α), l.length ≤ k → (chunks l).length = lvN l.length
 | 0, l, h => by
  obtain rfl : l = [] := List.length_eq_zero_iff.1 (by omega)
  simp [chunks, chunksF, lvN]
 | k + 1, l, h => by
  rcases Nat.eq_zero_or_pos l.length with h0 | h0
  ·obtain rfl : l = [] := List.length_eq_zero_iff.1 h0
   simp [chunks, chunksF, lvN]
  ·have hs := shareN_le h0
   rw [chunks_step h0, List.length_cons, chunks_len k (l.drop (shareN l.length)) (by rw [List.length_drop]; omega), List.length_drop]
   unfold lvN shareN
   split <;> omega
def lvS : Nat → Nat → Nat
 | 0, n => lvN n
 | h + 1, n => lvN n + lvS h (lvN n)
def lvT : Nat → Nat → Nat
 | 0, n => lvN n
 | h + 1, n => lvT h (lvN n)
theorem lvS_last (h n : Nat) : lvS (h + 1) n = lvS h n + lvN (lvT h n) := by
 induction h generalizing n with
 | zero => rfl
 | succ h ih =>
  have := ih (lvN n)
  show lvN n + lvS (h + 1) (lvN n) = lvN n + lvS h (lvN n) + lvN (lvT h (lvN n))
  omega
theorem lvT_last (h n : Nat) : lvT (h + 1) n = lvN (lvT h n) := by
 induction h generalizing n with
 | zero => rfl
 | succ h ih => exact ih (lvN n)
theorem flatten_len {α : Type} (l : List (List α)) (k : Nat) (h : ∀ x ∈ l, x.length ≤ k) : l.flatten.length ≤ l.length * k := by
 induction l with
 | nil => simp
 | cons a r ih =>
  have h1 := h a (List.mem_cons_self ..)
  have h2 := ih (fun x hx => h x (List.mem_cons_of_mem _ hx))
  rw [List.flatten_cons, List.length_append, List.length_cons, Nat.add_mul]
  omega
theorem sum_ones {α : Type} (l : List α) : (l.map (fun _ => 1)).sum = l.length := by
 induction l with
 | nil => rfl
 | cons a r ih =>
  rw [List.map_cons, List.sum_cons, ih, List.length_cons]
  omega
theorem trees_min : ∀ (h : Nat) (us : List T), (∀ u ∈ us, (∃ r, u.good r = true) ∧ Neat u ∧ u.ht = h) → lvT h ((us.map T.slots).flatten.length) ≤ us.length ∧ lvS h ((us.map T.slots).flatten.length) ≤ sumN us := by
 intro h
 induction h with
 | zero =>
  intro us hu
  have hlf : ∀ u ∈ us, u.leaf = true := fun u hm => by
   obtain ⟨⟨r, hg⟩, hn, hh⟩ := hu u hm
   cases hl : u.leaf
   ·have hne := ((neat_eq u).1 hn).2.1 hl
    obtain ⟨k, q, hk⟩ := List.exists_cons_of_ne_nil hne.2.2.2
    have := ht_kids hl hne.2.2.2 (by rw [hh]; exact Int.le_refl _) k (by rw [hk]; exact List.mem_cons_self ..)
    rw [hh] at this
    omega
   ·rfl
  have h4 : (us.map T.slots).flatten.length ≤ us.length * 4 := by
   have := flatten_len (us.map T.slots) 4 (fun x hx => by
    obtain ⟨u, hm, rfl⟩ := List.mem_map.1 hx
    obtain ⟨⟨r, hg⟩, hn, hh⟩ := hu u hm
    have hp := good_parts hg
    rw [T.slots_eq, hlf u hm, ((neat_eq u).1 hn).1 (hlf u hm)]
    simp only [if_true, List.map_nil, List.flatten_nil, List.append_nil, List.length_zip]
    have hs := hp.1.2
    simp [T.size, hlf u hm] at hs
    omega)
   simpa using this
  have hsn : sumN us = us.length := by
   unfold sumN
   have : us.map T.nodes = us.map (fun _ => 1) := List.map_congr_left (fun u hm => by
    obtain ⟨⟨r, hg⟩, hn, hh⟩ := hu u hm
    exact nodes_leaf (((neat_eq u).1 hn).1 (hlf u hm)))
   rw [this]
   exact sum_ones us
  rw [hsn]
  unfold lvT lvS lvN
  omega
 | succ h ih =>
  intro us hu
  have hin : ∀ u ∈ us, u.leaf = false := fun u hm => by
   obtain ⟨⟨r, hg⟩, hn, hh⟩ := hu u hm
   cases hl : u.leaf
   ·rfl
   ·rw [T.ht_eq, hl] at hh
    have h9 : (0 : Int) = ((h + 1 : Nat) : Int) := hh
    omega
  have hks : ∀ k ∈ (us.map T.kids).flatten, (∃ r, k.good r = true) ∧ Neat k ∧ k.ht = h := fun k hk => by
   obtain ⟨l, hlm, hkl⟩ := List.mem_flatten.1 hk
   obtain ⟨u, hm, rfl⟩ := List.mem_map.1 hlm
   obtain ⟨⟨r, hg⟩, hn, hh⟩ := hu u hm
   have hn' := (neat_eq u).1 hn
   have := ht_kids (hin u hm) (hn'.2.1 (hin u hm)).2.2.2 (by rw [hh]; exact Int.natCast_nonneg _) k hkl
   rw [hh] at this
   exact ⟨⟨false, good_kid hg hkl⟩, hn'.2.2 k hkl, by have h9 := this.1; omega⟩
  obtain ⟨i1, i2⟩ := ih (us.map T.kids).flatten hks
  have hsl : ((us.map T.kids).flatten.map T.slots).flatten = (us.map T.slots).flatten := by
   clear ih i1 i2 hks
   induction us with
   | nil => rfl
   | cons u r ihr =>
    have h1 := ihr (fun x hx => hu x (List.mem_cons_of_mem _ hx)) (fun x hx => hin x (List.mem_cons_of_mem _ hx))
    simp only [List.map_cons, List.flatten_cons, List.map_append, List.flatten_append, h1]
    rw [T.slots_eq u, hin u (List.mem_cons_self ..)]
    simp
  rw [hsl] at i1 i2
  have h4 : (us.map T.kids).flatten.length ≤ us.length * 4 := by
   have := flatten_len (us.map T.kids) 4 (fun x hx => by
    obtain ⟨u, hm, rfl⟩ := List.mem_map.1 hx
    obtain ⟨⟨r, hg⟩, hn, hh⟩ := hu u hm
    exact (good_two hg (hin u hm)).2)
   simpa using this
  have hsn : sumN us = us.length + sumN (us.map T.kids).flatten := by
   clear ih i1 i2 hks hsl h4
   induction us with
   | nil => rfl
   | cons u r ihr =>
    have h1 := ihr (fun x hx => hu x (List.mem_cons_of_mem _ hx)) (fun x hx => hin x (List.mem_cons_of_mem _ hx))
    unfold sumN at h1 ⊢
    simp only [List.map_cons, List.flatten_cons, List.map_append, List.sum_cons, List.sum_append, List.length_cons]
    rw [T.nodes_eq u]
    omega
  have hN := lvT_last h ((us.map T.slots).flatten.length)
  have hS := lvS_last h ((us.map T.slots).flatten.length)
  have : lvN (lvT h (us.map T.slots).flatten.length) ≤ us.length := by unfold lvN; omega
  omega
theorem lvS_mono (n : Nat) : ∀ {h k : Nat}, h ≤ k → lvS h n ≤ lvS k n := by
 intro h k hk
 induction hk with
 | refl => exact Nat.le_refl _
 | step _ ih => exact Nat.le_trans ih (by rw [lvS_last]; omega)
theorem sum_upT {ts : List T} : sumN (upT ts) = sumN ts + (chunks ts).length := by
 have hf := chunks_flat ts.length ts (Nat.le_refl _)
 unfold upT sumN
 have h1 : ∀ (cs : List (List T)), ((cs.map innB).map T.nodes).sum = (cs.flatten.map T.nodes).sum + cs.length := by
  intro cs
  induction cs with
  | nil => rfl
  | cons c r ih =>
   simp only [List.map_cons, List.sum_cons, List.flatten_cons, List.map_append, List.sum_append, List.length_cons, ih]
   rw [T.nodes_eq]
   simp only [innB]
   omega
 rw [h1, hf]
theorem upT_len (ts : List T) : (upT ts).length = lvN ts.length := by
 unfold upT
 rw [List.length_map, chunks_len ts.length ts (Nat.le_refl _)]
theorem top_nodes : ∀ (f : Nat) (ts : List T), 1 < ts.length → ts.length ≤ f → ∃ t h, topF f ts = [t] ∧ lvT h ts.length = 1 ∧ (∀ k, k < h → 1 < lvT k ts.length) ∧ t.nodes = sumN ts + lvS h ts.length
 | 0, ts, h1, hf => by omega
 | f + 1, ts, h1, hf => by
  have hl := upT_len ts
  have hs : sumN (upT ts) = sumN ts + lvN ts.length := by rw [sum_upT, chunks_len ts.length ts (Nat.le_refl _)]
  have hlt : lvN ts.length ≤ f := by unfold lvN; omega
  rw [topF, if_pos h1]
  by_cases h2 : 1 < (upT ts).length
  ·obtain ⟨t, h, e1, e2, e3, e4⟩ := top_nodes f (upT ts) h2 (by omega)
   rw [hl] at e2 e3 e4 h2
   refine ⟨t, h + 1, e1, e2, fun k hk => ?_, ?_⟩
   ·cases k with
    | zero => exact h2
    | succ k => exact e3 k (by omega)
   ·rw [e4, hs]
    show _ = sumN ts + (lvN ts.length + lvS h (lvN ts.length))
    omega
  ·have hp : 0 < (upT ts).length := by rw [hl]; unfold lvN; omega
   obtain ⟨t, ht⟩ : ∃ t, upT ts = [t] := List.length_eq_one_iff.1 (by omega)
   refine ⟨t, 0, ?_, ?_, fun k hk => by omega, ?_⟩
   ·rw [topF_done f (by omega), ht]
   ·show lvN ts.length = 1
    omega
   ·have h9 : sumN (upT ts) = t.nodes := by rw [ht]; simp [sumN]
    show t.nodes = sumN ts + lvN ts.length
    omega
theorem bulk_nodes {zs : List (ByteArray × ByteArray)} (h0 : 0 < zs.length) : ∃ h, lvT h zs.length = 1 ∧ (∀ k, k < h → 1 < lvT k zs.length) ∧ (rootT zs).nodes = lvS h zs.length := by
 have hl : (lvlB zs).length = lvN zs.length := by unfold lvlB; rw [List.length_map, chunks_len zs.length zs (Nat.le_refl _)]
 have hs : sumN (lvlB zs) = lvN zs.length := by
  rw [← hl]
  unfold lvlB sumN
  rw [List.map_map, List.length_map]
  have : (chunks zs).map (T.nodes ∘ leafB) = (chunks zs).map (fun _ => 1) := List.map_congr_left (fun c _ => by show (leafB c).nodes = 1; rw [T.nodes_eq]; rfl)
  rw [this]
  exact sum_ones _
 by_cases h1 : 1 < (lvlB zs).length
 ·obtain ⟨t, h, e1, e2, e3, e4⟩ := top_nodes zs.length (lvlB zs) h1 (by rw [hl]; unfold lvN; omega)
  rw [hl] at e2 e3 e4 h1
  refine ⟨h + 1, e2, fun k hk => ?_, ?_⟩
  ·cases k with
   | zero => exact h1
   | succ k => exact e3 k (by omega)
  ·unfold rootT
   rw [e1]
   show t.nodes = lvN zs.length + lvS h (lvN zs.length)
   omega
 ·have hp : 0 < (lvlB zs).length := by rw [hl]; unfold lvN; omega
  obtain ⟨t, ht⟩ : ∃ t, lvlB zs = [t] := List.length_eq_one_iff.1 (by omega)
  refine ⟨0, by show lvN zs.length = 1; omega, fun k hk => by omega, ?_⟩
  have h9 : sumN (lvlB zs) = t.nodes := by rw [ht]; simp [sumN]
  unfold rootT
  rw [topF_done _ (by omega), ht]
  show t.nodes = lvN zs.length
  omega
theorem bulk_least {zs : List (ByteArray × ByteArray)} (h0 : 0 < zs.length) {u : T} {r : Bool} (hg : u.good r = true) (hn : Neat u) (hh : 0 ≤ u.ht) (hs : u.slots.length = zs.length) : (rootT zs).nodes ≤ u.nodes := by
 obtain ⟨H, e1, e2, e3⟩ := bulk_nodes h0
 obtain ⟨h, hc⟩ : ∃ h : Nat, u.ht = h := ⟨u.ht.toNat, by omega⟩
 obtain ⟨m1, m2⟩ := trees_min h [u] (fun x hx => by simp at hx; subst hx; exact ⟨⟨r, hg⟩, hn, hc⟩)
 simp only [List.map_cons, List.map_nil, List.flatten_cons, List.flatten_nil, List.append_nil, List.length_cons, List.length_nil, hs] at m1 m2
 have hH : H ≤ h := by
  rcases Nat.lt_or_ge h H with h9 | h9
  ·have := e2 h h9; omega
  ·exact h9
 have h8 := lvS_mono zs.length hH
 have h7 : sumN [u] = u.nodes := by simp [sumN]
 omega
theorem nodes_lt : ∀ (t : T), t.good false = true → Neat t → t.nodes + 1 ≤ t.slots.length := by
 intro t
 induction t using T.ind with
 | h t ih =>
  intro hg hn
  have hn' := (neat_eq t).1 hn
  have hp := good_parts hg
  cases hl : t.leaf
  ·have h2 := (good_two hg hl).1
   have hs : ∀ (ys : List T), (∀ y ∈ ys, y.nodes + 1 ≤ y.slots.length) → (ys.map T.nodes).sum + ys.length ≤ (ys.map T.slots).flatten.length := by
    intro ys
    induction ys with
    | nil => intro _; simp
    | cons y q ihq =>
     intro hy
     have a1 := hy y (List.mem_cons_self ..)
     have a2 := ihq (fun z hz => hy z (List.mem_cons_of_mem _ hz))
     simp only [List.map_cons, List.sum_cons, List.length_cons, List.flatten_cons, List.length_append]
     omega
   have := hs t.kids (fun y hy => ih y hy (good_kid hg hy) (hn'.2.2 y hy))
   rw [T.nodes_eq, T.slots_eq, hl]
   simp only [Bool.false_eq_true, if_false, List.nil_append]
   omega
  ·obtain ⟨e1, e2, _⟩ := hp.2.1 hl
   rw [nodes_leaf (hn'.1 hl), T.slots_eq, hl, hn'.1 hl]
   simp only [if_true, List.map_nil, List.flatten_nil, List.append_nil, List.length_zip]
   have h3 := hp.1.1
   simp [T.size, hl] at h3
   omega
theorem nodes_root {t : T} (hg : t.good true = true) (hn : Neat t) : t.nodes ≤ t.slots.length + 1 := by
 have hn' := (neat_eq t).1 hn
 cases hl : t.leaf
 ·have hg2 : t.good false = true := by
   rw [T.good_eq] at hg ⊢
   simpa [hl] using hg
  have := nodes_lt t hg2 hn
  omega
 ·rw [nodes_leaf (hn'.1 hl)]
  omega
theorem putZ_end {key val : ByteArray} {zs : List (ByteArray × ByteArray × Int)} (h : ∀ s ∈ zs, lessB s.1 key = true) : putZ key val zs = zs ++ [(key, val, 0)] := by
 have hp : posT key zs = zs.length := by have := posT_append (key := key) zs [] h; simpa [posT] using this
 have ht : ¬ thereT key zs = true := by unfold thereT; rw [hp]; simp
 unfold putZ
 rw [if_neg ht, hp]
 simp
structure Made (zs : List (ByteArray × ByteArray)) (u : T) : Prop where
 good : u.good true = true
 neat : Neat u
 ht : 0 ≤ u.ht
 keys : u.slots.all (fun s => kyB s.1) = true
 nums : u.nums.Nodup
 slots : u.slots = slB zs
 sort : SortT u.slots
theorem made_nil : Made [] leafT := by
 refine ⟨by rw [T.good_eq]; rfl, ?_, by rw [T.ht_eq]; exact Int.le_refl _, by rw [T.slots_eq]; rfl, ?_, by rw [T.slots_eq]; rfl, ?_⟩
 ·rw [neat_eq]; exact ⟨fun _ => rfl, (fun h => by cases h), (fun z hz => by cases hz)⟩
 ·simp [leafT, T.nums]
 ·simp [leafT, T.slots, SortT]
theorem made_big {zs : List (ByteArray × ByteArray)} {u : T} {key val : ByteArray} (h : Made zs u) (hk : kyB key = true) (hv : val.size ≤ 400) (ha : ∀ z ∈ zs, lessB z.1 key = true) (hl : zs.length < 900) : (rootP key val u).nodes ≤ 1000 := by
 have hok := rootP_ok (key := key) (val := val) hv hk h.good h.neat.shape h.keys
 have hpn := put_neat key val hv u true h.good h.neat
 have hsz := (soft_put key val hv u true h.good h.neat.shape).size.2
 have hsl := put_neat_slim key val u
 have hN : Neat (rootP key val u) := by
  unfold rootP
  split
  ·exact hpn
  ·rw [neat_eq]
   exact ⟨fun e => by simp at e, fun _ => ⟨rfl, rfl, rfl, fun e => by have := (cut_len (putT key val u)).1; rw [show cutT (putT key val u) = [] from e] at this; simp at this⟩, fun z hz => cut_neat hpn hsz z hz⟩
 have hS : (rootP key val u).slots = putZ key val u.slots := by
  rw [← put_slots_eq key val u true h.good h.neat h.sort]
  unfold rootP
  split
  ·rfl
  ·rw [T.slots_eq]
   simp only [Bool.false_eq_true, if_false, List.nil_append]
   exact cut_slots_eq hsl.1 hsl.2
 have hb := nodes_root hok.1 hN
 have h1 := putZ_len key val u.slots
 have h2 : u.slots.length = zs.length := by rw [h.slots]; simp [slB]
 rw [hS, h1] at hb
 split at hb <;> omega
theorem made_put {zs : List (ByteArray × ByteArray)} {u : T} {key val : ByteArray} (h : Made zs u) (hk : kyB key = true) (hv : val.size ≤ 400) (ha : ∀ z ∈ zs, lessB z.1 key = true) (hl : zs.length < 900) : Made (zs ++ [(key, val)]) (rootP key val u) ∧ (rootP key val u).nodes ≤ 1000 ∧ SpecOk ((rootP key val u).flat 0) ∧ rd ((rootP key val u).flat 0) (((rootP key val u).flat 0).length + 1) 0 = (rootP key val u, ((rootP key val u).flat 0).length, false) := by
 have hok := rootP_ok (key := key) (val := val) hv hk h.good h.neat.shape h.keys
 have hb := nodes_root h.good h.neat
 have hsl : u.slots.length = zs.length := by rw [h.slots]; simp [slB]
 have hm : (rootP key val u).nodes ≤ 1000 := by
  rcases Nat.lt_or_ge zs.length 400 with h4 | h4
  ·have := hok.2.2.2.1; omega
  ·exact made_big h hk hv ha hl
 obtain ⟨v1, v2, v3, v4, v5, v6⟩ := put_valid (ts := []) hk hv h.good h.neat h.ht h.keys h.sort h.nums hm
 have hz : putZ key val u.slots = slB (zs ++ [(key, val)]) := by
  rw [putZ_end (fun s hs => by
   rw [h.slots] at hs
   obtain ⟨z, hz, rfl⟩ := List.mem_map.1 hs
   exact ha z hz), h.slots]
  simp [slB]
 exact ⟨⟨hok.1, v4, v5, hok.2.2.2.2, v6, by rw [v3, hz], by rw [v3]; exact putZ_sort h.sort⟩, hm, v1, v2⟩
end Go.Proofs.Ytcjjbajmjfgbcaa
