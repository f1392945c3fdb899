import Derived.Test.YtpmagndofiaooaaTug
namespace Go.Proofs.Ytpmagndofiaooaa
open Go.RowKit
set_option linter.unusedVariables false
set_option linter.unusedSimpArgs false
set_option maxRecDepth 100000

theorem belDN {B : Nat} {a w : World} (h : Below B a w) (n : Nat) : Below B a (w.drewN n) := h.trans ⟨rfl, rfl, rfl, Nat.le_refl _, fun _ _ => rfl⟩
abbrev dP : ByteArray × ByteArray := (ByteArray.empty, ByteArray.empty)
/-- The pair at a place may stand there. -/
def okAt (zs : List (ByteArray × ByteArray)) (j : Nat) : Bool := kyB (zs.getD j dP).1 && decide ((zs.getD j dP).2.size ≤ 400) && (decide (j = 0) || lessB (zs.getD (j - 1) dP).1 (zs.getD j dP).1)
def bulkOk (zs : List (ByteArray × ByteArray)) : Bool := (List.range zs.length).all (okAt zs)
def bulkNs (zs : List (ByteArray × ByteArray)) : List TN := if bulkOk zs = false then [] else if zs.length = 0 then [⟨true, 0, [], [], [], []⟩] else if 1000 < (rootT zs).nodes then [] else (rootT zs).flat 0
theorem bulk_bad {zs : List (ByteArray × ByteArray)} {j : Nat} (hj : j < zs.length) (h : okAt zs j = false) : bulkNs zs = [] := by
  unfold bulkNs
  rw [if_pos]
  unfold bulkOk
  rw [List.all_eq_false]
  exact ⟨j, List.mem_range.2 hj, by simp [h]⟩
theorem bulk_good {zs : List (ByteArray × ByteArray)} (h : ∀ j, j < zs.length → okAt zs j = true) : bulkOk zs = true := by
  unfold bulkOk
  rw [List.all_eq_true]
  intro x hx
  exact h x (List.mem_range.1 hx)
/-- What TreeBulk answers. -/
def BulkAns (w : World) (zs : List (ByteArray × ByteArray)) (e : Ending) (w' : World) : Prop := ∃ oa oc us, e = .returned (.agg #[.slice oa (bulkNs zs).length oc]) ∧ OwnT w' w.heap.size (.slice oa (bulkNs zs).length oc) ((bulkNs zs).map TN.nd) us ∧ Below w.heap.size w w'
theorem BulkAns.no {w w' : World} {zs : List (ByteArray × ByteArray)} (h : bulkNs zs = []) (hb : Below w.heap.size w w') : BulkAns w zs (.returned (.agg #[.slice none 0 0])) w' := by
  refine ⟨none, 0, fun _ _ => .slice none 0 0, by rw [h]; rfl, ?_, hb⟩
  rw [h]
  exact OwnT.nil _ _ _
set_option maxHeartbeats 8000000 in
theorem implBulk_any (a : Option Addr) (n c : Nat) (zs : List (ByteArray × ByteArray)) (w : World) (B : Nat) (hB : B ≤ w.heap.size) (hp : PrAt w B a n c zs) (hn : n ≤ 1048576) :
    Calls Try.prog 10 #[.slice a n c] w fun e w' => BulkAns w zs e w' := by
  have HZ : Hid (zs.length = n) := hp.1
  have hcc := hp.2.1
  have hcm := hp.2.2.1
  unfold maxLen at hcm
  have HP : Hid (∀ W, Below w.heap.size w W → PrAt W B a n c zs) := fun W hW => hp.below (hW.mono hB)
  have HPC : Hid (∀ W, Below w.heap.size w W → ∀ j, j < n → ∃ b off, a = some ⟨b, off, none⟩ ∧ b < W.heap.size ∧ W.cell? ⟨b, off + j * 2, none⟩ = some (.string (zs.getD j dP).1) ∧ W.cell? ⟨b, off + j * 2 + 1, none⟩ = some (.string (zs.getD j dP).2) ∧ ∀ q, q + 1 = j → W.cell? ⟨b, off + q * 2, none⟩ = some (.string (zs.getD q dP).1)) := fun W hW j hj => by
    obtain ⟨b, off, e, hbB, hc⟩ := (HP.out W hW).2.2.2 (by omega)
    exact ⟨b, off, e, by have := hW.size; omega, (hc j hj).1, (hc j hj).2, fun q hq => (hc q (by omega)).1⟩
  clear hp
  have hb0 : Below w.heap.size w (w.alloc (.cells #[.slice none 0 0] 26)) := (Below.refl _ _).alloc (Nat.le_refl _) _
  have hx0 := heap_alloc_new w (.cells #[.slice none 0 0] 26)
  obtain ⟨X, hX⟩ : ∃ X, X = w.heap.size := ⟨_, rfl⟩
  rw [← hX] at hx0
  go_enter Try.func10, Try.ntmps10
  go_upto_region 1 with fail
  rw [← hX]
  have HXW : Hid (X = w.heap.size) := hX
  generalize w.alloc (.cells #[.slice none 0 0] 26) = W0 at hb0 hx0 ⊢
  clear hX
  have HS0 : Hid (W0.heap[X]? = some (.cells #[.slice none 0 0] 26) ∧ Below w.heap.size w W0) := ⟨hx0, hb0⟩
  clear hb0 hx0
  go_wp2_with fail
  go_loopw [3, 4, 9] (fun _ _ i wr => ∃ j : Nat, j ≤ n ∧ i = .int .i64 j ∧ Hid (∀ q, q < j → okAt zs q = true) ∧ Hid (wr.heap[X]? = some (.cells #[.slice none 0 0] 26) ∧ Below w.heap.size w wr)) (fun _ _ i _ => n - (intOf i).toNat)
  case atStart => exact ⟨0, Nat.zero_le _, rfl, fun q hq => by omega, HS0⟩
  case round =>
    clear HS0
    obtain ⟨j, hj, rfl, HG, HS⟩ := hrel
    by_cases hlt : j < n
    · obtain ⟨b, off, rfl, hbl, ck, cv, cq⟩ := HPC.out wr HS.out.2 j hlt
      obtain ⟨z, hz⟩ : ∃ z, zs.getD j dP = z := ⟨_, rfl⟩
      rw [hz] at ck cv
      have HZJ : Hid (zs.getD j dP = z) := hz
      obtain ⟨ky, vl⟩ := z
      replace ck : wr.cell? ⟨b, off + j * 2, none⟩ = some (.string ky) := ck
      replace cv : wr.cell? ⟨b, off + j * 2 + 1, none⟩ = some (.string vl) := cv
      have HOK : Hid (okAt zs j = (kyB ky && decide (vl.size ≤ 400) && (decide (j = 0) || lessB (zs.getD (j - 1) dP).1 ky))) := by
        show _ = _
        unfold okAt; rw [hz]
      have hba : Below wr.heap.size wr (wr.alloc (.cells #[.string ky, .string vl] 53)) := (Below.refl _ _).alloc (Nat.le_refl _) _
      have SB := heap_alloc_new wr (.cells #[.string ky, .string vl] 53)
      have hbW := HS.out.2.trans (hba.mono HS.out.2.size)
      have hxW := boxT_below HS.out.1 hba
      have HQ : Hid (∀ q, q + 1 = j → (wr.alloc (.cells #[.string ky, .string vl] 53)).cell? ⟨b, off + q * 2, none⟩ = some (.string (zs.getD q dP).1)) := fun q hq => (hba.cell (p := ⟨b, off + q * 2, none⟩) hbl).trans (cq q hq)
      have hblW : b < (wr.alloc (.cells #[.string ky, .string vl] 53)).heap.size := Nat.lt_of_lt_of_le hbl hba.size
      obtain ⟨S, hS⟩ : ∃ S, S = wr.heap.size := ⟨_, rfl⟩
      rw [← hS] at SB
      clear hz cq
      go_upto_region 4 with fail
      rw [← hS]
      clear hS ck cv
      generalize wr.alloc (.cells #[.string ky, .string vl] 53) = V at SB hba hbW hxW HQ hblW ⊢
      obtain ⟨s0, s1⟩ := box_twoG SB
      have hSl := (Array.getElem?_eq_some_iff.1 SB).1
      have hXl := (Array.getElem?_eq_some_iff.1 hxW).1
      have xV : V.cell? ⟨X, 0, none⟩ = some (.slice none 0 0) := by simp [World.cell?, hxW]
      have zV := box_fz hxW 0
      have yX : ∀ q, ((V.drewN q).setCell ⟨X, 0, none⟩ (.slice none 0 0)).cell? ⟨X, 0, none⟩ = some (.slice none 0 0) := fun q => by simp [World.cell?, World.setCell, Array.getElem?_modify, hxW]
      have HBW : Hid (∀ q, Below w.heap.size w ((V.drewN q).setCell ⟨X, 0, none⟩ (.slice none 0 0))) := fun q => (belDN hbW q).trans ((fr_setT (V.drewN q) X 0 (.slice none 0 0)).below (by have := hbW.size; exact this) (fun b e => by have := HXW.out; omega))
      have HNX : Hid (∀ q, (V.drewN q).heap[X]? = some (.cells #[.slice none 0 0] 26) ∧ Below w.heap.size w (V.drewN q)) := fun q => ⟨hxW, belDN hbW q⟩
      have hKC := isKeyU_any ky
      clear SB hba HS hbW hxW
      by_cases t1 : kyB ky = true
      · rw [t1] at hKC HOK
        by_cases t2 : vl.size ≤ 400
        · have d2 : decide ((400 : Int) < (vl.size : Int)) = false := by simp; omega
          have e2 : decide (vl.size ≤ 400) = true := by simp; omega
          rw [e2] at HOK
          clear t1 t2 e2
          by_cases tj : j = 0
          · subst tj
            have HG2 : Hid (∀ q, q < 0 + 1 → okAt zs q = true) := fun q hq => by
              obtain rfl : q = 0 := by omega
              rw [HOK.out]; rfl
            clear HQ
            go_wp2_with fail
            go_quiet ((go_at_call 33; exact Calls.quiet_of_same (hKC _)))
            go_wp2_with fail
            go_roundw
            case rel => exact ⟨0 + 1, by omega, by go_num, HG2, HNX.out _⟩
            case measure => simp [intOf]; omega
          · obtain ⟨q, rfl⟩ : ∃ q, j = q + 1 := ⟨j - 1, by omega⟩
            have hpk := HQ.out q rfl
            have HOK2 : Hid (okAt zs (q + 1) = lessB (zs.getD q dP).1 ky) := by
              show _ = _
              rw [HOK.out]; simp
            obtain ⟨s9, hs9⟩ : ∃ s9, (zs.getD q dP).1 = s9 := ⟨_, rfl⟩
            rw [hs9] at hpk HOK2
            unfold lessB at HOK2
            have hwq : IntKind.i64.wrap (q : Int) = q := by rw [IntKind.wrap_i64]; omega
            clear HQ HOK hs9
            obtain ⟨r1, hr1⟩ : ∃ r1, Op.bytesLess s9.toList ky.toList = r1 := ⟨_, rfl⟩
            rw [hr1] at HOK2
            cases r1
            · have HNO : Hid (bulkNs zs = []) := bulk_bad (j := q + 1) (by rw [HZ.out]; exact hlt) HOK2.out
              clear HOK2
              go_wp2_with fail
              go_quiet ((go_at_call 33; exact Calls.quiet_of_same (hKC _)))
              go_wp2_with fail
              exact bodyPost_ret (v := .agg #[.slice none 0 0]) (by simp [results, Try.results10, go_sem, yX]) rfl (BulkAns.no HNO.out (HBW.out _))
            · have HG2 : Hid (∀ p, p < q + 1 + 1 → okAt zs p = true) := fun p hp => by
                by_cases hpe : p = q + 1
                · rw [hpe]; exact HOK2.out
                · exact HG.out p (by omega)
              clear HOK2
              go_wp2_with fail
              go_quiet ((go_at_call 33; exact Calls.quiet_of_same (hKC _)))
              go_wp2_with fail
              go_roundw
              case rel => exact ⟨q + 1 + 1, by omega, by go_num, HG2, HNX.out _⟩
              case measure => simp [intOf]; omega
        · have d2 : decide ((400 : Int) < (vl.size : Int)) = true := by simp; omega
          have HNO : Hid (bulkNs zs = []) := bulk_bad (j := j) (by rw [HZ.out]; exact hlt) (by rw [HOK.out]; simp [t2])
          clear t1 t2
          go_wp2_with fail
          go_quiet ((go_at_call 33; exact Calls.quiet_of_same (hKC _)))
          go_wp2_with fail
          exact bodyPost_ret (v := .agg #[.slice none 0 0]) (by simp [results, Try.results10, go_sem, yX]) rfl (BulkAns.no HNO.out (HBW.out _))
      · have HNO : Hid (bulkNs zs = []) := bulk_bad (j := j) (by rw [HZ.out]; exact hlt) (by rw [HOK.out]; simp [t1])
        have hk : kyB ky = false := by simpa using t1
        rw [hk] at hKC
        clear t1
        go_wp2_with fail
        go_quiet ((go_at_call 33; exact Calls.quiet_of_same (hKC _)))
        go_wp2_with fail
        exact bodyPost_ret (v := .agg #[.slice none 0 0]) (by simp [results, Try.results10, go_sem, yX]) rfl (BulkAns.no HNO.out (HBW.out _))
    · obtain rfl : j = n := by omega
      rename World => wo
      have HGOOD : Hid (bulkOk zs = true) := bulk_good (fun q hq => HG.out q (by rw [HZ.out] at hq; exact hq))
      have hxr := HS.out.1
      have hXl := (Array.getElem?_eq_some_iff.1 hxr).1
      have hbr := HS.out.2
      have hsr := hbr.size
      by_cases h0 : j = 0
      · subst h0
        have HN1 : Hid (bulkNs zs = [⟨true, 0, [], [], [], []⟩]) := by
          show _ = _
          unfold bulkNs
          rw [HGOOD.out, if_neg (by simp), if_pos HZ.out]
        clear HG HP HPC
        go_wp2_with (first | (go_at_call 34; refine (implNewU_any wo).mono ?_; rintro ex w9 ⟨oa, oc, us, rfl, hO, hB⟩; have hx9 := boxT_below hxr hB; have hl9 := (Array.getElem?_eq_some_iff.1 hx9).1; have c9 : w9.cell? ⟨X, 0, none⟩ = some (.slice none 0 0) := (by simp [World.cell?, hx9]); have z9 := box_fz hx9 0))
        have F10 := fr_setT w9 X 0 (.slice oa 1 oc)
        have hO2 : OwnT (w9.setCell ⟨X, 0, none⟩ (.slice oa 1 oc)) w.heap.size (.slice oa 1 oc) [TN.nd ⟨true, 0, [], [], [], []⟩] us := (hO.fr F10 (fun g hg e => by have := (hO.blk hg).1; omega)).lower (by omega)
        have hb10 : Below w.heap.size w (w9.setCell ⟨X, 0, none⟩ (.slice oa 1 oc)) := (hbr.trans (hB.mono hsr)).trans (F10.below (by have := hB.size; omega) (fun b e => by have := HXW.out; omega))
        have x10 : (w9.setCell ⟨X, 0, none⟩ (.slice oa 1 oc)).cell? ⟨X, 0, none⟩ = some (.slice oa 1 oc) := by simp [World.cell?, World.setCell, Array.getElem?_modify, hx9]
        refine bodyPost_ret (v := .agg #[.slice oa 1 oc]) (by simp [results, Try.results10, go_sem, x10]) rfl ⟨oa, oc, us, ?_, ?_, hb10⟩
        · rw [HN1.out]; rfl
        · rw [HN1.out]; exact hO2
      · have hne : ((j : Int) == 0) = false := by simp; omega
        have hPA := HP.out wo hbr
        go_wp2_with (first | (go_at_call 35; refine (bulkLeaves_any a j c zs wo B (by omega) hPA hn).mono ?_; rintro ex w1 ⟨la, lm, lc, us, rfl, hLV⟩))
        have HL1 : Hid (LvSt wo w1 wo.heap.size lm lc la (lvlB zs) us ∧ LvOk j (lvlB zs) ∧ (lvlB zs).length ≤ zs.length) := ⟨hLV, by have h9 := lvlB_ok (zs := zs) (by rw [HZ.out]; omega); rw [HZ.out] at h9; exact h9, by rw [show (lvlB zs).length = (chunks zs).length by simp [lvlB]]; exact chunks_le _ zs (Nat.le_refl _)⟩
        clear hLV hPA HG HP HPC HS
        go_loopw [5] (fun lv wx => ∃ (lm lc f : Nat) (la : Option Addr) (ts : List T) (us : List Value), lv = .slice la lm lc ∧ lm ≤ 1048576 ∧ Hid (LvSt wo wx wo.heap.size lm lc la ts us ∧ LvOk j ts ∧ topF f ts = topF zs.length (lvlB zs) ∧ ts.length ≤ f) ∧ Hid (wo.heap.size ≤ wx.heap.size)) (fun lv _ => match lv with | .slice _ m _ => m | _ => 0)
        case atStart => exact ⟨lm, lc, zs.length, la, lvlB zs, us, rfl, by have h1 := HL1.out.1.len; have h2 := HL1.out.2.1.le; omega, ⟨HL1.out.1, HL1.out.2.1, rfl, HL1.out.2.2⟩, HL1.out.1.bel.size⟩
        case round =>
          clear HL1
          obtain ⟨lm, lc, f, la, ts, us, rfl, hlm, HL, HSZ⟩ := hrel
          have hrw := HL.out.1.row
          have hpos : 0 < lm := by rw [← HL.out.1.len]; exact HL.out.2.1.pos
          obtain ⟨g, rfl, hgl, hcp, hcx, hc0⟩ : ∃ g, la = some ⟨g, 0, none⟩ ∧ g < wr.heap.size ∧ lm ≤ lc ∧ lc ≤ 2 ^ 63 - 1 ∧ wr.cell? ⟨g, 0, none⟩ = us[0]? := by
            rcases hrw.2 with ⟨e, e2⟩ | ⟨g, cap, cur, e, hg1, hg2, h1, h2, _⟩
            · omega
            · have e9 := e
              simp only [Value.slice.injEq] at e
              obtain ⟨rfl, _, rfl⟩ := e
              exact ⟨g, rfl, (hrw.lt g rfl).2, h1, by unfold maxLen at h2; exact h2, hrw.cellAt 0 (by omega)⟩
          clear hrw
          by_cases h1 : 1 < lm
          · have hd : decide ((1 : Int) < (lm : Int)) = true := by simp; omega
            have hcall := bulkInner_any wo wo.heap.size (some ⟨g, 0, none⟩) lm lc ts us wr HSZ.out HL.out.1 hlm hcx hcp
            have hup := upT_ok HL.out.2.1 (by rw [HL.out.1.len]; omega)
            have HUP : Hid (LvOk j (upT ts) ∧ (upT ts).length * 2 ≤ ts.length) := hup
            have HTL : Hid (ts.length = lm) := HL.out.1.len
            clear hup
            go_wp2_with (first | (go_at_call 36; refine hcall.mono ?_; rintro ex w2 ⟨la2, lm2, lc2, us2, rfl, hL2, hs2⟩))
            have hl2 := hL2.len
            have hl3 : lm2 = (upT ts).length := hl2.symm
            have h9 := HUP.out.2
            have h8 := HTL.out
            have HNX : Hid (LvSt wo w2 wo.heap.size lm2 lc2 la2 (upT ts) us2 ∧ LvOk j (upT ts) ∧ topF (f - 1) (upT ts) = topF zs.length (lvlB zs) ∧ (upT ts).length ≤ f - 1) := by
              obtain ⟨f', rfl⟩ : ∃ f', f = f' + 1 := ⟨f - 1, by have := HL.out.2.2.2; omega⟩
              have hst := topF_step (f := f') (ts := ts) (by omega) HL.out.2.2.2 HUP.out.2
              exact ⟨hL2, HUP.out.1, by rw [← HL.out.2.2.1, hst.1]; rfl, hst.2⟩
            have HS2 : Hid (wo.heap.size ≤ w2.heap.size) := Nat.le_trans HSZ.out hs2
            clear hL2 hl2
            go_roundw
            case rel => exact ⟨lm2, lc2, f - 1, la2, upT ts, us2, rfl, by omega, HNX, HS2⟩
            case measure => show lm2 < lm; omega
          · obtain rfl : lm = 1 := by omega
            obtain ⟨t, ht⟩ : ∃ t, ts[0]? = some t := ⟨_, List.getElem?_eq_getElem (by rw [HL.out.1.len]; omega)⟩
            obtain ⟨u, hu, hG⟩ := HL.out.1.node 0 t ht
            obtain ⟨ty, v, rfl⟩ := hG.shape
            rw [hu] at hc0
            have htm := List.mem_of_getElem? ht
            have hwh := HL.out.2.1.all t htm
            have hroot : rootT zs = t := by
              unfold rootT
              rw [← HL.out.2.2.1, topF_done f (by rw [HL.out.1.len]; omega)]
              cases ts with
              | nil => simp at ht
              | cons x r => simpa using ht
            have hnod : t.nodes ≤ 2097152 := by
              have h5 := HL.out.2.1.sum
              have h6 : t.nodes ≤ sumN ts := by
                cases ts with
                | nil => simp at ht
                | cons x r => simp at ht; subst ht; unfold sumN; simp
              omega
            have hTd := told_any wr hwh.1 hG (fun b hp => hp.2.1) (by omega)
            have HFL : Hid ((t.flat 0).length = t.nodes) := T.flat_len t hwh.1 0
            have HBN : Hid (bulkNs zs = if 1000 < t.nodes then [] else t.flat 0) := by
              show _ = _
              unfold bulkNs
              rw [HGOOD.out, if_neg (by simp), if_neg (by rw [HZ.out]; omega), hroot]
            have hxw := boxT_below (w' := wr) hxr HL.out.1.bel
            have hbw := hbr.trans (HL.out.1.bel.mono hsr)
            have hszw := HSZ.out
            clear hroot hG hu ht htm hwh HL
            by_cases hbig : 1000 < t.nodes
            · have hdb : decide ((1000 : Int) < (t.nodes : Int)) = true := by simp; omega
              go_wp2_with (first | (go_at_call 37; refine hTd.mono ?_; rintro ex w9 ⟨oa, oc, us9, rfl, hO, hB⟩; have hxa := boxT_below (boxT_below hxw hB) ((Below.refl w9.heap.size w9).alloc (Nat.le_refl _) (.cells #[.slice oa t.nodes oc] 26)); have hla := (Array.getElem?_eq_some_iff.1 hxa).1; have ca : (w9.alloc (.cells #[.slice oa t.nodes oc] 26)).cell? ⟨X, 0, none⟩ = some (.slice none 0 0) := (by simp [World.cell?, hxa]); have za := box_fz hxa 0; have hxl9 : X < w9.heap.size := (Array.getElem?_eq_some_iff.1 (boxT_below hxw hB)).1))
              have hba : Below w9.heap.size w9 (w9.alloc (.cells #[.slice oa t.nodes oc] 26)) := (Below.refl _ _).alloc (Nat.le_refl _) _
              have F10 := fr_setT w9 X 0 (.slice none 0 0)
              have hbs : Below (w9.setCell ⟨X, 0, none⟩ (.slice none 0 0)).heap.size (w9.setCell ⟨X, 0, none⟩ (.slice none 0 0)) ((w9.setCell ⟨X, 0, none⟩ (.slice none 0 0)).alloc (.cells #[.slice oa t.nodes oc] 26)) := (Below.refl _ _).alloc (Nat.le_refl _) _
              have hs9 := hB.size
              have hsa := hba.size
              have hb10 : Below w.heap.size w ((w9.setCell ⟨X, 0, none⟩ (.slice none 0 0)).alloc (.cells #[.slice oa t.nodes oc] 26)) := ((hbw.trans (hB.mono hbw.size)).trans (F10.below (by have := hbw.size; omega) (fun b e => by have := HXW.out; omega))).trans (hbs.mono (by have := hbw.size; have := F10.size; omega))
              have x9 : (w9.setCell ⟨X, 0, none⟩ (.slice none 0 0)).cell? ⟨X, 0, none⟩ = some (.slice none 0 0) := by simp [World.cell?, World.setCell, Array.getElem?_modify, boxT_below hxw hB]
              have x10 : ((w9.setCell ⟨X, 0, none⟩ (.slice none 0 0)).alloc (.cells #[.slice oa t.nodes oc] 26)).cell? ⟨X, 0, none⟩ = some (.slice none 0 0) := (hbs.cell (p := ⟨X, 0, none⟩) (by have := F10.size; show X < _; omega)).trans x9
              exact bodyPost_ret (v := .agg #[.slice none 0 0]) (by simp [results, Try.results10, go_sem, x10]) rfl (BulkAns.no (by rw [HBN.out, if_pos hbig]) hb10)
            · have hdb : decide ((1000 : Int) < (t.nodes : Int)) = false := by simp; omega
              go_wp2_with (first | (go_at_call 37; refine hTd.mono ?_; rintro ex w9 ⟨oa, oc, us9, rfl, hO, hB⟩; have hxa := boxT_below (boxT_below hxw hB) ((Below.refl w9.heap.size w9).alloc (Nat.le_refl _) (.cells #[.slice oa t.nodes oc] 26)); have hla := (Array.getElem?_eq_some_iff.1 hxa).1; have ca : (w9.alloc (.cells #[.slice oa t.nodes oc] 26)).cell? ⟨X, 0, none⟩ = some (.slice none 0 0) := (by simp [World.cell?, hxa]); have za := box_fz hxa 0; have hxl9 : X < w9.heap.size := (Array.getElem?_eq_some_iff.1 (boxT_below hxw hB)).1))
              have hba : Below w9.heap.size w9 (w9.alloc (.cells #[.slice oa t.nodes oc] 26)) := (Below.refl _ _).alloc (Nat.le_refl _) _
              have F10 := fr_setT w9 X 0 (.slice oa t.nodes oc)
              have hbs : Below (w9.setCell ⟨X, 0, none⟩ (.slice oa t.nodes oc)).heap.size (w9.setCell ⟨X, 0, none⟩ (.slice oa t.nodes oc)) ((w9.setCell ⟨X, 0, none⟩ (.slice oa t.nodes oc)).alloc (.cells #[.slice oa t.nodes oc] 26)) := (Below.refl _ _).alloc (Nat.le_refl _) _
              have hs9 := hB.size
              have hsa := hba.size
              have hb10 : Below w.heap.size w ((w9.setCell ⟨X, 0, none⟩ (.slice oa t.nodes oc)).alloc (.cells #[.slice oa t.nodes oc] 26)) := ((hbw.trans (hB.mono hbw.size)).trans (F10.below (by have := hbw.size; omega) (fun b e => by have := HXW.out; omega))).trans (hbs.mono (by have := hbw.size; have := F10.size; omega))
              have x9 : (w9.setCell ⟨X, 0, none⟩ (.slice oa t.nodes oc)).cell? ⟨X, 0, none⟩ = some (.slice oa t.nodes oc) := by simp [World.cell?, World.setCell, Array.getElem?_modify, boxT_below hxw hB]
              have x10 : ((w9.setCell ⟨X, 0, none⟩ (.slice oa t.nodes oc)).alloc (.cells #[.slice oa t.nodes oc] 26)).cell? ⟨X, 0, none⟩ = some (.slice oa t.nodes oc) := (hbs.cell (p := ⟨X, 0, none⟩) (by have := F10.size; show X < _; omega)).trans x9
              have hO2 : OwnT ((w9.setCell ⟨X, 0, none⟩ (.slice oa t.nodes oc)).alloc (.cells #[.slice oa t.nodes oc] 26)) w.heap.size (.slice oa t.nodes oc) ((t.flat 0).map TN.nd) us9 := ((hO.fr F10 (fun g hg e => by have := (hO.blk hg).1; omega)).below hbs).lower (by have := hbw.size; omega)
              have hlen : (bulkNs zs).length = t.nodes := by rw [HBN.out, if_neg hbig, HFL.out]
              refine bodyPost_ret (v := .agg #[.slice oa t.nodes oc]) (by simp [results, Try.results10, go_sem, x10]) rfl ⟨oa, oc, us9, by rw [hlen], ?_, hb10⟩
              rw [hlen, HBN.out, if_neg hbig]
              exact hO2
end Go.Proofs.Ytpmagndofiaooaa
