import Derived.Test.YtakdaandbdbdnaaGAJ
import Derived.Test.YtakdaandbdbdnaaGAL
import Derived.Test.YtakdaandbdbdnaaGAS
import Derived.Test.YtakdaandbdbdnaaGAP
namespace Go.Proofs.Ytakdaandbdbdnaa
open Go.RowKit Go.Maps
set_option linter.unusedVariables false
set_option maxRecDepth 100000

theorem run_sliceAll2 (g : Nat) (w : World) : (Instr.sliceAt 86 (.pointer (some ⟨g, 0, none⟩)) none none none).run Try.prog w = .ok (.slice (some ⟨g, 0, none⟩) 128 128) w := by
  rw [run_sliceAt_array_all w 86 _ arrSheet, elemSheet, show (sizeOf 5).run Try.prog w = .ok 1 w by kernel_rfl]
  simp [slicedAt, go_sem, Addr.add]
theorem someF_zero {L : List PF} {i : Nat} {nm : ByteArray} (h : nm = (L.getD i (ByteArray.empty, [])).1) : someF L i 0 = curF L i 0 ++ [(nm, [])] := by
  unfold someF curF
  rw [if_pos rfl, ← h]
  simp
theorem someF_len {L : List PF} {i j : Nat} (h : i < L.length) : (someF L i j).length = i + 1 := by unfold someF; simp; omega
/-- The page that is met, in any world behind the sort. -/
theorem met_page {L : List PF} {D : DataW Unit} {w2 w3 : World} {mb q i j : Nat} {nm : ByteArray} (hM : MapS w2 mb q D) (hmb : mb < w2.heap.size) (hB : Below w2.heap.size w2 w3) (hR : RepS D (pageOf L)) (hBF : ByteF L) (hnm : nm.size ≤ maxLen) (hjw : (Lit.int .i64 (j : Int)).wf = true) (hp : pageOf L nm (j : Int) = some (((L.getD i (ByteArray.empty, [])).2.drop (j * 128)).take 128)) :
    ∃ pgb : List Int, Hid (pgb = ((L.getD i (ByteArray.empty, [])).2.drop (j * 128)).take 128) ∧ pgb.length = 128 ∧ (∀ x ∈ pgb, 0 ≤ x ∧ x ≤ 255) ∧ (Instr.lookup 80 (.map (some mb)) (.agg #[.string nm, .int .i64 (j : Int)]) false).run Try.prog w3 = .ok (.agg (u8s pgb).toArray) w3 := by
  obtain ⟨h1, h2, h3⟩ := look_plF (hM.to (hB.block mb hmb)) hR hnm hjw (fun bs hb => page_byte hBF nm (j : Int) bs hb)
  refine ⟨_, ?_, h2, h3, h1⟩
  show _ = _
  unfold oldS
  rw [hp]
  rfl
theorem u8s_app2 (a b : List Int) : u8s a ++ u8s b = u8s (a ++ b) := by simp [u8s]
/-- A page behind the bytes of a file. -/
theorem edit_page {w4 w4' w5 : World} {base : Nat} {dv : Value} {ua : Option Addr} {uc : Nat} {old pgb : List Int} (hw : w4.os = w4'.os ∧ w4.tape = w4'.tape ∧ w4.output = w4'.output ∧ w4.heap = w4'.heap) (hown : w5.ownsRow base 5 1 (.slice ua (old.length + 128) uc) (old.length + 128) (u8s old ++ u8s pgb)) (hgr : w4'.grownBy w5 dv.ownBlock) (hl : (Value.slice ua (old.length + 128) uc).ownBlock = dv.ownBlock ∨ ∀ g, (Value.slice ua (old.length + 128) uc).ownBlock = some g → w4'.heap.size ≤ g) (hpl : pgb.length = 128) : Edit w4 w5 base dv (.slice ua (old.length + 128) uc) (old ++ pgb) := by
  obtain ⟨e1, e2, e3, e4⟩ := hw
  refine ⟨?_, ⟨hgr.os.trans e1.symm, hgr.tape.trans e2.symm, hgr.output.trans e3.symm, by rw [e4]; exact hgr.size, fun k hk hne => by rw [e4] at hk ⊢; exact hgr.block k hk hne⟩, by rw [e4]; exact hl⟩
  rw [List.length_append, hpl, ← u8s_app2]
  exact hown
theorem edit_cell {w1 wr : World} {base g n c i : Nat} {bv : Value} {fs : List PF} {xs vs : List Value} {l : List Int} (h : OwnF w1 base (.slice (some ⟨g, 0, none⟩) n c) fs xs vs) (hi : i < fs.length) (he : Edit w1 wr base (vs.getD i (.slice none 0 0)) bv l) : wr.cell? ⟨g, i * 2 + 1, none⟩ = some (vs.getD i (.slice none 0 0)) ∧ wr.frozen? ⟨g, i * 2 + 1, none⟩ = false := by
  have hk := h.row.kept he.grown (by
    rcases own_ne h.row (h.data i hi) with h1 | h1
    · exact .inr (by rw [h1]; simp [Value.ownBlock])
    · exact .inr (fun e => h1 e.symm))
  have hn : n = fs.length := h.rowF.1
  subst hn
  exact ⟨(hk.cellAt (i * 2 + 1) (by omega)).trans (h.val i hi), hk.frozenAt _⟩
theorem someF_set {L : List PF} {i j : Nat} (h : i < L.length) {pgb : List Int} (hp : pgb = ((L.getD i (ByteArray.empty, [])).2.drop (j * 128)).take 128) : (someF L i j).set i (((someF L i j).getD i (ByteArray.empty, [])).1, (L.getD i (ByteArray.empty, [])).2.take (j * 128) ++ pgb) = someF L i (j + 1) := by
  have hl : (L.take i).length = i := by simp; omega
  unfold someF
  have hg : (L.take i ++ [((L.getD i (ByteArray.empty, [])).1, (L.getD i (ByteArray.empty, [])).2.take (j * 128))]).getD i (ByteArray.empty, []) = ((L.getD i (ByteArray.empty, [])).1, (L.getD i (ByteArray.empty, [])).2.take (j * 128)) := by
    rw [List.getD, List.getElem?_append_right (by omega), hl]; simp
  rw [hg, List.set_append_right _ _ (by omega), hl, Nat.sub_self, hp, take_more]
  rfl
theorem someF_data {L : List PF} {i j : Nat} (h : i < L.length) : ((someF L i j).getD i (ByteArray.empty, [])).2 = (L.getD i (ByteArray.empty, [])).2.take (j * 128) := by
  have hl : (L.take i).length = i := by simp; omega
  unfold someF
  rw [List.getD, List.getElem?_append_right (by omega), hl]; simp
set_option maxHeartbeats 6400000 in
theorem files_any (mb q : Nat) (D : DataW Unit) (L : List PF) (w : World) (hM : MapS w mb q D) (hR : RepS D (pageOf L)) (hs : SortedN L) (hI : Inv L) (hBF : ByteF L) (hn : L.length ≤ 12) (hnm : ∀ f ∈ L, f.1.size ≤ maxLen) (hsm : ∀ f ∈ L, f.2.length ≤ 1048576) (hsz : Maps.size D ≤ 1073741824) :
    Calls Try.prog 52 #[.map (some mb)] w fun e w' => ∃ v xs vs, e = .returned v ∧ OwnF w' w.heap.size v L xs vs ∧ Below w.heap.size w w' := by
  have hmb : mb < w.heap.size := World.ownsMap.lt hM
  have hb0 : Below w.heap.size w (w.alloc (.cells #[.map (some mb)] 80)) := (Below.refl _ _).alloc (Nat.le_refl _) _
  have hm0 : (w.alloc (.cells #[.map (some mb)] 80)).cell? ⟨w.heap.size, 0, none⟩ = some (.map (some mb)) := by simp
  obtain ⟨i0, hiu, hz0, hz1, hz2⟩ := info_parts info_u8
  obtain ⟨i1, hi1, hy0, hy1, hy2⟩ := info_parts info_File
  go_enter Try.func52, Try.ntmps52
  go_wp2_with fail
  refine (keysCall (some mb) w).mono ?_
  rintro e w1 ⟨rfl, rfl⟩
  go_wp2_with fail
  refine (sortedOk w.heap.size mb q D _ (by simp) hm0 (World.ownsMap.alloc hM _) hsz).mono ?_
  rintro e w2 ⟨v, C, ss, rfl, hk, hp, hC, hrow, hb2⟩
  have hCe := places_eq hs hI hnm hsm hR hk hp hC
  subst hCe
  obtain ⟨a, c, rfl⟩ := own_shape hrow
  have hM2 : MapS w2 mb q D := MapS.to (World.ownsMap.alloc hM _) (hb2.block mb (by simp; omega))
  have hg2 : Below w.heap.size w w2 := hb0.trans (hb2.mono (by simp))
  have hz2' : w.heap.size ≤ w2.heap.size := hg2.size
  have hTot : (placesOf L).length ≤ 1048576 * 12 := by
    have h1 : ∀ M : List PF, (∀ f ∈ M, f.2.length ≤ 1048576) → (placesOf M).length ≤ 1048576 * M.length := fun M => by
      induction M with
      | nil => intro _; simp [placesOf]
      | cons f r ih =>
        intro hM
        have h2 := ih (fun g hg => hM g (List.mem_cons_of_mem _ hg))
        have h3 := hM f List.mem_cons_self
        unfold placesOf at h2 ⊢
        rw [List.flatMap_cons, List.length_append, placesF_len, List.length_cons]
        omega
    have := h1 L hsm
    omega
  have HROW : Hid (∀ t (i j : Nat), t = cntF L i + j → i < L.length → j < pagesN L i → ∃ g, a = some ⟨g, 0, none⟩ ∧ g < w2.heap.size ∧ w2.cell? ⟨g, t * 2, none⟩ = some (.string (L.getD i (ByteArray.empty, [])).1) ∧ w2.cell? ⟨g, t * 2 + 1, none⟩ = some (.int .i64 (j : Int))) := by
    intro t i j ht hi hj
    have hle := cntF_le hi
    have hpl := place_at hi hj
    rw [← ht] at hpl
    have htl : t < (placesOf L).length := by omega
    obtain ⟨g, rfl⟩ : ∃ g, a = some ⟨g, 0, none⟩ := by
      rcases hrow.2 with ⟨_, h0⟩ | ⟨g, cap, cur, h0, _⟩
      · omega
      · injection h0 with h1; exact ⟨g, h1⟩
    have hgt := plC_get (placesOf L) t htl
    have hx : (placesOf L)[t] = ((L.getD i (ByteArray.empty, [])).1, (j : Int)) := by
      have := List.getElem?_eq_getElem htl
      rw [hpl] at this
      injection this with this
      exact this.symm
    rw [hx] at hgt
    exact ⟨g, rfl, (hrow.lt g rfl).2, (hrow.cellAt (t * 2) (by omega)).trans hgt.1, (hrow.cellAt (t * 2 + 1) (by omega)).trans hgt.2⟩
  have HM : Hid (MapS w2 mb q D) := hM2
  have HR : Hid (RepS D (pageOf L)) := hR
  have HI : Hid (Inv L) := hI
  have HBF : Hid (ByteF L) := hBF
  have HNM : Hid (∀ f ∈ L, f.1.size ≤ maxLen) := hnm
  have HSM : Hid (∀ f ∈ L, f.2.length ≤ 1048576) := hsm
  have HG2 : Hid (Below w.heap.size w w2) := hg2
  have hcm : c ≤ 9223372036854775807 ∧ (placesOf L).length ≤ c := by
    rcases hrow.2 with ⟨e, _⟩ | ⟨g, cap, cur, e, _, _, h3, h4, _⟩
    · simp only [Value.slice.injEq] at e; omega
    · simp only [Value.slice.injEq] at e
      unfold maxLen at h4
      omega
  obtain ⟨m, hm⟩ : ∃ m, m = (placesOf L).length := ⟨_, rfl⟩
  have HMM : Hid (m = (placesOf L).length) := hm
  rw [← hm] at hTot hcm ⊢
  clear hm hrow hM2 hM hR hI hBF hnm hsm hg2 hb2 hb0 hm0 hk hp hC hs hsz
  go_wp2
  go_loopw [3, 5, 6, 7, 12] (fun v _ _ _ k wr => ∃ (t i j : Nat) (xs vs : List Value), t ≤ m ∧ k = .int .i64 t ∧ t = cntF L i + j ∧ ((i < L.length ∧ j < pagesN L i) ∨ (i = L.length ∧ j = 0)) ∧ Hid (OwnF wr w2.heap.size v (curF L i j) xs vs) ∧ Hid (Below w2.heap.size w2 wr)) (fun _ _ _ _ k _ => m - (intOf k).toNat)
  case atStart =>
    refine ⟨0, 0, 0, [], [], Nat.zero_le _, rfl, by simp [cntF, placesOf], ?_, ?_, Below.refl _ _⟩
    · by_cases hl : 0 < L.length
      · refine .inl ⟨hl, ?_⟩
        have := (HI.out.pg _ hl).1
        unfold pagesN
        omega
      · exact .inr ⟨by omega, rfl⟩
    · exact OwnF.nil (World.ownsRow_nil _ _ _ _)
  case round =>
    obtain ⟨t, i, j, xs, vs, ht, rfl, htc, hcase, HO, HB⟩ := hrel
    obtain ⟨va, vn, vc, rfl, hvn, hfa⟩ := HO.out.files
    have HVN : Hid (vn = (curF L i j).length) := hvn
    have hrowF : wr.ownsRow w2.heap.size 92 2 (.slice va vn vc) vn xs := by rw [hvn]; rw [hvn] at HO; exact HO.out.row
    have hvn12 : vn ≤ 12 := by
      rw [hvn]
      unfold curF someF
      split
      · simp; omega
      · rcases hcase with h | h
        · simp; omega
        · omega
    clear hvn
    have HFA : Hid (FilesAt wr w2.heap.size wr.heap.size va vn vc (curF L i j)) := hfa
    have hvc := hfa.2.1
    have hvm := hfa.2.2.1
    unfold maxLen at hvm
    clear hfa
    by_cases hlt : t < m
    · obtain ⟨hi, hj⟩ : i < L.length ∧ j < pagesN L i := by
        rcases hcase with h | ⟨h1, h2⟩
        · exact h
        · subst h1 h2
          have := cntF_all L
          have := HMM.out
          omega
      obtain ⟨g, rfl, hg, c0, c1⟩ := HROW.out t i j htc hi hj
      have hsW := HB.out.size
      have d0 := (HB.out.cell (p := ⟨g, t * 2, none⟩) hg).trans c0
      have d1 := (HB.out.cell (p := ⟨g, t * 2 + 1, none⟩) hg).trans c1
      have hgl : g < wr.heap.size := by omega
      have hpi := page_i HI.out hi hj
      have hnmi : (L.getD i (ByteArray.empty, [])).1.size ≤ maxLen := by
        have e : L.getD i (ByteArray.empty, []) = L[i] := by simp [List.getD, List.getElem?_eq_getElem hi]
        rw [e]; exact HNM.out _ (List.getElem_mem hi)
      have hjw : (Lit.int .i64 (j : Int)).wf = true := WalkArith.wf_i64 (by
        have e : L.getD i (ByteArray.empty, []) = L[i] := by simp [List.getD, List.getElem?_eq_getElem hi]
        have := HSM.out _ (List.getElem_mem hi)
        unfold pagesN at hj
        rw [e] at hj
        omega)
      obtain ⟨nm, hnmE⟩ : ∃ nm, nm = (L.getD i (ByteArray.empty, [])).1 := ⟨_, rfl⟩
      have HNE : Hid (nm = (L.getD i (ByteArray.empty, [])).1) := hnmE
      rw [← hnmE] at d0 hpi hnmi
      have HTC : Hid (t = cntF L i + j) := htc
      have HPI : Hid (pageOf L nm (j : Int) = some (((L.getD i (ByteArray.empty, [])).2.drop (j * 128)).take 128)) := hpi
      clear c0 c1 hnmE hcase HROW htc hpi
      by_cases hj0 : j = 0
      · have htz : (((j : Nat) : Int) == 0) = true := by simp [hj0]
        have HJ0 : Hid (j = 0) := hj0
        have hvi : vn = i := by rw [HVN.out]; unfold curF; rw [if_pos hj0]; simp; omega
        subst hvi
        clear hj0
        have hcells : ∀ (k : Nat) (u : Value), [Value.string nm, .slice none 0 0][k]? = some u → ((wr.alloc (.cells #[.string nm, .int .i64 (j : Int)] 89)).alloc (.cells #[.string nm, .slice none 0 0] 92)).cell? ((⟨wr.heap.size + 1, 0, none⟩ : Addr).add k) = some u := by
          have := cell_two_new (wr.alloc (.cells #[.string nm, .int .i64 (j : Int)] 89)) (.string nm) (.slice none 0 0) 92
          rw [show (wr.alloc (.cells #[.string nm, .int .i64 (j : Int)] 89)).heap.size = wr.heap.size + 1 by simp] at this
          exact this
        go_wp2_with (at_builtin; refine wpList_append_own2 _ rfl _ _ 23 rfl w2.heap.size 92 i1 _ 2 40 Try.underlying23 hi1 hy0 hy1 hy2 rfl (by decide) _ _ _ rfl ((hrowF.alloc _).alloc _) ⟨wr.heap.size + 1, 0, none⟩ 1 1 [.string nm, .slice none 0 0] rfl rfl hcells (by simp [Value.oneCell']) (by unfold maxLen; omega) (by omega) (by simp; omega) ?_; intro v' w3 hown' hgr hat; obtain ⟨g', cap', rfl⟩ := ownsRow_succ hown'; have hB3 : Below w2.heap.size w2 w3 := ((HB.out.alloc hsW _).alloc (by simp; omega) _).grown hgr (by simp; omega) (fun k e => (hrowF.lt k e).1); have b0 : w3.heap[wr.heap.size]? = some (.cells #[.string nm, .int .i64 (j : Int)] 89) := (hgr.block wr.heap.size (by simp; omega) (fun e => by have := hrowF.lt _ e.symm; omega)).trans (by rw [heap_alloc_old _ _ (by simp)]; exact heap_alloc_new _ _); obtain ⟨p0, p1⟩ := box_two2D b0; obtain ⟨pgb, HPG, hpl, hpr, hlk⟩ := met_page HM.out (by omega) hB3 HR.out HBF.out hnmi hjw HPI.out; have hst := storeCells_new w3 pgb hpl; have hul : (u8s pgb).length = 128 := (by simp [u8s, hpl]); have hsl := run_sliceAll2 w3.heap.size; have hgl3 := (hown'.lt g' rfl).2; have hlt3 : wr.heap.size < w3.heap.size := (Array.getElem?_eq_some_iff.1 b0).1; have hxl := hrowF.1; have hd0 : w3.cell? ⟨g', vn * 2 + 1, none⟩ = some (.slice none 0 0) := (hown'.cellAt (vn * 2 + 1) (by omega)).trans (by rw [List.getElem?_append_right (by omega), show vn * 2 + 1 - xs.length = 1 by omega]; rfl))
        have O3 : Hid (OwnF w3 w2.heap.size (.slice (some ⟨g', 0, none⟩) (vn + 1) cap') (someF L vn j) (xs ++ [.string nm, .slice none 0 0]) (vs ++ [.slice none 0 0])) := by
          have hx := OwnF.push (f := (nm, [])) HO.out hsW ((Below.refl _ wr).alloc (Nat.le_refl _) (.cells #[.string nm, .int .i64 (j : Int)] 89)) (World.ownsRow_nil _ _ _ _) hnmi (by simp) ((Below.refl _ _).alloc (Nat.le_refl _) _) (by rw [← HVN.out]; exact hown') hgr
          have e : someF L vn j = curF L vn j ++ [(nm, [])] := by rw [HJ0.out]; exact someF_zero HNE.out
          show OwnF _ _ _ _ _ _
          rw [e]; exact hx
        obtain ⟨G, XS, VS, CAP, hG, hXS, hVS, hCAP⟩ : ∃ (G : Nat) (XS VS : List Value) (CAP : Nat), G = g' ∧ XS = xs ++ [.string nm, .slice none 0 0] ∧ VS = vs ++ [.slice none 0 0] ∧ CAP = cap' := ⟨_, _, _, _, rfl, rfl, rfl, rfl⟩
        rw [← hXS, ← hVS] at O3
        subst hG hCAP
        clear hXS hVS hown' hgr hat hd0 b0 p0 p1 hcells hlk hst
        have HIX : Hid (vn < (someF L vn j).length) := by show _ < _; rw [someF_len hi]; omega
        have hdlen : (L.getD vn (ByteArray.empty, [])).2.length ≤ 1048576 := by
          have e : L.getD vn (ByteArray.empty, []) = L[vn] := by simp [List.getD, List.getElem?_eq_getElem hi]
          rw [e]; exact HSM.out _ (List.getElem_mem hi)
        obtain ⟨old, hold⟩ : ∃ old, old = (L.getD vn (ByteArray.empty, [])).2.take (j * 128) := ⟨_, rfl⟩
        have HOLD : Hid (old = (L.getD vn (ByteArray.empty, [])).2.take (j * 128)) := hold
        have hol : old.length ≤ 1048576 := by rw [hold, List.length_take]; omega
        have hal4 : Below w3.heap.size w3 (w3.alloc (.cells (u8s pgb).toArray 86)) := (Below.refl _ _).alloc (Nat.le_refl _) _
        have O4 := O3.out.below hal4
        have hdr := O4.data vn HIX.out
        rw [someF_data hi, ← hold] at hdr
        have hdc := (edit_cell O4 HIX.out (Edit.start (O4.data vn HIX.out))).1
        have hby4 := O4.byte vn HIX.out
        rw [someF_data hi, ← hold] at hby4
        have hnew : ∀ (k : Nat) (u : Value), (u8s pgb)[k]? = some u → (w3.alloc (.cells (u8s pgb).toArray 86)).cell? ((⟨w3.heap.size, 0, none⟩ : Addr).add k) = some u := fun k u hu => by
          rw [Addr.add_mid, Nat.zero_add, cell_of_row _ _ k _ _ _ (heap_alloc_new w3 _)]
          simpa using hu
        have hB4 := hB3.trans (hal4.mono hB3.size)
        generalize w3.alloc (.cells (u8s pgb).toArray 86) = w4 at hal4 O4 hdr hdc hnew hB4 ⊢
        have HOF4 : Hid (OwnF w4 w2.heap.size (.slice (some ⟨G, 0, none⟩) (vn + 1) CAP) (someF L vn j) XS VS) := O4
        obtain ⟨dv, hdv⟩ : ∃ dv, dv = VS.getD vn (.slice none 0 0) := ⟨_, rfl⟩
        have HDV : Hid (dv = VS.getD vn (.slice none 0 0)) := hdv
        rw [← hdv] at hdr hdc
        have HDROW : Hid (w4.drew.ownsRow w2.heap.size 5 1 dv old.length (u8s old)) := hdr
        have HNEWS : Hid (∀ (k : Nat) (u : Value), (u8s pgb)[k]? = some u → w4.drew.cell? ((⟨w3.heap.size, 0, none⟩ : Addr).add k) = some u) := hnew
        have HONE : Hid (∀ u ∈ u8s pgb, u.oneCell' = true) := fun u hu => by simp only [u8s, List.mem_map] at hu; obtain ⟨x, _, rfl⟩ := hu; rfl
        have HBS : Hid (w2.heap.size ≤ w4.drew.heap.size) := hB4.size
        have HDW : Hid (w4.os = w4.drew.os ∧ w4.tape = w4.drew.tape ∧ w4.output = w4.drew.output ∧ w4.heap = w4.drew.heap) := ⟨rfl, rfl, rfl, rfl⟩
        have HOLDB : Hid (∀ x ∈ old ++ pgb, 0 ≤ x ∧ x ≤ 255) := fun x hx => (List.mem_append.1 hx).elim (hby4 x) (hpr x)
        have HB4 : Hid (Below w2.heap.size w2 w4) := hB4
        clear hdv hold hdr hnew O4 O3 hby4 hB4 hal4 hB3
        refine wp_region_noPanic ?_
        refine wp_region_held_drew (S := (fun _ => True)) (by kernel_rfl) ?_ (fun hHeld => ?_)
        · trivial
        refine wpAnyH_take (i := 0) (oi := { dst := some 33, op := Op.move (Operand.tmp 7), type := 124, pos := "l1_disk.go:273", after := #[], guard := none }) (v := ?_) rfl (by kernel_rfl) (by kernel_rfl) (by kernel_rfl) (fun _ _ _ h => h) (Or.inl ⟨by rfl, ?_⟩) (by assumption) ?_
        rotate_left 1
        · intro w hSw; (try dsimp only at hSw); go_simp; try (with_reducible rfl)
        try simp only [Act.put, List.setIfInBounds_toArray, List.set_cons_zero, List.set_cons_succ]
        refine wpAnyH_take (i := 1) (oi := { dst := some 34, op := Op.move (Operand.tmp 7), type := 124, pos := "l1_disk.go:273", after := #[], guard := none }) (v := ?_) rfl (by kernel_rfl) (by kernel_rfl) (by kernel_rfl) (fun _ _ _ h => h) (Or.inl ⟨by rfl, ?_⟩) (by assumption) ?_
        rotate_left 1
        · intro w hSw; (try dsimp only at hSw); go_simp; try (with_reducible rfl)
        try simp only [Act.put, List.setIfInBounds_toArray, List.set_cons_zero, List.set_cons_succ]
        refine wpAnyH_take (i := 2) (oi := { dst := some 35, op := Op.nilCheck (Operand.tmp 34), type := 0, pos := "l1_disk.go:273", after := #[{ on := 1, ground := Ground.data }], guard := none }) (v := ?_) rfl (by kernel_rfl) (by kernel_rfl) (by kernel_rfl) (fun _ _ _ h => h) (Or.inl ⟨by rfl, ?_⟩) (by assumption) ?_
        rotate_left 1
        · intro w hSw; (try dsimp only at hSw); go_simp; try (with_reducible rfl)
        try simp only [Act.put, List.setIfInBounds_toArray, List.set_cons_zero, List.set_cons_succ]
        refine wpAnyH_take (i := 3) (oi := { dst := some 36, op := Op.fieldAddr 92 (Operand.tmp 35) 1, type := 0, pos := "l1_disk.go:273", after := #[{ on := 2, ground := Ground.data }], guard := none }) (v := ?_) rfl (by kernel_rfl) (by kernel_rfl) (by kernel_rfl) (fun _ _ _ h => h) (Or.inl ⟨by rfl, ?_⟩) (by assumption) ?_
        rotate_left 1
        · intro w hSw; (try dsimp only at hSw); go_simp; try (with_reducible rfl)
        try simp only [Act.put, List.setIfInBounds_toArray, List.set_cons_zero, List.set_cons_succ]
        refine wpAnyH_take (i := 5) (oi := { dst := some 38, op := Op.slice 86 (Operand.tmp 6) none none none, type := 22, pos := "l1_disk.go:273", after := #[], guard := none }) (v := .slice (some ⟨w3.heap.size, 0, none⟩) 128 128) rfl (by kernel_rfl) (by kernel_rfl) (by kernel_rfl) (fun _ _ _ h => h) (Or.inl ⟨by rfl, ?_⟩) (by assumption) ?_
        · intro w hSw; (try dsimp only at hSw); have hsl := run_sliceAll2 (w3.heap.size) w; go_simp
        try simp only [Act.put, List.setIfInBounds_toArray, List.set_cons_zero, List.set_cons_succ]
        refine wpAnyH_ready (rs := [4]) (by kernel_rfl) (by simp) ?_
        refine AllReadyH.cons (o := { dst := some 37, op := Op.load 22 (Operand.tmp 36), type := 22, pos := "l1_disk.go:273", after := #[{ on := 3, ground := Ground.data }], guard := none }) rfl (fun K hK => ?_) ?_
        rotate_left 1
        exact AllReadyH.nil
        go_simp
        refine hK.out _ _ trivial (fun hHeld => ?_)
        clear hK K
        try simp only [Act.put, List.setIfInBounds_toArray, List.set_cons_zero, List.set_cons_succ]
        refine wpAnyH_ready (rs := [6]) (by kernel_rfl) (by simp) ?_
        refine AllReadyH.cons (o := { dst := some 39, op := Op.call { callee := Callee.builtin Builtin.append, args := #[Operand.tmp 37, Operand.tmp 38], argTypes := #[22, 22] }, type := 22, pos := "l1_disk.go:273", after := #[{ on := 4, ground := Ground.data }, { on := 5, ground := Ground.data }], guard := none }) rfl (fun K hK => ?_) ?_
        rotate_left 1
        exact AllReadyH.nil
        refine step_append_ownD rfl (.tmp 37) (.tmp 38) 22 rfl w2.heap.size 5 i0 _ 1 1 Try.underlying22 hiu hz0 hz1 hz2 rfl (by decide) dv old.length (u8s old) (by simp [Act.eval]) HDROW.out ⟨w3.heap.size, 0, none⟩ 128 128 (u8s pgb) (by simp [Act.eval]) (by rw [hul]) HNEWS.out HONE.out (by unfold maxLen; omega) (by omega) HBS.out ?_
        intro u4 w5 hown5 hgr5 hlies5
        obtain ⟨ua, uc, rfl⟩ := own_shape hown5
        have hE5 := edit_page HDW.out hown5 hgr5 hlies5 hpl
        rw [HDV.out] at hE5
        have hO5 := HOF4.out.edit HIX.out hE5 HOLDB.out
        have hcell5 := edit_cell HOF4.out HIX.out hE5
        obtain ⟨hc5, hf5⟩ := hcell5
        refine hK.out _ _ trivial (fun hHeld => ?_)
        clear hK K
        try simp only [Act.put, List.setIfInBounds_toArray, List.set_cons_zero, List.set_cons_succ]
        refine wpAnyH_take (i := 7) (oi := { dst := some 40, op := Op.nilCheck (Operand.tmp 33), type := 0, pos := "l1_disk.go:273", after := #[{ on := 0, ground := Ground.data }, { on := 0, ground := Ground.phase }, { on := 1, ground := Ground.phase }, { on := 2, ground := Ground.phase }, { on := 3, ground := Ground.phase }, { on := 4, ground := Ground.phase }, { on := 5, ground := Ground.phase }, { on := 6, ground := Ground.phase }], guard := none }) (v := ?_) rfl (by kernel_rfl) (by kernel_rfl) (by kernel_rfl) (fun _ _ _ h => h) (Or.inl ⟨by rfl, ?_⟩) (by assumption) ?_
        rotate_left 1
        · intro w hSw; (try dsimp only at hSw); go_simp; try (with_reducible rfl)
        try simp only [Act.put, List.setIfInBounds_toArray, List.set_cons_zero, List.set_cons_succ]
        refine wpAnyH_take (i := 8) (oi := { dst := some 41, op := Op.fieldAddr 92 (Operand.tmp 40) 1, type := 0, pos := "l1_disk.go:273", after := #[{ on := 7, ground := Ground.data }, { on := 0, ground := Ground.phase }, { on := 1, ground := Ground.phase }, { on := 2, ground := Ground.phase }, { on := 3, ground := Ground.phase }, { on := 4, ground := Ground.phase }, { on := 5, ground := Ground.phase }, { on := 6, ground := Ground.phase }], guard := none }) (v := ?_) rfl (by kernel_rfl) (by kernel_rfl) (by kernel_rfl) (fun _ _ _ h => h) (Or.inl ⟨by rfl, ?_⟩) (by assumption) ?_
        rotate_left 1
        · intro w hSw; (try dsimp only at hSw); go_simp; try (with_reducible rfl)
        try simp only [Act.put, List.setIfInBounds_toArray, List.set_cons_zero, List.set_cons_succ]
        refine wpAnyH_ready (rs := [9]) (by kernel_rfl) (by simp) ?_
        refine AllReadyH.cons (o := { dst := none, op := Op.store 22 (Operand.tmp 41) (Operand.tmp 39), type := 0, pos := "l1_disk.go:273", after := #[{ on := 8, ground := Ground.data }, { on := 6, ground := Ground.data }, { on := 6, ground := Ground.chain }, { on := 0, ground := Ground.phase }, { on := 1, ground := Ground.phase }, { on := 2, ground := Ground.phase }, { on := 3, ground := Ground.phase }, { on := 4, ground := Ground.phase }, { on := 5, ground := Ground.phase }, { on := 6, ground := Ground.phase }], guard := none }) rfl (fun K hK => ?_) ?_
        rotate_left 1
        exact AllReadyH.nil
        go_simp
        refine hK.out _ _ trivial (fun hHeld => ?_)
        clear hK K
        try simp only [Act.put, List.setIfInBounds_toArray, List.set_cons_zero, List.set_cons_succ]
        refine wpAnyH_done (by kernel_rfl) ?_ _
        refine NoPanic.normal ?_
        have e6 := someF_set hi HPG.out
        rw [← HOLD.out] at e6
        rw [e6] at hO5
        have hGb : w2.heap.size ≤ G := (HOF4.out.row.lt G rfl).1
        have hBE : Below w2.heap.size w2 (w5.setCell ⟨G, vn * 2 + 1, none⟩ (.slice ua (old.length + 128) uc)) := ((HB4.out.grown hE5.grown HB4.out.size (fun k e => ((HOF4.out.data vn HIX.out).lt k e).1)).setCell (p := ⟨G, vn * 2 + 1, none⟩) hGb _)
        have HBE : Hid (Below w2.heap.size w2 (w5.setCell ⟨G, vn * 2 + 1, none⟩ (.slice ua (old.length + 128) uc))) := hBE
        obtain ⟨i', j', XS', VS', HT', hcase', HO'⟩ : ∃ (i' j' : Nat) (XS' VS' : List Value), Hid (t + 1 = cntF L i' + j') ∧ Hid ((i' < L.length ∧ j' < pagesN L i') ∨ (i' = L.length ∧ j' = 0)) ∧ Hid (OwnF (w5.setCell ⟨G, vn * 2 + 1, none⟩ (.slice ua (old.length + 128) uc)) w2.heap.size (.slice (some ⟨G, 0, none⟩) (vn + 1) CAP) (curF L i' j') XS' VS') := by
          have htc := HTC.out
          by_cases hlast : j + 1 = pagesN L vn
          · refine ⟨vn + 1, 0, XS.set (vn * 2 + 1) (.slice ua (old.length + 128) uc), VS.set vn (.slice ua (old.length + 128) uc), ?_, ?_, ?_⟩
            · show _ = _
              rw [cntF_succ hi]; omega
            · show _ ∨ _
              by_cases hl : vn + 1 < L.length
              · refine .inl ⟨hl, ?_⟩
                have := (HI.out.pg _ hl).1
                unfold pagesN
                omega
              · exact .inr ⟨by omega, rfl⟩
            · rw [curF_next HI.out hi hlast] at hO5
              exact hO5
          · refine ⟨vn, j + 1, XS.set (vn * 2 + 1) (.slice ua (old.length + 128) uc), VS.set vn (.slice ua (old.length + 128) uc), ?_, ?_, ?_⟩
            · show _ = _
              omega
            · exact .inl ⟨hi, by omega⟩
            · rw [curF_step] at hO5
              exact hO5
        clear hO5 hE5 hown5 hgr5 hlies5 hc5 hf5 hBE e6 hGb
        go_wp2
        go_roundw
        case rel => exact ⟨t + 1, i', j', XS', VS', by omega, by go_num, HT'.out, hcase'.out, HO', HBE⟩
        case measure => simp [intOf]; omega
      · have htz : (((j : Nat) : Int) == 0) = false := by rw [beq_eq_false_iff_ne]; omega
        have hcur : curF L i j = someF L i j := by unfold curF; rw [if_neg hj0]
        have hvi : vn = i + 1 := by rw [HVN.out, hcur]; exact someF_len hi
        subst hvi
        obtain ⟨G, hG⟩ : ∃ G, va = some ⟨G, 0, none⟩ := by
          rcases hrowF.2 with ⟨_, h0⟩ | ⟨G, cap, cur, h0, _⟩
          · omega
          · injection h0 with h1; exact ⟨G, h1⟩
        subst hG
        obtain ⟨XS, hXS⟩ : ∃ XS, XS = xs := ⟨_, rfl⟩
        obtain ⟨VS, hVS⟩ : ∃ VS, VS = vs := ⟨_, rfl⟩
        obtain ⟨CAP, hCAP⟩ : ∃ CAP, CAP = vc := ⟨_, rfl⟩
        have OB := HO.out
        rw [hcur, ← hXS, ← hVS] at OB
        subst hCAP
        clear hXS hVS
        have hB3 : Below w2.heap.size w2 (wr.alloc (.cells #[.string nm, .int .i64 (j : Int)] 89)) := HB.out.alloc hsW _
        obtain ⟨pgb, HPG, hpl, hpr, hlk⟩ := met_page HM.out (by omega) hB3 HR.out HBF.out hnmi hjw HPI.out
        have hst := storeCells_new (wr.alloc (.cells #[.string nm, .int .i64 (j : Int)] 89)) pgb hpl
        rw [show (wr.alloc (.cells #[.string nm, .int .i64 (j : Int)] 89)).heap.size = wr.heap.size + 1 by simp] at hst
        have hul : (u8s pgb).length = 128 := by simp [u8s, hpl]
        have hsl := run_sliceAll2 (wr.heap.size + 1)
        have hgl3 := (hrowF.lt G rfl).2
        have HCUR : Hid (curF L i j = someF L i j) := hcur
        clear hcur hj0 hB3
        go_wp2_with fail
        clear hlk hst
        have HIX : Hid (i < (someF L i j).length) := by show _ < _; rw [someF_len hi]; omega
        have hdlen : (L.getD i (ByteArray.empty, [])).2.length ≤ 1048576 := by
          have e : L.getD i (ByteArray.empty, []) = L[i] := by simp [List.getD, List.getElem?_eq_getElem hi]
          rw [e]; exact HSM.out _ (List.getElem_mem hi)
        obtain ⟨old, hold⟩ : ∃ old, old = (L.getD i (ByteArray.empty, [])).2.take (j * 128) := ⟨_, rfl⟩
        have HOLD : Hid (old = (L.getD i (ByteArray.empty, [])).2.take (j * 128)) := hold
        have hol : old.length ≤ 1048576 := by rw [hold, List.length_take]; omega
        have hal4 : Below wr.heap.size wr ((wr.alloc (.cells #[.string nm, .int .i64 (j : Int)] 89)).alloc (.cells (u8s pgb).toArray 86)) := ((Below.refl _ _).alloc (Nat.le_refl _) _).alloc (by simp) _
        have O4 := OB.below hal4
        have hdr := O4.data i HIX.out
        rw [someF_data hi, ← hold] at hdr
        have hdc := (edit_cell O4 HIX.out (Edit.start (O4.data i HIX.out))).1
        have hby4 := O4.byte i HIX.out
        rw [someF_data hi, ← hold] at hby4
        have hnew : ∀ (k : Nat) (u : Value), (u8s pgb)[k]? = some u → ((wr.alloc (.cells #[.string nm, .int .i64 (j : Int)] 89)).alloc (.cells (u8s pgb).toArray 86)).cell? ((⟨wr.heap.size + 1, 0, none⟩ : Addr).add k) = some u := fun k u hu => by
          have hnw := heap_alloc_new (wr.alloc (.cells #[.string nm, .int .i64 (j : Int)] 89)) (.cells (u8s pgb).toArray 86)
          rw [show (wr.alloc (.cells #[.string nm, .int .i64 (j : Int)] 89)).heap.size = wr.heap.size + 1 by simp] at hnw
          rw [Addr.add_mid, Nat.zero_add, cell_of_row _ _ k _ _ _ hnw]
          simpa using hu
        have hB4 := HB.out.trans (hal4.mono HB.out.size)
        generalize (wr.alloc (.cells #[.string nm, .int .i64 (j : Int)] 89)).alloc (.cells (u8s pgb).toArray 86) = w4 at hal4 O4 hdr hdc hnew hB4 ⊢
        have HOF4 : Hid (OwnF w4 w2.heap.size (.slice (some ⟨G, 0, none⟩) (i + 1) CAP) (someF L i j) XS VS) := O4
        obtain ⟨dv, hdv⟩ : ∃ dv, dv = VS.getD i (.slice none 0 0) := ⟨_, rfl⟩
        have HDV : Hid (dv = VS.getD i (.slice none 0 0)) := hdv
        rw [← hdv] at hdr hdc
        have HDROW : Hid (w4.drew.ownsRow w2.heap.size 5 1 dv old.length (u8s old)) := hdr
        have HNEWS : Hid (∀ (k : Nat) (u : Value), (u8s pgb)[k]? = some u → w4.drew.cell? ((⟨wr.heap.size + 1, 0, none⟩ : Addr).add k) = some u) := hnew
        have HONE : Hid (∀ u ∈ u8s pgb, u.oneCell' = true) := fun u hu => by simp only [u8s, List.mem_map] at hu; obtain ⟨x, _, rfl⟩ := hu; rfl
        have HBS : Hid (w2.heap.size ≤ w4.drew.heap.size) := hB4.size
        have HDW : Hid (w4.os = w4.drew.os ∧ w4.tape = w4.drew.tape ∧ w4.output = w4.drew.output ∧ w4.heap = w4.drew.heap) := ⟨rfl, rfl, rfl, rfl⟩
        have HOLDB : Hid (∀ x ∈ old ++ pgb, 0 ≤ x ∧ x ≤ 255) := fun x hx => (List.mem_append.1 hx).elim (hby4 x) (hpr x)
        have HB4 : Hid (Below w2.heap.size w2 w4) := hB4
        clear hdv hold hdr hnew O4 OB hby4 hB4 hal4
        refine wp_region_noPanic ?_
        refine wp_region_held_drew (S := (fun _ => True)) (by kernel_rfl) ?_ (fun hHeld => ?_)
        · trivial
        refine wpAnyH_take (i := 0) (oi := { dst := some 33, op := Op.move (Operand.tmp 7), type := 124, pos := "l1_disk.go:273", after := #[], guard := none }) (v := ?_) rfl (by kernel_rfl) (by kernel_rfl) (by kernel_rfl) (fun _ _ _ h => h) (Or.inl ⟨by rfl, ?_⟩) (by assumption) ?_
        rotate_left 1
        · intro w hSw; (try dsimp only at hSw); go_simp; try (with_reducible rfl)
        try simp only [Act.put, List.setIfInBounds_toArray, List.set_cons_zero, List.set_cons_succ]
        refine wpAnyH_take (i := 1) (oi := { dst := some 34, op := Op.move (Operand.tmp 7), type := 124, pos := "l1_disk.go:273", after := #[], guard := none }) (v := ?_) rfl (by kernel_rfl) (by kernel_rfl) (by kernel_rfl) (fun _ _ _ h => h) (Or.inl ⟨by rfl, ?_⟩) (by assumption) ?_
        rotate_left 1
        · intro w hSw; (try dsimp only at hSw); go_simp; try (with_reducible rfl)
        try simp only [Act.put, List.setIfInBounds_toArray, List.set_cons_zero, List.set_cons_succ]
        refine wpAnyH_take (i := 2) (oi := { dst := some 35, op := Op.nilCheck (Operand.tmp 34), type := 0, pos := "l1_disk.go:273", after := #[{ on := 1, ground := Ground.data }], guard := none }) (v := ?_) rfl (by kernel_rfl) (by kernel_rfl) (by kernel_rfl) (fun _ _ _ h => h) (Or.inl ⟨by rfl, ?_⟩) (by assumption) ?_
        rotate_left 1
        · intro w hSw; (try dsimp only at hSw); go_simp; try (with_reducible rfl)
        try simp only [Act.put, List.setIfInBounds_toArray, List.set_cons_zero, List.set_cons_succ]
        refine wpAnyH_take (i := 3) (oi := { dst := some 36, op := Op.fieldAddr 92 (Operand.tmp 35) 1, type := 0, pos := "l1_disk.go:273", after := #[{ on := 2, ground := Ground.data }], guard := none }) (v := ?_) rfl (by kernel_rfl) (by kernel_rfl) (by kernel_rfl) (fun _ _ _ h => h) (Or.inl ⟨by rfl, ?_⟩) (by assumption) ?_
        rotate_left 1
        · intro w hSw; (try dsimp only at hSw); go_simp; try (with_reducible rfl)
        try simp only [Act.put, List.setIfInBounds_toArray, List.set_cons_zero, List.set_cons_succ]
        refine wpAnyH_take (i := 5) (oi := { dst := some 38, op := Op.slice 86 (Operand.tmp 6) none none none, type := 22, pos := "l1_disk.go:273", after := #[], guard := none }) (v := .slice (some ⟨wr.heap.size + 1, 0, none⟩) 128 128) rfl (by kernel_rfl) (by kernel_rfl) (by kernel_rfl) (fun _ _ _ h => h) (Or.inl ⟨by rfl, ?_⟩) (by assumption) ?_
        · intro w hSw; (try dsimp only at hSw); have hsl := run_sliceAll2 (wr.heap.size + 1) w; go_simp
        try simp only [Act.put, List.setIfInBounds_toArray, List.set_cons_zero, List.set_cons_succ]
        refine wpAnyH_ready (rs := [4]) (by kernel_rfl) (by simp) ?_
        refine AllReadyH.cons (o := { dst := some 37, op := Op.load 22 (Operand.tmp 36), type := 22, pos := "l1_disk.go:273", after := #[{ on := 3, ground := Ground.data }], guard := none }) rfl (fun K hK => ?_) ?_
        rotate_left 1
        exact AllReadyH.nil
        go_simp
        refine hK.out _ _ trivial (fun hHeld => ?_)
        clear hK K
        try simp only [Act.put, List.setIfInBounds_toArray, List.set_cons_zero, List.set_cons_succ]
        refine wpAnyH_ready (rs := [6]) (by kernel_rfl) (by simp) ?_
        refine AllReadyH.cons (o := { dst := some 39, op := Op.call { callee := Callee.builtin Builtin.append, args := #[Operand.tmp 37, Operand.tmp 38], argTypes := #[22, 22] }, type := 22, pos := "l1_disk.go:273", after := #[{ on := 4, ground := Ground.data }, { on := 5, ground := Ground.data }], guard := none }) rfl (fun K hK => ?_) ?_
        rotate_left 1
        exact AllReadyH.nil
        refine step_append_ownD rfl (.tmp 37) (.tmp 38) 22 rfl w2.heap.size 5 i0 _ 1 1 Try.underlying22 hiu hz0 hz1 hz2 rfl (by decide) dv old.length (u8s old) (by simp [Act.eval]) HDROW.out ⟨wr.heap.size + 1, 0, none⟩ 128 128 (u8s pgb) (by simp [Act.eval]) (by rw [hul]) HNEWS.out HONE.out (by unfold maxLen; omega) (by omega) HBS.out ?_
        intro u4 w5 hown5 hgr5 hlies5
        obtain ⟨ua, uc, rfl⟩ := own_shape hown5
        have hE5 := edit_page HDW.out hown5 hgr5 hlies5 hpl
        rw [HDV.out] at hE5
        have hO5 := HOF4.out.edit HIX.out hE5 HOLDB.out
        have hcell5 := edit_cell HOF4.out HIX.out hE5
        obtain ⟨hc5, hf5⟩ := hcell5
        refine hK.out _ _ trivial (fun hHeld => ?_)
        clear hK K
        try simp only [Act.put, List.setIfInBounds_toArray, List.set_cons_zero, List.set_cons_succ]
        refine wpAnyH_take (i := 7) (oi := { dst := some 40, op := Op.nilCheck (Operand.tmp 33), type := 0, pos := "l1_disk.go:273", after := #[{ on := 0, ground := Ground.data }, { on := 0, ground := Ground.phase }, { on := 1, ground := Ground.phase }, { on := 2, ground := Ground.phase }, { on := 3, ground := Ground.phase }, { on := 4, ground := Ground.phase }, { on := 5, ground := Ground.phase }, { on := 6, ground := Ground.phase }], guard := none }) (v := ?_) rfl (by kernel_rfl) (by kernel_rfl) (by kernel_rfl) (fun _ _ _ h => h) (Or.inl ⟨by rfl, ?_⟩) (by assumption) ?_
        rotate_left 1
        · intro w hSw; (try dsimp only at hSw); go_simp; try (with_reducible rfl)
        try simp only [Act.put, List.setIfInBounds_toArray, List.set_cons_zero, List.set_cons_succ]
        refine wpAnyH_take (i := 8) (oi := { dst := some 41, op := Op.fieldAddr 92 (Operand.tmp 40) 1, type := 0, pos := "l1_disk.go:273", after := #[{ on := 7, ground := Ground.data }, { on := 0, ground := Ground.phase }, { on := 1, ground := Ground.phase }, { on := 2, ground := Ground.phase }, { on := 3, ground := Ground.phase }, { on := 4, ground := Ground.phase }, { on := 5, ground := Ground.phase }, { on := 6, ground := Ground.phase }], guard := none }) (v := ?_) rfl (by kernel_rfl) (by kernel_rfl) (by kernel_rfl) (fun _ _ _ h => h) (Or.inl ⟨by rfl, ?_⟩) (by assumption) ?_
        rotate_left 1
        · intro w hSw; (try dsimp only at hSw); go_simp; try (with_reducible rfl)
        try simp only [Act.put, List.setIfInBounds_toArray, List.set_cons_zero, List.set_cons_succ]
        refine wpAnyH_ready (rs := [9]) (by kernel_rfl) (by simp) ?_
        refine AllReadyH.cons (o := { dst := none, op := Op.store 22 (Operand.tmp 41) (Operand.tmp 39), type := 0, pos := "l1_disk.go:273", after := #[{ on := 8, ground := Ground.data }, { on := 6, ground := Ground.data }, { on := 6, ground := Ground.chain }, { on := 0, ground := Ground.phase }, { on := 1, ground := Ground.phase }, { on := 2, ground := Ground.phase }, { on := 3, ground := Ground.phase }, { on := 4, ground := Ground.phase }, { on := 5, ground := Ground.phase }, { on := 6, ground := Ground.phase }], guard := none }) rfl (fun K hK => ?_) ?_
        rotate_left 1
        exact AllReadyH.nil
        go_simp
        refine hK.out _ _ trivial (fun hHeld => ?_)
        clear hK K
        try simp only [Act.put, List.setIfInBounds_toArray, List.set_cons_zero, List.set_cons_succ]
        refine wpAnyH_done (by kernel_rfl) ?_ _
        refine NoPanic.normal ?_
        have e6 := someF_set hi HPG.out
        rw [← HOLD.out] at e6
        rw [e6] at hO5
        have hGb : w2.heap.size ≤ G := (HOF4.out.row.lt G rfl).1
        have hBE : Below w2.heap.size w2 (w5.setCell ⟨G, i * 2 + 1, none⟩ (.slice ua (old.length + 128) uc)) := ((HB4.out.grown hE5.grown HB4.out.size (fun k e => ((HOF4.out.data i HIX.out).lt k e).1)).setCell (p := ⟨G, i * 2 + 1, none⟩) hGb _)
        have HBE : Hid (Below w2.heap.size w2 (w5.setCell ⟨G, i * 2 + 1, none⟩ (.slice ua (old.length + 128) uc))) := hBE
        obtain ⟨i', j', XS', VS', HT', hcase', HO'⟩ : ∃ (i' j' : Nat) (XS' VS' : List Value), Hid (t + 1 = cntF L i' + j') ∧ Hid ((i' < L.length ∧ j' < pagesN L i') ∨ (i' = L.length ∧ j' = 0)) ∧ Hid (OwnF (w5.setCell ⟨G, i * 2 + 1, none⟩ (.slice ua (old.length + 128) uc)) w2.heap.size (.slice (some ⟨G, 0, none⟩) (i + 1) CAP) (curF L i' j') XS' VS') := by
          have htc := HTC.out
          by_cases hlast : j + 1 = pagesN L i
          · refine ⟨i + 1, 0, XS.set (i * 2 + 1) (.slice ua (old.length + 128) uc), VS.set i (.slice ua (old.length + 128) uc), ?_, ?_, ?_⟩
            · show _ = _
              rw [cntF_succ hi]; omega
            · show _ ∨ _
              by_cases hl : i + 1 < L.length
              · refine .inl ⟨hl, ?_⟩
                have := (HI.out.pg _ hl).1
                unfold pagesN
                omega
              · exact .inr ⟨by omega, rfl⟩
            · rw [curF_next HI.out hi hlast] at hO5
              exact hO5
          · refine ⟨i, j + 1, XS.set (i * 2 + 1) (.slice ua (old.length + 128) uc), VS.set i (.slice ua (old.length + 128) uc), ?_, ?_, ?_⟩
            · show _ = _
              omega
            · exact .inl ⟨hi, by omega⟩
            · rw [curF_step] at hO5
              exact hO5
        clear hO5 hE5 hown5 hgr5 hlies5 hc5 hf5 hBE e6 hGb
        go_wp2
        go_roundw
        case rel => exact ⟨t + 1, i', j', XS', VS', by omega, by go_num, HT'.out, hcase'.out, HO', HBE⟩
        case measure => simp [intOf]; omega
    · have hend : i = L.length ∧ j = 0 := by
        rcases hcase with ⟨h1, h2⟩ | h
        · have := cntF_le h1
          have := HMM.out
          omega
        · exact h
      obtain ⟨rfl, rfl⟩ := hend
      have HL : Hid (curF L L.length 0 = L) := by show _ = _; unfold curF; rw [if_pos rfl, List.take_length]
      clear htc hcase
      go_wp2
      go_ret
      refine ⟨_, xs, vs, rfl, ?_, HG2.out.trans (HB.out.mono hz2')⟩
      have := HO.out.lower hz2'
      rw [HL.out] at this
      exact this
end Go.Proofs.Ytakdaandbdbdnaa
namespace Go.Proofs.Ytakdaandbdbdnaa
open Go.RowKit Go.Maps
set_option linter.unusedVariables false
set_option maxRecDepth 100000

set_option maxHeartbeats 3200000 in
theorem syncChange (fs : List PF) (ps : List PP) (cp : Int) (de : Bool) (w : World) (hn : fs.length ≤ 12) (hm : ps.length ≤ 1000) (hcp : cp ≤ 1000) (htot : totalI fs ≤ cp) (hca : cacheS cp ps fs = true) (hok : filesOk fs = true) :
    ChangeOk 54 #[] w fs (lastF ps fs) ps [] cp de := by
  intro W O fu a1 c1 b1 d1 xs vs ys us hbel hO XO own hlt
  have hOl := (Array.getElem?_eq_some_iff.1 XO).1
  have hWs := hbel.size
  obtain ⟨a', n', c', e1, _, hF⟩ := own.files.files
  cases e1
  obtain ⟨b', m', d', e2, _, hP⟩ := own.cache.pends
  cases e2
  have HI : Hid (Inv fs) := inv_all hok
  have HS : Hid (SortedN (lastF ps fs)) := last_sorted ps fs (sortedN_of_ok (of_decide_eq_true hok))
  have HFIT : Hid ((lastF ps fs).length ≤ 12 ∧ totalI (lastF ps fs) ≤ cp) := last_fits ps fs hn htot hca
  have HNM : Hid (∀ f ∈ lastF ps fs, f.1.size ≤ maxLen) := last_names ps fs (fun f hf => by
    obtain ⟨i, hi, rfl⟩ := List.getElem_of_mem hf
    have := (own.files.name i hi).2
    simpa [List.getD, List.getElem?_eq_getElem hi] using this) hca
  have HSM : Hid (∀ f ∈ lastF ps fs, f.2.length ≤ 1048576) := fun f hf => by
    obtain ⟨i, hi, rfl⟩ := List.getElem_of_mem hf
    have := small_of_total (fs := lastF ps fs) (by have := HFIT.out.2; omega) i hi
    simp only [List.getD, List.getElem?_eq_getElem hi, Option.getD_some] at this
    omega
  obtain ⟨o0, o1, o2, o3, o4⟩ := box_fiveC XO
  show Calls Try.prog 54 #[.pointer (some ⟨O, 0, none⟩)] W _
  go_enter Try.func54, Try.ntmps54
  go_wp2_with fail
  refine (see_any a1 fs.length c1 fs b1 ps.length d1 ps cp fu de W (w.heap.size + 2) W.heap.size (Nat.le_refl _) hF hP hn hm hcp htot hca HI.out).mono ?_
  rintro e w2 ⟨mb, q, D, rfl, hmb, hM, hq, hR, hBF, hI2, hb2⟩
  have hs2 := hb2.size
  clear o0 o1 o2 o3 o4
  go_wp2_with fail
  refine (files_any mb q D (lastF ps fs) w2 hM hR HS.out hI2 hBF HFIT.out.1 HNM.out HSM.out (Nat.le_trans (World.ownsMap.size_le hM) (by omega))).mono ?_
  rintro e w3 ⟨v, xs3, vs3, rfl, O3, hb3⟩
  obtain ⟨av, nv, cv, rfl, hnv, _⟩ := O3.files
  have hs3 := hb3.size
  have XO3 := (hb3.block O (by omega)).trans ((hb2.block O hOl).trans XO)
  obtain ⟨o0, o1, o2, o3, o4⟩ := box_fiveC XO3
  have fo := box_thawC XO3
  have XO4 := heap_setCell_at XO3 0 (.slice av nv cv)
  have fo4 := box_thawC XO4
  clear hM hR hBF hI2
  subst hnv
  have XO5 := heap_setCell_at XO4 1 (.slice none 0 0)
  have hset : Fr (fun g => g = O) w3 ((w3.setCell ⟨O, 0, none⟩ (.slice av (lastF ps fs).length cv)).setCell ⟨O, 1, none⟩ (.slice none 0 0)) := (fr_setCell w3 O 0 _).trans (fr_setCell _ O 1 _)
  have hF6 : OwnF ((w3.setCell ⟨O, 0, none⟩ (.slice av (lastF ps fs).length cv)).setCell ⟨O, 1, none⟩ (.slice none 0 0)) (w.heap.size + 2) (.slice av (lastF ps fs).length cv) (lastF ps fs) xs3 vs3 := (O3.fr hset (fun g hg e => by have := (O3.blk hg).1; omega)).lower (by omega)
  have hD6 : OwnD ((w3.setCell ⟨O, 0, none⟩ (.slice av (lastF ps fs).length cv)).setCell ⟨O, 1, none⟩ (.slice none 0 0)) (w.heap.size + 2) (.slice av (lastF ps fs).length cv) (.slice none 0 0) (lastF ps fs) [] xs3 vs3 [] [] := ⟨hF6, OwnP.nil (World.ownsRow_nil _ _ _ _), fun g _ hb => by
    rcases hb with e | ⟨j, hj, _⟩
    · simp [Value.ownBlock] at e
    · simp at hj⟩
  have hFr : Fr (fun g => g = O ∨ (Blk (.slice a1 fs.length c1) vs g ∨ Blk (.slice b1 ps.length d1) us g)) W ((w3.setCell ⟨O, 0, none⟩ (.slice av (lastF ps fs).length cv)).setCell ⟨O, 1, none⟩ (.slice none 0 0)) := ((Fr.of_below hb2).trans (Fr.of_below hb3)).trans (hset.weak (fun g e => .inl e))
  clear hF6 hset O3 hF hP
  go_wp2
  exact bodyPost_end (v := .tuple #[]) (by simp [results, Try.results54, go_sem]) rfl ⟨rfl, lastF ps fs, [], av, cv, none, 0, xs3, vs3, [], [], ⟨rfl, rfl⟩, XO5, hD6, hFr⟩
end Go.Proofs.Ytakdaandbdbdnaa
