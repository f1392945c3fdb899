import Derived.Test.YtmmdkjeoadlikaaRd
import Derived.Test.YtmmdkjeoadlikaaWd
import Derived.Test.YtmmdkjeoadlikaaWdN
import Derived.Test.YtmmdkjeoadlikaaJR1
import Derived.Test.YtmmdkjeoadlikaaJN2
import Derived.Test.YtmmdkjeoadlikaaLay
import Derived.Shelf.SlSortCmp.WholeK
import Derived.Deep.QuietTactic
import Derived.BigQuiet
namespace Go.Proofs.Ytmmdkjeoadlikaa
open Go.RowKit
open Go.Sort (flatK size_flatK get_flatK putRowK HoldsK PermIn SortedIn SWO)
set_option linter.unusedVariables false
set_option maxRecDepth 100000

def cfV (x y : NV) : Int := cmpB x.2.1 y.2.1
theorem ltV (x y : NV) : ltOf cfV x y = decide (x.2.1.toList < y.2.1.toList) := by
  unfold ltOf cfV cmpB
  rw [bytesLess_eq, bytesLess_eq]
  by_cases h1 : x.2.1.toList < y.2.1.toList
  · simp [h1]
  · by_cases h2 : y.2.1.toList < x.2.1.toList <;> simp [h1, h2]
theorem swoV : SWO (ltOf cfV) where
  irrefl x := by rw [ltV]; exact decide_eq_false (List.lt_irrefl _)
  trans x y z h1 h2 := by
    rw [ltV] at *
    exact decide_eq_true (List.lt_trans (of_decide_eq_true h1) (of_decide_eq_true h2))
  ntrans x y z h1 h2 := by
    rw [ltV] at *
    have h1' := of_decide_eq_false h1
    have h2' := of_decide_eq_false h2
    refine decide_eq_false fun h => ?_
    rcases lt_or_eqL h1' with h3 | h3
    · exact h2' (List.lt_trans h3 h)
    · rw [h3] at h2'; exact h2' h
theorem cmpLaysV (blk off size : Nat) (w : World) : CmpLays Try.prog 61 #[] encV 2 cfV blk off size w :=
  fun _ _ _ _ x y => compareFiles_any x.2.1 y.2.1 _ _ _ _ _ _ _
/-- The parts of a slice. -/
def partsV : Value → Option Addr × Nat × Nat
  | .slice a n c => (a, n, c)
  | _ => (none, 0, 0)
def nvOf (fs : List PF) (vs : List Value) (j : Nat) : NV := (j, (fs.getD j (ByteArray.empty, [])).1, partsV (vs.getD j (.slice none 0 0)))
theorem enc_nv {w : World} {base : Nat} {v : Value} {fs : List PF} {xs vs : List Value} (h : OwnF w base v fs xs vs) {j : Nat} (hj : j < fs.length) : encV (nvOf fs vs j) = cellsK xs j := by
  obtain ⟨a, c, e⟩ := own_shape (h.data j hj)
  have h1 := (h.name j hj).1
  have h2 := h.val j hj
  rw [e] at h2
  unfold cellsK
  rw [getD_some h1, getD_some h2]
  simp only [encV, nvOf, partsV, e]
theorem perm_first {n : Nat} {F : Nat → NV} (hF : ∀ j, (F j).1 = j) {l : List NV} (hp : l.Perm ((List.range n).map F)) : (l.map (·.1)).Perm (List.range n) ∧ ∀ x ∈ l, x.1 < n ∧ x = F x.1 := by
  refine ⟨?_, fun x hx => ?_⟩
  · have := hp.map (fun x : NV => x.1)
    rw [List.map_map] at this
    rwa [show (fun x : NV => x.1) ∘ F = id from funext hF, List.map_id] at this
  · obtain ⟨j, hj, rfl⟩ := List.mem_map.1 (hp.mem_iff.1 hx)
    rw [hF]
    exact ⟨by simpa using hj, rfl⟩
set_option maxHeartbeats 1000000 in
theorem sortFiles_own (g n c : Nat) (fs : List PF) (xs vs : List Value) (base : Nat) (w : World) (h : OwnF w base (.slice (some ⟨g, 0, none⟩) n c) fs xs vs) (hn : n ≤ 1048576) :
    Calls Try.prog 60 #[.slice (some ⟨g, 0, none⟩) n c, .func (.func 61) #[] #[]] w fun e w' => e = .returned (.tuple #[]) ∧ ∃ (C : List PF) (xs' vs' : List Value), C.Perm fs ∧ (∀ i j (hij : i < j) (hj : j < C.length), ¬ (C[j]'hj).1.toList < (C[i]'(Nat.lt_trans hij hj)).1.toList) ∧ OwnF w' base (.slice (some ⟨g, 0, none⟩) n c) C xs' vs' ∧ (∀ x, Blk (.slice (some ⟨g, 0, none⟩) n c) vs' x → Blk (.slice (some ⟨g, 0, none⟩) n c) vs x) ∧ Fr (fun x => x = g) w w' := by
  obtain ⟨hnl, _, _⟩ := h.rowF
  subst hnl
  have hgl : g < w.heap.size := (h.row.lt g rfl).2
  obtain ⟨d, hd⟩ : ∃ d : Array NV, d = ((List.range fs.length).map (nvOf fs vs)).toArray := ⟨_, rfl⟩
  have hds : d.size = fs.length := by rw [hd]; simp
  have hdg : ∀ j, j < fs.length → d[j]! = nvOf fs vs j := fun j hj => by rw [getElem!_pos d j (by omega)]; simp [hd]
  have hH : HoldsK encV 2 w g 0 d := holds_own h.row d hds (fun j hj => by rw [hdg j hj]; exact enc_nv h hj)
  have eg : ∀ args w, (callFunc 61 args).run Try.prog w = .ok (.enter 61 args) w := enters_of Try.func61 (by kernel_rfl) rfl
  have hcon := AnyQ.slices_SortFunc lay_sortFiles 2 Try.isAgg83 Try.sizeOf83 encV (fun _ => rfl) (fun x v hv => by simp [encV] at hv; rcases hv with rfl | rfl <;> rfl) cfV swoV 61 #[] g 0 c d w eg (cmpLaysV g 0 d.size w) hH hgl (by omega)
  change Calls Try.prog 60 _ _ _ at hcon
  rw [hds] at hcon
  refine hcon.mono ?_
  rintro e w' ⟨rfl, d', m, os, hp, hs, rfl⟩
  have hsz : d'.size = fs.length := hp.1.trans hds
  have hpl : d'.toList.Perm ((List.range fs.length).map (nvOf fs vs)) := by
    have h3 := hp.2.2
    have e1 : d'.extract 0 fs.length = d' := by rw [← hsz]; simp
    have e2 : d.extract 0 fs.length = d := by rw [← hds]; simp
    rw [e1, e2] at h3
    rw [hd] at h3
    simpa using h3
  obtain ⟨hks, hel⟩ := perm_first (fun j => rfl) hpl
  obtain ⟨ks, hkd⟩ : ∃ ks, ks = d'.toList.map (fun x : NV => x.1) := ⟨_, rfl⟩
  rw [← hkd] at hks
  have hkl : ks.length = fs.length := by rw [hkd]; simp [hsz]
  have hkget : ∀ j, j < fs.length → ks.getD j 0 < fs.length ∧ d'[j]! = nvOf fs vs (ks.getD j 0) := fun j hj => by
    have hjd : j < d'.size := by omega
    have hmem : d'[j] ∈ d'.toList := by simp
    have h5 := hel _ hmem
    have h6 : ks.getD j 0 = (d'[j]).1 := by rw [hkd]; simp [List.getD, hjd]
    rw [h6, getElem!_pos d' j hjd]
    exact h5
  have hkn : ks.Nodup := hks.symm.pairwise List.nodup_range (fun h => h.symm)
  have hklt : ∀ k ∈ ks, k < fs.length := fun k hk => by simpa using hks.mem_iff.1 hk
  have hfr := fr_sortWorld encV 2 w g 0 m d' os
  have hrow := own_sortWorld h.row d' hsz m os ks hkl (fun j hj => by rw [(hkget j hj).2]; exact enc_nv h (hkget j hj).1)
  have hpick := h.pick (w' := sortWorldK encV 2 w g 0 m d' os) (v' := .slice (some ⟨g, 0, none⟩) fs.length c) ks hkn hklt (fun j hj => owns_fr (h.data j hj) hfr (fun x e e2 => by
    rcases own_ne h.row (h.data j hj) with h1 | h1
    · rw [h1] at e; cases e
    · exact h1 (by rw [e, e2]; rfl))) (by rw [hkl]; exact hrow)
  refine ⟨rfl, _, _, _, ?_, ?_, hpick, blk_pick h.len hklt (fun x e => e), hfr⟩
  · have h7 := hks.map (fun k => fs.getD k (ByteArray.empty, []))
    refine h7.trans (List.Perm.of_eq ?_)
    apply List.ext_getElem?
    intro i
    by_cases hi : i < fs.length
    · simp [hi, List.getD]
    · simp [hi]
  · intro i j hij hj
    have hj' : j < fs.length := by simpa [hkl] using hj
    have h8 := hs i j (Nat.zero_le _) hij (by omega)
    rw [(hkget i (by omega)).2, (hkget j hj').2, ltV] at h8
    have h9 := of_decide_eq_false h8
    have hji : j < ks.length := by omega
    have hii : i < ks.length := by omega
    simp only [nvOf, List.getD, List.getElem?_eq_getElem hji, List.getElem?_eq_getElem hii, Option.getD_some] at h9
    simpa [List.getD] using h9
end Go.Proofs.Ytmmdkjeoadlikaa
namespace Go.Proofs.Ytmmdkjeoadlikaa
open Go.RowKit
set_option linter.unusedVariables false
set_option maxRecDepth 100000

/-- The files while a name is put in the place of another. -/
def stR (fr to : ByteArray) (A : List PF) (j : Nat) : List PF := (A.take j).map (renOne fr to) ++ A.drop j
theorem stR_zero (fr to : ByteArray) (A : List PF) : stR fr to A 0 = A := by simp [stR]
theorem stR_all (fr to : ByteArray) (A : List PF) : stR fr to A A.length = A.map (renOne fr to) := by simp [stR]
theorem stR_len (fr to : ByteArray) (A : List PF) (j : Nat) : (stR fr to A j).length = A.length := by simp [stR]; omega
theorem stR_get (fr to : ByteArray) (A : List PF) (j : Nat) (h : j < A.length) : (stR fr to A j).getD j (ByteArray.empty, []) = A.getD j (ByteArray.empty, []) := by
  simp only [stR, List.getD]
  rw [List.getElem?_append_right (by simp; omega)]
  simp [show min j A.length = j by omega]
theorem stR_succ (fr to : ByteArray) (A : List PF) (j : Nat) (h : j < A.length) : stR fr to A (j + 1) = (stR fr to A j).set j (renOne fr to (A.getD j (ByteArray.empty, []))) := by
  have e : (A.take (j + 1)).map (renOne fr to) = (A.take j).map (renOne fr to) ++ [renOne fr to (A.getD j (ByteArray.empty, []))] := by
    rw [List.take_succ_eq_append_getElem h, List.map_append]
    simp only [List.map_cons, List.map_nil, List.getD, List.getElem?_eq_getElem h, Option.getD_some]
  have el : ((A.take j).map (renOne fr to)).length = j := by simp; omega
  unfold stR
  rw [e, List.drop_eq_getElem_cons h, List.set_append_right _ _ (by rw [el]; exact Nat.le_refl _), el, Nat.sub_self]
  simp only [List.set_cons_zero, List.append_assoc, List.singleton_append]
theorem stR_yes (fr to : ByteArray) (A : List PF) (j : Nat) (h : j < A.length) (hs : (A.getD j (ByteArray.empty, [])).1 = fr) : stR fr to A (j + 1) = (stR fr to A j).set j (to, ((stR fr to A j).getD j (ByteArray.empty, [])).2) := by
  rw [stR_succ _ _ _ _ h, stR_get _ _ _ _ h]
  simp only [renOne, hs, if_true]
theorem stR_no (fr to : ByteArray) (A : List PF) (j : Nat) (h : j < A.length) (hs : ¬ (A.getD j (ByteArray.empty, [])).1 = fr) : stR fr to A (j + 1) = stR fr to A j := by
  rw [stR_succ _ _ _ _ h, show renOne fr to (A.getD j (ByteArray.empty, [])) = (stR fr to A j).getD j (ByteArray.empty, []) by rw [stR_get _ _ _ _ h]; simp only [renOne, hs, if_false]]
  have hl := stR_len fr to A j
  simp only [List.getD, List.getElem?_eq_getElem (show j < (stR fr to A j).length by omega), Option.getD_some, List.set_getElem_self]
theorem own_len {w : World} {base : Nat} {a : Option Addr} {n c : Nat} {fs : List PF} {xs vs : List Value} (h : OwnF w base (.slice a n c) fs xs vs) : n = fs.length := h.rowF.1
theorem remF_pos {fs : List PF} {fr to : ByteArray} (hf : findN fs fr < fs.length) (hne : fr ≠ to) : 0 < (remF fs to).length := by
  have h1 := List.findIdx_getElem (w := hf)
  have h2 : (fs[findN fs fr]'hf).1 = fr := of_decide_eq_true (show decide ((fs[findN fs fr]'hf).1 = fr) = true from h1)
  have hm : fs[findN fs fr]'hf ∈ remF fs to := List.mem_filter.2 ⟨List.getElem_mem hf, by simp [h2, hne]⟩
  exact List.length_pos_of_mem hm
set_option maxHeartbeats 6400000 in
theorem renameChange (fr to : ByteArray) (hto : to.size ≤ maxLen) (N1 N2 : Nat) (fs : List PF) (hfs : fs.length ≤ 1048576) (hsn : SortedN fs) (hf : findN fs fr < fs.length) (hne : fr ≠ to) (ps : List PP) (cp : Int) (de : Bool) (w : World)
    (x1 : w.heap[N1]? = some (.cells #[.string to] 9)) (x2 : w.heap[N2]? = some (.cells #[.string fr] 9)) :
    ChangeOk 58 #[.pointer (some ⟨N1, 0, none⟩), .pointer (some ⟨N2, 0, none⟩)] w fs (renF fs fr to) ps ps cp de := by
  intro W O fu a1 c1 b1 d1 xs vs ys us hbel hO XO own hlt
  obtain ⟨base, hbase⟩ : ∃ base, base = w.heap.size + 2 := ⟨_, rfl⟩
  rw [← hbase] at own
  have l1 := (Array.getElem?_eq_some_iff.1 x1).1
  have l2 := (Array.getElem?_eq_some_iff.1 x2).1
  have hOl := (Array.getElem?_eq_some_iff.1 XO).1
  have hWs := hbel.size
  have y1 := (hbel.block N1 l1).trans x1
  have y2 := (hbel.block N2 l2).trans x2
  have hbw : base ≤ W.heap.size := by omega
  have HKL : Hid ((remF fs to).length ≤ fs.length) := List.length_filter_le _ _
  have HKP : Hid (0 < (remF fs to).length) := remF_pos hf hne
  have S0 : W.cell? ⟨N1, 0, none⟩ = some (.string to) ∧ W.cell? ⟨N2, 0, none⟩ = some (.string fr) := by simp [World.cell?, y1, y2]
  have HSF : Hid (∀ (X Y : World) {F : Nat → Prop}, (X.cell? ⟨N1, 0, none⟩ = some (.string to) ∧ X.cell? ⟨N2, 0, none⟩ = some (.string fr)) → Fr F X Y → (∀ g, F g → base ≤ g) → Y.cell? ⟨N1, 0, none⟩ = some (.string to) ∧ Y.cell? ⟨N2, 0, none⟩ = some (.string fr)) := fun X Y F hX hF hB => ⟨(World.cell?_of_block (hF.block N1 (World.block_lt_of_cell? X ⟨N1, 0, none⟩ hX.1) (fun e => by have := hB N1 e; omega))).trans hX.1, (World.cell?_of_block (hF.block N2 (World.block_lt_of_cell? X ⟨N2, 0, none⟩ hX.2) (fun e => by have := hB N2 e; omega))).trans hX.2⟩
  clear x1 y1 x2 y2
  show Calls Try.prog 58 #[.pointer (some ⟨O, 0, none⟩), .pointer (some ⟨N1, 0, none⟩), .pointer (some ⟨N2, 0, none⟩)] W _
  go_enter Try.func58, Try.ntmps58
  go_wp2_with fail
  refine wp_region_noPanic ?_
  refine wp_region_held_drew (S := (fun w' => w'.cell? ⟨N1, 0, none⟩ = some (.string to))) (by kernel_rfl) ?_ (fun hHeld => ?_)
  · exact S0.1
  refine wpAnyH_take (i := 0) (oi := { dst := some 5, op := Op.move (Operand.tmp 0), type := 80, pos := "l1_disk.go:123", after := #[], guard := none }) (v := ?_) rfl (by kernel_rfl) (by kernel_rfl) (by kernel_rfl) (fun _ _ _ h => h) (Or.inl ⟨by rfl, ?_⟩) (by assumption) ?_
  rotate_left 1
  · intro w hSw; (try dsimp only at hSw); go_simp; try (with_reducible rfl)
  try simp only [Act.put, List.setIfInBounds_toArray, List.set_cons_zero, List.set_cons_succ]
  refine wpAnyH_take (i := 1) (oi := { dst := some 6, op := Op.move (Operand.tmp 0), type := 80, pos := "l1_disk.go:123", after := #[], guard := none }) (v := ?_) rfl (by kernel_rfl) (by kernel_rfl) (by kernel_rfl) (fun _ _ _ h => h) (Or.inl ⟨by rfl, ?_⟩) (by assumption) ?_
  rotate_left 1
  · intro w hSw; (try dsimp only at hSw); go_simp; try (with_reducible rfl)
  try simp only [Act.put, List.setIfInBounds_toArray, List.set_cons_zero, List.set_cons_succ]
  refine wpAnyH_take (i := 2) (oi := { dst := some 7, op := Op.nilCheck (Operand.tmp 6), type := 0, pos := "l1_disk.go:123", after := #[{ on := 1, ground := Ground.data }], guard := none }) (v := ?_) rfl (by kernel_rfl) (by kernel_rfl) (by kernel_rfl) (fun _ _ _ h => h) (Or.inl ⟨by rfl, ?_⟩) (by assumption) ?_
  rotate_left 1
  · intro w hSw; (try dsimp only at hSw); go_simp; try (with_reducible rfl)
  try simp only [Act.put, List.setIfInBounds_toArray, List.set_cons_zero, List.set_cons_succ]
  refine wpAnyH_take (i := 3) (oi := { dst := some 8, op := Op.fieldAddr 32 (Operand.tmp 7) 0, type := 0, pos := "l1_disk.go:123", after := #[{ on := 2, ground := Ground.data }], guard := none }) (v := ?_) rfl (by kernel_rfl) (by kernel_rfl) (by kernel_rfl) (fun _ _ _ h => h) (Or.inl ⟨by rfl, ?_⟩) (by assumption) ?_
  rotate_left 1
  · intro w hSw; (try dsimp only at hSw); go_simp; try (with_reducible rfl)
  try simp only [Act.put, List.setIfInBounds_toArray, List.set_cons_zero, List.set_cons_succ]
  refine wpAnyH_take (i := 5) (oi := { dst := some 10, op := Op.load 9 (Operand.tmp 1), type := 9, pos := "l1_disk.go:123", after := #[], guard := none }) (v := ?_) rfl (by kernel_rfl) (by kernel_rfl) (by kernel_rfl) (fun _ _ _ h => h) (Or.inl ⟨by rfl, ?_⟩) (by assumption) ?_
  rotate_left 1
  · intro w hSw; (try dsimp only at hSw); go_simp; try (with_reducible rfl)
  try simp only [Act.put, List.setIfInBounds_toArray, List.set_cons_zero, List.set_cons_succ]
  refine wpAnyH_ready (rs := [4]) (by kernel_rfl) (by simp) ?_
  refine AllReadyH.cons (o := { dst := some 9, op := Op.load 29 (Operand.tmp 8), type := 29, pos := "l1_disk.go:123", after := #[{ on := 3, ground := Ground.data }], guard := none }) rfl (fun K hK => ?_) ?_
  rotate_left 1
  exact AllReadyH.nil
  · obtain ⟨o0, o1, o2, o3, o4⟩ := box_fiveC XO
    go_simp
    clear o0 o1 o2 o3 o4
    refine hK.out _ _ S0.1 (fun hHeld => ?_)
    clear hK K
    try simp only [Act.put, List.setIfInBounds_toArray, List.set_cons_zero, List.set_cons_succ]
    refine wpAnyH_ready (rs := [6]) (by kernel_rfl) (by simp) ?_
    refine AllReadyH.cons (o := { dst := some 11, op := Op.call { callee := Callee.value (Operand.func 59), args := #[Operand.tmp 9, Operand.tmp 10], argTypes := #[29, 9] }, type := 29, pos := "l1_disk.go:123", after := #[{ on := 4, ground := Ground.data }, { on := 5, ground := Ground.data }], guard := none }) rfl (fun K hK => ?_) ?_
    rotate_left 1
    exact AllReadyH.nil
    · go_simp
      refine (withoutFile_own a1 fs.length c1 fs xs vs to base W.drew (own.files.below (Below.refl _ W).drew) hfs).mono ?_
      rintro e w2 ⟨xs2, vs2, rfl, own2, hsub, hF2x⟩
      have hF2 : Fr (fun x => (Value.slice a1 fs.length c1).ownBlock = some x) W w2 := (Fr.of_below (Below.refl _ W).drew).trans hF2x
      have hub : ∀ g, (Value.slice a1 fs.length c1).ownBlock = some g → base ≤ g ∧ g < O := fun g e => ⟨(own.files.row.lt g e).1, hlt g (.inl (.inl e))⟩
      have XO2 := (hF2.block O hOl (fun e => by have := (hub _ e).2; omega)).trans XO
      have hs2 := hF2.size
      have S2 := HSF.out _ _ S0 hF2 (fun g e => (hub g e).1)
      clear hF2x
      go_wp2_with fail
      refine hK.out _ _ S2.1 (fun hHeld => ?_)
      clear hK K
      try simp only [Act.put, List.setIfInBounds_toArray, List.set_cons_zero, List.set_cons_succ]
      refine wpAnyH_take (i := 7) (oi := { dst := some 12, op := Op.nilCheck (Operand.tmp 5), type := 0, pos := "l1_disk.go:123", after := #[{ on := 0, ground := Ground.data }, { on := 0, ground := Ground.phase }, { on := 1, ground := Ground.phase }, { on := 2, ground := Ground.phase }, { on := 3, ground := Ground.phase }, { on := 4, ground := Ground.phase }, { on := 5, ground := Ground.phase }, { on := 6, ground := Ground.phase }], guard := none }) (v := ?_) rfl (by kernel_rfl) (by kernel_rfl) (by kernel_rfl) (fun _ _ _ h => h) (Or.inl ⟨by rfl, ?_⟩) (by assumption) ?_
      rotate_left 1
      · intro w hSw; (try dsimp only at hSw); go_simp; try (with_reducible rfl)
      try simp only [Act.put, List.setIfInBounds_toArray, List.set_cons_zero, List.set_cons_succ]
      refine wpAnyH_take (i := 8) (oi := { dst := some 13, op := Op.fieldAddr 32 (Operand.tmp 12) 0, type := 0, pos := "l1_disk.go:123", after := #[{ on := 7, ground := Ground.data }, { on := 0, ground := Ground.phase }, { on := 1, ground := Ground.phase }, { on := 2, ground := Ground.phase }, { on := 3, ground := Ground.phase }, { on := 4, ground := Ground.phase }, { on := 5, ground := Ground.phase }, { on := 6, ground := Ground.phase }], guard := none }) (v := ?_) rfl (by kernel_rfl) (by kernel_rfl) (by kernel_rfl) (fun _ _ _ h => h) (Or.inl ⟨by rfl, ?_⟩) (by assumption) ?_
      rotate_left 1
      · intro w hSw; (try dsimp only at hSw); go_simp; try (with_reducible rfl)
      try simp only [Act.put, List.setIfInBounds_toArray, List.set_cons_zero, List.set_cons_succ]
      refine wpAnyH_ready (rs := [9]) (by kernel_rfl) (by simp) ?_
      refine AllReadyH.cons (o := { dst := none, op := Op.store 29 (Operand.tmp 13) (Operand.tmp 11), type := 0, pos := "l1_disk.go:123", after := #[{ on := 8, ground := Ground.data }, { on := 6, ground := Ground.data }, { on := 6, ground := Ground.chain }, { on := 0, ground := Ground.phase }, { on := 1, ground := Ground.phase }, { on := 2, ground := Ground.phase }, { on := 3, ground := Ground.phase }, { on := 4, ground := Ground.phase }, { on := 5, ground := Ground.phase }, { on := 6, ground := Ground.phase }], guard := none }) rfl (fun K hK => ?_) ?_
      rotate_left 1
      exact AllReadyH.nil
      · obtain ⟨o0, o1, o2, o3, o4⟩ := box_fiveC XO2
        have fo := box_thawC XO2
        go_simp
        clear o0 o1 o2 o3 o4 fo
        have S5 := HSF.out _ _ S2 (fr_setCell w2 O 0 (.slice a1 (remF fs to).length c1)) (fun g e => by omega)
        refine hK.out _ _ S5.1 (fun hHeld => ?_)
        clear hK K
        try simp only [Act.put, List.setIfInBounds_toArray, List.set_cons_zero, List.set_cons_succ]
        refine wpAnyH_done (by kernel_rfl) ?_ _
        refine NoPanic.normal ?_
        have hset := fr_setCell w2 O 0 (.slice a1 (remF fs to).length c1)
        have hca := own.cache.fr hF2 (fun g hg e => own.apart g (.inl e) hg)
        have hD : OwnD w2 base (.slice a1 (remF fs to).length c1) (.slice b1 ps.length d1) (remF fs to) ps xs2 vs2 ys us := ⟨own2, hca, fun g hg => own.apart g (hsub g hg)⟩
        have hp5 := hD.frS hset (fun g e hg => by have : g < O := hg.elim (fun x => hlt g (.inl (hsub g x))) (fun x => hlt g (.inr x)); omega)
        have XO5 : (w2.setCell ⟨O, 0, none⟩ (.slice a1 (remF fs to).length c1)).heap[O]? = some (.cells #[.slice a1 (remF fs to).length c1, .slice b1 ps.length d1, .int .i64 cp, .int .i64 fu, .bool de] 32) := heap_setCell_at XO2 0 (.slice a1 (remF fs to).length c1)
        have hFr : Hid (Fr (fun g => g = O ∨ (Blk (.slice a1 fs.length c1) vs g ∨ Blk (.slice b1 ps.length d1) us g)) W (w2.setCell ⟨O, 0, none⟩ (.slice a1 (remF fs to).length c1))) := (hF2.weak (fun g e => .inr (.inl (.inl e)))).trans (hset.weak (fun g e => .inl e))
        generalize (w2.setCell ⟨O, 0, none⟩ (.slice a1 (remF fs to).length c1)) = Z0 at hp5 XO5 hFr S5 ⊢
        have hsub' : ∀ g, Blk (.slice a1 (remF fs to).length c1) vs2 g ∨ Blk (.slice b1 ps.length d1) us g → base ≤ g ∧ g < O := fun g hg => ⟨(hp5.blk hg).1, hg.elim (fun x => hlt g (.inl (hsub g x))) (fun x => hlt g (.inr x))⟩
        have hOZ := (Array.getElem?_eq_some_iff.1 XO5).1
        obtain ⟨o0, o1, o2, o3, o4⟩ := box_fiveC XO5
        have HSUB : Hid (∀ g, Blk (.slice a1 (remF fs to).length c1) vs2 g → Blk (.slice a1 fs.length c1) vs g) := hsub
        have HSUB2 : Hid (∀ g, Blk (.slice a1 (remF fs to).length c1) vs2 g ∨ Blk (.slice b1 ps.length d1) us g → base ≤ g ∧ g < O) := hsub'
        have HP5 : Hid (OwnD Z0 base (.slice a1 (remF fs to).length c1) (.slice b1 ps.length d1) (remF fs to) ps xs2 vs2 ys us) := hp5
        have HXO : Hid (Z0.heap[O]? = some (.cells #[.slice a1 (remF fs to).length c1, .slice b1 ps.length d1, .int .i64 cp, .int .i64 fu, .bool de] 32)) := XO5
        have HS5 : Hid (Z0.cell? ⟨N1, 0, none⟩ = some (.string to) ∧ Z0.cell? ⟨N2, 0, none⟩ = some (.string fr)) := S5
        clear hset hca hD own2 hF2 XO2 own S2 S0 hub hsub hsub' hp5 XO5 S5 hlt XO hs2
        obtain ⟨A, hA⟩ : ∃ A, A = remF fs to := ⟨_, rfl⟩
        have HA : Hid (A = remF fs to) := hA
        rw [← hA] at HSUB HSUB2 HP5 HXO o0 ⊢
        clear hA
        obtain ⟨k, hk⟩ : ∃ k, k = A.length := ⟨_, rfl⟩
        have HKA : Hid (k = A.length) := hk
        have hk12 : k ≤ 1048576 := by have := HKL.out; rw [← HA.out] at this; omega
        rw [← hk] at HSUB HSUB2 HP5 HXO o0 ⊢
        clear hk
        have hkpos : 0 < k := by have := HKP.out; rw [← HA.out] at this; have := HKA.out; omega
        obtain ⟨g, rfl⟩ : ∃ g, a1 = some ⟨g, 0, none⟩ := by
          rcases HP5.out.files.row.2 with ⟨h0, h1⟩ | ⟨g, cap, cur, h0, _⟩
          · have := HKA.out; omega
          · injection h0 with h1; exact ⟨g, h1⟩
        go_wp2
        clear o0 o1 o2 o3 o4
        go_loopw [4, 19] (fun _ i wr => ∃ (j : Nat) (zs : List Value), j ≤ k ∧ i = .int .i64 j ∧ Hid (OwnF wr base (.slice (some ⟨g, 0, none⟩) k c1) (stR fr to A j) zs vs2) ∧ Hid (Fr (fun x => x = g) Z0 wr)) (fun _ i _ => k - (intOf i).toNat)
        case atStart => exact ⟨0, xs2, Nat.zero_le _, rfl, by rw [stR_zero]; exact HP5.out.files, Fr.refl _ _⟩
        case round =>
          obtain ⟨j, zs, hj, rfl, HO, HFr⟩ := hrel
          have hgO : base ≤ g ∧ g < O := HSUB2.out g (.inl (.inl rfl))
          have XOw := (HFr.out.block O hOZ (by omega)).trans HXO.out
          have n1 : wr.cell? ⟨N1, 0, none⟩ = some (.string to) := (World.cell?_of_block (HFr.out.block N1 (by omega) (by omega))).trans HS5.out.1
          have n2 : wr.cell? ⟨N2, 0, none⟩ = some (.string fr) := (World.cell?_of_block (HFr.out.block N2 (by omega) (by omega))).trans HS5.out.2
          obtain ⟨o0, o1, o2, o3, o4⟩ := box_fiveC XOw
          have hOw : O < wr.heap.size := by have := HFr.out.size; omega
          by_cases hlt : j < k
          · have hjA : j < A.length := by have := HKA.out; omega
            have hsl := stR_len fr to A j
            have hget := stR_get fr to A j hjA
            have hnm := (HO.out.name j (by omega)).1
            rw [hget] at hnm
            have hrw := HO.out.row
            rw [hsl, ← HKA.out] at hrw
            have e1 : wr.cell? ⟨g, j * 2, none⟩ = some (.string (A.getD j (ByteArray.empty, [])).1) := (hrw.cellAt (j * 2) (by omega)).trans hnm
            clear hrw
            have hgw : g < wr.heap.size := by omega
            have HGET : Hid ((stR fr to A j).getD j (ByteArray.empty, []) = A.getD j (ByteArray.empty, [])) := hget
            have HSL : Hid ((stR fr to A j).length = A.length) := hsl
            have HJ : Hid (j < A.length) := hjA
            clear hsl hget hnm hjA
            obtain ⟨x, hx⟩ : ∃ x, x = A.getD j (ByteArray.empty, []) := ⟨_, rfl⟩
            rw [← hx] at e1
            have HX : Hid (x = A.getD j (ByteArray.empty, [])) := hx
            clear hx
            by_cases hs : x.1 = fr
            · have hb2 := same_yes hs
              have HST : Hid (stR fr to A (j + 1) = (stR fr to A j).set j (to, ((stR fr to A j).getD j (ByteArray.empty, [])).2)) := stR_yes fr to A j HJ.out (by rw [← HX.out]; exact hs)
              clear hs
              go_wp2_with fail
              go_quiet (fail)
              have hdr : Below wr.heap.size wr (wr.drewN nq) := ⟨rfl, rfl, rfl, Nat.le_refl _, fun _ _ => rfl⟩
              have XOv := box_below XOw hdr
              have m1 : (wr.drewN nq).cell? ⟨N1, 0, none⟩ = some (.string to) := n1
              have O5 : Hid _ := HO.out.below hdr
              have F5 : Hid (Fr (fun x => x = g) Z0 (wr.drewN nq)) := HFr.out.trans (Fr.of_below hdr)
              have m3 : (wr.drewN nq).cell? ⟨g, j * 2, none⟩ = some (.string x.1) := e1
              clear o0 o1 o2 o3 o4 n1 n2 e1 XOw HO HFr hdr
              have hOv : O < (wr.drewN nq).heap.size := hOw
              have hgv : g < (wr.drewN nq).heap.size := hgw
              generalize wr.drewN nq = wv at XOv m1 O5 F5 m3 hOv hgv ⊢
              obtain ⟨o0, o1, o2, o3, o4⟩ := box_fiveC XOv
              go_wp2_with fail
              refine wp_region_noPanic ?_
              refine wp_region_held_drew (S := (fun w' => w'.cell? ⟨O, 0, none⟩ = some (.slice (some ⟨g, 0, none⟩) k c1) ∧ w'.cell? ⟨N1, 0, none⟩ = some (.string to))) (by kernel_rfl) ?_ (fun hHeld => ?_)
              · exact ⟨o0, m1⟩
              clear o0 o1 o2 o3 o4
              refine wpAnyH_take (i := 0) (oi := { dst := some 32, op := Op.move (Operand.tmp 0), type := 80, pos := "l1_disk.go:126", after := #[], guard := none }) (v := ?_) rfl (by kernel_rfl) (by kernel_rfl) (by kernel_rfl) (fun _ _ _ h => h) (Or.inl ⟨by rfl, ?_⟩) (by assumption) ?_
              rotate_left 1
              · intro w hSw; (try dsimp only at hSw); go_simp; try (with_reducible rfl)
              try simp only [Act.put, List.setIfInBounds_toArray, List.set_cons_zero, List.set_cons_succ]
              refine wpAnyH_take (i := 1) (oi := { dst := some 33, op := Op.nilCheck (Operand.tmp 32), type := 0, pos := "l1_disk.go:126", after := #[{ on := 0, ground := Ground.data }], guard := none }) (v := ?_) rfl (by kernel_rfl) (by kernel_rfl) (by kernel_rfl) (fun _ _ _ h => h) (Or.inl ⟨by rfl, ?_⟩) (by assumption) ?_
              rotate_left 1
              · intro w hSw; (try dsimp only at hSw); go_simp; try (with_reducible rfl)
              try simp only [Act.put, List.setIfInBounds_toArray, List.set_cons_zero, List.set_cons_succ]
              refine wpAnyH_take (i := 2) (oi := { dst := some 34, op := Op.fieldAddr 32 (Operand.tmp 33) 0, type := 0, pos := "l1_disk.go:126", after := #[{ on := 1, ground := Ground.data }], guard := none }) (v := ?_) rfl (by kernel_rfl) (by kernel_rfl) (by kernel_rfl) (fun _ _ _ h => h) (Or.inl ⟨by rfl, ?_⟩) (by assumption) ?_
              rotate_left 1
              · intro w hSw; (try dsimp only at hSw); go_simp; try (with_reducible rfl)
              try simp only [Act.put, List.setIfInBounds_toArray, List.set_cons_zero, List.set_cons_succ]
              refine wpAnyH_take (i := 3) (oi := { dst := some 35, op := Op.load 29 (Operand.tmp 34), type := 29, pos := "l1_disk.go:126", after := #[{ on := 2, ground := Ground.data }], guard := none }) (v := ?_) rfl (by kernel_rfl) (by kernel_rfl) (by kernel_rfl) (fun _ _ _ h => h) (Or.inl ⟨by rfl, ?_⟩) (by assumption) ?_
              rotate_left 1
              · intro w hSw; (try dsimp only at hSw); go_simp; try (with_reducible rfl)
              try simp only [Act.put, List.setIfInBounds_toArray, List.set_cons_zero, List.set_cons_succ]
              refine wpAnyH_take (i := 4) (oi := { dst := some 36, op := Op.move (Operand.tmp 4), type := 3, pos := "l1_disk.go:126", after := #[], guard := none }) (v := ?_) rfl (by kernel_rfl) (by kernel_rfl) (by kernel_rfl) (fun _ _ _ h => h) (Or.inl ⟨by rfl, ?_⟩) (by assumption) ?_
              rotate_left 1
              · intro w hSw; (try dsimp only at hSw); go_simp; try (with_reducible rfl)
              try simp only [Act.put, List.setIfInBounds_toArray, List.set_cons_zero, List.set_cons_succ]
              refine wpAnyH_take (i := 5) (oi := { dst := some 37, op := Op.load 9 (Operand.tmp 1), type := 9, pos := "l1_disk.go:126", after := #[], guard := none }) (v := ?_) rfl (by kernel_rfl) (by kernel_rfl) (by kernel_rfl) (fun _ _ _ h => h) (Or.inl ⟨by rfl, ?_⟩) (by assumption) ?_
              rotate_left 1
              · intro w hSw; (try dsimp only at hSw); go_simp; try (with_reducible rfl)
              try simp only [Act.put, List.setIfInBounds_toArray, List.set_cons_zero, List.set_cons_succ]
              refine wpAnyH_take (i := 6) (oi := { dst := some 38, op := Op.indexAddr 29 (Operand.tmp 35) (Operand.tmp 36), type := 0, pos := "l1_disk.go:126", after := #[{ on := 3, ground := Ground.data }, { on := 4, ground := Ground.data }, { on := 0, ground := Ground.phase }, { on := 1, ground := Ground.phase }, { on := 2, ground := Ground.phase }, { on := 3, ground := Ground.phase }, { on := 4, ground := Ground.phase }, { on := 5, ground := Ground.phase }], guard := none }) (v := ?_) rfl (by kernel_rfl) (by kernel_rfl) (by kernel_rfl) (fun _ _ _ h => h) (Or.inl ⟨by rfl, ?_⟩) (by assumption) ?_
              rotate_left 1
              · intro w hSw; (try dsimp only at hSw); go_simp; try (with_reducible rfl)
              try simp only [Act.put, List.setIfInBounds_toArray, List.set_cons_zero, List.set_cons_succ]
              refine wpAnyH_take (i := 7) (oi := { dst := some 39, op := Op.fieldAddr 83 (Operand.tmp 38) 0, type := 0, pos := "l1_disk.go:126", after := #[{ on := 6, ground := Ground.data }, { on := 0, ground := Ground.phase }, { on := 1, ground := Ground.phase }, { on := 2, ground := Ground.phase }, { on := 3, ground := Ground.phase }, { on := 4, ground := Ground.phase }, { on := 5, ground := Ground.phase }], guard := none }) (v := ?_) rfl (by kernel_rfl) (by kernel_rfl) (by kernel_rfl) (fun _ _ _ h => h) (Or.inl ⟨by rfl, ?_⟩) (by assumption) ?_
              rotate_left 1
              · intro w hSw; (try dsimp only at hSw); go_simp; try (with_reducible rfl)
              try simp only [Act.put, List.setIfInBounds_toArray, List.set_cons_zero, List.set_cons_succ]
              refine wpAnyH_ready (rs := [8]) (by kernel_rfl) (by simp) ?_
              refine AllReadyH.cons (o := { dst := none, op := Op.store 9 (Operand.tmp 39) (Operand.tmp 37), type := 0, pos := "l1_disk.go:126", after := #[{ on := 7, ground := Ground.data }, { on := 5, ground := Ground.data }, { on := 0, ground := Ground.phase }, { on := 1, ground := Ground.phase }, { on := 2, ground := Ground.phase }, { on := 3, ground := Ground.phase }, { on := 4, ground := Ground.phase }, { on := 5, ground := Ground.phase }], guard := none }) rfl (fun K hK => ?_) ?_
              rotate_left 1
              exact AllReadyH.nil
              · have hrw := O5.out.row
                rw [HSL.out, ← HKA.out] at hrw
                have f0 := hrw.frozenAt (j * 2)
                clear hrw
                obtain ⟨hR1, hR2⟩ := O5.out.rename (i := j) (nm := to) (by rw [HSL.out]; exact HJ.out) hto
                have hF5 := Fr.of_grown (S := fun x => x = g) hR2 (fun x e => by cases e; rfl)
                have q0 := (box_fiveC ((hF5.block O hOv (by omega)).trans XOv)).1
                have q1 : (wv.setCell ⟨g, j * 2, none⟩ (.string to)).cell? ⟨N1, 0, none⟩ = some (.string to) := (World.cell?_of_block (hF5.block N1 (by omega) (by omega))).trans m1
                go_simp
                refine hK.out _ _ ⟨q0, q1⟩ (fun hHeld => ?_)
                clear hK K
                try simp only [Act.put, List.setIfInBounds_toArray, List.set_cons_zero, List.set_cons_succ]
                refine wpAnyH_done (by kernel_rfl) ?_ _
                refine NoPanic.normal ?_
                have R : Hid (OwnF (wv.setCell ⟨g, j * 2, none⟩ (.string to)).drew base (.slice (some ⟨g, 0, none⟩) k c1) (stR fr to A (j + 1)) (zs.set (j * 2) (.string to)) vs2) := by show OwnF _ _ _ _ _ _; rw [HST.out]; exact hR1.below (Below.refl _ _).drew
                have RF : Hid (Fr (fun x => x = g) Z0 (wv.setCell ⟨g, j * 2, none⟩ (.string to)).drew) := (F5.out.trans hF5).trans (Fr.of_below (Below.refl _ _).drew)
                clear hR1 hR2 hF5 q0 q1 f0
                go_wp2
                go_roundw
                case rel => exact ⟨j + 1, _, by omega, by go_num, R, RF⟩
                case measure => simp [intOf]; omega
            · have hb2 := same_no hs
              have HST : Hid (stR fr to A (j + 1) = stR fr to A j) := stR_no fr to A j HJ.out (by rw [← HX.out]; exact hs)
              clear hs
              go_wp2_with fail
              go_quiet (fail)
              have hdr : Below wr.heap.size wr (wr.drewN nq) := ⟨rfl, rfl, rfl, Nat.le_refl _, fun _ _ => rfl⟩
              have R : Hid (OwnF (wr.drewN nq) base (.slice (some ⟨g, 0, none⟩) k c1) (stR fr to A (j + 1)) zs vs2) := by show OwnF _ _ _ _ _ _; rw [HST.out]; exact HO.out.below hdr
              have RF : Hid (Fr (fun x => x = g) Z0 (wr.drewN nq)) := HFr.out.trans (Fr.of_below hdr)
              clear o0 o1 o2 o3 o4 n1 n2 e1 XOw HO HFr hdr
              go_wp2
              go_roundw
              case rel => exact ⟨j + 1, _, by omega, by go_num, R, RF⟩
              case measure => simp [intOf]; omega
          · obtain rfl : j = k := by omega
            have hB : stR fr to A j = renB fs fr to := by rw [HKA.out, stR_all, HA.out]; rfl
            have HO2 := HO.out
            rw [hB] at HO2
            have hcall := sortFiles_own g j c1 _ _ _ base wr HO2 hk12
            clear hB HO2
            go_wp2_with fail
            refine hcall.mono ?_
            rintro e w7 ⟨rfl, C, xs7, vs7, hCp, hCs, own7, hsub7, hF7⟩
            have hC : C = renF fs fr to := ren_sort hsn hf hne hCp (sortedN_of_le hCs ((((renF_perm hsn hf hne).trans hCp.symm).map (fun f : PF => f.1)).pairwise (R := fun a b => a ≠ b) (sortedN_nodup (renF_sorted hsn)) (fun h => Ne.symm h)))
            subst hC
            have hlen : (renF fs fr to).length = j := (own_len own7).symm
            have hF8 : Fr (fun x => x = g) Z0 w7 := HFr.out.trans hF7
            have XO7 := (hF8.block O hOZ (by omega)).trans HXO.out
            have hFa : Fr (fun x => x = O ∨ (Blk (.slice (some ⟨g, 0, none⟩) fs.length c1) vs x ∨ Blk (.slice b1 ps.length d1) us x)) W w7 := hFr.out.trans (hF8.weak (fun x e => by rw [e]; exact .inr (.inl (HSUB.out g (.inl rfl)))))
            have hcache := HP5.out.cache.fr hF8 (fun x hx e => by subst e; exact HP5.out.apart x (.inl rfl) hx)
            have hD7 : OwnD w7 base (.slice (some ⟨g, 0, none⟩) j c1) (.slice b1 ps.length d1) (renF fs fr to) ps xs7 vs7 ys us := ⟨own7, hcache, fun x hx hx2 => HP5.out.apart x (hsub7 x hx) hx2⟩
            rw [← hlen] at XO7 hD7
            rw [hbase] at hD7
            clear hcall own7 hcache hsub7 hF7 hF8 HO HFr XOw o0 o1 o2 o3 o4 n1 n2
            go_wp2
            exact bodyPost_end (v := .tuple #[]) (by simp [results, Try.results58, go_sem]) rfl ⟨rfl, renF fs fr to, ps, _, c1, b1, d1, xs7, vs7, ys, us, ⟨rfl, rfl⟩, XO7, hD7, hFa⟩
end Go.Proofs.Ytmmdkjeoadlikaa
namespace Go.Proofs.Ytmmdkjeoadlikaa
open Go.RowKit
set_option linter.unusedVariables false
set_option maxRecDepth 100000
/-- What the program says to a rename: 0 or 1. -/
def rnI (fs : List PF) (ps : List PP) (cp fu : Int) (de : Bool) (fr to : ByteArray) : Int := if nameB to = true ∧ fr ≠ to then rfI fs ps cp fu de fr else 1
theorem rnI_zero {fs : List PF} {ps : List PP} {cp fu : Int} {de : Bool} {fr to : ByteArray} (h : rnI fs ps cp fu de fr to = 0) : fr ≠ to ∧ SortedN fs ∧ findN fs fr < fs.length := by
  unfold rnI at h
  by_cases h1 : nameB to = true ∧ fr ≠ to
  · rw [if_pos h1] at h
    unfold rfI at h
    by_cases h2 : de = false ∧ ps.length = 0 ∧ implV fs ps cp fu = true ∧ findN fs fr < fs.length
    · have h3 := h2.2.2.1
      simp only [implV, Bool.and_eq_true] at h3
      exact ⟨h1.2, sortedN_of_ok (of_decide_eq_true h3.1.1.2), h2.2.2.2⟩
    · rw [if_neg h2] at h; omega
  · rw [if_neg h1] at h; omega
theorem four_allocs {w : World} {x0 x1 x2 x3 : Obj} {W0 : World} (h : W0 = (((w.alloc x0).alloc x1).alloc x2).alloc x3) : W0.heap.size = w.heap.size + 4 ∧ Below w.heap.size w W0 ∧ W0.heap[w.heap.size]? = some x0 ∧ W0.heap[w.heap.size + 1]? = some x1 ∧ W0.heap[w.heap.size + 1 + 1]? = some x2 ∧ W0.heap[w.heap.size + 1 + 1 + 1]? = some x3 := by
  subst h
  have z : ∀ (X : World) (x : Obj), (X.alloc x).heap.size = X.heap.size + 1 := fun X x => by simp
  refine ⟨by simp, ((((Below.refl _ _).alloc (Nat.le_refl _) _).alloc (by simp only [z]; omega) _).alloc (by simp only [z]; omega) _).alloc (by simp only [z]; omega) _, ?_, ?_, ?_, ?_⟩
  · rw [heap_alloc_old _ _ (by simp only [z]; omega), heap_alloc_old _ _ (by simp only [z]; omega), heap_alloc_old _ _ (by simp only [z]; omega)]; exact heap_alloc_new _ _
  · rw [heap_alloc_old _ _ (by simp only [z]; omega), heap_alloc_old _ _ (by simp only [z]; omega)]; have := heap_alloc_new (w.alloc x0) x1; rwa [z] at this
  · rw [heap_alloc_old _ _ (by simp only [z]; omega)]; have := heap_alloc_new ((w.alloc x0).alloc x1) x2; rwa [z, z] at this
  · have := heap_alloc_new (((w.alloc x0).alloc x1).alloc x2) x3; rwa [z, z, z] at this
set_option maxHeartbeats 1600000 in
theorem implRename_any (a : Option Addr) (n c : Nat) (fs : List PF) (b : Option Addr) (m d : Nat) (ps : List PP) (cp fu : Int) (de : Bool) (fr to : ByteArray) (w : World) (A B : Nat) (hB : B ≤ w.heap.size) (hF : FilesAt w A B a n c fs) (hP : PendsAt w A B b m d ps) (hsf : fr.size ≤ maxLen) (hst : to.size ≤ maxLen) (hfu : -9223372036854775808 ≤ fu ∧ fu ≤ 9223372036854775807)
    (hn : n ≤ 1048576) (hm : m ≤ 1048576) (hall : ∀ j, j < n → (fs.getD j (ByteArray.empty, [])).2.length ≤ 1048576) (hall2 : ∀ j, j < m → (ps.getD j (ByteArray.empty, 0, [])).2.2.length ≤ 1048576) :
    Calls Try.prog 23 #[.agg #[.slice a n c, .slice b m d, .int .i64 cp, .int .i64 fu, .bool de], .string fr, .string to] w fun e w' => ResAt w e w' (dsE (rnI fs ps cp fu de fr to) fu) (dsX (rnI fs ps cp fu de fr to) fu fs (renF fs fr to)) (dsX (rnI fs ps cp fu de fr to) fu ps ps) cp (dsF (rnI fs ps cp fu de fr to) fu) (dsD (rnI fs ps cp fu de fr to) fu de) := by
  have HF : Hid (∀ W, Below w.heap.size w W → FilesAt W A B a n c fs) := fun W hW => hF.below (hW.mono hB)
  have HP : Hid (∀ W, Below w.heap.size w W → PendsAt W A B b m d ps) := fun W hW => hP.below (hW.mono hB)
  have HA : Hid (∀ j, j < n → (fs.getD j (ByteArray.empty, [])).2.length ≤ 1048576) := hall
  have HA2 : Hid (∀ j, j < m → (ps.getD j (ByteArray.empty, 0, [])).2.2.length ≤ 1048576) := hall2
  have HFL : Hid (fs.length = n) := hF.1
  clear hF hP hall hall2
  go_enter Try.func23, Try.ntmps23
  go_wp2_with fail
  obtain ⟨W0, hW0⟩ : ∃ W0, W0 = ((((w.alloc (.cells #[.slice a n c, .slice b m d, .int .i64 cp, .int .i64 fu, .bool de] 32)).alloc (.cells #[.string fr] 9)).alloc (.cells #[.string to] 9)).alloc (.cells #[.int .i64 0, .slice none 0 0, .slice none 0 0, .int .i64 0, .int .i64 0, .bool false] 40)) := ⟨_, rfl⟩
  obtain ⟨hs0, hb0, k0, k1, k2, k3⟩ := four_allocs hW0
  rw [← hW0]
  clear hW0
  refine (refuseFile_any a n c fs b m d ps cp fu de fr W0 A B (by omega) (HF.out _ hb0) (HP.out _ hb0) hsf HA.out).mono ?_
  rintro e w1 ⟨rfl, hb1⟩
  have hs1 := hb1.size
  have bel1 : Below w.heap.size w w1 := hb0.trans (hb1.mono (by omega))
  have j0 := (hb1.block _ (by omega)).trans k0
  have j1 := (hb1.block _ (by omega)).trans k1
  have j2 := (hb1.block _ (by omega)).trans k2
  have j3 := (hb1.block _ (by omega)).trans k3
  clear k0 k1 k2 k3 hb0 hb1
  obtain ⟨x0, x1, x2, x3, x4⟩ := box_fiveC j0
  have y1 := box_oneW j1
  have y2 := box_oneW j2
  have l0 : w.heap.size < w1.heap.size := by omega
  have l1 : w.heap.size + 1 < w1.heap.size := by omega
  have l2 : w.heap.size + 1 + 1 < w1.heap.size := by omega
  have l3 : w.heap.size + 1 + 1 + 1 < w1.heap.size := by omega
  have HCH : Hid (∀ rf, rf = rnI fs ps cp fu de fr to → rf = 0 → ChangeOk 58 #[.pointer (some ⟨w.heap.size + 1 + 1, 0, none⟩), .pointer (some ⟨w.heap.size + 1, 0, none⟩)] w1 fs (renF fs fr to) ps ps cp de) := fun rf e h0 => by
    obtain ⟨h1, h2, h3⟩ := rnI_zero (e.symm.trans h0)
    exact renameChange fr to hst _ _ fs (by have := HFL.out; omega) h2 h3 h1 ps cp de w1 j2 j1
  obtain ⟨q, hq⟩ : ∃ q, q = rfI fs ps cp fu de fr := ⟨_, rfl⟩
  rw [← hq]
  have HQ : Hid (q = rfI fs ps cp fu de fr) := hq
  clear hq j1 j2
  go_wp2_with fail
  refine (isName_any to w1 hst).mono ?_
  rintro e w1' ⟨rfl, rfl⟩
  cases hnm : nameB to with
  | false =>
    have HR0 : Hid ((1 : Int) = rnI fs ps cp fu de fr to) := by show _ = _; unfold rnI; rw [if_neg (by rw [hnm]; simp)]
    clear hnm
    go_wp2_with fail
    refine (deviceStepN_any a n c fs (renF fs fr to) b m d ps ps cp fu de 1 (w.heap.size + 1 + 1) (w.heap.size + 1) w1' A B (by omega) (HF.out _ bel1) (HP.out _ bel1) hn hm HA.out HA2.out hfu (HCH.out 1 HR0.out)).mono ?_
    rintro e w2 hres
    obtain ⟨rf, hrf⟩ : ∃ rf : Int, rf = 1 := ⟨_, rfl⟩
    rw [← hrf] at hres HR0
    clear hrf
    obtain ⟨a2, c2, b2, d2, xs, vs, ys, us, rfl, hO2, hb2⟩ := hres.out
    have hs2 := hb2.size
    have kR2 := (hb2.block _ (by omega)).trans j3
    obtain ⟨r0, r1, r2, r3, r4, r5⟩ := box_sixR kR2
    have ff := box_thawC kR2
    have HB := put6R_box kR2 (.int .i64 (dsE rf fu)) (.slice a2 (dsX rf fu fs (renF fs fr to)).length c2) (.slice b2 (dsX rf fu ps ps).length d2) (.int .i64 cp) (.int .i64 (dsF rf fu)) (.bool (dsD rf fu de))
    have HR : Hid (ResAt w (.returned (.agg #[.int .i64 (dsE rf fu), .slice a2 (dsX rf fu fs (renF fs fr to)).length c2, .slice b2 (dsX rf fu ps ps).length d2, .int .i64 cp, .int .i64 (dsF rf fu), .bool (dsD rf fu de)])) (put6R w2 (w.heap.size + 1 + 1 + 1) (.int .i64 (dsE rf fu)) (.slice a2 (dsX rf fu fs (renF fs fr to)).length c2) (.slice b2 (dsX rf fu ps ps).length d2) (.int .i64 cp) (.int .i64 (dsF rf fu)) (.bool (dsD rf fu de))) (dsE rf fu) (dsX rf fu fs (renF fs fr to)) (dsX rf fu ps ps) cp (dsF rf fu) (dsD rf fu de)) := ResAt.mk6 (by omega) (base := w1'.heap.size) hO2 (by omega) (by omega) (bel1.trans (hb2.mono bel1.size))
    clear hres hO2 hb2 kR2 j0 j3 x0 x1 x2 x3 x4 y1 y2
    go_wp2
    show bodyPost _ _ _ _ _ (put6R w2 (w.heap.size + 1 + 1 + 1) (.int .i64 (dsE rf fu)) (.slice a2 (dsX rf fu fs (renF fs fr to)).length c2) (.slice b2 (dsX rf fu ps ps).length d2) (.int .i64 cp) (.int .i64 (dsF rf fu)) (.bool (dsD rf fu de)))
    clear r0 r1 r2 r3 r4 r5
    obtain ⟨r0, r1, r2, r3, r4, r5⟩ := box_sixR HB
    exact bodyPost_ret (v := .agg #[.int .i64 (dsE rf fu), .slice a2 (dsX rf fu fs (renF fs fr to)).length c2, .slice b2 (dsX rf fu ps ps).length d2, .int .i64 cp, .int .i64 (dsF rf fu), .bool (dsD rf fu de)]) (by simp [results, Try.results23, go_sem, r0, r1, r2, r3, r4, r5]) rfl (by rw [← HR0.out]; exact HR.out)
  | true =>
    by_cases he : fr = to
    · have hb2' := same_yes he
      have HR0 : Hid ((1 : Int) = rnI fs ps cp fu de fr to) := by show _ = _; unfold rnI; rw [if_neg (fun h => h.2 he)]
      clear he hnm
      go_wp2_with fail
      refine (deviceStepN_any a n c fs (renF fs fr to) b m d ps ps cp fu de 1 (w.heap.size + 1 + 1) (w.heap.size + 1) w1' A B (by omega) (HF.out _ bel1) (HP.out _ bel1) hn hm HA.out HA2.out hfu (HCH.out 1 HR0.out)).mono ?_
      rintro e w2 hres
      obtain ⟨rf, hrf⟩ : ∃ rf : Int, rf = 1 := ⟨_, rfl⟩
      rw [← hrf] at hres HR0
      clear hrf
      obtain ⟨a2, c2, b2, d2, xs, vs, ys, us, rfl, hO2, hb2⟩ := hres.out
      have hs2 := hb2.size
      have kR2 := (hb2.block _ (by omega)).trans j3
      obtain ⟨r0, r1, r2, r3, r4, r5⟩ := box_sixR kR2
      have ff := box_thawC kR2
      have HB := put6R_box kR2 (.int .i64 (dsE rf fu)) (.slice a2 (dsX rf fu fs (renF fs fr to)).length c2) (.slice b2 (dsX rf fu ps ps).length d2) (.int .i64 cp) (.int .i64 (dsF rf fu)) (.bool (dsD rf fu de))
      have HR : Hid (ResAt w (.returned (.agg #[.int .i64 (dsE rf fu), .slice a2 (dsX rf fu fs (renF fs fr to)).length c2, .slice b2 (dsX rf fu ps ps).length d2, .int .i64 cp, .int .i64 (dsF rf fu), .bool (dsD rf fu de)])) (put6R w2 (w.heap.size + 1 + 1 + 1) (.int .i64 (dsE rf fu)) (.slice a2 (dsX rf fu fs (renF fs fr to)).length c2) (.slice b2 (dsX rf fu ps ps).length d2) (.int .i64 cp) (.int .i64 (dsF rf fu)) (.bool (dsD rf fu de))) (dsE rf fu) (dsX rf fu fs (renF fs fr to)) (dsX rf fu ps ps) cp (dsF rf fu) (dsD rf fu de)) := ResAt.mk6 (by omega) (base := w1'.heap.size) hO2 (by omega) (by omega) (bel1.trans (hb2.mono bel1.size))
      clear hres hO2 hb2 kR2 j0 j3 x0 x1 x2 x3 x4 y1 y2
      go_wp2
      show bodyPost _ _ _ _ _ (put6R w2 (w.heap.size + 1 + 1 + 1) (.int .i64 (dsE rf fu)) (.slice a2 (dsX rf fu fs (renF fs fr to)).length c2) (.slice b2 (dsX rf fu ps ps).length d2) (.int .i64 cp) (.int .i64 (dsF rf fu)) (.bool (dsD rf fu de)))
      clear r0 r1 r2 r3 r4 r5
      obtain ⟨r0, r1, r2, r3, r4, r5⟩ := box_sixR HB
      exact bodyPost_ret (v := .agg #[.int .i64 (dsE rf fu), .slice a2 (dsX rf fu fs (renF fs fr to)).length c2, .slice b2 (dsX rf fu ps ps).length d2, .int .i64 cp, .int .i64 (dsF rf fu), .bool (dsD rf fu de)]) (by simp [results, Try.results23, go_sem, r0, r1, r2, r3, r4, r5]) rfl (by rw [← HR0.out]; exact HR.out)
    · have hb2' := same_no he
      have HR0 : Hid (q = rnI fs ps cp fu de fr to) := by show _ = _; unfold rnI; rw [if_pos ⟨hnm, he⟩]; exact HQ.out
      clear he hnm
      go_wp2_with fail
      refine (deviceStepN_any a n c fs (renF fs fr to) b m d ps ps cp fu de q (w.heap.size + 1 + 1) (w.heap.size + 1) w1' A B (by omega) (HF.out _ bel1) (HP.out _ bel1) hn hm HA.out HA2.out hfu (HCH.out q HR0.out)).mono ?_
      rintro e w2 hres
      obtain ⟨rf, hrf⟩ : ∃ rf : Int, rf = q := ⟨_, rfl⟩
      rw [← hrf] at hres HR0
      clear hrf
      obtain ⟨a2, c2, b2, d2, xs, vs, ys, us, rfl, hO2, hb2⟩ := hres.out
      have hs2 := hb2.size
      have kR2 := (hb2.block _ (by omega)).trans j3
      obtain ⟨r0, r1, r2, r3, r4, r5⟩ := box_sixR kR2
      have ff := box_thawC kR2
      have HB := put6R_box kR2 (.int .i64 (dsE rf fu)) (.slice a2 (dsX rf fu fs (renF fs fr to)).length c2) (.slice b2 (dsX rf fu ps ps).length d2) (.int .i64 cp) (.int .i64 (dsF rf fu)) (.bool (dsD rf fu de))
      have HR : Hid (ResAt w (.returned (.agg #[.int .i64 (dsE rf fu), .slice a2 (dsX rf fu fs (renF fs fr to)).length c2, .slice b2 (dsX rf fu ps ps).length d2, .int .i64 cp, .int .i64 (dsF rf fu), .bool (dsD rf fu de)])) (put6R w2 (w.heap.size + 1 + 1 + 1) (.int .i64 (dsE rf fu)) (.slice a2 (dsX rf fu fs (renF fs fr to)).length c2) (.slice b2 (dsX rf fu ps ps).length d2) (.int .i64 cp) (.int .i64 (dsF rf fu)) (.bool (dsD rf fu de))) (dsE rf fu) (dsX rf fu fs (renF fs fr to)) (dsX rf fu ps ps) cp (dsF rf fu) (dsD rf fu de)) := ResAt.mk6 (by omega) (base := w1'.heap.size) hO2 (by omega) (by omega) (bel1.trans (hb2.mono bel1.size))
      clear hres hO2 hb2 kR2 j0 j3 x0 x1 x2 x3 x4 y1 y2
      go_wp2
      show bodyPost _ _ _ _ _ (put6R w2 (w.heap.size + 1 + 1 + 1) (.int .i64 (dsE rf fu)) (.slice a2 (dsX rf fu fs (renF fs fr to)).length c2) (.slice b2 (dsX rf fu ps ps).length d2) (.int .i64 cp) (.int .i64 (dsF rf fu)) (.bool (dsD rf fu de)))
      clear r0 r1 r2 r3 r4 r5
      obtain ⟨r0, r1, r2, r3, r4, r5⟩ := box_sixR HB
      exact bodyPost_ret (v := .agg #[.int .i64 (dsE rf fu), .slice a2 (dsX rf fu fs (renF fs fr to)).length c2, .slice b2 (dsX rf fu ps ps).length d2, .int .i64 cp, .int .i64 (dsF rf fu), .bool (dsD rf fu de)]) (by simp [results, Try.results23, go_sem, r0, r1, r2, r3, r4, r5]) rfl (by rw [← HR0.out]; exact HR.out)
end Go.Proofs.Ytmmdkjeoadlikaa
namespace Go.Proofs.Ytmmdkjeoadlikaa
open Go.RowKit
set_option linter.unusedVariables false
set_option maxRecDepth 100000

/-- What OwnF says of the files one by one. -/
structure OwnE (w : World) (base : Nat) (fs : List PF) (xs vs : List Value) : Prop where
  name : ∀ j, j < fs.length → xs[j * 2]? = some (.string (fs.getD j (ByteArray.empty, [])).1) ∧ (fs.getD j (ByteArray.empty, [])).1.size ≤ maxLen
  val : ∀ j, j < fs.length → xs[j * 2 + 1]? = some (vs.getD j (.slice none 0 0))
  data : ∀ j, j < fs.length → w.ownsRow base 5 1 (vs.getD j (.slice none 0 0)) (fs.getD j (ByteArray.empty, [])).2.length (u8s (fs.getD j (ByteArray.empty, [])).2)
  byte : ∀ j, j < fs.length → ∀ x ∈ (fs.getD j (ByteArray.empty, [])).2, 0 ≤ x ∧ x ≤ 255
  apart : ∀ i j, i ≠ j → i < fs.length → j < fs.length → ∀ g, (vs.getD i (.slice none 0 0)).ownBlock = some g → (vs.getD j (.slice none 0 0)).ownBlock ≠ some g
theorem OwnF.e {w : World} {base : Nat} {v : Value} {fs : List PF} {xs vs : List Value} (h : OwnF w base v fs xs vs) : OwnE w base fs xs vs :=
  ⟨h.name, h.val, h.data, h.byte, fun i j hij hi hj g hg => h.apart2 hij hi hj hg⟩
theorem OwnE.pick {w : World} {base : Nat} {v' : Value} {fs : List PF} {xs vs : List Value} (h : OwnE w base fs xs vs) (ks : List Nat) (hn : ks.Nodup) (hk : ∀ k ∈ ks, k < fs.length)
    (hr : w.ownsRow base 83 2 v' ks.length (pickR xs ks)) :
    OwnF w base v' (ks.map fun k => fs.getD k (ByteArray.empty, [])) (pickR xs ks) (ks.map fun k => vs.getD k (.slice none 0 0)) := by
  have hlt : ∀ j, j < ks.length → ks.getD j 0 < fs.length := fun j hj => by
    refine hk _ ?_
    simp [List.getD, List.getElem?_eq_getElem hj]
  have hf : ∀ j, j < ks.length → (ks.map fun k => fs.getD k (ByteArray.empty, [])).getD j (ByteArray.empty, []) = fs.getD (ks.getD j 0) (ByteArray.empty, []) := fun j hj => by simp [List.getD, List.getElem?_eq_getElem hj]
  have hv : ∀ j, j < ks.length → (ks.map fun k => vs.getD k (.slice none 0 0)).getD j (.slice none 0 0) = vs.getD (ks.getD j 0) (.slice none 0 0) := fun j hj => by simp [List.getD, List.getElem?_eq_getElem hj]
  refine ⟨by simpa using hr, by simp, fun j hj => ?_, fun j hj => ?_, fun j hj => ?_, fun j hj => ?_, fun i j hij hj => ?_⟩
  · have hj' : j < ks.length := by simpa using hj
    have h1 := h.name _ (hlt j hj')
    rw [hf j hj', (pickR_get xs ks j hj').1, getD_some h1.1]
    exact ⟨rfl, h1.2⟩
  · have hj' : j < ks.length := by simpa using hj
    have h1 := h.val _ (hlt j hj')
    rw [hv j hj', (pickR_get xs ks j hj').2, getD_some h1]
  · have hj' : j < ks.length := by simpa using hj
    rw [hf j hj', hv j hj']
    exact h.data _ (hlt j hj')
  · have hj' : j < ks.length := by simpa using hj
    rw [hf j hj']
    exact h.byte _ (hlt j hj')
  · have hj' : j < ks.length := by simpa using hj
    have hi' : i < ks.length := by omega
    rw [hv i hi', hv j hj']
    intro g hg
    have hne : ks.getD i 0 ≠ ks.getD j 0 := by
      intro e
      simp only [List.getD, List.getElem?_eq_getElem hi', List.getElem?_eq_getElem hj', Option.getD_some] at e
      exact (List.pairwise_iff_getElem.1 hn i j hi' hj' hij) e
    exact h.apart _ _ hne (hlt i hi') (hlt j hj') g hg
/-- One name is another's, in thought. -/
theorem OwnE.named {w : World} {base : Nat} {fs : List PF} {xs vs : List Value} (h : OwnE w base fs xs vs) {i : Nat} (hi : i < fs.length) {nm : ByteArray} (hs : nm.size ≤ maxLen) (hx : i * 2 < xs.length) : OwnE w base (fs.set i (nm, (fs.getD i (ByteArray.empty, [])).2)) (xs.set (i * 2) (.string nm)) vs := by
  have hg : ∀ j, j < fs.length → (fs.set i (nm, (fs.getD i (ByteArray.empty, [])).2)).getD j (ByteArray.empty, []) = if j = i then (nm, (fs.getD i (ByteArray.empty, [])).2) else fs.getD j (ByteArray.empty, []) := fun j hj => by
    rw [getD_set _ _ _ _ _ hi]
  refine ⟨fun j hj => ?_, fun j hj => ?_, fun j hj => ?_, fun j hj => ?_, fun a b hab ha hb g hg' => ?_⟩
  · simp at hj
    rw [hg j hj]
    split
    · rename_i e; subst e; rw [List.getElem?_set_self (by omega)]; exact ⟨rfl, hs⟩
    · rw [List.getElem?_set_ne (by omega)]; exact h.name j hj
  · simp at hj
    rw [List.getElem?_set_ne (by omega)]; exact h.val j hj
  · simp at hj
    rw [hg j hj]
    split
    · rename_i e; subst e; exact h.data j hj
    · exact h.data j hj
  · simp at hj
    rw [hg j hj]
    split
    · rename_i e; subst e; exact h.byte j hj
    · exact h.byte j hj
  · simp at ha hb
    exact h.apart a b hab ha hb g hg'
theorem pickR_set_other (xs : List Value) (ks : List Nat) (i : Nat) (v : Value) (h : i ∉ ks) : pickR (xs.set (i * 2) v) ks = pickR xs ks := by
  unfold pickR
  rw [List.flatMap_def, List.flatMap_def]
  congr 1
  refine List.map_congr_left fun k hk => ?_
  have hne : k ≠ i := fun e => h (e ▸ hk)
  simp [cellsK, List.getD, show ¬ i * 2 = k * 2 by omega, show ¬ i * 2 = k * 2 + 1 by omega]
theorem pickR_pickR (xs : List Value) (ks js : List Nat) (h : ∀ j ∈ js, j < ks.length) : pickR (pickR xs ks) js = pickR xs (js.map fun j => ks.getD j 0) := by
  induction js with
  | nil => rfl
  | cons j r ih =>
    have hp := pickR_get xs ks j (h j List.mem_cons_self)
    rw [List.map_cons, pickR_cons, pickR_cons, getD_some hp.1, getD_some hp.2, ih (fun k hk => h k (List.mem_cons_of_mem _ hk))]
theorem pickR_take (xs : List Value) (ks : List Nat) (p : Nat) : (pickR xs ks).take (p * 2) = pickR xs (ks.take p) ∧ (pickR xs ks).drop (p * 2) = pickR xs (ks.drop p) := by
  by_cases hp : p ≤ ks.length
  · have e := List.take_append_drop p ks
    have hl : (pickR xs (ks.take p)).length = p * 2 := by rw [pickR_len, List.length_take, Nat.min_eq_left hp]
    have e2 : pickR xs ks = pickR xs (ks.take p) ++ pickR xs (ks.drop p) := by rw [← pickR_append, e]
    rw [e2]
    refine ⟨?_, ?_⟩
    · rw [List.take_append_of_le_length (by omega), List.take_of_length_le (by omega)]
    · rw [List.drop_append_of_le_length (by omega), List.drop_of_length_le (by omega), List.nil_append]
  · refine ⟨?_, ?_⟩
    · rw [List.take_of_length_le (by rw [pickR_len]; omega), List.take_of_length_le (by omega)]
    · rw [List.drop_of_length_le (by rw [pickR_len]; omega), List.drop_of_length_le (by omega)]; rfl
/-- The places that neither name holds. -/
def keptD (fs : List PF) (fr to : ByteArray) : List Nat := (keptI (fun j => (fs.getD ((keptI (fun i => (fs.getD i (ByteArray.empty, [])).1) fr fs.length).getD j 0) (ByteArray.empty, [])).1) to (keptI (fun i => (fs.getD i (ByteArray.empty, [])).1) fr fs.length).length).map fun j => (keptI (fun i => (fs.getD i (ByteArray.empty, [])).1) fr fs.length).getD j 0
theorem keptI_filter (nms : Nat → ByteArray) (ks : List Nat) (nm : ByteArray) : (keptI (fun j => nms (ks.getD j 0)) nm ks.length).map (fun j => ks.getD j 0) = ks.filter (fun k => !decide (nms k = nm)) := by
  unfold keptI
  rw [show (fun j => !decide (nms (ks.getD j 0) = nm)) = (fun k => !decide (nms k = nm)) ∘ (fun j => ks.getD j 0) from rfl]
  rw [← List.filter_map]
  congr 1
  apply List.ext_getElem?
  intro i
  by_cases hi : i < ks.length
  · simp [hi, List.getD]
  · simp [hi]
theorem keptD_eq (fs : List PF) (fr to : ByteArray) : keptD fs fr to = (keptI (fun i => (fs.getD i (ByteArray.empty, [])).1) fr fs.length).filter (fun k => !decide ((fs.getD k (ByteArray.empty, [])).1 = to)) := keptI_filter (fun k => (fs.getD k (ByteArray.empty, [])).1) _ to
theorem keptD_nodup (fs : List PF) (fr to : ByteArray) : (keptD fs fr to).Nodup := by rw [keptD_eq]; exact List.Pairwise.filter _ (keptI_nodup _ _ _)
theorem keptD_mem {fs : List PF} {fr to : ByteArray} {k : Nat} (h : k ∈ keptD fs fr to) : k < fs.length ∧ (fs.getD k (ByteArray.empty, [])).1 ≠ fr := by
  rw [keptD_eq] at h
  have h1 := (List.mem_filter.1 h).1
  exact ⟨keptI_lt h1, by simpa using (List.mem_filter.1 h1).2⟩
theorem keptD_map (fs : List PF) (fr to : ByteArray) : (keptD fs fr to).map (fun k => fs.getD k (ByteArray.empty, [])) = remF (remF fs fr) to := by
  rw [keptD_eq]
  have h := keptI_map fs fr
  unfold remF
  rw [← h, List.filter_map]
  rfl
theorem take_while {l : List PF} {f : PF} {p : Nat} (hp : p ≤ l.length) (h1 : ∀ i, i < p → gtB (l.getD i (ByteArray.empty, [])).1 f.1 = false) (h2 : p < l.length → gtB (l.getD p (ByteArray.empty, [])).1 f.1 = true) : l.take p ++ f :: l.drop p = insF l f := by
  unfold insF
  induction l generalizing p with
  | nil => simp at hp; subst hp; simp
  | cons x r ih =>
    cases p with
    | zero =>
      have hx : gtB x.1 f.1 = true := by simpa using h2 (by simp)
      simp [hx]
    | succ p =>
      have hx : gtB x.1 f.1 = false := by simpa using h1 0 (by omega)
      have hr := ih (p := p) (by simpa using hp) (fun i hi => by simpa using h1 (i + 1) (by omega)) (fun h => by simpa using h2 (by simpa using h))
      simp only [List.take_succ_cons, List.drop_succ_cons, List.cons_append, List.takeWhile_cons, List.dropWhile_cons, hx, Bool.not_false, if_true]
      rw [← hr]
/-- What the document's rename makes of one's own files. -/
theorem OwnF.renamed {w w' : World} {base : Nat} {v v' : Value} {fs : List PF} {xs vs : List Value} {fr to : ByteArray} {p : Nat} (h : OwnF w base v fs xs vs) (hs : to.size ≤ maxLen) (hf : findN fs fr < fs.length)
    (hd : ∀ j, j < fs.length → w'.ownsRow base 5 1 (vs.getD j (.slice none 0 0)) (fs.getD j (ByteArray.empty, [])).2.length (u8s (fs.getD j (ByteArray.empty, [])).2))
    (hp : insPos (keptD fs fr to).length (fun j => (fs.getD ((keptD fs fr to).getD j 0) (ByteArray.empty, [])).1) to p)
    (hr : w'.ownsRow base 83 2 v' ((keptD fs fr to).length + 1) ((pickR xs (keptD fs fr to)).take (p * 2) ++ [.string to, vs.getD (findN fs fr) (.slice none 0 0)] ++ (pickR xs (keptD fs fr to)).drop (p * 2))) :
    ∃ xs' vs', OwnF w' base v' (renF fs fr to) xs' vs' ∧ ∀ g, Blk v' vs' g → v'.ownBlock = some g ∨ Blk v vs g := by
  have hx0 := h.row.1
  have hname : (fs.getD (findN fs fr) (ByteArray.empty, [])).1 = fr := by
    have h1 := List.findIdx_getElem (w := hf)
    rw [List.getD, List.getElem?_eq_getElem hf]
    exact of_decide_eq_true (show decide ((fs[findN fs fr]'hf).1 = fr) = true from h1)
  have hnot : findN fs fr ∉ keptD fs fr to := fun hm => (keptD_mem hm).2 hname
  have hE : OwnE w' base fs xs vs := ⟨h.name, h.val, hd, h.byte, fun i j hij hi hj g hg => h.apart2 hij hi hj hg⟩
  have hE2 := hE.named hf hs (by omega)
  generalize hi : findN fs fr = i at *
  have hnd : ((keptD fs fr to).take p ++ i :: (keptD fs fr to).drop p).Nodup := by
    have hperm : ((keptD fs fr to).take p ++ i :: (keptD fs fr to).drop p).Perm (i :: keptD fs fr to) := by
      refine List.perm_middle.trans ?_
      rw [List.take_append_drop]
    exact hperm.symm.pairwise (List.nodup_cons.2 ⟨hnot, keptD_nodup _ _ _⟩) (fun h => Ne.symm h)
  have hlt : ∀ k ∈ (keptD fs fr to).take p ++ i :: (keptD fs fr to).drop p, k < fs.length := fun k hk => by
    rcases List.mem_append.1 hk with h1 | h1
    · exact (keptD_mem (List.mem_of_mem_take h1)).1
    · rcases List.mem_cons.1 h1 with rfl | h1
      · exact hf
      · exact (keptD_mem (List.mem_of_mem_drop h1)).1
  have hlen : ((keptD fs fr to).take p ++ i :: (keptD fs fr to).drop p).length = (keptD fs fr to).length + 1 := by
    have := hp.1
    simp; omega
  have hv1 := h.val i hf
  have hrow : (pickR xs (keptD fs fr to)).take (p * 2) ++ [.string to, vs.getD i (.slice none 0 0)] ++ (pickR xs (keptD fs fr to)).drop (p * 2) = pickR (xs.set (i * 2) (.string to)) ((keptD fs fr to).take p ++ i :: (keptD fs fr to).drop p) := by
    rw [(pickR_take _ _ _).1, (pickR_take _ _ _).2, pickR_append, pickR_cons, pickR_set_other _ _ _ _ (fun hm => hnot (List.mem_of_mem_take hm)), pickR_set_other _ _ _ _ (fun hm => hnot (List.mem_of_mem_drop hm))]
    have e1 : (xs.set (i * 2) (.string to)).getD (i * 2) (.bool false) = .string to := getD_some (List.getElem?_set_self (by omega)) _
    have e2 : (xs.set (i * 2) (.string to)).getD (i * 2 + 1) (.bool false) = vs.getD i (.slice none 0 0) := getD_some (by rw [List.getElem?_set_ne (by omega)]; exact hv1) _
    rw [e1, e2]
    simp
  rw [hrow] at hr
  have hO := hE2.pick (v' := v') ((keptD fs fr to).take p ++ i :: (keptD fs fr to).drop p) hnd (fun k hk => by simpa using hlt k hk) (by rw [hlen]; exact hr)
  have hlist : (((keptD fs fr to).take p ++ i :: (keptD fs fr to).drop p).map fun k => (fs.set i (to, (fs.getD i (ByteArray.empty, [])).2)).getD k (ByteArray.empty, [])) = renF fs fr to := by
    have hother : ∀ l : List Nat, i ∉ l → (l.map fun k => (fs.set i (to, (fs.getD i (ByteArray.empty, [])).2)).getD k (ByteArray.empty, [])) = l.map fun k => fs.getD k (ByteArray.empty, []) := fun l hl => by
      refine List.map_congr_left fun k hk => ?_
      have hne : k ≠ i := fun e => hl (by rw [← e]; exact hk)
      rw [getD_set _ _ _ _ _ hf]
      split
      · omega
      · rfl
    rw [List.map_append, List.map_cons, hother _ (fun hm => hnot (List.mem_of_mem_take hm)), hother _ (fun hm => hnot (List.mem_of_mem_drop hm)), getD_set _ _ _ _ _ hf, if_pos rfl, List.map_take, List.map_drop, keptD_map]
    have hll : (remF (remF fs fr) to).length = (keptD fs fr to).length := by rw [← keptD_map, List.length_map]
    have hgd : ∀ j, j < (keptD fs fr to).length → (remF (remF fs fr) to).getD j (ByteArray.empty, []) = fs.getD ((keptD fs fr to).getD j 0) (ByteArray.empty, []) := fun j hj => by
      rw [← keptD_map]; simp [List.getD, List.getElem?_eq_getElem hj]
    rw [take_while (by rw [hll]; exact hp.1) (fun k hk => by rw [hgd k (by have := hp.1; omega)]; exact hp.2.1 k hk) (fun hk => by rw [hll] at hk; rw [hgd p hk]; exact hp.2.2 hk)]
    unfold renF
    rw [hi]
  rw [hlist] at hO
  exact ⟨_, _, hO, fun g hg => by
    rcases hg with e | ⟨j, hj, e⟩
    · exact .inl e
    · exact .inr (blk_pick (v := v) (v' := .slice none 0 0) h.len hlt (fun g e => by cases e) g (.inr ⟨j, hj, e⟩))⟩
end Go.Proofs.Ytmmdkjeoadlikaa
