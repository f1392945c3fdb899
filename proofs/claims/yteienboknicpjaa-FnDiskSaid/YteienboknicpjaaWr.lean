import Derived.Test.YteienboknicpjaaFb
import Derived.Laws.CopyOwn
import Derived.Deep.MidRow
namespace Go.Proofs.Yteienboknicpjaa
open Go.RowKit Go.Maps
set_option linter.unusedVariables false
set_option maxRecDepth 100000

theorem infoU8 : (Try.prog.info? 5).map (·.size) = some 1 := by kernel_rfl
def oldS (S : ByteArray → Int → Option (List Int)) (nm : ByteArray) (pg : Int) : List Int := (S nm pg).getD zeros
/-- What a write of the first ca bytes of ds makes of a file of L pages. -/
def writeS (S : ByteArray → Int → Option (List Int)) (nm : ByteArray) (L pg : Nat) (ds : List Int) (ca : Nat) : ByteArray → Int → Option (List Int) :=
  fun nm' t => if nm' = nm ∧ t = (pg : Int) then some (ds.take ca ++ (oldS S nm pg).drop ca) else fillS S nm L pg nm' t
theorem look_plF {w : World} {mb q : Nat} {D : DataW Unit} {S : ByteArray → Int → Option (List Int)} {nm : ByteArray} {pg : Int} (hM : MapS w mb q D) (hR : RepS D S) (hnm : nm.size ≤ maxLen) (hp : (Lit.int .i64 pg).wf = true) (hbs : ∀ bs, S nm pg = some bs → bs.length = 128 ∧ ∀ x ∈ bs, 0 ≤ x ∧ x ≤ 255) :
    (Instr.lookup 63 (.map (some mb)) (.agg #[.string nm, .int .i64 pg]) false).run Try.prog w = .ok (.agg (u8s (oldS S nm pg)).toArray) w ∧ (oldS S nm pg).length = 128 ∧ ∀ x ∈ oldS S nm pg, 0 ≤ x ∧ x ≤ 255 := by
  obtain ⟨v, pl, hrun, hv⟩ := World.ownsMap.lookup hM lawPl Try.underlying63 (zeroSheet w) (sheetR_mk zeros_len zeros_in) (keyOf_pl hnm hp)
  obtain ⟨bs, h1, h2, rfl, h4⟩ := sheetR_inv hv
  simp only [Prod.mk.injEq] at h4
  have hat := hR nm pg hnm hp (shD zeros)
  unfold oldS
  cases hS : S nm pg with
  | some cs =>
    rw [hS] at hat
    obtain ⟨c1, c2⟩ := hbs cs hS
    have : bs = cs := shD_inj (by omega) h2 c2 (by rw [← h4.1]; exact hat)
    subst this
    exact ⟨hrun, c1, c2⟩
  | none =>
    rw [hS] at hat
    have : bs = zeros := shD_inj (by rw [h1, zeros_len]) h2 zeros_in (by rw [← h4.1]; exact hat)
    subst this
    exact ⟨hrun, zeros_len, zeros_in⟩
theorem splice_zero (old ds : List Int) (ca : Nat) (h : ca ≤ ds.length) : splice (u8s old) 0 (u8s (ds.take ca)) = u8s (ds.take ca ++ old.drop ca) := by
  have e : (u8s (ds.take ca)).length = ca := by simp [u8s]; omega
  unfold splice
  rw [e]
  simp only [List.take_zero, List.nil_append, Nat.zero_add, u8s, List.map_append, List.map_drop]
theorem infoSh : (Try.prog.info? 69).map (·.size) = some 128 := by kernel_rfl
theorem lenSheet : Try.prog.arrayLen 69 = 128 := by kernel_rfl
theorem arrSheet : Try.prog.underlying 69 = some (.array (Try.prog.arrayLen 69) (Try.prog.elem 69)) := by kernel_rfl
theorem elemSheet : Try.prog.elem 69 = 5 := by kernel_rfl
theorem run_sliceS (g ca : Nat) (w : World) (h : ca ≤ 128) : (Instr.sliceAt 69 (.pointer (some ⟨g, 0, none⟩)) none (some (.int .i64 (ca : Int))) none).run Try.prog w = .ok (.slice (some ⟨g, 0, none⟩) ca 128) w := by
  have h2 : (ca : Int) ≤ Try.prog.arrayLen 69 := by rw [lenSheet]; omega
  rw [run_sliceAt_array_h w 69 _ arrSheet .i64 (ca : Int) (by omega) h2, elemSheet, show (sizeOf 5).run Try.prog w = .ok 1 w by kernel_rfl]
  simp [slicedAt, go_sem, Addr.add]
theorem MapS.to {w w' : World} {mb k : Nat} {D : DataW Unit} (h : MapS w mb k D) (hb : w'.heap[mb]? = w.heap[mb]?) : MapS w' mb k D := by
  obtain ⟨es, clock, hb', F, hs, hD⟩ := h
  exact ⟨es, clock, hb.trans hb', F, hs, hD⟩
theorem write_rep {D : DataW Unit} {S : ByteArray → Int → Option (List Int)} {nm : ByteArray} {L pg : Nat} {ds : List Int} {ca : Nat} (h : RepS D (fillS S nm L pg)) (hD : IsMap D) (hnm : nm.size ≤ maxLen) (hp : (Lit.int .i64 (pg : Int)).wf = true) : RepS (D.put (kPl nm pg) (shD (ds.take ca ++ (oldS S nm pg).drop ca))) (writeS S nm L pg ds ca) :=
  (h.put hD hnm hp _).congr fun nm' t => rfl
set_option maxHeartbeats 3200000 in
theorem write_any (nm : ByteArray) (hnm : nm.size ≤ maxLen) (pg ca L mb q : Nat) (pa : Option Addr) (pc : Nat) (ds : List Int) (D : DataW Unit) (S : ByteArray → Int → Option (List Int)) (w : World) (A B : Nat) (hB : B ≤ w.heap.size) (hby : BytesAt w A B pa 128 pc ds) (hmbA : mb < A ∨ B ≤ mb) (hca : ca ≤ 128) (hpg : pg ≤ 1048576) (hq : q ≤ 1073741824) (hM : MapS w mb q D) (hR : RepS D S) (hL : ∀ t : Nat, (∃ bs, S nm t = some bs) ↔ t < L) (hbs : ∀ t bs, S nm t = some bs → bs.length = 128 ∧ ∀ x ∈ bs, 0 ≤ x ∧ x ≤ 255) :
    Calls Try.prog 35 #[.map (some mb), .agg #[.string nm, .int .i64 pg, .slice pa 128 pc], .int .i64 ca] w fun e w' => e = .returned (.tuple #[]) ∧ ∃ (q' : Nat) (D' : DataW Unit), q' ≤ q + pg + 1 ∧ MapS w' mb q' D' ∧ RepS D' (writeS S nm L pg ds ca) ∧ Fr (fun x => x = mb) w w' := by
  have hmb : mb < w.heap.size := World.ownsMap.lt hM
  have hb0 : Below w.heap.size w ((w.alloc (.cells #[.string nm, .int .i64 pg, .slice pa 128 pc] 54)).alloc (.cells #[.string nm, .int .i64 pg] 72)) := ((Below.refl _ _).alloc (Nat.le_refl _) _).alloc (by simp) _
  have k0 : ((w.alloc (.cells #[.string nm, .int .i64 pg, .slice pa 128 pc] 54)).alloc (.cells #[.string nm, .int .i64 pg] 72)).heap[w.heap.size]? = some (.cells #[.string nm, .int .i64 pg, .slice pa 128 pc] 54) := by rw [heap_alloc_old _ _ (by simp)]; exact heap_alloc_new _ _
  have k1 : ((w.alloc (.cells #[.string nm, .int .i64 pg, .slice pa 128 pc] 54)).alloc (.cells #[.string nm, .int .i64 pg] 72)).heap[w.heap.size + 1]? = some (.cells #[.string nm, .int .i64 pg] 72) := by have := heap_alloc_new (w.alloc (.cells #[.string nm, .int .i64 pg, .slice pa 128 pc] 54)) (.cells #[.string nm, .int .i64 pg] 72); simpa using this
  have hM0 : MapS ((w.alloc (.cells #[.string nm, .int .i64 pg, .slice pa 128 pc] 54)).alloc (.cells #[.string nm, .int .i64 pg] 72)) mb q D := World.ownsMap.alloc (World.ownsMap.alloc hM _) _
  have hsz0 : ((w.alloc (.cells #[.string nm, .int .i64 pg, .slice pa 128 pc] 54)).alloc (.cells #[.string nm, .int .i64 pg] 72)).heap.size = w.heap.size + 2 := by simp
  have hpw : (Lit.int .i64 (pg : Int)).wf = true := WalkArith.wf_i64 (by omega)
  go_enter Try.func35, Try.ntmps35
  go_wp2_with fail
  generalize ((w.alloc (.cells #[.string nm, .int .i64 pg, .slice pa 128 pc] 54)).alloc (.cells #[.string nm, .int .i64 pg] 72)) = W0 at hb0 k0 k1 hM0 hsz0 ⊢
  refine (fillBefore_any nm hnm pg L mb q D S W0 hpg hq hM0 hR hL hbs).mono ?_
  rintro e w4 ⟨rfl, q4, D4, hq4, hM4, hR4, hF4⟩
  have hs4 := hF4.size
  have j0 := (hF4.block w.heap.size (by omega) (by omega)).trans k0
  have j1 := (hF4.block (w.heap.size + 1) (by omega) (by omega)).trans k1
  obtain ⟨c0, c1, c2⟩ := box_threeC j0
  obtain ⟨d0, d1⟩ := box_two2D j1
  have hSp : fillS S nm L pg nm (pg : Int) = S nm (pg : Int) := by unfold fillS; rw [if_neg (fun h => by omega)]
  obtain ⟨hlk, hol, hor⟩ := look_plF (nm := nm) (pg := (pg : Int)) hM4 hR4 hnm hpw (fun bs hb => by rw [hSp] at hb; exact hbs _ _ hb)
  have hoe : oldS (fillS S nm L pg) nm (pg : Int) = oldS S nm (pg : Int) := by unfold oldS; rw [hSp]
  rw [hoe] at hlk hol hor
  obtain ⟨old, hold⟩ : ∃ old, old = oldS S nm (pg : Int) := ⟨_, rfl⟩
  rw [← hold] at hlk hol hor
  have HOLD : Hid (old = oldS S nm (pg : Int)) := hold
  have hul : (u8s old).length = 128 := by simp [u8s, hol]
  have hst := storeCells_new w4 old hol
  have hl0 : w.heap.size < w4.heap.size := by omega
  have hl1 : w.heap.size + 1 < w4.heap.size := by omega
  clear hold hoe hSp k0 k1 hM0
  go_wp2_with fail
  have hal : Below w4.heap.size w4 (w4.alloc (.cells (u8s old).toArray 69)) := (Below.refl _ _).alloc (Nat.le_refl _) _
  have hg5 := heap_alloc_new w4 (.cells (u8s old).toArray 69)
  have i0 := (hal.block w.heap.size hl0).trans j0
  have i1 := (hal.block (w.heap.size + 1) hl1).trans j1
  have hM5 : MapS (w4.alloc (.cells (u8s old).toArray 69)) mb q4 D4 := World.ownsMap.alloc hM4 _
  have hF5 : Fr (fun x => x = mb) w (w4.alloc (.cells (u8s old).toArray 69)) := ((Fr.of_below hb0).trans hF4).trans (Fr.of_below hal)
  clear c0 c1 c2 d0 d1 hlk hst hF4 hal j0 j1 hM4
  generalize w4.alloc (.cells (u8s old).toArray 69) = w5 at hg5 i0 i1 hM5 hF5 ⊢
  have hl5 : w4.heap.size < w5.heap.size := (Array.getElem?_eq_some_iff.1 hg5).1
  have S5 : w5.cell? ⟨w.heap.size, 2, none⟩ = some (.slice pa 128 pc) := (box_threeC i0).2.2
  have hdl : ds.length = 128 := hby.1
  have hcl : (u8s (ds.take ca)).length = Nat.min 128 ca := by simp only [u8s, List.length_map, List.length_take, hdl]; show min ca 128 = min 128 ca; omega
  have hcf : 0 + (u8s (ds.take ca)).length ≤ (u8s old).length := by rw [hul]; simp [u8s]; omega
  have hc1 : ∀ v ∈ u8s (ds.take ca), v.oneCell' = true := by intro v hv; simp only [u8s, List.mem_map] at hv; obtain ⟨x, _, rfl⟩ := hv; rfl
  have hcp : 0 < (u8s (ds.take ca)).length → (some (⟨w4.heap.size, 0, none⟩ : Addr)) = some ⟨w4.heap.size, 0, none⟩ ∧ ∃ ad, pa = some ad ∧ ∀ j v, (u8s (ds.take ca))[j]? = some v → w5.drew.cell? (ad.add j) = some v := by
    intro _
    obtain ⟨b, off, rfl, hb, hc⟩ := hby.2.2.2.2.1 (by omega)
    refine ⟨rfl, _, rfl, fun j v hv => ?_⟩
    rw [Addr.add_mid]
    have hj : j < ca := by have := (List.getElem?_eq_some_iff.1 hv).1; simp [u8s] at this; omega
    have h1 : w5.cell? ⟨b, off + j, none⟩ = w.cell? ⟨b, off + j, none⟩ := World.cell?_of_block (hF5.block b (by omega) (by omega))
    show w5.cell? _ = _
    rw [h1, hc j (by omega), ← hv]
    have hjd : j < ds.length := by omega
    simp only [u8s, List.getElem?_map, List.getElem?_take_of_lt hj, List.getElem?_eq_getElem hjd, Option.map_some, List.getD, Option.getD_some]
  refine wp_region_noPanic ?_
  refine wp_region_held_drew (S := (fun w' => w'.cell? ⟨w.heap.size, 2, none⟩ = some (.slice pa 128 pc))) (by kernel_rfl) ?_ (fun hHeld => ?_)
  · exact S5
  refine wpAnyH_take (i := 0) (oi := { dst := some 19, op := Op.move (Operand.tmp 2), type := 2, pos := "l1_disk.go:249", after := #[], guard := none }) (v := ?_) rfl (by kernel_rfl) (by kernel_rfl) (by kernel_rfl) (fun _ _ _ h => h) (Or.inl ⟨by rfl, ?_⟩) (by assumption) ?_
  rotate_left 1
  · intro w hSw; (try dsimp only at hSw); go_simp; try (with_reducible rfl)
  try simp only [Act.put, List.setIfInBounds_toArray, List.set_cons_zero, List.set_cons_succ]
  refine wpAnyH_take (i := 1) (oi := { dst := some 20, op := Op.slice 69 (Operand.tmp 7) none (some (Operand.tmp 19)) none, type := 22, pos := "l1_disk.go:249", after := #[{ on := 0, ground := Ground.data }], guard := none }) (v := .slice (some ⟨w4.heap.size, 0, none⟩) ca 128) rfl (by kernel_rfl) (by kernel_rfl) (by kernel_rfl) (fun _ _ _ h => h) (Or.inl ⟨by rfl, ?_⟩) (by assumption) ?_
  · intro w hSw; (try dsimp only at hSw); have hsl := run_sliceS w4.heap.size ca w hca; go_simp
  try simp only [Act.put, List.setIfInBounds_toArray, List.set_cons_zero, List.set_cons_succ]
  refine wpAnyH_take (i := 2) (oi := { dst := some 21, op := Op.fieldAddr 54 (Operand.tmp 4) 2, type := 0, pos := "l1_disk.go:249", after := #[], guard := none }) (v := ?_) rfl (by kernel_rfl) (by kernel_rfl) (by kernel_rfl) (fun _ _ _ h => h) (Or.inl ⟨by rfl, ?_⟩) (by assumption) ?_
  rotate_left 1
  · intro w hSw; (try dsimp only at hSw); go_simp; try (with_reducible rfl)
  try simp only [Act.put, List.setIfInBounds_toArray, List.set_cons_zero, List.set_cons_succ]
  refine wpAnyH_take (i := 3) (oi := { dst := some 22, op := Op.load 22 (Operand.tmp 21), type := 22, pos := "l1_disk.go:249", after := #[{ on := 2, ground := Ground.data }], guard := none }) (v := ?_) rfl (by kernel_rfl) (by kernel_rfl) (by kernel_rfl) (fun _ _ _ h => h) (Or.inl ⟨by rfl, ?_⟩) (by assumption) ?_
  rotate_left 1
  · intro w hSw; (try dsimp only at hSw); go_simp; try (with_reducible rfl)
  try simp only [Act.put, List.setIfInBounds_toArray, List.set_cons_zero, List.set_cons_succ]
  refine wpAnyH_ready (rs := [4]) (by kernel_rfl) (by simp) ?_
  refine AllReadyH.cons (o := { dst := some 23, op := Op.call { callee := Callee.builtin Builtin.copy, args := #[Operand.tmp 20, Operand.tmp 22], argTypes := #[22, 22] }, type := 3, pos := "l1_disk.go:249", after := #[{ on := 1, ground := Ground.data }, { on := 3, ground := Ground.data }], guard := none }) rfl (fun K hK => ?_) ?_
  rotate_left 1
  exact AllReadyH.nil
  · refine step_copy_splice rfl (.tmp 20) (.tmp 22) 22 22 rfl 5 Try.underlying22 infoU8 _ _ ca 128 128 pc (by simp [Act.eval]) (by simp [Act.eval]) w4.heap.size 0 (u8s old) 69 hg5 (u8s (ds.take ca)) hcl hcp hcf hc1 w4.heap.size w5 ((Below.refl _ w5).drew) (by omega) ?_
    intro w6 hg6 hb6
    have S6 : (fun w' => w'.cell? ⟨w.heap.size, 2, none⟩ = some (.slice pa 128 pc)) w6 := (World.cell?_of_block (hb6.block w.heap.size (by omega))).trans S5
    refine hK.out _ _ S6 (fun hHeld => ?_)
    clear hK K
    try simp only [Act.put, List.setIfInBounds_toArray, List.set_cons_zero, List.set_cons_succ]
    refine wpAnyH_done (by kernel_rfl) ?_ _
    refine NoPanic.normal ?_
    have hsp : splice (u8s old) 0 (u8s (ds.take ca)) = u8s (ds.take ca ++ old.drop ca) := splice_zero old ds ca (by omega)
    have HG6 := hg6.out
    rw [hsp] at HG6
    obtain ⟨nb, hnb⟩ : ∃ nb, nb = ds.take ca ++ old.drop ca := ⟨_, rfl⟩
    rw [← hnb] at HG6
    have hnl : nb.length = 128 := by rw [hnb, List.length_append, List.length_take, List.length_drop, hdl, hol]; omega
    have hnr : ∀ x ∈ nb, 0 ≤ x ∧ x ≤ 255 := by
      intro x hx
      rw [hnb] at hx
      rcases List.mem_append.1 hx with h1 | h1
      · exact hby.2.2.2.1 x (List.mem_of_mem_take h1)
      · exact hor x (List.mem_of_mem_drop h1)
    have HNB : Hid (nb = ds.take ca ++ old.drop ca) := hnb
    have hs6 := hb6.size
    have i6 := (hb6.block (w.heap.size + 1) (by omega)).trans i1
    have HG : w6.heap[w4.heap.size]? = some (.cells (u8s nb).toArray 69 (0, 0)) := HG6
    have hrg : w6.rangeAt w4.heap.size 0 (u8s nb) := fun j v hv => by rw [Nat.zero_add, cell_of_row w6 w4.heap.size j _ _ _ HG]; simpa using hv
    obtain ⟨d0, d1⟩ := box_two2D i6
    have hmb4 : mb < w4.heap.size := by omega
    have hM6 : MapS w6 mb q4 D4 := hM5.to (hb6.block mb hmb4)
    have hF6 : Fr (fun x => x = mb) w w6 := ⟨hb6.os.trans hF5.os, hb6.tape.trans hF5.tape, hb6.output.trans hF5.output, Nat.le_trans hF5.size hs6, fun g hg hS => (hb6.block g (by omega)).trans (hF5.block g hg hS)⟩
    obtain ⟨wu, hrun, hMu, hgu⟩ := World.ownsMap.update hM6 lawPl Try.underlying63 (by unfold maxLen; omega) (keyOf_pl hnm hpw) (val := .agg (u8s nb).toArray) (sheetR_mk hnl hnr)
    have UF : Fr (fun x => x = mb) w wu := hF6.trans (Fr.of_grown hgu (fun x e => by injection e with e; exact e.symm))
    have UR : Hid (RepS (D4.put (kPl nm (pg : Int)) (shD nb)) (writeS S nm L pg ds ca)) := by
      have := write_rep (ds := ds) (ca := ca) hR4 (World.ownsMap.isMap hM6) hnm hpw
      rw [← HOLD.out, ← HNB.out] at this
      exact this
    clear hgu hF6 hM6 hM5 hF5 hg6 hb6 HG6 hsp hHeld i0 i1 hg5 hcp hcf hc1 hcl S5 S6 hb0 hnb
    go_wp2_with fail
    rename_i hKK
    refine wp_load_mid 69 (.tmp 7) rfl w4.heap.size 0 (by simp [Act.eval]) (u8s nb) _ hrg Try.underlying69 rfl (by rw [infoSh]; simp [u8s, hnl]) (hKK _ _ ?_)
    clear hKK
    simp only [Act.put, List.setIfInBounds_toArray, List.set_cons_zero, List.set_cons_succ]
    go_wp2_with fail
    exact bodyPost_end (v := .tuple #[]) (by simp [results, Try.results35, go_sem]) rfl ⟨rfl, q4 + 1, _, by omega, hMu, UR.out, UF⟩
end Go.Proofs.Yteienboknicpjaa
