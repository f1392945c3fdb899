import Derived.Test.YtnpndbicmamggaaGreatGBC
import Derived.Test.YtnpndbicmamggaaGreatGBF
import Derived.Test.YtnpndbicmamggaaGreatGBH
import Derived.Test.YtnpndbicmamggaaGreatGBI
import Derived.Laws.StructEq
import Derived.Laws.CopyOwn
import Derived.Deep.MidRow
namespace Go.Proofs.YtnpndbicmamggaaGreat
open Go.RowKit Go.Maps
set_option linter.unusedVariables false
set_option maxRecDepth 100000

theorem neq_pl (nm : ByteArray) (p p' : Int) (w : World) : (binOp .neq 84 (.agg #[.string nm, .int .i64 p]) (.agg #[.string nm, .int .i64 p'])).run Tryz.prog w = .ok (.bool (!(p == p'))) w := by
  have hS : Tryz.prog.underlying 84 = some (.struct (Tryz.prog.fieldsOf 84)) := by kernel_rfl
  have hp : Tryz.prog.stoodInHeld 84 = false := by kernel_rfl
  have u9 := Tryz.underlying9
  have u2 := Tryz.underlying2
  have a9 := Tryz.isAgg9
  have a2 := Tryz.isAgg2
  have z9 := Tryz.sizeOf9
  have z2 := Tryz.sizeOf2
  rw [run_neq_struct, show (10000 : Nat) = 9999 + 1 from rfl, run_equalIn_agg w 9999 84 _ _ hS hp]
  simp only [Program.fieldsOf, Tryz.underlying84]
  go_simp
  by_cases h : p = p' <;> simp [h]
def zeros : List Int := List.replicate 128 0
theorem zeros_len : zeros.length = 128 := by simp [zeros]
theorem zeros_in : ∀ x ∈ zeros, 0 ≤ x ∧ x ≤ 255 := by
  intro x hx
  have := List.eq_of_mem_replicate hx
  omega
theorem all_u8s (bs : List Int) : (u8s bs).toArray.all (·.oneCell') = true := by simp [u8s, Value.oneCell']
theorem store_new (W : World) (c : Array Value) (bs : List Int) (hc : c.size = 128) (hl : bs.length = 128) : (Instr.storeAt 82 (.pointer (some ⟨W.heap.size, 0, none⟩)) (.agg (u8s bs).toArray)).run Tryz.prog (W.alloc (.cells c 82)) = .ok () (W.alloc (.cells (u8s bs).toArray 82)) :=
  run_storeAt_new W 82 c (u8s bs).toArray (by rw [infoSheet]; simp [u8s, hl]) (by simp [u8s, hl, hc]) (all_u8s bs)
theorem zeroCellsN : Tryz.zeroCells82.size = 128 := by kernel_rfl
theorem storeCells_new (W : World) (bs : List Int) (hl : bs.length = 128) : (storeCells ⟨W.heap.size, 0, none⟩ (u8s bs)).run Tryz.prog (W.alloc (.cells Tryz.zeroCells82 82)) = .ok () (W.alloc (.cells (u8s bs).toArray 82)) := by
  have := run_storeCells_new (P := Tryz.prog) W 82 Tryz.zeroCells82 (u8s bs).toArray (by rw [infoSheet]; simp [u8s, hl]) (by rw [zeroCellsN]; simp [u8s, hl]) (all_u8s bs)
  simpa using this
theorem zeroCellsV : (Value.agg Tryz.zeroCells82) = sheetV zeros := by kernel_rfl
theorem Fr.late {S T : Nat → Prop} {a b c : World} (h : Fr S a b) (k : Fr T b c) (hT : ∀ g, T g → a.heap.size ≤ g) : Fr S a c :=
  ⟨k.1.trans h.1, k.2.trans h.2, k.3.trans h.3, Nat.le_trans h.size k.size, fun g hg hS => (k.block g (Nat.lt_of_lt_of_le hg h.size) (fun e => by have := hT g e; omega)).trans (h.block g hg hS)⟩
/-- Where a file has L pages, what a write at pg fills ahead of itself. -/
def fillS (S : ByteArray → Int → Option (List Int)) (nm : ByteArray) (lo pg : Nat) : ByteArray → Int → Option (List Int) := fun nm' t => if nm' = nm ∧ (lo : Int) ≤ t ∧ t < pg then some zeros else S nm' t
theorem fill_none {D : DataW Unit} {S : ByteArray → Int → Option (List Int)} {nm : ByteArray} {pg : Nat} (h : RepS D S) : RepS D (fillS S nm pg pg) := h.congr fun nm' t => by unfold fillS; rw [if_neg (fun h => by omega)]
theorem fill_stop {S : ByteArray → Int → Option (List Int)} {nm : ByteArray} {L t pg : Nat} (h : (t = pg ∨ L ≤ t)) (h2 : t ≤ L ∨ t = 0) (nm' : ByteArray) (u : Int) : fillS S nm L pg nm' u = fillS S nm t pg nm' u := by
  unfold fillS
  by_cases hn : nm' = nm
  · simp only [hn, true_and]
    by_cases h1 : (t : Int) ≤ u ∧ u < pg
    · rw [if_pos (by omega), if_pos h1]
    · rw [if_neg (by omega), if_neg h1]
  · simp only [hn, false_and, if_false]
theorem fill_step {D : DataW Unit} {S : ByteArray → Int → Option (List Int)} {nm : ByteArray} {t pg : Nat} (h : RepS D (fillS S nm (t + 1) pg)) (hD : IsMap D) (hnm : nm.size ≤ maxLen) (hp : (Lit.int .i64 (t : Int)).wf = true) (ht : t < pg) : RepS (D.put (kPl nm t) (shD zeros)) (fillS S nm t pg) :=
  (h.put hD hnm hp zeros).congr fun nm' u => by
    unfold fillS
    by_cases hn : nm' = nm
    · simp only [hn, true_and]
      by_cases h1 : u = t
      · rw [if_pos (by omega), if_pos h1]
      · rw [if_neg h1]
        by_cases h2 : (t : Int) ≤ u ∧ u < pg
        · rw [if_pos h2, if_pos (by omega)]
        · rw [if_neg h2, if_neg (by omega)]
    · simp only [hn, false_and, if_false]
/-- The number in a cell. -/
def cellN (w : World) (b o : Nat) : Nat := match w.cell? ⟨b, o, none⟩ with | some (.int _ n) => n.toNat | _ => 0
theorem guard_pl : Tryz.prog.eqGuardType Tryz.prog.depth 84 = false := by kernel_rfl
theorem look_pl {w : World} {mb q : Nat} {D : DataW Unit} {S : ByteArray → Int → Option (List Int)} {nm : ByteArray} {pg : Int} (hM : MapS w mb q D) (hR : RepS D S) (hnm : nm.size ≤ maxLen) (hp : (Lit.int .i64 pg).wf = true) (hbs : ∀ bs, S nm pg = some bs → bs.length = 128 ∧ ∀ x ∈ bs, 0 ≤ x ∧ x ≤ 255) :
    (∃ bs, S nm pg = some bs ∧ (Instr.lookup 49 (.map (some mb)) (.agg #[.string nm, .int .i64 pg]) true).run Tryz.prog w = .ok (.tuple #[.agg (u8s bs).toArray, .bool true]) w) ∨ (S nm pg = none ∧ (Instr.lookup 49 (.map (some mb)) (.agg #[.string nm, .int .i64 pg]) true).run Tryz.prog w = .ok (.tuple #[.agg (u8s zeros).toArray, .bool false]) w) := by
  obtain ⟨v, pl, hrun, hv⟩ := World.ownsMap.look_ok hM lawPl Tryz.underlying49 (zeroSheet w) (sheetR_mk zeros_len zeros_in) (keyOf_pl hnm hp)
  obtain ⟨bs, h1, h2, rfl, h4⟩ := sheetR_inv hv
  simp only [Prod.mk.injEq] at h4
  have hat := hR nm pg hnm hp
  cases hS : S nm pg with
  | some cs =>
    left
    rw [hS] at hat
    have e : Maps.has D (kPl nm pg) = true := has_true_of_atKey hat
    rw [e] at hrun
    obtain ⟨c1, c2⟩ := hbs cs hS
    have : bs = cs := shD_inj (by omega) h2 c2 (by rw [← h4.1]; exact hat _)
    subst this
    exact ⟨bs, rfl, hrun⟩
  | none =>
    right
    rw [hS] at hat
    have e : Maps.has D (kPl nm pg) = false := has_false_of_atKey hat
    rw [e] at hrun
    have : bs = zeros := shD_inj (by rw [h1, zeros_len]) h2 zeros_in (by rw [← h4.1]; exact hat _)
    subst this
    exact ⟨rfl, hrun⟩
set_option maxHeartbeats 3200000 in
theorem fillBefore_any (nm : ByteArray) (hnm : nm.size ≤ maxLen) (pg L mb q : Nat) (D : DataW Unit) (S : ByteArray → Int → Option (List Int)) (w : World) (hpg : pg ≤ 1048576) (hq : q ≤ 1073741824) (hM : MapS w mb q D) (hR : RepS D S) (hL : ∀ t : Nat, (∃ bs, S nm t = some bs) ↔ t < L) (hbs : ∀ t bs, S nm t = some bs → bs.length = 128 ∧ ∀ x ∈ bs, 0 ≤ x ∧ x ≤ 255) :
    Calls Tryz.prog 51 #[.map (some mb), .agg #[.string nm, .int .i64 pg]] w fun e w' => e = .returned (.tuple #[]) ∧ ∃ (q' : Nat) (D' : DataW Unit), q' ≤ q + pg ∧ MapS w' mb q' D' ∧ RepS D' (fillS S nm L pg) ∧ Fr (fun x => x = mb) w w' := by
  have hmb : mb < w.heap.size := World.ownsMap.lt hM
  have hb0 : Below w.heap.size w ((w.alloc (.cells #[.string nm, .int .i64 pg] 84)).alloc (.cells #[.string nm, .int .i64 0] 84)) := ((Below.refl _ _).alloc (Nat.le_refl _) _).alloc (by simp) _
  have k0 : ((w.alloc (.cells #[.string nm, .int .i64 pg] 84)).alloc (.cells #[.string nm, .int .i64 0] 84)).heap[w.heap.size]? = some (.cells #[.string nm, .int .i64 pg] 84) := by rw [heap_alloc_old _ _ (by simp)]; exact heap_alloc_new _ _
  have k1 : ((w.alloc (.cells #[.string nm, .int .i64 pg] 84)).alloc (.cells #[.string nm, .int .i64 0] 84)).heap[w.heap.size + 1]? = some (.cells #[.string nm, .int .i64 0] 84) := by have := heap_alloc_new (w.alloc (.cells #[.string nm, .int .i64 pg] 84)) (.cells #[.string nm, .int .i64 0] 84); simpa using this
  have hM0 : Hid (MapS ((w.alloc (.cells #[.string nm, .int .i64 pg] 84)).alloc (.cells #[.string nm, .int .i64 0] 84)) mb q D) := World.ownsMap.alloc (World.ownsMap.alloc hM _) _
  have HR : Hid (RepS D S) := hR
  have HL : Hid (∀ t : Nat, (∃ bs, S nm t = some bs) ↔ t < L) := hL
  have HBS : Hid (∀ t bs, S nm t = some bs → bs.length = 128 ∧ ∀ x ∈ bs, 0 ≤ x ∧ x ≤ 255) := hbs
  have F0 : Hid (Fr (fun x => x = mb) w ((w.alloc (.cells #[.string nm, .int .i64 pg] 84)).alloc (.cells #[.string nm, .int .i64 0] 84))) := Fr.of_below hb0
  clear hM hR hL hbs
  go_enter Tryz.func51, Tryz.ntmps51
  go_wp2
  have hsz0 : w.heap.size + 1 < ((w.alloc (.cells #[.string nm, .int .i64 pg] 84)).alloc (.cells #[.string nm, .int .i64 0] 84)).heap.size := (Array.getElem?_eq_some_iff.1 k1).1
  generalize ((w.alloc (.cells #[.string nm, .int .i64 pg] 84)).alloc (.cells #[.string nm, .int .i64 0] 84)) = W0 at hb0 k0 k1 hM0 F0 hsz0 ⊢
  go_loopw [5, 6] (fun _ _ wr => ∃ (t q2 : Nat) (D2 : DataW Unit), t ≤ pg ∧ (t = pg ∨ L ≤ t) ∧ q2 + t ≤ q + pg ∧ Hid (MapS wr mb q2 D2) ∧ Hid (RepS D2 (fillS S nm t pg)) ∧ Hid (Fr (fun x => x = mb) w wr) ∧ Hid (wr.heap[w.heap.size]? = some (.cells #[.string nm, .int .i64 t] 84)) ∧ Hid (wr.heap[w.heap.size + 1]? = some (.cells #[.string nm, .int .i64 0] 84))) (fun _ _ wr => cellN wr w.heap.size 1)
  case atStart => exact ⟨pg, q, D, Nat.le_refl _, .inl rfl, Nat.le_refl _, hM0, fill_none HR.out, F0, k0, k1⟩
  case round =>
    obtain ⟨t, q2, D2, ht, htL, hq2, HM, HRp, HFr, HK0, HK1⟩ := hrel
    obtain ⟨c0, c1⟩ := box_two2D HK0.out
    obtain ⟨d0, d1⟩ := box_two2D HK1.out
    have fz := box_thawC HK0.out
    have hl1 : w.heap.size + 1 < wr.heap.size := (Array.getElem?_eq_some_iff.1 HK1.out).1
    have hl0 : w.heap.size < wr.heap.size := by omega
    have hne := neq_pl nm (t : Int) 0
    have hgd := guard_pl
    by_cases h0 : t = 0
    · subst h0
      have R0 : RepS D2 (fillS S nm L pg) := HRp.out.congr fun nm' u => fill_stop htL (.inr rfl) nm' u
      have hne0 : ∀ w : World, (binOp .neq 84 (.agg #[.string nm, .int .i64 0]) (.agg #[.string nm, .int .i64 0])).run Tryz.prog w = .ok (.bool false) w := fun w => neq_pl nm 0 0 w
      clear hne
      go_wp2
      exact bodyPost_end (v := .tuple #[]) (by simp [results, Tryz.results51, go_sem]) rfl ⟨rfl, q2, D2, by omega, HM.out, R0, HFr.out⟩
    · obtain ⟨s, rfl⟩ : ∃ s, t = s + 1 := ⟨t - 1, by omega⟩
      have hne1 : ∀ w : World, (binOp .neq 84 (.agg #[.string nm, .int .i64 (s + 1 : Nat)]) (.agg #[.string nm, .int .i64 0])).run Tryz.prog w = .ok (.bool true) w := fun w => by rw [hne w, show (((s + 1 : Nat) : Int) == 0) = false from beq_eq_false_iff_ne.2 (by omega)]; rfl
      have hset := fr_setCell wr w.heap.size 1 (.int .i64 (s : Int))
      have hMs : MapS (wr.setCell ⟨w.heap.size, 1, none⟩ (.int .i64 (s : Int))) mb q2 D2 := World.ownsMap.setCell HM.out (by show mb ≠ w.heap.size; omega) _
      have HB1 : Hid ((wr.setCell ⟨w.heap.size, 1, none⟩ (.int .i64 (s : Int))).heap[w.heap.size]? = some (.cells #[.string nm, .int .i64 (s : Int)] 84)) := heap_setCell_at HK0.out 1 (.int .i64 (s : Int))
      have HB2 : Hid ((wr.setCell ⟨w.heap.size, 1, none⟩ (.int .i64 (s : Int))).heap[w.heap.size + 1]? = some (.cells #[.string nm, .int .i64 0] 84)) := (hset.block _ hl1 (by omega)).trans HK1.out
      have hsw : (Lit.int .i64 (s : Int)).wf = true := WalkArith.wf_i64 (by omega)
      have hSs : fillS S nm (s + 1) pg nm (s : Int) = S nm (s : Int) := by unfold fillS; rw [if_neg (fun h => by omega)]
      have hlook := look_pl (nm := nm) (pg := (s : Int)) hMs HRp.out hnm hsw (fun bs hb => by rw [hSs] at hb; exact HBS.out _ _ hb)
      clear hne
      rcases hlook with ⟨bs, hb, hlk⟩ | ⟨hb, hlk⟩
      · rw [hSs] at hb
        have hsL : s < L := (HL.out s).1 ⟨bs, hb⟩
        have R0 : RepS D2 (fillS S nm L pg) := HRp.out.congr fun nm' u => fill_stop htL (.inl (by omega)) nm' u
        have hbl := (HBS.out _ _ hb).1
        have hul : (u8s bs).length = 128 := by simp [u8s, hbl]
        have hst := storeCells_new (wr.setCell ⟨w.heap.size, 1, none⟩ (.int .i64 (s : Int))) bs hbl
        rw [show (wr.setCell ⟨w.heap.size, 1, none⟩ (.int .i64 (s : Int))).heap.size = wr.heap.size by simp [World.setCell]] at hst
        go_wp2
        exact bodyPost_ret (v := .tuple #[]) (by simp [results, Tryz.results51, go_sem]) rfl ⟨rfl, q2, D2, by omega, World.ownsMap.alloc hMs _, R0, (HFr.out.late hset (fun g e => by omega)).trans (Fr.of_below ((Below.refl _ _).alloc (Nat.le_refl _) _))⟩
      · rw [hSs] at hb
        have hsL : L ≤ s := Decidable.byContradiction fun h => by
          obtain ⟨bs, hbs⟩ := (HL.out s).2 (by omega)
          rw [hb] at hbs; cases hbs
        have hul : (u8s zeros).length = 128 := by simp [u8s, zeros_len]
        have hst := storeCells_new (wr.setCell ⟨w.heap.size, 1, none⟩ (.int .i64 (s : Int))) zeros zeros_len
        rw [show (wr.setCell ⟨w.heap.size, 1, none⟩ (.int .i64 (s : Int))).heap.size = wr.heap.size by simp [World.setCell]] at hst
        have hMa : MapS ((wr.setCell ⟨w.heap.size, 1, none⟩ (.int .i64 (s : Int))).alloc (.cells (u8s zeros).toArray 82)) mb q2 D2 := World.ownsMap.alloc hMs _
        have hal : Below (wr.setCell ⟨w.heap.size, 1, none⟩ (.int .i64 (s : Int))).heap.size (wr.setCell ⟨w.heap.size, 1, none⟩ (.int .i64 (s : Int))) ((wr.setCell ⟨w.heap.size, 1, none⟩ (.int .i64 (s : Int))).alloc (.cells (u8s zeros).toArray 82)) := (Below.refl _ _).alloc (Nat.le_refl _) _
        obtain ⟨wu, hrun, hMu, hgu⟩ := World.ownsMap.update hMa lawPl Tryz.underlying49 (by unfold maxLen; omega) (keyOf_pl hnm hsw) (val := .agg Tryz.zeroCells82) (by rw [zeroCellsV]; exact sheetR_mk zeros_len zeros_in)
        have hsz1 : (wr.setCell ⟨w.heap.size, 1, none⟩ (.int .i64 (s : Int))).heap.size = wr.heap.size := by simp [World.setCell]
        have e0 := (hal.block w.heap.size (by rw [hsz1]; omega)).trans HB1.out
        have e1 := (hal.block (w.heap.size + 1) (by rw [hsz1]; omega)).trans HB2.out
        have hza := hal.size
        obtain ⟨g0, g1⟩ := box_two2D e0
        have U0 : Hid (wu.heap[w.heap.size]? = some (.cells #[.string nm, .int .i64 (s : Int)] 84)) := (hgu.block w.heap.size (by omega) (fun e => by injection e with e; omega)).trans e0
        have U1 : Hid (wu.heap[w.heap.size + 1]? = some (.cells #[.string nm, .int .i64 0] 84)) := (hgu.block (w.heap.size + 1) (by omega) (fun e => by injection e with e; omega)).trans e1
        have UF : Hid (Fr (fun x => x = mb) w wu) := ((HFr.out.late hset (fun g e => by omega)).trans (Fr.of_below hal)).trans (Fr.of_grown hgu (fun x e => by injection e with e; exact e.symm))
        have UM : Hid (MapS wu mb (q2 + 1) (D2.put (kPl nm (s : Int)) (shD zeros))) := hMu
        have UR : Hid (RepS (D2.put (kPl nm (s : Int)) (shD zeros)) (fillS S nm s pg)) := fill_step HRp.out (World.ownsMap.isMap HM.out) hnm hsw (by omega)
        have HC1 : Hid (cellN wr w.heap.size 1 = s + 1) := by show _ = _; unfold cellN; rw [c1]; rfl
        clear hMu hgu hal e0 e1 hMa hMs
        go_wp2
        refine ⟨⟨s, q2 + 1, _, by omega, .inr hsL, by omega, UM, UR, UF, U0, U1⟩, ?_⟩
        rw [HC1.out, show cellN wu w.heap.size 1 = s by unfold cellN; rw [(box_two2D U0.out).2]; rfl]
        omega
end Go.Proofs.YtnpndbicmamggaaGreat
namespace Go.Proofs.YtnpndbicmamggaaGreat
open Go.RowKit Go.Maps
set_option linter.unusedVariables false
set_option maxRecDepth 100000

theorem infoU8 : (Tryz.prog.info? 5).map (·.size) = some 1 := by kernel_rfl
def oldS (S : ByteArray → Int → Option (List Int)) (nm : ByteArray) (pg : Int) : List Int := (S nm pg).getD zeros
/-- What a write of the first ca bytes of ds makes of a file of L pages. -/
def writeS (S : ByteArray → Int → Option (List Int)) (nm : ByteArray) (L pg : Nat) (ds : List Int) (ca : Nat) : ByteArray → Int → Option (List Int) :=
  fun nm' t => if nm' = nm ∧ t = (pg : Int) then some (ds.take ca ++ (oldS S nm pg).drop ca) else fillS S nm L pg nm' t
theorem look_plF {w : World} {mb q : Nat} {D : DataW Unit} {S : ByteArray → Int → Option (List Int)} {nm : ByteArray} {pg : Int} (hM : MapS w mb q D) (hR : RepS D S) (hnm : nm.size ≤ maxLen) (hp : (Lit.int .i64 pg).wf = true) (hbs : ∀ bs, S nm pg = some bs → bs.length = 128 ∧ ∀ x ∈ bs, 0 ≤ x ∧ x ≤ 255) :
    (Instr.lookup 49 (.map (some mb)) (.agg #[.string nm, .int .i64 pg]) false).run Tryz.prog w = .ok (.agg (u8s (oldS S nm pg)).toArray) w ∧ (oldS S nm pg).length = 128 ∧ ∀ x ∈ oldS S nm pg, 0 ≤ x ∧ x ≤ 255 := by
  obtain ⟨v, pl, hrun, hv⟩ := World.ownsMap.lookup hM lawPl Tryz.underlying49 (zeroSheet w) (sheetR_mk zeros_len zeros_in) (keyOf_pl hnm hp)
  obtain ⟨bs, h1, h2, rfl, h4⟩ := sheetR_inv hv
  simp only [Prod.mk.injEq] at h4
  have hat := hR nm pg hnm hp (shD zeros)
  unfold oldS
  cases hS : S nm pg with
  | some cs =>
    rw [hS] at hat
    obtain ⟨c1, c2⟩ := hbs cs hS
    have : bs = cs := shD_inj (by omega) h2 c2 (by rw [← h4.1]; exact hat)
    subst this
    exact ⟨hrun, c1, c2⟩
  | none =>
    rw [hS] at hat
    have : bs = zeros := shD_inj (by rw [h1, zeros_len]) h2 zeros_in (by rw [← h4.1]; exact hat)
    subst this
    exact ⟨hrun, zeros_len, zeros_in⟩
theorem splice_zero (old ds : List Int) (ca : Nat) (h : ca ≤ ds.length) : splice (u8s old) 0 (u8s (ds.take ca)) = u8s (ds.take ca ++ old.drop ca) := by
  have e : (u8s (ds.take ca)).length = ca := by simp [u8s]; omega
  unfold splice
  rw [e]
  simp only [List.take_zero, List.nil_append, Nat.zero_add, u8s, List.map_append, List.map_drop]
theorem infoSh : (Tryz.prog.info? 82).map (·.size) = some 128 := by kernel_rfl
theorem lenSheet : Tryz.prog.arrayLen 82 = 128 := by kernel_rfl
theorem arrSheet : Tryz.prog.underlying 82 = some (.array (Tryz.prog.arrayLen 82) (Tryz.prog.elem 82)) := by kernel_rfl
theorem elemSheet : Tryz.prog.elem 82 = 5 := by kernel_rfl
theorem run_sliceS (g ca : Nat) (w : World) (h : ca ≤ 128) : (Instr.sliceAt 82 (.pointer (some ⟨g, 0, none⟩)) none (some (.int .i64 (ca : Int))) none).run Tryz.prog w = .ok (.slice (some ⟨g, 0, none⟩) ca 128) w := by
  have h2 : (ca : Int) ≤ Tryz.prog.arrayLen 82 := by rw [lenSheet]; omega
  rw [run_sliceAt_array_h w 82 _ arrSheet .i64 (ca : Int) (by omega) h2, elemSheet, show (sizeOf 5).run Tryz.prog w = .ok 1 w by kernel_rfl]
  simp [slicedAt, go_sem, Addr.add]
theorem MapS.to {w w' : World} {mb k : Nat} {D : DataW Unit} (h : MapS w mb k D) (hb : w'.heap[mb]? = w.heap[mb]?) : MapS w' mb k D := by
  obtain ⟨es, clock, hb', F, hs, hD⟩ := h
  exact ⟨es, clock, hb.trans hb', F, hs, hD⟩
theorem write_rep {D : DataW Unit} {S : ByteArray → Int → Option (List Int)} {nm : ByteArray} {L pg : Nat} {ds : List Int} {ca : Nat} (h : RepS D (fillS S nm L pg)) (hD : IsMap D) (hnm : nm.size ≤ maxLen) (hp : (Lit.int .i64 (pg : Int)).wf = true) : RepS (D.put (kPl nm pg) (shD (ds.take ca ++ (oldS S nm pg).drop ca))) (writeS S nm L pg ds ca) :=
  (h.put hD hnm hp _).congr fun nm' t => rfl
set_option maxHeartbeats 3200000 in
theorem write_any (nm : ByteArray) (hnm : nm.size ≤ maxLen) (pg ca L mb q : Nat) (pa : Option Addr) (pc : Nat) (ds : List Int) (D : DataW Unit) (S : ByteArray → Int → Option (List Int)) (w : World) (A B : Nat) (hB : B ≤ w.heap.size) (hby : BytesAt w A B pa 128 pc ds) (hmbA : mb < A ∨ B ≤ mb) (hca : ca ≤ 128) (hpg : pg ≤ 1048576) (hq : q ≤ 1073741824) (hM : MapS w mb q D) (hR : RepS D S) (hL : ∀ t : Nat, (∃ bs, S nm t = some bs) ↔ t < L) (hbs : ∀ t bs, S nm t = some bs → bs.length = 128 ∧ ∀ x ∈ bs, 0 ≤ x ∧ x ≤ 255) :
    Calls Tryz.prog 33 #[.map (some mb), .agg #[.string nm, .int .i64 pg, .slice pa 128 pc], .int .i64 ca] w fun e w' => e = .returned (.tuple #[]) ∧ ∃ (q' : Nat) (D' : DataW Unit), q' ≤ q + pg + 1 ∧ MapS w' mb q' D' ∧ RepS D' (writeS S nm L pg ds ca) ∧ Fr (fun x => x = mb) w w' := by
  have hmb : mb < w.heap.size := World.ownsMap.lt hM
  have hb0 : Below w.heap.size w ((w.alloc (.cells #[.string nm, .int .i64 pg, .slice pa 128 pc] 73)).alloc (.cells #[.string nm, .int .i64 pg] 84)) := ((Below.refl _ _).alloc (Nat.le_refl _) _).alloc (by simp) _
  have k0 : ((w.alloc (.cells #[.string nm, .int .i64 pg, .slice pa 128 pc] 73)).alloc (.cells #[.string nm, .int .i64 pg] 84)).heap[w.heap.size]? = some (.cells #[.string nm, .int .i64 pg, .slice pa 128 pc] 73) := by rw [heap_alloc_old _ _ (by simp)]; exact heap_alloc_new _ _
  have k1 : ((w.alloc (.cells #[.string nm, .int .i64 pg, .slice pa 128 pc] 73)).alloc (.cells #[.string nm, .int .i64 pg] 84)).heap[w.heap.size + 1]? = some (.cells #[.string nm, .int .i64 pg] 84) := by have := heap_alloc_new (w.alloc (.cells #[.string nm, .int .i64 pg, .slice pa 128 pc] 73)) (.cells #[.string nm, .int .i64 pg] 84); simpa using this
  have hM0 : MapS ((w.alloc (.cells #[.string nm, .int .i64 pg, .slice pa 128 pc] 73)).alloc (.cells #[.string nm, .int .i64 pg] 84)) mb q D := World.ownsMap.alloc (World.ownsMap.alloc hM _) _
  have hsz0 : ((w.alloc (.cells #[.string nm, .int .i64 pg, .slice pa 128 pc] 73)).alloc (.cells #[.string nm, .int .i64 pg] 84)).heap.size = w.heap.size + 2 := by simp
  have hpw : (Lit.int .i64 (pg : Int)).wf = true := WalkArith.wf_i64 (by omega)
  go_enter Tryz.func33, Tryz.ntmps33
  go_wp2_with fail
  generalize ((w.alloc (.cells #[.string nm, .int .i64 pg, .slice pa 128 pc] 73)).alloc (.cells #[.string nm, .int .i64 pg] 84)) = W0 at hb0 k0 k1 hM0 hsz0 ⊢
  refine (fillBefore_any nm hnm pg L mb q D S W0 hpg hq hM0 hR hL hbs).mono ?_
  rintro e w4 ⟨rfl, q4, D4, hq4, hM4, hR4, hF4⟩
  have hs4 := hF4.size
  have j0 := (hF4.block w.heap.size (by omega) (by omega)).trans k0
  have j1 := (hF4.block (w.heap.size + 1) (by omega) (by omega)).trans k1
  obtain ⟨c0, c1, c2⟩ := box_threeC j0
  obtain ⟨d0, d1⟩ := box_two2D j1
  have hSp : fillS S nm L pg nm (pg : Int) = S nm (pg : Int) := by unfold fillS; rw [if_neg (fun h => by omega)]
  obtain ⟨hlk, hol, hor⟩ := look_plF (nm := nm) (pg := (pg : Int)) hM4 hR4 hnm hpw (fun bs hb => by rw [hSp] at hb; exact hbs _ _ hb)
  have hoe : oldS (fillS S nm L pg) nm (pg : Int) = oldS S nm (pg : Int) := by unfold oldS; rw [hSp]
  rw [hoe] at hlk hol hor
  obtain ⟨old, hold⟩ : ∃ old, old = oldS S nm (pg : Int) := ⟨_, rfl⟩
  rw [← hold] at hlk hol hor
  have HOLD : Hid (old = oldS S nm (pg : Int)) := hold
  have hul : (u8s old).length = 128 := by simp [u8s, hol]
  have hst := storeCells_new w4 old hol
  have hl0 : w.heap.size < w4.heap.size := by omega
  have hl1 : w.heap.size + 1 < w4.heap.size := by omega
  clear hold hoe hSp k0 k1 hM0
  go_wp2_with fail
  have hal : Below w4.heap.size w4 (w4.alloc (.cells (u8s old).toArray 82)) := (Below.refl _ _).alloc (Nat.le_refl _) _
  have hg5 := heap_alloc_new w4 (.cells (u8s old).toArray 82)
  have i0 := (hal.block w.heap.size hl0).trans j0
  have i1 := (hal.block (w.heap.size + 1) hl1).trans j1
  have hM5 : MapS (w4.alloc (.cells (u8s old).toArray 82)) mb q4 D4 := World.ownsMap.alloc hM4 _
  have hF5 : Fr (fun x => x = mb) w (w4.alloc (.cells (u8s old).toArray 82)) := ((Fr.of_below hb0).trans hF4).trans (Fr.of_below hal)
  clear c0 c1 c2 d0 d1 hlk hst hF4 hal j0 j1 hM4
  generalize w4.alloc (.cells (u8s old).toArray 82) = w5 at hg5 i0 i1 hM5 hF5 ⊢
  have hl5 : w4.heap.size < w5.heap.size := (Array.getElem?_eq_some_iff.1 hg5).1
  have S5 : w5.cell? ⟨w.heap.size, 2, none⟩ = some (.slice pa 128 pc) := (box_threeC i0).2.2
  have hdl : ds.length = 128 := hby.1
  have hcl : (u8s (ds.take ca)).length = Nat.min 128 ca := by simp only [u8s, List.length_map, List.length_take, hdl]; show min ca 128 = min 128 ca; omega
  have hcf : 0 + (u8s (ds.take ca)).length ≤ (u8s old).length := by rw [hul]; simp [u8s]; omega
  have hc1 : ∀ v ∈ u8s (ds.take ca), v.oneCell' = true := by intro v hv; simp only [u8s, List.mem_map] at hv; obtain ⟨x, _, rfl⟩ := hv; rfl
  have hcp : 0 < (u8s (ds.take ca)).length → (some (⟨w4.heap.size, 0, none⟩ : Addr)) = some ⟨w4.heap.size, 0, none⟩ ∧ ∃ ad, pa = some ad ∧ ∀ j v, (u8s (ds.take ca))[j]? = some v → w5.drew.cell? (ad.add j) = some v := by
    intro _
    obtain ⟨b, off, rfl, hb, hc⟩ := hby.2.2.2.2.1 (by omega)
    refine ⟨rfl, _, rfl, fun j v hv => ?_⟩
    rw [Addr.add_mid]
    have hj : j < ca := by have := (List.getElem?_eq_some_iff.1 hv).1; simp [u8s] at this; omega
    have h1 : w5.cell? ⟨b, off + j, none⟩ = w.cell? ⟨b, off + j, none⟩ := World.cell?_of_block (hF5.block b (by omega) (by omega))
    show w5.cell? _ = _
    rw [h1, hc j (by omega), ← hv]
    have hjd : j < ds.length := by omega
    simp only [u8s, List.getElem?_map, List.getElem?_take_of_lt hj, List.getElem?_eq_getElem hjd, Option.map_some, List.getD, Option.getD_some]
  refine wp_region_noPanic ?_
  refine wp_region_held_drew (S := (fun w' => w'.cell? ⟨w.heap.size, 2, none⟩ = some (.slice pa 128 pc))) (by kernel_rfl) ?_ (fun hHeld => ?_)
  · exact S5
  refine wpAnyH_take (i := 0) (oi := { dst := some 19, op := Op.move (Operand.tmp 2), type := 2, pos := "l1_disk.go:249", after := #[], guard := none }) (v := ?_) rfl (by kernel_rfl) (by kernel_rfl) (by kernel_rfl) (fun _ _ _ h => h) (Or.inl ⟨by rfl, ?_⟩) (by assumption) ?_
  rotate_left 1
  · intro w hSw; (try dsimp only at hSw); go_simp; try (with_reducible rfl)
  try simp only [Act.put, List.setIfInBounds_toArray, List.set_cons_zero, List.set_cons_succ]
  refine wpAnyH_take (i := 1) (oi := { dst := some 20, op := Op.slice 82 (Operand.tmp 7) none (some (Operand.tmp 19)) none, type := 43, pos := "l1_disk.go:249", after := #[{ on := 0, ground := Ground.data }], guard := none }) (v := .slice (some ⟨w4.heap.size, 0, none⟩) ca 128) rfl (by kernel_rfl) (by kernel_rfl) (by kernel_rfl) (fun _ _ _ h => h) (Or.inl ⟨by rfl, ?_⟩) (by assumption) ?_
  · intro w hSw; (try dsimp only at hSw); have hsl := run_sliceS w4.heap.size ca w hca; go_simp
  try simp only [Act.put, List.setIfInBounds_toArray, List.set_cons_zero, List.set_cons_succ]
  refine wpAnyH_take (i := 2) (oi := { dst := some 21, op := Op.fieldAddr 73 (Operand.tmp 4) 2, type := 0, pos := "l1_disk.go:249", after := #[], guard := none }) (v := ?_) rfl (by kernel_rfl) (by kernel_rfl) (by kernel_rfl) (fun _ _ _ h => h) (Or.inl ⟨by rfl, ?_⟩) (by assumption) ?_
  rotate_left 1
  · intro w hSw; (try dsimp only at hSw); go_simp; try (with_reducible rfl)
  try simp only [Act.put, List.setIfInBounds_toArray, List.set_cons_zero, List.set_cons_succ]
  refine wpAnyH_take (i := 3) (oi := { dst := some 22, op := Op.load 43 (Operand.tmp 21), type := 43, pos := "l1_disk.go:249", after := #[{ on := 2, ground := Ground.data }], guard := none }) (v := ?_) rfl (by kernel_rfl) (by kernel_rfl) (by kernel_rfl) (fun _ _ _ h => h) (Or.inl ⟨by rfl, ?_⟩) (by assumption) ?_
  rotate_left 1
  · intro w hSw; (try dsimp only at hSw); go_simp; try (with_reducible rfl)
  try simp only [Act.put, List.setIfInBounds_toArray, List.set_cons_zero, List.set_cons_succ]
  refine wpAnyH_ready (rs := [4]) (by kernel_rfl) (by simp) ?_
  refine AllReadyH.cons (o := { dst := some 23, op := Op.call { callee := Callee.builtin Builtin.copy, args := #[Operand.tmp 20, Operand.tmp 22], argTypes := #[43, 43] }, type := 3, pos := "l1_disk.go:249", after := #[{ on := 1, ground := Ground.data }, { on := 3, ground := Ground.data }], guard := none }) rfl (fun K hK => ?_) ?_
  rotate_left 1
  exact AllReadyH.nil
  · refine step_copy_splice rfl (.tmp 20) (.tmp 22) 43 43 rfl 5 Tryz.underlying43 infoU8 _ _ ca 128 128 pc (by simp [Act.eval]) (by simp [Act.eval]) w4.heap.size 0 (u8s old) 82 hg5 (u8s (ds.take ca)) hcl hcp hcf hc1 w4.heap.size w5 ((Below.refl _ w5).drew) (by omega) ?_
    intro w6 hg6 hb6
    have S6 : (fun w' => w'.cell? ⟨w.heap.size, 2, none⟩ = some (.slice pa 128 pc)) w6 := (World.cell?_of_block (hb6.block w.heap.size (by omega))).trans S5
    refine hK.out _ _ S6 (fun hHeld => ?_)
    clear hK K
    try simp only [Act.put, List.setIfInBounds_toArray, List.set_cons_zero, List.set_cons_succ]
    refine wpAnyH_done (by kernel_rfl) ?_ _
    refine NoPanic.normal ?_
    have hsp : splice (u8s old) 0 (u8s (ds.take ca)) = u8s (ds.take ca ++ old.drop ca) := splice_zero old ds ca (by omega)
    have HG6 := hg6.out
    rw [hsp] at HG6
    obtain ⟨nb, hnb⟩ : ∃ nb, nb = ds.take ca ++ old.drop ca := ⟨_, rfl⟩
    rw [← hnb] at HG6
    have hnl : nb.length = 128 := by rw [hnb, List.length_append, List.length_take, List.length_drop, hdl, hol]; omega
    have hnr : ∀ x ∈ nb, 0 ≤ x ∧ x ≤ 255 := by
      intro x hx
      rw [hnb] at hx
      rcases List.mem_append.1 hx with h1 | h1
      · exact hby.2.2.2.1 x (List.mem_of_mem_take h1)
      · exact hor x (List.mem_of_mem_drop h1)
    have HNB : Hid (nb = ds.take ca ++ old.drop ca) := hnb
    have hs6 := hb6.size
    have i6 := (hb6.block (w.heap.size + 1) (by omega)).trans i1
    have HG : w6.heap[w4.heap.size]? = some (.cells (u8s nb).toArray 82 (0, 0)) := HG6
    have hrg : w6.rangeAt w4.heap.size 0 (u8s nb) := fun j v hv => by rw [Nat.zero_add, cell_of_row w6 w4.heap.size j _ _ _ HG]; simpa using hv
    obtain ⟨d0, d1⟩ := box_two2D i6
    have hmb4 : mb < w4.heap.size := by omega
    have hM6 : MapS w6 mb q4 D4 := hM5.to (hb6.block mb hmb4)
    have hF6 : Fr (fun x => x = mb) w w6 := ⟨hb6.os.trans hF5.os, hb6.tape.trans hF5.tape, hb6.output.trans hF5.output, Nat.le_trans hF5.size hs6, fun g hg hS => (hb6.block g (by omega)).trans (hF5.block g hg hS)⟩
    obtain ⟨wu, hrun, hMu, hgu⟩ := World.ownsMap.update hM6 lawPl Tryz.underlying49 (by unfold maxLen; omega) (keyOf_pl hnm hpw) (val := .agg (u8s nb).toArray) (sheetR_mk hnl hnr)
    have UF : Fr (fun x => x = mb) w wu := hF6.trans (Fr.of_grown hgu (fun x e => by injection e with e; exact e.symm))
    have UR : Hid (RepS (D4.put (kPl nm (pg : Int)) (shD nb)) (writeS S nm L pg ds ca)) := by
      have := write_rep (ds := ds) (ca := ca) hR4 (World.ownsMap.isMap hM6) hnm hpw
      rw [← HOLD.out, ← HNB.out] at this
      exact this
    clear hgu hF6 hM6 hM5 hF5 hg6 hb6 HG6 hsp hHeld i0 i1 hg5 hcp hcf hc1 hcl S5 S6 hb0 hnb
    go_wp2_with fail
    rename_i hKK
    refine wp_load_mid 82 (.tmp 7) rfl w4.heap.size 0 (by simp [Act.eval]) (u8s nb) _ hrg Tryz.underlying82 rfl (by rw [infoSh]; simp [u8s, hnl]) (hKK _ _ ?_)
    clear hKK
    simp only [Act.put, List.setIfInBounds_toArray, List.set_cons_zero, List.set_cons_succ]
    go_wp2_with fail
    exact bodyPost_end (v := .tuple #[]) (by simp [results, Tryz.results33, go_sem]) rfl ⟨rfl, q4 + 1, _, by omega, hMu, UR.out, UF⟩
end Go.Proofs.YtnpndbicmamggaaGreat
namespace Go.Proofs.YtnpndbicmamggaaGreat
open Go.RowKit Go.Maps
set_option linter.unusedVariables false
set_option maxRecDepth 100000

/-- The bytes of the file of a name. -/
def dataN (fs : List PF) (nm : ByteArray) : List Int := if findN fs nm < fs.length then (fs.getD (findN fs nm) (ByteArray.empty, [])).2 else []
theorem find_at (p : PF → Bool) : ∀ fl : List PF, fl.find? p = if fl.findIdx p < fl.length then some (fl.getD (fl.findIdx p) (ByteArray.empty, [])) else none
  | [] => rfl
  | f :: r => by
    rw [List.find?_cons, List.findIdx_cons]
    cases hp : p f with
    | true => simp
    | false =>
      simp only [cond_false, List.length_cons]
      rw [find_at p r]
      by_cases h : r.findIdx p < r.length
      · rw [if_pos h, if_pos (by omega), List.getD_cons_succ]
      · rw [if_neg h, if_neg (by omega)]
theorem pageOf_data (fl : List PF) (nm : ByteArray) (pg : Int) : pageOf fl nm pg = pageF (dataN fl nm) pg := by
  unfold pageOf dataN
  rw [find_at]
  show (match (if findN fl nm < fl.length then some (fl.getD (findN fl nm) (ByteArray.empty, [])) else none) with | some f => pageF f.2 pg | none => none) = _
  by_cases h : findN fl nm < fl.length
  · rw [if_pos h, if_pos h]
  · rw [if_neg h, if_neg h]
    exact (pageF_none pg (fun _ => trivial)).symm
theorem dataN_of {fs : List PF} (h : Inv fs) {i : Nat} (hi : i < fs.length) : dataN fs (fs.getD i (ByteArray.empty, [])).1 = (fs.getD i (ByteArray.empty, [])).2 := by
  unfold dataN
  rw [findN_of h hi, if_pos hi]
theorem dataN_none {fs : List PF} {nm : ByteArray} (h : ¬ findN fs nm < fs.length) : dataN fs nm = [] := by unfold dataN; rw [if_neg h]
theorem dataN_len {fs : List PF} (h : Inv fs) (nm : ByteArray) : (dataN fs nm).length % 128 = 0 ∧ lenI fs nm = ((dataN fs nm).length : Int) / 128 := by
  unfold dataN lenI
  by_cases hf : findN fs nm < fs.length
  · rw [if_pos hf, if_pos hf]; exact ⟨(h.pg _ hf).2, rfl⟩
  · rw [if_neg hf, if_neg hf]; exact ⟨rfl, rfl⟩
theorem withName_data2 (fs : List PF) (nm : ByteArray) : ((withName fs nm).getD (findN (withName fs nm) nm) (ByteArray.empty, [])).2 = dataN fs nm := by
  by_cases h : findN fs nm < fs.length
  · have : withName fs nm = fs := by unfold withName; rw [if_pos h]
    rw [this]; unfold dataN; rw [if_pos h]
  · rw [dataN_none h]
    have := withName_data fs nm
    rw [if_neg h] at this
    exact List.length_eq_zero_iff.1 this
theorem doP_data {fs : List PF} {nm : ByteArray} {pg : Nat} {bs : List Int} (h : Inv fs) (x : ByteArray) : dataN (doP fs nm pg bs) x = if x = nm then doData (dataN fs nm) pg bs else dataN fs x := by
  obtain ⟨m1, m2, m3⟩ := withName_mem (nm := nm) h
  have hi' := doP_inv (nm := nm) (pg := pg) (bs := bs) h
  have hw := findN_with fs nm
  by_cases hx : x = nm
  · rw [if_pos hx]
    subst hx
    have hn : ((doP fs x pg bs).getD (findN (withName fs x) x) (ByteArray.empty, [])).1 = x := by rw [doP_name _ hw]; exact findN_name hw
    have e1 := dataN_of hi' (i := findN (withName fs x) x) (by rw [doP_len2]; exact hw)
    rw [hn] at e1
    rw [e1, doP_get, if_pos rfl, withName_data2]
  · rw [if_neg hx]
    by_cases hf : findN fs x < fs.length
    · obtain ⟨k, hk, hkx⟩ := findN_iff.1 hf
      obtain ⟨i, hil, hie⟩ := m3 k hk
      have hne : i ≠ findN (withName fs nm) nm := fun e => hx (by rw [← hkx, ← hie, e]; exact findN_name hw)
      have e1 := dataN_of hi' (i := i) (by rw [doP_len2]; exact hil)
      rw [doP_get, if_neg hne, hie, hkx] at e1
      have e2 := dataN_of h hk
      rw [hkx] at e2
      rw [e1, e2]
    · rw [dataN_none hf, dataN_none (fun hd => ((doP_found h x).1 hd).elim hx hf)]
theorem overTo_get (l : List Int) (off : Nat) (bs : List Int) (k j : Nat) (hk : off + k ≤ l.length) : (overTo l off bs k).getD j 0 = if off ≤ j ∧ j < off + k then bs.getD (j - off) 0 else l.getD j 0 := by
  induction k with
  | zero => rw [if_neg (by omega)]; rfl
  | succ k ih =>
    have ih := ih (by omega)
    show ((overTo l off bs k).set (off + k) (bs.getD k 0)).getD j 0 = _
    by_cases e : j = off + k
    · subst e
      rw [if_pos (by omega), show off + k - off = k by omega]
      simp only [List.getD, List.getElem?_set, overTo_len]
      rw [if_pos trivial, if_pos (by omega)]
      rfl
    · have : ((overTo l off bs k).set (off + k) (bs.getD k 0)).getD j 0 = (overTo l off bs k).getD j 0 := by
        simp only [List.getD, List.getElem?_set]
        rw [if_neg (fun e2 => e e2.symm)]
      rw [this, ih]
      by_cases h2 : off ≤ j ∧ j < off + k
      · rw [if_pos h2, if_pos (by omega)]
      · rw [if_neg h2, if_neg (by omega)]
theorem doData_get {l : List Int} {pg : Nat} {bs : List Int} (hb : bs.length = 128) (j : Nat) : (doData l pg bs).getD j 0 = if pg * 128 ≤ j ∧ j < pg * 128 + 128 then bs.getD (j - pg * 128) 0 else l.getD j 0 := by
  unfold doData
  rw [hb, overTo_get _ _ _ _ _ (by rw [extZ_len]; omega)]
  congr 1
  unfold extZ
  by_cases h : j < l.length
  · simp only [List.getD, List.getElem?_append_left h]
  · simp only [List.getD, List.getElem?_append_right (Nat.le_of_not_lt h), List.getElem?_eq_none (Nat.le_of_not_lt h), List.getElem?_replicate]
    split <;> rfl
theorem part_eq {a b : List Int} {i : Nat} (ha : i + 128 ≤ a.length) (hb : i + 128 ≤ b.length) (h : ∀ j, i ≤ j → j < i + 128 → a.getD j 0 = b.getD j 0) : (a.drop i).take 128 = (b.drop i).take 128 := by
  apply List.ext_getElem (by simp; omega)
  intro j h1 h2
  simp at h1
  have := h (i + j) (by omega) (by omega)
  simp only [List.getD, List.getElem?_eq_getElem (show i + j < a.length by omega), List.getElem?_eq_getElem (show i + j < b.length by omega), Option.getD_some] at this
  simpa using this
theorem doData_page {l : List Int} {pg : Nat} {bs : List Int} (hl : l.length % 128 = 0) (hp : (pg : Int) ≤ (l.length : Int) / 128) (hb : bs.length = 128) (t : Int) : pageF (doData l pg bs) t = if t = (pg : Int) then some bs else pageF l t := by
  have hlen := doData_len l pg bs
  unfold pageF
  by_cases ht : t = (pg : Int)
  · subst ht
    rw [if_pos rfl, if_pos (by rw [hlen]; omega)]
    congr 1
    apply List.ext_getElem (by simp only [List.length_take, List.length_drop, hlen, hb, Int.toNat_natCast]; omega)
    intro j h1 h2
    have hg := doData_get (l := l) (pg := pg) hb (pg * 128 + j)
    rw [if_pos (by omega), show pg * 128 + j - pg * 128 = j by omega] at hg
    simp only [List.getD, List.getElem?_eq_getElem h2, List.getElem?_eq_getElem (show pg * 128 + j < (doData l pg bs).length by rw [hlen]; omega), Option.getD_some] at hg
    simpa using hg
  · rw [if_neg ht]
    by_cases hc : 0 ≤ t ∧ t * 128 + 128 ≤ l.length
    · rw [if_pos hc, if_pos (by rw [hlen]; omega)]
      obtain ⟨u, rfl⟩ := Int.eq_ofNat_of_zero_le hc.1
      congr 1
      refine part_eq (by rw [hlen]; simp only [Int.toNat_natCast]; omega) (by simp only [Int.toNat_natCast]; omega) (fun j h1 h2 => ?_)
      rw [doData_get hb, if_neg (fun h => ?_)]
      simp only [Int.toNat_natCast] at h1 h2
      omega
    · rw [if_neg hc, if_neg (by rw [hlen]; omega)]
/-- All bytes are bytes. -/
def ByteF (fs : List PF) : Prop := ∀ nm, ∀ x ∈ dataN fs nm, 0 ≤ x ∧ x ≤ 255
theorem ByteF.do {fs : List PF} {nm : ByteArray} {pg : Nat} {bs : List Int} (h : Inv fs) (hf : ByteF fs) (hb : ∀ x ∈ bs, 0 ≤ x ∧ x ≤ 255) : ByteF (doP fs nm pg bs) := by
  intro x
  rw [doP_data h]
  by_cases hx : x = nm
  · rw [if_pos hx]; exact overTo_byte _ _ _ _ (extZ_byte _ _ (hf nm)) hb
  · rw [if_neg hx]; exact hf x
theorem page_byte {fs : List PF} (hf : ByteF fs) (nm : ByteArray) (t : Int) (bs : List Int) (h : pageOf fs nm t = some bs) : bs.length = 128 ∧ ∀ x ∈ bs, 0 ≤ x ∧ x ≤ 255 := by
  rw [pageOf_data] at h
  obtain ⟨h1, h2⟩ := pageF_len h
  exact ⟨h1, fun x hx => hf nm x (h2 x hx)⟩
theorem page_there {fs : List PF} (h : Inv fs) (nm : ByteArray) (t : Nat) : (∃ bs, pageOf fs nm t = some bs) ↔ t < (lenI fs nm).toNat := by
  obtain ⟨h1, h2⟩ := dataN_len h nm
  rw [pageOf_data, h2]
  unfold pageF
  by_cases hc : 0 ≤ (t : Int) ∧ (t : Int) * 128 + 128 ≤ (dataN fs nm).length
  · rw [if_pos hc]; exact ⟨fun _ => by omega, fun _ => ⟨_, rfl⟩⟩
  · rw [if_neg hc]; exact ⟨fun e => (by obtain ⟨_, e⟩ := e; cases e), fun e => by omega⟩
/-- A whole write, done to the map of sheets, is the write done to the files. -/
theorem do_write {fs : List PF} {nm : ByteArray} {pg : Nat} {bs : List Int} (h : Inv fs) (hp : (pg : Int) ≤ lenI fs nm) (hb : bs.length = 128) (nm' : ByteArray) (t : Int) : pageOf (doP fs nm pg bs) nm' t = writeS (pageOf fs) nm (lenI fs nm).toNat pg bs 128 nm' t := by
  obtain ⟨h1, h2⟩ := dataN_len h nm
  unfold writeS
  have ho : (oldS (pageOf fs) nm pg).drop 128 = [] := by
    apply List.drop_eq_nil_of_le
    unfold oldS
    cases hS : pageOf fs nm pg with
    | some cs => rw [pageOf_data] at hS; exact Nat.le_of_eq (pageF_len hS).1
    | none => exact Nat.le_of_eq zeros_len
  rw [pageOf_data, doP_data h, ho, List.append_nil, List.take_of_length_le (by omega)]
  by_cases hn : nm' = nm
  · rw [if_pos hn, doData_page h1 (by rw [← h2]; exact hp) hb]
    by_cases ht : t = (pg : Int)
    · rw [if_pos ht, if_pos ⟨hn, ht⟩]
    · rw [if_neg ht, if_neg (fun e => ht e.2)]
      unfold fillS
      rw [if_neg (fun e => by omega), pageOf_data, hn]
  · rw [if_neg hn, if_neg (fun e => hn e.1)]
    unfold fillS
    rw [if_neg (fun e => hn e.1), pageOf_data]
end Go.Proofs.YtnpndbicmamggaaGreat
namespace Go.Proofs.YtnpndbicmamggaaGreat
open Go.RowKit Go.Maps
set_option linter.unusedVariables false
set_option maxRecDepth 100000

/-- What reading a meta answers. -/
structure MR where
  ok : Bool
  tx : Int
  id : Int
  root : Int
  count : Int
def mZ : MR := ⟨false, 0, 0, 0, 0⟩
def mStep (bs : List Int) (j : Nat) (s : MR) : MR := if (New.decR bs).2.kind = 1 ∧ (New.decR bs).2.tx % 2 = (j : Int) ∧ s.tx < (New.decR bs).2.tx then ⟨true, (New.decR bs).2.tx, (New.decR bs).2.id, (New.decR bs).2.root, (New.decR bs).2.count⟩ else s
def mIter (S : Nat → List Int) : Nat → MR
  | 0 => mZ
  | k + 1 => mStep (S k) k (mIter S k)
def MR.cells (s : MR) : Array Value := #[.bool s.ok, .int .i64 s.tx, .int .i64 s.id, .int .i64 s.root, .int .i64 s.count]
/-- Page j of a file's bytes, or nothing. -/
def cutP (fb : List Int) (j : Nat) : List Int := if j * 128 + 128 ≤ fb.length then (fb.drop (j * 128)).take 128 else []
theorem decR_none {bs : List Int} (h : bs.length ≠ 128) : New.decR bs = (false, New.zPg) := by unfold New.decR; rw [if_neg (fun e => h e.1)]
theorem decR_false {bs : List Int} (h : (New.decR bs).1 = false) : (New.decR bs).2.kind = 0 := by
  unfold New.decR at h ⊢
  split at h
  · cases h
  · rename_i hc; rw [if_neg hc]; rfl
theorem decR_zeros : (New.decR zeros).2.kind = 0 := by
  have h0 : New.rN zeros 4 1 = 0 := by kernel_rfl
  unfold New.decR
  split
  · show (New.readP zeros 8 (New.rN zeros 4 1) (New.rN zeros 5 1).toNat).kind = 0
    rw [h0]
    rfl
  · rfl
theorem mStep_none {bs : List Int} (h : (New.decR bs).2.kind = 0) (j : Nat) (s : MR) : mStep bs j s = s := by
  unfold mStep
  rw [if_neg (fun e => by rw [h] at e; exact absurd e.1 (by decide))]
theorem mStep_same {bs cs : List Int} (h : bs = cs ∨ ((New.decR bs).2.kind = 0 ∧ (New.decR cs).2.kind = 0)) (j : Nat) (s : MR) : mStep bs j s = mStep cs j s := by
  rcases h with rfl | ⟨h1, h2⟩
  · rfl
  · rw [mStep_none h1, mStep_none h2]
theorem mIter_same {S T : Nat → List Int} (h : ∀ j, S j = T j ∨ ((New.decR (S j)).2.kind = 0 ∧ (New.decR (T j)).2.kind = 0)) : ∀ k, mIter S k = mIter T k
  | 0 => rfl
  | k + 1 => by simp only [mIter]; rw [mIter_same h k]; exact mStep_same (h k) k _
/-- The page as the program's map gives it, and as the file has it. -/
theorem pages_same (L : List PF) (nm : ByteArray) (k : Nat) : mIter (fun j => (pageOf L nm (j : Int)).getD zeros) k = mIter (fun j => cutP (dataN L nm) j) k := by
  refine mIter_same (fun j => ?_) k
  show (pageOf L nm (j : Int)).getD zeros = cutP (dataN L nm) j ∨ _
  rw [pageOf_data]
  unfold pageF cutP
  by_cases h : j * 128 + 128 ≤ (dataN L nm).length
  · left
    rw [if_pos h, if_pos ⟨by omega, by omega⟩]
    simp
  · right
    rw [if_neg h, if_neg (by omega)]
    exact ⟨decR_zeros, by rw [decR_none (by simp)]; rfl⟩
theorem empty_file (k : Nat) : mIter (fun j => cutP [] j) k = mZ := by
  induction k with
  | zero => rfl
  | succ k ih =>
    simp only [mIter]
    rw [ih]
    exact mStep_none (by rw [show cutP [] k = [] from if_neg (by simp), decR_none (by simp)]; rfl) _ _
/-- The stamp of what is read is no negative number. -/
theorem decR_tx {bs : List Int} (h : ∀ x ∈ bs, 0 ≤ x ∧ x ≤ 255) : 0 ≤ (New.decR bs).2.tx ∧ (New.decR bs).2.tx ≤ 4294967295 := by
  unfold New.decR
  split
  · show 0 ≤ New.rN bs 0 4 ∧ New.rN bs 0 4 ≤ 4294967295
    unfold New.rN
    have h1 := numOf_range false (l := cutL bs 0 4) (fun x hx => h x (by unfold cutL at hx; exact List.mem_of_mem_drop (List.mem_of_mem_take hx)))
    have h2 : (cutL bs 0 4).length ≤ 4 := by unfold cutL; simp; omega
    have h3 : (256 : Int) ^ (cutL bs 0 4).length ≤ 4294967296 := by
      have : (256 : Int) ^ (cutL bs 0 4).length = ((256 ^ (cutL bs 0 4).length : Nat) : Int) := by simp
      rw [this]
      have h4 : (256 : Nat) ^ (cutL bs 0 4).length ≤ 256 ^ 4 := Nat.pow_le_pow_right (by omega) h2
      omega
    omega
  · show (0 : Int) ≤ 0 ∧ (0 : Int) ≤ 4294967295
    omega
end Go.Proofs.YtnpndbicmamggaaGreat
