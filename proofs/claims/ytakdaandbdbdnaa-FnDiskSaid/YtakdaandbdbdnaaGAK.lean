import Derived.Test.YtakdaandbdbdnaaGAA
import Derived.Test.YtakdaandbdbdnaaGAI
import Derived.Test.YtakdaandbdbdnaaGAJ
import Derived.Laws.StructEq
import Derived.Laws.CopyOwn
import Derived.Deep.MidRow
import Derived.Lib.AppendStr
namespace Go.Proofs.Ytakdaandbdbdnaa
open Go.RowKit Go.Maps
set_option linter.unusedVariables false
set_option maxRecDepth 100000

theorem neq_pl (nm : ByteArray) (p p' : Int) (w : World) : (binOp .neq 89 (.agg #[.string nm, .int .i64 p]) (.agg #[.string nm, .int .i64 p'])).run Try.prog w = .ok (.bool (!(p == p'))) w := by
  have hS : Try.prog.underlying 89 = some (.struct (Try.prog.fieldsOf 89)) := by kernel_rfl
  have hp : Try.prog.stoodInHeld 89 = false := by kernel_rfl
  have u9 := Try.underlying9
  have u2 := Try.underlying2
  have a9 := Try.isAgg9
  have a2 := Try.isAgg2
  have z9 := Try.sizeOf9
  have z2 := Try.sizeOf2
  rw [run_neq_struct, show (10000 : Nat) = 9999 + 1 from rfl, run_equalIn_agg w 9999 89 _ _ hS hp]
  simp only [Program.fieldsOf, Try.underlying89]
  go_simp
  by_cases h : p = p' <;> simp [h]
def zeros : List Int := List.replicate 128 0
theorem zeros_len : zeros.length = 128 := by simp [zeros]
theorem zeros_in : ∀ x ∈ zeros, 0 ≤ x ∧ x ≤ 255 := by
  intro x hx
  have := List.eq_of_mem_replicate hx
  omega
theorem all_u8s (bs : List Int) : (u8s bs).toArray.all (·.oneCell') = true := by simp [u8s, Value.oneCell']
theorem store_new (W : World) (c : Array Value) (bs : List Int) (hc : c.size = 128) (hl : bs.length = 128) : (Instr.storeAt 86 (.pointer (some ⟨W.heap.size, 0, none⟩)) (.agg (u8s bs).toArray)).run Try.prog (W.alloc (.cells c 86)) = .ok () (W.alloc (.cells (u8s bs).toArray 86)) :=
  run_storeAt_new W 86 c (u8s bs).toArray (by rw [infoSheet]; simp [u8s, hl]) (by simp [u8s, hl, hc]) (all_u8s bs)
theorem zeroCellsN : Try.zeroCells86.size = 128 := by kernel_rfl
theorem storeCells_new (W : World) (bs : List Int) (hl : bs.length = 128) : (storeCells ⟨W.heap.size, 0, none⟩ (u8s bs)).run Try.prog (W.alloc (.cells Try.zeroCells86 86)) = .ok () (W.alloc (.cells (u8s bs).toArray 86)) := by
  have := run_storeCells_new (P := Try.prog) W 86 Try.zeroCells86 (u8s bs).toArray (by rw [infoSheet]; simp [u8s, hl]) (by rw [zeroCellsN]; simp [u8s, hl]) (all_u8s bs)
  simpa using this
theorem zeroCellsV : (Value.agg Try.zeroCells86) = sheetV zeros := by kernel_rfl
theorem Fr.late {S T : Nat → Prop} {a b c : World} (h : Fr S a b) (k : Fr T b c) (hT : ∀ g, T g → a.heap.size ≤ g) : Fr S a c :=
  ⟨k.1.trans h.1, k.2.trans h.2, k.3.trans h.3, Nat.le_trans h.size k.size, fun g hg hS => (k.block g (Nat.lt_of_lt_of_le hg h.size) (fun e => by have := hT g e; omega)).trans (h.block g hg hS)⟩
/-- Where a file has L pages, what a write at pg fills ahead of itself. -/
def fillS (S : ByteArray → Int → Option (List Int)) (nm : ByteArray) (lo pg : Nat) : ByteArray → Int → Option (List Int) := fun nm' t => if nm' = nm ∧ (lo : Int) ≤ t ∧ t < pg then some zeros else S nm' t
theorem fill_none {D : DataW Unit} {S : ByteArray → Int → Option (List Int)} {nm : ByteArray} {pg : Nat} (h : RepS D S) : RepS D (fillS S nm pg pg) := h.congr fun nm' t => by unfold fillS; rw [if_neg (fun h => by omega)]
theorem fill_stop {S : ByteArray → Int → Option (List Int)} {nm : ByteArray} {L t pg : Nat} (h : (t = pg ∨ L ≤ t)) (h2 : t ≤ L ∨ t = 0) (nm' : ByteArray) (u : Int) : fillS S nm L pg nm' u = fillS S nm t pg nm' u := by
  unfold fillS
  by_cases hn : nm' = nm
  · simp only [hn, true_and]
    by_cases h1 : (t : Int) ≤ u ∧ u < pg
    · rw [if_pos (by omega), if_pos h1]
    · rw [if_neg (by omega), if_neg h1]
  · simp only [hn, false_and, if_false]
theorem fill_step {D : DataW Unit} {S : ByteArray → Int → Option (List Int)} {nm : ByteArray} {t pg : Nat} (h : RepS D (fillS S nm (t + 1) pg)) (hD : IsMap D) (hnm : nm.size ≤ maxLen) (hp : (Lit.int .i64 (t : Int)).wf = true) (ht : t < pg) : RepS (D.put (kPl nm t) (shD zeros)) (fillS S nm t pg) :=
  (h.put hD hnm hp zeros).congr fun nm' u => by
    unfold fillS
    by_cases hn : nm' = nm
    · simp only [hn, true_and]
      by_cases h1 : u = t
      · rw [if_pos (by omega), if_pos h1]
      · rw [if_neg h1]
        by_cases h2 : (t : Int) ≤ u ∧ u < pg
        · rw [if_pos h2, if_pos (by omega)]
        · rw [if_neg h2, if_neg (by omega)]
    · simp only [hn, false_and, if_false]
/-- The number in a cell. -/
def cellN (w : World) (b o : Nat) : Nat := match w.cell? ⟨b, o, none⟩ with | some (.int _ n) => n.toNat | _ => 0
theorem guard_pl : Try.prog.eqGuardType Try.prog.depth 89 = false := by kernel_rfl
theorem look_pl {w : World} {mb q : Nat} {D : DataW Unit} {S : ByteArray → Int → Option (List Int)} {nm : ByteArray} {pg : Int} (hM : MapS w mb q D) (hR : RepS D S) (hnm : nm.size ≤ maxLen) (hp : (Lit.int .i64 pg).wf = true) (hbs : ∀ bs, S nm pg = some bs → bs.length = 128 ∧ ∀ x ∈ bs, 0 ≤ x ∧ x ≤ 255) :
    (∃ bs, S nm pg = some bs ∧ (Instr.lookup 80 (.map (some mb)) (.agg #[.string nm, .int .i64 pg]) true).run Try.prog w = .ok (.tuple #[.agg (u8s bs).toArray, .bool true]) w) ∨ (S nm pg = none ∧ (Instr.lookup 80 (.map (some mb)) (.agg #[.string nm, .int .i64 pg]) true).run Try.prog w = .ok (.tuple #[.agg (u8s zeros).toArray, .bool false]) w) := by
  obtain ⟨v, pl, hrun, hv⟩ := World.ownsMap.look_ok hM lawPl Try.underlying80 (zeroSheet w) (sheetR_mk zeros_len zeros_in) (keyOf_pl hnm hp)
  obtain ⟨bs, h1, h2, rfl, h4⟩ := sheetR_inv hv
  simp only [Prod.mk.injEq] at h4
  have hat := hR nm pg hnm hp
  cases hS : S nm pg with
  | some cs =>
    left
    rw [hS] at hat
    have e : Maps.has D (kPl nm pg) = true := has_true_of_atKey hat
    rw [e] at hrun
    obtain ⟨c1, c2⟩ := hbs cs hS
    have : bs = cs := shD_inj (by omega) h2 c2 (by rw [← h4.1]; exact hat _)
    subst this
    exact ⟨bs, rfl, hrun⟩
  | none =>
    right
    rw [hS] at hat
    have e : Maps.has D (kPl nm pg) = false := has_false_of_atKey hat
    rw [e] at hrun
    have : bs = zeros := shD_inj (by rw [h1, zeros_len]) h2 zeros_in (by rw [← h4.1]; exact hat _)
    subst this
    exact ⟨rfl, hrun⟩
set_option maxHeartbeats 3200000 in
theorem fillBefore_any (nm : ByteArray) (hnm : nm.size ≤ maxLen) (pg L mb q : Nat) (D : DataW Unit) (S : ByteArray → Int → Option (List Int)) (w : World) (hpg : pg ≤ 1048576) (hq : q ≤ 1073741824) (hM : MapS w mb q D) (hR : RepS D S) (hL : ∀ t : Nat, (∃ bs, S nm t = some bs) ↔ t < L) (hbs : ∀ t bs, S nm t = some bs → bs.length = 128 ∧ ∀ x ∈ bs, 0 ≤ x ∧ x ≤ 255) :
    Calls Try.prog 82 #[.map (some mb), .agg #[.string nm, .int .i64 pg]] w fun e w' => e = .returned (.tuple #[]) ∧ ∃ (q' : Nat) (D' : DataW Unit), q' ≤ q + pg ∧ MapS w' mb q' D' ∧ RepS D' (fillS S nm L pg) ∧ Fr (fun x => x = mb) w w' := by
  have hmb : mb < w.heap.size := World.ownsMap.lt hM
  have hb0 : Below w.heap.size w ((w.alloc (.cells #[.string nm, .int .i64 pg] 89)).alloc (.cells #[.string nm, .int .i64 0] 89)) := ((Below.refl _ _).alloc (Nat.le_refl _) _).alloc (by simp) _
  have k0 : ((w.alloc (.cells #[.string nm, .int .i64 pg] 89)).alloc (.cells #[.string nm, .int .i64 0] 89)).heap[w.heap.size]? = some (.cells #[.string nm, .int .i64 pg] 89) := by rw [heap_alloc_old _ _ (by simp)]; exact heap_alloc_new _ _
  have k1 : ((w.alloc (.cells #[.string nm, .int .i64 pg] 89)).alloc (.cells #[.string nm, .int .i64 0] 89)).heap[w.heap.size + 1]? = some (.cells #[.string nm, .int .i64 0] 89) := by have := heap_alloc_new (w.alloc (.cells #[.string nm, .int .i64 pg] 89)) (.cells #[.string nm, .int .i64 0] 89); simpa using this
  have hM0 : Hid (MapS ((w.alloc (.cells #[.string nm, .int .i64 pg] 89)).alloc (.cells #[.string nm, .int .i64 0] 89)) mb q D) := World.ownsMap.alloc (World.ownsMap.alloc hM _) _
  have HR : Hid (RepS D S) := hR
  have HL : Hid (∀ t : Nat, (∃ bs, S nm t = some bs) ↔ t < L) := hL
  have HBS : Hid (∀ t bs, S nm t = some bs → bs.length = 128 ∧ ∀ x ∈ bs, 0 ≤ x ∧ x ≤ 255) := hbs
  have F0 : Hid (Fr (fun x => x = mb) w ((w.alloc (.cells #[.string nm, .int .i64 pg] 89)).alloc (.cells #[.string nm, .int .i64 0] 89))) := Fr.of_below hb0
  clear hM hR hL hbs
  go_enter Try.func82, Try.ntmps82
  go_wp2
  have hsz0 : w.heap.size + 1 < ((w.alloc (.cells #[.string nm, .int .i64 pg] 89)).alloc (.cells #[.string nm, .int .i64 0] 89)).heap.size := (Array.getElem?_eq_some_iff.1 k1).1
  generalize ((w.alloc (.cells #[.string nm, .int .i64 pg] 89)).alloc (.cells #[.string nm, .int .i64 0] 89)) = W0 at hb0 k0 k1 hM0 F0 hsz0 ⊢
  go_loopw [5, 6] (fun _ _ wr => ∃ (t q2 : Nat) (D2 : DataW Unit), t ≤ pg ∧ (t = pg ∨ L ≤ t) ∧ q2 + t ≤ q + pg ∧ Hid (MapS wr mb q2 D2) ∧ Hid (RepS D2 (fillS S nm t pg)) ∧ Hid (Fr (fun x => x = mb) w wr) ∧ Hid (wr.heap[w.heap.size]? = some (.cells #[.string nm, .int .i64 t] 89)) ∧ Hid (wr.heap[w.heap.size + 1]? = some (.cells #[.string nm, .int .i64 0] 89))) (fun _ _ wr => cellN wr w.heap.size 1)
  case atStart => exact ⟨pg, q, D, Nat.le_refl _, .inl rfl, Nat.le_refl _, hM0, fill_none HR.out, F0, k0, k1⟩
  case round =>
    obtain ⟨t, q2, D2, ht, htL, hq2, HM, HRp, HFr, HK0, HK1⟩ := hrel
    obtain ⟨c0, c1⟩ := box_two2D HK0.out
    obtain ⟨d0, d1⟩ := box_two2D HK1.out
    have fz := box_thawC HK0.out
    have hl1 : w.heap.size + 1 < wr.heap.size := (Array.getElem?_eq_some_iff.1 HK1.out).1
    have hl0 : w.heap.size < wr.heap.size := by omega
    have hne := neq_pl nm (t : Int) 0
    have hgd := guard_pl
    by_cases h0 : t = 0
    · subst h0
      have R0 : RepS D2 (fillS S nm L pg) := HRp.out.congr fun nm' u => fill_stop htL (.inr rfl) nm' u
      have hne0 : ∀ w : World, (binOp .neq 89 (.agg #[.string nm, .int .i64 0]) (.agg #[.string nm, .int .i64 0])).run Try.prog w = .ok (.bool false) w := fun w => neq_pl nm 0 0 w
      clear hne
      go_wp2
      exact bodyPost_end (v := .tuple #[]) (by simp [results, Try.results82, go_sem]) rfl ⟨rfl, q2, D2, by omega, HM.out, R0, HFr.out⟩
    · obtain ⟨s, rfl⟩ : ∃ s, t = s + 1 := ⟨t - 1, by omega⟩
      have hne1 : ∀ w : World, (binOp .neq 89 (.agg #[.string nm, .int .i64 (s + 1 : Nat)]) (.agg #[.string nm, .int .i64 0])).run Try.prog w = .ok (.bool true) w := fun w => by rw [hne w, show (((s + 1 : Nat) : Int) == 0) = false from beq_eq_false_iff_ne.2 (by omega)]; rfl
      have hset := fr_setCell wr w.heap.size 1 (.int .i64 (s : Int))
      have hMs : MapS (wr.setCell ⟨w.heap.size, 1, none⟩ (.int .i64 (s : Int))) mb q2 D2 := World.ownsMap.setCell HM.out (by show mb ≠ w.heap.size; omega) _
      have HB1 : Hid ((wr.setCell ⟨w.heap.size, 1, none⟩ (.int .i64 (s : Int))).heap[w.heap.size]? = some (.cells #[.string nm, .int .i64 (s : Int)] 89)) := heap_setCell_at HK0.out 1 (.int .i64 (s : Int))
      have HB2 : Hid ((wr.setCell ⟨w.heap.size, 1, none⟩ (.int .i64 (s : Int))).heap[w.heap.size + 1]? = some (.cells #[.string nm, .int .i64 0] 89)) := (hset.block _ hl1 (by omega)).trans HK1.out
      have hsw : (Lit.int .i64 (s : Int)).wf = true := WalkArith.wf_i64 (by omega)
      have hSs : fillS S nm (s + 1) pg nm (s : Int) = S nm (s : Int) := by unfold fillS; rw [if_neg (fun h => by omega)]
      have hlook := look_pl (nm := nm) (pg := (s : Int)) hMs HRp.out hnm hsw (fun bs hb => by rw [hSs] at hb; exact HBS.out _ _ hb)
      clear hne
      rcases hlook with ⟨bs, hb, hlk⟩ | ⟨hb, hlk⟩
      · rw [hSs] at hb
        have hsL : s < L := (HL.out s).1 ⟨bs, hb⟩
        have R0 : RepS D2 (fillS S nm L pg) := HRp.out.congr fun nm' u => fill_stop htL (.inl (by omega)) nm' u
        have hbl := (HBS.out _ _ hb).1
        have hul : (u8s bs).length = 128 := by simp [u8s, hbl]
        have hst := storeCells_new (wr.setCell ⟨w.heap.size, 1, none⟩ (.int .i64 (s : Int))) bs hbl
        rw [show (wr.setCell ⟨w.heap.size, 1, none⟩ (.int .i64 (s : Int))).heap.size = wr.heap.size by simp [World.setCell]] at hst
        go_wp2
        exact bodyPost_ret (v := .tuple #[]) (by simp [results, Try.results82, go_sem]) rfl ⟨rfl, q2, D2, by omega, World.ownsMap.alloc hMs _, R0, (HFr.out.late hset (fun g e => by omega)).trans (Fr.of_below ((Below.refl _ _).alloc (Nat.le_refl _) _))⟩
      · rw [hSs] at hb
        have hsL : L ≤ s := Decidable.byContradiction fun h => by
          obtain ⟨bs, hbs⟩ := (HL.out s).2 (by omega)
          rw [hb] at hbs; cases hbs
        have hul : (u8s zeros).length = 128 := by simp [u8s, zeros_len]
        have hst := storeCells_new (wr.setCell ⟨w.heap.size, 1, none⟩ (.int .i64 (s : Int))) zeros zeros_len
        rw [show (wr.setCell ⟨w.heap.size, 1, none⟩ (.int .i64 (s : Int))).heap.size = wr.heap.size by simp [World.setCell]] at hst
        have hMa : MapS ((wr.setCell ⟨w.heap.size, 1, none⟩ (.int .i64 (s : Int))).alloc (.cells (u8s zeros).toArray 86)) mb q2 D2 := World.ownsMap.alloc hMs _
        have hal : Below (wr.setCell ⟨w.heap.size, 1, none⟩ (.int .i64 (s : Int))).heap.size (wr.setCell ⟨w.heap.size, 1, none⟩ (.int .i64 (s : Int))) ((wr.setCell ⟨w.heap.size, 1, none⟩ (.int .i64 (s : Int))).alloc (.cells (u8s zeros).toArray 86)) := (Below.refl _ _).alloc (Nat.le_refl _) _
        obtain ⟨wu, hrun, hMu, hgu⟩ := World.ownsMap.update hMa lawPl Try.underlying80 (by unfold maxLen; omega) (keyOf_pl hnm hsw) (val := .agg Try.zeroCells86) (by rw [zeroCellsV]; exact sheetR_mk zeros_len zeros_in)
        have hsz1 : (wr.setCell ⟨w.heap.size, 1, none⟩ (.int .i64 (s : Int))).heap.size = wr.heap.size := by simp [World.setCell]
        have e0 := (hal.block w.heap.size (by rw [hsz1]; omega)).trans HB1.out
        have e1 := (hal.block (w.heap.size + 1) (by rw [hsz1]; omega)).trans HB2.out
        have hza := hal.size
        obtain ⟨g0, g1⟩ := box_two2D e0
        have U0 : Hid (wu.heap[w.heap.size]? = some (.cells #[.string nm, .int .i64 (s : Int)] 89)) := (hgu.block w.heap.size (by omega) (fun e => by injection e with e; omega)).trans e0
        have U1 : Hid (wu.heap[w.heap.size + 1]? = some (.cells #[.string nm, .int .i64 0] 89)) := (hgu.block (w.heap.size + 1) (by omega) (fun e => by injection e with e; omega)).trans e1
        have UF : Hid (Fr (fun x => x = mb) w wu) := ((HFr.out.late hset (fun g e => by omega)).trans (Fr.of_below hal)).trans (Fr.of_grown hgu (fun x e => by injection e with e; exact e.symm))
        have UM : Hid (MapS wu mb (q2 + 1) (D2.put (kPl nm (s : Int)) (shD zeros))) := hMu
        have UR : Hid (RepS (D2.put (kPl nm (s : Int)) (shD zeros)) (fillS S nm s pg)) := fill_step HRp.out (World.ownsMap.isMap HM.out) hnm hsw (by omega)
        have HC1 : Hid (cellN wr w.heap.size 1 = s + 1) := by show _ = _; unfold cellN; rw [c1]; rfl
        clear hMu hgu hal e0 e1 hMa hMs
        go_wp2
        refine ⟨⟨s, q2 + 1, _, by omega, .inr hsL, by omega, UM, UR, UF, U0, U1⟩, ?_⟩
        rw [HC1.out, show cellN wu w.heap.size 1 = s by unfold cellN; rw [(box_two2D U0.out).2]; rfl]
        omega
end Go.Proofs.Ytakdaandbdbdnaa
namespace Go.Proofs.Ytakdaandbdbdnaa
open Go.RowKit Go.Maps
set_option linter.unusedVariables false
set_option maxRecDepth 100000

theorem infoU8 : (Try.prog.info? 5).map (·.size) = some 1 := by kernel_rfl
def oldS (S : ByteArray → Int → Option (List Int)) (nm : ByteArray) (pg : Int) : List Int := (S nm pg).getD zeros
/-- What a write of the first ca bytes of ds makes of a file of L pages. -/
def writeS (S : ByteArray → Int → Option (List Int)) (nm : ByteArray) (L pg : Nat) (ds : List Int) (ca : Nat) : ByteArray → Int → Option (List Int) :=
  fun nm' t => if nm' = nm ∧ t = (pg : Int) then some (ds.take ca ++ (oldS S nm pg).drop ca) else fillS S nm L pg nm' t
theorem look_plF {w : World} {mb q : Nat} {D : DataW Unit} {S : ByteArray → Int → Option (List Int)} {nm : ByteArray} {pg : Int} (hM : MapS w mb q D) (hR : RepS D S) (hnm : nm.size ≤ maxLen) (hp : (Lit.int .i64 pg).wf = true) (hbs : ∀ bs, S nm pg = some bs → bs.length = 128 ∧ ∀ x ∈ bs, 0 ≤ x ∧ x ≤ 255) :
    (Instr.lookup 80 (.map (some mb)) (.agg #[.string nm, .int .i64 pg]) false).run Try.prog w = .ok (.agg (u8s (oldS S nm pg)).toArray) w ∧ (oldS S nm pg).length = 128 ∧ ∀ x ∈ oldS S nm pg, 0 ≤ x ∧ x ≤ 255 := by
  obtain ⟨v, pl, hrun, hv⟩ := World.ownsMap.lookup hM lawPl Try.underlying80 (zeroSheet w) (sheetR_mk zeros_len zeros_in) (keyOf_pl hnm hp)
  obtain ⟨bs, h1, h2, rfl, h4⟩ := sheetR_inv hv
  simp only [Prod.mk.injEq] at h4
  have hat := hR nm pg hnm hp (shD zeros)
  unfold oldS
  cases hS : S nm pg with
  | some cs =>
    rw [hS] at hat
    obtain ⟨c1, c2⟩ := hbs cs hS
    have : bs = cs := shD_inj (by omega) h2 c2 (by rw [← h4.1]; exact hat)
    subst this
    exact ⟨hrun, c1, c2⟩
  | none =>
    rw [hS] at hat
    have : bs = zeros := shD_inj (by rw [h1, zeros_len]) h2 zeros_in (by rw [← h4.1]; exact hat)
    subst this
    exact ⟨hrun, zeros_len, zeros_in⟩
theorem splice_zero (old ds : List Int) (ca : Nat) (h : ca ≤ ds.length) : splice (u8s old) 0 (u8s (ds.take ca)) = u8s (ds.take ca ++ old.drop ca) := by
  have e : (u8s (ds.take ca)).length = ca := by simp [u8s]; omega
  unfold splice
  rw [e]
  simp only [List.take_zero, List.nil_append, Nat.zero_add, u8s, List.map_append, List.map_drop]
theorem infoSh : (Try.prog.info? 86).map (·.size) = some 128 := by kernel_rfl
theorem lenSheet : Try.prog.arrayLen 86 = 128 := by kernel_rfl
theorem arrSheet : Try.prog.underlying 86 = some (.array (Try.prog.arrayLen 86) (Try.prog.elem 86)) := by kernel_rfl
theorem elemSheet : Try.prog.elem 86 = 5 := by kernel_rfl
theorem run_sliceS (g ca : Nat) (w : World) (h : ca ≤ 128) : (Instr.sliceAt 86 (.pointer (some ⟨g, 0, none⟩)) none (some (.int .i64 (ca : Int))) none).run Try.prog w = .ok (.slice (some ⟨g, 0, none⟩) ca 128) w := by
  have h2 : (ca : Int) ≤ Try.prog.arrayLen 86 := by rw [lenSheet]; omega
  rw [run_sliceAt_array_h w 86 _ arrSheet .i64 (ca : Int) (by omega) h2, elemSheet, show (sizeOf 5).run Try.prog w = .ok 1 w by kernel_rfl]
  simp [slicedAt, go_sem, Addr.add]
theorem MapS.to {w w' : World} {mb k : Nat} {D : DataW Unit} (h : MapS w mb k D) (hb : w'.heap[mb]? = w.heap[mb]?) : MapS w' mb k D := by
  obtain ⟨es, clock, hb', F, hs, hD⟩ := h
  exact ⟨es, clock, hb.trans hb', F, hs, hD⟩
theorem write_rep {D : DataW Unit} {S : ByteArray → Int → Option (List Int)} {nm : ByteArray} {L pg : Nat} {ds : List Int} {ca : Nat} (h : RepS D (fillS S nm L pg)) (hD : IsMap D) (hnm : nm.size ≤ maxLen) (hp : (Lit.int .i64 (pg : Int)).wf = true) : RepS (D.put (kPl nm pg) (shD (ds.take ca ++ (oldS S nm pg).drop ca))) (writeS S nm L pg ds ca) :=
  (h.put hD hnm hp _).congr fun nm' t => rfl
set_option maxHeartbeats 3200000 in
theorem write_any (nm : ByteArray) (hnm : nm.size ≤ maxLen) (pg ca L mb q : Nat) (pa : Option Addr) (pc : Nat) (ds : List Int) (D : DataW Unit) (S : ByteArray → Int → Option (List Int)) (w : World) (A B : Nat) (hB : B ≤ w.heap.size) (hby : BytesAt w A B pa 128 pc ds) (hmbA : mb < A ∨ B ≤ mb) (hca : ca ≤ 128) (hpg : pg ≤ 1048576) (hq : q ≤ 1073741824) (hM : MapS w mb q D) (hR : RepS D S) (hL : ∀ t : Nat, (∃ bs, S nm t = some bs) ↔ t < L) (hbs : ∀ t bs, S nm t = some bs → bs.length = 128 ∧ ∀ x ∈ bs, 0 ≤ x ∧ x ≤ 255) :
    Calls Try.prog 51 #[.map (some mb), .agg #[.string nm, .int .i64 pg, .slice pa 128 pc], .int .i64 ca] w fun e w' => e = .returned (.tuple #[]) ∧ ∃ (q' : Nat) (D' : DataW Unit), q' ≤ q + pg + 1 ∧ MapS w' mb q' D' ∧ RepS D' (writeS S nm L pg ds ca) ∧ Fr (fun x => x = mb) w w' := by
  have hmb : mb < w.heap.size := World.ownsMap.lt hM
  have hb0 : Below w.heap.size w ((w.alloc (.cells #[.string nm, .int .i64 pg, .slice pa 128 pc] 71)).alloc (.cells #[.string nm, .int .i64 pg] 89)) := ((Below.refl _ _).alloc (Nat.le_refl _) _).alloc (by simp) _
  have k0 : ((w.alloc (.cells #[.string nm, .int .i64 pg, .slice pa 128 pc] 71)).alloc (.cells #[.string nm, .int .i64 pg] 89)).heap[w.heap.size]? = some (.cells #[.string nm, .int .i64 pg, .slice pa 128 pc] 71) := by rw [heap_alloc_old _ _ (by simp)]; exact heap_alloc_new _ _
  have k1 : ((w.alloc (.cells #[.string nm, .int .i64 pg, .slice pa 128 pc] 71)).alloc (.cells #[.string nm, .int .i64 pg] 89)).heap[w.heap.size + 1]? = some (.cells #[.string nm, .int .i64 pg] 89) := by have := heap_alloc_new (w.alloc (.cells #[.string nm, .int .i64 pg, .slice pa 128 pc] 71)) (.cells #[.string nm, .int .i64 pg] 89); simpa using this
  have hM0 : MapS ((w.alloc (.cells #[.string nm, .int .i64 pg, .slice pa 128 pc] 71)).alloc (.cells #[.string nm, .int .i64 pg] 89)) mb q D := World.ownsMap.alloc (World.ownsMap.alloc hM _) _
  have hsz0 : ((w.alloc (.cells #[.string nm, .int .i64 pg, .slice pa 128 pc] 71)).alloc (.cells #[.string nm, .int .i64 pg] 89)).heap.size = w.heap.size + 2 := by simp
  have hpw : (Lit.int .i64 (pg : Int)).wf = true := WalkArith.wf_i64 (by omega)
  go_enter Try.func51, Try.ntmps51
  go_wp2_with fail
  generalize ((w.alloc (.cells #[.string nm, .int .i64 pg, .slice pa 128 pc] 71)).alloc (.cells #[.string nm, .int .i64 pg] 89)) = W0 at hb0 k0 k1 hM0 hsz0 ⊢
  refine (fillBefore_any nm hnm pg L mb q D S W0 hpg hq hM0 hR hL hbs).mono ?_
  rintro e w4 ⟨rfl, q4, D4, hq4, hM4, hR4, hF4⟩
  have hs4 := hF4.size
  have j0 := (hF4.block w.heap.size (by omega) (by omega)).trans k0
  have j1 := (hF4.block (w.heap.size + 1) (by omega) (by omega)).trans k1
  obtain ⟨c0, c1, c2⟩ := box_threeC j0
  obtain ⟨d0, d1⟩ := box_two2D j1
  have hSp : fillS S nm L pg nm (pg : Int) = S nm (pg : Int) := by unfold fillS; rw [if_neg (fun h => by omega)]
  obtain ⟨hlk, hol, hor⟩ := look_plF (nm := nm) (pg := (pg : Int)) hM4 hR4 hnm hpw (fun bs hb => by rw [hSp] at hb; exact hbs _ _ hb)
  have hoe : oldS (fillS S nm L pg) nm (pg : Int) = oldS S nm (pg : Int) := by unfold oldS; rw [hSp]
  rw [hoe] at hlk hol hor
  obtain ⟨old, hold⟩ : ∃ old, old = oldS S nm (pg : Int) := ⟨_, rfl⟩
  rw [← hold] at hlk hol hor
  have HOLD : Hid (old = oldS S nm (pg : Int)) := hold
  have hul : (u8s old).length = 128 := by simp [u8s, hol]
  have hst := storeCells_new w4 old hol
  have hl0 : w.heap.size < w4.heap.size := by omega
  have hl1 : w.heap.size + 1 < w4.heap.size := by omega
  clear hold hoe hSp k0 k1 hM0
  go_wp2_with fail
  have hal : Below w4.heap.size w4 (w4.alloc (.cells (u8s old).toArray 86)) := (Below.refl _ _).alloc (Nat.le_refl _) _
  have hg5 := heap_alloc_new w4 (.cells (u8s old).toArray 86)
  have i0 := (hal.block w.heap.size hl0).trans j0
  have i1 := (hal.block (w.heap.size + 1) hl1).trans j1
  have hM5 : MapS (w4.alloc (.cells (u8s old).toArray 86)) mb q4 D4 := World.ownsMap.alloc hM4 _
  have hF5 : Fr (fun x => x = mb) w (w4.alloc (.cells (u8s old).toArray 86)) := ((Fr.of_below hb0).trans hF4).trans (Fr.of_below hal)
  clear c0 c1 c2 d0 d1 hlk hst hF4 hal j0 j1 hM4
  generalize w4.alloc (.cells (u8s old).toArray 86) = w5 at hg5 i0 i1 hM5 hF5 ⊢
  have hl5 : w4.heap.size < w5.heap.size := (Array.getElem?_eq_some_iff.1 hg5).1
  have S5 : w5.cell? ⟨w.heap.size, 2, none⟩ = some (.slice pa 128 pc) := (box_threeC i0).2.2
  have hdl : ds.length = 128 := hby.1
  have hcl : (u8s (ds.take ca)).length = Nat.min 128 ca := by simp only [u8s, List.length_map, List.length_take, hdl]; show min ca 128 = min 128 ca; omega
  have hcf : 0 + (u8s (ds.take ca)).length ≤ (u8s old).length := by rw [hul]; simp [u8s]; omega
  have hc1 : ∀ v ∈ u8s (ds.take ca), v.oneCell' = true := by intro v hv; simp only [u8s, List.mem_map] at hv; obtain ⟨x, _, rfl⟩ := hv; rfl
  have hcp : 0 < (u8s (ds.take ca)).length → (some (⟨w4.heap.size, 0, none⟩ : Addr)) = some ⟨w4.heap.size, 0, none⟩ ∧ ∃ ad, pa = some ad ∧ ∀ j v, (u8s (ds.take ca))[j]? = some v → w5.drew.cell? (ad.add j) = some v := by
    intro _
    obtain ⟨b, off, rfl, hb, hc⟩ := hby.2.2.2.2.1 (by omega)
    refine ⟨rfl, _, rfl, fun j v hv => ?_⟩
    rw [Addr.add_mid]
    have hj : j < ca := by have := (List.getElem?_eq_some_iff.1 hv).1; simp [u8s] at this; omega
    have h1 : w5.cell? ⟨b, off + j, none⟩ = w.cell? ⟨b, off + j, none⟩ := World.cell?_of_block (hF5.block b (by omega) (by omega))
    show w5.cell? _ = _
    rw [h1, hc j (by omega), ← hv]
    have hjd : j < ds.length := by omega
    simp only [u8s, List.getElem?_map, List.getElem?_take_of_lt hj, List.getElem?_eq_getElem hjd, Option.map_some, List.getD, Option.getD_some]
  refine wp_region_noPanic ?_
  refine wp_region_held_drew (S := (fun w' => w'.cell? ⟨w.heap.size, 2, none⟩ = some (.slice pa 128 pc))) (by kernel_rfl) ?_ (fun hHeld => ?_)
  · exact S5
  refine wpAnyH_take (i := 0) (oi := { dst := some 19, op := Op.move (Operand.tmp 2), type := 2, pos := "l1_disk.go:249", after := #[], guard := none }) (v := ?_) rfl (by kernel_rfl) (by kernel_rfl) (by kernel_rfl) (fun _ _ _ h => h) (Or.inl ⟨by rfl, ?_⟩) (by assumption) ?_
  rotate_left 1
  · intro w hSw; (try dsimp only at hSw); go_simp; try (with_reducible rfl)
  try simp only [Act.put, List.setIfInBounds_toArray, List.set_cons_zero, List.set_cons_succ]
  refine wpAnyH_take (i := 1) (oi := { dst := some 20, op := Op.slice 86 (Operand.tmp 7) none (some (Operand.tmp 19)) none, type := 22, pos := "l1_disk.go:249", after := #[{ on := 0, ground := Ground.data }], guard := none }) (v := .slice (some ⟨w4.heap.size, 0, none⟩) ca 128) rfl (by kernel_rfl) (by kernel_rfl) (by kernel_rfl) (fun _ _ _ h => h) (Or.inl ⟨by rfl, ?_⟩) (by assumption) ?_
  · intro w hSw; (try dsimp only at hSw); have hsl := run_sliceS w4.heap.size ca w hca; go_simp
  try simp only [Act.put, List.setIfInBounds_toArray, List.set_cons_zero, List.set_cons_succ]
  refine wpAnyH_take (i := 2) (oi := { dst := some 21, op := Op.fieldAddr 71 (Operand.tmp 4) 2, type := 0, pos := "l1_disk.go:249", after := #[], guard := none }) (v := ?_) rfl (by kernel_rfl) (by kernel_rfl) (by kernel_rfl) (fun _ _ _ h => h) (Or.inl ⟨by rfl, ?_⟩) (by assumption) ?_
  rotate_left 1
  · intro w hSw; (try dsimp only at hSw); go_simp; try (with_reducible rfl)
  try simp only [Act.put, List.setIfInBounds_toArray, List.set_cons_zero, List.set_cons_succ]
  refine wpAnyH_take (i := 3) (oi := { dst := some 22, op := Op.load 22 (Operand.tmp 21), type := 22, pos := "l1_disk.go:249", after := #[{ on := 2, ground := Ground.data }], guard := none }) (v := ?_) rfl (by kernel_rfl) (by kernel_rfl) (by kernel_rfl) (fun _ _ _ h => h) (Or.inl ⟨by rfl, ?_⟩) (by assumption) ?_
  rotate_left 1
  · intro w hSw; (try dsimp only at hSw); go_simp; try (with_reducible rfl)
  try simp only [Act.put, List.setIfInBounds_toArray, List.set_cons_zero, List.set_cons_succ]
  refine wpAnyH_ready (rs := [4]) (by kernel_rfl) (by simp) ?_
  refine AllReadyH.cons (o := { dst := some 23, op := Op.call { callee := Callee.builtin Builtin.copy, args := #[Operand.tmp 20, Operand.tmp 22], argTypes := #[22, 22] }, type := 3, pos := "l1_disk.go:249", after := #[{ on := 1, ground := Ground.data }, { on := 3, ground := Ground.data }], guard := none }) rfl (fun K hK => ?_) ?_
  rotate_left 1
  exact AllReadyH.nil
  · refine step_copy_splice rfl (.tmp 20) (.tmp 22) 22 22 rfl 5 Try.underlying22 infoU8 _ _ ca 128 128 pc (by simp [Act.eval]) (by simp [Act.eval]) w4.heap.size 0 (u8s old) 86 hg5 (u8s (ds.take ca)) hcl hcp hcf hc1 w4.heap.size w5 ((Below.refl _ w5).drew) (by omega) ?_
    intro w6 hg6 hb6
    have S6 : (fun w' => w'.cell? ⟨w.heap.size, 2, none⟩ = some (.slice pa 128 pc)) w6 := (World.cell?_of_block (hb6.block w.heap.size (by omega))).trans S5
    refine hK.out _ _ S6 (fun hHeld => ?_)
    clear hK K
    try simp only [Act.put, List.setIfInBounds_toArray, List.set_cons_zero, List.set_cons_succ]
    refine wpAnyH_done (by kernel_rfl) ?_ _
    refine NoPanic.normal ?_
    have hsp : splice (u8s old) 0 (u8s (ds.take ca)) = u8s (ds.take ca ++ old.drop ca) := splice_zero old ds ca (by omega)
    have HG6 := hg6.out
    rw [hsp] at HG6
    obtain ⟨nb, hnb⟩ : ∃ nb, nb = ds.take ca ++ old.drop ca := ⟨_, rfl⟩
    rw [← hnb] at HG6
    have hnl : nb.length = 128 := by rw [hnb, List.length_append, List.length_take, List.length_drop, hdl, hol]; omega
    have hnr : ∀ x ∈ nb, 0 ≤ x ∧ x ≤ 255 := by
      intro x hx
      rw [hnb] at hx
      rcases List.mem_append.1 hx with h1 | h1
      · exact hby.2.2.2.1 x (List.mem_of_mem_take h1)
      · exact hor x (List.mem_of_mem_drop h1)
    have HNB : Hid (nb = ds.take ca ++ old.drop ca) := hnb
    have hs6 := hb6.size
    have i6 := (hb6.block (w.heap.size + 1) (by omega)).trans i1
    have HG : w6.heap[w4.heap.size]? = some (.cells (u8s nb).toArray 86 (0, 0)) := HG6
    have hrg : w6.rangeAt w4.heap.size 0 (u8s nb) := fun j v hv => by rw [Nat.zero_add, cell_of_row w6 w4.heap.size j _ _ _ HG]; simpa using hv
    obtain ⟨d0, d1⟩ := box_two2D i6
    have hmb4 : mb < w4.heap.size := by omega
    have hM6 : MapS w6 mb q4 D4 := hM5.to (hb6.block mb hmb4)
    have hF6 : Fr (fun x => x = mb) w w6 := ⟨hb6.os.trans hF5.os, hb6.tape.trans hF5.tape, hb6.output.trans hF5.output, Nat.le_trans hF5.size hs6, fun g hg hS => (hb6.block g (by omega)).trans (hF5.block g hg hS)⟩
    obtain ⟨wu, hrun, hMu, hgu⟩ := World.ownsMap.update hM6 lawPl Try.underlying80 (by unfold maxLen; omega) (keyOf_pl hnm hpw) (val := .agg (u8s nb).toArray) (sheetR_mk hnl hnr)
    have UF : Fr (fun x => x = mb) w wu := hF6.trans (Fr.of_grown hgu (fun x e => by injection e with e; exact e.symm))
    have UR : Hid (RepS (D4.put (kPl nm (pg : Int)) (shD nb)) (writeS S nm L pg ds ca)) := by
      have := write_rep (ds := ds) (ca := ca) hR4 (World.ownsMap.isMap hM6) hnm hpw
      rw [← HOLD.out, ← HNB.out] at this
      exact this
    clear hgu hF6 hM6 hM5 hF5 hg6 hb6 HG6 hsp hHeld i0 i1 hg5 hcp hcf hc1 hcl S5 S6 hb0 hnb
    go_wp2_with fail
    rename_i hKK
    refine wp_load_mid 86 (.tmp 7) rfl w4.heap.size 0 (by simp [Act.eval]) (u8s nb) _ hrg Try.underlying86 rfl (by rw [infoSh]; simp [u8s, hnl]) (hKK _ _ ?_)
    clear hKK
    simp only [Act.put, List.setIfInBounds_toArray, List.set_cons_zero, List.set_cons_succ]
    go_wp2_with fail
    exact bodyPost_end (v := .tuple #[]) (by simp [results, Try.results51, go_sem]) rfl ⟨rfl, q4 + 1, _, by omega, hMu, UR.out, UF⟩
end Go.Proofs.Ytakdaandbdbdnaa
namespace Go.Proofs.Ytakdaandbdbdnaa
open Go.RowKit Go.Maps
set_option linter.unusedVariables false
set_option maxRecDepth 100000

/-- The bytes of the file of a name. -/
def dataN (fs : List PF) (nm : ByteArray) : List Int := if findN fs nm < fs.length then (fs.getD (findN fs nm) (ByteArray.empty, [])).2 else []
theorem find_at (p : PF → Bool) : ∀ fl : List PF, fl.find? p = if fl.findIdx p < fl.length then some (fl.getD (fl.findIdx p) (ByteArray.empty, [])) else none
  | [] => rfl
  | f :: r => by
    rw [List.find?_cons, List.findIdx_cons]
    cases hp : p f with
    | true => simp
    | false =>
      simp only [cond_false, List.length_cons]
      rw [find_at p r]
      by_cases h : r.findIdx p < r.length
      · rw [if_pos h, if_pos (by omega), List.getD_cons_succ]
      · rw [if_neg h, if_neg (by omega)]
theorem pageOf_data (fl : List PF) (nm : ByteArray) (pg : Int) : pageOf fl nm pg = pageF (dataN fl nm) pg := by
  unfold pageOf dataN
  rw [find_at]
  show (match (if findN fl nm < fl.length then some (fl.getD (findN fl nm) (ByteArray.empty, [])) else none) with | some f => pageF f.2 pg | none => none) = _
  by_cases h : findN fl nm < fl.length
  · rw [if_pos h, if_pos h]
  · rw [if_neg h, if_neg h]
    exact (pageF_none pg (fun _ => trivial)).symm
theorem dataN_of {fs : List PF} (h : Inv fs) {i : Nat} (hi : i < fs.length) : dataN fs (fs.getD i (ByteArray.empty, [])).1 = (fs.getD i (ByteArray.empty, [])).2 := by
  unfold dataN
  rw [findN_of h hi, if_pos hi]
theorem dataN_none {fs : List PF} {nm : ByteArray} (h : ¬ findN fs nm < fs.length) : dataN fs nm = [] := by unfold dataN; rw [if_neg h]
theorem dataN_len {fs : List PF} (h : Inv fs) (nm : ByteArray) : (dataN fs nm).length % 128 = 0 ∧ lenI fs nm = ((dataN fs nm).length : Int) / 128 := by
  unfold dataN lenI
  by_cases hf : findN fs nm < fs.length
  · rw [if_pos hf, if_pos hf]; exact ⟨(h.pg _ hf).2, rfl⟩
  · rw [if_neg hf, if_neg hf]; exact ⟨rfl, rfl⟩
theorem withName_data2 (fs : List PF) (nm : ByteArray) : ((withName fs nm).getD (findN (withName fs nm) nm) (ByteArray.empty, [])).2 = dataN fs nm := by
  by_cases h : findN fs nm < fs.length
  · have : withName fs nm = fs := by unfold withName; rw [if_pos h]
    rw [this]; unfold dataN; rw [if_pos h]
  · rw [dataN_none h]
    have := withName_data fs nm
    rw [if_neg h] at this
    exact List.length_eq_zero_iff.1 this
theorem doP_data {fs : List PF} {nm : ByteArray} {pg : Nat} {bs : List Int} (h : Inv fs) (x : ByteArray) : dataN (doP fs nm pg bs) x = if x = nm then doData (dataN fs nm) pg bs else dataN fs x := by
  obtain ⟨m1, m2, m3⟩ := withName_mem (nm := nm) h
  have hi' := doP_inv (nm := nm) (pg := pg) (bs := bs) h
  have hw := findN_with fs nm
  by_cases hx : x = nm
  · rw [if_pos hx]
    subst hx
    have hn : ((doP fs x pg bs).getD (findN (withName fs x) x) (ByteArray.empty, [])).1 = x := by rw [doP_name _ hw]; exact findN_name hw
    have e1 := dataN_of hi' (i := findN (withName fs x) x) (by rw [doP_len2]; exact hw)
    rw [hn] at e1
    rw [e1, doP_get, if_pos rfl, withName_data2]
  · rw [if_neg hx]
    by_cases hf : findN fs x < fs.length
    · obtain ⟨k, hk, hkx⟩ := findN_iff.1 hf
      obtain ⟨i, hil, hie⟩ := m3 k hk
      have hne : i ≠ findN (withName fs nm) nm := fun e => hx (by rw [← hkx, ← hie, e]; exact findN_name hw)
      have e1 := dataN_of hi' (i := i) (by rw [doP_len2]; exact hil)
      rw [doP_get, if_neg hne, hie, hkx] at e1
      have e2 := dataN_of h hk
      rw [hkx] at e2
      rw [e1, e2]
    · rw [dataN_none hf, dataN_none (fun hd => ((doP_found h x).1 hd).elim hx hf)]
theorem overTo_get (l : List Int) (off : Nat) (bs : List Int) (k j : Nat) (hk : off + k ≤ l.length) : (overTo l off bs k).getD j 0 = if off ≤ j ∧ j < off + k then bs.getD (j - off) 0 else l.getD j 0 := by
  induction k with
  | zero => rw [if_neg (by omega)]; rfl
  | succ k ih =>
    have ih := ih (by omega)
    show ((overTo l off bs k).set (off + k) (bs.getD k 0)).getD j 0 = _
    by_cases e : j = off + k
    · subst e
      rw [if_pos (by omega), show off + k - off = k by omega]
      simp only [List.getD, List.getElem?_set, overTo_len]
      rw [if_pos trivial, if_pos (by omega)]
      rfl
    · have : ((overTo l off bs k).set (off + k) (bs.getD k 0)).getD j 0 = (overTo l off bs k).getD j 0 := by
        simp only [List.getD, List.getElem?_set]
        rw [if_neg (fun e2 => e e2.symm)]
      rw [this, ih]
      by_cases h2 : off ≤ j ∧ j < off + k
      · rw [if_pos h2, if_pos (by omega)]
      · rw [if_neg h2, if_neg (by omega)]
theorem doData_get {l : List Int} {pg : Nat} {bs : List Int} (hb : bs.length = 128) (j : Nat) : (doData l pg bs).getD j 0 = if pg * 128 ≤ j ∧ j < pg * 128 + 128 then bs.getD (j - pg * 128) 0 else l.getD j 0 := by
  unfold doData
  rw [hb, overTo_get _ _ _ _ _ (by rw [extZ_len]; omega)]
  congr 1
  unfold extZ
  by_cases h : j < l.length
  · simp only [List.getD, List.getElem?_append_left h]
  · simp only [List.getD, List.getElem?_append_right (Nat.le_of_not_lt h), List.getElem?_eq_none (Nat.le_of_not_lt h), List.getElem?_replicate]
    split <;> rfl
theorem part_eq {a b : List Int} {i : Nat} (ha : i + 128 ≤ a.length) (hb : i + 128 ≤ b.length) (h : ∀ j, i ≤ j → j < i + 128 → a.getD j 0 = b.getD j 0) : (a.drop i).take 128 = (b.drop i).take 128 := by
  apply List.ext_getElem (by simp; omega)
  intro j h1 h2
  simp at h1
  have := h (i + j) (by omega) (by omega)
  simp only [List.getD, List.getElem?_eq_getElem (show i + j < a.length by omega), List.getElem?_eq_getElem (show i + j < b.length by omega), Option.getD_some] at this
  simpa using this
theorem doData_page {l : List Int} {pg : Nat} {bs : List Int} (hl : l.length % 128 = 0) (hp : (pg : Int) ≤ (l.length : Int) / 128) (hb : bs.length = 128) (t : Int) : pageF (doData l pg bs) t = if t = (pg : Int) then some bs else pageF l t := by
  have hlen := doData_len l pg bs
  unfold pageF
  by_cases ht : t = (pg : Int)
  · subst ht
    rw [if_pos rfl, if_pos (by rw [hlen]; omega)]
    congr 1
    apply List.ext_getElem (by simp only [List.length_take, List.length_drop, hlen, hb, Int.toNat_natCast]; omega)
    intro j h1 h2
    have hg := doData_get (l := l) (pg := pg) hb (pg * 128 + j)
    rw [if_pos (by omega), show pg * 128 + j - pg * 128 = j by omega] at hg
    simp only [List.getD, List.getElem?_eq_getElem h2, List.getElem?_eq_getElem (show pg * 128 + j < (doData l pg bs).length by rw [hlen]; omega), Option.getD_some] at hg
    simpa using hg
  · rw [if_neg ht]
    by_cases hc : 0 ≤ t ∧ t * 128 + 128 ≤ l.length
    · rw [if_pos hc, if_pos (by rw [hlen]; omega)]
      obtain ⟨u, rfl⟩ := Int.eq_ofNat_of_zero_le hc.1
      congr 1
      refine part_eq (by rw [hlen]; simp only [Int.toNat_natCast]; omega) (by simp only [Int.toNat_natCast]; omega) (fun j h1 h2 => ?_)
      rw [doData_get hb, if_neg (fun h => ?_)]
      simp only [Int.toNat_natCast] at h1 h2
      omega
    · rw [if_neg hc, if_neg (by rw [hlen]; omega)]
/-- All bytes are bytes. -/
def ByteF (fs : List PF) : Prop := ∀ nm, ∀ x ∈ dataN fs nm, 0 ≤ x ∧ x ≤ 255
theorem ByteF.do {fs : List PF} {nm : ByteArray} {pg : Nat} {bs : List Int} (h : Inv fs) (hf : ByteF fs) (hb : ∀ x ∈ bs, 0 ≤ x ∧ x ≤ 255) : ByteF (doP fs nm pg bs) := by
  intro x
  rw [doP_data h]
  by_cases hx : x = nm
  · rw [if_pos hx]; exact overTo_byte _ _ _ _ (extZ_byte _ _ (hf nm)) hb
  · rw [if_neg hx]; exact hf x
theorem page_byte {fs : List PF} (hf : ByteF fs) (nm : ByteArray) (t : Int) (bs : List Int) (h : pageOf fs nm t = some bs) : bs.length = 128 ∧ ∀ x ∈ bs, 0 ≤ x ∧ x ≤ 255 := by
  rw [pageOf_data] at h
  obtain ⟨h1, h2⟩ := pageF_len h
  exact ⟨h1, fun x hx => hf nm x (h2 x hx)⟩
theorem page_there {fs : List PF} (h : Inv fs) (nm : ByteArray) (t : Nat) : (∃ bs, pageOf fs nm t = some bs) ↔ t < (lenI fs nm).toNat := by
  obtain ⟨h1, h2⟩ := dataN_len h nm
  rw [pageOf_data, h2]
  unfold pageF
  by_cases hc : 0 ≤ (t : Int) ∧ (t : Int) * 128 + 128 ≤ (dataN fs nm).length
  · rw [if_pos hc]; exact ⟨fun _ => by omega, fun _ => ⟨_, rfl⟩⟩
  · rw [if_neg hc]; exact ⟨fun e => (by obtain ⟨_, e⟩ := e; cases e), fun e => by omega⟩
/-- A whole write, done to the map of sheets, is the write done to the files. -/
theorem do_write {fs : List PF} {nm : ByteArray} {pg : Nat} {bs : List Int} (h : Inv fs) (hp : (pg : Int) ≤ lenI fs nm) (hb : bs.length = 128) (nm' : ByteArray) (t : Int) : pageOf (doP fs nm pg bs) nm' t = writeS (pageOf fs) nm (lenI fs nm).toNat pg bs 128 nm' t := by
  obtain ⟨h1, h2⟩ := dataN_len h nm
  unfold writeS
  have ho : (oldS (pageOf fs) nm pg).drop 128 = [] := by
    apply List.drop_eq_nil_of_le
    unfold oldS
    cases hS : pageOf fs nm pg with
    | some cs => rw [pageOf_data] at hS; exact Nat.le_of_eq (pageF_len hS).1
    | none => exact Nat.le_of_eq zeros_len
  rw [pageOf_data, doP_data h, ho, List.append_nil, List.take_of_length_le (by omega)]
  by_cases hn : nm' = nm
  · rw [if_pos hn, doData_page h1 (by rw [← h2]; exact hp) hb]
    by_cases ht : t = (pg : Int)
    · rw [if_pos ht, if_pos ⟨hn, ht⟩]
    · rw [if_neg ht, if_neg (fun e => ht e.2)]
      unfold fillS
      rw [if_neg (fun e => by omega), pageOf_data, hn]
  · rw [if_neg hn, if_neg (fun e => hn e.1)]
    unfold fillS
    rw [if_neg (fun e => hn e.1), pageOf_data]
end Go.Proofs.Ytakdaandbdbdnaa
namespace Go.Proofs.Ytakdaandbdbdnaa
open Go.RowKit Go.Maps
set_option linter.unusedVariables false
set_option maxRecDepth 100000

theorem doData_getC {l : List Int} {pg : Nat} {bs : List Int} (hb : bs.length ≤ 128) (j : Nat) : (doData l pg bs).getD j 0 = if pg * 128 ≤ j ∧ j < pg * 128 + bs.length then bs.getD (j - pg * 128) 0 else l.getD j 0 := by
  unfold doData
  rw [overTo_get _ _ _ _ _ (by rw [extZ_len]; omega)]
  congr 1
  unfold extZ
  by_cases h : j < l.length
  · simp only [List.getD, List.getElem?_append_left h]
  · simp only [List.getD, List.getElem?_append_right (Nat.le_of_not_lt h), List.getElem?_eq_none (Nat.le_of_not_lt h), List.getElem?_replicate]
    split <;> rfl
theorem ext_getD {a b : List Int} (hl : a.length = b.length) (h : ∀ j, j < a.length → a.getD j 0 = b.getD j 0) : a = b := by
  apply List.ext_getElem hl
  intro j h1 h2
  have := h j h1
  simpa [List.getD, List.getElem?_eq_getElem h1, List.getElem?_eq_getElem h2] using this
theorem part_getD (l : List Int) (i j : Nat) (h : j < 128) : ((l.drop i).take 128).getD j 0 = l.getD (i + j) 0 := by
  simp only [List.getD, List.getElem?_take_of_lt h, List.getElem?_drop]
theorem zeros_getD (j : Nat) : zeros.getD j 0 = 0 := by
  unfold zeros
  simp only [List.getD, List.getElem?_replicate]
  split <;> rfl
theorem mix_getD {a b : List Int} {ca j : Nat} (hc : ca ≤ a.length) : (a.take ca ++ b.drop ca).getD j 0 = if j < ca then a.getD j 0 else b.getD j 0 := by
  have hl : (a.take ca).length = ca := by simp; omega
  by_cases h : j < ca
  · rw [if_pos h]
    simp only [List.getD]
    rw [List.getElem?_append_left (by omega), List.getElem?_take_of_lt h]
  · rw [if_neg h]
    simp only [List.getD]
    rw [List.getElem?_append_right (by omega), List.getElem?_drop, hl]
    congr 2
    omega
theorem getD_over {l : List Int} {j : Nat} (h : l.length ≤ j) : l.getD j 0 = 0 := by simp [List.getD, List.getElem?_eq_none h]
/-- A write of the first ca bytes, page by page. -/
theorem doData_pageC {l : List Int} {pg ca : Nat} {bs : List Int} (hl : l.length % 128 = 0) (hb : bs.length = 128) (hc : ca ≤ 128) (t : Int) : pageF (doData l pg (bs.take ca)) t = if t = (pg : Int) then some (bs.take ca ++ ((pageF l pg).getD zeros).drop ca) else if (((l.length / 128 : Nat) : Int) ≤ t ∧ t < (pg : Int)) then some zeros else pageF l t := by
  have hlen := doData_len l pg (bs.take ca)
  have htl : (bs.take ca).length = ca := by simp; omega
  have hget := fun j => doData_getC (l := l) (pg := pg) (bs := bs.take ca) (by omega) j
  rw [htl] at hget
  obtain ⟨old, hold⟩ : ∃ old, old = (pageF l pg).getD zeros := ⟨_, rfl⟩
  have hol : old.length = 128 := by
    rw [hold]
    cases hS : pageF l pg with
    | some cs => exact (pageF_len hS).1
    | none => exact zeros_len
  have hog : ∀ j, j < 128 → old.getD j 0 = l.getD (pg * 128 + j) 0 := by
    intro j hj2
    rw [hold]
    unfold pageF
    by_cases hp : 0 ≤ (pg : Int) ∧ (pg : Int) * 128 + 128 ≤ l.length
    · rw [if_pos hp, Option.getD_some, part_getD _ _ _ hj2]
      simp only [Int.toNat_natCast]
    · rw [if_neg hp, Option.getD_none, zeros_getD, getD_over (by omega)]
  rw [← hold]
  clear hold
  unfold pageF
  by_cases ht : t = (pg : Int)
  · subst ht
    rw [if_pos rfl, if_pos (by rw [hlen]; omega)]
    congr 1
    refine ext_getD (by simp only [List.length_append, List.length_drop, List.length_take, hlen, hol, hb, Int.toNat_natCast]; omega) (fun j hj => ?_)
    have hj2 : j < 128 := by simp only [List.length_take, List.length_drop] at hj; omega
    rw [part_getD _ _ _ hj2, hget, mix_getD (by omega)]
    simp only [Int.toNat_natCast]
    by_cases hjc : j < ca
    · rw [if_pos (by omega), if_pos hjc, show pg * 128 + j - pg * 128 = j by omega]
      simp only [List.getD, List.getElem?_take_of_lt hjc]
    · rw [if_neg (by omega), if_neg hjc, hog j hj2]
  · rw [if_neg ht]
    by_cases hz : ((l.length / 128 : Nat) : Int) ≤ t ∧ t < (pg : Int)
    · rw [if_pos hz, if_pos (by rw [hlen]; omega)]
      congr 1
      obtain ⟨u, rfl⟩ := Int.eq_ofNat_of_zero_le (show 0 ≤ t by omega)
      refine ext_getD (by simp only [List.length_take, List.length_drop, hlen, zeros_len, Int.toNat_natCast]; omega) (fun j hj => ?_)
      have hj2 : j < 128 := by simp only [List.length_take, List.length_drop] at hj; omega
      rw [part_getD _ _ _ hj2, hget, zeros_getD]
      simp only [Int.toNat_natCast]
      rw [if_neg (by omega), getD_over (by omega)]
    · rw [if_neg hz]
      by_cases hp : 0 ≤ t ∧ t * 128 + 128 ≤ l.length
      · rw [if_pos hp, if_pos (by rw [hlen]; omega)]
        obtain ⟨u, rfl⟩ := Int.eq_ofNat_of_zero_le hp.1
        congr 1
        refine ext_getD (by simp only [List.length_take, List.length_drop, hlen, Int.toNat_natCast]; omega) (fun j hj => ?_)
        have hj2 : j < 128 := by simp only [List.length_take, List.length_drop] at hj; omega
        rw [part_getD _ _ _ hj2, part_getD _ _ _ hj2, hget, if_neg (by simp only [Int.toNat_natCast]; omega)]
      · rw [if_neg hp, if_neg (by rw [hlen]; omega)]
/-- A torn write, done to the map of sheets, is the torn write done to the files. -/
theorem do_writeC {fs : List PF} {nm : ByteArray} {pg ca : Nat} {bs : List Int} (h : Inv fs) (hb : bs.length = 128) (hc : ca ≤ 128) (nm' : ByteArray) (t : Int) : pageOf (doP fs nm pg (bs.take ca)) nm' t = writeS (pageOf fs) nm (lenI fs nm).toNat pg bs ca nm' t := by
  obtain ⟨h1, h2⟩ := dataN_len h nm
  have hL : (((lenI fs nm).toNat : Nat) : Int) = (((dataN fs nm).length / 128 : Nat) : Int) := by rw [h2]; omega
  unfold writeS oldS
  rw [pageOf_data, pageOf_data, doP_data h]
  by_cases hn : nm' = nm
  · rw [if_pos hn, doData_pageC h1 hb hc]
    by_cases ht : t = (pg : Int)
    · rw [if_pos ht, if_pos ⟨hn, ht⟩]
    · have hx : ¬ (nm' = nm ∧ t = (pg : Int)) := fun e => ht e.2
      rw [if_neg ht, if_neg hx]
      unfold fillS
      rw [hL, pageOf_data, hn]
      by_cases hz : (((dataN fs nm).length / 128 : Nat) : Int) ≤ t ∧ t < (pg : Int)
      · rw [if_pos hz, if_pos ⟨rfl, hz⟩]
      · rw [if_neg hz, if_neg (fun e => hz e.2)]
  · rw [if_neg hn, if_neg (fun e => hn e.1)]
    unfold fillS
    rw [if_neg (fun e => hn e.1), pageOf_data]
theorem lenI_do {fs : List PF} {nm : ByteArray} {pg : Nat} {bs : List Int} (h : Inv fs) (x : ByteArray) : lenI (doP fs nm pg bs) x = if x = nm then max (lenI fs nm) ((pg : Int) + 1) else lenI fs x := by
  have e1 := (dataN_len (doP_inv (nm := nm) (pg := pg) (bs := bs) h) x).2
  rw [doP_data h] at e1
  rw [e1]
  by_cases hx : x = nm
  · rw [if_pos hx, if_pos hx, doData_len, (dataN_len h nm).2]
    have := (dataN_len h nm).1
    omega
  · rw [if_neg hx, if_neg hx, (dataN_len h x).2]
/-- No file of fk is longer than gk's. -/
def Und (fk gk : List PF) : Prop := ∀ nm, lenI fk nm ≤ lenI gk nm
theorem Und.refl (fs : List PF) : Und fs fs := fun _ => Int.le_refl _
theorem Und.both {fk gk : List PF} {nm : ByteArray} {pg : Nat} {bs cs : List Int} (h : Und fk gk) (hf : Inv fk) (hg : Inv gk) : Und (doP fk nm pg bs) (doP gk nm pg cs) := by
  intro x
  rw [lenI_do hf, lenI_do hg]
  have h1 := h nm
  have h2 := h x
  split <;> omega
theorem Und.only {fk gk : List PF} {nm : ByteArray} {pg : Nat} {cs : List Int} (h : Und fk gk) (hg : Inv gk) : Und fk (doP gk nm pg cs) := by
  intro x
  rw [lenI_do hg]
  have h2 := h x
  by_cases hx : x = nm
  · subst hx; rw [if_pos rfl]; omega
  · rw [if_neg hx]; exact h2
theorem nodup_le {α : Type} [DecidableEq α] : ∀ (l m : List α), l.Nodup → (∀ x ∈ l, x ∈ m) → l.length ≤ m.length
  | [], _, _, _ => Nat.zero_le _
  | a :: l, m, hn, hs => by
    rw [List.nodup_cons] at hn
    have h1 := nodup_le l (m.erase a) hn.2 (fun x hx => (List.mem_erase_of_ne (show x ≠ a from fun e => hn.1 (e ▸ hx))).2 (hs x (List.mem_cons_of_mem _ hx)))
    have h2 := List.length_erase_of_mem (hs a (List.mem_cons_self))
    have h3 : 0 < m.length := List.length_pos_of_mem (hs a (List.mem_cons_self))
    simp only [List.length_cons]
    omega
theorem Und.len {fk gk : List PF} (h : Und fk gk) (hf : Inv fk) (hg : Inv gk) : fk.length ≤ gk.length := by
  have := nodup_le (fk.map (·.1)) (gk.map (·.1)) ?_ ?_
  · simpa using this
  · refine List.pairwise_iff_getElem.2 fun i j hi hj hij => ?_
    simp only [List.length_map] at hi hj
    have := hf.ne i j (by omega) hi hj
    simpa [List.getD, List.getElem?_eq_getElem hi, List.getElem?_eq_getElem hj] using this
  · intro x hx
    obtain ⟨f, hfm, rfl⟩ := List.mem_map.1 hx
    obtain ⟨i, hi, rfl⟩ := List.getElem_of_mem hfm
    have e1 := (dataN_of hf hi)
    have e2 := (hf.pg i hi).1
    have e3 := (dataN_len hf (fk.getD i (ByteArray.empty, [])).1).2
    rw [e1] at e3
    have e4 := h (fk.getD i (ByteArray.empty, [])).1
    have e5 : 0 < lenI gk (fk.getD i (ByteArray.empty, [])).1 := by omega
    by_cases hfd : findN gk (fk.getD i (ByteArray.empty, [])).1 < gk.length
    · obtain ⟨k, hk, hkx⟩ := findN_iff.1 hfd
      refine List.mem_map.2 ⟨gk[k], List.getElem_mem hk, ?_⟩
      simpa [List.getD, List.getElem?_eq_getElem hi, List.getElem?_eq_getElem hk] using hkx
    · unfold lenI at e5; rw [if_neg hfd] at e5; omega
theorem Und.small {fk gk : List PF} (h : Und fk gk) (hf : Inv fk) {cp : Int} (ht : totalI gk ≤ cp) : ∀ j, j < fk.length → ((fk.getD j (ByteArray.empty, [])).2.length : Int) ≤ cp * 128 := by
  intro i hi
  have e1 := (dataN_of hf hi)
  have e3 := (dataN_len hf (fk.getD i (ByteArray.empty, [])).1).2
  have e2 := (hf.pg i hi).2
  rw [e1] at e3
  have e4 := h (fk.getD i (ByteArray.empty, [])).1
  have e5 := (lenI_le_total gk (fk.getD i (ByteArray.empty, [])).1).2
  omega
/-- How many bytes of a torn write are done. -/
def atN (ta : Int) : Nat := (min (max ta 0) 128).toNat
theorem atN_le (ta : Int) : atN ta ≤ 128 := by unfold atN; omega
/-- What a crash makes of one write. -/
def crS (tr ta : Int) (ks : List Bool) (i : Nat) (fs : List PF) (p : PP) : List PF :=
  if (i : Int) = tr then doP fs p.1 p.2.1.toNat (p.2.2.take (atN ta)) else if ks.getD i false = true then doP fs p.1 p.2.1.toNat p.2.2 else fs
/-- The files behind a crash. -/
def crF (tr ta : Int) (ks : List Bool) : Nat → List PP → List PF → List PF
  | _, [], fs => fs
  | i, p :: r, fs => crF tr ta ks (i + 1) r (crS tr ta ks i fs p)
/-- What holds of the files behind the writes so far (fk: those that a crash leaves; gk: those that are seen). -/
structure CrI (fk gk : List PF) (cp : Int) : Prop where
  inv : Inv fk
  byt : ByteF fk
  srt : SortedN fk
  nms : ∀ f ∈ fk, f.1.size ≤ maxLen
  und : Und fk gk
  ginv : Inv gk
  gtot : totalI gk ≤ cp
  glen : gk.length ≤ 12
theorem CrI.len {fk gk : List PF} {cp : Int} (h : CrI fk gk cp) : fk.length ≤ 12 := Nat.le_trans (h.und.len h.inv h.ginv) h.glen
theorem CrI.small {fk gk : List PF} {cp : Int} (h : CrI fk gk cp) (hcp : cp ≤ 1000) : ∀ j, j < fk.length → (fk.getD j (ByteArray.empty, [])).2.length ≤ 128000 := fun j hj => by
  have := h.und.small h.inv h.gtot j hj
  omega
theorem CrI.smallM {fk gk : List PF} {cp : Int} (h : CrI fk gk cp) (hcp : cp ≤ 1000) : ∀ f ∈ fk, f.2.length ≤ 128000 := fun f hf => by
  obtain ⟨i, hi, rfl⟩ := List.getElem_of_mem hf
  have := h.small hcp i hi
  simpa [List.getD, List.getElem?_eq_getElem hi] using this
theorem CrI.both {fk gk : List PF} {cp : Int} {nm : ByteArray} {pg : Nat} {bs pd : List Int} (h : CrI fk gk cp) (hnm : nm.size ≤ maxLen) (hb : ∀ x ∈ bs, 0 ≤ x ∧ x ≤ 255) (h1 : totalI (doP gk nm pg pd) ≤ cp) (h2 : (doP gk nm pg pd).length ≤ 12) : CrI (doP fk nm pg bs) (doP gk nm pg pd) cp :=
  ⟨doP_inv h.inv, h.byt.do h.inv hb, doP_sorted h.srt, doP_names h.nms hnm, h.und.both h.inv h.ginv, doP_inv h.ginv, h1, h2⟩
theorem CrI.only {fk gk : List PF} {cp : Int} {nm : ByteArray} {pg : Nat} {pd : List Int} (h : CrI fk gk cp) (h1 : totalI (doP gk nm pg pd) ≤ cp) (h2 : (doP gk nm pg pd).length ≤ 12) : CrI fk (doP gk nm pg pd) cp :=
  ⟨h.inv, h.byt, h.srt, h.nms, h.und.only h.ginv, doP_inv h.ginv, h1, h2⟩
theorem crF_tear {tr ta : Int} {ks : List Bool} {k : Nat} {nm : ByteArray} {pg : Nat} {pd : List Int} {r : List PP} {fk : List PF} (h : (k : Int) = tr) : crF tr ta ks k ((nm, (pg : Int), pd) :: r) fk = crF tr ta ks (k + 1) r (doP fk nm pg (pd.take (atN ta))) := by
  simp only [crF, crS]
  rw [if_pos h]
  simp
theorem crF_keep {tr ta : Int} {ks : List Bool} {k : Nat} {nm : ByteArray} {pg : Nat} {pd : List Int} {r : List PP} {fk : List PF} (h : ¬ (k : Int) = tr) (hk : ks.getD k false = true) : crF tr ta ks k ((nm, (pg : Int), pd) :: r) fk = crF tr ta ks (k + 1) r (doP fk nm pg pd) := by
  simp only [crF, crS]
  rw [if_neg h, if_pos hk]
  simp
theorem crF_skip {tr ta : Int} {ks : List Bool} {k : Nat} {p : PP} {r : List PP} {fk : List PF} (h : ¬ (k : Int) = tr) (hk : ks.getD k false = false) : crF tr ta ks k (p :: r) fk = crF tr ta ks (k + 1) r fk := by
  simp only [crF, crS]
  rw [if_neg h, if_neg (by rw [hk]; simp)]
theorem atN_if (ta : Int) : (if (128 : Int) < (if ta < 0 then 0 else ta) then 128 else (if ta < 0 then 0 else ta)) = (atN ta : Int) := by
  unfold atN
  split <;> split <;> omega
end Go.Proofs.Ytakdaandbdbdnaa
namespace Go.Proofs.Ytakdaandbdbdnaa
open Go.RowKit
set_option linter.unusedVariables false
set_option maxRecDepth 100000

/-- The bytes of a string. -/
def strB (s : ByteArray) : List Int := s.data.toList.map fun b => (b.toNat : Int)
theorem strB_len (s : ByteArray) : (strB s).length = s.size := by simp [strB]
theorem strB_byte (s : ByteArray) : ∀ x ∈ strB s, 0 ≤ x ∧ x ≤ 255 := by
  intro x hx
  simp only [strB, List.mem_map] at hx
  obtain ⟨b, _, rfl⟩ := hx
  have := b.toNat_lt
  omega
theorem u8s_strB (s : ByteArray) : u8s (strB s) = Lib.strCells s := by simp [u8s, strB, Lib.strCells]
theorem u8s_append (a b : List Int) : u8s (a ++ b) = u8s a ++ u8s b := by simp [u8s]

/-- append(v, x...), both bytes, v one's own. -/
theorem wpList_ab {w : World} {ops : Array Oper} {rest : List Oper} {o : Oper} {a : Act} {Q : Exit → Act → World → Prop} (hgd : o.guard = none) (s x : Operand)
    (ho : o.op = .call { callee := .builtin .append, args := #[s, x], argTypes := #[22, 22] })
    (base : Nat) (v : Value) (n : Nat) (bs : List Int) (hs : a.eval s = v) (hown : w.ownsRow base 5 1 v n (u8s bs))
    (ad : Option Addr) (m c : Nat) (cs : List Int) (A B : Nat) (hx : a.eval x = .slice ad m c) (hB : BytesAt w A B ad m c cs) (hnm : n + m ≤ 1073741824) (hbase : base ≤ w.heap.size)
    (h : ∀ v' w', w'.ownsRow base 5 1 v' (n + m) (u8s (bs ++ cs)) → w.grownBy w' v.ownBlock → wpList Try.prog ops Q rest (a.put o.dst v') w') : wpList Try.prog ops Q (o :: rest) a w := by
  obtain ⟨i0, hi, hz0, hz1, hz2⟩ := info_parts info_u8
  obtain ⟨hl, hnc, hc, hw, hcell, hnil⟩ := hB
  rcases ad with _ | ad
  · have hm0 : m = 0 := by
      by_cases h0 : m = 0
      · exact h0
      · obtain ⟨_, _, h1, _⟩ := hcell (by omega); cases h1
    subst hm0
    have hc0 := hnil rfl
    subst hc0
    refine wpList_append_own_none hgd s x 22 ho base 5 i0 1 Try.underlying22 hi v n (u8s bs) hs hown hx ?_
    refine h v w ?_ ⟨rfl, rfl, rfl, Nat.le_refl _, fun _ _ _ => rfl⟩
    rw [List.eq_nil_of_length_eq_zero hl, List.append_nil]
    exact hown
  · refine wpList_append_own w hgd s x 22 ho base 5 i0 (.int .u8 0) 1 1 Try.underlying22 hi hz0 hz1 hz2 rfl (by decide) v n (u8s bs) hs hown ad m c (u8s cs) hx (by simp [u8s, hl]) ?_ ?_ (by unfold maxLen; omega) (by omega) hbase ?_
    · intro j u hj
      have hjn : j < m := by
        have := (List.getElem?_eq_some_iff.1 hj).1
        simp [u8s] at this; omega
      obtain ⟨b, off, h1, h2, h3⟩ := hcell (by omega)
      cases h1
      have h4 := h3 j hjn
      have h5 : (⟨b, off, none⟩ : Addr).add j = ⟨b, off + j, none⟩ := by simp [Addr.add]
      rw [h5, h4]
      simp [u8s, List.getElem?_map] at hj
      obtain ⟨y, hy, rfl⟩ := hj
      simp [List.getD, hy]
    · intro u hu; simp [u8s] at hu; obtain ⟨y, _, rfl⟩ := hu; rfl
    · intro v' w' h1 h2 _
      rw [← u8s_append] at h1
      exact h v' w' h1 h2
/-- append(v, s...), s a string. -/
theorem wpList_as {w : World} {ops : Array Oper} {rest : List Oper} {o : Oper} {a : Act} {Q : Exit → Act → World → Prop} (hgd : o.guard = none) (s x : Operand)
    (ho : o.op = .call { callee := .builtin .append, args := #[s, x], argTypes := #[22, 9] })
    (base : Nat) (v : Value) (n : Nat) (bs : List Int) (hs : a.eval s = v) (hown : w.ownsRow base 5 1 v n (u8s bs))
    (t : ByteArray) (hx : a.eval x = .string t) (hnm : n + t.size ≤ 1073741824) (hbase : base ≤ w.heap.size)
    (h : ∀ v' w', w'.ownsRow base 5 1 v' (n + t.size) (u8s (bs ++ strB t)) → w.grownBy w' v.ownBlock → wpList Try.prog ops Q rest (a.put o.dst v') w') : wpList Try.prog ops Q (o :: rest) a w := by
  obtain ⟨i0, hi, hz0, hz1, hz2⟩ := info_parts info_u8
  refine Lib.wpList_append_own_string w hgd s x 22 9 ho base 5 i0 Try.underlying22 Try.underlying9 hi hz0 hz1 hz2 v n (u8s bs) hs hown t hx (by unfold maxLen; omega) (by omega) hbase ?_
  intro v' w' h1 h2 _
  rw [← u8s_strB, ← u8s_append] at h1
  exact h v' w' h1 h2
end Go.Proofs.Ytakdaandbdbdnaa
