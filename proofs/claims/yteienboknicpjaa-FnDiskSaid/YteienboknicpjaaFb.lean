import Derived.Test.YteienboknicpjaaGAK
import Derived.Laws.StructEq
namespace Go.Proofs.Yteienboknicpjaa
open Go.RowKit Go.Maps
set_option linter.unusedVariables false
set_option maxRecDepth 100000

theorem neq_pl (nm : ByteArray) (p p' : Int) (w : World) : (binOp .neq 72 (.agg #[.string nm, .int .i64 p]) (.agg #[.string nm, .int .i64 p'])).run Try.prog w = .ok (.bool (!(p == p'))) w := by
  have hS : Try.prog.underlying 72 = some (.struct (Try.prog.fieldsOf 72)) := by kernel_rfl
  have hp : Try.prog.stoodInHeld 72 = false := by kernel_rfl
  have u9 := Try.underlying9
  have u2 := Try.underlying2
  have a9 := Try.isAgg9
  have a2 := Try.isAgg2
  have z9 := Try.sizeOf9
  have z2 := Try.sizeOf2
  rw [run_neq_struct, show (10000 : Nat) = 9999 + 1 from rfl, run_equalIn_agg w 9999 72 _ _ hS hp]
  simp only [Program.fieldsOf, Try.underlying72]
  go_simp
  by_cases h : p = p' <;> simp [h]
def zeros : List Int := List.replicate 128 0
theorem zeros_len : zeros.length = 128 := by simp [zeros]
theorem zeros_in : ∀ x ∈ zeros, 0 ≤ x ∧ x ≤ 255 := by
  intro x hx
  have := List.eq_of_mem_replicate hx
  omega
theorem all_u8s (bs : List Int) : (u8s bs).toArray.all (·.oneCell') = true := by simp [u8s, Value.oneCell']
theorem store_new (W : World) (c : Array Value) (bs : List Int) (hc : c.size = 128) (hl : bs.length = 128) : (Instr.storeAt 69 (.pointer (some ⟨W.heap.size, 0, none⟩)) (.agg (u8s bs).toArray)).run Try.prog (W.alloc (.cells c 69)) = .ok () (W.alloc (.cells (u8s bs).toArray 69)) :=
  run_storeAt_new W 69 c (u8s bs).toArray (by rw [infoSheet]; simp [u8s, hl]) (by simp [u8s, hl, hc]) (all_u8s bs)
theorem zeroCellsN : Try.zeroCells69.size = 128 := by kernel_rfl
theorem storeCells_new (W : World) (bs : List Int) (hl : bs.length = 128) : (storeCells ⟨W.heap.size, 0, none⟩ (u8s bs)).run Try.prog (W.alloc (.cells Try.zeroCells69 69)) = .ok () (W.alloc (.cells (u8s bs).toArray 69)) := by
  have := run_storeCells_new (P := Try.prog) W 69 Try.zeroCells69 (u8s bs).toArray (by rw [infoSheet]; simp [u8s, hl]) (by rw [zeroCellsN]; simp [u8s, hl]) (all_u8s bs)
  simpa using this
theorem zeroCellsV : (Value.agg Try.zeroCells69) = sheetV zeros := by kernel_rfl
theorem Fr.late {S T : Nat → Prop} {a b c : World} (h : Fr S a b) (k : Fr T b c) (hT : ∀ g, T g → a.heap.size ≤ g) : Fr S a c :=
  ⟨k.1.trans h.1, k.2.trans h.2, k.3.trans h.3, Nat.le_trans h.size k.size, fun g hg hS => (k.block g (Nat.lt_of_lt_of_le hg h.size) (fun e => by have := hT g e; omega)).trans (h.block g hg hS)⟩
/-- Where a file has L pages, what a write at pg fills ahead of itself. -/
def fillS (S : ByteArray → Int → Option (List Int)) (nm : ByteArray) (lo pg : Nat) : ByteArray → Int → Option (List Int) := fun nm' t => if nm' = nm ∧ (lo : Int) ≤ t ∧ t < pg then some zeros else S nm' t
theorem fill_none {D : DataW Unit} {S : ByteArray → Int → Option (List Int)} {nm : ByteArray} {pg : Nat} (h : RepS D S) : RepS D (fillS S nm pg pg) := h.congr fun nm' t => by unfold fillS; rw [if_neg (fun h => by omega)]
theorem fill_stop {S : ByteArray → Int → Option (List Int)} {nm : ByteArray} {L t pg : Nat} (h : (t = pg ∨ L ≤ t)) (h2 : t ≤ L ∨ t = 0) (nm' : ByteArray) (u : Int) : fillS S nm L pg nm' u = fillS S nm t pg nm' u := by
  unfold fillS
  by_cases hn : nm' = nm
  · simp only [hn, true_and]
    by_cases h1 : (t : Int) ≤ u ∧ u < pg
    · rw [if_pos (by omega), if_pos h1]
    · rw [if_neg (by omega), if_neg h1]
  · simp only [hn, false_and, if_false]
theorem fill_step {D : DataW Unit} {S : ByteArray → Int → Option (List Int)} {nm : ByteArray} {t pg : Nat} (h : RepS D (fillS S nm (t + 1) pg)) (hD : IsMap D) (hnm : nm.size ≤ maxLen) (hp : (Lit.int .i64 (t : Int)).wf = true) (ht : t < pg) : RepS (D.put (kPl nm t) (shD zeros)) (fillS S nm t pg) :=
  (h.put hD hnm hp zeros).congr fun nm' u => by
    unfold fillS
    by_cases hn : nm' = nm
    · simp only [hn, true_and]
      by_cases h1 : u = t
      · rw [if_pos (by omega), if_pos h1]
      · rw [if_neg h1]
        by_cases h2 : (t : Int) ≤ u ∧ u < pg
        · rw [if_pos h2, if_pos (by omega)]
        · rw [if_neg h2, if_neg (by omega)]
    · simp only [hn, false_and, if_false]
/-- The number in a cell. -/
def cellN (w : World) (b o : Nat) : Nat := match w.cell? ⟨b, o, none⟩ with | some (.int _ n) => n.toNat | _ => 0
theorem guard_pl : Try.prog.eqGuardType Try.prog.depth 72 = false := by kernel_rfl
theorem look_pl {w : World} {mb q : Nat} {D : DataW Unit} {S : ByteArray → Int → Option (List Int)} {nm : ByteArray} {pg : Int} (hM : MapS w mb q D) (hR : RepS D S) (hnm : nm.size ≤ maxLen) (hp : (Lit.int .i64 pg).wf = true) (hbs : ∀ bs, S nm pg = some bs → bs.length = 128 ∧ ∀ x ∈ bs, 0 ≤ x ∧ x ≤ 255) :
    (∃ bs, S nm pg = some bs ∧ (Instr.lookup 63 (.map (some mb)) (.agg #[.string nm, .int .i64 pg]) true).run Try.prog w = .ok (.tuple #[.agg (u8s bs).toArray, .bool true]) w) ∨ (S nm pg = none ∧ (Instr.lookup 63 (.map (some mb)) (.agg #[.string nm, .int .i64 pg]) true).run Try.prog w = .ok (.tuple #[.agg (u8s zeros).toArray, .bool false]) w) := by
  obtain ⟨v, pl, hrun, hv⟩ := World.ownsMap.look_ok hM lawPl Try.underlying63 (zeroSheet w) (sheetR_mk zeros_len zeros_in) (keyOf_pl hnm hp)
  obtain ⟨bs, h1, h2, rfl, h4⟩ := sheetR_inv hv
  simp only [Prod.mk.injEq] at h4
  have hat := hR nm pg hnm hp
  cases hS : S nm pg with
  | some cs =>
    left
    rw [hS] at hat
    have e : Maps.has D (kPl nm pg) = true := has_true_of_atKey hat
    rw [e] at hrun
    obtain ⟨c1, c2⟩ := hbs cs hS
    have : bs = cs := shD_inj (by omega) h2 c2 (by rw [← h4.1]; exact hat _)
    subst this
    exact ⟨bs, rfl, hrun⟩
  | none =>
    right
    rw [hS] at hat
    have e : Maps.has D (kPl nm pg) = false := has_false_of_atKey hat
    rw [e] at hrun
    have : bs = zeros := shD_inj (by rw [h1, zeros_len]) h2 zeros_in (by rw [← h4.1]; exact hat _)
    subst this
    exact ⟨rfl, hrun⟩
set_option maxHeartbeats 3200000 in
theorem fillBefore_any (nm : ByteArray) (hnm : nm.size ≤ maxLen) (pg L mb q : Nat) (D : DataW Unit) (S : ByteArray → Int → Option (List Int)) (w : World) (hpg : pg ≤ 1048576) (hq : q ≤ 1073741824) (hM : MapS w mb q D) (hR : RepS D S) (hL : ∀ t : Nat, (∃ bs, S nm t = some bs) ↔ t < L) (hbs : ∀ t bs, S nm t = some bs → bs.length = 128 ∧ ∀ x ∈ bs, 0 ≤ x ∧ x ≤ 255) :
    Calls Try.prog 52 #[.map (some mb), .agg #[.string nm, .int .i64 pg]] w fun e w' => e = .returned (.tuple #[]) ∧ ∃ (q' : Nat) (D' : DataW Unit), q' ≤ q + pg ∧ MapS w' mb q' D' ∧ RepS D' (fillS S nm L pg) ∧ Fr (fun x => x = mb) w w' := by
  have hmb : mb < w.heap.size := World.ownsMap.lt hM
  have hb0 : Below w.heap.size w ((w.alloc (.cells #[.string nm, .int .i64 pg] 72)).alloc (.cells #[.string nm, .int .i64 0] 72)) := ((Below.refl _ _).alloc (Nat.le_refl _) _).alloc (by simp) _
  have k0 : ((w.alloc (.cells #[.string nm, .int .i64 pg] 72)).alloc (.cells #[.string nm, .int .i64 0] 72)).heap[w.heap.size]? = some (.cells #[.string nm, .int .i64 pg] 72) := by rw [heap_alloc_old _ _ (by simp)]; exact heap_alloc_new _ _
  have k1 : ((w.alloc (.cells #[.string nm, .int .i64 pg] 72)).alloc (.cells #[.string nm, .int .i64 0] 72)).heap[w.heap.size + 1]? = some (.cells #[.string nm, .int .i64 0] 72) := by have := heap_alloc_new (w.alloc (.cells #[.string nm, .int .i64 pg] 72)) (.cells #[.string nm, .int .i64 0] 72); simpa using this
  have hM0 : Hid (MapS ((w.alloc (.cells #[.string nm, .int .i64 pg] 72)).alloc (.cells #[.string nm, .int .i64 0] 72)) mb q D) := World.ownsMap.alloc (World.ownsMap.alloc hM _) _
  have HR : Hid (RepS D S) := hR
  have HL : Hid (∀ t : Nat, (∃ bs, S nm t = some bs) ↔ t < L) := hL
  have HBS : Hid (∀ t bs, S nm t = some bs → bs.length = 128 ∧ ∀ x ∈ bs, 0 ≤ x ∧ x ≤ 255) := hbs
  have F0 : Hid (Fr (fun x => x = mb) w ((w.alloc (.cells #[.string nm, .int .i64 pg] 72)).alloc (.cells #[.string nm, .int .i64 0] 72))) := Fr.of_below hb0
  clear hM hR hL hbs
  go_enter Try.func52, Try.ntmps52
  go_wp2
  have hsz0 : w.heap.size + 1 < ((w.alloc (.cells #[.string nm, .int .i64 pg] 72)).alloc (.cells #[.string nm, .int .i64 0] 72)).heap.size := (Array.getElem?_eq_some_iff.1 k1).1
  generalize ((w.alloc (.cells #[.string nm, .int .i64 pg] 72)).alloc (.cells #[.string nm, .int .i64 0] 72)) = W0 at hb0 k0 k1 hM0 F0 hsz0 ⊢
  go_loopw [5, 6] (fun _ _ wr => ∃ (t q2 : Nat) (D2 : DataW Unit), t ≤ pg ∧ (t = pg ∨ L ≤ t) ∧ q2 + t ≤ q + pg ∧ Hid (MapS wr mb q2 D2) ∧ Hid (RepS D2 (fillS S nm t pg)) ∧ Hid (Fr (fun x => x = mb) w wr) ∧ Hid (wr.heap[w.heap.size]? = some (.cells #[.string nm, .int .i64 t] 72)) ∧ Hid (wr.heap[w.heap.size + 1]? = some (.cells #[.string nm, .int .i64 0] 72))) (fun _ _ wr => cellN wr w.heap.size 1)
  case atStart => exact ⟨pg, q, D, Nat.le_refl _, .inl rfl, Nat.le_refl _, hM0, fill_none HR.out, F0, k0, k1⟩
  case round =>
    obtain ⟨t, q2, D2, ht, htL, hq2, HM, HRp, HFr, HK0, HK1⟩ := hrel
    obtain ⟨c0, c1⟩ := box_two2D HK0.out
    obtain ⟨d0, d1⟩ := box_two2D HK1.out
    have fz := box_thawC HK0.out
    have hl1 : w.heap.size + 1 < wr.heap.size := (Array.getElem?_eq_some_iff.1 HK1.out).1
    have hl0 : w.heap.size < wr.heap.size := by omega
    have hne := neq_pl nm (t : Int) 0
    have hgd := guard_pl
    by_cases h0 : t = 0
    · subst h0
      have R0 : RepS D2 (fillS S nm L pg) := HRp.out.congr fun nm' u => fill_stop htL (.inr rfl) nm' u
      have hne0 : ∀ w : World, (binOp .neq 72 (.agg #[.string nm, .int .i64 0]) (.agg #[.string nm, .int .i64 0])).run Try.prog w = .ok (.bool false) w := fun w => neq_pl nm 0 0 w
      clear hne
      go_wp2
      exact bodyPost_end (v := .tuple #[]) (by simp [results, Try.results52, go_sem]) rfl ⟨rfl, q2, D2, by omega, HM.out, R0, HFr.out⟩
    · obtain ⟨s, rfl⟩ : ∃ s, t = s + 1 := ⟨t - 1, by omega⟩
      have hne1 : ∀ w : World, (binOp .neq 72 (.agg #[.string nm, .int .i64 (s + 1 : Nat)]) (.agg #[.string nm, .int .i64 0])).run Try.prog w = .ok (.bool true) w := fun w => by rw [hne w, show (((s + 1 : Nat) : Int) == 0) = false from beq_eq_false_iff_ne.2 (by omega)]; rfl
      have hset := fr_setCell wr w.heap.size 1 (.int .i64 (s : Int))
      have hMs : MapS (wr.setCell ⟨w.heap.size, 1, none⟩ (.int .i64 (s : Int))) mb q2 D2 := World.ownsMap.setCell HM.out (by show mb ≠ w.heap.size; omega) _
      have HB1 : Hid ((wr.setCell ⟨w.heap.size, 1, none⟩ (.int .i64 (s : Int))).heap[w.heap.size]? = some (.cells #[.string nm, .int .i64 (s : Int)] 72)) := heap_setCell_at HK0.out 1 (.int .i64 (s : Int))
      have HB2 : Hid ((wr.setCell ⟨w.heap.size, 1, none⟩ (.int .i64 (s : Int))).heap[w.heap.size + 1]? = some (.cells #[.string nm, .int .i64 0] 72)) := (hset.block _ hl1 (by omega)).trans HK1.out
      have hsw : (Lit.int .i64 (s : Int)).wf = true := WalkArith.wf_i64 (by omega)
      have hSs : fillS S nm (s + 1) pg nm (s : Int) = S nm (s : Int) := by unfold fillS; rw [if_neg (fun h => by omega)]
      have hlook := look_pl (nm := nm) (pg := (s : Int)) hMs HRp.out hnm hsw (fun bs hb => by rw [hSs] at hb; exact HBS.out _ _ hb)
      clear hne
      rcases hlook with ⟨bs, hb, hlk⟩ | ⟨hb, hlk⟩
      · rw [hSs] at hb
        have hsL : s < L := (HL.out s).1 ⟨bs, hb⟩
        have R0 : RepS D2 (fillS S nm L pg) := HRp.out.congr fun nm' u => fill_stop htL (.inl (by omega)) nm' u
        have hbl := (HBS.out _ _ hb).1
        have hul : (u8s bs).length = 128 := by simp [u8s, hbl]
        have hst := storeCells_new (wr.setCell ⟨w.heap.size, 1, none⟩ (.int .i64 (s : Int))) bs hbl
        rw [show (wr.setCell ⟨w.heap.size, 1, none⟩ (.int .i64 (s : Int))).heap.size = wr.heap.size by simp [World.setCell]] at hst
        go_wp2
        exact bodyPost_ret (v := .tuple #[]) (by simp [results, Try.results52, go_sem]) rfl ⟨rfl, q2, D2, by omega, World.ownsMap.alloc hMs _, R0, (HFr.out.late hset (fun g e => by omega)).trans (Fr.of_below ((Below.refl _ _).alloc (Nat.le_refl _) _))⟩
      · rw [hSs] at hb
        have hsL : L ≤ s := Decidable.byContradiction fun h => by
          obtain ⟨bs, hbs⟩ := (HL.out s).2 (by omega)
          rw [hb] at hbs; cases hbs
        have hul : (u8s zeros).length = 128 := by simp [u8s, zeros_len]
        have hst := storeCells_new (wr.setCell ⟨w.heap.size, 1, none⟩ (.int .i64 (s : Int))) zeros zeros_len
        rw [show (wr.setCell ⟨w.heap.size, 1, none⟩ (.int .i64 (s : Int))).heap.size = wr.heap.size by simp [World.setCell]] at hst
        have hMa : MapS ((wr.setCell ⟨w.heap.size, 1, none⟩ (.int .i64 (s : Int))).alloc (.cells (u8s zeros).toArray 69)) mb q2 D2 := World.ownsMap.alloc hMs _
        have hal : Below (wr.setCell ⟨w.heap.size, 1, none⟩ (.int .i64 (s : Int))).heap.size (wr.setCell ⟨w.heap.size, 1, none⟩ (.int .i64 (s : Int))) ((wr.setCell ⟨w.heap.size, 1, none⟩ (.int .i64 (s : Int))).alloc (.cells (u8s zeros).toArray 69)) := (Below.refl _ _).alloc (Nat.le_refl _) _
        obtain ⟨wu, hrun, hMu, hgu⟩ := World.ownsMap.update hMa lawPl Try.underlying63 (by unfold maxLen; omega) (keyOf_pl hnm hsw) (val := .agg Try.zeroCells69) (by rw [zeroCellsV]; exact sheetR_mk zeros_len zeros_in)
        have hsz1 : (wr.setCell ⟨w.heap.size, 1, none⟩ (.int .i64 (s : Int))).heap.size = wr.heap.size := by simp [World.setCell]
        have e0 := (hal.block w.heap.size (by rw [hsz1]; omega)).trans HB1.out
        have e1 := (hal.block (w.heap.size + 1) (by rw [hsz1]; omega)).trans HB2.out
        have hza := hal.size
        obtain ⟨g0, g1⟩ := box_two2D e0
        have U0 : Hid (wu.heap[w.heap.size]? = some (.cells #[.string nm, .int .i64 (s : Int)] 72)) := (hgu.block w.heap.size (by omega) (fun e => by injection e with e; omega)).trans e0
        have U1 : Hid (wu.heap[w.heap.size + 1]? = some (.cells #[.string nm, .int .i64 0] 72)) := (hgu.block (w.heap.size + 1) (by omega) (fun e => by injection e with e; omega)).trans e1
        have UF : Hid (Fr (fun x => x = mb) w wu) := ((HFr.out.late hset (fun g e => by omega)).trans (Fr.of_below hal)).trans (Fr.of_grown hgu (fun x e => by injection e with e; exact e.symm))
        have UM : Hid (MapS wu mb (q2 + 1) (D2.put (kPl nm (s : Int)) (shD zeros))) := hMu
        have UR : Hid (RepS (D2.put (kPl nm (s : Int)) (shD zeros)) (fillS S nm s pg)) := fill_step HRp.out (World.ownsMap.isMap HM.out) hnm hsw (by omega)
        have HC1 : Hid (cellN wr w.heap.size 1 = s + 1) := by show _ = _; unfold cellN; rw [c1]; rfl
        clear hMu hgu hal e0 e1 hMa hMs
        go_wp2
        refine ⟨⟨s, q2 + 1, _, by omega, .inr hsL, by omega, UM, UR, UF, U0, U1⟩, ?_⟩
        rw [HC1.out, show cellN wu w.heap.size 1 = s by unfold cellN; rw [(box_two2D U0.out).2]; rfl]
        omega
end Go.Proofs.Yteienboknicpjaa
