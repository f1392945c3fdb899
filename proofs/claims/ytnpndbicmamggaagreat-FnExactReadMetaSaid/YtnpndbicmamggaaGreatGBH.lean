import Derived.Test.YtnpndbicmamggaaGreatGAA
import Derived.Test.YtnpndbicmamggaaGreatGBC
import Derived.Test.YtnpndbicmamggaaGreatGBD
import Derived.Test.YtnpndbicmamggaaGreatGBG
import Derived.Test.YtnpndbicmamggaaGreatChecked
import Derived.Deep.QuietTactic
import Derived.BigQuiet
import Derived.Deep.RegionWith
import Derived.Maps.Own
import Derived.Maps.OwnSet
import Derived.DeepKeys4
import Derived.WalkArith
import Derived.WalkSpells
import Derived.WalkLawsBesides
import Derived.Laws.IdiomStrings
import Derived.Deep.RegionLaw
import Derived.Deep.RegionHeld3
import Derived.ArgAppend
namespace Go.Proofs.YtnpndbicmamggaaGreat
open Go.RowKit
set_option linter.unusedVariables false
set_option maxRecDepth 100000

set_option maxHeartbeats 400000 in
theorem eqFile_same (s : ByteArray) (a : Option Addr) (n c : Nat) (a2 : Option Addr) (c2 : Nat) (bs : List Int) (w : World) (A B A2 B2 : Nat) (hB : B ≤ w.heap.size) (hB2 : B2 ≤ w.heap.size) (h : BytesAt w A B a n c bs) (k : BytesAt w A2 B2 a2 n c2 bs) :
    Calls Tryz.prog 35 #[.agg #[.string s, .slice a n c], .agg #[.string s, .slice a2 n c2]] w fun e w' => e = .returned (.bool true) ∧ Below w.heap.size w w' := by
  have hb : ∀ m, Below w.heap.size w (((w.alloc (.cells #[.string s, .slice a n c] 71)).alloc (.cells #[.string s, .slice a2 n c2] 71)).drewN m) := by
    intro m
    exact ((Below.refl _ _).alloc (Nat.le_refl _) _ |>.alloc (by simp) _).trans ⟨rfl, rfl, rfl, Nat.le_refl _, fun _ _ => rfl⟩
  go_enter Tryz.func35, Tryz.ntmps35
  go_wp2_with fail
  refine (eqByteS_same _ _ _ _ _ bs _ A B A2 B2 (h.below ((hb 0).mono hB)) (k.below ((hb 0).mono hB2))).mono ?_
  rintro e w1 ⟨rfl, m, rfl⟩
  go_wp2_with fail
  go_ret
  exact ⟨rfl, hb _⟩
set_option maxHeartbeats 400000 in
theorem eqFileS_same (a : Option Addr) (n c : Nat) (a2 : Option Addr) (c2 : Nat) (fs : List PF) (w : World) (A B A2 B2 : Nat) (hB : B ≤ w.heap.size) (hB2 : B2 ≤ w.heap.size) (h : FilesAt w A B a n c fs) (k : FilesAt w A2 B2 a2 n c2 fs) :
    Calls Tryz.prog 20 #[.slice a n c, .slice a2 n c2] w fun e w' => e = .returned (.bool true) ∧ Below w.heap.size w w' := by
  obtain ⟨hl, hnc, hc, hcell⟩ := h
  obtain ⟨_, _, _, kcell⟩ := k
  unfold maxLen at hc
  have hne : ((n : Int) != (n : Int)) = false := by simp
  go_enter Tryz.func20, Tryz.ntmps20
  go_wp2
  go_loopw [5] (fun i wr => ∃ k : Nat, k ≤ n ∧ i = .int .i64 k ∧ Below w.heap.size w wr) (fun i _ => n - (intOf i).toNat)
  case atStart => exact ⟨0, Nat.zero_le _, rfl, Below.refl _ _⟩
  case round =>
    obtain ⟨k, hk, rfl, hbel⟩ := hrel
    by_cases hlt : k < n
    · obtain ⟨b, off, rfl, hb, hcb⟩ := hcell (by omega)
      obtain ⟨b2, off2, rfl, hb2, hcb2⟩ := kcell (by omega)
      have e1 := (hcb k hlt).below hb (hbel.mono hB)
      have e2 := (hcb2 k hlt).below hb2 (hbel.mono hB2)
      clear hcell kcell hcb hcb2
      generalize fs.getD k (ByteArray.empty, []) = f at e1 e2
      obtain ⟨p1, p2, pa, pn, pc, p3, p4⟩ := e1
      obtain ⟨q1, q2, qa, qn, qc, q3, q4⟩ := e2
      obtain rfl : qn = pn := q4.1.symm.trans p4.1
      have hs := hbel.size
      go_wp2
      go_region_with (go_at_call 35; refine (eqFile_same _ _ _ _ _ _ f.2 _ A B A2 B2 ?_ ?_ ?_ ?_).mono ?_; exact Nat.le_trans hB hs; exact Nat.le_trans hB2 hs; exact p4; exact q4; rintro e w1 ⟨rfl, hb1⟩)
      all_goals
        go_wp2
        go_roundw
        case rel => exact ⟨k + 1, by omega, by go_num, (hbel.drew).trans (hb1.mono hs)⟩
        case measure => simp [intOf]; omega
    · go_wp2
      go_ret
      exact ⟨rfl, hbel⟩
set_option maxHeartbeats 400000 in
theorem eqPend_same (s : ByteArray) (pg : Int) (a : Option Addr) (n c : Nat) (a2 : Option Addr) (c2 : Nat) (bs : List Int) (w : World) (A B A2 B2 : Nat) (hB : B ≤ w.heap.size) (hB2 : B2 ≤ w.heap.size) (h : BytesAt w A B a n c bs) (k : BytesAt w A2 B2 a2 n c2 bs) :
    Calls Tryz.prog 36 #[.agg #[.string s, .int .i64 pg, .slice a n c], .agg #[.string s, .int .i64 pg, .slice a2 n c2]] w fun e w' => e = .returned (.bool true) ∧ Below w.heap.size w w' := by
  have hb : ∀ m, Below w.heap.size w (((w.alloc (.cells #[.string s, .int .i64 pg, .slice a n c] 73)).alloc (.cells #[.string s, .int .i64 pg, .slice a2 n c2] 73)).drewN m) := by
    intro m
    exact ((Below.refl _ _).alloc (Nat.le_refl _) _ |>.alloc (by simp) _).trans ⟨rfl, rfl, rfl, Nat.le_refl _, fun _ _ => rfl⟩
  go_enter Tryz.func36, Tryz.ntmps36
  go_wp2_with fail
  refine (eqByteS_same _ _ _ _ _ bs _ A B A2 B2 (h.below ((hb 0).mono hB)) (k.below ((hb 0).mono hB2))).mono ?_
  rintro e w1 ⟨rfl, m, rfl⟩
  go_wp2_with fail
  go_ret
  exact ⟨rfl, hb _⟩
set_option maxHeartbeats 400000 in
theorem eqPendS_same (a : Option Addr) (n c : Nat) (a2 : Option Addr) (c2 : Nat) (fs : List PP) (w : World) (A B A2 B2 : Nat) (hB : B ≤ w.heap.size) (hB2 : B2 ≤ w.heap.size) (h : PendsAt w A B a n c fs) (k : PendsAt w A2 B2 a2 n c2 fs) :
    Calls Tryz.prog 21 #[.slice a n c, .slice a2 n c2] w fun e w' => e = .returned (.bool true) ∧ Below w.heap.size w w' := by
  obtain ⟨hl, hnc, hc, hcell⟩ := h
  obtain ⟨_, _, _, kcell⟩ := k
  unfold maxLen at hc
  have hne : ((n : Int) != (n : Int)) = false := by simp
  go_enter Tryz.func21, Tryz.ntmps21
  go_wp2
  go_loopw [5] (fun i wr => ∃ k : Nat, k ≤ n ∧ i = .int .i64 k ∧ Below w.heap.size w wr) (fun i _ => n - (intOf i).toNat)
  case atStart => exact ⟨0, Nat.zero_le _, rfl, Below.refl _ _⟩
  case round =>
    obtain ⟨k, hk, rfl, hbel⟩ := hrel
    by_cases hlt : k < n
    · obtain ⟨b, off, rfl, hb, hcb⟩ := hcell (by omega)
      obtain ⟨b2, off2, rfl, hb2, hcb2⟩ := kcell (by omega)
      have e1 := (hcb k hlt).below hb (hbel.mono hB)
      have e2 := (hcb2 k hlt).below hb2 (hbel.mono hB2)
      clear hcell kcell hcb hcb2
      generalize fs.getD k (ByteArray.empty, 0, []) = f at e1 e2
      obtain ⟨p1, p2, p5, p6, pa, pn, pc, p3, p4⟩ := e1
      obtain ⟨q1, q2, q5, q6, qa, qn, qc, q3, q4⟩ := e2
      obtain rfl : qn = pn := q4.1.symm.trans p4.1
      have hs := hbel.size
      go_wp2
      go_region_with (go_at_call 36; refine (eqPend_same _ _ _ _ _ _ _ f.2.2 _ A B A2 B2 ?_ ?_ ?_ ?_).mono ?_; exact Nat.le_trans hB hs; exact Nat.le_trans hB2 hs; exact p4; exact q4; rintro e w1 ⟨rfl, hb1⟩)
      all_goals
        go_wp2
        go_roundw
        case rel => exact ⟨k + 1, by omega, by go_num, (hbel.drew).trans (hb1.mono hs)⟩
        case measure => simp [intOf]; omega
    · go_wp2
      go_ret
      exact ⟨rfl, hbel⟩
set_option maxHeartbeats 400000 in
theorem eqDisk_same (a : Option Addr) (n c : Nat) (fs : List PF) (b : Option Addr) (m d : Nat) (ps : List PP) (a2 : Option Addr) (c2 : Nat) (b2 : Option Addr) (d2 : Nat) (cp fu : Int) (de : Bool) (w : World) (A B A2 B2 : Nat) (hB : B ≤ w.heap.size) (hB2 : B2 ≤ w.heap.size)
    (hF : FilesAt w A B a n c fs) (hP : PendsAt w A B b m d ps) (kF : FilesAt w A2 B2 a2 n c2 fs) (kP : PendsAt w A2 B2 b2 m d2 ps) :
    Calls Tryz.prog 9 #[.agg #[.slice a n c, .slice b m d, .int .i64 cp, .int .i64 fu, .bool de], .agg #[.slice a2 n c2, .slice b2 m d2, .int .i64 cp, .int .i64 fu, .bool de]] w fun e w' => e = .returned (.bool true) ∧ Below w.heap.size w w' := by
  have hb0 : Below w.heap.size w ((w.alloc (.cells #[.slice a n c, .slice b m d, .int .i64 cp, .int .i64 fu, .bool de] 35)).alloc (.cells #[.slice a2 n c2, .slice b2 m d2, .int .i64 cp, .int .i64 fu, .bool de] 35)) := ((Below.refl _ _).alloc (Nat.le_refl _) _).alloc (by simp) _
  have e1 : (cp != cp) = false := by simp
  have e2 : (fu != fu) = false := by simp
  have e3 : (de != de) = false := by simp
  go_enter Tryz.func9, Tryz.ntmps9
  go_wp2_with fail
  refine (eqFileS_same _ _ _ _ _ fs _ A B A2 B2 (by simp; omega) (by simp; omega) (hF.below (hb0.mono hB)) (kF.below (hb0.mono hB2))).mono ?_
  rintro e w1 ⟨rfl, hb1⟩
  have hb2 := hb0.trans (hb1.mono (by simp; omega))
  have hz := hb1.size
  simp at hz
  have hz2 : w.heap.size < w1.heap.size := by omega
  have hz3 : w.heap.size + 1 < w1.heap.size := by omega
  obtain ⟨hc1, hf1⟩ := bcell hb1
  go_wp2_with fail
  refine (eqPendS_same _ _ _ _ _ ps _ A B A2 B2 (by omega) (by omega) (hP.below (hb2.mono hB)) (kP.below (hb2.mono hB2))).mono ?_
  rintro e w2 ⟨rfl, hb3⟩
  have hb4 := hb2.trans (hb3.mono (by omega))
  have hy := hb3.size
  have hy2 : w.heap.size < w2.heap.size := by omega
  have hy3 : w.heap.size + 1 < w2.heap.size := by omega
  obtain ⟨hc2, hf2⟩ := bcell hb3
  go_wp2
  go_ret
  exact ⟨rfl, hb4⟩
end Go.Proofs.YtnpndbicmamggaaGreat
namespace Go.Proofs.YtnpndbicmamggaaGreat
open Go.RowKit Go.Maps
set_option linter.unusedVariables false
set_option maxRecDepth 100000

theorem box5' {wr : World} {N : Nat} {v0 v1 v2 v3 v4 : Value} {t : TypeId} (h : wr.heap[N]? = some (.cells #[v0, v1, v2, v3, v4] t)) : wr.cell? ⟨N, 0, none⟩ = some v0 ∧ wr.cell? ⟨N, 1, none⟩ = some v1 ∧ wr.cell? ⟨N, 2, none⟩ = some v2 ∧ wr.cell? ⟨N, 3, none⟩ = some v3 ∧ wr.cell? ⟨N, 4, none⟩ = some v4 := by
  refine ⟨?_, ?_, ?_, ?_, ?_⟩
  · rw [cell_of_row wr N 0 _ _ _ h]; rfl
  · rw [cell_of_row wr N 1 _ _ _ h]; rfl
  · rw [cell_of_row wr N 2 _ _ _ h]; rfl
  · rw [cell_of_row wr N 3 _ _ _ h]; rfl
  · rw [cell_of_row wr N 4 _ _ _ h]; rfl

/-- How many pages a file has as seen, or -1. -/
def pageC (fs : List PF) (ps : List PP) (cp fu : Int) (nm : ByteArray) : Int :=
  if implV fs ps cp fu = true then (if findN (lastF ps fs) nm < (lastF ps fs).length then lenI (lastF ps fs) nm else -1) else -1
theorem inv_last : ∀ (ps : List PP) (fs : List PF), Inv fs → Inv (lastF ps fs)
  | [], _, h => h
  | p :: r, fs, h => by
    simp only [lastF]
    exact inv_last r _ (doP_inv h)
theorem specV_parts {fs : List PF} {ps : List PP} {cp fu : Int} (h : specV fs ps cp fu = true) : fs.length ≤ 12 ∧ cp ≤ 1000 ∧ totalI fs ≤ cp ∧ cacheS cp ps fs = true ∧ filesOk fs = true := by
  simp only [specV, headB, Bool.and_eq_true, decide_eq_true_eq] at h
  obtain ⟨⟨⟨⟨⟨⟨a1, a2⟩, a3⟩, a4⟩, a5⟩, a6⟩, a7⟩ := h
  exact ⟨a1, a2.2, a6, a7, a5⟩

end Go.Proofs.YtnpndbicmamggaaGreat
namespace Go.Proofs.YtnpndbicmamggaaGreat
open Go.RowKit Go.Maps
set_option linter.unusedVariables false
set_option maxRecDepth 100000

theorem laidOutS : laidOutB Tryz.prog = true := by kernel_rfl
theorem rowPl : (84 : TypeId) < Tryz.prog.types.size := of_decide_eq_true (by kernel_rfl)
theorem widePl : (match Tryz.prog.underlying 84 with | some (.array _ _) | some (.struct _) => true | _ => false) = true := by kernel_rfl
theorem lawPl : Keyed Tryz.prog 84 := Keyed.of_law (deep_law_laid laidOutS (m := 2) (by omega) rowPl (by kernel_rfl) widePl)
/-- The key of a place. -/
def kPl (nm : ByteArray) (pg : Int) : Lit := .string (keyBytes [.string nm.data.toList, .int .i64 pg])
theorem keyTypePl : Tryz.prog.keyType 84 = true := by kernel_rfl
theorem cellsPl : Tryz.prog.cellsOf 84 = 2 := by kernel_rfl
theorem formedPl (u v : Value) : (Value.agg #[u, v]).formed Tryz.prog 84 = true := by
  obtain ⟨fs, hu⟩ : ∃ fs, Tryz.prog.underlying 84 = some (.struct fs) := ⟨_, Tryz.underlying84⟩
  simp [Value.formed, hu, cellsPl]
theorem cellsOfS : Tryz.prog.cellsOf 9 = 1 := by kernel_rfl
theorem cellsOfI : Tryz.prog.cellsOf 2 = 1 := by kernel_rfl
theorem keyLits_pl (d : Nat) {nm : ByteArray} {pg : Int} (h : nm.size ≤ maxLen) (hp : (Lit.int .i64 pg).wf = true) : Tryz.prog.keyLits (d + 2) 84 [.string nm, .int .i64 pg] = some [.string nm.data.toList, .int .i64 pg] := by
  simp [Program.keyLits, Tryz.underlying84, Tryz.underlying9, Tryz.underlying2, cellsPl, cellsOfS, cellsOfI, h, hp]
theorem keyOf_pl {nm : ByteArray} {pg : Int} (h : nm.size ≤ maxLen) (hp : (Lit.int .i64 pg).wf = true) : keyOf Tryz.prog 84 (.agg #[.string nm, .int .i64 pg]) = some (kPl nm pg) := by
  unfold keyOf
  rw [Tryz.underlying84]
  have h0 : 0 < Tryz.prog.types.size := Nat.lt_of_le_of_lt (Nat.zero_le _) rowPl
  have e : Tryz.prog.types.size + 1 = (Tryz.prog.types.size - 1) + 2 := by omega
  simp only [keyTypePl, formedPl, Bool.and_self, if_true, Value.cells]
  rw [e, keyLits_pl _ h hp]
  rfl
theorem kPl_inj {nm nm' : ByteArray} {pg pg' : Int} (h : nm.size ≤ maxLen) (hp : (Lit.int .i64 pg).wf = true) (h' : nm'.size ≤ maxLen) (hp' : (Lit.int .i64 pg').wf = true) (e : kPl nm pg = kPl nm' pg') : nm = nm' ∧ pg = pg' := by
  have h1 := keyOf_pl h hp
  have h2 := keyOf_pl h' hp'
  rw [← e] at h2
  have := lawPl.inj h1 h2
  simpa using this
/-- A sheet as a value, and as a map's datum tells it. -/
def sheetV (bs : List Int) : Value := .agg (u8s bs).toArray
def b8 (x : Int) : UInt8 := UInt8.ofNat x.toNat
def shD (bs : List Int) : DataW Unit := .lit (.string (bs.map b8))
def isB8 : Value → Bool
  | .int .u8 x => decide (0 ≤ x ∧ x ≤ 255)
  | _ => false
def ofB8 : Value → Int
  | .int .u8 x => x
  | _ => 0
def sheetR (v : Value) : Option (DataW Unit × List MemPlace) :=
  match v with
  | .agg cs => if cs.size = 128 ∧ cs.toList.all isB8 = true then some (shD (cs.toList.map ofB8), []) else none
  | _ => none
theorem sheetR_mk {bs : List Int} (hl : bs.length = 128) (hb : ∀ x ∈ bs, 0 ≤ x ∧ x ≤ 255) : sheetR (sheetV bs) = some (shD bs, []) := by
  have h1 : ((u8s bs).toArray.size = 128 ∧ (u8s bs).toArray.toList.all isB8 = true) := by
    refine ⟨by simp [u8s, hl], ?_⟩
    simp only [u8s, List.all_eq_true, List.mem_map]
    rintro v ⟨x, hx, rfl⟩
    exact decide_eq_true (hb x hx)
  have h2 : (u8s bs).toArray.toList.map ofB8 = bs := by
    simp only [u8s, List.map_map]
    exact (List.map_congr_left (fun x _ => rfl)).trans (List.map_id bs)
  simp only [sheetR, sheetV]
  rw [if_pos h1, h2]
theorem sheetR_inv {v : Value} {z : DataW Unit × List MemPlace} (h : sheetR v = some z) : ∃ bs : List Int, bs.length = 128 ∧ (∀ x ∈ bs, 0 ≤ x ∧ x ≤ 255) ∧ v = sheetV bs ∧ z = (shD bs, []) := by
  unfold sheetR at h
  split at h
  · rename_i cs
    split at h
    · rename_i hc
      obtain ⟨h1, h2⟩ := hc
      rw [List.all_eq_true] at h2
      have hform : ∀ v ∈ cs.toList, v = .int .u8 (ofB8 v) ∧ 0 ≤ ofB8 v ∧ ofB8 v ≤ 255 := fun v hv => by
        have h3 := h2 v hv
        unfold isB8 at h3
        split at h3
        · exact ⟨rfl, of_decide_eq_true h3⟩
        · cases h3
      refine ⟨cs.toList.map ofB8, by simp [h1], fun x hx => ?_, ?_, ?_⟩
      · obtain ⟨v, hv, rfl⟩ := List.mem_map.1 hx
        exact (hform v hv).2
      · have e : u8s (cs.toList.map ofB8) = cs.toList := by
          simp only [u8s, List.map_map]
          exact (List.map_congr_left (fun v hv => (hform v hv).1.symm)).trans (List.map_id _)
        simp only [sheetV, e, Array.toArray_toList]
      · injection h with h; exact h.symm
    · cases h
  · cases h
theorem b8_inj {x y : Int} (hx : 0 ≤ x ∧ x ≤ 255) (hy : 0 ≤ y ∧ y ≤ 255) (h : b8 x = b8 y) : x = y := by
  have h1 := congrArg UInt8.toNat h
  simp only [b8, UInt8.toNat_ofNat'] at h1
  omega
theorem shD_inj {a b : List Int} (hl : a.length = b.length) (ha : ∀ x ∈ a, 0 ≤ x ∧ x ≤ 255) (hb : ∀ x ∈ b, 0 ≤ x ∧ x ≤ 255) (h : shD a = shD b) : a = b := by
  unfold shD at h
  injection h with h
  injection h with h
  apply List.ext_getElem hl
  intro i h1 h2
  have h3 : (a.map b8)[i]? = (b.map b8)[i]? := by rw [h]
  simp only [List.getElem?_map, List.getElem?_eq_getElem h1, List.getElem?_eq_getElem h2, Option.map_some, Option.some.injEq] at h3
  exact b8_inj (ha _ (List.getElem_mem h1)) (hb _ (List.getElem_mem h2)) h3
/-- Page pg of a file's bytes, and of a list of files. -/
def pageF (ds : List Int) (pg : Int) : Option (List Int) := if 0 ≤ pg ∧ pg * 128 + 128 ≤ ds.length then some ((ds.drop (pg.toNat * 128)).take 128) else none
def pageOf (fl : List PF) (nm : ByteArray) (pg : Int) : Option (List Int) :=
  match fl.find? (fun f => decide (f.1 = nm)) with
  | some f => pageF f.2 pg
  | none => none
theorem pageF_len {ds : List Int} {pg : Int} {bs : List Int} (h : pageF ds pg = some bs) : bs.length = 128 ∧ ∀ x ∈ bs, x ∈ ds := by
  unfold pageF at h
  split at h
  · rename_i hc
    injection h with h
    subst h
    refine ⟨by simp; omega, fun x hx => List.mem_of_mem_drop (List.mem_of_mem_take hx)⟩
  · cases h
theorem pageOf_snoc {l : List PF} {f : PF} {nm : ByteArray} {pg : Int} (h : ∀ g ∈ l, g.1 ≠ f.1) : pageOf (l ++ [f]) nm pg = if nm = f.1 then pageF f.2 pg else pageOf l nm pg := by
  unfold pageOf
  rw [List.find?_append]
  by_cases hn : nm = f.1
  · have h0 : l.find? (fun g => decide (g.1 = nm)) = none := by
      rw [List.find?_eq_none]
      intro g hg
      simp only [decide_eq_true_eq]
      rw [hn]
      exact h g hg
    rw [h0, if_pos hn]
    simp [hn]
  · rw [if_neg hn]
    have h1 : [f].find? (fun g => decide (g.1 = nm)) = none := by
      simp only [List.find?_singleton]
      rw [if_neg (by simp; exact fun e => hn e.symm)]
    rw [h1]
    simp
/-- A map of sheets tells the pages that S tells. -/
def RepS (D : DataW Unit) (S : ByteArray → Int → Option (List Int)) : Prop := ∀ nm pg, nm.size ≤ maxLen → (Lit.int .i64 pg).wf = true → ∀ z, D.atKey (kPl nm pg) z = (match S nm pg with | some bs => shD bs | none => z)
theorem RepS.congr {D : DataW Unit} {S S' : ByteArray → Int → Option (List Int)} (h : RepS D S) (he : ∀ nm pg, S' nm pg = S nm pg) : RepS D S' := fun nm pg h1 h2 z => by rw [he]; exact h nm pg h1 h2 z
theorem RepS.nil : RepS (.map []) (fun _ _ => none) := fun nm pg _ _ z => rfl
theorem RepS.put {D : DataW Unit} {S : ByteArray → Int → Option (List Int)} (h : RepS D S) (hD : IsMap D) {nm : ByteArray} {pg : Int} (hn : nm.size ≤ maxLen) (hp : (Lit.int .i64 pg).wf = true) (bs : List Int) : RepS (D.put (kPl nm pg) (shD bs)) (fun nm' pg' => if nm' = nm ∧ pg' = pg then some bs else S nm' pg') := by
  intro nm' pg' h1 h2 z
  by_cases hc : nm' = nm ∧ pg' = pg
  · obtain ⟨rfl, rfl⟩ := hc
    rw [atKey_put_same hD (lawPl.key (keyOf_pl hn hp))]
    simp
  · rw [atKey_put_other (fun e => hc (kPl_inj h1 h2 hn hp e))]
    rw [h nm' pg' h1 h2 z]
    simp only [if_neg hc]
def MapS (w : World) (mb k : Nat) (D : DataW Unit) : Prop := w.ownsMap Tryz.prog 84 sheetR mb k D
theorem zeroSheet (w : World) : (zeroValue 82).run Tryz.prog w = .ok (sheetV (List.replicate 128 0)) w := by kernel_rfl
end Go.Proofs.YtnpndbicmamggaaGreat
namespace Go.Proofs.YtnpndbicmamggaaGreat
open Go.RowKit
set_option linter.unusedVariables false
set_option maxRecDepth 100000

/-- The decimal digits of k, ahead of out. -/
def digF : Nat → Nat → List UInt8 → List UInt8
  | 0, _, out => out
  | f + 1, k, out => if k = 0 then out else digF f (k / 10) (UInt8.ofNat (48 + k % 10) :: out)
def mkS (k : Nat) : ByteArray := if k = 0 then ⟨#[109, 48]⟩ else ⟨(109 :: digF 40 k []).toArray⟩

theorem glue (x y : List UInt8) : (⟨x.toArray⟩ : ByteArray) ++ (⟨y.toArray⟩ : ByteArray) = ⟨(x ++ y).toArray⟩ := by
  rw [ByteArray.mk_append_mk]
theorem digit_run (kk : Nat) (wr : World) : (convert 43 9 (.slice (some ⟨wr.heap.size, 0, none⟩) 1 1)).run Tryz.prog (wr.alloc (.cells #[.int .u8 (48 + (kk : Int) % 10)] 5)) = .ok (.string ⟨#[UInt8.ofNat (48 + kk % 10)]⟩) (wr.alloc (.cells #[.int .u8 (48 + (kk : Int) % 10)] 5)) := by
  refine run_convert_bytes_back (P := Tryz.prog) _ 43 9 5 ⟨wr.heap.size, 0, none⟩ 1 [UInt8.ofNat (48 + kk % 10)] Tryz.underlying43 Tryz.underlying5 Tryz.underlying9 ?_
  intro j hj
  simp at hj
  subst hj
  have e : (((UInt8.ofNat (48 + kk % 10)).toNat : Nat) : Int) = 48 + (kk : Int) % 10 := by
    rw [UInt8.toNat_ofNat']
    omega
  simp [Addr.add]
  omega

/-- The marks that follow one another from k on. -/
def marks (k : Nat) (n : Nat) : List Int := (List.range n).map fun j => ((k + j : Nat) : Int) % 256
theorem marks_get (k n j : Nat) (h : j < n) : (marks k n).getD j 0 = ((k + j : Nat) : Int) % 256 := by simp [marks, List.getD, h]

theorem grown_refl (w : World) (row : Option Nat) : w.grownBy w row := ⟨rfl, rfl, rfl, Nat.le_refl _, fun _ _ _ => rfl⟩
theorem grown_trans {a b c : World} {row : Option Nat} (h : a.grownBy b row) (k : b.grownBy c row) : a.grownBy c row :=
  ⟨k.os.trans h.os, k.tape.trans h.tape, k.output.trans h.output, Nat.le_trans h.size k.size, fun i hi hne => (k.block i (Nat.lt_of_lt_of_le hi h.size) hne).trans (h.block i hi hne)⟩
def MarkRes (w w' : World) (base : Nat) (v : Value) (n k : Nat) : Prop := w'.ownsRow base 5 1 v n (u8s (marks k n)) ∧ w.grownBy w' v.ownBlock

theorem marks_byte (k n : Nat) : ∀ x ∈ marks k n, 0 ≤ x ∧ x ≤ 255 := by
  intro x hx
  simp [marks] at hx
  obtain ⟨a, _, rfl⟩ := hx
  omega
end Go.Proofs.YtnpndbicmamggaaGreat
namespace Go.Proofs.YtnpndbicmamggaaGreat
open Go.RowKit
set_option linter.unusedVariables false
set_option maxRecDepth 100000

/-- What marking files makes of them, and the number that is next. -/
def markF : Nat → List PF → List PF
  | _, [] => []
  | k, f :: r => (mkS k, marks (k + 1) f.2.length) :: markF (k + 1 + f.2.length) r
def kF : Nat → List PF → Nat
  | k, [] => k
  | k, f :: r => kF (k + 1 + f.2.length) r
theorem kF_snoc (k : Nat) (l : List PF) (f : PF) : kF k (l ++ [f]) = kF k l + 1 + f.2.length := by
  induction l generalizing k with
  | nil => rfl
  | cons a r ih => simp only [List.cons_append, kF]; exact ih _
theorem markF_snoc (k : Nat) (l : List PF) (f : PF) : markF k (l ++ [f]) = markF k l ++ [(mkS (kF k l), marks (kF k l + 1) f.2.length)] := by
  induction l generalizing k with
  | nil => rfl
  | cons a r ih => simp only [List.cons_append, markF, kF]; rw [ih]
theorem markF_length (k : Nat) (l : List PF) : (markF k l).length = l.length := by
  induction l generalizing k with
  | nil => rfl
  | cons a r ih => simp only [markF, List.length_cons, ih]
theorem kF_le (k : Nat) (l : List PF) : k + l.length ≤ kF k l := by
  induction l generalizing k with
  | nil => simp [kF]
  | cons a r ih => have := ih (k + 1 + a.2.length); simp only [kF, List.length_cons]; omega
theorem kF_append (k : Nat) (a b : List PF) : kF k (a ++ b) = kF (kF k a) b := by
  induction a generalizing k with
  | nil => rfl
  | cons x r ih => simp only [List.cons_append, kF]; exact ih _
def stF (k : Nat) (fs : List PF) (j : Nat) : List PF := markF k (fs.take j) ++ fs.drop j
theorem stF_length (k : Nat) (fs : List PF) (j : Nat) (h : j ≤ fs.length) : (stF k fs j).length = fs.length := by
  simp [stF, markF_length]; omega
theorem stF_get (k : Nat) (fs : List PF) (j : Nat) (h : j < fs.length) (d : PF) : (stF k fs j).getD j d = fs[j] := by
  have h1 : (markF k (fs.take j)).length = j := by rw [markF_length, List.length_take]; omega
  simp [stF, List.getD, List.getElem?_append_right, h1, h]
theorem stF_succ (k : Nat) (fs : List PF) (j : Nat) (h : j < fs.length) : stF k fs (j + 1) = (stF k fs j).set j (mkS (kF k (fs.take j)), marks (kF k (fs.take j) + 1) fs[j].2.length) := by
  have h1 : (markF k (fs.take j)).length = j := by rw [markF_length, List.length_take]; omega
  unfold stF
  rw [List.set_append_right _ _ (by omega), h1, Nat.sub_self, List.drop_eq_getElem_cons h, List.set_cons_zero, List.take_succ_eq_append_getElem h, markF_snoc]
  simp
theorem kF_take (k : Nat) (fs : List PF) (j : Nat) (h : j < fs.length) : kF k (fs.take (j + 1)) = kF k (fs.take j) + 1 + fs[j].2.length := by
  rw [List.take_succ_eq_append_getElem h, kF_snoc]
theorem kF_take_le (k : Nat) (fs : List PF) (j : Nat) : kF k (fs.take j) ≤ kF k fs := by
  have h1 : kF k fs = kF (kF k (fs.take j)) (fs.drop j) := by rw [← kF_append, List.take_append_drop]
  have := kF_le (kF k (fs.take j)) (fs.drop j)
  omega
theorem mkS_size (k : Nat) : (mkS k).size ≤ maxLen := by
  have hd : ∀ f k (o : List UInt8), (digF f k o).length ≤ f + o.length := by
    intro f
    induction f with
    | zero => intro k o; simp [digF]
    | succ f ih =>
      intro k o
      unfold digF
      split
      · omega
      · have := ih (k / 10) (UInt8.ofNat (48 + k % 10) :: o); rw [List.length_cons] at this; omega
  unfold mkS
  split
  · show 2 ≤ maxLen; unfold maxLen; omega
  · have := hd 40 k []
    show ((109 :: digF 40 k []).toArray).size ≤ maxLen
    unfold maxLen
    simp at this ⊢; omega

/-- A file's name is stored. -/
theorem OwnF.rename {w : World} {base g n c i : Nat} {fs : List PF} {xs vs : List Value} {nm : ByteArray} (h : OwnF w base (.slice (some ⟨g, 0, none⟩) n c) fs xs vs) (hi : i < fs.length) (hs : nm.size ≤ maxLen) :
    OwnF (w.setCell ⟨g, i * 2, none⟩ (.string nm)) base (.slice (some ⟨g, 0, none⟩) n c) (fs.set i (nm, (fs.getD i (ByteArray.empty, [])).2)) (xs.set (i * 2) (.string nm)) vs ∧ w.grownBy (w.setCell ⟨g, i * 2, none⟩ (.string nm)) (some g) := by
  have hvl := h.len
  have hx := h.row.1
  obtain ⟨hn, hrow⟩ : fs.length = n ∧ w.ownsRow base 71 2 (.slice (some ⟨g, 0, none⟩) n c) fs.length xs := by
    refine ⟨?_, h.row⟩
    rcases h.row.2 with ⟨h', _⟩ | ⟨g', cap', cur, h', _⟩
    · simp at h'
    · simp at h'; omega
  subst hn
  obtain ⟨hst, hsg⟩ := hrow.stored (i * 2) (.string nm)
  have hne : ∀ {b2 m : Nat} {u : Value} {ys : List Value}, w.ownsRow b2 5 1 u m ys → (w.setCell ⟨g, i * 2, none⟩ (.string nm)).ownsRow b2 5 1 u m ys := fun hk => hk.kept hsg (own_ne hrow hk)
  refine ⟨⟨by simpa using hst, by simp [hvl], ?_, ?_, ?_, ?_, ?_⟩, hsg⟩
  · intro j hj
    simp at hj
    rw [getD_set _ _ _ _ _ hi]
    split
    · rename_i e; subst e; rw [List.getElem?_set_self (by omega)]; exact ⟨rfl, hs⟩
    · rw [List.getElem?_set_ne (by omega)]; exact h.name j hj
  · intro j hj
    simp at hj
    rw [List.getElem?_set_ne (by omega)]; exact h.val j hj
  · intro j hj
    simp at hj
    rw [getD_set _ _ _ _ _ hi]
    split
    · rename_i e; subst e; exact hne (h.data j hj)
    · exact hne (h.data j hj)
  · intro j hj
    simp at hj
    rw [getD_set _ _ _ _ _ hi]
    split
    · rename_i e; subst e; exact h.byte j hj
    · exact h.byte j hj
  · intro a b hab hb k hk
    simp at hb
    exact h.apart a b hab hb k hk

/-- A file's bytes are written over where they lie. -/
theorem OwnF.over {w w' : World} {base i : Nat} {v : Value} {fs : List PF} {xs vs : List Value} {l : List Int} (h : OwnF w base v fs xs vs) (hi : i < fs.length) (hr : w'.ownsRow base 5 1 (vs.getD i (.slice none 0 0)) l.length (u8s l)) (hg : w.grownBy w' (vs.getD i (.slice none 0 0)).ownBlock) (hl : ∀ x ∈ l, 0 ≤ x ∧ x ≤ 255) :
    OwnF w' base v (fs.set i ((fs.getD i (ByteArray.empty, [])).1, l)) xs vs := by
  have hvl := h.len
  have hrow := h.row.kept hg (by
      rcases own_ne h.row (h.data i hi) with h1 | h1
      · rw [h1]
        cases v.ownBlock
        · exact .inl rfl
        · exact .inr (by simp)
      · exact .inr (Ne.symm h1))
  refine ⟨by simpa using hrow, by simp [hvl], ?_, ?_, ?_, ?_, ?_⟩
  · intro j hj
    simp at hj
    rw [getD_set _ _ _ _ _ hi]
    split
    · rename_i e; subst e; exact h.name j hj
    · exact h.name j hj
  · intro j hj
    simp at hj
    exact h.val j hj
  · intro j hj
    simp at hj
    rw [getD_set _ _ _ _ _ hi]
    split
    · rename_i e; subst e; exact hr
    · rename_i e
      refine (h.data j hj).kept hg ?_
      cases hb : (vs.getD j (.slice none 0 0)).ownBlock
      · exact .inl rfl
      · exact .inr (fun e2 => h.apart2 (i := j) (j := i) (by omega) hj hi hb e2.symm)
  · intro j hj
    simp at hj
    rw [getD_set _ _ _ _ _ hi]
    split
    · exact hl
    · exact h.byte j hj
  · intro a b hab hb k hk
    simp at hb
    exact h.apart a b hab hb k hk

/-- The blocks of a list. -/
def Blk (v : Value) (vs : List Value) (g : Nat) : Prop := v.ownBlock = some g ∨ ∃ j, j < vs.length ∧ (vs.getD j (.slice none 0 0)).ownBlock = some g
theorem OwnF.fr {S : Nat → Prop} {w w' : World} {base : Nat} {v : Value} {fs : List PF} {xs vs : List Value} (h : OwnF w base v fs xs vs) (hf : Fr S w w') (hS : ∀ g, Blk v vs g → ¬ S g) : OwnF w' base v fs xs vs :=
  ⟨owns_fr h.row hf (fun g hg => hS g (.inl hg)), h.len, h.name, h.val, fun j hj => owns_fr (h.data j hj) hf (fun g hg => hS g (.inr ⟨j, by rw [h.len]; exact hj, hg⟩)), h.byte, h.apart⟩
theorem marks_length (k n : Nat) : (marks k n).length = n := by simp [marks]
end Go.Proofs.YtnpndbicmamggaaGreat
namespace Go.Proofs.YtnpndbicmamggaaGreat
open Go.RowKit
set_option linter.unusedVariables false
set_option maxRecDepth 100000

theorem mark_name {w w1 : World} {base g n c j ln : Nat} {va : Option Addr} {vc : Nat} {fs : List PF} {ys vs : List Value} {nm : ByteArray} (h : OwnF w base (.slice (some ⟨g, 0, none⟩) n c) fs ys vs) (hb : Below w.heap.size w w1) (hj : j < fs.length) (hv : vs.getD j (.slice none 0 0) = .slice va ln vc) (hs : nm.size ≤ maxLen) :
    Hid (OwnF w1 base (.slice (some ⟨g, 0, none⟩) n c) fs ys vs) ∧ Hid (OwnF (w1.setCell ⟨g, j * 2, none⟩ (.string nm)) base (.slice (some ⟨g, 0, none⟩) n c) (fs.set j (nm, (fs.getD j (ByteArray.empty, [])).2)) (ys.set (j * 2) (.string nm)) vs ∧ w1.grownBy (w1.setCell ⟨g, j * 2, none⟩ (.string nm)) (some g)) ∧
    (∃ u, w1.cell? ⟨g, j * 2, none⟩ = some u) ∧ w1.cell? ⟨g, j * 2 + 1, none⟩ = some (.slice va ln vc) ∧ w1.frozen? ⟨g, j * 2, none⟩ = false := by
  have h1 := h.below hb
  have hn : n = fs.length := by
    rcases h1.row.2 with ⟨h', _⟩ | ⟨g', cap', cur, h', _⟩
    · simp at h'
    · simp at h'; omega
  subst hn
  refine ⟨h1, h1.rename hj hs, ⟨.string (fs.getD j (ByteArray.empty, [])).1, ?_⟩, ?_, h1.row.frozenAt _⟩
  · rw [h1.row.cellAt _ (by omega)]; exact (h1.name j hj).1
  · rw [h1.row.cellAt _ (by omega), h1.val j hj, hv]
end Go.Proofs.YtnpndbicmamggaaGreat
namespace Go.Proofs.YtnpndbicmamggaaGreat
open Go.RowKit
set_option linter.unusedVariables false
set_option maxRecDepth 100000

/-- What marking writes makes of them, and the number that is next. -/
def markP : Nat → List PP → List PP
  | _, [] => []
  | k, f :: r => (mkS k, ((k + 1 : Nat) : Int), marks (k + 2) f.2.2.length) :: markP (k + 2 + f.2.2.length) r
def kP : Nat → List PP → Nat
  | k, [] => k
  | k, f :: r => kP (k + 2 + f.2.2.length) r
theorem kP_snoc (k : Nat) (l : List PP) (f : PP) : kP k (l ++ [f]) = kP k l + 2 + f.2.2.length := by
  induction l generalizing k with
  | nil => rfl
  | cons a r ih => simp only [List.cons_append, kP]; exact ih _
theorem markP_snoc (k : Nat) (l : List PP) (f : PP) : markP k (l ++ [f]) = markP k l ++ [(mkS (kP k l), ((kP k l + 1 : Nat) : Int), marks (kP k l + 2) f.2.2.length)] := by
  induction l generalizing k with
  | nil => rfl
  | cons a r ih => simp only [List.cons_append, markP, kP]; rw [ih]
theorem markP_length (k : Nat) (l : List PP) : (markP k l).length = l.length := by
  induction l generalizing k with
  | nil => rfl
  | cons a r ih => simp only [markP, List.length_cons, ih]
theorem kP_le (k : Nat) (l : List PP) : k + l.length ≤ kP k l := by
  induction l generalizing k with
  | nil => simp [kP]
  | cons a r ih => have := ih (k + 2 + a.2.2.length); simp only [kP, List.length_cons]; omega
theorem kP_append (k : Nat) (a b : List PP) : kP k (a ++ b) = kP (kP k a) b := by
  induction a generalizing k with
  | nil => rfl
  | cons x r ih => simp only [List.cons_append, kP]; exact ih _
def stP (k : Nat) (fs : List PP) (j : Nat) : List PP := markP k (fs.take j) ++ fs.drop j
theorem stP_length (k : Nat) (fs : List PP) (j : Nat) (h : j ≤ fs.length) : (stP k fs j).length = fs.length := by
  simp [stP, markP_length]; omega
theorem stP_get (k : Nat) (fs : List PP) (j : Nat) (h : j < fs.length) (d : PP) : (stP k fs j).getD j d = fs[j] := by
  have h1 : (markP k (fs.take j)).length = j := by rw [markP_length, List.length_take]; omega
  simp [stP, List.getD, List.getElem?_append_right, h1, h]
theorem stP_succ (k : Nat) (fs : List PP) (j : Nat) (h : j < fs.length) : stP k fs (j + 1) = (stP k fs j).set j (mkS (kP k (fs.take j)), ((kP k (fs.take j) + 1 : Nat) : Int), marks (kP k (fs.take j) + 2) fs[j].2.2.length) := by
  have h1 : (markP k (fs.take j)).length = j := by rw [markP_length, List.length_take]; omega
  unfold stP
  rw [List.set_append_right _ _ (by omega), h1, Nat.sub_self, List.drop_eq_getElem_cons h, List.set_cons_zero, List.take_succ_eq_append_getElem h, markP_snoc]
  simp
theorem kP_take (k : Nat) (fs : List PP) (j : Nat) (h : j < fs.length) : kP k (fs.take (j + 1)) = kP k (fs.take j) + 2 + fs[j].2.2.length := by
  rw [List.take_succ_eq_append_getElem h, kP_snoc]
theorem kP_take_le (k : Nat) (fs : List PP) (j : Nat) : kP k (fs.take j) ≤ kP k fs := by
  have h1 : kP k fs = kP (kP k (fs.take j)) (fs.drop j) := by rw [← kP_append, List.take_append_drop]
  have := kP_le (kP k (fs.take j)) (fs.drop j)
  omega

/-- Rows of other types lie in other blocks. -/
theorem own_ne2 {w : World} {b1 b2 e1 e2 s1 s2 : Nat} {v u : Value} {n m : Nat} {xs ys : List Value} (hne : e1 ≠ e2) (h : w.ownsRow b1 e1 s1 v n xs) (k : w.ownsRow b2 e2 s2 u m ys) : u.ownBlock = none ∨ u.ownBlock ≠ v.ownBlock := by
  rcases k.2 with ⟨rfl, _⟩ | ⟨g, cap, cur, rfl, _, hg, _⟩
  · exact .inl rfl
  · refine .inr fun e => ?_
    rcases h.2 with ⟨rfl, _⟩ | ⟨g', cap', cur', rfl, _, hg', _⟩
    · simp [Value.ownBlock] at e
    · simp [Value.ownBlock] at e
      subst e
      rw [hg] at hg'
      simp at hg'
      exact hne hg'.2.symm

/-- A list of writes in memory of one's own: the row of the writes, and for each a row of its bytes; no two share a block. -/
structure OwnP (w : World) (base : Nat) (v : Value) (ps : List PP) (xs vs : List Value) : Prop where
  row : w.ownsRow base 73 3 v ps.length xs
  len : vs.length = ps.length
  name : ∀ j, j < ps.length → xs[j * 3]? = some (.string (ps.getD j (ByteArray.empty, 0, [])).1) ∧ (ps.getD j (ByteArray.empty, 0, [])).1.size ≤ maxLen
  page : ∀ j, j < ps.length → xs[j * 3 + 1]? = some (.int .i64 (ps.getD j (ByteArray.empty, 0, [])).2.1) ∧ (-9223372036854775808 ≤ (ps.getD j (ByteArray.empty, 0, [])).2.1 ∧ (ps.getD j (ByteArray.empty, 0, [])).2.1 ≤ 9223372036854775807)
  val : ∀ j, j < ps.length → xs[j * 3 + 2]? = some (vs.getD j (.slice none 0 0))
  data : ∀ j, j < ps.length → w.ownsRow base 5 1 (vs.getD j (.slice none 0 0)) (ps.getD j (ByteArray.empty, 0, [])).2.2.length (u8s (ps.getD j (ByteArray.empty, 0, [])).2.2)
  byte : ∀ j, j < ps.length → ∀ x ∈ (ps.getD j (ByteArray.empty, 0, [])).2.2, 0 ≤ x ∧ x ≤ 255
  apart : ∀ i j, i < j → j < ps.length → ∀ g, (vs.getD i (.slice none 0 0)).ownBlock = some g → (vs.getD j (.slice none 0 0)).ownBlock ≠ some g

theorem OwnP.below {w w' : World} {base : Nat} {v : Value} {fs : List PP} {xs vs : List Value} (h : OwnP w base v fs xs vs) (hb : Below w.heap.size w w') : OwnP w' base v fs xs vs :=
  ⟨owns_below h.row hb, h.len, h.name, h.page, h.val, fun j hj => owns_below (h.data j hj) hb, h.byte, h.apart⟩
theorem OwnP.nil {w : World} {base : Nat} {v : Value} (h : w.ownsRow base 73 3 v 0 []) : OwnP w base v [] [] [] :=
  ⟨h, rfl, fun j hj => absurd hj (Nat.not_lt_zero _), fun j hj => absurd hj (Nat.not_lt_zero _), fun j hj => absurd hj (Nat.not_lt_zero _), fun j hj => absurd hj (Nat.not_lt_zero _), fun j hj => absurd hj (Nat.not_lt_zero _), fun i j hij hj => absurd hj (Nat.not_lt_zero _)⟩
theorem OwnP.fr {S : Nat → Prop} {w w' : World} {base : Nat} {v : Value} {fs : List PP} {xs vs : List Value} (h : OwnP w base v fs xs vs) (hf : Fr S w w') (hS : ∀ g, Blk v vs g → ¬ S g) : OwnP w' base v fs xs vs :=
  ⟨owns_fr h.row hf (fun g hg => hS g (.inl hg)), h.len, h.name, h.page, h.val, fun j hj => owns_fr (h.data j hj) hf (fun g hg => hS g (.inr ⟨j, by rw [h.len]; exact hj, hg⟩)), h.byte, h.apart⟩
theorem OwnP.apart2 {w : World} {base : Nat} {v : Value} {fs : List PP} {xs vs : List Value} (h : OwnP w base v fs xs vs) {i j g : Nat} (hij : i ≠ j) (hi : i < fs.length) (hj : j < fs.length) (hg : (vs.getD i (.slice none 0 0)).ownBlock = some g) : (vs.getD j (.slice none 0 0)).ownBlock ≠ some g := by
  by_cases hlt : i < j
  · exact h.apart i j hlt hj g hg
  · intro e
    exact h.apart j i (by omega) hi g e hg
theorem OwnP.pends {w : World} {base : Nat} {v : Value} {fs : List PP} {xs vs : List Value} (h : OwnP w base v fs xs vs) : ∃ a n c, v = .slice a n c ∧ n = fs.length ∧ PendsAt w base w.heap.size a n c fs := by
  rcases h.row.2 with ⟨rfl, hn⟩ | ⟨g, cap, cur, rfl, hb, hg, h1, h2, _⟩
  · exact ⟨none, 0, 0, rfl, hn.symm, hn, Nat.le_refl _, Nat.zero_le _, fun h => absurd h (Nat.lt_irrefl _)⟩
  · refine ⟨some ⟨g, 0, none⟩, fs.length, cap, rfl, rfl, rfl, h1, h2, fun hn => ⟨g, 0, rfl, h.row.lt g rfl, fun i hi => ?_⟩⟩
    obtain ⟨a, n, c, e, hby⟩ := bytesAt_of_own (h.data i hi) (h.byte i hi)
    refine ⟨?_, (h.name i hi).2, ?_, (h.page i hi).2, a, n, c, ?_, hby⟩
    · rw [Nat.zero_add, h.row.cellAt (i * 3) (by omega)]; exact (h.name i hi).1
    · rw [Nat.zero_add, h.row.cellAt (i * 3 + 1) (by omega)]; exact (h.page i hi).1
    · rw [Nat.zero_add, h.row.cellAt (i * 3 + 2) (by omega), h.val i hi, e]

/-- A write's name, its page, are stored. -/
theorem OwnP.rename {w : World} {base g n c i : Nat} {fs : List PP} {xs vs : List Value} {nm : ByteArray} (h : OwnP w base (.slice (some ⟨g, 0, none⟩) n c) fs xs vs) (hi : i < fs.length) (hs : nm.size ≤ maxLen) :
    OwnP (w.setCell ⟨g, i * 3, none⟩ (.string nm)) base (.slice (some ⟨g, 0, none⟩) n c) (fs.set i (nm, (fs.getD i (ByteArray.empty, 0, [])).2)) (xs.set (i * 3) (.string nm)) vs ∧ w.grownBy (w.setCell ⟨g, i * 3, none⟩ (.string nm)) (some g) := by
  have hvl := h.len
  have hx := h.row.1
  obtain ⟨hn, hrow⟩ : fs.length = n ∧ w.ownsRow base 73 3 (.slice (some ⟨g, 0, none⟩) n c) fs.length xs := by
    refine ⟨?_, h.row⟩
    rcases h.row.2 with ⟨h', _⟩ | ⟨g', cap', cur, h', _⟩
    · simp at h'
    · simp at h'; omega
  subst hn
  obtain ⟨hst, hsg⟩ := hrow.stored (i * 3) (.string nm)
  have hne : ∀ {b2 m : Nat} {u : Value} {ys : List Value}, w.ownsRow b2 5 1 u m ys → (w.setCell ⟨g, i * 3, none⟩ (.string nm)).ownsRow b2 5 1 u m ys := fun hk => hk.kept hsg (own_ne2 (by decide) hrow hk)
  refine ⟨⟨by simpa using hst, by simp [hvl], ?_, ?_, ?_, ?_, ?_, ?_⟩, hsg⟩
  · intro j hj
    simp at hj
    rw [getD_set _ _ _ _ _ hi]
    split
    · rename_i e; subst e; rw [List.getElem?_set_self (by omega)]; exact ⟨rfl, hs⟩
    · rw [List.getElem?_set_ne (by omega)]; exact h.name j hj
  · intro j hj
    simp at hj
    rw [getD_set _ _ _ _ _ hi, List.getElem?_set_ne (by omega)]
    split
    · rename_i e; subst e; exact h.page j hj
    · exact h.page j hj
  · intro j hj
    simp at hj
    rw [List.getElem?_set_ne (by omega)]; exact h.val j hj
  · intro j hj
    simp at hj
    rw [getD_set _ _ _ _ _ hi]
    split
    · rename_i e; subst e; exact hne (h.data j hj)
    · exact hne (h.data j hj)
  · intro j hj
    simp at hj
    rw [getD_set _ _ _ _ _ hi]
    split
    · rename_i e; subst e; exact h.byte j hj
    · exact h.byte j hj
  · intro a b hab hb k hk
    simp at hb
    exact h.apart a b hab hb k hk
theorem OwnP.repage {w : World} {base g n c i : Nat} {fs : List PP} {xs vs : List Value} {pg : Int} (h : OwnP w base (.slice (some ⟨g, 0, none⟩) n c) fs xs vs) (hi : i < fs.length) (hs : -9223372036854775808 ≤ pg ∧ pg ≤ 9223372036854775807) :
    OwnP (w.setCell ⟨g, i * 3 + 1, none⟩ (.int .i64 pg)) base (.slice (some ⟨g, 0, none⟩) n c) (fs.set i ((fs.getD i (ByteArray.empty, 0, [])).1, pg, (fs.getD i (ByteArray.empty, 0, [])).2.2)) (xs.set (i * 3 + 1) (.int .i64 pg)) vs ∧ w.grownBy (w.setCell ⟨g, i * 3 + 1, none⟩ (.int .i64 pg)) (some g) := by
  have hvl := h.len
  have hx := h.row.1
  obtain ⟨hn, hrow⟩ : fs.length = n ∧ w.ownsRow base 73 3 (.slice (some ⟨g, 0, none⟩) n c) fs.length xs := by
    refine ⟨?_, h.row⟩
    rcases h.row.2 with ⟨h', _⟩ | ⟨g', cap', cur, h', _⟩
    · simp at h'
    · simp at h'; omega
  subst hn
  obtain ⟨hst, hsg⟩ := hrow.stored (i * 3 + 1) (.int .i64 pg)
  have hne : ∀ {b2 m : Nat} {u : Value} {ys : List Value}, w.ownsRow b2 5 1 u m ys → (w.setCell ⟨g, i * 3 + 1, none⟩ (.int .i64 pg)).ownsRow b2 5 1 u m ys := fun hk => hk.kept hsg (own_ne2 (by decide) hrow hk)
  refine ⟨⟨by simpa using hst, by simp [hvl], ?_, ?_, ?_, ?_, ?_, ?_⟩, hsg⟩
  · intro j hj
    simp at hj
    rw [getD_set _ _ _ _ _ hi, List.getElem?_set_ne (by omega)]
    split
    · rename_i e; subst e; exact h.name j hj
    · exact h.name j hj
  · intro j hj
    simp at hj
    rw [getD_set _ _ _ _ _ hi]
    split
    · rename_i e; subst e; rw [List.getElem?_set_self (by omega)]; exact ⟨rfl, hs⟩
    · rw [List.getElem?_set_ne (by omega)]; exact h.page j hj
  · intro j hj
    simp at hj
    rw [List.getElem?_set_ne (by omega)]; exact h.val j hj
  · intro j hj
    simp at hj
    rw [getD_set _ _ _ _ _ hi]
    split
    · rename_i e; subst e; exact hne (h.data j hj)
    · exact hne (h.data j hj)
  · intro j hj
    simp at hj
    rw [getD_set _ _ _ _ _ hi]
    split
    · rename_i e; subst e; exact h.byte j hj
    · exact h.byte j hj
  · intro a b hab hb k hk
    simp at hb
    exact h.apart a b hab hb k hk

/-- A write's bytes are written over where they lie. -/
theorem OwnP.over {w w' : World} {base i : Nat} {v : Value} {fs : List PP} {xs vs : List Value} {l : List Int} (h : OwnP w base v fs xs vs) (hi : i < fs.length) (hr : w'.ownsRow base 5 1 (vs.getD i (.slice none 0 0)) l.length (u8s l)) (hg : w.grownBy w' (vs.getD i (.slice none 0 0)).ownBlock) (hl : ∀ x ∈ l, 0 ≤ x ∧ x ≤ 255) :
    OwnP w' base v (fs.set i ((fs.getD i (ByteArray.empty, 0, [])).1, (fs.getD i (ByteArray.empty, 0, [])).2.1, l)) xs vs := by
  have hvl := h.len
  have hrow := h.row.kept hg (by
      rcases own_ne2 (by decide) h.row (h.data i hi) with h1 | h1
      · rw [h1]
        cases v.ownBlock
        · exact .inl rfl
        · exact .inr (by simp)
      · exact .inr (Ne.symm h1))
  refine ⟨by simpa using hrow, by simp [hvl], ?_, ?_, ?_, ?_, ?_, ?_⟩
  · intro j hj
    simp at hj
    rw [getD_set _ _ _ _ _ hi]
    split
    · rename_i e; subst e; exact h.name j hj
    · exact h.name j hj
  · intro j hj
    simp at hj
    rw [getD_set _ _ _ _ _ hi]
    split
    · rename_i e; subst e; exact h.page j hj
    · exact h.page j hj
  · intro j hj
    simp at hj
    exact h.val j hj
  · intro j hj
    simp at hj
    rw [getD_set _ _ _ _ _ hi]
    split
    · rename_i e; subst e; exact hr
    · rename_i e
      refine (h.data j hj).kept hg ?_
      cases hb : (vs.getD j (.slice none 0 0)).ownBlock
      · exact .inl rfl
      · exact .inr (fun e2 => h.apart2 (i := j) (j := i) (by omega) hj hi hb e2.symm)
  · intro j hj
    simp at hj
    rw [getD_set _ _ _ _ _ hi]
    split
    · exact hl
    · exact h.byte j hj
  · intro a b hab hb k hk
    simp at hb
    exact h.apart a b hab hb k hk
end Go.Proofs.YtnpndbicmamggaaGreat
namespace Go.Proofs.YtnpndbicmamggaaGreat
open Go.RowKit
set_option linter.unusedVariables false
set_option maxRecDepth 100000

theorem markp_name {w w1 : World} {base g n c j ln : Nat} {va : Option Addr} {vc : Nat} {fs : List PP} {ys vs : List Value} {nm : ByteArray} {pg : Int} (h : OwnP w base (.slice (some ⟨g, 0, none⟩) n c) fs ys vs) (hb : Below w.heap.size w w1) (hj : j < fs.length) (hv : vs.getD j (.slice none 0 0) = .slice va ln vc) (hs : nm.size ≤ maxLen) (hpg : -9223372036854775808 ≤ pg ∧ pg ≤ 9223372036854775807) :
    Hid (OwnP ((w1.setCell ⟨g, j * 3, none⟩ (.string nm)).setCell ⟨g, j * 3 + 1, none⟩ (.int .i64 pg)) base (.slice (some ⟨g, 0, none⟩) n c) (fs.set j (nm, pg, (fs.getD j (ByteArray.empty, 0, [])).2.2)) ((ys.set (j * 3) (.string nm)).set (j * 3 + 1) (.int .i64 pg)) vs ∧ w1.grownBy ((w1.setCell ⟨g, j * 3, none⟩ (.string nm)).setCell ⟨g, j * 3 + 1, none⟩ (.int .i64 pg)) (some g)) ∧
    (∃ u, w1.cell? ⟨g, j * 3, none⟩ = some u) ∧ (∃ u, w1.cell? ⟨g, j * 3 + 1, none⟩ = some u) ∧ w1.cell? ⟨g, j * 3 + 2, none⟩ = some (.slice va ln vc) ∧ w1.frozen? ⟨g, j * 3, none⟩ = false ∧ (w1.setCell ⟨g, j * 3, none⟩ (.string nm)).frozen? ⟨g, j * 3 + 1, none⟩ = false ∧ w1.frozen? ⟨g, j * 3 + 1, none⟩ = false := by
  have h1 := h.below hb
  have hn : n = fs.length := by
    rcases h1.row.2 with ⟨h', _⟩ | ⟨g', cap', cur, h', _⟩
    · simp at h'
    · simp at h'; omega
  subst hn
  obtain ⟨r1, r2⟩ := h1.rename hj hs
  obtain ⟨q1, q2⟩ := r1.repage (i := j) (pg := pg) (by simpa using hj) hpg
  have hf := r1.row
  rw [List.length_set] at hf
  refine ⟨⟨?_, grown_trans r2 q2⟩, ⟨.string (fs.getD j (ByteArray.empty, 0, [])).1, ?_⟩, ⟨.int .i64 (fs.getD j (ByteArray.empty, 0, [])).2.1, ?_⟩, ?_, h1.row.frozenAt _, hf.frozenAt _, h1.row.frozenAt _⟩
  · rw [getD_set _ _ _ _ _ hj, if_pos rfl, List.set_set] at q1
    exact q1
  · rw [h1.row.cellAt _ (by omega)]; exact (h1.name j hj).1
  · rw [h1.row.cellAt _ (by omega)]; exact (h1.page j hj).1
  · rw [h1.row.cellAt _ (by omega), h1.val j hj, hv]
end Go.Proofs.YtnpndbicmamggaaGreat
namespace Go.Proofs.YtnpndbicmamggaaGreat
open Go.RowKit
set_option linter.unusedVariables false
set_option maxRecDepth 100000

theorem markF_get (k : Nat) (fs : List PF) (j : Nat) (h : j < fs.length) (d : PF) : (markF k fs).getD j d = (mkS (kF k (fs.take j)), marks (kF k (fs.take j) + 1) fs[j].2.length) := by
  induction fs generalizing k j with
  | nil => simp at h
  | cons a r ih =>
    cases j with
    | zero => simp [markF, kF]
    | succ j =>
      have h' : j < r.length := by simpa using h
      simpa [markF, kF] using ih (k + 1 + a.2.length) j h'

end Go.Proofs.YtnpndbicmamggaaGreat
namespace Go.Proofs.YtnpndbicmamggaaGreat
open Go.RowKit
set_option linter.unusedVariables false
set_option maxRecDepth 100000

theorem markP_get (k : Nat) (fs : List PP) (j : Nat) (h : j < fs.length) (d : PP) : (markP k fs).getD j d = (mkS (kP k (fs.take j)), ((kP k (fs.take j) + 1 : Nat) : Int), marks (kP k (fs.take j) + 2) fs[j].2.2.length) := by
  induction fs generalizing k j with
  | nil => simp at h
  | cons a r ih =>
    cases j with
    | zero => simp [markP, kP]
    | succ j =>
      have h' : j < r.length := by simpa using h
      simpa [markP, kP] using ih (k + 2 + a.2.2.length) j h'

end Go.Proofs.YtnpndbicmamggaaGreat
namespace Go.Proofs.YtnpndbicmamggaaGreat
open Go.RowKit
set_option linter.unusedVariables false
set_option maxRecDepth 100000

/-- A disk's two lists in memory of one's own; no block is in both. -/
structure OwnD (w : World) (base : Nat) (v u : Value) (fs : List PF) (ps : List PP) (xs vs ys us : List Value) : Prop where
  files : OwnF w base v fs xs vs
  cache : OwnP w base u ps ys us
  apart : ∀ g, Blk v vs g → ¬ Blk u us g
theorem OwnF.blk {w : World} {base : Nat} {v : Value} {fs : List PF} {xs vs : List Value} (h : OwnF w base v fs xs vs) {g : Nat} (hg : Blk v vs g) : base ≤ g ∧ g < w.heap.size := by
  rcases hg with hg | ⟨j, hj, hg⟩
  · exact h.row.lt g hg
  · exact (h.data j (by rw [← h.len]; exact hj)).lt g hg
theorem OwnP.blk {w : World} {base : Nat} {v : Value} {fs : List PP} {xs vs : List Value} (h : OwnP w base v fs xs vs) {g : Nat} (hg : Blk v vs g) : base ≤ g ∧ g < w.heap.size := by
  rcases hg with hg | ⟨j, hj, hg⟩
  · exact h.row.lt g hg
  · exact (h.data j (by rw [← h.len]; exact hj)).lt g hg
theorem OwnD.below {w w' : World} {base : Nat} {v u : Value} {fs : List PF} {ps : List PP} {xs vs ys us : List Value} (h : OwnD w base v u fs ps xs vs ys us) (hb : Below w.heap.size w w') : OwnD w' base v u fs ps xs vs ys us :=
  ⟨h.files.below hb, h.cache.below hb, h.apart⟩
/-- A world apart from another's lists: one may be written, the other stays. -/
theorem OwnD.fr {S : Nat → Prop} {w w' : World} {base : Nat} {v u : Value} {fs : List PF} {ps : List PP} {xs vs ys us : List Value} (h : OwnD w base v u fs ps xs vs ys us) (hf : Fr S w w') (hS : ∀ g, Blk v vs g ∨ Blk u us g → ¬ S g) : OwnD w' base v u fs ps xs vs ys us :=
  ⟨h.files.fr hf (fun g hg => hS g (.inl hg)), h.cache.fr hf (fun g hg => hS g (.inr hg)), h.apart⟩

end Go.Proofs.YtnpndbicmamggaaGreat
namespace Go.Proofs.YtnpndbicmamggaaGreat
open Go.RowKit
set_option linter.unusedVariables false
set_option maxRecDepth 100000

/-- One write more, its bytes in a new row. -/
theorem OwnP.push {w0 w1 w2 w3 : World} {base : Nat} {v v' vb : Value} {fs : List PP} {xs vs : List Value} {f : PP} (h : OwnP w0 base v fs xs vs) (hbase : base ≤ w0.heap.size) (hb : Below w0.heap.size w0 w1)
    (hvb : w1.ownsRow w0.heap.size 5 1 vb f.2.2.length (u8s f.2.2)) (hs : f.1.size ≤ maxLen) (hpg : -9223372036854775808 ≤ f.2.1 ∧ f.2.1 ≤ 9223372036854775807) (hby : ∀ x ∈ f.2.2, 0 ≤ x ∧ x ≤ 255) (hb2 : Below w1.heap.size w1 w2)
    (hrow : w3.ownsRow base 73 3 v' (fs.length + 1) (xs ++ [.string f.1, .int .i64 f.2.1, vb])) (hgr : w2.grownBy w3 v.ownBlock) : OwnP w3 base v' (fs ++ [f]) (xs ++ [.string f.1, .int .i64 f.2.1, vb]) (vs ++ [vb]) := by
  have h1 := (h.below hb).below hb2
  have hvb2 := owns_below hvb hb2
  have hx := h.row.1
  have hbb : w3.ownsRow base 5 1 vb f.2.2.length (u8s f.2.2) := by
    have := hvb2.kept hgr (own_ne2 (by decide) h1.row hvb2)
    refine ⟨this.1, ?_⟩
    rcases this.2 with hn | ⟨g, cap, cur, e1, e2, e3⟩
    · exact .inl hn
    · exact .inr ⟨g, cap, cur, e1, Nat.le_trans hbase e2, e3⟩
  have hvl := h.len
  refine ⟨by simpa using hrow, by simp [hvl], ?_, ?_, ?_, ?_, ?_, ?_⟩
  · intro j hj
    simp at hj
    by_cases hjk : j < fs.length
    · rw [getD_snoc_lt _ _ _ _ hjk, List.getElem?_append_left (by omega)]; exact h.name j hjk
    · obtain rfl : j = fs.length := by omega
      rw [getD_snoc_eq, List.getElem?_append_right (by omega)]
      exact ⟨by simp [hx], hs⟩
  · intro j hj
    simp at hj
    by_cases hjk : j < fs.length
    · rw [getD_snoc_lt _ _ _ _ hjk, List.getElem?_append_left (by omega)]; exact h.page j hjk
    · obtain rfl : j = fs.length := by omega
      rw [getD_snoc_eq, List.getElem?_append_right (by omega)]
      exact ⟨by simp [hx], hpg⟩
  · intro j hj
    simp at hj
    by_cases hjk : j < fs.length
    · rw [getD_snoc_lt _ _ _ _ (by omega), List.getElem?_append_left (by omega)]; exact h.val j hjk
    · obtain rfl : j = fs.length := by omega
      rw [show fs.length = vs.length from hvl.symm, getD_snoc_eq, List.getElem?_append_right (by omega)]
      simp [hx, hvl]
  · intro j hj
    simp at hj
    by_cases hjk : j < fs.length
    · rw [getD_snoc_lt _ _ _ _ (by omega), getD_snoc_lt _ _ _ _ hjk]
      exact (h1.data j hjk).kept hgr (own_ne2 (by decide) h1.row (h1.data j hjk))
    · obtain rfl : j = fs.length := by omega
      rw [getD_snoc_eq, show fs.length = vs.length from hvl.symm, getD_snoc_eq]
      exact hbb
  · intro j hj
    simp at hj
    by_cases hjk : j < fs.length
    · rw [getD_snoc_lt _ _ _ _ hjk]; exact h.byte j hjk
    · obtain rfl : j = fs.length := by omega
      rw [getD_snoc_eq]; exact hby
  · intro i j hij hj g hg
    simp at hj
    rw [getD_snoc_lt _ _ _ _ (by omega)] at hg
    by_cases hjk : j < fs.length
    · rw [getD_snoc_lt _ _ _ _ (by omega)]; exact h.apart i j hij hjk g hg
    · obtain rfl : j = fs.length := by omega
      rw [show fs.length = vs.length from hvl.symm, getD_snoc_eq]
      intro e
      have e1 := (hvb.lt g e).1
      have e2 := ((h.data i (by omega)).lt g hg).2
      omega

end Go.Proofs.YtnpndbicmamggaaGreat
namespace Go.Proofs.YtnpndbicmamggaaGreat
open Go.RowKit
set_option linter.unusedVariables false
set_option maxRecDepth 100000

theorem take_snocP (l : List PP) (k : Nat) (d : PP) (h : k < l.length) : l.take (k + 1) = l.take k ++ [l.getD k d] := by
  rw [List.take_succ_eq_append_getElem h]
  simp [List.getD, h]

theorem heap_setCell_at {w : World} {b t : Nat} {cs : Array Value} (h : w.heap[b]? = some (.cells cs t (0, 0))) (o : Nat) (v : Value) : (w.setCell ⟨b, o, none⟩ v).heap[b]? = some (.cells (cs.setIfInBounds o v) t (0, 0)) := by
  obtain ⟨hlt, hk⟩ := Array.getElem?_eq_some_iff.1 h
  show (w.heap.modify b _)[b]? = _
  rw [Array.getElem?_eq_getElem (by rw [Array.size_modify]; exact hlt), Array.getElem_modify_self, hk]
  rfl

theorem cell_three_new (w : World) (a b c : Value) (t : TypeId) : ∀ j u, [a, b, c][j]? = some u → (w.alloc (.cells #[a, b, c] t)).cell? ((⟨w.heap.size, 0, none⟩ : Addr).add j) = some u := by
  intro j u h
  match j, h with
  | 0, h => simpa [Addr.add] using h
  | 1, h => simpa [Addr.add] using h
  | 2, h => simpa [Addr.add] using h
theorem fr_setCell (w : World) (b o : Nat) (v : Value) : Fr (fun k => k = b) w (w.setCell ⟨b, o, none⟩ v) :=
  ⟨rfl, rfl, rfl, by simp [World.setCell], fun k _ hk => by
    show (w.heap.modify b _)[k]? = _
    rw [Array.getElem?_modify, if_neg (fun e => hk e.symm)]⟩

theorem box_after {w w' : World} {b t : Nat} {cs : Array Value} {row : Option Nat} (h : w.heap[b]? = some (.cells cs t (0, 0))) (hg : w.grownBy w' row) (hb : b < w.heap.size) (hr : ∀ g, row = some g → b ≠ g) : w'.heap[b]? = some (.cells cs t (0, 0)) ∧ ∀ o, w'.frozen? ⟨b, o, none⟩ = false := by
  have e : w'.heap[b]? = some (.cells cs t (0, 0)) := (hg.block b hb (fun e => hr b e.symm rfl)).trans h
  exact ⟨e, fun o => by simp [World.frozen?, e]⟩

end Go.Proofs.YtnpndbicmamggaaGreat
namespace Go.Proofs.YtnpndbicmamggaaGreat
open Go.RowKit
set_option linter.unusedVariables false
set_option maxRecDepth 100000

theorem own_lowerD {w : World} {b b' e size : Nat} {v : Value} {n : Nat} {xs : List Value} (h : w.ownsRow b e size v n xs) (hb : b' ≤ b) : w.ownsRow b' e size v n xs := by
  refine ⟨h.1, ?_⟩
  rcases h.2 with hn | ⟨g, cap, cur, e1, e2, e3⟩
  · exact .inl hn
  · exact .inr ⟨g, cap, cur, e1, Nat.le_trans hb e2, e3⟩

theorem grown_weakD {w w' : World} {row : Option Nat} (h : w.grownBy w' none) : w.grownBy w' row :=
  ⟨h.os, h.tape, h.output, h.size, fun k hk _ => h.block k hk (by simp)⟩

/-- 'append' to a slice of one's own, and where the answer lies: where it lay, or in a new block. -/
theorem run_append_ownD {P : Program} (w : World) (base : Nat) (t ty e : TypeId) (i : TypeInfo) (z : Value) (size bytes : Nat) (ht : P.underlying t = some (.slice e)) (hi : P.info? e = some i) (hz : i.zero = some z)
    (hsize : i.size = size) (hby : i.bytes = bytes) (hzs : z.cells.size = size) (hsz : 0 < size)
    (v : Value) (n : Nat) (xs : List Value) (hown : w.ownsRow base e size v n xs)
    (a : Addr) (m c : Nat) (news : List Value) (hl : news.length = m * size) (hnews : ∀ j u, news[j]? = some u → w.cell? (a.add j) = some u) (h1 : ∀ u ∈ news, u.oneCell' = true)
    (h63 : n + m ≤ maxLen) (hbytes : (n + m) * bytes ≤ 140737488355328) (hbase : base ≤ w.heap.size) :
    ∃ v' w', (Builtin.append_ #[t, t] ty #[v, .slice (some a) m c]).run P w = .ok v' w' ∧ w'.ownsRow base e size v' (n + m) (xs ++ news) ∧ w.grownBy w' v.ownBlock ∧
      (v'.ownBlock = v.ownBlock ∨ ∀ g, v'.ownBlock = some g → w.heap.size ≤ g) := by
  rcases hown.2 with ⟨rfl, rfl⟩ | ⟨g, cap, cur, rfl, hbg, hg, hnc, hcm, hcs, htake⟩
  · have hx : xs = [] := List.eq_nil_of_length_eq_zero (by simpa using hown.1)
    subst hx
    obtain ⟨v', w', hr, ho, hgr, _⟩ := run_append_own (P := P) w w.heap.size t ty e i z size bytes ht hi hz hsize hby hzs hsz _ 0 [] (World.ownsRow_nil w _ e size) a m c news hl hnews h1 h63 hbytes (Nat.le_refl _)
    exact ⟨v', w', hr, own_lowerD ho hbase, hgr, .inr fun k hk => (ho.lt k hk).1⟩
  · by_cases hroom : n + m ≤ cap
    · obtain ⟨v', w', hr, ho, hgr, _⟩ := run_append_own (P := P) w base t ty e i z size bytes ht hi hz hsize hby hzs hsz _ n xs hown a m c news hl hnews h1 h63 hbytes hbase
      subst hsize
      have hfit : n * i.size + news.length ≤ cur.size := by rw [hl, hcs, ← Nat.add_mul]; exact Nat.mul_le_mul_right _ hroom
      have hr2 := run_append_room (P := P) w t ty e i ht hi g n cap cur hg a m c news hl hnews h1 hroom hfit
      rw [hr] at hr2
      injection hr2 with e1 e2
      exact ⟨v', w', hr, ho, hgr, .inl (by rw [e1]; rfl)⟩
    · have holds : ∀ j u, xs[j]? = some u → w.cell? ((⟨g, 0, none⟩ : Addr).add j) = some u := hown.cells (g := g) rfl
      obtain ⟨v', w', hr, ho, hgr⟩ := run_append_arg_grows (P := P) w t ty e i z size bytes ht hi hz hsize hby hzs hsz ⟨g, 0, none⟩ n cap xs hown.1 holds a m c news hl hnews (by omega) h63 hbytes
      exact ⟨v', w', hr, own_lowerD ho hbase, grown_weakD hgr, .inr fun k hk => (ho.lt k hk).1⟩

theorem wpList_append_ownD {P : Program} (w : World) {ops : Array Oper} {rest : List Oper} {o : Oper} {a : Act} {Q : Exit → Act → World → Prop} (hgd : o.guard = none) (s x : Operand) (t : TypeId)
    (ho : o.op = .call { callee := .builtin .append, args := #[s, x], argTypes := #[t, t] })
    (base : Nat) (e : TypeId) (i : TypeInfo) (z : Value) (size bytes : Nat) (ht : P.underlying t = some (.slice e)) (hi : P.info? e = some i) (hz : i.zero = some z)
    (hsize : i.size = size) (hby : i.bytes = bytes) (hzs : z.cells.size = size) (hsz : 0 < size)
    (v : Value) (n : Nat) (xs : List Value) (hs : a.eval s = v) (hown : w.ownsRow base e size v n xs)
    (ad : Addr) (m c : Nat) (news : List Value) (hx : a.eval x = .slice (some ad) m c) (hl : news.length = m * size) (hnews : ∀ j u, news[j]? = some u → w.cell? (ad.add j) = some u) (h1 : ∀ u ∈ news, u.oneCell' = true)
    (h63 : n + m ≤ maxLen) (hbytes : (n + m) * bytes ≤ 140737488355328) (hbase : base ≤ w.heap.size)
    (h : ∀ v' w', w'.ownsRow base e size v' (n + m) (xs ++ news) → w.grownBy w' v.ownBlock → (v'.ownBlock = v.ownBlock ∨ ∀ g, v'.ownBlock = some g → w.heap.size ≤ g) → wpList P ops Q rest (a.put o.dst v') w') : wpList P ops Q (o :: rest) a w := by
  refine wpList_plain hgd fun _ hK => ?_
  obtain ⟨v', w', hr, h2, h3, h4⟩ := run_append_ownD (P := P) w base t o.type e i z size bytes ht hi hz hsize hby hzs hsz v n xs hown ad m c news hl hnews h1 h63 hbytes hbase
  unfold Oper.wp execOp
  simp only [ho, resolve, invoke, builtin, Sem.run_bind, Sem.run_pure, Result.andThen_ok, List.map_toArray, List.map_cons, List.map_nil, hs, hx, hr]
  exact hK _ _ (h v' w' h2 h3 h4)

end Go.Proofs.YtnpndbicmamggaaGreat
