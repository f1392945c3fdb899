import Derived.Test.YtmmdkjeoadlikaaOwn
import Derived.Test.YtmmdkjeoadlikaaCPl
import Derived.Maps.Own
import Derived.Maps.OwnSet
import Derived.DeepKeys4
import Derived.WalkArith
namespace Go.Proofs.Ytmmdkjeoadlikaa
open Go.RowKit Go.Maps
set_option linter.unusedVariables false
set_option maxRecDepth 100000

theorem laidOutS : laidOutB Try.prog = true := by kernel_rfl
theorem rowPl : (64 : TypeId) < Try.prog.types.size := of_decide_eq_true (by kernel_rfl)
theorem widePl : (match Try.prog.underlying 64 with | some (.array _ _) | some (.struct _) => true | _ => false) = true := by kernel_rfl
theorem lawPl : Keyed Try.prog 64 := Keyed.of_law (deep_law_laid laidOutS (m := 2) (by omega) rowPl (by kernel_rfl) widePl)
/-- The key of a place. -/
def kPl (nm : ByteArray) (pg : Int) : Lit := .string (keyBytes [.string nm.data.toList, .int .i64 pg])
theorem keyTypePl : Try.prog.keyType 64 = true := by kernel_rfl
theorem cellsPl : Try.prog.cellsOf 64 = 2 := by kernel_rfl
theorem formedPl (u v : Value) : (Value.agg #[u, v]).formed Try.prog 64 = true := by
  obtain ⟨fs, hu⟩ : ∃ fs, Try.prog.underlying 64 = some (.struct fs) := ⟨_, Try.underlying64⟩
  simp [Value.formed, hu, cellsPl]
theorem cellsOfS : Try.prog.cellsOf 9 = 1 := by kernel_rfl
theorem cellsOfI : Try.prog.cellsOf 2 = 1 := by kernel_rfl
theorem keyLits_pl (d : Nat) {nm : ByteArray} {pg : Int} (h : nm.size ≤ maxLen) (hp : (Lit.int .i64 pg).wf = true) : Try.prog.keyLits (d + 2) 64 [.string nm, .int .i64 pg] = some [.string nm.data.toList, .int .i64 pg] := by
  simp [Program.keyLits, Try.underlying64, Try.underlying9, Try.underlying2, cellsPl, cellsOfS, cellsOfI, h, hp]
theorem keyOf_pl {nm : ByteArray} {pg : Int} (h : nm.size ≤ maxLen) (hp : (Lit.int .i64 pg).wf = true) : keyOf Try.prog 64 (.agg #[.string nm, .int .i64 pg]) = some (kPl nm pg) := by
  unfold keyOf
  rw [Try.underlying64]
  have h0 : 0 < Try.prog.types.size := Nat.lt_of_le_of_lt (Nat.zero_le _) rowPl
  have e : Try.prog.types.size + 1 = (Try.prog.types.size - 1) + 2 := by omega
  simp only [keyTypePl, formedPl, Bool.and_self, if_true, Value.cells]
  rw [e, keyLits_pl _ h hp]
  rfl
theorem kPl_inj {nm nm' : ByteArray} {pg pg' : Int} (h : nm.size ≤ maxLen) (hp : (Lit.int .i64 pg).wf = true) (h' : nm'.size ≤ maxLen) (hp' : (Lit.int .i64 pg').wf = true) (e : kPl nm pg = kPl nm' pg') : nm = nm' ∧ pg = pg' := by
  have h1 := keyOf_pl h hp
  have h2 := keyOf_pl h' hp'
  rw [← e] at h2
  have := lawPl.inj h1 h2
  simpa using this
/-- A sheet as a value, and as a map's datum tells it. -/
def sheetV (bs : List Int) : Value := .agg (u8s bs).toArray
def b8 (x : Int) : UInt8 := UInt8.ofNat x.toNat
def shD (bs : List Int) : DataW Unit := .lit (.string (bs.map b8))
def isB8 : Value → Bool
  | .int .u8 x => decide (0 ≤ x ∧ x ≤ 255)
  | _ => false
def ofB8 : Value → Int
  | .int .u8 x => x
  | _ => 0
def sheetR (v : Value) : Option (DataW Unit × List MemPlace) :=
  match v with
  | .agg cs => if cs.size = 128 ∧ cs.toList.all isB8 = true then some (shD (cs.toList.map ofB8), []) else none
  | _ => none
theorem sheetR_mk {bs : List Int} (hl : bs.length = 128) (hb : ∀ x ∈ bs, 0 ≤ x ∧ x ≤ 255) : sheetR (sheetV bs) = some (shD bs, []) := by
  have h1 : ((u8s bs).toArray.size = 128 ∧ (u8s bs).toArray.toList.all isB8 = true) := by
    refine ⟨by simp [u8s, hl], ?_⟩
    simp only [u8s, List.all_eq_true, List.mem_map]
    rintro v ⟨x, hx, rfl⟩
    exact decide_eq_true (hb x hx)
  have h2 : (u8s bs).toArray.toList.map ofB8 = bs := by
    simp only [u8s, List.map_map]
    exact (List.map_congr_left (fun x _ => rfl)).trans (List.map_id bs)
  simp only [sheetR, sheetV]
  rw [if_pos h1, h2]
theorem sheetR_inv {v : Value} {z : DataW Unit × List MemPlace} (h : sheetR v = some z) : ∃ bs : List Int, bs.length = 128 ∧ (∀ x ∈ bs, 0 ≤ x ∧ x ≤ 255) ∧ v = sheetV bs ∧ z = (shD bs, []) := by
  unfold sheetR at h
  split at h
  · rename_i cs
    split at h
    · rename_i hc
      obtain ⟨h1, h2⟩ := hc
      rw [List.all_eq_true] at h2
      have hform : ∀ v ∈ cs.toList, v = .int .u8 (ofB8 v) ∧ 0 ≤ ofB8 v ∧ ofB8 v ≤ 255 := fun v hv => by
        have h3 := h2 v hv
        unfold isB8 at h3
        split at h3
        · exact ⟨rfl, of_decide_eq_true h3⟩
        · cases h3
      refine ⟨cs.toList.map ofB8, by simp [h1], fun x hx => ?_, ?_, ?_⟩
      · obtain ⟨v, hv, rfl⟩ := List.mem_map.1 hx
        exact (hform v hv).2
      · have e : u8s (cs.toList.map ofB8) = cs.toList := by
          simp only [u8s, List.map_map]
          exact (List.map_congr_left (fun v hv => (hform v hv).1.symm)).trans (List.map_id _)
        simp only [sheetV, e, Array.toArray_toList]
      · injection h with h; exact h.symm
    · cases h
  · cases h
theorem b8_inj {x y : Int} (hx : 0 ≤ x ∧ x ≤ 255) (hy : 0 ≤ y ∧ y ≤ 255) (h : b8 x = b8 y) : x = y := by
  have h1 := congrArg UInt8.toNat h
  simp only [b8, UInt8.toNat_ofNat'] at h1
  omega
theorem shD_inj {a b : List Int} (hl : a.length = b.length) (ha : ∀ x ∈ a, 0 ≤ x ∧ x ≤ 255) (hb : ∀ x ∈ b, 0 ≤ x ∧ x ≤ 255) (h : shD a = shD b) : a = b := by
  unfold shD at h
  injection h with h
  injection h with h
  apply List.ext_getElem hl
  intro i h1 h2
  have h3 : (a.map b8)[i]? = (b.map b8)[i]? := by rw [h]
  simp only [List.getElem?_map, List.getElem?_eq_getElem h1, List.getElem?_eq_getElem h2, Option.map_some, Option.some.injEq] at h3
  exact b8_inj (ha _ (List.getElem_mem h1)) (hb _ (List.getElem_mem h2)) h3
/-- Page pg of a file's bytes, and of a list of files. -/
def pageF (ds : List Int) (pg : Int) : Option (List Int) := if 0 ≤ pg ∧ pg * 128 + 128 ≤ ds.length then some ((ds.drop (pg.toNat * 128)).take 128) else none
def pageOf (fl : List PF) (nm : ByteArray) (pg : Int) : Option (List Int) :=
  match fl.find? (fun f => decide (f.1 = nm)) with
  | some f => pageF f.2 pg
  | none => none
theorem pageF_len {ds : List Int} {pg : Int} {bs : List Int} (h : pageF ds pg = some bs) : bs.length = 128 ∧ ∀ x ∈ bs, x ∈ ds := by
  unfold pageF at h
  split at h
  · rename_i hc
    injection h with h
    subst h
    refine ⟨by simp; omega, fun x hx => List.mem_of_mem_drop (List.mem_of_mem_take hx)⟩
  · cases h
theorem pageOf_snoc {l : List PF} {f : PF} {nm : ByteArray} {pg : Int} (h : ∀ g ∈ l, g.1 ≠ f.1) : pageOf (l ++ [f]) nm pg = if nm = f.1 then pageF f.2 pg else pageOf l nm pg := by
  unfold pageOf
  rw [List.find?_append]
  by_cases hn : nm = f.1
  · have h0 : l.find? (fun g => decide (g.1 = nm)) = none := by
      rw [List.find?_eq_none]
      intro g hg
      simp only [decide_eq_true_eq]
      rw [hn]
      exact h g hg
    rw [h0, if_pos hn]
    simp [hn]
  · rw [if_neg hn]
    have h1 : [f].find? (fun g => decide (g.1 = nm)) = none := by
      simp only [List.find?_singleton]
      rw [if_neg (by simp; exact fun e => hn e.symm)]
    rw [h1]
    simp
/-- A map of sheets tells the pages that S tells. -/
def RepS (D : DataW Unit) (S : ByteArray → Int → Option (List Int)) : Prop := ∀ nm pg, nm.size ≤ maxLen → (Lit.int .i64 pg).wf = true → ∀ z, D.atKey (kPl nm pg) z = (match S nm pg with | some bs => shD bs | none => z)
theorem RepS.congr {D : DataW Unit} {S S' : ByteArray → Int → Option (List Int)} (h : RepS D S) (he : ∀ nm pg, S' nm pg = S nm pg) : RepS D S' := fun nm pg h1 h2 z => by rw [he]; exact h nm pg h1 h2 z
theorem RepS.nil : RepS (.map []) (fun _ _ => none) := fun nm pg _ _ z => rfl
theorem RepS.put {D : DataW Unit} {S : ByteArray → Int → Option (List Int)} (h : RepS D S) (hD : IsMap D) {nm : ByteArray} {pg : Int} (hn : nm.size ≤ maxLen) (hp : (Lit.int .i64 pg).wf = true) (bs : List Int) : RepS (D.put (kPl nm pg) (shD bs)) (fun nm' pg' => if nm' = nm ∧ pg' = pg then some bs else S nm' pg') := by
  intro nm' pg' h1 h2 z
  by_cases hc : nm' = nm ∧ pg' = pg
  · obtain ⟨rfl, rfl⟩ := hc
    rw [atKey_put_same hD (lawPl.key (keyOf_pl hn hp))]
    simp
  · rw [atKey_put_other (fun e => hc (kPl_inj h1 h2 hn hp e))]
    rw [h nm' pg' h1 h2 z]
    simp only [if_neg hc]
def MapS (w : World) (mb k : Nat) (D : DataW Unit) : Prop := w.ownsMap Try.prog 64 sheetR mb k D
theorem zeroSheet (w : World) : (zeroValue 58).run Try.prog w = .ok (sheetV (List.replicate 128 0)) w := by kernel_rfl
end Go.Proofs.Ytmmdkjeoadlikaa
