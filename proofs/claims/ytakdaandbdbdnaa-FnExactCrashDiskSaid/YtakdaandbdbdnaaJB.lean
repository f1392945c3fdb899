import Derived.Test.YtakdaandbdbdnaaOwn
import Derived.Test.YtakdaandbdbdnaaCsW
import Derived.Test.YtakdaandbdbdnaaJC
import Derived.Test.YtakdaandbdbdnaaJA
import Derived.Maps.Own
import Derived.Maps.OwnSet
import Derived.DeepKeys4
import Derived.WalkArith
import Derived.Deep.MidRow
import Derived.Deep.WholeRow
import Derived.Deep.QuietTactic
import Derived.BigQuiet
import Derived.Laws.StructEq
import Derived.Laws.CopyOwn
namespace Go.Proofs.Ytakdaandbdbdnaa
open Go.RowKit Go.Maps
set_option linter.unusedVariables false
set_option maxRecDepth 100000

theorem laidOutS : laidOutB Try.prog = true := by kernel_rfl
theorem rowPl : (89 : TypeId) < Try.prog.types.size := of_decide_eq_true (by kernel_rfl)
theorem widePl : (match Try.prog.underlying 89 with | some (.array _ _) | some (.struct _) => true | _ => false) = true := by kernel_rfl
theorem lawPl : Keyed Try.prog 89 := Keyed.of_law (deep_law_laid laidOutS (m := 2) (by omega) rowPl (by kernel_rfl) widePl)
/-- The key of a place. -/
def kPl (nm : ByteArray) (pg : Int) : Lit := .string (keyBytes [.string nm.data.toList, .int .i64 pg])
theorem keyTypePl : Try.prog.keyType 89 = true := by kernel_rfl
theorem cellsPl : Try.prog.cellsOf 89 = 2 := by kernel_rfl
theorem formedPl (u v : Value) : (Value.agg #[u, v]).formed Try.prog 89 = true := by
  obtain ⟨fs, hu⟩ : ∃ fs, Try.prog.underlying 89 = some (.struct fs) := ⟨_, Try.underlying89⟩
  simp [Value.formed, hu, cellsPl]
theorem cellsOfS : Try.prog.cellsOf 9 = 1 := by kernel_rfl
theorem cellsOfI : Try.prog.cellsOf 2 = 1 := by kernel_rfl
theorem keyLits_pl (d : Nat) {nm : ByteArray} {pg : Int} (h : nm.size ≤ maxLen) (hp : (Lit.int .i64 pg).wf = true) : Try.prog.keyLits (d + 2) 89 [.string nm, .int .i64 pg] = some [.string nm.data.toList, .int .i64 pg] := by
  simp [Program.keyLits, Try.underlying89, Try.underlying9, Try.underlying2, cellsPl, cellsOfS, cellsOfI, h, hp]
theorem keyOf_pl {nm : ByteArray} {pg : Int} (h : nm.size ≤ maxLen) (hp : (Lit.int .i64 pg).wf = true) : keyOf Try.prog 89 (.agg #[.string nm, .int .i64 pg]) = some (kPl nm pg) := by
  unfold keyOf
  rw [Try.underlying89]
  have h0 : 0 < Try.prog.types.size := Nat.lt_of_le_of_lt (Nat.zero_le _) rowPl
  have e : Try.prog.types.size + 1 = (Try.prog.types.size - 1) + 2 := by omega
  simp only [keyTypePl, formedPl, Bool.and_self, if_true, Value.cells]
  rw [e, keyLits_pl _ h hp]
  rfl
theorem kPl_inj {nm nm' : ByteArray} {pg pg' : Int} (h : nm.size ≤ maxLen) (hp : (Lit.int .i64 pg).wf = true) (h' : nm'.size ≤ maxLen) (hp' : (Lit.int .i64 pg').wf = true) (e : kPl nm pg = kPl nm' pg') : nm = nm' ∧ pg = pg' := by
  have h1 := keyOf_pl h hp
  have h2 := keyOf_pl h' hp'
  rw [← e] at h2
  have := lawPl.inj h1 h2
  simpa using this
/-- A sheet as a value, and as a map's datum tells it. -/
def sheetV (bs : List Int) : Value := .agg (u8s bs).toArray
def b8 (x : Int) : UInt8 := UInt8.ofNat x.toNat
def shD (bs : List Int) : DataW Unit := .lit (.string (bs.map b8))
def isB8 : Value → Bool
  | .int .u8 x => decide (0 ≤ x ∧ x ≤ 255)
  | _ => false
def ofB8 : Value → Int
  | .int .u8 x => x
  | _ => 0
def sheetR (v : Value) : Option (DataW Unit × List MemPlace) :=
  match v with
  | .agg cs => if cs.size = 128 ∧ cs.toList.all isB8 = true then some (shD (cs.toList.map ofB8), []) else none
  | _ => none
theorem sheetR_mk {bs : List Int} (hl : bs.length = 128) (hb : ∀ x ∈ bs, 0 ≤ x ∧ x ≤ 255) : sheetR (sheetV bs) = some (shD bs, []) := by
  have h1 : ((u8s bs).toArray.size = 128 ∧ (u8s bs).toArray.toList.all isB8 = true) := by
    refine ⟨by simp [u8s, hl], ?_⟩
    simp only [u8s, List.all_eq_true, List.mem_map]
    rintro v ⟨x, hx, rfl⟩
    exact decide_eq_true (hb x hx)
  have h2 : (u8s bs).toArray.toList.map ofB8 = bs := by
    simp only [u8s, List.map_map]
    exact (List.map_congr_left (fun x _ => rfl)).trans (List.map_id bs)
  simp only [sheetR, sheetV]
  rw [if_pos h1, h2]
theorem sheetR_inv {v : Value} {z : DataW Unit × List MemPlace} (h : sheetR v = some z) : ∃ bs : List Int, bs.length = 128 ∧ (∀ x ∈ bs, 0 ≤ x ∧ x ≤ 255) ∧ v = sheetV bs ∧ z = (shD bs, []) := by
  unfold sheetR at h
  split at h
  · rename_i cs
    split at h
    · rename_i hc
      obtain ⟨h1, h2⟩ := hc
      rw [List.all_eq_true] at h2
      have hform : ∀ v ∈ cs.toList, v = .int .u8 (ofB8 v) ∧ 0 ≤ ofB8 v ∧ ofB8 v ≤ 255 := fun v hv => by
        have h3 := h2 v hv
        unfold isB8 at h3
        split at h3
        · exact ⟨rfl, of_decide_eq_true h3⟩
        · cases h3
      refine ⟨cs.toList.map ofB8, by simp [h1], fun x hx => ?_, ?_, ?_⟩
      · obtain ⟨v, hv, rfl⟩ := List.mem_map.1 hx
        exact (hform v hv).2
      · have e : u8s (cs.toList.map ofB8) = cs.toList := by
          simp only [u8s, List.map_map]
          exact (List.map_congr_left (fun v hv => (hform v hv).1.symm)).trans (List.map_id _)
        simp only [sheetV, e, Array.toArray_toList]
      · injection h with h; exact h.symm
    · cases h
  · cases h
theorem b8_inj {x y : Int} (hx : 0 ≤ x ∧ x ≤ 255) (hy : 0 ≤ y ∧ y ≤ 255) (h : b8 x = b8 y) : x = y := by
  have h1 := congrArg UInt8.toNat h
  simp only [b8, UInt8.toNat_ofNat'] at h1
  omega
theorem shD_inj {a b : List Int} (hl : a.length = b.length) (ha : ∀ x ∈ a, 0 ≤ x ∧ x ≤ 255) (hb : ∀ x ∈ b, 0 ≤ x ∧ x ≤ 255) (h : shD a = shD b) : a = b := by
  unfold shD at h
  injection h with h
  injection h with h
  apply List.ext_getElem hl
  intro i h1 h2
  have h3 : (a.map b8)[i]? = (b.map b8)[i]? := by rw [h]
  simp only [List.getElem?_map, List.getElem?_eq_getElem h1, List.getElem?_eq_getElem h2, Option.map_some, Option.some.injEq] at h3
  exact b8_inj (ha _ (List.getElem_mem h1)) (hb _ (List.getElem_mem h2)) h3
/-- Page pg of a file's bytes, and of a list of files. -/
def pageF (ds : List Int) (pg : Int) : Option (List Int) := if 0 ≤ pg ∧ pg * 128 + 128 ≤ ds.length then some ((ds.drop (pg.toNat * 128)).take 128) else none
def pageOf (fl : List PF) (nm : ByteArray) (pg : Int) : Option (List Int) :=
  match fl.find? (fun f => decide (f.1 = nm)) with
  | some f => pageF f.2 pg
  | none => none
theorem pageF_len {ds : List Int} {pg : Int} {bs : List Int} (h : pageF ds pg = some bs) : bs.length = 128 ∧ ∀ x ∈ bs, x ∈ ds := by
  unfold pageF at h
  split at h
  · rename_i hc
    injection h with h
    subst h
    refine ⟨by simp; omega, fun x hx => List.mem_of_mem_drop (List.mem_of_mem_take hx)⟩
  · cases h
theorem pageOf_snoc {l : List PF} {f : PF} {nm : ByteArray} {pg : Int} (h : ∀ g ∈ l, g.1 ≠ f.1) : pageOf (l ++ [f]) nm pg = if nm = f.1 then pageF f.2 pg else pageOf l nm pg := by
  unfold pageOf
  rw [List.find?_append]
  by_cases hn : nm = f.1
  · have h0 : l.find? (fun g => decide (g.1 = nm)) = none := by
      rw [List.find?_eq_none]
      intro g hg
      simp only [decide_eq_true_eq]
      rw [hn]
      exact h g hg
    rw [h0, if_pos hn]
    simp [hn]
  · rw [if_neg hn]
    have h1 : [f].find? (fun g => decide (g.1 = nm)) = none := by
      simp only [List.find?_singleton]
      rw [if_neg (by simp; exact fun e => hn e.symm)]
    rw [h1]
    simp
/-- A map of sheets tells the pages that S tells. -/
def RepS (D : DataW Unit) (S : ByteArray → Int → Option (List Int)) : Prop := ∀ nm pg, nm.size ≤ maxLen → (Lit.int .i64 pg).wf = true → ∀ z, D.atKey (kPl nm pg) z = (match S nm pg with | some bs => shD bs | none => z)
theorem RepS.congr {D : DataW Unit} {S S' : ByteArray → Int → Option (List Int)} (h : RepS D S) (he : ∀ nm pg, S' nm pg = S nm pg) : RepS D S' := fun nm pg h1 h2 z => by rw [he]; exact h nm pg h1 h2 z
theorem RepS.nil : RepS (.map []) (fun _ _ => none) := fun nm pg _ _ z => rfl
theorem RepS.put {D : DataW Unit} {S : ByteArray → Int → Option (List Int)} (h : RepS D S) (hD : IsMap D) {nm : ByteArray} {pg : Int} (hn : nm.size ≤ maxLen) (hp : (Lit.int .i64 pg).wf = true) (bs : List Int) : RepS (D.put (kPl nm pg) (shD bs)) (fun nm' pg' => if nm' = nm ∧ pg' = pg then some bs else S nm' pg') := by
  intro nm' pg' h1 h2 z
  by_cases hc : nm' = nm ∧ pg' = pg
  · obtain ⟨rfl, rfl⟩ := hc
    rw [atKey_put_same hD (lawPl.key (keyOf_pl hn hp))]
    simp
  · rw [atKey_put_other (fun e => hc (kPl_inj h1 h2 hn hp e))]
    rw [h nm' pg' h1 h2 z]
    simp only [if_neg hc]
def MapS (w : World) (mb k : Nat) (D : DataW Unit) : Prop := w.ownsMap Try.prog 89 sheetR mb k D
theorem zeroSheet (w : World) : (zeroValue 86).run Try.prog w = .ok (sheetV (List.replicate 128 0)) w := by kernel_rfl
end Go.Proofs.Ytakdaandbdbdnaa
namespace Go.Proofs.Ytakdaandbdbdnaa
open Go.RowKit Go.Maps
set_option linter.unusedVariables false
set_option maxRecDepth 100000

theorem pageF_take {ds : List Int} {j : Nat} (h : (j + 1) * 128 ≤ ds.length) (pg : Int) : pageF (ds.take ((j + 1) * 128)) pg = if pg = j then some ((ds.drop (j * 128)).take 128) else pageF (ds.take (j * 128)) pg := by
  have e1 : (ds.take ((j + 1) * 128)).length = (j + 1) * 128 := by simp; omega
  have e2 : (ds.take (j * 128)).length = j * 128 := by simp; omega
  unfold pageF
  rw [e1, e2]
  by_cases h1 : pg = j
  · subst h1
    rw [if_pos (by omega), if_pos rfl]
    congr 1
    rw [Int.toNat_natCast, List.drop_take, List.take_take]
    congr 1
    omega
  · rw [if_neg h1]
    by_cases h2 : 0 ≤ pg ∧ pg * 128 + 128 ≤ ((j + 1) * 128 : Nat)
    · obtain ⟨q, rfl⟩ := Int.eq_ofNat_of_zero_le h2.1
      have h3 : q + 1 ≤ j := by omega
      rw [if_pos h2, if_pos (by omega)]
      congr 1
      rw [Int.toNat_natCast, List.drop_take, List.drop_take, List.take_take, List.take_take]
      congr 1
      omega
    · rw [if_neg h2, if_neg (by omega)]
theorem pageF_all (ds : List Int) (h : ds.length % 128 = 0) : ds.take (ds.length / 128 * 128) = ds := List.take_of_length_le (by omega)
theorem pageF_none (pg : Int) (h : 0 ≤ pg → True) : pageF [] pg = none := by
  unfold pageF
  rw [if_neg (by simp; omega)]
/-- The pages of the first k files, and of j pages of the next. -/
def someF (fs : List PF) (k j : Nat) : List PF := fs.take k ++ [((fs.getD k (ByteArray.empty, [])).1, (fs.getD k (ByteArray.empty, [])).2.take (j * 128))]
theorem inv_new {fs : List PF} (hI : Inv fs) {k : Nat} (hk : k < fs.length) : ∀ g ∈ fs.take k, g.1 ≠ (fs.getD k (ByteArray.empty, [])).1 := by
  intro g hg
  obtain ⟨i, hi, rfl⟩ := List.mem_iff_getElem.1 hg
  have hi' : i < k := by simp at hi; omega
  have := hI.ne i k (by omega) (by omega) hk
  simpa [List.getD, List.getElem?_eq_getElem (show i < fs.length by omega), List.getElem_take] using this
theorem someF_page {fs : List PF} (hI : Inv fs) {k : Nat} (hk : k < fs.length) (j : Nat) (nm : ByteArray) (pg : Int) : pageOf (someF fs k j) nm pg = if nm = (fs.getD k (ByteArray.empty, [])).1 then pageF ((fs.getD k (ByteArray.empty, [])).2.take (j * 128)) pg else pageOf (fs.take k) nm pg :=
  pageOf_snoc (f := ((fs.getD k (ByteArray.empty, [])).1, (fs.getD k (ByteArray.empty, [])).2.take (j * 128))) (inv_new hI hk)
theorem rep_start {fs : List PF} (hI : Inv fs) {k : Nat} (hk : k < fs.length) {D : DataW Unit} (h : RepS D (pageOf (fs.take k))) : RepS D (pageOf (someF fs k 0)) :=
  h.congr fun nm pg => by
    rw [someF_page hI hk]
    by_cases hn : nm = (fs.getD k (ByteArray.empty, [])).1
    · rw [if_pos hn]
      simp only [Nat.zero_mul, List.take_zero]
      rw [pageF_none pg (fun _ => trivial)]
      subst hn
      unfold pageOf
      rw [List.find?_eq_none.2 (fun g hg => by simpa using inv_new hI hk g hg)]
    · rw [if_neg hn]
theorem rep_step {fs : List PF} (hI : Inv fs) {k j : Nat} (hk : k < fs.length) {D : DataW Unit} (h : RepS D (pageOf (someF fs k j))) (hD : IsMap D) (hj : (j + 1) * 128 ≤ (fs.getD k (ByteArray.empty, [])).2.length) (hn : (fs.getD k (ByteArray.empty, [])).1.size ≤ maxLen) (hp : (Lit.int .i64 (j : Int)).wf = true) :
    RepS (D.put (kPl (fs.getD k (ByteArray.empty, [])).1 j) (shD (((fs.getD k (ByteArray.empty, [])).2.drop (j * 128)).take 128))) (pageOf (someF fs k (j + 1))) :=
  (h.put hD hn hp _).congr fun nm pg => by
    rw [someF_page hI hk, someF_page hI hk]
    by_cases h1 : nm = (fs.getD k (ByteArray.empty, [])).1
    · rw [if_pos h1, if_pos h1]
      rw [pageF_take hj]
      by_cases h2 : pg = j
      · rw [if_pos h2, if_pos ⟨h1, h2⟩]
      · rw [if_neg h2, if_neg (fun h => h2 h.2)]
    · rw [if_neg h1, if_neg h1, if_neg (fun h => h1 h.1)]
theorem rep_next {fs : List PF} (hI : Inv fs) {k : Nat} (hk : k < fs.length) {D : DataW Unit} (h : RepS D (pageOf (someF fs k ((fs.getD k (ByteArray.empty, [])).2.length / 128)))) : RepS D (pageOf (fs.take (k + 1))) := by
  have e : someF fs k ((fs.getD k (ByteArray.empty, [])).2.length / 128) = fs.take (k + 1) := by
    unfold someF
    rw [pageF_all _ (hI.pg k hk).2, take_snocD fs k (ByteArray.empty, []) hk]
  rw [e] at h
  exact h
end Go.Proofs.Ytakdaandbdbdnaa
namespace Go.Proofs.Ytakdaandbdbdnaa
open Go.RowKit Go.Maps
set_option linter.unusedVariables false
set_option maxRecDepth 100000

theorem run_makeS (r : Int) (w : World) : (Instr.makeMap 80 (some (.int .i64 r))).run Try.prog w = .ok (.map (some w.heap.size)) (w.alloc (.map #[] 0)) := by
  simp [Instr.makeMap, run_underlying Try.underlying80, asInt, newObj]
  rfl
theorem run_arrayAtS (b o n c : Nat) (w : World) (h : 128 ≤ n) : (Instr.arrayAt 86 (.slice (some ⟨b, o, none⟩) n c)).run Try.prog w = .ok (.pointer (some ⟨b, o, none⟩)) w := by
  simp [Instr.arrayAt, run_underlying Try.underlying86]
  omega
theorem infoSheet : (Try.prog.info? 86).map (·.size) = some 128 := by kernel_rfl
theorem range_page {W : World} {db dof j pn : Nat} {ds : List Int} (h : ∀ t, t < pn → W.cell? ⟨db, dof + t, none⟩ = some (.int .u8 (ds.getD t 0))) (hl : ds.length = pn) (hj : (j + 1) * 128 ≤ pn) : W.rangeAt db (dof + j * 128) (u8s ((ds.drop (j * 128)).take 128)) := by
  intro t v ht
  have htl : t < 128 := by
    have := (List.getElem?_eq_some_iff.1 ht).1
    simp only [u8s, List.length_map, List.length_take] at this
    omega
  have h1 := h (j * 128 + t) (by omega)
  have h2 : j * 128 + t < ds.length := by omega
  rw [Nat.add_assoc, h1, ← ht]
  simp only [u8s, List.getElem?_map, List.getElem?_take_of_lt htl, List.getElem?_drop, List.getElem?_eq_getElem h2, List.getD, Option.map_some, Option.getD_some]
theorem box_two2D {w : World} {N : Nat} {v0 v1 : Value} {t : TypeId} (h : w.heap[N]? = some (.cells #[v0, v1] t)) : w.cell? ⟨N, 0, none⟩ = some v0 ∧ w.cell? ⟨N, 1, none⟩ = some v1 := by simp [World.cell?, h]
set_option maxHeartbeats 6400000 in
theorem durable_any (a : Option Addr) (n c : Nat) (fs : List PF) (b : Option Addr) (m d : Nat) (ps : List PP) (cp fu : Int) (de : Bool) (w : World) (A B : Nat) (hB : B ≤ w.heap.size) (hF : FilesAt w A B a n c fs) (hm : m ≤ 1048576) (hI : Inv fs) (hn : n ≤ 12) (hall : ∀ j, j < n → (fs.getD j (ByteArray.empty, [])).2.length ≤ 1048576) :
    Calls Try.prog 50 #[.agg #[.slice a n c, .slice b m d, .int .i64 cp, .int .i64 fu, .bool de]] w fun e w' => ∃ (mb k : Nat) (D : DataW Unit), e = .returned (.map (some mb)) ∧ w.heap.size ≤ mb ∧ MapS w' mb k D ∧ k ≤ 1048576 ∧ RepS D (pageOf fs) ∧ Below w.heap.size w w' := by
  have HF : Hid (∀ W, Below w.heap.size w W → FilesAt W A B a n c fs) := fun W hW => hF.below (hW.mono hB)
  have HA : Hid (∀ j, j < n → (fs.getD j (ByteArray.empty, [])).2.length ≤ 1048576) := hall
  have HFL : Hid (fs.length = n) := hF.1
  have HI : Hid (Inv fs) := hI
  have hnc := hF.2.1
  have hcm := hF.2.2.1
  unfold maxLen at hcm
  clear hF hall hI
  have hb0 : Below w.heap.size w (w.alloc (.cells #[.slice a n c, .slice b m d, .int .i64 cp, .int .i64 fu, .bool de] 26)) := (Below.refl _ _).alloc (Nat.le_refl _) _
  have k0 := heap_alloc_new w (.cells #[.slice a n c, .slice b m d, .int .i64 cp, .int .i64 fu, .bool de] 26)
  have hmk := run_makeS
  go_enter Try.func50, Try.ntmps50
  go_wp2
  go_loopw [3, 5, 16] (fun r _ i wr => ∃ (k : Nat) (rm : Int), k ≤ n ∧ i = .int .i64 k ∧ r = .int .i64 rm ∧ (0 ≤ rm ∧ rm ≤ 1048576 + k * 1048576) ∧ Below (w.heap.size + 1) (w.alloc (.cells #[.slice a n c, .slice b m d, .int .i64 cp, .int .i64 fu, .bool de] 26)) wr) (fun _ _ i _ => n - (intOf i).toNat)
  case atStart => exact ⟨0, m, Nat.zero_le _, rfl, rfl, by omega, Below.refl _ _⟩
  case round =>
    obtain ⟨k, rm, hk, rfl, rfl, hrm, hbel⟩ := hrel
    have hbw : Below w.heap.size w wr := hb0.trans (hbel.mono (by omega))
    have hsz := hbel.size
    simp at hsz
    by_cases hlt : k < n
    · obtain ⟨_, _, _, hcell⟩ := HF.out wr hbw
      obtain ⟨ab, aoff, rfl, hab, hcb⟩ := hcell (by omega)
      obtain ⟨p1, p2, pa, pn, pc, p3, p4⟩ := hcb k hlt
      have hpl : pn ≤ 1048576 := by have := HA.out k hlt; rw [p4.1] at this; exact this
      have hbk : ab < wr.heap.size := by omega
      clear hcell hcb
      obtain ⟨f1, hf1⟩ : ∃ x, x = (fs.getD k (ByteArray.empty, [])).1 := ⟨_, rfl⟩
      rw [← hf1] at p1
      clear hf1 p4 p2
      have hal := hbel.alloc (by omega) (.cells #[.string f1, .slice pa pn pc] 92)
      have hq : 0 ≤ (pn : Int) / 128 ∧ (pn : Int) / 128 ≤ 1048576 := by omega
      go_wp2
      go_roundw
      case rel => exact ⟨k + 1, rm + (pn : Int) / 128, by omega, by go_num, by go_num, by omega, hal⟩
      case measure => simp [intOf]; omega
    · obtain rfl : k = n := by omega
      have k1 := (hbel.block w.heap.size (by omega)).trans k0
      obtain ⟨w2, hw2⟩ : ∃ w2, w2 = wr := ⟨_, rfl⟩
      rw [← hw2] at k1 hbw hsz ⊢
      clear hbel hb0 k0 hw2 wr
      obtain ⟨o0, o1, o2, o3, o4⟩ := box_fiveC k1
      have hl2 : w.heap.size < w2.heap.size := by omega
      go_wp2
      clear o0 o1 o2 o3 o4 hmk
      go_loopw [8, 9, 32] (fun _ _ i wr => ∃ (j q : Nat) (D : DataW Unit), j ≤ k ∧ i = .int .i64 j ∧ q ≤ j * 8192 ∧ Hid (MapS wr w2.heap.size q D) ∧ Hid (RepS D (pageOf (fs.take j))) ∧ Hid (Fr (fun x => x = w2.heap.size) (w2.alloc (.map #[] 0)) wr)) (fun _ _ i _ => k - (intOf i).toNat)
      case atStart => exact ⟨0, 0, _, Nat.zero_le _, rfl, Nat.le_refl _, World.ownsMap_made w2 Try.prog _ _, RepS.nil, Fr.refl _ _⟩
      case round =>
        obtain ⟨i, q, D, hi, rfl, hq, HM, HRp, HFr⟩ := hrel
        have hsz2 := HFr.out.size
        simp at hsz2
        have hbw2 : Below w.heap.size w wr := (hbw.trans (((Below.refl w2.heap.size w2).alloc (Nat.le_refl _) _).mono hbw.size)).trans (HFr.out.below (by simp; omega) (fun g e => by omega))
        have hlm : w2.heap.size < wr.heap.size := by omega
        by_cases hlt : i < k
        · obtain ⟨_, _, _, hcell⟩ := HF.out wr hbw2
          obtain ⟨ab, aoff, rfl, hab, hcb⟩ := hcell (by omega)
          obtain ⟨p1, hnm, pa, pn, pc, p3, p4⟩ := hcb i hlt
          have hil : i < fs.length := by rw [HFL.out]; exact hlt
          have hpg := HI.out.pg i hil
          have hpl := HA.out i hlt
          rw [p4.1] at hpg hpl
          have hbk : ab < wr.heap.size := by omega
          have hpcm := p4.2.2.1
          have hpnc := p4.2.1
          unfold maxLen at hpcm
          have hby := p4.2.2.2.1
          obtain ⟨db, dof, rfl, hdb, hdc⟩ := p4.2.2.2.2.1 (by omega)
          have HDL : Hid ((fs.getD i (ByteArray.empty, [])).2.length = pn) := p4.1
          have HBY : Hid (∀ x ∈ (fs.getD i (ByteArray.empty, [])).2, 0 ≤ x ∧ x ≤ 255) := hby
          have HDC : Hid (∀ t, t < pn → wr.cell? ⟨db, dof + t, none⟩ = some (.int .u8 ((fs.getD i (ByteArray.empty, [])).2.getD t 0))) := hdc
          clear hcell hcb p4 hby hdc
          obtain ⟨f1, hf1⟩ : ∃ x, x = (fs.getD i (ByteArray.empty, [])).1 := ⟨_, rfl⟩
          rw [← hf1] at p1 hnm
          have HF1 : Hid (f1 = (fs.getD i (ByteArray.empty, [])).1) := hf1
          clear hf1
          have hal : Below wr.heap.size wr (wr.alloc (.cells #[.string f1, .slice (some ⟨db, dof, none⟩) pn pc] 92)) := (Below.refl _ _).alloc (Nat.le_refl _) _
          have hbx := heap_alloc_new wr (.cells #[.string f1, .slice (some ⟨db, dof, none⟩) pn pc] 92)
          have hM1 : Hid (MapS (wr.alloc (.cells #[.string f1, .slice (some ⟨db, dof, none⟩) pn pc] 92)) w2.heap.size q D) := HM.out.alloc _
          have hF1 : Hid (Fr (fun x => x = w2.heap.size) (w2.alloc (.map #[] 0)) (wr.alloc (.cells #[.string f1, .slice (some ⟨db, dof, none⟩) pn pc] 92))) := HFr.out.trans (Fr.of_below hal)
          have hR1 : Hid (RepS D (pageOf (someF fs i 0))) := rep_start HI.out hil HRp.out
          have HDC1 : Hid (∀ t, t < pn → (wr.alloc (.cells #[.string f1, .slice (some ⟨db, dof, none⟩) pn pc] 92)).cell? ⟨db, dof + t, none⟩ = some (.int .u8 ((fs.getD i (ByteArray.empty, [])).2.getD t 0))) := fun t ht => (hal.cell (p := ⟨db, dof + t, none⟩) (by show db < _; omega)).trans (HDC.out t ht)
          have hdv : (pn : Int) / 128 = ((pn / 128 : Nat) : Int) := by omega
          have hnp : pn / 128 ≤ 8192 := by omega
          obtain ⟨fb, hfb⟩ : ∃ fb, fb = wr.heap.size := ⟨_, rfl⟩
          have hfbW : fb < (wr.alloc (.cells #[.string f1, .slice (some ⟨db, dof, none⟩) pn pc] 92)).heap.size := by rw [hfb]; exact (Array.getElem?_eq_some_iff.1 hbx).1
          rw [← hfb] at hbx
          have hfbm : w2.heap.size < fb := by omega
          have HDV : Hid ((pn : Int) / 128 = ((pn / 128 : Nat) : Int)) := hdv
          have hdbm : db < w2.heap.size := by omega
          clear hdv HDC HM HFr HRp
          go_wp2
          rw [HDV.out]
          generalize wr.alloc (.cells #[.string f1, .slice (some ⟨db, dof, none⟩) pn pc] 92) = wf at hbx hM1 hF1 HDC1 hfbW ⊢
          obtain ⟨np, hnpe⟩ : ∃ np, np = pn / 128 := ⟨_, rfl⟩
          rw [← hnpe] at hnp HDV ⊢
          have HNP : Hid (np = pn / 128) := hnpe
          have hnpm : np * 128 ≤ pn := by omega
          clear hnpe
          rw [← hfb]
          clear hfb
          go_loopw [9, 40] (fun _ t wv => ∃ (j q2 : Nat) (D2 : DataW Unit), j ≤ np ∧ t = .int .i64 j ∧ q2 ≤ i * 8192 + j ∧ Hid (MapS wv w2.heap.size q2 D2) ∧ Hid (RepS D2 (pageOf (someF fs i j))) ∧ Hid (Fr (fun x => x = w2.heap.size) wf wv)) (fun _ t _ => np - (intOf t).toNat)
          case atStart => exact ⟨0, q, D, Nat.zero_le _, rfl, by omega, hM1, hR1, Fr.refl _ _⟩
          case round =>
            obtain ⟨j, q2, D2, hj, rfl, hq2, HM, HRp, HFr⟩ := hrel
            have hbxv := (HFr.out.block fb hfbW (by omega)).trans hbx
            have hsv := HFr.out.size
            have hfbv : fb < wr.heap.size := by omega
            obtain ⟨c0, c1⟩ := box_two2D hbxv
            by_cases hlj : j < np
            · obtain ⟨pgb, hpgb⟩ : ∃ x, x = ((fs.getD i (ByteArray.empty, [])).2.drop (j * 128)).take 128 := ⟨_, rfl⟩
              have hpgl : pgb.length = 128 := by rw [hpgb, List.length_take, List.length_drop, HDL.out]; omega
              have hpgr : ∀ x ∈ pgb, 0 ≤ x ∧ x ≤ 255 := fun x hx => HBY.out x (by rw [hpgb] at hx; exact List.mem_of_mem_drop (List.mem_of_mem_take hx))
              have hrg : wr.rangeAt db (dof + j * 128) (u8s pgb) := by
                rw [hpgb]
                exact range_page (fun t ht => (World.cell?_of_block (a := ⟨db, dof + t, none⟩) (HFr.out.block db (by omega) (by omega))).trans (HDC1.out t ht)) HDL.out (by omega)
              have hjw : (Lit.int .i64 (j : Int)).wf = true := WalkArith.wf_i64 (by omega)
              have hval : sheetR (.agg (u8s pgb).toArray) = some (shD pgb, []) := sheetR_mk hpgl hpgr
              have hInfo : (Try.prog.info? 86).map (·.size) = some (u8s pgb).length := by rw [infoSheet]; simp [u8s, hpgl]
              have HSTEP : Hid (RepS (D2.put (kPl f1 (j : Int)) (shD pgb)) (pageOf (someF fs i (j + 1)))) := by
                show RepS _ _
                rw [HF1.out, hpgb]
                exact rep_step HI.out hil HRp.out HM.out.isMap (by rw [HDL.out]; omega) (by rw [← HF1.out]; exact hnm) hjw
              have hS0 : wr.cell? ⟨fb, 0, none⟩ = some (.string f1) ∧ wr.cell? ⟨fb, 1, none⟩ = some (.slice (some ⟨db, dof, none⟩) pn pc) ∧ wr.rangeAt db (dof + j * 128) (u8s pgb) := ⟨c0, c1, hrg⟩
              have jw1 : IntKind.i64.wrap ((j : Int) * 128) = (j : Int) * 128 := by rw [IntKind.wrap_i64]; omega
              have jw2 : IntKind.i64.wrap ((j : Int) + 1) = (j : Int) + 1 := by rw [IntKind.wrap_i64]; omega
              have jw3 : IntKind.i64.wrap (((j : Int) + 1) * 128) = ((j : Int) + 1) * 128 := by rw [IntKind.wrap_i64]; omega
              have jn1 : ((j : Int) * 128).toNat = j * 128 := by omega
              have jn2 : (((j : Int) + 1) * 128).toNat = (j + 1) * 128 := by omega
              clear hpgb hrg
              go_wp2_with fail
              refine wp_region_noPanic ?_
              refine wp_region_held_drew (S := (fun w' => w'.cell? ⟨fb, 0, none⟩ = some (.string f1) ∧ w'.cell? ⟨fb, 1, none⟩ = some (.slice (some ⟨db, dof, none⟩) pn pc) ∧ w'.rangeAt db (dof + j * 128) (u8s pgb))) (by kernel_rfl) ?_ (fun hHeld => ?_)
              · exact hS0
              clear c0 c1
              refine wpAnyH_take (i := 0) (oi := { dst := some 43, op := Op.move (Operand.tmp 6), type := 80, pos := "l1_disk.go:238", after := #[], guard := none }) (v := ?_) rfl (by kernel_rfl) (by kernel_rfl) (by kernel_rfl) (fun _ _ _ h => h) (Or.inl ⟨by rfl, ?_⟩) (by assumption) ?_
              rotate_left 1
              · intro w hSw; (try dsimp only at hSw); go_simp; try (with_reducible rfl)
              try simp only [Act.put, List.setIfInBounds_toArray, List.set_cons_zero, List.set_cons_succ]
              refine wpAnyH_take (i := 1) (oi := { dst := some 44, op := Op.fieldAddr 92 (Operand.tmp 8) 0, type := 0, pos := "l1_disk.go:238", after := #[], guard := none }) (v := ?_) rfl (by kernel_rfl) (by kernel_rfl) (by kernel_rfl) (fun _ _ _ h => h) (Or.inl ⟨by rfl, ?_⟩) (by assumption) ?_
              rotate_left 1
              · intro w hSw; (try dsimp only at hSw); go_simp; try (with_reducible rfl)
              try simp only [Act.put, List.setIfInBounds_toArray, List.set_cons_zero, List.set_cons_succ]
              refine wpAnyH_take (i := 2) (oi := { dst := some 45, op := Op.load 9 (Operand.tmp 44), type := 9, pos := "l1_disk.go:238", after := #[{ on := 1, ground := Ground.data }], guard := none }) (v := ?_) rfl (by kernel_rfl) (by kernel_rfl) (by kernel_rfl) (fun _ _ _ h => h) (Or.inl ⟨by rfl, ?_⟩) (by assumption) ?_
              rotate_left 1
              · intro w hSw; (try dsimp only at hSw); go_simp; try (with_reducible rfl)
              try simp only [Act.put, List.setIfInBounds_toArray, List.set_cons_zero, List.set_cons_succ]
              refine wpAnyH_take (i := 3) (oi := { dst := some 46, op := Op.move (Operand.tmp 9), type := 2, pos := "l1_disk.go:238", after := #[], guard := none }) (v := ?_) rfl (by kernel_rfl) (by kernel_rfl) (by kernel_rfl) (fun _ _ _ h => h) (Or.inl ⟨by rfl, ?_⟩) (by assumption) ?_
              rotate_left 1
              · intro w hSw; (try dsimp only at hSw); go_simp; try (with_reducible rfl)
              try simp only [Act.put, List.setIfInBounds_toArray, List.set_cons_zero, List.set_cons_succ]
              refine wpAnyH_take (i := 4) (oi := { dst := some 47, op := Op.build 89 #[(0, Operand.tmp 45), (1, Operand.tmp 46)], type := 89, pos := "l1_disk.go:238", after := #[{ on := 2, ground := Ground.data }, { on := 3, ground := Ground.data }], guard := none }) (v := ?_) rfl (by kernel_rfl) (by kernel_rfl) (by kernel_rfl) (fun _ _ _ h => h) (Or.inl ⟨by rfl, ?_⟩) (by assumption) ?_
              rotate_left 1
              · intro w hSw; (try dsimp only at hSw); go_simp; try (with_reducible rfl)
              try simp only [Act.put, List.setIfInBounds_toArray, List.set_cons_zero, List.set_cons_succ]
              refine wpAnyH_take (i := 5) (oi := { dst := some 48, op := Op.fieldAddr 92 (Operand.tmp 8) 1, type := 0, pos := "l1_disk.go:238", after := #[], guard := none }) (v := ?_) rfl (by kernel_rfl) (by kernel_rfl) (by kernel_rfl) (fun _ _ _ h => h) (Or.inl ⟨by rfl, ?_⟩) (by assumption) ?_
              rotate_left 1
              · intro w hSw; (try dsimp only at hSw); go_simp; try (with_reducible rfl)
              try simp only [Act.put, List.setIfInBounds_toArray, List.set_cons_zero, List.set_cons_succ]
              refine wpAnyH_take (i := 6) (oi := { dst := some 49, op := Op.load 22 (Operand.tmp 48), type := 22, pos := "l1_disk.go:238", after := #[{ on := 5, ground := Ground.data }], guard := none }) (v := ?_) rfl (by kernel_rfl) (by kernel_rfl) (by kernel_rfl) (fun _ _ _ h => h) (Or.inl ⟨by rfl, ?_⟩) (by assumption) ?_
              rotate_left 1
              · intro w hSw; (try dsimp only at hSw); go_simp; try (with_reducible rfl)
              try simp only [Act.put, List.setIfInBounds_toArray, List.set_cons_zero, List.set_cons_succ]
              refine wpAnyH_take (i := 7) (oi := { dst := some 50, op := Op.move (Operand.tmp 9), type := 2, pos := "l1_disk.go:238", after := #[], guard := none }) (v := ?_) rfl (by kernel_rfl) (by kernel_rfl) (by kernel_rfl) (fun _ _ _ h => h) (Or.inl ⟨by rfl, ?_⟩) (by assumption) ?_
              rotate_left 1
              · intro w hSw; (try dsimp only at hSw); go_simp; try (with_reducible rfl)
              try simp only [Act.put, List.setIfInBounds_toArray, List.set_cons_zero, List.set_cons_succ]
              refine wpAnyH_take (i := 8) (oi := { dst := some 51, op := Op.binOp BinOp.mul 2 (Operand.tmp 50) (Operand.const (Value.int IntKind.i64 128)) 2, type := 2, pos := "l1_disk.go:238", after := #[{ on := 7, ground := Ground.data }], guard := none }) (v := .int .i64 ((j : Int) * 128)) rfl (by kernel_rfl) (by kernel_rfl) (by kernel_rfl) (fun _ _ _ h => h) (Or.inl ⟨by rfl, ?_⟩) (by assumption) ?_
              · intro w hSw; (try dsimp only at hSw); go_simp
              try simp only [Act.put, List.setIfInBounds_toArray, List.set_cons_zero, List.set_cons_succ]
              refine wpAnyH_take (i := 9) (oi := { dst := some 52, op := Op.move (Operand.tmp 9), type := 2, pos := "l1_disk.go:238", after := #[], guard := none }) (v := ?_) rfl (by kernel_rfl) (by kernel_rfl) (by kernel_rfl) (fun _ _ _ h => h) (Or.inl ⟨by rfl, ?_⟩) (by assumption) ?_
              rotate_left 1
              · intro w hSw; (try dsimp only at hSw); go_simp; try (with_reducible rfl)
              try simp only [Act.put, List.setIfInBounds_toArray, List.set_cons_zero, List.set_cons_succ]
              refine wpAnyH_take (i := 10) (oi := { dst := some 53, op := Op.binOp BinOp.add 2 (Operand.tmp 52) (Operand.const (Value.int IntKind.i64 1)) 2, type := 2, pos := "l1_disk.go:238", after := #[{ on := 9, ground := Ground.data }], guard := none }) (v := .int .i64 ((j : Int) + 1)) rfl (by kernel_rfl) (by kernel_rfl) (by kernel_rfl) (fun _ _ _ h => h) (Or.inl ⟨by rfl, ?_⟩) (by assumption) ?_
              · intro w hSw; (try dsimp only at hSw); go_simp
              try simp only [Act.put, List.setIfInBounds_toArray, List.set_cons_zero, List.set_cons_succ]
              refine wpAnyH_take (i := 11) (oi := { dst := some 54, op := Op.binOp BinOp.mul 2 (Operand.tmp 53) (Operand.const (Value.int IntKind.i64 128)) 2, type := 2, pos := "l1_disk.go:238", after := #[{ on := 10, ground := Ground.data }], guard := none }) (v := .int .i64 (((j : Int) + 1) * 128)) rfl (by kernel_rfl) (by kernel_rfl) (by kernel_rfl) (fun _ _ _ h => h) (Or.inl ⟨by rfl, ?_⟩) (by assumption) ?_
              · intro w hSw; (try dsimp only at hSw); go_simp
              try simp only [Act.put, List.setIfInBounds_toArray, List.set_cons_zero, List.set_cons_succ]
              refine wpAnyH_take (i := 12) (oi := { dst := some 55, op := Op.slice 22 (Operand.tmp 49) (some (Operand.tmp 51)) (some (Operand.tmp 54)) none, type := 22, pos := "l1_disk.go:238", after := #[{ on := 6, ground := Ground.data }, { on := 8, ground := Ground.data }, { on := 11, ground := Ground.data }], guard := none }) (v := .slice (some ⟨db, dof + j * 128, none⟩) 128 (pc - j * 128)) rfl (by kernel_rfl) (by kernel_rfl) (by kernel_rfl) (fun _ _ _ h => h) (Or.inl ⟨by rfl, ?_⟩) (by assumption) ?_
              · intro w hSw; (try dsimp only at hSw); go_simp; rw [if_neg (show ¬ pc = j * 128 by omega), show (j + 1) * 128 - j * 128 = 128 by omega]; rw [if_pos (show (0 : Int) ≤ ((j : Int) + 1) * 128 ∧ ((j : Int) + 1) * 128 ≤ (pc : Int) by omega), if_pos (show (0 : Int) ≤ (j : Int) * 128 ∧ (j : Int) ≤ (j : Int) + 1 by omega)]
              try simp only [Act.put, List.setIfInBounds_toArray, List.set_cons_zero, List.set_cons_succ]
              refine wpAnyH_take (i := 13) (oi := { dst := some 56, op := Op.sliceToArrayPointer 86 (Operand.tmp 55), type := 0, pos := "l1_disk.go:238", after := #[{ on := 12, ground := Ground.data }], guard := none }) (v := .pointer (some ⟨db, dof + j * 128, none⟩)) rfl (by kernel_rfl) (by kernel_rfl) (by kernel_rfl) (fun _ _ _ h => h) (Or.inl ⟨by rfl, ?_⟩) (by assumption) ?_
              · intro w hSw; (try dsimp only at hSw); have har := run_arrayAtS db (dof + j * 128) 128 (pc - j * 128) w (by omega); go_simp
              try simp only [Act.put, List.setIfInBounds_toArray, List.set_cons_zero, List.set_cons_succ]
              refine wpAnyH_take (i := 14) (oi := { dst := some 57, op := Op.load 86 (Operand.tmp 56), type := 86, pos := "l1_disk.go:238", after := #[{ on := 13, ground := Ground.data }], guard := none }) (v := .agg (u8s pgb).toArray) rfl (by kernel_rfl) (by kernel_rfl) (by kernel_rfl) (fun _ _ _ h => h) (yieldsIf_load_mid (by rfl) _ _ rfl db (dof + j * 128) (by simp [Act.eval]) (u8s pgb) _ (fun _ hS => hS.2.2) Try.underlying86 rfl hInfo) (by assumption) ?_
              try simp only [Act.put, List.setIfInBounds_toArray, List.set_cons_zero, List.set_cons_succ]
              refine wpAnyH_ready (rs := [15]) (by kernel_rfl) (by simp) ?_
              refine AllReadyH.cons (o := { dst := none, op := Op.mapUpdate 80 (Operand.tmp 43) (Operand.tmp 47) (Operand.tmp 57), type := 0, pos := "l1_disk.go:238", after := #[{ on := 0, ground := Ground.data }, { on := 4, ground := Ground.data }, { on := 14, ground := Ground.data }, { on := 0, ground := Ground.phase }, { on := 1, ground := Ground.phase }, { on := 2, ground := Ground.phase }, { on := 3, ground := Ground.phase }, { on := 4, ground := Ground.phase }, { on := 5, ground := Ground.phase }, { on := 6, ground := Ground.phase }, { on := 7, ground := Ground.phase }, { on := 8, ground := Ground.phase }, { on := 9, ground := Ground.phase }, { on := 10, ground := Ground.phase }, { on := 11, ground := Ground.phase }, { on := 12, ground := Ground.phase }, { on := 13, ground := Ground.phase }, { on := 14, ground := Ground.phase }], guard := none }) rfl (fun K hK => ?_) ?_
              rotate_left 1
              exact AllReadyH.nil
              · obtain ⟨wu, hrun, hMu, hgu⟩ := (World.ownsMap.drew HM.out).update lawPl Try.underlying80 (by unfold maxLen; omega) (keyOf_pl hnm hjw) (val := .agg (u8s pgb).toArray) hval
                have S2 : (fun w' => w'.cell? ⟨fb, 0, none⟩ = some (.string f1) ∧ w'.cell? ⟨fb, 1, none⟩ = some (.slice (some ⟨db, dof, none⟩) pn pc) ∧ w'.rangeAt db (dof + j * 128) (u8s pgb)) wu := ⟨(World.cell?_of_block (hgu.block fb (show fb < wr.heap.size by omega) (fun e => by injection e with e; omega))).trans hS0.1, (World.cell?_of_block (hgu.block fb (show fb < wr.heap.size by omega) (fun e => by injection e with e; omega))).trans hS0.2.1, fun t v ht => (World.cell?_of_block (hgu.block db (show db < wr.heap.size by omega) (fun e => by injection e with e; omega))).trans (hS0.2.2 t v ht)⟩
                go_simp
                refine hK.out _ _ S2 (fun hHeld => ?_)
                clear hK K
                try simp only [Act.put, List.setIfInBounds_toArray, List.set_cons_zero, List.set_cons_succ]
                refine wpAnyH_done (by kernel_rfl) ?_ _
                refine NoPanic.normal ?_
                have hFu : Hid (Fr (fun x => x = w2.heap.size) wf wu) := (HFr.out.trans (Fr.of_below (Below.refl _ _).drew)).trans (Fr.of_grown hgu (fun x e => by injection e with e; exact e.symm))
                have hMu2 : Hid (MapS wu w2.heap.size (q2 + 1) (D2.put (kPl f1 (j : Int)) (shD pgb))) := hMu
                have hRu : Hid (RepS (D2.put (kPl f1 (j : Int)) (shD pgb)) (pageOf (someF fs i (j + 1)))) := HSTEP.out
                clear hMu hgu hrun S2 hS0 HM HFr HRp HSTEP hval
                go_wp2
                go_roundw
                case rel => exact ⟨j + 1, q2 + 1, _, by omega, by go_num, by omega, hMu2, hRu, hFu⟩
                case measure => simp [intOf]; omega
            · obtain rfl : j = np := by omega
              have hR2 : Hid (RepS D2 (pageOf (fs.take (i + 1)))) := rep_next HI.out hil (by rw [HDL.out, ← HNP.out]; exact HRp.out)
              have hF2 : Hid (Fr (fun x => x = w2.heap.size) (w2.alloc (.map #[] 0)) wr) := hF1.out.trans HFr.out
              clear c0 c1 hbxv
              go_wp2
              go_roundw
              case rel => exact ⟨i + 1, q2, D2, by omega, by go_num, by omega, HM, hR2, hF2⟩
              case measure => simp [intOf]; omega
        · obtain rfl : i = k := by omega
          have hR3 : RepS D (pageOf fs) := by have := HRp.out; rwa [List.take_of_length_le (by rw [HFL.out]; exact Nat.le_refl _)] at this
          go_wp2
          go_ret
          exact ⟨w2.heap.size, q, D, rfl, by omega, HM.out, by omega, hR3, hbw2⟩
end Go.Proofs.Ytakdaandbdbdnaa
namespace Go.Proofs.Ytakdaandbdbdnaa
open Go.RowKit Go.Maps
set_option linter.unusedVariables false
set_option maxRecDepth 100000

theorem neq_pl (nm : ByteArray) (p p' : Int) (w : World) : (binOp .neq 89 (.agg #[.string nm, .int .i64 p]) (.agg #[.string nm, .int .i64 p'])).run Try.prog w = .ok (.bool (!(p == p'))) w := by
  have hS : Try.prog.underlying 89 = some (.struct (Try.prog.fieldsOf 89)) := by kernel_rfl
  have hp : Try.prog.stoodInHeld 89 = false := by kernel_rfl
  have u9 := Try.underlying9
  have u2 := Try.underlying2
  have a9 := Try.isAgg9
  have a2 := Try.isAgg2
  have z9 := Try.sizeOf9
  have z2 := Try.sizeOf2
  rw [run_neq_struct, show (10000 : Nat) = 9999 + 1 from rfl, run_equalIn_agg w 9999 89 _ _ hS hp]
  simp only [Program.fieldsOf, Try.underlying89]
  go_simp
  by_cases h : p = p' <;> simp [h]
def zeros : List Int := List.replicate 128 0
theorem zeros_len : zeros.length = 128 := by simp [zeros]
theorem zeros_in : ∀ x ∈ zeros, 0 ≤ x ∧ x ≤ 255 := by
  intro x hx
  have := List.eq_of_mem_replicate hx
  omega
theorem all_u8s (bs : List Int) : (u8s bs).toArray.all (·.oneCell') = true := by simp [u8s, Value.oneCell']
theorem store_new (W : World) (c : Array Value) (bs : List Int) (hc : c.size = 128) (hl : bs.length = 128) : (Instr.storeAt 86 (.pointer (some ⟨W.heap.size, 0, none⟩)) (.agg (u8s bs).toArray)).run Try.prog (W.alloc (.cells c 86)) = .ok () (W.alloc (.cells (u8s bs).toArray 86)) :=
  run_storeAt_new W 86 c (u8s bs).toArray (by rw [infoSheet]; simp [u8s, hl]) (by simp [u8s, hl, hc]) (all_u8s bs)
theorem zeroCellsN : Try.zeroCells86.size = 128 := by kernel_rfl
theorem storeCells_new (W : World) (bs : List Int) (hl : bs.length = 128) : (storeCells ⟨W.heap.size, 0, none⟩ (u8s bs)).run Try.prog (W.alloc (.cells Try.zeroCells86 86)) = .ok () (W.alloc (.cells (u8s bs).toArray 86)) := by
  have := run_storeCells_new (P := Try.prog) W 86 Try.zeroCells86 (u8s bs).toArray (by rw [infoSheet]; simp [u8s, hl]) (by rw [zeroCellsN]; simp [u8s, hl]) (all_u8s bs)
  simpa using this
theorem zeroCellsV : (Value.agg Try.zeroCells86) = sheetV zeros := by kernel_rfl
theorem Fr.late {S T : Nat → Prop} {a b c : World} (h : Fr S a b) (k : Fr T b c) (hT : ∀ g, T g → a.heap.size ≤ g) : Fr S a c :=
  ⟨k.1.trans h.1, k.2.trans h.2, k.3.trans h.3, Nat.le_trans h.size k.size, fun g hg hS => (k.block g (Nat.lt_of_lt_of_le hg h.size) (fun e => by have := hT g e; omega)).trans (h.block g hg hS)⟩
/-- Where a file has L pages, what a write at pg fills ahead of itself. -/
def fillS (S : ByteArray → Int → Option (List Int)) (nm : ByteArray) (lo pg : Nat) : ByteArray → Int → Option (List Int) := fun nm' t => if nm' = nm ∧ (lo : Int) ≤ t ∧ t < pg then some zeros else S nm' t
theorem fill_none {D : DataW Unit} {S : ByteArray → Int → Option (List Int)} {nm : ByteArray} {pg : Nat} (h : RepS D S) : RepS D (fillS S nm pg pg) := h.congr fun nm' t => by unfold fillS; rw [if_neg (fun h => by omega)]
theorem fill_stop {S : ByteArray → Int → Option (List Int)} {nm : ByteArray} {L t pg : Nat} (h : (t = pg ∨ L ≤ t)) (h2 : t ≤ L ∨ t = 0) (nm' : ByteArray) (u : Int) : fillS S nm L pg nm' u = fillS S nm t pg nm' u := by
  unfold fillS
  by_cases hn : nm' = nm
  · simp only [hn, true_and]
    by_cases h1 : (t : Int) ≤ u ∧ u < pg
    · rw [if_pos (by omega), if_pos h1]
    · rw [if_neg (by omega), if_neg h1]
  · simp only [hn, false_and, if_false]
theorem fill_step {D : DataW Unit} {S : ByteArray → Int → Option (List Int)} {nm : ByteArray} {t pg : Nat} (h : RepS D (fillS S nm (t + 1) pg)) (hD : IsMap D) (hnm : nm.size ≤ maxLen) (hp : (Lit.int .i64 (t : Int)).wf = true) (ht : t < pg) : RepS (D.put (kPl nm t) (shD zeros)) (fillS S nm t pg) :=
  (h.put hD hnm hp zeros).congr fun nm' u => by
    unfold fillS
    by_cases hn : nm' = nm
    · simp only [hn, true_and]
      by_cases h1 : u = t
      · rw [if_pos (by omega), if_pos h1]
      · rw [if_neg h1]
        by_cases h2 : (t : Int) ≤ u ∧ u < pg
        · rw [if_pos h2, if_pos (by omega)]
        · rw [if_neg h2, if_neg (by omega)]
    · simp only [hn, false_and, if_false]
/-- The number in a cell. -/
def cellN (w : World) (b o : Nat) : Nat := match w.cell? ⟨b, o, none⟩ with | some (.int _ n) => n.toNat | _ => 0
theorem guard_pl : Try.prog.eqGuardType Try.prog.depth 89 = false := by kernel_rfl
theorem look_pl {w : World} {mb q : Nat} {D : DataW Unit} {S : ByteArray → Int → Option (List Int)} {nm : ByteArray} {pg : Int} (hM : MapS w mb q D) (hR : RepS D S) (hnm : nm.size ≤ maxLen) (hp : (Lit.int .i64 pg).wf = true) (hbs : ∀ bs, S nm pg = some bs → bs.length = 128 ∧ ∀ x ∈ bs, 0 ≤ x ∧ x ≤ 255) :
    (∃ bs, S nm pg = some bs ∧ (Instr.lookup 80 (.map (some mb)) (.agg #[.string nm, .int .i64 pg]) true).run Try.prog w = .ok (.tuple #[.agg (u8s bs).toArray, .bool true]) w) ∨ (S nm pg = none ∧ (Instr.lookup 80 (.map (some mb)) (.agg #[.string nm, .int .i64 pg]) true).run Try.prog w = .ok (.tuple #[.agg (u8s zeros).toArray, .bool false]) w) := by
  obtain ⟨v, pl, hrun, hv⟩ := World.ownsMap.look_ok hM lawPl Try.underlying80 (zeroSheet w) (sheetR_mk zeros_len zeros_in) (keyOf_pl hnm hp)
  obtain ⟨bs, h1, h2, rfl, h4⟩ := sheetR_inv hv
  simp only [Prod.mk.injEq] at h4
  have hat := hR nm pg hnm hp
  cases hS : S nm pg with
  | some cs =>
    left
    rw [hS] at hat
    have e : Maps.has D (kPl nm pg) = true := has_true_of_atKey hat
    rw [e] at hrun
    obtain ⟨c1, c2⟩ := hbs cs hS
    have : bs = cs := shD_inj (by omega) h2 c2 (by rw [← h4.1]; exact hat _)
    subst this
    exact ⟨bs, rfl, hrun⟩
  | none =>
    right
    rw [hS] at hat
    have e : Maps.has D (kPl nm pg) = false := has_false_of_atKey hat
    rw [e] at hrun
    have : bs = zeros := shD_inj (by rw [h1, zeros_len]) h2 zeros_in (by rw [← h4.1]; exact hat _)
    subst this
    exact ⟨rfl, hrun⟩
set_option maxHeartbeats 3200000 in
theorem fillBefore_any (nm : ByteArray) (hnm : nm.size ≤ maxLen) (pg L mb q : Nat) (D : DataW Unit) (S : ByteArray → Int → Option (List Int)) (w : World) (hpg : pg ≤ 1048576) (hq : q ≤ 1073741824) (hM : MapS w mb q D) (hR : RepS D S) (hL : ∀ t : Nat, (∃ bs, S nm t = some bs) ↔ t < L) (hbs : ∀ t bs, S nm t = some bs → bs.length = 128 ∧ ∀ x ∈ bs, 0 ≤ x ∧ x ≤ 255) :
    Calls Try.prog 82 #[.map (some mb), .agg #[.string nm, .int .i64 pg]] w fun e w' => e = .returned (.tuple #[]) ∧ ∃ (q' : Nat) (D' : DataW Unit), q' ≤ q + pg ∧ MapS w' mb q' D' ∧ RepS D' (fillS S nm L pg) ∧ Fr (fun x => x = mb) w w' := by
  have hmb : mb < w.heap.size := World.ownsMap.lt hM
  have hb0 : Below w.heap.size w ((w.alloc (.cells #[.string nm, .int .i64 pg] 89)).alloc (.cells #[.string nm, .int .i64 0] 89)) := ((Below.refl _ _).alloc (Nat.le_refl _) _).alloc (by simp) _
  have k0 : ((w.alloc (.cells #[.string nm, .int .i64 pg] 89)).alloc (.cells #[.string nm, .int .i64 0] 89)).heap[w.heap.size]? = some (.cells #[.string nm, .int .i64 pg] 89) := by rw [heap_alloc_old _ _ (by simp)]; exact heap_alloc_new _ _
  have k1 : ((w.alloc (.cells #[.string nm, .int .i64 pg] 89)).alloc (.cells #[.string nm, .int .i64 0] 89)).heap[w.heap.size + 1]? = some (.cells #[.string nm, .int .i64 0] 89) := by have := heap_alloc_new (w.alloc (.cells #[.string nm, .int .i64 pg] 89)) (.cells #[.string nm, .int .i64 0] 89); simpa using this
  have hM0 : Hid (MapS ((w.alloc (.cells #[.string nm, .int .i64 pg] 89)).alloc (.cells #[.string nm, .int .i64 0] 89)) mb q D) := World.ownsMap.alloc (World.ownsMap.alloc hM _) _
  have HR : Hid (RepS D S) := hR
  have HL : Hid (∀ t : Nat, (∃ bs, S nm t = some bs) ↔ t < L) := hL
  have HBS : Hid (∀ t bs, S nm t = some bs → bs.length = 128 ∧ ∀ x ∈ bs, 0 ≤ x ∧ x ≤ 255) := hbs
  have F0 : Hid (Fr (fun x => x = mb) w ((w.alloc (.cells #[.string nm, .int .i64 pg] 89)).alloc (.cells #[.string nm, .int .i64 0] 89))) := Fr.of_below hb0
  clear hM hR hL hbs
  go_enter Try.func82, Try.ntmps82
  go_wp2
  have hsz0 : w.heap.size + 1 < ((w.alloc (.cells #[.string nm, .int .i64 pg] 89)).alloc (.cells #[.string nm, .int .i64 0] 89)).heap.size := (Array.getElem?_eq_some_iff.1 k1).1
  generalize ((w.alloc (.cells #[.string nm, .int .i64 pg] 89)).alloc (.cells #[.string nm, .int .i64 0] 89)) = W0 at hb0 k0 k1 hM0 F0 hsz0 ⊢
  go_loopw [5, 6] (fun _ _ wr => ∃ (t q2 : Nat) (D2 : DataW Unit), t ≤ pg ∧ (t = pg ∨ L ≤ t) ∧ q2 + t ≤ q + pg ∧ Hid (MapS wr mb q2 D2) ∧ Hid (RepS D2 (fillS S nm t pg)) ∧ Hid (Fr (fun x => x = mb) w wr) ∧ Hid (wr.heap[w.heap.size]? = some (.cells #[.string nm, .int .i64 t] 89)) ∧ Hid (wr.heap[w.heap.size + 1]? = some (.cells #[.string nm, .int .i64 0] 89))) (fun _ _ wr => cellN wr w.heap.size 1)
  case atStart => exact ⟨pg, q, D, Nat.le_refl _, .inl rfl, Nat.le_refl _, hM0, fill_none HR.out, F0, k0, k1⟩
  case round =>
    obtain ⟨t, q2, D2, ht, htL, hq2, HM, HRp, HFr, HK0, HK1⟩ := hrel
    obtain ⟨c0, c1⟩ := box_two2D HK0.out
    obtain ⟨d0, d1⟩ := box_two2D HK1.out
    have fz := box_thawC HK0.out
    have hl1 : w.heap.size + 1 < wr.heap.size := (Array.getElem?_eq_some_iff.1 HK1.out).1
    have hl0 : w.heap.size < wr.heap.size := by omega
    have hne := neq_pl nm (t : Int) 0
    have hgd := guard_pl
    by_cases h0 : t = 0
    · subst h0
      have R0 : RepS D2 (fillS S nm L pg) := HRp.out.congr fun nm' u => fill_stop htL (.inr rfl) nm' u
      have hne0 : ∀ w : World, (binOp .neq 89 (.agg #[.string nm, .int .i64 0]) (.agg #[.string nm, .int .i64 0])).run Try.prog w = .ok (.bool false) w := fun w => neq_pl nm 0 0 w
      clear hne
      go_wp2
      exact bodyPost_end (v := .tuple #[]) (by simp [results, Try.results82, go_sem]) rfl ⟨rfl, q2, D2, by omega, HM.out, R0, HFr.out⟩
    · obtain ⟨s, rfl⟩ : ∃ s, t = s + 1 := ⟨t - 1, by omega⟩
      have hne1 : ∀ w : World, (binOp .neq 89 (.agg #[.string nm, .int .i64 (s + 1 : Nat)]) (.agg #[.string nm, .int .i64 0])).run Try.prog w = .ok (.bool true) w := fun w => by rw [hne w, show (((s + 1 : Nat) : Int) == 0) = false from beq_eq_false_iff_ne.2 (by omega)]; rfl
      have hset := fr_setCell wr w.heap.size 1 (.int .i64 (s : Int))
      have hMs : MapS (wr.setCell ⟨w.heap.size, 1, none⟩ (.int .i64 (s : Int))) mb q2 D2 := World.ownsMap.setCell HM.out (by show mb ≠ w.heap.size; omega) _
      have HB1 : Hid ((wr.setCell ⟨w.heap.size, 1, none⟩ (.int .i64 (s : Int))).heap[w.heap.size]? = some (.cells #[.string nm, .int .i64 (s : Int)] 89)) := heap_setCell_at HK0.out 1 (.int .i64 (s : Int))
      have HB2 : Hid ((wr.setCell ⟨w.heap.size, 1, none⟩ (.int .i64 (s : Int))).heap[w.heap.size + 1]? = some (.cells #[.string nm, .int .i64 0] 89)) := (hset.block _ hl1 (by omega)).trans HK1.out
      have hsw : (Lit.int .i64 (s : Int)).wf = true := WalkArith.wf_i64 (by omega)
      have hSs : fillS S nm (s + 1) pg nm (s : Int) = S nm (s : Int) := by unfold fillS; rw [if_neg (fun h => by omega)]
      have hlook := look_pl (nm := nm) (pg := (s : Int)) hMs HRp.out hnm hsw (fun bs hb => by rw [hSs] at hb; exact HBS.out _ _ hb)
      clear hne
      rcases hlook with ⟨bs, hb, hlk⟩ | ⟨hb, hlk⟩
      · rw [hSs] at hb
        have hsL : s < L := (HL.out s).1 ⟨bs, hb⟩
        have R0 : RepS D2 (fillS S nm L pg) := HRp.out.congr fun nm' u => fill_stop htL (.inl (by omega)) nm' u
        have hbl := (HBS.out _ _ hb).1
        have hul : (u8s bs).length = 128 := by simp [u8s, hbl]
        have hst := storeCells_new (wr.setCell ⟨w.heap.size, 1, none⟩ (.int .i64 (s : Int))) bs hbl
        rw [show (wr.setCell ⟨w.heap.size, 1, none⟩ (.int .i64 (s : Int))).heap.size = wr.heap.size by simp [World.setCell]] at hst
        go_wp2
        exact bodyPost_ret (v := .tuple #[]) (by simp [results, Try.results82, go_sem]) rfl ⟨rfl, q2, D2, by omega, World.ownsMap.alloc hMs _, R0, (HFr.out.late hset (fun g e => by omega)).trans (Fr.of_below ((Below.refl _ _).alloc (Nat.le_refl _) _))⟩
      · rw [hSs] at hb
        have hsL : L ≤ s := Decidable.byContradiction fun h => by
          obtain ⟨bs, hbs⟩ := (HL.out s).2 (by omega)
          rw [hb] at hbs; cases hbs
        have hul : (u8s zeros).length = 128 := by simp [u8s, zeros_len]
        have hst := storeCells_new (wr.setCell ⟨w.heap.size, 1, none⟩ (.int .i64 (s : Int))) zeros zeros_len
        rw [show (wr.setCell ⟨w.heap.size, 1, none⟩ (.int .i64 (s : Int))).heap.size = wr.heap.size by simp [World.setCell]] at hst
        have hMa : MapS ((wr.setCell ⟨w.heap.size, 1, none⟩ (.int .i64 (s : Int))).alloc (.cells (u8s zeros).toArray 86)) mb q2 D2 := World.ownsMap.alloc hMs _
        have hal : Below (wr.setCell ⟨w.heap.size, 1, none⟩ (.int .i64 (s : Int))).heap.size (wr.setCell ⟨w.heap.size, 1, none⟩ (.int .i64 (s : Int))) ((wr.setCell ⟨w.heap.size, 1, none⟩ (.int .i64 (s : Int))).alloc (.cells (u8s zeros).toArray 86)) := (Below.refl _ _).alloc (Nat.le_refl _) _
        obtain ⟨wu, hrun, hMu, hgu⟩ := World.ownsMap.update hMa lawPl Try.underlying80 (by unfold maxLen; omega) (keyOf_pl hnm hsw) (val := .agg Try.zeroCells86) (by rw [zeroCellsV]; exact sheetR_mk zeros_len zeros_in)
        have hsz1 : (wr.setCell ⟨w.heap.size, 1, none⟩ (.int .i64 (s : Int))).heap.size = wr.heap.size := by simp [World.setCell]
        have e0 := (hal.block w.heap.size (by rw [hsz1]; omega)).trans HB1.out
        have e1 := (hal.block (w.heap.size + 1) (by rw [hsz1]; omega)).trans HB2.out
        have hza := hal.size
        obtain ⟨g0, g1⟩ := box_two2D e0
        have U0 : Hid (wu.heap[w.heap.size]? = some (.cells #[.string nm, .int .i64 (s : Int)] 89)) := (hgu.block w.heap.size (by omega) (fun e => by injection e with e; omega)).trans e0
        have U1 : Hid (wu.heap[w.heap.size + 1]? = some (.cells #[.string nm, .int .i64 0] 89)) := (hgu.block (w.heap.size + 1) (by omega) (fun e => by injection e with e; omega)).trans e1
        have UF : Hid (Fr (fun x => x = mb) w wu) := ((HFr.out.late hset (fun g e => by omega)).trans (Fr.of_below hal)).trans (Fr.of_grown hgu (fun x e => by injection e with e; exact e.symm))
        have UM : Hid (MapS wu mb (q2 + 1) (D2.put (kPl nm (s : Int)) (shD zeros))) := hMu
        have UR : Hid (RepS (D2.put (kPl nm (s : Int)) (shD zeros)) (fillS S nm s pg)) := fill_step HRp.out (World.ownsMap.isMap HM.out) hnm hsw (by omega)
        have HC1 : Hid (cellN wr w.heap.size 1 = s + 1) := by show _ = _; unfold cellN; rw [c1]; rfl
        clear hMu hgu hal e0 e1 hMa hMs
        go_wp2
        refine ⟨⟨s, q2 + 1, _, by omega, .inr hsL, by omega, UM, UR, UF, U0, U1⟩, ?_⟩
        rw [HC1.out, show cellN wu w.heap.size 1 = s by unfold cellN; rw [(box_two2D U0.out).2]; rfl]
        omega
end Go.Proofs.Ytakdaandbdbdnaa
namespace Go.Proofs.Ytakdaandbdbdnaa
open Go.RowKit Go.Maps
set_option linter.unusedVariables false
set_option maxRecDepth 100000

theorem infoU8 : (Try.prog.info? 5).map (·.size) = some 1 := by kernel_rfl
def oldS (S : ByteArray → Int → Option (List Int)) (nm : ByteArray) (pg : Int) : List Int := (S nm pg).getD zeros
/-- What a write of the first ca bytes of ds makes of a file of L pages. -/
def writeS (S : ByteArray → Int → Option (List Int)) (nm : ByteArray) (L pg : Nat) (ds : List Int) (ca : Nat) : ByteArray → Int → Option (List Int) :=
  fun nm' t => if nm' = nm ∧ t = (pg : Int) then some (ds.take ca ++ (oldS S nm pg).drop ca) else fillS S nm L pg nm' t
theorem look_plF {w : World} {mb q : Nat} {D : DataW Unit} {S : ByteArray → Int → Option (List Int)} {nm : ByteArray} {pg : Int} (hM : MapS w mb q D) (hR : RepS D S) (hnm : nm.size ≤ maxLen) (hp : (Lit.int .i64 pg).wf = true) (hbs : ∀ bs, S nm pg = some bs → bs.length = 128 ∧ ∀ x ∈ bs, 0 ≤ x ∧ x ≤ 255) :
    (Instr.lookup 80 (.map (some mb)) (.agg #[.string nm, .int .i64 pg]) false).run Try.prog w = .ok (.agg (u8s (oldS S nm pg)).toArray) w ∧ (oldS S nm pg).length = 128 ∧ ∀ x ∈ oldS S nm pg, 0 ≤ x ∧ x ≤ 255 := by
  obtain ⟨v, pl, hrun, hv⟩ := World.ownsMap.lookup hM lawPl Try.underlying80 (zeroSheet w) (sheetR_mk zeros_len zeros_in) (keyOf_pl hnm hp)
  obtain ⟨bs, h1, h2, rfl, h4⟩ := sheetR_inv hv
  simp only [Prod.mk.injEq] at h4
  have hat := hR nm pg hnm hp (shD zeros)
  unfold oldS
  cases hS : S nm pg with
  | some cs =>
    rw [hS] at hat
    obtain ⟨c1, c2⟩ := hbs cs hS
    have : bs = cs := shD_inj (by omega) h2 c2 (by rw [← h4.1]; exact hat)
    subst this
    exact ⟨hrun, c1, c2⟩
  | none =>
    rw [hS] at hat
    have : bs = zeros := shD_inj (by rw [h1, zeros_len]) h2 zeros_in (by rw [← h4.1]; exact hat)
    subst this
    exact ⟨hrun, zeros_len, zeros_in⟩
theorem splice_zero (old ds : List Int) (ca : Nat) (h : ca ≤ ds.length) : splice (u8s old) 0 (u8s (ds.take ca)) = u8s (ds.take ca ++ old.drop ca) := by
  have e : (u8s (ds.take ca)).length = ca := by simp [u8s]; omega
  unfold splice
  rw [e]
  simp only [List.take_zero, List.nil_append, Nat.zero_add, u8s, List.map_append, List.map_drop]
theorem infoSh : (Try.prog.info? 86).map (·.size) = some 128 := by kernel_rfl
theorem lenSheet : Try.prog.arrayLen 86 = 128 := by kernel_rfl
theorem arrSheet : Try.prog.underlying 86 = some (.array (Try.prog.arrayLen 86) (Try.prog.elem 86)) := by kernel_rfl
theorem elemSheet : Try.prog.elem 86 = 5 := by kernel_rfl
theorem run_sliceS (g ca : Nat) (w : World) (h : ca ≤ 128) : (Instr.sliceAt 86 (.pointer (some ⟨g, 0, none⟩)) none (some (.int .i64 (ca : Int))) none).run Try.prog w = .ok (.slice (some ⟨g, 0, none⟩) ca 128) w := by
  have h2 : (ca : Int) ≤ Try.prog.arrayLen 86 := by rw [lenSheet]; omega
  rw [run_sliceAt_array_h w 86 _ arrSheet .i64 (ca : Int) (by omega) h2, elemSheet, show (sizeOf 5).run Try.prog w = .ok 1 w by kernel_rfl]
  simp [slicedAt, go_sem, Addr.add]
theorem MapS.to {w w' : World} {mb k : Nat} {D : DataW Unit} (h : MapS w mb k D) (hb : w'.heap[mb]? = w.heap[mb]?) : MapS w' mb k D := by
  obtain ⟨es, clock, hb', F, hs, hD⟩ := h
  exact ⟨es, clock, hb.trans hb', F, hs, hD⟩
theorem write_rep {D : DataW Unit} {S : ByteArray → Int → Option (List Int)} {nm : ByteArray} {L pg : Nat} {ds : List Int} {ca : Nat} (h : RepS D (fillS S nm L pg)) (hD : IsMap D) (hnm : nm.size ≤ maxLen) (hp : (Lit.int .i64 (pg : Int)).wf = true) : RepS (D.put (kPl nm pg) (shD (ds.take ca ++ (oldS S nm pg).drop ca))) (writeS S nm L pg ds ca) :=
  (h.put hD hnm hp _).congr fun nm' t => rfl
set_option maxHeartbeats 3200000 in
theorem write_any (nm : ByteArray) (hnm : nm.size ≤ maxLen) (pg ca L mb q : Nat) (pa : Option Addr) (pc : Nat) (ds : List Int) (D : DataW Unit) (S : ByteArray → Int → Option (List Int)) (w : World) (A B : Nat) (hB : B ≤ w.heap.size) (hby : BytesAt w A B pa 128 pc ds) (hmbA : mb < A ∨ B ≤ mb) (hca : ca ≤ 128) (hpg : pg ≤ 1048576) (hq : q ≤ 1073741824) (hM : MapS w mb q D) (hR : RepS D S) (hL : ∀ t : Nat, (∃ bs, S nm t = some bs) ↔ t < L) (hbs : ∀ t bs, S nm t = some bs → bs.length = 128 ∧ ∀ x ∈ bs, 0 ≤ x ∧ x ≤ 255) :
    Calls Try.prog 51 #[.map (some mb), .agg #[.string nm, .int .i64 pg, .slice pa 128 pc], .int .i64 ca] w fun e w' => e = .returned (.tuple #[]) ∧ ∃ (q' : Nat) (D' : DataW Unit), q' ≤ q + pg + 1 ∧ MapS w' mb q' D' ∧ RepS D' (writeS S nm L pg ds ca) ∧ Fr (fun x => x = mb) w w' := by
  have hmb : mb < w.heap.size := World.ownsMap.lt hM
  have hb0 : Below w.heap.size w ((w.alloc (.cells #[.string nm, .int .i64 pg, .slice pa 128 pc] 71)).alloc (.cells #[.string nm, .int .i64 pg] 89)) := ((Below.refl _ _).alloc (Nat.le_refl _) _).alloc (by simp) _
  have k0 : ((w.alloc (.cells #[.string nm, .int .i64 pg, .slice pa 128 pc] 71)).alloc (.cells #[.string nm, .int .i64 pg] 89)).heap[w.heap.size]? = some (.cells #[.string nm, .int .i64 pg, .slice pa 128 pc] 71) := by rw [heap_alloc_old _ _ (by simp)]; exact heap_alloc_new _ _
  have k1 : ((w.alloc (.cells #[.string nm, .int .i64 pg, .slice pa 128 pc] 71)).alloc (.cells #[.string nm, .int .i64 pg] 89)).heap[w.heap.size + 1]? = some (.cells #[.string nm, .int .i64 pg] 89) := by have := heap_alloc_new (w.alloc (.cells #[.string nm, .int .i64 pg, .slice pa 128 pc] 71)) (.cells #[.string nm, .int .i64 pg] 89); simpa using this
  have hM0 : MapS ((w.alloc (.cells #[.string nm, .int .i64 pg, .slice pa 128 pc] 71)).alloc (.cells #[.string nm, .int .i64 pg] 89)) mb q D := World.ownsMap.alloc (World.ownsMap.alloc hM _) _
  have hsz0 : ((w.alloc (.cells #[.string nm, .int .i64 pg, .slice pa 128 pc] 71)).alloc (.cells #[.string nm, .int .i64 pg] 89)).heap.size = w.heap.size + 2 := by simp
  have hpw : (Lit.int .i64 (pg : Int)).wf = true := WalkArith.wf_i64 (by omega)
  go_enter Try.func51, Try.ntmps51
  go_wp2_with fail
  generalize ((w.alloc (.cells #[.string nm, .int .i64 pg, .slice pa 128 pc] 71)).alloc (.cells #[.string nm, .int .i64 pg] 89)) = W0 at hb0 k0 k1 hM0 hsz0 ⊢
  refine (fillBefore_any nm hnm pg L mb q D S W0 hpg hq hM0 hR hL hbs).mono ?_
  rintro e w4 ⟨rfl, q4, D4, hq4, hM4, hR4, hF4⟩
  have hs4 := hF4.size
  have j0 := (hF4.block w.heap.size (by omega) (by omega)).trans k0
  have j1 := (hF4.block (w.heap.size + 1) (by omega) (by omega)).trans k1
  obtain ⟨c0, c1, c2⟩ := box_threeC j0
  obtain ⟨d0, d1⟩ := box_two2D j1
  have hSp : fillS S nm L pg nm (pg : Int) = S nm (pg : Int) := by unfold fillS; rw [if_neg (fun h => by omega)]
  obtain ⟨hlk, hol, hor⟩ := look_plF (nm := nm) (pg := (pg : Int)) hM4 hR4 hnm hpw (fun bs hb => by rw [hSp] at hb; exact hbs _ _ hb)
  have hoe : oldS (fillS S nm L pg) nm (pg : Int) = oldS S nm (pg : Int) := by unfold oldS; rw [hSp]
  rw [hoe] at hlk hol hor
  obtain ⟨old, hold⟩ : ∃ old, old = oldS S nm (pg : Int) := ⟨_, rfl⟩
  rw [← hold] at hlk hol hor
  have HOLD : Hid (old = oldS S nm (pg : Int)) := hold
  have hul : (u8s old).length = 128 := by simp [u8s, hol]
  have hst := storeCells_new w4 old hol
  have hl0 : w.heap.size < w4.heap.size := by omega
  have hl1 : w.heap.size + 1 < w4.heap.size := by omega
  clear hold hoe hSp k0 k1 hM0
  go_wp2_with fail
  have hal : Below w4.heap.size w4 (w4.alloc (.cells (u8s old).toArray 86)) := (Below.refl _ _).alloc (Nat.le_refl _) _
  have hg5 := heap_alloc_new w4 (.cells (u8s old).toArray 86)
  have i0 := (hal.block w.heap.size hl0).trans j0
  have i1 := (hal.block (w.heap.size + 1) hl1).trans j1
  have hM5 : MapS (w4.alloc (.cells (u8s old).toArray 86)) mb q4 D4 := World.ownsMap.alloc hM4 _
  have hF5 : Fr (fun x => x = mb) w (w4.alloc (.cells (u8s old).toArray 86)) := ((Fr.of_below hb0).trans hF4).trans (Fr.of_below hal)
  clear c0 c1 c2 d0 d1 hlk hst hF4 hal j0 j1 hM4
  generalize w4.alloc (.cells (u8s old).toArray 86) = w5 at hg5 i0 i1 hM5 hF5 ⊢
  have hl5 : w4.heap.size < w5.heap.size := (Array.getElem?_eq_some_iff.1 hg5).1
  have S5 : w5.cell? ⟨w.heap.size, 2, none⟩ = some (.slice pa 128 pc) := (box_threeC i0).2.2
  have hdl : ds.length = 128 := hby.1
  have hcl : (u8s (ds.take ca)).length = Nat.min 128 ca := by simp only [u8s, List.length_map, List.length_take, hdl]; show min ca 128 = min 128 ca; omega
  have hcf : 0 + (u8s (ds.take ca)).length ≤ (u8s old).length := by rw [hul]; simp [u8s]; omega
  have hc1 : ∀ v ∈ u8s (ds.take ca), v.oneCell' = true := by intro v hv; simp only [u8s, List.mem_map] at hv; obtain ⟨x, _, rfl⟩ := hv; rfl
  have hcp : 0 < (u8s (ds.take ca)).length → (some (⟨w4.heap.size, 0, none⟩ : Addr)) = some ⟨w4.heap.size, 0, none⟩ ∧ ∃ ad, pa = some ad ∧ ∀ j v, (u8s (ds.take ca))[j]? = some v → w5.drew.cell? (ad.add j) = some v := by
    intro _
    obtain ⟨b, off, rfl, hb, hc⟩ := hby.2.2.2.2.1 (by omega)
    refine ⟨rfl, _, rfl, fun j v hv => ?_⟩
    rw [Addr.add_mid]
    have hj : j < ca := by have := (List.getElem?_eq_some_iff.1 hv).1; simp [u8s] at this; omega
    have h1 : w5.cell? ⟨b, off + j, none⟩ = w.cell? ⟨b, off + j, none⟩ := World.cell?_of_block (hF5.block b (by omega) (by omega))
    show w5.cell? _ = _
    rw [h1, hc j (by omega), ← hv]
    have hjd : j < ds.length := by omega
    simp only [u8s, List.getElem?_map, List.getElem?_take_of_lt hj, List.getElem?_eq_getElem hjd, Option.map_some, List.getD, Option.getD_some]
  refine wp_region_noPanic ?_
  refine wp_region_held_drew (S := (fun w' => w'.cell? ⟨w.heap.size, 2, none⟩ = some (.slice pa 128 pc))) (by kernel_rfl) ?_ (fun hHeld => ?_)
  · exact S5
  refine wpAnyH_take (i := 0) (oi := { dst := some 19, op := Op.move (Operand.tmp 2), type := 2, pos := "l1_disk.go:249", after := #[], guard := none }) (v := ?_) rfl (by kernel_rfl) (by kernel_rfl) (by kernel_rfl) (fun _ _ _ h => h) (Or.inl ⟨by rfl, ?_⟩) (by assumption) ?_
  rotate_left 1
  · intro w hSw; (try dsimp only at hSw); go_simp; try (with_reducible rfl)
  try simp only [Act.put, List.setIfInBounds_toArray, List.set_cons_zero, List.set_cons_succ]
  refine wpAnyH_take (i := 1) (oi := { dst := some 20, op := Op.slice 86 (Operand.tmp 7) none (some (Operand.tmp 19)) none, type := 22, pos := "l1_disk.go:249", after := #[{ on := 0, ground := Ground.data }], guard := none }) (v := .slice (some ⟨w4.heap.size, 0, none⟩) ca 128) rfl (by kernel_rfl) (by kernel_rfl) (by kernel_rfl) (fun _ _ _ h => h) (Or.inl ⟨by rfl, ?_⟩) (by assumption) ?_
  · intro w hSw; (try dsimp only at hSw); have hsl := run_sliceS w4.heap.size ca w hca; go_simp
  try simp only [Act.put, List.setIfInBounds_toArray, List.set_cons_zero, List.set_cons_succ]
  refine wpAnyH_take (i := 2) (oi := { dst := some 21, op := Op.fieldAddr 71 (Operand.tmp 4) 2, type := 0, pos := "l1_disk.go:249", after := #[], guard := none }) (v := ?_) rfl (by kernel_rfl) (by kernel_rfl) (by kernel_rfl) (fun _ _ _ h => h) (Or.inl ⟨by rfl, ?_⟩) (by assumption) ?_
  rotate_left 1
  · intro w hSw; (try dsimp only at hSw); go_simp; try (with_reducible rfl)
  try simp only [Act.put, List.setIfInBounds_toArray, List.set_cons_zero, List.set_cons_succ]
  refine wpAnyH_take (i := 3) (oi := { dst := some 22, op := Op.load 22 (Operand.tmp 21), type := 22, pos := "l1_disk.go:249", after := #[{ on := 2, ground := Ground.data }], guard := none }) (v := ?_) rfl (by kernel_rfl) (by kernel_rfl) (by kernel_rfl) (fun _ _ _ h => h) (Or.inl ⟨by rfl, ?_⟩) (by assumption) ?_
  rotate_left 1
  · intro w hSw; (try dsimp only at hSw); go_simp; try (with_reducible rfl)
  try simp only [Act.put, List.setIfInBounds_toArray, List.set_cons_zero, List.set_cons_succ]
  refine wpAnyH_ready (rs := [4]) (by kernel_rfl) (by simp) ?_
  refine AllReadyH.cons (o := { dst := some 23, op := Op.call { callee := Callee.builtin Builtin.copy, args := #[Operand.tmp 20, Operand.tmp 22], argTypes := #[22, 22] }, type := 3, pos := "l1_disk.go:249", after := #[{ on := 1, ground := Ground.data }, { on := 3, ground := Ground.data }], guard := none }) rfl (fun K hK => ?_) ?_
  rotate_left 1
  exact AllReadyH.nil
  · refine step_copy_splice rfl (.tmp 20) (.tmp 22) 22 22 rfl 5 Try.underlying22 infoU8 _ _ ca 128 128 pc (by simp [Act.eval]) (by simp [Act.eval]) w4.heap.size 0 (u8s old) 86 hg5 (u8s (ds.take ca)) hcl hcp hcf hc1 w4.heap.size w5 ((Below.refl _ w5).drew) (by omega) ?_
    intro w6 hg6 hb6
    have S6 : (fun w' => w'.cell? ⟨w.heap.size, 2, none⟩ = some (.slice pa 128 pc)) w6 := (World.cell?_of_block (hb6.block w.heap.size (by omega))).trans S5
    refine hK.out _ _ S6 (fun hHeld => ?_)
    clear hK K
    try simp only [Act.put, List.setIfInBounds_toArray, List.set_cons_zero, List.set_cons_succ]
    refine wpAnyH_done (by kernel_rfl) ?_ _
    refine NoPanic.normal ?_
    have hsp : splice (u8s old) 0 (u8s (ds.take ca)) = u8s (ds.take ca ++ old.drop ca) := splice_zero old ds ca (by omega)
    have HG6 := hg6.out
    rw [hsp] at HG6
    obtain ⟨nb, hnb⟩ : ∃ nb, nb = ds.take ca ++ old.drop ca := ⟨_, rfl⟩
    rw [← hnb] at HG6
    have hnl : nb.length = 128 := by rw [hnb, List.length_append, List.length_take, List.length_drop, hdl, hol]; omega
    have hnr : ∀ x ∈ nb, 0 ≤ x ∧ x ≤ 255 := by
      intro x hx
      rw [hnb] at hx
      rcases List.mem_append.1 hx with h1 | h1
      · exact hby.2.2.2.1 x (List.mem_of_mem_take h1)
      · exact hor x (List.mem_of_mem_drop h1)
    have HNB : Hid (nb = ds.take ca ++ old.drop ca) := hnb
    have hs6 := hb6.size
    have i6 := (hb6.block (w.heap.size + 1) (by omega)).trans i1
    have HG : w6.heap[w4.heap.size]? = some (.cells (u8s nb).toArray 86 (0, 0)) := HG6
    have hrg : w6.rangeAt w4.heap.size 0 (u8s nb) := fun j v hv => by rw [Nat.zero_add, cell_of_row w6 w4.heap.size j _ _ _ HG]; simpa using hv
    obtain ⟨d0, d1⟩ := box_two2D i6
    have hmb4 : mb < w4.heap.size := by omega
    have hM6 : MapS w6 mb q4 D4 := hM5.to (hb6.block mb hmb4)
    have hF6 : Fr (fun x => x = mb) w w6 := ⟨hb6.os.trans hF5.os, hb6.tape.trans hF5.tape, hb6.output.trans hF5.output, Nat.le_trans hF5.size hs6, fun g hg hS => (hb6.block g (by omega)).trans (hF5.block g hg hS)⟩
    obtain ⟨wu, hrun, hMu, hgu⟩ := World.ownsMap.update hM6 lawPl Try.underlying80 (by unfold maxLen; omega) (keyOf_pl hnm hpw) (val := .agg (u8s nb).toArray) (sheetR_mk hnl hnr)
    have UF : Fr (fun x => x = mb) w wu := hF6.trans (Fr.of_grown hgu (fun x e => by injection e with e; exact e.symm))
    have UR : Hid (RepS (D4.put (kPl nm (pg : Int)) (shD nb)) (writeS S nm L pg ds ca)) := by
      have := write_rep (ds := ds) (ca := ca) hR4 (World.ownsMap.isMap hM6) hnm hpw
      rw [← HOLD.out, ← HNB.out] at this
      exact this
    clear hgu hF6 hM6 hM5 hF5 hg6 hb6 HG6 hsp hHeld i0 i1 hg5 hcp hcf hc1 hcl S5 S6 hb0 hnb
    go_wp2_with fail
    rename_i hKK
    refine wp_load_mid 86 (.tmp 7) rfl w4.heap.size 0 (by simp [Act.eval]) (u8s nb) _ hrg Try.underlying86 rfl (by rw [infoSh]; simp [u8s, hnl]) (hKK _ _ ?_)
    clear hKK
    simp only [Act.put, List.setIfInBounds_toArray, List.set_cons_zero, List.set_cons_succ]
    go_wp2_with fail
    exact bodyPost_end (v := .tuple #[]) (by simp [results, Try.results51, go_sem]) rfl ⟨rfl, q4 + 1, _, by omega, hMu, UR.out, UF⟩
end Go.Proofs.Ytakdaandbdbdnaa
namespace Go.Proofs.Ytakdaandbdbdnaa
open Go.RowKit Go.Maps
set_option linter.unusedVariables false
set_option maxRecDepth 100000

/-- The bytes of the file of a name. -/
def dataN (fs : List PF) (nm : ByteArray) : List Int := if findN fs nm < fs.length then (fs.getD (findN fs nm) (ByteArray.empty, [])).2 else []
theorem find_at (p : PF → Bool) : ∀ fl : List PF, fl.find? p = if fl.findIdx p < fl.length then some (fl.getD (fl.findIdx p) (ByteArray.empty, [])) else none
  | [] => rfl
  | f :: r => by
    rw [List.find?_cons, List.findIdx_cons]
    cases hp : p f with
    | true => simp
    | false =>
      simp only [cond_false, List.length_cons]
      rw [find_at p r]
      by_cases h : r.findIdx p < r.length
      · rw [if_pos h, if_pos (by omega), List.getD_cons_succ]
      · rw [if_neg h, if_neg (by omega)]
theorem pageOf_data (fl : List PF) (nm : ByteArray) (pg : Int) : pageOf fl nm pg = pageF (dataN fl nm) pg := by
  unfold pageOf dataN
  rw [find_at]
  show (match (if findN fl nm < fl.length then some (fl.getD (findN fl nm) (ByteArray.empty, [])) else none) with | some f => pageF f.2 pg | none => none) = _
  by_cases h : findN fl nm < fl.length
  · rw [if_pos h, if_pos h]
  · rw [if_neg h, if_neg h]
    exact (pageF_none pg (fun _ => trivial)).symm
theorem dataN_of {fs : List PF} (h : Inv fs) {i : Nat} (hi : i < fs.length) : dataN fs (fs.getD i (ByteArray.empty, [])).1 = (fs.getD i (ByteArray.empty, [])).2 := by
  unfold dataN
  rw [findN_of h hi, if_pos hi]
theorem dataN_none {fs : List PF} {nm : ByteArray} (h : ¬ findN fs nm < fs.length) : dataN fs nm = [] := by unfold dataN; rw [if_neg h]
theorem dataN_len {fs : List PF} (h : Inv fs) (nm : ByteArray) : (dataN fs nm).length % 128 = 0 ∧ lenI fs nm = ((dataN fs nm).length : Int) / 128 := by
  unfold dataN lenI
  by_cases hf : findN fs nm < fs.length
  · rw [if_pos hf, if_pos hf]; exact ⟨(h.pg _ hf).2, rfl⟩
  · rw [if_neg hf, if_neg hf]; exact ⟨rfl, rfl⟩
theorem withName_data2 (fs : List PF) (nm : ByteArray) : ((withName fs nm).getD (findN (withName fs nm) nm) (ByteArray.empty, [])).2 = dataN fs nm := by
  by_cases h : findN fs nm < fs.length
  · have : withName fs nm = fs := by unfold withName; rw [if_pos h]
    rw [this]; unfold dataN; rw [if_pos h]
  · rw [dataN_none h]
    have := withName_data fs nm
    rw [if_neg h] at this
    exact List.length_eq_zero_iff.1 this
theorem doP_data {fs : List PF} {nm : ByteArray} {pg : Nat} {bs : List Int} (h : Inv fs) (x : ByteArray) : dataN (doP fs nm pg bs) x = if x = nm then doData (dataN fs nm) pg bs else dataN fs x := by
  obtain ⟨m1, m2, m3⟩ := withName_mem (nm := nm) h
  have hi' := doP_inv (nm := nm) (pg := pg) (bs := bs) h
  have hw := findN_with fs nm
  by_cases hx : x = nm
  · rw [if_pos hx]
    subst hx
    have hn : ((doP fs x pg bs).getD (findN (withName fs x) x) (ByteArray.empty, [])).1 = x := by rw [doP_name _ hw]; exact findN_name hw
    have e1 := dataN_of hi' (i := findN (withName fs x) x) (by rw [doP_len2]; exact hw)
    rw [hn] at e1
    rw [e1, doP_get, if_pos rfl, withName_data2]
  · rw [if_neg hx]
    by_cases hf : findN fs x < fs.length
    · obtain ⟨k, hk, hkx⟩ := findN_iff.1 hf
      obtain ⟨i, hil, hie⟩ := m3 k hk
      have hne : i ≠ findN (withName fs nm) nm := fun e => hx (by rw [← hkx, ← hie, e]; exact findN_name hw)
      have e1 := dataN_of hi' (i := i) (by rw [doP_len2]; exact hil)
      rw [doP_get, if_neg hne, hie, hkx] at e1
      have e2 := dataN_of h hk
      rw [hkx] at e2
      rw [e1, e2]
    · rw [dataN_none hf, dataN_none (fun hd => ((doP_found h x).1 hd).elim hx hf)]
theorem overTo_get (l : List Int) (off : Nat) (bs : List Int) (k j : Nat) (hk : off + k ≤ l.length) : (overTo l off bs k).getD j 0 = if off ≤ j ∧ j < off + k then bs.getD (j - off) 0 else l.getD j 0 := by
  induction k with
  | zero => rw [if_neg (by omega)]; rfl
  | succ k ih =>
    have ih := ih (by omega)
    show ((overTo l off bs k).set (off + k) (bs.getD k 0)).getD j 0 = _
    by_cases e : j = off + k
    · subst e
      rw [if_pos (by omega), show off + k - off = k by omega]
      simp only [List.getD, List.getElem?_set, overTo_len]
      rw [if_pos trivial, if_pos (by omega)]
      rfl
    · have : ((overTo l off bs k).set (off + k) (bs.getD k 0)).getD j 0 = (overTo l off bs k).getD j 0 := by
        simp only [List.getD, List.getElem?_set]
        rw [if_neg (fun e2 => e e2.symm)]
      rw [this, ih]
      by_cases h2 : off ≤ j ∧ j < off + k
      · rw [if_pos h2, if_pos (by omega)]
      · rw [if_neg h2, if_neg (by omega)]
theorem doData_get {l : List Int} {pg : Nat} {bs : List Int} (hb : bs.length = 128) (j : Nat) : (doData l pg bs).getD j 0 = if pg * 128 ≤ j ∧ j < pg * 128 + 128 then bs.getD (j - pg * 128) 0 else l.getD j 0 := by
  unfold doData
  rw [hb, overTo_get _ _ _ _ _ (by rw [extZ_len]; omega)]
  congr 1
  unfold extZ
  by_cases h : j < l.length
  · simp only [List.getD, List.getElem?_append_left h]
  · simp only [List.getD, List.getElem?_append_right (Nat.le_of_not_lt h), List.getElem?_eq_none (Nat.le_of_not_lt h), List.getElem?_replicate]
    split <;> rfl
theorem part_eq {a b : List Int} {i : Nat} (ha : i + 128 ≤ a.length) (hb : i + 128 ≤ b.length) (h : ∀ j, i ≤ j → j < i + 128 → a.getD j 0 = b.getD j 0) : (a.drop i).take 128 = (b.drop i).take 128 := by
  apply List.ext_getElem (by simp; omega)
  intro j h1 h2
  simp at h1
  have := h (i + j) (by omega) (by omega)
  simp only [List.getD, List.getElem?_eq_getElem (show i + j < a.length by omega), List.getElem?_eq_getElem (show i + j < b.length by omega), Option.getD_some] at this
  simpa using this
theorem doData_page {l : List Int} {pg : Nat} {bs : List Int} (hl : l.length % 128 = 0) (hp : (pg : Int) ≤ (l.length : Int) / 128) (hb : bs.length = 128) (t : Int) : pageF (doData l pg bs) t = if t = (pg : Int) then some bs else pageF l t := by
  have hlen := doData_len l pg bs
  unfold pageF
  by_cases ht : t = (pg : Int)
  · subst ht
    rw [if_pos rfl, if_pos (by rw [hlen]; omega)]
    congr 1
    apply List.ext_getElem (by simp only [List.length_take, List.length_drop, hlen, hb, Int.toNat_natCast]; omega)
    intro j h1 h2
    have hg := doData_get (l := l) (pg := pg) hb (pg * 128 + j)
    rw [if_pos (by omega), show pg * 128 + j - pg * 128 = j by omega] at hg
    simp only [List.getD, List.getElem?_eq_getElem h2, List.getElem?_eq_getElem (show pg * 128 + j < (doData l pg bs).length by rw [hlen]; omega), Option.getD_some] at hg
    simpa using hg
  · rw [if_neg ht]
    by_cases hc : 0 ≤ t ∧ t * 128 + 128 ≤ l.length
    · rw [if_pos hc, if_pos (by rw [hlen]; omega)]
      obtain ⟨u, rfl⟩ := Int.eq_ofNat_of_zero_le hc.1
      congr 1
      refine part_eq (by rw [hlen]; simp only [Int.toNat_natCast]; omega) (by simp only [Int.toNat_natCast]; omega) (fun j h1 h2 => ?_)
      rw [doData_get hb, if_neg (fun h => ?_)]
      simp only [Int.toNat_natCast] at h1 h2
      omega
    · rw [if_neg hc, if_neg (by rw [hlen]; omega)]
/-- All bytes are bytes. -/
def ByteF (fs : List PF) : Prop := ∀ nm, ∀ x ∈ dataN fs nm, 0 ≤ x ∧ x ≤ 255
theorem ByteF.do {fs : List PF} {nm : ByteArray} {pg : Nat} {bs : List Int} (h : Inv fs) (hf : ByteF fs) (hb : ∀ x ∈ bs, 0 ≤ x ∧ x ≤ 255) : ByteF (doP fs nm pg bs) := by
  intro x
  rw [doP_data h]
  by_cases hx : x = nm
  · rw [if_pos hx]; exact overTo_byte _ _ _ _ (extZ_byte _ _ (hf nm)) hb
  · rw [if_neg hx]; exact hf x
theorem page_byte {fs : List PF} (hf : ByteF fs) (nm : ByteArray) (t : Int) (bs : List Int) (h : pageOf fs nm t = some bs) : bs.length = 128 ∧ ∀ x ∈ bs, 0 ≤ x ∧ x ≤ 255 := by
  rw [pageOf_data] at h
  obtain ⟨h1, h2⟩ := pageF_len h
  exact ⟨h1, fun x hx => hf nm x (h2 x hx)⟩
theorem page_there {fs : List PF} (h : Inv fs) (nm : ByteArray) (t : Nat) : (∃ bs, pageOf fs nm t = some bs) ↔ t < (lenI fs nm).toNat := by
  obtain ⟨h1, h2⟩ := dataN_len h nm
  rw [pageOf_data, h2]
  unfold pageF
  by_cases hc : 0 ≤ (t : Int) ∧ (t : Int) * 128 + 128 ≤ (dataN fs nm).length
  · rw [if_pos hc]; exact ⟨fun _ => by omega, fun _ => ⟨_, rfl⟩⟩
  · rw [if_neg hc]; exact ⟨fun e => (by obtain ⟨_, e⟩ := e; cases e), fun e => by omega⟩
/-- A whole write, done to the map of sheets, is the write done to the files. -/
theorem do_write {fs : List PF} {nm : ByteArray} {pg : Nat} {bs : List Int} (h : Inv fs) (hp : (pg : Int) ≤ lenI fs nm) (hb : bs.length = 128) (nm' : ByteArray) (t : Int) : pageOf (doP fs nm pg bs) nm' t = writeS (pageOf fs) nm (lenI fs nm).toNat pg bs 128 nm' t := by
  obtain ⟨h1, h2⟩ := dataN_len h nm
  unfold writeS
  have ho : (oldS (pageOf fs) nm pg).drop 128 = [] := by
    apply List.drop_eq_nil_of_le
    unfold oldS
    cases hS : pageOf fs nm pg with
    | some cs => rw [pageOf_data] at hS; exact Nat.le_of_eq (pageF_len hS).1
    | none => exact Nat.le_of_eq zeros_len
  rw [pageOf_data, doP_data h, ho, List.append_nil, List.take_of_length_le (by omega)]
  by_cases hn : nm' = nm
  · rw [if_pos hn, doData_page h1 (by rw [← h2]; exact hp) hb]
    by_cases ht : t = (pg : Int)
    · rw [if_pos ht, if_pos ⟨hn, ht⟩]
    · rw [if_neg ht, if_neg (fun e => ht e.2)]
      unfold fillS
      rw [if_neg (fun e => by omega), pageOf_data, hn]
  · rw [if_neg hn, if_neg (fun e => hn e.1)]
    unfold fillS
    rw [if_neg (fun e => hn e.1), pageOf_data]
end Go.Proofs.Ytakdaandbdbdnaa
