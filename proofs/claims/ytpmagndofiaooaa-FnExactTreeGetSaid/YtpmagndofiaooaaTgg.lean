import Derived.Test.YtpmagndofiaooaaTgf
import Derived.Test.YtpmagndofiaooaaTll
namespace Go.Proofs.Ytpmagndofiaooaa
open Go.RowKit
set_option linter.unusedVariables false
set_option linter.unusedSimpArgs false
set_option maxRecDepth 100000

/-- append of a leaf's slots to a list of one's own. -/
theorem wpList_append_slT {P : Program} (w : World) {ops : Array Oper} {rest : List Oper} {o : Oper} {a : Act} {Q : Exit → Act → World → Prop} (hgd : o.guard = none) (s x : Operand) (t : TypeId)
    (ho : o.op = .call { callee := .builtin .append, args := #[s, x], argTypes := #[t, t] })
    (base : Nat) (e : TypeId) (i : TypeInfo) (z : Value) (bytes : Nat) (ht : P.underlying t = some (.slice e)) (hi : P.info? e = some i) (hz : i.zero = some z)
    (hsize : i.size = 3) (hby : i.bytes = bytes) (hzs : z.cells.size = 3)
    (v : Value) (n : Nat) (xs : List Value) (hs : a.eval s = v) (hown : w.ownsRow base e 3 v n xs)
    {Pb : Nat → Prop} {ad : Option Addr} {m c : Nat} {zs : List (ByteArray × ByteArray × Int)} (hx : a.eval x = .slice ad m c) (hr : SlAt w Pb ad m c zs)
    (h63 : n + m ≤ maxLen) (hbytes : (n + m) * bytes ≤ 140737488355328) (hbase : base ≤ w.heap.size)
    (h : ∀ v' w', w'.ownsRow base e 3 v' (n + m) (xs ++ rowsOf slCells zs) → w.grownBy w' v.ownBlock → wpList P ops Q rest (a.put o.dst v') w') : wpList P ops Q (o :: rest) a w := by
  obtain ⟨hl, hc1, hc2, hc⟩ := hr
  cases ad with
  | none =>
    have h0 : m = 0 := by
      rcases Nat.eq_zero_or_pos m with h | h
      · exact h
      · obtain ⟨b, e, _⟩ := hc h; cases e
    subst h0
    have hy : zs = [] := List.eq_nil_of_length_eq_zero hl
    subst hy
    refine wpList_plain hgd fun _ hK => ?_
    have hrun := run_append_zeroT (P := P) w base t o.type e i 3 ht hi _ n xs hown c
    unfold Oper.wp execOp
    simp only [ho, resolve, invoke, builtin, Sem.run_bind, Sem.run_pure, Result.andThen_ok, List.map_toArray, List.map_cons, List.map_nil, hs, hx, hrun]
    exact hK _ _ (h v w (by simpa [rowsOf] using hown) ⟨rfl, rfl, rfl, Nat.le_refl _, fun _ _ _ => rfl⟩)
  | some ad =>
    refine wpList_append_ownD w hgd s x t ho base e i z 3 bytes ht hi hz hsize hby hzs (by omega) v n xs hs hown ad m c (rowsOf slCells zs) hx (by rw [rowsOf_length sl3, hl]) (fun j u hj => ?_) (fun u hu => ?_) h63 hbytes hbase (fun v' w' h1 h2 _ => h v' w' h1 h2)
    · have hjl : j < m * 3 := by
        have := (List.getElem?_eq_some_iff.1 hj).1
        rwa [rowsOf_length sl3, hl] at this
      obtain ⟨b, e, hb, hcc⟩ := hc (by omega)
      cases e
      rw [addr0_add, hcc j hjl, hj]
    · simp only [rowsOf, List.mem_flatMap, slCells] at hu
      obtain ⟨y, _, hy⟩ := hu
      simp at hy
      rcases hy with rfl | rfl | rfl <;> rfl
/-- What slots answers at a node: the list that is handed in, with the node's own behind it. -/
def SObs (base : Nat) (w : World) (zs : List (ByteArray × ByteArray × Int)) (ty : TypeId) (v : Value) : Prop :=
  (∀ w, (nilAhead 259 ty v "loop.example/s02098/impl.slots").run Try.prog w = .ok (some false) w) ∧ ∃ f r, (∀ w, (method 259 ty v "loop.example/s02098/impl.slots").run Try.prog w = .ok (f, r) w) ∧ (∀ x w, (callFunc f #[r, x]).run Try.prog w = .ok (.enter f #[r, x]) w) ∧
    ∀ (w' : World), Below base w w' → ∀ (oa : Option Addr) (on oc : Nat) (xs : List Value), w'.ownsRow base 86 3 (.slice oa on oc) on xs → on + zs.length ≤ 100000 → base ≤ w'.heap.size → Calls Try.prog f #[r, .slice oa on oc] w' fun e w2 => ∃ oa' oc', e = .returned (.slice oa' (on + zs.length) oc') ∧ w2.ownsRow base 86 3 (.slice oa' (on + zs.length) oc') (on + zs.length) (xs ++ rowsOf slCells zs) ∧ Fr (fun k => base ≤ k) w' w2
set_option maxHeartbeats 1000000 in
theorem leafSlots_g {base : Nat} {w : World} {P : Nat → Prop} {t : T} {L : Nat} {a : Option Addr} {n c : Nat} (h : GLeaf w P t L a n c) (hP : ∀ b, P b → b < base) (w' : World) (hb : Below base w w') (oa : Option Addr) (on oc : Nat) (xs : List Value) (hown : w'.ownsRow base 86 3 (.slice oa on oc) on xs) (hm : on + n ≤ 100000) (hbs : base ≤ w'.heap.size) :
    Calls Try.prog 104 #[.pointer (some ⟨L, 0, none⟩), .slice oa on oc] w' fun e w2 => ∃ oa' oc', e = .returned (.slice oa' (on + n) oc') ∧ w2.ownsRow base 86 3 (.slice oa' (on + n) oc') (on + n) (xs ++ rowsOf slCells (t.keys.zip (t.vals.zip t.over))) ∧ Fr (fun k => base ≤ k) w' w2 := by
  have hLb := hP L h.at'
  have hbox : w'.heap[L]? = some (.cells #[.int .i64 t.page, .slice a n c] 98) := (hb.block L hLb).trans h.box
  obtain ⟨c0, c1⟩ := box_twoG hbox
  have hlt : L < w'.heap.size := by omega
  have hrow : SlAt w' P a n c (t.keys.zip (t.vals.zip t.over)) := h.row.keep (fun b hb2 => hb.block b (hP b hb2)) (fun b h => h)
  have hlow := fun g hg => (hown.lt g hg).1
  obtain ⟨i0, hi, hz0, hz1, hz2⟩ := info_parts info_slot
  clear h hbox
  generalize t.keys.zip (t.vals.zip t.over) = zs at *
  generalize t.page = pg at *
  go_enter Try.func104, Try.ntmps104
  go_wp2_with (at_builtin; refine wpList_append_slT _ rfl _ _ 89 rfl base 86 i0 _ 40 Try.underlying89 hi hz0 hz1 hz2 rfl (.slice oa on oc) on xs rfl hown rfl hrow (by unfold maxLen; omega) (by omega) hbs ?_; intro v' w2 h1 h2)
  obtain ⟨oa', oc', rfl⟩ := own_shape h1
  go_ret
  exact ⟨oa', oc', rfl, h1, Fr.of_grown h2 hlow⟩
set_option maxHeartbeats 2000000 in
theorem innerSlots_g {base : Nat} {w : World} {P : Nat → Prop} {t : T} {L : Nat} {a : Option Addr} {n c : Nat} {us : Nat → Value} (h : GInner w P t L a n c us) (hP : ∀ b, P b → b < base) (hk : ∀ i k, t.kids[i]? = some k → ∃ ty v, us i = .iface ty v ∧ SObs base w k.slots ty v) (w' : World) (hb : Below base w w') (oa : Option Addr) (on oc : Nat) (xs : List Value) (hown : w'.ownsRow base 86 3 (.slice oa on oc) on xs) (hm : on + ((t.kids.map T.slots).flatten).length ≤ 100000) (hbs : base ≤ w'.heap.size) :
    Calls Try.prog 119 #[.pointer (some ⟨L, 0, none⟩), .slice oa on oc] w' fun e w2 => ∃ oa' oc', e = .returned (.slice oa' (on + ((t.kids.map T.slots).flatten).length) oc') ∧ w2.ownsRow base 86 3 (.slice oa' (on + ((t.kids.map T.slots).flatten).length) oc') (on + ((t.kids.map T.slots).flatten).length) (xs ++ rowsOf slCells (t.kids.map T.slots).flatten) ∧ Fr (fun k => base ≤ k) w' w2 := by
  have hLb := hP L h.at'
  have hbox : w'.heap[L]? = some (.cells #[.int .i64 t.page, .slice a n c] 101) := (hb.block L hLb).trans h.box
  obtain ⟨c0, c1⟩ := box_twoG hbox
  have hlt : L < w'.heap.size := by omega
  have HN : Hid (n = t.kids.length) := h.len.1
  have hn63 := Nat.le_trans h.len.2.1 h.len.2.2
  unfold maxLen at hn63
  have HROW : Hid (∀ wr, Fr (fun k => base ≤ k) w' wr → ∀ i, i < n → ∃ b, a = some ⟨b, 0, none⟩ ∧ b < wr.heap.size ∧ wr.cell? ⟨b, i, none⟩ = some (us i)) := fun wr hf i hi => by
    obtain ⟨b, e, hpb, hc⟩ := h.row (by omega)
    have := hP b hpb
    have hcell : wr.cell? ⟨b, i, none⟩ = some (us i) := by
      rw [World.cell?_of_block (w := w) (a := ⟨b, i, none⟩) ((hf.block b (by omega) (by omega)).trans (hb.block b this))]
      exact hc i hi
    exact ⟨b, e, lt_of_cellG hcell, hcell⟩
  have HK : Hid (∀ i k, t.kids[i]? = some k → ∃ ty v, us i = .iface ty v ∧ SObs base w k.slots ty v) := hk
  obtain ⟨tot, htot⟩ : ∃ tot, (t.kids.map T.slots).flatten = tot := ⟨_, rfl⟩
  have HTOT : Hid ((t.kids.map T.slots).flatten = tot) := htot
  rw [htot] at hm ⊢
  have HB : Hid (Below base w w') := hb
  clear h hk hbox htot hb
  generalize t.page = pg at *
  go_enter Try.func119, Try.ntmps119
  go_wp2_with fail
  clear c0 c1
  go_loopw [1, 12] (fun o i wr => ∃ (j m : Nat) (va : Option Addr) (vc : Nat), j ≤ n ∧ i = .int .i64 j ∧ o = .slice va m vc ∧ Hid (m = on + (((t.kids.map T.slots).take j).flatten).length) ∧ wr.ownsRow base 86 3 (.slice va m vc) m (xs ++ rowsOf slCells ((t.kids.map T.slots).take j).flatten) ∧ Fr (fun k => base ≤ k) w' wr) (fun _ i _ => n - (intOf i).toNat)
  case atStart => exact ⟨0, on, oa, oc, Nat.zero_le _, rfl, rfl, by show _ = _; simp, by simpa [rowsOf] using hown, Fr.refl _ _⟩
  case round =>
    clear hown
    obtain ⟨j, m, va, vc, hj, rfl, rfl, HM, hown, hfr⟩ := hrel
    by_cases hlt2 : j < n
    · obtain ⟨b, rfl, hbl, hcell⟩ := HROW.out wr hfr j hlt2
      obtain ⟨k, hki⟩ : ∃ k, t.kids[j]? = some k := ⟨_, List.getElem?_eq_getElem (by have := HN.out; omega)⟩
      obtain ⟨ty, v, hu, ha, f, r, hme, hcf, hcall⟩ := HK.out j k hki
      rw [hu] at hcell
      have hft : ((t.kids.map T.slots).take (j + 1)).flatten = ((t.kids.map T.slots).take j).flatten ++ k.slots := by
        obtain ⟨hj2, e⟩ := List.getElem?_eq_some_iff.1 hki
        rw [List.take_succ_eq_append_getElem (by simpa using hj2), List.flatten_append]
        simp [e]
      have hfl := flat_take_le (t.kids.map T.slots) (j + 1)
      have hbd : m + k.slots.length ≤ 100000 := by
        rw [hft, List.length_append, HTOT.out] at hfl
        have := HM.out
        omega
      have hcall2 := hcall wr (HB.out.trans (hfr.below hbs (fun g e => e))) va m vc _ hown hbd (by have := hfr.size; omega)
      have HFT : Hid _ := hft
      have hcf2 := hcf (.slice va m vc)
      clear hft hfl hcall hown hu hcf
      go_wp2_with fail
      refine hcall2.mono ?_
      rintro e w2 ⟨va', vc', rfl, hown2, hfr2⟩
      have hown3 : w2.ownsRow base 86 3 (.slice va' (m + k.slots.length) vc') (m + k.slots.length) (xs ++ rowsOf slCells ((t.kids.map T.slots).take (j + 1)).flatten) := by
        rw [HFT.out, rowsOf_append, ← List.append_assoc]
        exact hown2
      have HM2 : Hid (m + k.slots.length = on + (((t.kids.map T.slots).take (j + 1)).flatten).length) := by
        show _ = _
        rw [HFT.out, List.length_append]
        have := HM.out
        omega
      have hfr3 := hfr.trans hfr2
      clear hcall2 hown2 HM hfr hfr2 HFT
      generalize k.slots.length = kl at *
      go_wp2_with fail
      go_roundw
      case rel => exact ⟨j + 1, m + kl, va', vc', by omega, by go_num, rfl, HM2, hown3, hfr3⟩
      case measure => simp [intOf]; omega
    · have HE : Hid (((t.kids.map T.slots).take j).flatten = tot) := by
        show _ = _
        rw [← HTOT.out, List.take_of_length_le (by simp; have := HN.out; omega)]
      rw [HE.out] at hown HM
      have hmm : m = on + tot.length := HM.out
      clear HM
      subst hmm
      go_wp2_with fail
      go_ret
      exact ⟨va, vc, rfl, hown, hfr⟩
theorem GIs.slots {base : Nat} {w : World} {P : Nat → Prop} (hP : ∀ b, P b → b < base) : ∀ (t : T) (ty : TypeId) (v : Value), Shape t → GIs w P t (.iface ty v) → SObs base w t.slots ty v := by
  intro t
  induction t using T.ind with
  | h t ih =>
    intro ty v hs h
    rw [shape_eq] at hs
    cases hl : t.leaf
    · obtain ⟨L, a, n, c, us, e, hG⟩ := h.inner hl
      cases e
      have hsl : t.slots = (t.kids.map T.slots).flatten := by rw [T.slots_eq, if_neg (by simp [hl]), List.nil_append]
      rw [hsl]
      refine ⟨fun w => by kernel_rfl, 119, .pointer (some ⟨L, 0, none⟩), fun w => by kernel_rfl, fun x w => by kernel_rfl, fun w' hb oa on oc xs hown hm hbs => ?_⟩
      refine innerSlots_g hG hP (fun i k hi => ?_) w' hb oa on oc xs hown hm hbs
      have hkm : k ∈ t.kids := List.mem_of_getElem? hi
      have hK := hG.kid i k hkm hi
      obtain ⟨ty', v', hu⟩ := hK.shape
      rw [hu] at hK
      exact ⟨ty', v', hu, ih k hkm ty' v' (hs.2 k hkm) hK⟩
    · obtain ⟨L, a, n, c, e, hG⟩ := h.leaf hl
      cases e
      have hsl : t.slots = t.keys.zip (t.vals.zip t.over) := by rw [T.slots_eq, if_pos hl, hs.1 hl]; simp
      rw [hsl]
      have hln : (t.keys.zip (t.vals.zip t.over)).length = n := hG.row.1
      refine ⟨fun w => by kernel_rfl, 104, .pointer (some ⟨L, 0, none⟩), fun w => by kernel_rfl, fun x w => by kernel_rfl, fun w' hb oa on oc xs hown hm hbs => ?_⟩
      rw [hln] at hm ⊢
      exact leafSlots_g hG hP w' hb oa on oc xs hown hm hbs
end Go.Proofs.Ytpmagndofiaooaa
