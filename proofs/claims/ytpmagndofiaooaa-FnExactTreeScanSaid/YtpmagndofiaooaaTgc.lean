import Derived.Test.YtpmagndofiaooaaTgb
import Derived.Test.YtpmagndofiaooaaTgm
import Derived.Test.YtpmagndofiaooaaAp2
import Derived.Deep.RegionHeld3
import Derived.Deep.DeepCutAuto
import Derived.Deep.QuietTactic
namespace Go.Proofs.Ytpmagndofiaooaa
open Go.RowKit
set_option linter.unusedVariables false
set_option linter.unusedSimpArgs false
set_option maxRecDepth 100000

/-- What growing answers. -/
def GrowAns (w : World) (G : Nat) (a : Option Addr) (n c : Nat) (res : Option (T × Nat × (Int → Bool))) (e : Ending) (w' : World) : Prop :=
  (res = none → e = .returned (.tuple #[.nilIface, .bool false])) ∧ (∀ t nx' met', res = some (t, nx', met') → ∃ u, e = .returned (.tuple #[u, .bool true]) ∧ GM w' (fun b => w.heap.size ≤ b ∧ b < w'.heap.size) t u ∧ GrAt w' G a n c nx' met') ∧ Fr (fun k => k = G) w w'
theorem info_slot : (Try.prog.info? 86).map (fun i => (i.zero, i.size, i.bytes)) = some (some (.agg #[.string ByteArray.empty, .string ByteArray.empty, .int .i64 0]), 3, 40) := by kernel_rfl
theorem cell_three_newT (w : World) (a b c : Value) (t : TypeId) : ∀ j u, [a, b, c][j]? = some u → (w.alloc (.cells #[a, b, c] t)).cell? ((⟨w.heap.size, 0, none⟩ : Addr).add j) = some u := by
  intro j u h
  match j, h with
  | 0, h => simpa [Addr.add] using h
  | 1, h => simpa [Addr.add] using h
  | 2, h => simpa [Addr.add] using h
/-- append to a slice of one's own, as one step of a region that draws, and where the answer lies. -/
theorem step_append_G {P : Program} {ops : Array Oper} {o : Oper} {a : Act} {w : World} {K : Act → World → Prop} {Q : Exit → Act → World → Prop} {E : Prop}
    (hgd : o.guard = none) (s x : Operand) (t : TypeId) (ho : o.op = .call { callee := .builtin .append, args := #[s, x], argTypes := #[t, t] })
    (base : Nat) (e : TypeId) (i : TypeInfo) (z : Value) (size bytes : Nat) (ht : P.underlying t = some (.slice e)) (hi : P.info? e = some i) (hz : i.zero = some z)
    (hsize : i.size = size) (hby : i.bytes = bytes) (hzs : z.cells.size = size) (hsz : 0 < size)
    (v : Value) (n : Nat) (xs : List Value) (hs : a.eval s = v) (hown : w.ownsRow base e size v n xs)
    (ad : Addr) (m c : Nat) (news : List Value) (hx : a.eval x = .slice (some ad) m c) (hl : news.length = m * size) (hnews : ∀ j u, news[j]? = some u → w.cell? (ad.add j) = some u) (h1 : ∀ u ∈ news, u.oneCell' = true)
    (h63 : n + m ≤ maxLen) (hbytes : (n + m) * bytes ≤ 140737488355328) (hbase : base ≤ w.heap.size)
    (h : ∀ v' w', w'.ownsRow base e size v' (n + m) (xs ++ news) → w.grownBy w' v.ownBlock → (v'.ownBlock = v.ownBlock ∨ ∀ g, v'.ownBlock = some g → w.heap.size ≤ g) → K (a.put o.dst v') w') :
    if Region.wanted o (yielded ops a.tmps) = true then Oper.wp P o a w K Q else E := by
  rw [if_pos (by simp [Region.wanted, hgd])]
  obtain ⟨v', w', hr, h2, h3, h4⟩ := run_append_ownD (P := P) w base t o.type e i z size bytes ht hi hz hsize hby hzs hsz v n xs hown ad m c news hl hnews h1 h63 hbytes hbase
  unfold Oper.wp execOp
  simp only [ho, resolve, invoke, builtin, Sem.run_bind, Sem.run_pure, Result.andThen_ok, List.map_toArray, List.map_cons, List.map_nil, hs, hx, hr]
  exact h v' w' h2 h3 h4
/-- The state while a leaf grows. -/
structure LSt (w wr : World) (N G : Nat) (fb : Array Value) (p : Int) (a : Option Addr) (n c nx : Nat) (met : Int → Bool) (ra : Option Addr) (rc : Nat) (zs : List (ByteArray × ByteArray × Int)) : Prop where
  sz : w.heap.size = N
  fb : wr.heap[N]? = some (.cells fb 92)
  lb : wr.heap[N + 1]? = some (.cells #[.int .i64 p, .slice ra zs.length rc] 98)
  gr : GrAt wr G a n c nx met
  row : wr.ownsRow (N + 2) 86 3 (.slice ra zs.length rc) zs.length (rowsOf slCells zs)
  fr : Fr (fun k => k = G) w wr
  glt : G < N
theorem LSt.lt {w wr : World} {N G : Nat} {fb : Array Value} {p : Int} {a : Option Addr} {n c nx : Nat} {met : Int → Bool} {ra : Option Addr} {rc : Nat} {zs : List (ByteArray × ByteArray × Int)} (h : LSt w wr N G fb p a n c nx met ra rc zs) : N + 1 < wr.heap.size := (Array.getElem?_eq_some_iff.1 h.lb).1
theorem LSt.go {w wr w1 : World} {N G : Nat} {fb : Array Value} {p : Int} {a : Option Addr} {n c nx : Nat} {met m1 : Int → Bool} {ra : Option Addr} {rc : Nat} {zs : List (ByteArray × ByteArray × Int)} (h : LSt w wr N G fb p a n c nx met ra rc zs) (hf : Fr (fun k => k = G) wr w1) (hg : GrAt w1 G a n c nx m1) : LSt w w1 N G fb p a n c nx m1 ra rc zs := by
  have l := h.lt
  have g := h.glt
  exact ⟨h.sz, (hf.block N (by omega) (by omega)).trans h.fb, (hf.block (N + 1) (by omega) (by omega)).trans h.lb, hg, owns_fr h.row hf (fun g' hg' e => by have := (h.row.lt g' hg').1; omega), h.fr.trans hf, h.glt⟩
theorem LSt.below {w wr w1 : World} {N G : Nat} {fb : Array Value} {p : Int} {a : Option Addr} {n c nx : Nat} {met : Int → Bool} {ra : Option Addr} {rc : Nat} {zs : List (ByteArray × ByteArray × Int)} (h : LSt w wr N G fb p a n c nx met ra rc zs) (hb : Below wr.heap.size wr w1) : LSt w w1 N G fb p a n c nx met ra rc zs :=
  h.go (Fr.of_below hb) (h.gr.keep (hb.block G h.gr.lt))
theorem rowsOf_snocG {α : Type} (cs : α → List Value) (xs : List α) (y : α) : rowsOf cs (xs ++ [y]) = rowsOf cs xs ++ cs y := by simp [rowsOf]
theorem LSt.push {w wr w4 : World} {N G : Nat} {fb : Array Value} {p : Int} {a : Option Addr} {n c nx : Nat} {met : Int → Bool} {ra : Option Addr} {rc : Nat} {zs : List (ByteArray × ByteArray × Int)} (h : LSt w wr N G fb p a n c nx met ra rc zs) {z : ByteArray × ByteArray × Int} {v' : Value} (hown : w4.ownsRow (N + 2) 86 3 v' (zs.length + 1) (rowsOf slCells zs ++ slCells z)) (hgr : wr.grownBy w4 (Value.slice ra zs.length rc).ownBlock) :
    ∃ ra' rc', v' = .slice ra' (zs.length + 1) rc' ∧ LSt w (w4.setCell ⟨N + 1, 1, none⟩ v') N G fb p a n c nx met ra' rc' (zs ++ [z]) ∧ w4.heap[N + 1]? = some (.cells #[.int .i64 p, .slice ra zs.length rc] 98) := by
  obtain ⟨ra', rc', rfl⟩ := own_shape hown
  have hz : (zs ++ [z]).length = zs.length + 1 := by simp
  have l := h.lt
  have g := h.glt
  have hs := h.sz
  have hst := fr_setT w4 (N + 1) 1 (.slice ra' (zs.length + 1) rc')
  have hlow : ∀ k, k < N + 2 → w4.heap[k]? = wr.heap[k]? := fun k hk => hgr.block k (by omega) (fun e => by have := (h.row.lt k e.symm).1; omega)
  have hs4 := hgr.size
  refine ⟨ra', rc', rfl, ⟨h.sz, (hst.block N (by omega) (by omega)).trans ((hlow N (by omega)).trans h.fb), ?_, h.gr.keep ((hst.block G (by omega) (by omega)).trans (hlow G (by omega))), ?_, ?_, h.glt⟩, (hlow (N + 1) (by omega)).trans h.lb⟩
  · have := heap_setT ((hlow (N + 1) (by omega)).trans h.lb) 1 (.slice ra' (zs.length + 1) rc')
    rw [hz]
    simpa using this
  · rw [hz, rowsOf_snocG]
    exact owns_fr hown hst (fun g' hg' e => by have := (hown.lt g' hg').1; omega)
  · have hf := h.fr
    have hsz := hf.size
    exact ⟨hst.os.trans (hgr.os.trans hf.os), hst.tape.trans (hgr.tape.trans hf.tape), hst.output.trans (hgr.output.trans hf.output), by have := hst.size; omega, fun k hk1 hk2 => (hst.block k (by omega) (by omega)).trans ((hlow k (by omega)).trans (hf.block k hk1 hk2))⟩
/-- A leaf's growing, plain. -/
def leafRes (x : TN) (nx : Nat) (met : Int → Bool) : Option (T × Nat × (Int → Bool)) :=
  if 4 < x.keys.length ∨ x.vals.length ≠ x.keys.length ∨ x.over.length ≠ x.keys.length ∨ 0 < x.kids.length then none
  else match meetL x.page (x.vals.zip x.over) met with
    | none => none
    | some m' => some (⟨true, x.page, x.keys, x.vals, x.over, []⟩, nx, m')
theorem box3w' {w : World} {N : Nat} {v0 v1 v2 : Value} {t : TypeId} (h : w.heap[N]? = some (.cells #[v0, v1, v2] t)) : w.cell? ⟨N, 0, none⟩ = some v0 ∧ w.cell? ⟨N, 1, none⟩ = some v1 ∧ w.cell? ⟨N, 2, none⟩ = some v2 := by
  simp [World.cell?, h]
theorem box6g {w : World} {N : Nat} {v0 v1 v2 v3 v4 v5 : Value} {t : TypeId} (h : w.heap[N]? = some (.cells #[v0, v1, v2, v3, v4, v5] t)) : w.cell? ⟨N, 0, none⟩ = some v0 ∧ w.cell? ⟨N, 1, none⟩ = some v1 ∧ w.cell? ⟨N, 2, none⟩ = some v2 ∧ w.cell? ⟨N, 3, none⟩ = some v3 ∧ w.cell? ⟨N, 4, none⟩ = some v4 ∧ w.cell? ⟨N, 5, none⟩ = some v5 := by
  simp [World.cell?, h]
set_option maxHeartbeats 8000000 in
theorem growLeaf_any (x : TN) (ka : Option Addr) (kn kc : Nat) (va : Option Addr) (vn vc : Nat) (oa : Option Addr) (on oc : Nat) (ya : Option Addr) (yn yc : Nat) (lf : Bool) (w : World) (G : Nat) (a : Option Addr) (n c nx : Nat) (met : Int → Bool) (A B : Nat) (hB : B ≤ G) (hG : GrAt w G a n c nx met)
    (hK : StrsAt w A B ka kn kc x.keys) (hV : StrsAt w A B va vn vc x.vals) (hO : IntsAt w A B oa on oc x.over) (hY : IntsAt w A B ya yn yc x.kids) :
    Calls Try.prog 77 #[.pointer (some ⟨G, 0, none⟩), .agg #[.bool lf, .int .i64 x.page, .slice ka kn kc, .slice va vn vc, .slice oa on oc, .slice ya yn yc]] w fun e w' => GrowAns w G a n c (leafRes x nx met) e w' := by
  obtain ⟨N, hN⟩ : ∃ N, w.heap.size = N := ⟨_, rfl⟩
  have HL : Hid (x.keys.length = kn ∧ x.vals.length = vn ∧ x.over.length = on ∧ x.kids.length = yn) := ⟨hK.1, hV.1, hO.1, hY.1⟩
  have hkm := Nat.le_trans hK.2.1 hK.2.2.1
  have hvm := Nat.le_trans hV.2.1 hV.2.2.1
  have hom := Nat.le_trans hO.2.1 hO.2.2.1
  have hym := Nat.le_trans hY.2.1 hY.2.2.1
  unfold maxLen at hkm hvm hom hym
  have hGl := hG.lt
  have HN : Hid (leafRes x nx met = none ∨ ¬ (4 < kn ∨ vn ≠ kn ∨ on ≠ kn ∨ 0 < yn)) := by
    by_cases h : 4 < kn ∨ vn ≠ kn ∨ on ≠ kn ∨ 0 < yn
    · left
      unfold leafRes
      rw [HL.out.1, HL.out.2.1, HL.out.2.2.1, HL.out.2.2.2, if_pos h]
    · exact .inr h
  have k0 := heap_alloc_new w (.cells #[.bool lf, .int .i64 x.page, .slice ka kn kc, .slice va vn vc, .slice oa on oc, .slice ya yn yc] 92)
  have b0 := (Below.refl w.heap.size w).alloc (Nat.le_refl _) (.cells #[.bool lf, .int .i64 x.page, .slice ka kn kc, .slice va vn vc, .slice oa on oc, .slice ya yn yc] 92)
  have z0 : (w.alloc (.cells #[.bool lf, .int .i64 x.page, .slice ka kn kc, .slice va vn vc, .slice oa on oc, .slice ya yn yc] 92)).heap.size = N + 1 := by simp [hN]
  rw [hN] at k0
  have HG : Hid (GrAt w G a n c nx met) := hG
  have HK : Hid (StrsAt w A B ka kn kc x.keys) := hK
  have HV : Hid (StrsAt w A B va vn vc x.vals) := hV
  have HO : Hid (IntsAt w A B oa on oc x.over) := hO
  obtain ⟨p, hp⟩ : ∃ p, x.page = p := ⟨_, rfl⟩
  have HP : Hid (x.page = p) := hp
  rw [hp] at k0 b0 z0 ⊢
  clear hG hK hV hO hY hp
  obtain ⟨res, hres⟩ : ∃ res, leafRes x nx met = res := ⟨_, rfl⟩
  have HRES : Hid (leafRes x nx met = res) := hres
  rw [hres] at HN ⊢
  clear hres
  go_enter Try.func77, Try.ntmps77
  go_upto_region 1 with fail
  generalize w.alloc (.cells #[.bool lf, .int .i64 p, .slice ka kn kc, .slice va vn vc, .slice oa on oc, .slice ya yn yc] 92) = W0 at k0 b0 z0 ⊢
  obtain ⟨y0, y1, y2, y3, y4, y5⟩ := box6g k0
  have l0 : N < W0.heap.size := by omega
  have HNIL : Hid (res = none → GrowAns w G a n c res (.returned (.tuple #[.nilIface, .bool false])) W0) := fun h => ⟨fun _ => rfl, (fun t nx' met' e => by rw [h] at e; cases e), Fr.of_below b0⟩
  by_cases t1 : 4 < kn
  · have HA := HNIL.out (HN.out.resolve_right (fun h => h (.inl t1)))
    have HAA : Hid (GrowAns w G a n c res (.returned (.tuple #[.nilIface, .bool false])) W0) := HA
    clear HA HN HNIL
    go_wp2_with fail
    refine bodyPost_ret (v := .tuple #[.nilIface, .bool false]) (by simp [results, Try.results77, go_sem]) rfl ?_
    exact HAA.out
  by_cases t2 : vn ≠ kn
  · have HA := HNIL.out (HN.out.resolve_right (fun h => h (.inr (.inl t2))))
    have HAA : Hid (GrowAns w G a n c res (.returned (.tuple #[.nilIface, .bool false])) W0) := HA
    have s2 : ((vn : Int) != (kn : Int)) = true := by simp; omega
    clear HA HN HNIL t2
    go_wp2_with fail
    refine bodyPost_ret (v := .tuple #[.nilIface, .bool false]) (by simp [results, Try.results77, go_sem]) rfl ?_
    exact HAA.out
  have t2' : vn = kn := by omega
  clear t2
  subst t2'
  have s2 : ((vn : Int) != (vn : Int)) = false := by simp
  by_cases t3 : on ≠ vn
  · have HA := HNIL.out (HN.out.resolve_right (fun h => h (.inr (.inr (.inl t3)))))
    have HAA : Hid (GrowAns w G a n c res (.returned (.tuple #[.nilIface, .bool false])) W0) := HA
    have s3 : ((on : Int) != (vn : Int)) = true := by simp; omega
    clear HA HN HNIL t3
    go_wp2_with fail
    refine bodyPost_ret (v := .tuple #[.nilIface, .bool false]) (by simp [results, Try.results77, go_sem]) rfl ?_
    exact HAA.out
  have t3' : on = vn := by omega
  clear t3
  subst t3'
  by_cases t4 : 0 < yn
  · have HA := HNIL.out (HN.out.resolve_right (fun h => h (.inr (.inr (.inr t4)))))
    have HAA : Hid (GrowAns w G a n c res (.returned (.tuple #[.nilIface, .bool false])) W0) := HA
    clear HA HN HNIL
    go_wp2_with fail
    refine bodyPost_ret (v := .tuple #[.nilIface, .bool false]) (by simp [results, Try.results77, go_sem]) rfl ?_
    exact HAA.out
  clear HN HNIL
  have HR2 : Hid (res = match meetL p (x.vals.zip x.over) met with
    | none => none
    | some m' => some (⟨true, p, x.keys, x.vals, x.over, []⟩, nx, m')) := by
    show _ = _
    rw [← HRES.out]
    unfold leafRes
    have h := HL.out
    rw [if_neg (by omega), HP.out]
  have hy0 : yn = 0 := by omega
  subst hy0
  have ab := (Below.refl W0.heap.size W0).alloc (Nat.le_refl _) (.cells #[.int .i64 p, .slice none 0 0] 98)
  have k1 := heap_alloc_new W0 (.cells #[.int .i64 p, .slice none 0 0] 98)
  rw [z0] at k1
  have S1 : LSt w (W0.alloc (.cells #[.int .i64 p, .slice none 0 0] 98)) N G #[.bool lf, .int .i64 p, .slice ka on kc, .slice va on vc, .slice oa on oc, .slice ya 0 yc] p a n c nx met none 0 [] :=
    ⟨hN, (ab.block N (by omega)).trans k0, k1, HG.out.keep ((ab.block G (by omega)).trans (b0.block G hGl)), World.ownsRow_nil _ _ _ _, (Fr.of_below b0).trans (Fr.of_below ab), by omega⟩
  have HKK : Hid (∀ wr, Fr (fun k => k = G) w wr → StrsAt wr A B ka on kc x.keys ∧ StrsAt wr A B va on vc x.vals ∧ IntsAt wr A B oa on oc x.over) := fun wr hf => by
    have hk : Keeps A B w wr := fun k h1 h2 => hf.block k (by omega) (by omega)
    exact ⟨HK.out.keep hk, HV.out.keep hk, HO.out.keep hk⟩
  have hxk : Hid (x.keys.length = on ∧ x.vals.length = on ∧ x.over.length = on) := by have h := HL.out; exact ⟨h.1, h.2.1, h.2.2.1⟩
  obtain ⟨i0, hi, hz0, hz1, hz2⟩ := info_parts info_slot
  go_upto_region 5 with fail
  generalize W0.alloc (.cells #[.int .i64 p, .slice none 0 0] 98) = W1 at S1 ⊢
  clear k0 k1 ab b0 y0 y1 y2 y3 y4 y5 HRES HG HK HV HO HL
  obtain ⟨y0, y1, y2, y3, y4, y5⟩ := box6g S1.fb
  have l1 : N < W1.heap.size := by have := S1.lt; omega
  go_wp2_with fail
  clear y0 y1 y2 y3 y4 y5 l1
  go_loopw [44] (fun i wr => ∃ (j : Nat) (ra : Option Addr) (rc : Nat) (zs : List (ByteArray × ByteArray × Int)) (mj : Int → Bool), j ≤ on ∧ i = .int .i64 j ∧ Hid (zs = (x.keys.zip (x.vals.zip x.over)).take j ∧ meetL p (x.vals.zip x.over) met = meetL p ((x.vals.zip x.over).drop j) mj) ∧ LSt w wr N G #[.bool lf, .int .i64 p, .slice ka on kc, .slice va on vc, .slice oa on oc, .slice ya 0 yc] p a n c nx mj ra rc zs) (fun i _ => on - (intOf i).toNat)
  case atStart => exact ⟨0, none, 0, [], met, Nat.zero_le _, rfl, ⟨by simp, by simp⟩, S1⟩
  case round =>
    clear S1
    obtain ⟨j, ra, rc, zs, mj, hj, rfl, HPR, S2⟩ := hrel
    have hsl := S2.lt
    have HZL : Hid (zs.length = j) := by
      show _ = _
      rw [HPR.out.1, List.length_take, List.length_zip, List.length_zip]
      have := hxk.out; omega
    by_cases hlt : j < on
    · obtain ⟨hK2, hV2, hO2⟩ := HKK.out wr S2.fr
      obtain ⟨kb, koff, rfl, hkb, hkf, ek⟩ := StrsAt.at hK2 hlt
      obtain ⟨vb, voff, rfl, hvb, hsv, ev⟩ := StrsAt.at hV2 hlt
      obtain ⟨ob, ooff, rfl, hob, hof, eo⟩ := IntsAt.at hO2 hlt
      have hzj : (x.keys.zip (x.vals.zip x.over)).take (j + 1) = (x.keys.zip (x.vals.zip x.over)).take j ++ [(x.keys.getD j ByteArray.empty, x.vals.getD j ByteArray.empty, x.over.getD j 0)] := by
        have := hxk.out
        rw [List.take_succ_eq_append_getElem (by simp; omega)]
        simp [List.getD, show j < x.keys.length by omega, show j < x.vals.length by omega, show j < x.over.length by omega]
      have hdj : (x.vals.zip x.over).drop j = (x.vals.getD j ByteArray.empty, x.over.getD j 0) :: (x.vals.zip x.over).drop (j + 1) := by
        have := hxk.out
        rw [List.drop_eq_getElem_cons (by simp; omega)]
        simp [List.getD, show j < x.vals.length by omega, show j < x.over.length by omega]
      generalize x.keys.getD j ByteArray.empty = sk at ek hkf hzj
      generalize x.vals.getD j ByteArray.empty = sv at ev hsv hzj hdj
      generalize x.over.getD j 0 = so at eo hof hzj hdj
      have HSTOP : Hid ((meetB mj so = none ∨ ∃ m1, meetB mj so = some m1 ∧ mayB p sv so = false) → res = none) := by
        intro h
        rw [HR2.out, HPR.out.2, hdj]
        unfold meetL
        rcases h with h | ⟨m1, h1, h2⟩
        · simp [h]
        · simp [h1, h2]
      have HNEXT : Hid (∀ m1, meetB mj so = some m1 → mayB p sv so = true → zs ++ [(sk, sv, so)] = (x.keys.zip (x.vals.zip x.over)).take (j + 1) ∧ meetL p (x.vals.zip x.over) met = meetL p ((x.vals.zip x.over).drop (j + 1)) m1) := by
        intro m1 h1 h2
        refine ⟨by rw [hzj, HPR.out.1], ?_⟩
        rw [HPR.out.2, hdj]
        conv => lhs; unfold meetL
        simp [h1, h2]
      clear hzj hdj hK2 hV2 hO2 HPR
      obtain ⟨y0, y1, y2, y3, y4, y5⟩ := box6g S2.fb
      have hszz := S2.fr.size
      have l0 : N < wr.heap.size := by omega
      have hkb2 : kb < wr.heap.size := by omega
      have hvb2 : vb < wr.heap.size := by omega
      have hob2 : ob < wr.heap.size := by omega
      go_upto_region 8 with fail
      go_cut [10] (fun v wx => v = .pointer (some ⟨wr.heap.size, 0, none⟩) ∧ wx.heap[wr.heap.size]? = some (.cells #[.string sk, .string sv, .int .i64 so] 86) ∧ Below wr.heap.size wr wx)
      case first =>
        go_region_held3 (fun w' => w'.cell? ⟨N, 3, none⟩ = some (.slice (some ⟨vb, voff, none⟩) on vc) ∧ w'.cell? ⟨N, 4, none⟩ = some (.slice (some ⟨ob, ooff, none⟩) on oc) ∧ w'.cell? ⟨vb, voff + j, none⟩ = some (.string sv) ∧ w'.cell? ⟨ob, ooff + j, none⟩ = some (.int .i64 so)) (go_keep) (fail)
        have hz := (Below.refl wr.heap.size wr).alloc (Nat.le_refl _) (.cells #[.string sk, .string sv, .int .i64 so] 86)
        have hz2 := heap_alloc_new wr (.cells #[.string sk, .string sv, .int .i64 so] 86)
        go_wp2_with fail
        go_meet
        exact ⟨rfl, hz2, hz.drew⟩
      case rest =>
        obtain ⟨rfl, hsb, hbx⟩ := hcut
        obtain ⟨SB, hSB⟩ : ∃ SB, wr.heap.size = SB := ⟨_, rfl⟩
        have S3 := S2.below hbx
        have HSBN : Hid ((Value.slice ra j rc).ownBlock ≠ some SB) := fun e => by
          have h1 := S2.row
          rw [HZL.out] at h1
          have := (h1.lt SB e).2
          omega
        have hSN : N + 2 ≤ SB := by omega
        rw [hSB] at hsb ⊢
        clear y0 y1 y2 y3 y4 y5 ek ev eo S2 hbx l0 hszz hkb2 hvb2 hob2 hsl hSB
        generalize wc = V at S3 hsb ⊢
        have FRV : Hid (Fr (fun k => k = G) w V) := S3.fr
        have GV : Hid (GrAt V.drew G a n c nx mj) := S3.gr.keep rfl
        have hVl := S3.lt
        have hgN := S3.glt
        have hSBl := (Array.getElem?_eq_some_iff.1 hsb).1
        have SQ : Hid (∀ w2, Fr (fun k => k = G) V w2 → ∀ m, GrAt w2 G a n c nx m → LSt w w2 N G #[.bool lf, .int .i64 p, .slice (some ⟨kb, koff, none⟩) on kc, .slice (some ⟨vb, voff, none⟩) on vc, .slice (some ⟨ob, ooff, none⟩) on oc, .slice ya 0 yc] p a n c nx m ra rc zs) := fun w2 hf m hg => S3.go hf hg
        have hlb := S3.lb
        rw [HZL.out] at hlb
        have SS : Hid (∀ w', Fr (fun k => k = G) V w' → (fun w' : World => w'.heap[SB]? = some (.cells #[.string sk, .string sv, .int .i64 so] 86) ∧ w'.heap[N + 1]? = some (.cells #[.int .i64 p, .slice ra j rc] 98)) w') := fun w' hf => ⟨(hf.block SB hSBl (by omega)).trans hsb, (hf.block (N + 1) (by omega) (by omega)).trans hlb⟩
        clear S3 hsb hlb
        go_upto_region 9 with fail
        refine wp_region_noPanic ?_
        refine wp_region_held_drew (S := (fun w' : World => w'.heap[SB]? = some (.cells #[.string sk, .string sv, .int .i64 so] 86) ∧ w'.heap[N + 1]? = some (.cells #[.int .i64 p, .slice ra j rc] 98))) (by kernel_rfl) (SS.out V (Fr.refl _ _)) (fun hHeld => ?_)
        refine wpAnyH_take (i := 0) (oi := { dst := some 61, op := Op.move (Operand.tmp 0), type := 115, pos := "l3_tree.go:258", after := #[], guard := none }) (v := .pointer (some ⟨G, 0, none⟩)) rfl (by kernel_rfl) (by kernel_rfl) (by kernel_rfl) (fun _ _ _ h => h) (Or.inl ⟨by rfl, ?_⟩) (by assumption) ?_
        · intro wq hSw; (try dsimp only at hSw); go_simp
        try simp only [Act.put, List.setIfInBounds_toArray, List.set_cons_zero, List.set_cons_succ]
        refine wpAnyH_take (i := 1) (oi := { dst := some 62, op := Op.fieldAddr 86 (Operand.tmp 10) 2, type := 0, pos := "l3_tree.go:258", after := #[], guard := none }) (v := .pointer (some ⟨SB, 2, none⟩)) rfl (by kernel_rfl) (by kernel_rfl) (by kernel_rfl) (fun _ _ _ h => h) (Or.inl ⟨by rfl, ?_⟩) (by assumption) ?_
        · intro wq hSw; (try dsimp only at hSw); go_simp
        try simp only [Act.put, List.setIfInBounds_toArray, List.set_cons_zero, List.set_cons_succ]
        refine wpAnyH_take (i := 2) (oi := { dst := some 63, op := Op.load 2 (Operand.tmp 62), type := 2, pos := "l3_tree.go:258", after := #[{ on := 1, ground := Ground.data }], guard := none }) (v := .int .i64 so) rfl (by kernel_rfl) (by kernel_rfl) (by kernel_rfl) (fun _ _ _ h => h) (Or.inl ⟨by rfl, ?_⟩) (by assumption) ?_
        · intro wq hSw; (try dsimp only at hSw); obtain ⟨q0, q1, q2⟩ := box3w' hSw.1; go_simp
        try simp only [Act.put, List.setIfInBounds_toArray, List.set_cons_zero, List.set_cons_succ]
        refine wpAnyH_ready (rs := [3]) (by kernel_rfl) (by simp) ?_
        refine AllReadyH.cons (o := { dst := some 64, op := Op.call { callee := Callee.value (Operand.func 76), args := #[Operand.tmp 61, Operand.tmp 63], argTypes := #[115, 2] }, type := 4, pos := "l3_tree.go:258", after := #[{ on := 0, ground := Ground.data }, { on := 2, ground := Ground.data }], guard := none }) rfl (fun K hK => ?_) AllReadyH.nil
        go_simp
        refine (meet_any V.drew G a n c nx mj so GV.out).mono ?_
        rintro e w1 ⟨r, rfl, hyes, hno, hf1⟩
        have FR1 : Fr (fun k => k = G) V w1 := (Fr.of_below ((Below.refl _ V).drew)).trans hf1
        clear hf1
        go_wp2_with fail
        refine hK.out _ _ (SS.out w1 FR1) (fun hHeld => ?_)
        clear hK K
        try simp only [Act.put, List.setIfInBounds_toArray, List.set_cons_zero, List.set_cons_succ]
        cases r
        · have HNO := HSTOP.out (.inl (hno rfl))
          clear hyes hno
          refine wpAnyH_take (i := 4) (oi := { dst := some 65, op := Op.unOp UnOp.not 4 (Operand.tmp 64), type := 4, pos := "l3_tree.go:258", after := #[{ on := 3, ground := Ground.data }], guard := none }) (v := .bool true) rfl (by kernel_rfl) (by kernel_rfl) (by kernel_rfl) (fun _ _ _ h => h) (Or.inl ⟨by rfl, ?_⟩) (by assumption) ?_
          · intro wq hSw; (try dsimp only at hSw); go_simp
          try simp only [Act.put, List.setIfInBounds_toArray, List.set_cons_zero, List.set_cons_succ]
          refine wpAnyH_take (i := 5) (oi := { dst := some 66, op := Op.move (Operand.tmp 65), type := 4, pos := "l3_tree.go:258", after := #[{ on := 4, ground := Ground.data }, { on := 3, ground := Ground.chain }], guard := none }) (v := .bool true) rfl (by kernel_rfl) (by kernel_rfl) (by kernel_rfl) (fun _ _ _ h => h) (Or.inl ⟨by rfl, ?_⟩) (by assumption) ?_
          · intro wq hSw; (try dsimp only at hSw); go_simp
          try simp only [Act.put, List.setIfInBounds_toArray, List.set_cons_zero, List.set_cons_succ]
          refine wpAnyH_take (i := 6) (oi := { dst := some 67, op := Op.load 86 (Operand.tmp 10), type := 86, pos := "l3_tree.go:258", after := #[{ on := 5, ground := Ground.guard }], guard := some (5, false) }) (v := undef) rfl (by kernel_rfl) (by kernel_rfl) (by kernel_rfl) (fun _ _ _ h => h) (Or.inr ⟨by rfl, rfl⟩) (by assumption) ?_
          try simp only [Act.put, List.setIfInBounds_toArray, List.set_cons_zero, List.set_cons_succ]
          refine wpAnyH_take (i := 7) (oi := { dst := some 68, op := Op.move (Operand.tmp 7), type := 94, pos := "l3_tree.go:258", after := #[{ on := 5, ground := Ground.guard }], guard := some (5, false) }) (v := undef) rfl (by kernel_rfl) (by kernel_rfl) (by kernel_rfl) (fun _ _ _ h => h) (Or.inr ⟨by rfl, rfl⟩) (by assumption) ?_
          try simp only [Act.put, List.setIfInBounds_toArray, List.set_cons_zero, List.set_cons_succ]
          refine wpAnyH_take (i := 8) (oi := { dst := some 69, op := Op.nilCheck (Operand.tmp 68), type := 0, pos := "l3_tree.go:258", after := #[{ on := 7, ground := Ground.data }, { on := 5, ground := Ground.guard }], guard := some (5, false) }) (v := undef) rfl (by kernel_rfl) (by kernel_rfl) (by kernel_rfl) (fun _ _ _ h => h) (Or.inr ⟨by rfl, rfl⟩) (by assumption) ?_
          try simp only [Act.put, List.setIfInBounds_toArray, List.set_cons_zero, List.set_cons_succ]
          refine wpAnyH_take (i := 9) (oi := { dst := some 70, op := Op.fieldAddr 98 (Operand.tmp 69) 0, type := 0, pos := "l3_tree.go:258", after := #[{ on := 8, ground := Ground.data }, { on := 5, ground := Ground.guard }], guard := some (5, false) }) (v := undef) rfl (by kernel_rfl) (by kernel_rfl) (by kernel_rfl) (fun _ _ _ h => h) (Or.inr ⟨by rfl, rfl⟩) (by assumption) ?_
          try simp only [Act.put, List.setIfInBounds_toArray, List.set_cons_zero, List.set_cons_succ]
          refine wpAnyH_take (i := 10) (oi := { dst := some 71, op := Op.fieldAddr 96 (Operand.tmp 70) 0, type := 0, pos := "l3_tree.go:258", after := #[{ on := 9, ground := Ground.data }, { on := 5, ground := Ground.guard }], guard := some (5, false) }) (v := undef) rfl (by kernel_rfl) (by kernel_rfl) (by kernel_rfl) (fun _ _ _ h => h) (Or.inr ⟨by rfl, rfl⟩) (by assumption) ?_
          try simp only [Act.put, List.setIfInBounds_toArray, List.set_cons_zero, List.set_cons_succ]
          refine wpAnyH_take (i := 11) (oi := { dst := some 72, op := Op.load 2 (Operand.tmp 71), type := 2, pos := "l3_tree.go:258", after := #[{ on := 10, ground := Ground.data }, { on := 5, ground := Ground.guard }], guard := some (5, false) }) (v := undef) rfl (by kernel_rfl) (by kernel_rfl) (by kernel_rfl) (fun _ _ _ h => h) (Or.inr ⟨by rfl, rfl⟩) (by assumption) ?_
          try simp only [Act.put, List.setIfInBounds_toArray, List.set_cons_zero, List.set_cons_succ]
          refine wpAnyH_take (i := 12) (oi := { dst := some 73, op := Op.call { callee := Callee.value (Operand.func 81), args := #[Operand.tmp 67, Operand.tmp 72], argTypes := #[86, 2] }, type := 4, pos := "l3_tree.go:258", after := #[{ on := 6, ground := Ground.data }, { on := 11, ground := Ground.data }, { on := 5, ground := Ground.chain }, { on := 5, ground := Ground.guard }], guard := some (5, false) }) (v := undef) rfl (by kernel_rfl) (by kernel_rfl) (by kernel_rfl) (fun _ _ _ h => h) (Or.inr ⟨by rfl, rfl⟩) (by assumption) ?_
          try simp only [Act.put, List.setIfInBounds_toArray, List.set_cons_zero, List.set_cons_succ]
          refine wpAnyH_take (i := 13) (oi := { dst := some 74, op := Op.unOp UnOp.not 4 (Operand.tmp 73), type := 4, pos := "l3_tree.go:258", after := #[{ on := 12, ground := Ground.data }, { on := 5, ground := Ground.guard }], guard := some (5, false) }) (v := undef) rfl (by kernel_rfl) (by kernel_rfl) (by kernel_rfl) (fun _ _ _ h => h) (Or.inr ⟨by rfl, rfl⟩) (by assumption) ?_
          try simp only [Act.put, List.setIfInBounds_toArray, List.set_cons_zero, List.set_cons_succ]
          refine wpAnyH_take (i := 14) (oi := { dst := some 75, op := Op.pick (Operand.tmp 66) (Operand.const (Value.bool true)) (Operand.tmp 74), type := 4, pos := "l3_tree.go:258", after := #[{ on := 5, ground := Ground.data }, { on := 13, ground := Ground.data }], guard := none }) (v := .bool true) rfl (by kernel_rfl) (by kernel_rfl) (by kernel_rfl) (fun _ _ _ h => h) (Or.inl ⟨by rfl, ?_⟩) (by assumption) ?_
          · intro wq hSw; (try dsimp only at hSw); go_simp
          try simp only [Act.put, List.setIfInBounds_toArray, List.set_cons_zero, List.set_cons_succ]
          refine wpAnyH_done (by kernel_rfl) ?_ _
          refine NoPanic.normal ?_
          go_wp2_with fail
          refine bodyPost_ret (v := .tuple #[.nilIface, .bool false]) (by simp [results, Try.results77, go_sem]) rfl ?_
          exact ⟨fun _ => rfl, (fun t' nx' met' h => by rw [HNO] at h; cases h), (FRV.out.trans FR1)⟩
        · obtain ⟨m1, hm1, g1⟩ := hyes rfl
          clear hyes hno
          refine wpAnyH_take (i := 4) (oi := { dst := some 65, op := Op.unOp UnOp.not 4 (Operand.tmp 64), type := 4, pos := "l3_tree.go:258", after := #[{ on := 3, ground := Ground.data }], guard := none }) (v := .bool false) rfl (by kernel_rfl) (by kernel_rfl) (by kernel_rfl) (fun _ _ _ h => h) (Or.inl ⟨by rfl, ?_⟩) (by assumption) ?_
          · intro wq hSw; (try dsimp only at hSw); go_simp
          try simp only [Act.put, List.setIfInBounds_toArray, List.set_cons_zero, List.set_cons_succ]
          refine wpAnyH_take (i := 5) (oi := { dst := some 66, op := Op.move (Operand.tmp 65), type := 4, pos := "l3_tree.go:258", after := #[{ on := 4, ground := Ground.data }, { on := 3, ground := Ground.chain }], guard := none }) (v := .bool false) rfl (by kernel_rfl) (by kernel_rfl) (by kernel_rfl) (fun _ _ _ h => h) (Or.inl ⟨by rfl, ?_⟩) (by assumption) ?_
          · intro wq hSw; (try dsimp only at hSw); go_simp
          try simp only [Act.put, List.setIfInBounds_toArray, List.set_cons_zero, List.set_cons_succ]
          refine wpAnyH_take (i := 6) (oi := { dst := some 67, op := Op.load 86 (Operand.tmp 10), type := 86, pos := "l3_tree.go:258", after := #[{ on := 5, ground := Ground.guard }], guard := some (5, false) }) (v := .agg #[.string sk, .string sv, .int .i64 so]) rfl (by kernel_rfl) (by kernel_rfl) (by kernel_rfl) (fun _ _ _ h => h) (Or.inl ⟨by rfl, ?_⟩) (by assumption) ?_
          · intro wq hSw; (try dsimp only at hSw); obtain ⟨q0, q1, q2⟩ := box3w' hSw.1; go_simp
          try simp only [Act.put, List.setIfInBounds_toArray, List.set_cons_zero, List.set_cons_succ]
          refine wpAnyH_take (i := 7) (oi := { dst := some 68, op := Op.move (Operand.tmp 7), type := 94, pos := "l3_tree.go:258", after := #[{ on := 5, ground := Ground.guard }], guard := some (5, false) }) (v := .pointer (some ⟨N + 1, 0, none⟩)) rfl (by kernel_rfl) (by kernel_rfl) (by kernel_rfl) (fun _ _ _ h => h) (Or.inl ⟨by rfl, ?_⟩) (by assumption) ?_
          · intro wq hSw; (try dsimp only at hSw); go_simp
          try simp only [Act.put, List.setIfInBounds_toArray, List.set_cons_zero, List.set_cons_succ]
          refine wpAnyH_take (i := 8) (oi := { dst := some 69, op := Op.nilCheck (Operand.tmp 68), type := 0, pos := "l3_tree.go:258", after := #[{ on := 7, ground := Ground.data }, { on := 5, ground := Ground.guard }], guard := some (5, false) }) (v := .pointer (some ⟨N + 1, 0, none⟩)) rfl (by kernel_rfl) (by kernel_rfl) (by kernel_rfl) (fun _ _ _ h => h) (Or.inl ⟨by rfl, ?_⟩) (by assumption) ?_
          · intro wq hSw; (try dsimp only at hSw); go_simp
          try simp only [Act.put, List.setIfInBounds_toArray, List.set_cons_zero, List.set_cons_succ]
          refine wpAnyH_take (i := 9) (oi := { dst := some 70, op := Op.fieldAddr 98 (Operand.tmp 69) 0, type := 0, pos := "l3_tree.go:258", after := #[{ on := 8, ground := Ground.data }, { on := 5, ground := Ground.guard }], guard := some (5, false) }) (v := .pointer (some ⟨N + 1, 0, none⟩)) rfl (by kernel_rfl) (by kernel_rfl) (by kernel_rfl) (fun _ _ _ h => h) (Or.inl ⟨by rfl, ?_⟩) (by assumption) ?_
          · intro wq hSw; (try dsimp only at hSw); go_simp
          try simp only [Act.put, List.setIfInBounds_toArray, List.set_cons_zero, List.set_cons_succ]
          refine wpAnyH_take (i := 10) (oi := { dst := some 71, op := Op.fieldAddr 96 (Operand.tmp 70) 0, type := 0, pos := "l3_tree.go:258", after := #[{ on := 9, ground := Ground.data }, { on := 5, ground := Ground.guard }], guard := some (5, false) }) (v := .pointer (some ⟨N + 1, 0, none⟩)) rfl (by kernel_rfl) (by kernel_rfl) (by kernel_rfl) (fun _ _ _ h => h) (Or.inl ⟨by rfl, ?_⟩) (by assumption) ?_
          · intro wq hSw; (try dsimp only at hSw); go_simp
          try simp only [Act.put, List.setIfInBounds_toArray, List.set_cons_zero, List.set_cons_succ]
          refine wpAnyH_take (i := 11) (oi := { dst := some 72, op := Op.load 2 (Operand.tmp 71), type := 2, pos := "l3_tree.go:258", after := #[{ on := 10, ground := Ground.data }, { on := 5, ground := Ground.guard }], guard := some (5, false) }) (v := .int .i64 p) rfl (by kernel_rfl) (by kernel_rfl) (by kernel_rfl) (fun _ _ _ h => h) (Or.inl ⟨by rfl, ?_⟩) (by assumption) ?_
          · intro wq hSw; (try dsimp only at hSw); obtain ⟨q0, q1⟩ := box_twoG hSw.2; go_simp
          try simp only [Act.put, List.setIfInBounds_toArray, List.set_cons_zero, List.set_cons_succ]
          refine wpAnyH_ready (rs := [12]) (by kernel_rfl) (by simp) ?_
          refine AllReadyH.cons (o := { dst := some 73, op := Op.call { callee := Callee.value (Operand.func 81), args := #[Operand.tmp 67, Operand.tmp 72], argTypes := #[86, 2] }, type := 4, pos := "l3_tree.go:258", after := #[{ on := 6, ground := Ground.data }, { on := 11, ground := Ground.data }, { on := 5, ground := Ground.chain }, { on := 5, ground := Ground.guard }], guard := some (5, false) }) rfl (fun K hK => ?_) AllReadyH.nil
          go_simp
          refine (mayStand_any sk sv so p hsv w1).mono ?_
          rintro e w2 ⟨rfl, hb2⟩
          have FR2 : Fr (fun k => k = G) V w2 := FR1.trans (Fr.of_below hb2)
          have g2 : GrAt w2 G a n c nx m1 := g1.keep (hb2.block G g1.lt)
          clear hb2 g1
          go_wp2_with fail
          refine hK.out _ _ (SS.out w2 FR2) (fun hHeld => ?_)
          clear hK K
          try simp only [Act.put, List.setIfInBounds_toArray, List.set_cons_zero, List.set_cons_succ]
          obtain ⟨mb, hmb⟩ : ∃ mb, mayB p sv so = mb := ⟨_, rfl⟩
          rw [hmb]
          cases mb
          · have HNO := HSTOP.out (.inr ⟨m1, hm1, hmb⟩)
            refine wpAnyH_take (i := 13) (oi := { dst := some 74, op := Op.unOp UnOp.not 4 (Operand.tmp 73), type := 4, pos := "l3_tree.go:258", after := #[{ on := 12, ground := Ground.data }, { on := 5, ground := Ground.guard }], guard := some (5, false) }) (v := .bool true) rfl (by kernel_rfl) (by kernel_rfl) (by kernel_rfl) (fun _ _ _ h => h) (Or.inl ⟨by rfl, ?_⟩) (by assumption) ?_
            · intro wq hSw; (try dsimp only at hSw); go_simp
            try simp only [Act.put, List.setIfInBounds_toArray, List.set_cons_zero, List.set_cons_succ]
            refine wpAnyH_take (i := 14) (oi := { dst := some 75, op := Op.pick (Operand.tmp 66) (Operand.const (Value.bool true)) (Operand.tmp 74), type := 4, pos := "l3_tree.go:258", after := #[{ on := 5, ground := Ground.data }, { on := 13, ground := Ground.data }], guard := none }) (v := .bool true) rfl (by kernel_rfl) (by kernel_rfl) (by kernel_rfl) (fun _ _ _ h => h) (Or.inl ⟨by rfl, ?_⟩) (by assumption) ?_
            · intro wq hSw; (try dsimp only at hSw); go_simp
            try simp only [Act.put, List.setIfInBounds_toArray, List.set_cons_zero, List.set_cons_succ]
            refine wpAnyH_done (by kernel_rfl) ?_ _
            refine NoPanic.normal ?_
            go_wp2_with fail
            refine bodyPost_ret (v := .tuple #[.nilIface, .bool false]) (by simp [results, Try.results77, go_sem]) rfl ?_
            exact ⟨fun _ => rfl, (fun t' nx' met' h => by rw [HNO] at h; cases h), (FRV.out.trans FR2)⟩
          · have HGO : Hid _ := HNEXT.out m1 hm1 hmb
            clear hm1 hmb HNEXT HSTOP
            refine wpAnyH_take (i := 13) (oi := { dst := some 74, op := Op.unOp UnOp.not 4 (Operand.tmp 73), type := 4, pos := "l3_tree.go:258", after := #[{ on := 12, ground := Ground.data }, { on := 5, ground := Ground.guard }], guard := some (5, false) }) (v := .bool false) rfl (by kernel_rfl) (by kernel_rfl) (by kernel_rfl) (fun _ _ _ h => h) (Or.inl ⟨by rfl, ?_⟩) (by assumption) ?_
            · intro wq hSw; (try dsimp only at hSw); go_simp
            try simp only [Act.put, List.setIfInBounds_toArray, List.set_cons_zero, List.set_cons_succ]
            refine wpAnyH_take (i := 14) (oi := { dst := some 75, op := Op.pick (Operand.tmp 66) (Operand.const (Value.bool true)) (Operand.tmp 74), type := 4, pos := "l3_tree.go:258", after := #[{ on := 5, ground := Ground.data }, { on := 13, ground := Ground.data }], guard := none }) (v := .bool false) rfl (by kernel_rfl) (by kernel_rfl) (by kernel_rfl) (fun _ _ _ h => h) (Or.inl ⟨by rfl, ?_⟩) (by assumption) ?_
            · intro wq hSw; (try dsimp only at hSw); go_simp
            try simp only [Act.put, List.setIfInBounds_toArray, List.set_cons_zero, List.set_cons_succ]
            refine wpAnyH_done (by kernel_rfl) ?_ _
            refine NoPanic.normal ?_
            go_upto_region 11 with fail
            have V2F : Hid (Fr (fun k => k = G) V w2) := FR2
            obtain ⟨SB2, LB2⟩ := SS.out w2 FR2
            have ST2 := SQ.out w2 FR2 m1 g2
            clear SS GV SQ FR2 hHeld FR1
            generalize w2 = V2 at *
            have hsl := (Array.getElem?_eq_some_iff.1 LB2).1
            have hcells := cell_three_newT V2 (.string sk) (.string sv) (.int .i64 so) 86
            have hrow := ST2.row
            rw [HZL.out] at hrow
            have hal : Below V2.heap.size V2 (V2.alloc (.cells #[.string sk, .string sv, .int .i64 so] 86)) := (Below.refl _ _).alloc (Nat.le_refl _) _
            have hrowA : (V2.alloc (.cells #[.string sk, .string sv, .int .i64 so] 86)).drew.ownsRow (N + 2) 86 3 (.slice ra j rc) j (rowsOf slCells zs) := owns_below hrow hal.drew
            have HPU : Hid (∀ v' w4, w4.ownsRow (N + 2) 86 3 v' (j + 1) (rowsOf slCells zs ++ [.string sk, .string sv, .int .i64 so]) → (V2.alloc (.cells #[.string sk, .string sv, .int .i64 so] 86)).drew.grownBy w4 (Value.slice ra j rc).ownBlock → ∃ ra' rc', v' = .slice ra' (j + 1) rc' ∧ LSt w (w4.setCell ⟨N + 1, 1, none⟩ v') N G #[.bool lf, .int .i64 p, .slice (some ⟨kb, koff, none⟩) on kc, .slice (some ⟨vb, voff, none⟩) on vc, .slice (some ⟨ob, ooff, none⟩) on oc, .slice ya 0 yc] p a n c nx m1 ra' rc' (zs ++ [(sk, sv, so)]) ∧ w4.heap[N + 1]? = some (.cells #[.int .i64 p, .slice ra j rc] 98)) := by
              intro v' w4 h1 h2
              have := (ST2.below hal.drew).push (z := (sk, sv, so)) (v' := v') (w4 := w4) (by rw [HZL.out]; exact h1) (by rw [HZL.out]; exact h2)
              rw [HZL.out] at this
              exact this
            have hsz2 : N + 2 ≤ (V2.alloc (.cells #[.string sk, .string sv, .int .i64 so] 86)).drew.heap.size := by have := hal.size; have h9 : (V2.alloc (.cells #[.string sk, .string sv, .int .i64 so] 86)).drew.heap.size = (V2.alloc (.cells #[.string sk, .string sv, .int .i64 so] 86)).heap.size := rfl; omega
            have hSB2 := (Array.getElem?_eq_some_iff.1 SB2).1
            clear hrow ST2
            have SBK : Hid (∀ w4, (V2.alloc (.cells #[.string sk, .string sv, .int .i64 so] 86)).drew.grownBy w4 (Value.slice ra j rc).ownBlock → w4.heap[SB]? = some (.cells #[.string sk, .string sv, .int .i64 so] 86)) := fun w4 h2 => (h2.block SB (by have := hal.size; show SB < (V2.alloc (.cells #[.string sk, .string sv, .int .i64 so] 86)).heap.size; omega) (fun e => HSBN.out e.symm)).trans ((hal.block SB hSB2).trans SB2)
            have SBS : Hid (∀ (w4 : World) v, w4.heap[SB]? = some (.cells #[.string sk, .string sv, .int .i64 so] 86) → (w4.setCell ⟨N + 1, 1, none⟩ v).heap[SB]? = some (.cells #[.string sk, .string sv, .int .i64 so] 86)) := fun w4 v h => ((fr_setT w4 (N + 1) 1 v).block SB (Array.getElem?_eq_some_iff.1 h).1 (by omega)).trans h
            refine wp_region_noPanic ?_
            refine wp_region_held_drew (S := (fun w' : World => w'.heap[SB]? = some (.cells #[.string sk, .string sv, .int .i64 so] 86))) (by kernel_rfl) (SB2) (fun hHeld => ?_)
            refine wpAnyH_take (i := 0) (oi := { dst := some 76, op := Op.move (Operand.tmp 7), type := 94, pos := "l3_tree.go:261", after := #[], guard := none }) (v := .pointer (some ⟨N + 1, 0, none⟩)) rfl (by kernel_rfl) (by kernel_rfl) (by kernel_rfl) (fun _ _ _ h => h) (Or.inl ⟨by rfl, ?_⟩) (by assumption) ?_
            · intro wq hSw; (try dsimp only at hSw); go_simp
            try simp only [Act.put, List.setIfInBounds_toArray, List.set_cons_zero, List.set_cons_succ]
            refine wpAnyH_take (i := 1) (oi := { dst := some 77, op := Op.move (Operand.tmp 7), type := 94, pos := "l3_tree.go:261", after := #[], guard := none }) (v := .pointer (some ⟨N + 1, 0, none⟩)) rfl (by kernel_rfl) (by kernel_rfl) (by kernel_rfl) (fun _ _ _ h => h) (Or.inl ⟨by rfl, ?_⟩) (by assumption) ?_
            · intro wq hSw; (try dsimp only at hSw); go_simp
            try simp only [Act.put, List.setIfInBounds_toArray, List.set_cons_zero, List.set_cons_succ]
            refine wpAnyH_take (i := 2) (oi := { dst := some 78, op := Op.nilCheck (Operand.tmp 77), type := 0, pos := "l3_tree.go:261", after := #[{ on := 1, ground := Ground.data }], guard := none }) (v := .pointer (some ⟨N + 1, 0, none⟩)) rfl (by kernel_rfl) (by kernel_rfl) (by kernel_rfl) (fun _ _ _ h => h) (Or.inl ⟨by rfl, ?_⟩) (by assumption) ?_
            · intro wq hSw; (try dsimp only at hSw); go_simp
            try simp only [Act.put, List.setIfInBounds_toArray, List.set_cons_zero, List.set_cons_succ]
            refine wpAnyH_take (i := 3) (oi := { dst := some 79, op := Op.fieldAddr 98 (Operand.tmp 78) 1, type := 0, pos := "l3_tree.go:261", after := #[{ on := 2, ground := Ground.data }], guard := none }) (v := .pointer (some ⟨N + 1, 1, none⟩)) rfl (by kernel_rfl) (by kernel_rfl) (by kernel_rfl) (fun _ _ _ h => h) (Or.inl ⟨by rfl, ?_⟩) (by assumption) ?_
            · intro wq hSw; (try dsimp only at hSw); go_simp
            try simp only [Act.put, List.setIfInBounds_toArray, List.set_cons_zero, List.set_cons_succ]
            refine wpAnyH_take (i := 5) (oi := { dst := some 81, op := Op.load 86 (Operand.tmp 10), type := 86, pos := "l3_tree.go:261", after := #[], guard := none }) (v := .agg #[.string sk, .string sv, .int .i64 so]) rfl (by kernel_rfl) (by kernel_rfl) (by kernel_rfl) (fun _ _ _ h => h) (Or.inl ⟨by rfl, ?_⟩) (by assumption) ?_
            · intro wq hSw; (try dsimp only at hSw); obtain ⟨q0, q1, q2⟩ := box3w' hSw; go_simp
            try simp only [Act.put, List.setIfInBounds_toArray, List.set_cons_zero, List.set_cons_succ]
            refine wpAnyH_ready (rs := [4, 6]) (by kernel_rfl) (by simp) ?_
            refine AllReadyH.cons (o := { dst := some 80, op := Op.load 89 (Operand.tmp 79), type := 89, pos := "l3_tree.go:261", after := #[{ on := 3, ground := Ground.data }], guard := none }) rfl (fun K hK => ?_) ?_
            rotate_left 1
            refine AllReadyH.cons (o := { dst := some 82, op := Op.buildSlice 89 1 #[(0, Operand.tmp 81)], type := 89, pos := "l3_tree.go:261", after := #[{ on := 5, ground := Ground.data }], guard := none }) rfl (fun K hK => ?_) ?_
            rotate_left 1
            exact AllReadyH.nil
            · obtain ⟨y0, y1⟩ := box_twoG (LB2)
              go_simp
              clear y0 y1
              refine hK.out _ _ (SB2) (fun hHeld => ?_)
              clear hK K
              try simp only [Act.put, List.setIfInBounds_toArray, List.set_cons_zero, List.set_cons_succ]
              refine wpAnyH_ready (rs := [6]) (by kernel_rfl) (by simp) ?_
              refine AllReadyH.cons (o := { dst := some 82, op := Op.buildSlice 89 1 #[(0, Operand.tmp 81)], type := 89, pos := "l3_tree.go:261", after := #[{ on := 5, ground := Ground.data }], guard := none }) rfl (fun K hK => ?_) AllReadyH.nil
              go_simp
              refine hK.out _ _ ((hal.block SB hSB2).trans SB2) (fun hHeld => ?_)
              clear hK K
              try simp only [Act.put, List.setIfInBounds_toArray, List.set_cons_zero, List.set_cons_succ]
              refine wpAnyH_ready (rs := [7]) (by kernel_rfl) (by simp) ?_
              refine AllReadyH.cons (o := { dst := some 83, op := Op.call { callee := Callee.builtin Builtin.append, args := #[Operand.tmp 80, Operand.tmp 82], argTypes := #[89, 89] }, type := 89, pos := "l3_tree.go:261", after := #[{ on := 4, ground := Ground.data }, { on := 6, ground := Ground.data }], guard := none }) rfl (fun K hK => ?_) AllReadyH.nil
              refine step_append_G rfl _ _ 89 rfl (N + 2) 86 i0 _ 3 40 Try.underlying89 hi hz0 hz1 hz2 rfl (by decide) (.slice ra j rc) j (rowsOf slCells zs) (by simp [Act.eval]) hrowA ⟨V2.heap.size, 0, none⟩ 1 1 [.string sk, .string sv, .int .i64 so] (by simp [Act.eval]) rfl hcells (by simp [Value.oneCell']) (by unfold maxLen; omega) (by omega) hsz2 ?_
              intro v' w4 h1 h2 h3
              obtain ⟨ra', rc', rfl, LP4, XB4⟩ := HPU.out v' w4 h1 h2
              have SB4 := SBK.out w4 h2
              clear h1 h2 h3
              refine hK.out _ _ (SB4) (fun hHeld => ?_)
              clear hK K
              try simp only [Act.put, List.setIfInBounds_toArray, List.set_cons_zero, List.set_cons_succ]
              refine wpAnyH_take (i := 8) (oi := { dst := some 84, op := Op.nilCheck (Operand.tmp 76), type := 0, pos := "l3_tree.go:261", after := #[{ on := 0, ground := Ground.data }, { on := 0, ground := Ground.phase }, { on := 1, ground := Ground.phase }, { on := 2, ground := Ground.phase }, { on := 3, ground := Ground.phase }, { on := 4, ground := Ground.phase }, { on := 5, ground := Ground.phase }, { on := 6, ground := Ground.phase }, { on := 7, ground := Ground.phase }], guard := none }) (v := .pointer (some ⟨N + 1, 0, none⟩)) rfl (by kernel_rfl) (by kernel_rfl) (by kernel_rfl) (fun _ _ _ h => h) (Or.inl ⟨by rfl, ?_⟩) (by assumption) ?_
              · intro wq hSw; (try dsimp only at hSw); go_simp
              try simp only [Act.put, List.setIfInBounds_toArray, List.set_cons_zero, List.set_cons_succ]
              refine wpAnyH_take (i := 9) (oi := { dst := some 85, op := Op.fieldAddr 98 (Operand.tmp 84) 1, type := 0, pos := "l3_tree.go:261", after := #[{ on := 8, ground := Ground.data }, { on := 0, ground := Ground.phase }, { on := 1, ground := Ground.phase }, { on := 2, ground := Ground.phase }, { on := 3, ground := Ground.phase }, { on := 4, ground := Ground.phase }, { on := 5, ground := Ground.phase }, { on := 6, ground := Ground.phase }, { on := 7, ground := Ground.phase }], guard := none }) (v := .pointer (some ⟨N + 1, 1, none⟩)) rfl (by kernel_rfl) (by kernel_rfl) (by kernel_rfl) (fun _ _ _ h => h) (Or.inl ⟨by rfl, ?_⟩) (by assumption) ?_
              · intro wq hSw; (try dsimp only at hSw); go_simp
              try simp only [Act.put, List.setIfInBounds_toArray, List.set_cons_zero, List.set_cons_succ]
              refine wpAnyH_ready (rs := [10]) (by kernel_rfl) (by simp) ?_
              refine AllReadyH.cons (o := { dst := none, op := Op.store 89 (Operand.tmp 85) (Operand.tmp 83), type := 0, pos := "l3_tree.go:261", after := #[{ on := 9, ground := Ground.data }, { on := 7, ground := Ground.data }, { on := 7, ground := Ground.chain }, { on := 0, ground := Ground.phase }, { on := 1, ground := Ground.phase }, { on := 2, ground := Ground.phase }, { on := 3, ground := Ground.phase }, { on := 4, ground := Ground.phase }, { on := 5, ground := Ground.phase }, { on := 6, ground := Ground.phase }, { on := 7, ground := Ground.phase }], guard := none }) rfl (fun K hK => ?_) AllReadyH.nil
              obtain ⟨y0, y1⟩ := box_twoG XB4
              have ff := thawT XB4
              have hl4 := (Array.getElem?_eq_some_iff.1 XB4).1
              go_simp
              clear y0 y1 ff
              refine hK.out _ _ (SBS.out w4 _ SB4) (fun hHeld => ?_)
              clear hK K
              try simp only [Act.put, List.setIfInBounds_toArray, List.set_cons_zero, List.set_cons_succ]
              refine wpAnyH_done (by kernel_rfl) ?_ _
              refine NoPanic.normal ?_
              clear hHeld SB4 XB4
              go_wp2_with fail
              go_roundw
              case rel => exact ⟨j + 1, ra', rc', zs ++ [(sk, sv, so)], m1, by omega, by go_num, HGO, LP4⟩
              case measure => simp [intOf]; omega
            · go_simp
              refine hK.out _ _ ((hal.block SB hSB2).trans SB2) (fun hHeld => ?_)
              clear hK K
              try simp only [Act.put, List.setIfInBounds_toArray, List.set_cons_zero, List.set_cons_succ]
              refine wpAnyH_ready (rs := [4]) (by kernel_rfl) (by simp) ?_
              refine AllReadyH.cons (o := { dst := some 80, op := Op.load 89 (Operand.tmp 79), type := 89, pos := "l3_tree.go:261", after := #[{ on := 3, ground := Ground.data }], guard := none }) rfl (fun K hK => ?_) AllReadyH.nil
              obtain ⟨y0, y1⟩ := box_twoG ((hal.block (N + 1) hsl).trans LB2)
              go_simp
              clear y0 y1
              refine hK.out _ _ ((hal.block SB hSB2).trans SB2) (fun hHeld => ?_)
              clear hK K
              try simp only [Act.put, List.setIfInBounds_toArray, List.set_cons_zero, List.set_cons_succ]
              refine wpAnyH_ready (rs := [7]) (by kernel_rfl) (by simp) ?_
              refine AllReadyH.cons (o := { dst := some 83, op := Op.call { callee := Callee.builtin Builtin.append, args := #[Operand.tmp 80, Operand.tmp 82], argTypes := #[89, 89] }, type := 89, pos := "l3_tree.go:261", after := #[{ on := 4, ground := Ground.data }, { on := 6, ground := Ground.data }], guard := none }) rfl (fun K hK => ?_) AllReadyH.nil
              refine step_append_G rfl _ _ 89 rfl (N + 2) 86 i0 _ 3 40 Try.underlying89 hi hz0 hz1 hz2 rfl (by decide) (.slice ra j rc) j (rowsOf slCells zs) (by simp [Act.eval]) hrowA ⟨V2.heap.size, 0, none⟩ 1 1 [.string sk, .string sv, .int .i64 so] (by simp [Act.eval]) rfl hcells (by simp [Value.oneCell']) (by unfold maxLen; omega) (by omega) hsz2 ?_
              intro v' w4 h1 h2 h3
              obtain ⟨ra', rc', rfl, LP4, XB4⟩ := HPU.out v' w4 h1 h2
              have SB4 := SBK.out w4 h2
              clear h1 h2 h3
              refine hK.out _ _ (SB4) (fun hHeld => ?_)
              clear hK K
              try simp only [Act.put, List.setIfInBounds_toArray, List.set_cons_zero, List.set_cons_succ]
              refine wpAnyH_take (i := 8) (oi := { dst := some 84, op := Op.nilCheck (Operand.tmp 76), type := 0, pos := "l3_tree.go:261", after := #[{ on := 0, ground := Ground.data }, { on := 0, ground := Ground.phase }, { on := 1, ground := Ground.phase }, { on := 2, ground := Ground.phase }, { on := 3, ground := Ground.phase }, { on := 4, ground := Ground.phase }, { on := 5, ground := Ground.phase }, { on := 6, ground := Ground.phase }, { on := 7, ground := Ground.phase }], guard := none }) (v := .pointer (some ⟨N + 1, 0, none⟩)) rfl (by kernel_rfl) (by kernel_rfl) (by kernel_rfl) (fun _ _ _ h => h) (Or.inl ⟨by rfl, ?_⟩) (by assumption) ?_
              · intro wq hSw; (try dsimp only at hSw); go_simp
              try simp only [Act.put, List.setIfInBounds_toArray, List.set_cons_zero, List.set_cons_succ]
              refine wpAnyH_take (i := 9) (oi := { dst := some 85, op := Op.fieldAddr 98 (Operand.tmp 84) 1, type := 0, pos := "l3_tree.go:261", after := #[{ on := 8, ground := Ground.data }, { on := 0, ground := Ground.phase }, { on := 1, ground := Ground.phase }, { on := 2, ground := Ground.phase }, { on := 3, ground := Ground.phase }, { on := 4, ground := Ground.phase }, { on := 5, ground := Ground.phase }, { on := 6, ground := Ground.phase }, { on := 7, ground := Ground.phase }], guard := none }) (v := .pointer (some ⟨N + 1, 1, none⟩)) rfl (by kernel_rfl) (by kernel_rfl) (by kernel_rfl) (fun _ _ _ h => h) (Or.inl ⟨by rfl, ?_⟩) (by assumption) ?_
              · intro wq hSw; (try dsimp only at hSw); go_simp
              try simp only [Act.put, List.setIfInBounds_toArray, List.set_cons_zero, List.set_cons_succ]
              refine wpAnyH_ready (rs := [10]) (by kernel_rfl) (by simp) ?_
              refine AllReadyH.cons (o := { dst := none, op := Op.store 89 (Operand.tmp 85) (Operand.tmp 83), type := 0, pos := "l3_tree.go:261", after := #[{ on := 9, ground := Ground.data }, { on := 7, ground := Ground.data }, { on := 7, ground := Ground.chain }, { on := 0, ground := Ground.phase }, { on := 1, ground := Ground.phase }, { on := 2, ground := Ground.phase }, { on := 3, ground := Ground.phase }, { on := 4, ground := Ground.phase }, { on := 5, ground := Ground.phase }, { on := 6, ground := Ground.phase }, { on := 7, ground := Ground.phase }], guard := none }) rfl (fun K hK => ?_) AllReadyH.nil
              obtain ⟨y0, y1⟩ := box_twoG XB4
              have ff := thawT XB4
              have hl4 := (Array.getElem?_eq_some_iff.1 XB4).1
              go_simp
              clear y0 y1 ff
              refine hK.out _ _ (SBS.out w4 _ SB4) (fun hHeld => ?_)
              clear hK K
              try simp only [Act.put, List.setIfInBounds_toArray, List.set_cons_zero, List.set_cons_succ]
              refine wpAnyH_done (by kernel_rfl) ?_ _
              refine NoPanic.normal ?_
              clear hHeld SB4 XB4
              go_wp2_with fail
              go_roundw
              case rel => exact ⟨j + 1, ra', rc', zs ++ [(sk, sv, so)], m1, by omega, by go_num, HGO, LP4⟩
              case measure => simp [intOf]; omega
    · have hje : j = on := by omega
      subst hje
      have HZ : Hid (zs = x.keys.zip (x.vals.zip x.over)) := by
        show _ = _
        rw [HPR.out.1, List.take_of_length_le (by simp; have := hxk.out; omega)]
      have HRS : Hid (res = some (⟨true, p, x.keys, x.vals, x.over, []⟩, nx, mj)) := by
        show _ = _
        rw [HR2.out, HPR.out.2, List.drop_of_length_le (by simp; have := hxk.out; omega)]
        rfl
      have hfr := S2.fr
      have hgr := S2.gr
      have hsz := S2.sz
      have hGI : GM wr (fun b => w.heap.size ≤ b ∧ b < wr.heap.size) ⟨true, p, x.keys, x.vals, x.over, []⟩ (.iface 94 (.pointer (some ⟨N + 1, 0, none⟩))) := by
        refine GML.is (a := ra) (n := zs.length) (c := rc) ⟨⟨by omega, by omega⟩, S2.lb, ?_, fun g hg => ?_, by have := HZL.out; have := hxk.out; show zs.length = x.keys.length; omega⟩ rfl
        · rw [← HZ.out]
          exact owns_base S2.row (Nat.zero_le _)
        · have hlt2 := S2.row.lt g hg
          exact ⟨⟨by omega, hlt2.2⟩, by omega⟩
      have HGI : Hid _ := hGI
      clear S2 hGI HZ HPR HR2
      go_wp2_with fail
      refine bodyPost_ret (v := .tuple #[.iface 94 (.pointer (some ⟨N + 1, 0, none⟩)), .bool true]) (by simp [results, Try.results77, go_sem]) rfl ?_
      refine ⟨fun h => (by rw [HRS.out] at h; cases h), fun t' nx' met' h => ?_, hfr⟩
      rw [HRS.out] at h
      simp only [Option.some.injEq, Prod.mk.injEq] at h
      obtain ⟨rfl, rfl, rfl⟩ := h
      exact ⟨_, rfl, HGI.out, hgr⟩
end Go.Proofs.Ytpmagndofiaooaa
