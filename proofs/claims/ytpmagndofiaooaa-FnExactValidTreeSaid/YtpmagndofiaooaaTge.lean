import Derived.Test.YtpmagndofiaooaaTgd
import Derived.Test.YtpmagndofiaooaaTgc
import Derived.WalkSpells
namespace Go.Proofs.Ytpmagndofiaooaa
open Go.RowKit
set_option linter.unusedVariables false
set_option linter.unusedSimpArgs false
set_option maxRecDepth 100000

theorem listG_inj {a b : ByteArray} (h : a.toList = b.toList) : a = b := by
  have h1 := ByteArray.toList_eq a
  have h2 := ByteArray.toList_eq b
  rw [h1, h2] at h
  cases a; cases b
  simp at h ⊢
  exact h
theorem listG_ne {a b : ByteArray} (h : ¬ a = b) : (a.toList == b.toList) = false := by
  simpa using fun e => h (listG_inj e)
theorem GIs.drew {w : World} {P : Nat → Prop} {t : T} {u : Value} (h : GIs w P t u) : GIs w.drew P t u := GIs.keep (w := w) (w' := w.drew) (fun _ _ => rfl) (fun _ h => h) t u h
theorem info_node : (Try.prog.info? 70).map (fun i => (i.zero, i.size, i.bytes)) = some (some .nilIface, 1, 16) := by kernel_rfl
/-- The state while an inner node grows. -/
structure ISt (w wr : World) (N G : Nat) (fb : Array Value) (p : Int) (a : Option Addr) (n c nx : Nat) (met : Int → Bool) (ra : Option Addr) (rc : Nat) (acc : List T) (ul : List Value) (K : Nat) : Prop where
  sz : w.heap.size = N
  fb : wr.heap[N]? = some (.cells fb 92)
  ib : wr.heap[N + 1]? = some (.cells #[.int .i64 p, .slice ra acc.length rc] 101)
  gr : GrAt wr G a n c nx met
  row : wr.ownsRow (N + 2) 70 1 (.slice ra acc.length rc) acc.length ul
  kid : ∃ Q : Nat → Nat → Prop, (∀ i j b, Q i b → Q j b → i = j) ∧ (∀ i b, Q i b → N + 2 ≤ b ∧ b < K ∧ ∀ g, (Value.slice ra acc.length rc).ownBlock = some g → b ≠ g) ∧ ∀ (i : Nat) (z : T), acc[i]? = some z → ∃ u : Value, ul[i]? = some u ∧ GM wr (Q i) z u
  kle : K ≤ wr.heap.size
  fr : Fr (fun k => k = G) w wr
  glt : G < N
theorem ISt.lt {w wr : World} {N G : Nat} {fb : Array Value} {p : Int} {a : Option Addr} {n c nx : Nat} {met : Int → Bool} {ra : Option Addr} {rc : Nat} {acc : List T} {ul : List Value} {K : Nat} (h : ISt w wr N G fb p a n c nx met ra rc acc ul K) : N + 1 < wr.heap.size := (Array.getElem?_eq_some_iff.1 h.ib).1
theorem ISt.go {w wr w1 : World} {N G : Nat} {fb : Array Value} {p : Int} {a : Option Addr} {n c nx nx1 : Nat} {met m1 : Int → Bool} {ra : Option Addr} {rc : Nat} {acc : List T} {ul : List Value} {K : Nat} (h : ISt w wr N G fb p a n c nx met ra rc acc ul K) (hf : Fr (fun k => k = G) wr w1) (hg : GrAt w1 G a n c nx1 m1) : ISt w w1 N G fb p a n c nx1 m1 ra rc acc ul K := by
  have l := h.lt
  have g := h.glt
  refine ⟨h.sz, (hf.block N (by omega) (by omega)).trans h.fb, (hf.block (N + 1) (by omega) (by omega)).trans h.ib, hg, owns_fr h.row hf (fun g' hg' e => by have := (h.row.lt g' hg').1; omega), ?_, Nat.le_trans h.kle hf.size, h.fr.trans hf, h.glt⟩
  obtain ⟨Q, hd, hs, hk⟩ := h.kid
  have kl := h.kle
  refine ⟨Q, hd, hs, fun i z hz => ?_⟩
  obtain ⟨u, hu, hk⟩ := hk i z hz
  exact ⟨u, hu, GM.keep z _ _ u (fun b hb => hf.block b (by have := hs i b hb; omega) (by have := hs i b hb; omega)) (fun _ hb => hb) hk⟩
theorem ISt.below {w wr w1 : World} {N G : Nat} {fb : Array Value} {p : Int} {a : Option Addr} {n c nx : Nat} {met : Int → Bool} {ra : Option Addr} {rc : Nat} {acc : List T} {ul : List Value} {K : Nat} (h : ISt w wr N G fb p a n c nx met ra rc acc ul K) (hb : Below wr.heap.size wr w1) : ISt w w1 N G fb p a n c nx met ra rc acc ul K :=
  h.go (Fr.of_below hb) (h.gr.keep (hb.block G h.gr.lt))
theorem ISt.push {w wr w4 : World} {N G : Nat} {fb : Array Value} {p : Int} {a : Option Addr} {n c nx : Nat} {met : Int → Bool} {ra : Option Addr} {rc : Nat} {acc : List T} {ul : List Value} {K : Nat} (h : ISt w wr N G fb p a n c nx met ra rc acc ul K) {t : T} {u v' : Value} (hk : GM wr (fun b => K ≤ b ∧ N + 2 ≤ b ∧ b < wr.heap.size ∧ ∀ g, (Value.slice ra acc.length rc).ownBlock = some g → b ≠ g) t u) (hown : w4.ownsRow (N + 2) 70 1 v' (acc.length + 1) (ul ++ [u])) (hgr : wr.grownBy w4 (Value.slice ra acc.length rc).ownBlock) (hat : v'.ownBlock = (Value.slice ra acc.length rc).ownBlock ∨ ∀ g, v'.ownBlock = some g → wr.heap.size ≤ g) :
    ∃ ra' rc', v' = .slice ra' (acc.length + 1) rc' ∧ ISt w (w4.setCell ⟨N + 1, 1, none⟩ v') N G fb p a n c nx met ra' rc' (acc ++ [t]) (ul ++ [u]) (w4.setCell ⟨N + 1, 1, none⟩ v').heap.size ∧ w4.heap[N + 1]? = some (.cells #[.int .i64 p, .slice ra acc.length rc] 101) := by
  obtain ⟨ra', rc', rfl⟩ := own_shape hown
  have hz : (acc ++ [t]).length = acc.length + 1 := by simp
  have l := h.lt
  have g := h.glt
  have hs := h.sz
  have hst := fr_setT w4 (N + 1) 1 (.slice ra' (acc.length + 1) rc')
  have hG : ∀ k, k < wr.heap.size → (∀ g, (Value.slice ra acc.length rc).ownBlock = some g → k ≠ g) → w4.heap[k]? = wr.heap[k]? := fun k hk1 hk2 => hgr.block k hk1 (fun e => hk2 k e.symm rfl)
  have hlow : ∀ k, k < N + 2 → w4.heap[k]? = wr.heap[k]? := fun k hk => hG k (by omega) (fun g' hg' e => by have := (h.row.lt g' hg').1; omega)
  have hs4 := hgr.size
  have hs5 : (w4.setCell ⟨N + 1, 1, none⟩ (.slice ra' (acc.length + 1) rc')).heap.size = w4.heap.size := by simp [World.setCell]
  have kl := h.kle
  obtain ⟨Q, hd, hsub, hkid⟩ := h.kid
  have hnw : ∀ b, b < wr.heap.size → (∀ g, (Value.slice ra acc.length rc).ownBlock = some g → b ≠ g) → ∀ g, (Value.slice ra' (acc ++ [t]).length rc').ownBlock = some g → b ≠ g := fun b hb1 hb2 g' hg' => by
    rw [hz] at hg'
    rcases hat with e | e
    · rw [e] at hg'; exact hb2 g' hg'
    · have := e g' hg'; omega
  have hnode : ∀ (R : Nat → Prop) z x, (∀ b, R b → N + 2 ≤ b ∧ b < wr.heap.size ∧ ∀ g, (Value.slice ra acc.length rc).ownBlock = some g → b ≠ g) → GM wr R z x → GM (w4.setCell ⟨N + 1, 1, none⟩ (.slice ra' (acc.length + 1) rc')) R z x := fun R z x hR hz2 =>
    GM.keep z R R x (fun b hb => (hst.block b (by have := hR b hb; omega) (by have := hR b hb; omega)).trans (hG b (hR b hb).2.1 (hR b hb).2.2)) (fun _ h => h) hz2
  refine ⟨ra', rc', rfl, ⟨h.sz, (hst.block N (by omega) (by omega)).trans ((hlow N (by omega)).trans h.fb), ?_, h.gr.keep ((hst.block G (by omega) (by omega)).trans (hlow G (by omega))), ?_, ⟨fun i b => if i = acc.length then (K ≤ b ∧ N + 2 ≤ b ∧ b < wr.heap.size ∧ ∀ g, (Value.slice ra acc.length rc).ownBlock = some g → b ≠ g) else Q i b, fun i j b hi hj => ?_, fun i b hi => ?_, fun i z hi => ?_⟩, Nat.le_refl _, ?_, h.glt⟩, (hlow (N + 1) (by omega)).trans h.ib⟩
  · have := heap_setT ((hlow (N + 1) (by omega)).trans h.ib) 1 (.slice ra' (acc.length + 1) rc')
    rw [hz]
    simpa using this
  · rw [hz]
    exact owns_fr hown hst (fun g' hg' e => by have := (hown.lt g' hg').1; omega)
  · dsimp only at hi hj
    split at hi <;> split at hj
    · omega
    · have := hsub j b hj; omega
    · have := hsub i b hi; omega
    · exact hd i j b hi hj
  · dsimp only at hi
    rw [hs5]
    split at hi
    · exact ⟨hi.2.1, by omega, hnw b hi.2.2.1 hi.2.2.2⟩
    · have h9 := hsub i b hi
      exact ⟨h9.1, by omega, hnw b (by omega) h9.2.2⟩
  · have hul : ul.length = acc.length := by have := h.row.1; omega
    by_cases hi2 : i = acc.length
    · subst hi2
      simp only [if_true]
      rw [List.getElem?_append_right (Nat.le_refl _)] at hi
      simp at hi
      subst hi
      exact ⟨u, by rw [← hul, List.getElem?_append_right (Nat.le_refl _)]; simp, hnode _ t u (fun b hb => ⟨hb.2.1, hb.2.2⟩) hk⟩
    · have hi3 : i < acc.length := by
        have := (List.getElem?_eq_some_iff.1 hi).1
        simp at this
        omega
      rw [List.getElem?_append_left hi3] at hi
      obtain ⟨x, hx, hgx⟩ := hkid i z hi
      simp only [if_neg hi2]
      exact ⟨x, by rw [List.getElem?_append_left (by omega)]; exact hx, hnode _ z x (fun b hb => ⟨(hsub i b hb).1, by have := hsub i b hb; omega, (hsub i b hb).2.2⟩) hgx⟩
  · have hf := h.fr
    have hsz := hf.size
    exact ⟨hst.os.trans (hgr.os.trans hf.os), hst.tape.trans (hgr.tape.trans hf.tape), hst.output.trans (hgr.output.trans hf.output), by have := hst.size; omega, fun k hk1 hk2 => (hst.block k (by omega) (by omega)).trans ((hlow k (by omega)).trans (hf.block k hk1 hk2))⟩
/-- An inner node's growing, plain. -/
def innerRes (ts : List TN) (f : Nat) (x : TN) (nx : Nat) (met : Int → Bool) : Option (T × Nat × (Int → Bool)) :=
  if x.kids.length < 2 ∨ 4 < x.kids.length ∨ x.keys.length + 1 ≠ x.kids.length ∨ 0 < x.vals.length ∨ 0 < x.over.length then none
  else match grK x.page x.keys (gr ts f) x.kids [] nx met with
    | none => none
    | some (ys, nx', m') => some (⟨false, x.page, [], [], [], ys⟩, nx', m')
/-- What growNode does, with so much fuel. -/
def GNCall (ts : List TN) (f : Nat) (a : Option Addr) (n c A B G : Nat) : Prop := ∀ (nx : Nat) (met : Int → Bool) (w : World), nx ≤ ts.length → ts.length < nx + f → NodesAt w A B a n c ts → GrAt w G a n c nx met → Calls Try.prog 67 #[.pointer (some ⟨G, 0, none⟩)] w fun e w' => GrowAns w G a n c (gr ts f nx met) e w'
set_option maxHeartbeats 8000000 in
theorem growInner_any (ts : List TN) (hts : ts.length ≤ 1000) (f : Nat) (a : Option Addr) (n c A B G : Nat) (IH0 : GNCall ts f a n c A B G) (x : TN) (ka : Option Addr) (kn kc : Nat) (va : Option Addr) (vn vc : Nat) (oa : Option Addr) (on oc : Nat) (ya : Option Addr) (yn yc : Nat) (lf : Bool) (w : World) (nx : Nat) (met : Int → Bool) (hB : B ≤ G) (hnx : nx ≤ ts.length) (hfu : ts.length < nx + f) (hT : NodesAt w A B a n c ts) (hG : GrAt w G a n c nx met)
    (hK : StrsAt w A B ka kn kc x.keys) (hV : StrsAt w A B va vn vc x.vals) (hO : IntsAt w A B oa on oc x.over) (hY : IntsAt w A B ya yn yc x.kids) :
    Calls Try.prog 78 #[.pointer (some ⟨G, 0, none⟩), .agg #[.bool lf, .int .i64 x.page, .slice ka kn kc, .slice va vn vc, .slice oa on oc, .slice ya yn yc]] w fun e w' => GrowAns w G a n c (innerRes ts f x nx met) e w' := by
  obtain ⟨N, hN⟩ : ∃ N, w.heap.size = N := ⟨_, rfl⟩
  have HL : Hid (x.keys.length = kn ∧ x.vals.length = vn ∧ x.over.length = on ∧ x.kids.length = yn) := ⟨hK.1, hV.1, hO.1, hY.1⟩
  have hkm := Nat.le_trans hK.2.1 hK.2.2.1
  have hvm := Nat.le_trans hV.2.1 hV.2.2.1
  have hom := Nat.le_trans hO.2.1 hO.2.2.1
  have hym := Nat.le_trans hY.2.1 hY.2.2.1
  unfold maxLen at hkm hvm hom hym
  have hGl := hG.lt
  have HN : Hid (innerRes ts f x nx met = none ∨ ¬ (yn < 2 ∨ 4 < yn ∨ kn + 1 ≠ yn ∨ 0 < vn ∨ 0 < on)) := by
    by_cases h : yn < 2 ∨ 4 < yn ∨ kn + 1 ≠ yn ∨ 0 < vn ∨ 0 < on
    · left
      unfold innerRes
      rw [HL.out.1, HL.out.2.1, HL.out.2.2.1, HL.out.2.2.2, if_pos h]
    · exact .inr h
  have k0 := heap_alloc_new w (.cells #[.bool lf, .int .i64 x.page, .slice ka kn kc, .slice va vn vc, .slice oa on oc, .slice ya yn yc] 92)
  have b0 := (Below.refl w.heap.size w).alloc (Nat.le_refl _) (.cells #[.bool lf, .int .i64 x.page, .slice ka kn kc, .slice va vn vc, .slice oa on oc, .slice ya yn yc] 92)
  have z0 : (w.alloc (.cells #[.bool lf, .int .i64 x.page, .slice ka kn kc, .slice va vn vc, .slice oa on oc, .slice ya yn yc] 92)).heap.size = N + 1 := by simp [hN]
  rw [hN] at k0
  have HG : Hid (GrAt w G a n c nx met) := hG
  have HKK : Hid (∀ wr, Fr (fun k => k = G) w wr → StrsAt wr A B ka kn kc x.keys ∧ IntsAt wr A B ya yn yc x.kids ∧ NodesAt wr A B a n c ts) := fun wr hf => by
    have hk : Keeps A B w wr := fun k h1 h2 => hf.block k (by omega) (by omega)
    exact ⟨hK.keep hk, hY.keep hk, hT.keep hk⟩
  have IH : Hid (GNCall ts f a n c A B G) := IH0
  obtain ⟨p, hp⟩ : ∃ p, x.page = p := ⟨_, rfl⟩
  have HP : Hid (x.page = p) := hp
  rw [hp] at k0 b0 z0 ⊢
  clear hG hK hV hO hY hp IH0 hT
  obtain ⟨res, hres⟩ : ∃ res, innerRes ts f x nx met = res := ⟨_, rfl⟩
  have HRES : Hid (innerRes ts f x nx met = res) := hres
  rw [hres] at HN ⊢
  clear hres
  go_enter Try.func78, Try.ntmps78
  go_upto_region 1 with fail
  generalize w.alloc (.cells #[.bool lf, .int .i64 p, .slice ka kn kc, .slice va vn vc, .slice oa on oc, .slice ya yn yc] 92) = W0 at k0 b0 z0 ⊢
  obtain ⟨y0, y1, y2, y3, y4, y5⟩ := box6g k0
  have l0 : N < W0.heap.size := by omega
  by_cases tbad : yn < 2 ∨ 4 < yn ∨ kn + 1 ≠ yn ∨ 0 < vn ∨ 0 < on
  · have hno : res = none := HN.out.resolve_right (fun h => h tbad)
    have HAA : Hid (GrowAns w G a n c res (.returned (.tuple #[.nilIface, .bool false])) W0) := ⟨fun _ => rfl, (fun t nx' met' e => by rw [hno] at e; cases e), Fr.of_below b0⟩
    clear HN hno
    by_cases t1 : yn < 2
    · clear tbad
      go_wp2_with fail
      refine bodyPost_ret (v := .tuple #[.nilIface, .bool false]) (by simp [results, Try.results78, go_sem]) rfl ?_
      exact HAA.out
    by_cases t2 : 4 < yn
    · clear tbad
      go_wp2_with fail
      refine bodyPost_ret (v := .tuple #[.nilIface, .bool false]) (by simp [results, Try.results78, go_sem]) rfl ?_
      exact HAA.out
    by_cases t3 : kn + 1 ≠ yn
    · have s3 : ((kn : Int) != (yn : Int) - 1) = true := by simp; omega
      clear tbad t3
      go_wp2_with fail
      refine bodyPost_ret (v := .tuple #[.nilIface, .bool false]) (by simp [results, Try.results78, go_sem]) rfl ?_
      exact HAA.out
    have s3 : ((kn : Int) != (yn : Int) - 1) = false := by simp; omega
    have hk1 : kn ≤ 3 := by omega
    by_cases t4 : 0 < vn
    · clear tbad t3
      go_wp2_with fail
      refine bodyPost_ret (v := .tuple #[.nilIface, .bool false]) (by simp [results, Try.results78, go_sem]) rfl ?_
      exact HAA.out
    have t5 : 0 < on := by omega
    have hv0 : vn = 0 := by omega
    subst hv0
    clear tbad t3 t4
    go_wp2_with fail
    refine bodyPost_ret (v := .tuple #[.nilIface, .bool false]) (by simp [results, Try.results78, go_sem]) rfl ?_
    exact HAA.out
  clear HN
  have HR2 : Hid (res = match grK p x.keys (gr ts f) x.kids [] nx met with
    | none => none
    | some (ys, nx', m') => some (⟨false, p, [], [], [], ys⟩, nx', m')) := by
    show _ = _
    rw [← HRES.out]
    unfold innerRes
    have h := HL.out
    rw [if_neg (by omega), HP.out]
  have hy4 : 2 ≤ yn ∧ yn ≤ 4 := by omega
  have hkny : kn + 1 = yn := by omega
  have hv0 : vn = 0 := by omega
  have ho0 : on = 0 := by omega
  subst hv0
  subst ho0
  have s3 : ((kn : Int) != (yn : Int) - 1) = false := by simp; omega
  have ab := (Below.refl W0.heap.size W0).alloc (Nat.le_refl _) (.cells #[.int .i64 p, .slice none 0 0] 101)
  have k1 := heap_alloc_new W0 (.cells #[.int .i64 p, .slice none 0 0] 101)
  rw [z0] at k1
  have S1 : ISt w (W0.alloc (.cells #[.int .i64 p, .slice none 0 0] 101)) N G #[.bool lf, .int .i64 p, .slice ka kn kc, .slice va 0 vc, .slice oa 0 oc, .slice ya yn yc] p a n c nx met none 0 [] [] (W0.alloc (.cells #[.int .i64 p, .slice none 0 0] 101)).heap.size :=
    ⟨hN, (ab.block N (by omega)).trans k0, k1, HG.out.keep ((ab.block G (by omega)).trans (b0.block G hGl)), World.ownsRow_nil _ _ _ _, ⟨fun _ _ => False, fun _ _ _ h => h.elim, fun _ _ h => h.elim, fun i z hz => by simp at hz⟩, Nat.le_refl _, (Fr.of_below b0).trans (Fr.of_below ab), by omega⟩
  obtain ⟨i0, hi, hz0, hz1, hz2⟩ := info_parts info_node
  have HKL : Hid (x.keys.length = kn ∧ x.kids.length = yn) := ⟨HL.out.1, HL.out.2.2.2⟩
  clear tbad hkm
  go_upto_region 5 with fail
  generalize W0.alloc (.cells #[.int .i64 p, .slice none 0 0] 101) = W1 at S1 ⊢
  clear k0 k1 ab b0 y0 y1 y2 y3 y4 y5 HRES HG HL s3
  obtain ⟨y0, y1, y2, y3, y4, y5⟩ := box6g S1.fb
  have l1 : N < W1.heap.size := by have := S1.lt; omega
  go_wp2_with fail
  clear y0 y1 y2 y3 y4 y5 l1
  go_loopw [49] (fun i wr => ∃ (j : Nat) (ra : Option Addr) (rc : Nat) (acc : List T) (ul : List Value) (nj : Nat) (mj : Int → Bool), j ≤ yn ∧ i = .int .i64 j ∧ nj ≤ 1000 ∧ Hid (acc.length = j ∧ (nx ≤ nj ∧ nj ≤ ts.length) ∧ (∀ z ∈ acc, (z.good true = true ∧ 0 ≤ z.ht) ∧ z.nodes ≤ 1000) ∧ grK p x.keys (gr ts f) x.kids [] nx met = grK p x.keys (gr ts f) (x.kids.drop j) acc nj mj) ∧ ISt w wr N G #[.bool lf, .int .i64 p, .slice ka kn kc, .slice va 0 vc, .slice oa 0 oc, .slice ya yn yc] p a n c nj mj ra rc acc ul wr.heap.size) (fun i _ => yn - (intOf i).toNat)
  case atStart => exact ⟨0, none, 0, [], [], nx, met, Nat.zero_le _, rfl, by omega, ⟨rfl, ⟨Nat.le_refl _, hnx⟩, by simp, by simp⟩, S1⟩
  case round =>
    clear S1
    obtain ⟨j, ra, rc, acc, ul, nj, mj, hj, rfl, hnj3, HPR, S2⟩ := hrel
    have hsl := S2.lt
    by_cases hlt : j < yn
    · obtain ⟨hK2, hY2, hT2⟩ := HKK.out wr S2.fr
      obtain ⟨yb, yoff, rfl, hyb, hyf, ey⟩ := IntsAt.at hY2 hlt
      have HDJ : Hid (x.kids.drop j = x.kids.getD j 0 :: x.kids.drop (j + 1)) := by
        show _ = _
        have := HKL.out
        rw [List.drop_eq_getElem_cons (by omega)]
        simp [List.getD, show j < x.kids.length by omega]
      obtain ⟨num, hnum⟩ : ∃ num, x.kids.getD j 0 = num := ⟨_, rfl⟩
      rw [hnum] at ey hyf HDJ
      clear hnum hY2 hK2
      have hszz := S2.fr.size
      have l0 : N < wr.heap.size := by omega
      have hyb2 : yb < wr.heap.size := by omega
      have g1 := S2.gr.c1
      have gl := S2.gr.lt
      have FRW : Hid (Fr (fun k => k = G) w wr) := S2.fr
      obtain ⟨y0, y1, y2, y3, y4, y5⟩ := box6g S2.fb
      by_cases tn : num = nj
      · subst tn
        have snn : ((nj : Int) != (nj : Int)) = false := by simp
        have hIH := IH.out nj mj wr (by have := HPR.out; omega) (by have := HPR.out; omega) hT2 S2.gr
        go_upto_region 10 with fail
        go_wp2_with fail
        refine hIH.mono ?_
        clear hIH hT2 y0 y1 y2 y3 y4 y5 ey snn
        rintro e w1 ⟨hnone, hsome, hf1⟩
        have hacc := HPR.out.1
        have hgk : ∀ R, grK p x.keys (gr ts f) x.kids [] nx met = R → grK p x.keys (gr ts f) ((nj : Int) :: x.kids.drop (j + 1)) acc nj mj = R := fun R h => by rw [← HDJ.out, ← HPR.out.2.2.2]; exact h
        cases hgr : gr ts f nj mj with
        | none =>
          have HNO : Hid (res = none) := by
            show _ = _
            rw [HR2.out, HPR.out.2.2.2, HDJ.out]
            unfold grK
            rw [if_pos rfl, hgr]
          obtain rfl := hnone hgr
          have FRV : Hid (Fr (fun k => k = G) w w1.drew) := ⟨(FRW.out.trans hf1).os, (FRW.out.trans hf1).tape, (FRW.out.trans hf1).output, (FRW.out.trans hf1).size, (FRW.out.trans hf1).block⟩
          clear hnone hsome hgr hgk HPR HDJ S2 hf1 g1
          go_upto_region 11 with fail
          refine wp_region_noPanic ?_
          refine wp_region_held_drew (S := (fun _ : World => True)) (by kernel_rfl) (trivial) (fun hHeld => ?_)
          refine wpAnyH_take (i := 0) (oi := { dst := some 65, op := Op.move (Operand.tmp 11), type := 4, pos := "l3_tree.go:285", after := #[], guard := none }) (v := .bool false) rfl (by kernel_rfl) (by kernel_rfl) (by kernel_rfl) (fun _ _ _ h => h) (Or.inl ⟨by rfl, ?_⟩) (by assumption) ?_
          · intro wq hSw; (try dsimp only at hSw); go_simp
          try simp only [Act.put, List.setIfInBounds_toArray, List.set_cons_zero, List.set_cons_succ]
          refine wpAnyH_take (i := 1) (oi := { dst := some 66, op := Op.unOp UnOp.not 4 (Operand.tmp 65), type := 4, pos := "l3_tree.go:285", after := #[{ on := 0, ground := Ground.data }], guard := none }) (v := .bool true) rfl (by kernel_rfl) (by kernel_rfl) (by kernel_rfl) (fun _ _ _ h => h) (Or.inl ⟨by rfl, ?_⟩) (by assumption) ?_
          · intro wq hSw; (try dsimp only at hSw); go_simp
          try simp only [Act.put, List.setIfInBounds_toArray, List.set_cons_zero, List.set_cons_succ]
          refine wpAnyH_take (i := 2) (oi := { dst := some 67, op := Op.move (Operand.tmp 66), type := 4, pos := "l3_tree.go:285", after := #[{ on := 1, ground := Ground.data }], guard := none }) (v := .bool true) rfl (by kernel_rfl) (by kernel_rfl) (by kernel_rfl) (fun _ _ _ h => h) (Or.inl ⟨by rfl, ?_⟩) (by assumption) ?_
          · intro wq hSw; (try dsimp only at hSw); go_simp
          try simp only [Act.put, List.setIfInBounds_toArray, List.set_cons_zero, List.set_cons_succ]
          refine wpAnyH_take (i := 3) (oi := { dst := some 68, op := Op.move (Operand.tmp 7), type := 99, pos := "l3_tree.go:285", after := #[{ on := 2, ground := Ground.guard }], guard := some (2, false) }) (v := undef) rfl (by kernel_rfl) (by kernel_rfl) (by kernel_rfl) (fun _ _ _ h => h) (Or.inr ⟨by rfl, rfl⟩) (by assumption) ?_
          try simp only [Act.put, List.setIfInBounds_toArray, List.set_cons_zero, List.set_cons_succ]
          refine wpAnyH_take (i := 4) (oi := { dst := some 69, op := Op.move (Operand.tmp 10), type := 70, pos := "l3_tree.go:285", after := #[{ on := 2, ground := Ground.guard }], guard := some (2, false) }) (v := undef) rfl (by kernel_rfl) (by kernel_rfl) (by kernel_rfl) (fun _ _ _ h => h) (Or.inr ⟨by rfl, rfl⟩) (by assumption) ?_
          try simp only [Act.put, List.setIfInBounds_toArray, List.set_cons_zero, List.set_cons_succ]
          refine wpAnyH_take (i := 5) (oi := { dst := some 70, op := Op.call { callee := Callee.value (Operand.func 82), args := #[Operand.tmp 68, Operand.tmp 69], argTypes := #[99, 70] }, type := 4, pos := "l3_tree.go:285", after := #[{ on := 3, ground := Ground.data }, { on := 4, ground := Ground.data }, { on := 2, ground := Ground.chain }, { on := 2, ground := Ground.guard }], guard := some (2, false) }) (v := undef) rfl (by kernel_rfl) (by kernel_rfl) (by kernel_rfl) (fun _ _ _ h => h) (Or.inr ⟨by rfl, rfl⟩) (by assumption) ?_
          try simp only [Act.put, List.setIfInBounds_toArray, List.set_cons_zero, List.set_cons_succ]
          refine wpAnyH_take (i := 6) (oi := { dst := some 71, op := Op.unOp UnOp.not 4 (Operand.tmp 70), type := 4, pos := "l3_tree.go:285", after := #[{ on := 5, ground := Ground.data }, { on := 2, ground := Ground.guard }], guard := some (2, false) }) (v := undef) rfl (by kernel_rfl) (by kernel_rfl) (by kernel_rfl) (fun _ _ _ h => h) (Or.inr ⟨by rfl, rfl⟩) (by assumption) ?_
          try simp only [Act.put, List.setIfInBounds_toArray, List.set_cons_zero, List.set_cons_succ]
          refine wpAnyH_take (i := 7) (oi := { dst := some 72, op := Op.pick (Operand.tmp 67) (Operand.const (Value.bool true)) (Operand.tmp 71), type := 4, pos := "l3_tree.go:285", after := #[{ on := 2, ground := Ground.data }, { on := 6, ground := Ground.data }], guard := none }) (v := .bool true) rfl (by kernel_rfl) (by kernel_rfl) (by kernel_rfl) (fun _ _ _ h => h) (Or.inl ⟨by rfl, ?_⟩) (by assumption) ?_
          · intro wq hSw; (try dsimp only at hSw); go_simp
          try simp only [Act.put, List.setIfInBounds_toArray, List.set_cons_zero, List.set_cons_succ]
          refine wpAnyH_take (i := 8) (oi := { dst := some 73, op := Op.move (Operand.tmp 72), type := 4, pos := "l3_tree.go:285", after := #[{ on := 7, ground := Ground.data }, { on := 5, ground := Ground.chain }], guard := none }) (v := .bool true) rfl (by kernel_rfl) (by kernel_rfl) (by kernel_rfl) (fun _ _ _ h => h) (Or.inl ⟨by rfl, ?_⟩) (by assumption) ?_
          · intro wq hSw; (try dsimp only at hSw); go_simp
          try simp only [Act.put, List.setIfInBounds_toArray, List.set_cons_zero, List.set_cons_succ]
          refine wpAnyH_take (i := 9) (oi := { dst := some 74, op := Op.move (Operand.tmp 8), type := 3, pos := "l3_tree.go:285", after := #[{ on := 8, ground := Ground.guard }], guard := some (8, false) }) (v := undef) rfl (by kernel_rfl) (by kernel_rfl) (by kernel_rfl) (fun _ _ _ h => h) (Or.inr ⟨by rfl, rfl⟩) (by assumption) ?_
          try simp only [Act.put, List.setIfInBounds_toArray, List.set_cons_zero, List.set_cons_succ]
          refine wpAnyH_take (i := 10) (oi := { dst := some 75, op := Op.binOp BinOp.gtr 3 (Operand.tmp 74) (Operand.const (Value.int IntKind.i64 0)) 3, type := 4, pos := "l3_tree.go:285", after := #[{ on := 9, ground := Ground.data }, { on := 8, ground := Ground.guard }], guard := some (8, false) }) (v := undef) rfl (by kernel_rfl) (by kernel_rfl) (by kernel_rfl) (fun _ _ _ h => h) (Or.inr ⟨by rfl, rfl⟩) (by assumption) ?_
          try simp only [Act.put, List.setIfInBounds_toArray, List.set_cons_zero, List.set_cons_succ]
          refine wpAnyH_take (i := 11) (oi := { dst := some 76, op := Op.move (Operand.tmp 75), type := 4, pos := "l3_tree.go:285", after := #[{ on := 10, ground := Ground.data }, { on := 8, ground := Ground.chain }, { on := 8, ground := Ground.guard }], guard := some (8, false) }) (v := undef) rfl (by kernel_rfl) (by kernel_rfl) (by kernel_rfl) (fun _ _ _ h => h) (Or.inr ⟨by rfl, rfl⟩) (by assumption) ?_
          try simp only [Act.put, List.setIfInBounds_toArray, List.set_cons_zero, List.set_cons_succ]
          refine wpAnyH_take (i := 12) (oi := { dst := some 77, op := Op.move (Operand.tmp 10), type := 70, pos := "l3_tree.go:285", after := #[{ on := 11, ground := Ground.guard }], guard := some (11, true) }) (v := undef) rfl (by kernel_rfl) (by kernel_rfl) (by kernel_rfl) (fun _ _ _ h => h) (Or.inr ⟨by rfl, rfl⟩) (by assumption) ?_
          try simp only [Act.put, List.setIfInBounds_toArray, List.set_cons_zero, List.set_cons_succ]
          refine wpAnyH_take (i := 13) (oi := { dst := some 78, op := Op.call { callee := Callee.invoke (Operand.tmp 77) "loop.example/s02098/impl.least", args := #[], argTypes := #[] }, type := 9, pos := "l3_tree.go:285", after := #[{ on := 12, ground := Ground.data }, { on := 11, ground := Ground.chain }, { on := 11, ground := Ground.guard }], guard := some (11, true) }) (v := undef) rfl (by kernel_rfl) (by kernel_rfl) (by kernel_rfl) (fun _ _ _ h => h) (Or.inr ⟨by rfl, rfl⟩) (by assumption) ?_
          try simp only [Act.put, List.setIfInBounds_toArray, List.set_cons_zero, List.set_cons_succ]
          refine wpAnyH_take (i := 14) (oi := { dst := some 79, op := Op.fieldAddr 92 (Operand.tmp 3) 2, type := 0, pos := "l3_tree.go:285", after := #[{ on := 11, ground := Ground.guard }], guard := some (11, true) }) (v := undef) rfl (by kernel_rfl) (by kernel_rfl) (by kernel_rfl) (fun _ _ _ h => h) (Or.inr ⟨by rfl, rfl⟩) (by assumption) ?_
          try simp only [Act.put, List.setIfInBounds_toArray, List.set_cons_zero, List.set_cons_succ]
          refine wpAnyH_take (i := 15) (oi := { dst := some 80, op := Op.load 58 (Operand.tmp 79), type := 58, pos := "l3_tree.go:285", after := #[{ on := 14, ground := Ground.data }, { on := 11, ground := Ground.guard }], guard := some (11, true) }) (v := undef) rfl (by kernel_rfl) (by kernel_rfl) (by kernel_rfl) (fun _ _ _ h => h) (Or.inr ⟨by rfl, rfl⟩) (by assumption) ?_
          try simp only [Act.put, List.setIfInBounds_toArray, List.set_cons_zero, List.set_cons_succ]
          refine wpAnyH_take (i := 16) (oi := { dst := some 81, op := Op.move (Operand.tmp 8), type := 3, pos := "l3_tree.go:285", after := #[{ on := 11, ground := Ground.guard }], guard := some (11, true) }) (v := undef) rfl (by kernel_rfl) (by kernel_rfl) (by kernel_rfl) (fun _ _ _ h => h) (Or.inr ⟨by rfl, rfl⟩) (by assumption) ?_
          try simp only [Act.put, List.setIfInBounds_toArray, List.set_cons_zero, List.set_cons_succ]
          refine wpAnyH_take (i := 17) (oi := { dst := some 82, op := Op.binOp BinOp.sub 3 (Operand.tmp 81) (Operand.const (Value.int IntKind.i64 1)) 3, type := 3, pos := "l3_tree.go:285", after := #[{ on := 16, ground := Ground.data }, { on := 11, ground := Ground.guard }], guard := some (11, true) }) (v := undef) rfl (by kernel_rfl) (by kernel_rfl) (by kernel_rfl) (fun _ _ _ h => h) (Or.inr ⟨by rfl, rfl⟩) (by assumption) ?_
          try simp only [Act.put, List.setIfInBounds_toArray, List.set_cons_zero, List.set_cons_succ]
          refine wpAnyH_take (i := 18) (oi := { dst := some 83, op := Op.indexAddr 58 (Operand.tmp 80) (Operand.tmp 82), type := 0, pos := "l3_tree.go:285", after := #[{ on := 15, ground := Ground.data }, { on := 17, ground := Ground.data }, { on := 11, ground := Ground.guard }], guard := some (11, true) }) (v := undef) rfl (by kernel_rfl) (by kernel_rfl) (by kernel_rfl) (fun _ _ _ h => h) (Or.inr ⟨by rfl, rfl⟩) (by assumption) ?_
          try simp only [Act.put, List.setIfInBounds_toArray, List.set_cons_zero, List.set_cons_succ]
          refine wpAnyH_take (i := 19) (oi := { dst := some 84, op := Op.load 9 (Operand.tmp 83), type := 9, pos := "l3_tree.go:285", after := #[{ on := 18, ground := Ground.data }, { on := 11, ground := Ground.guard }], guard := some (11, true) }) (v := undef) rfl (by kernel_rfl) (by kernel_rfl) (by kernel_rfl) (fun _ _ _ h => h) (Or.inr ⟨by rfl, rfl⟩) (by assumption) ?_
          try simp only [Act.put, List.setIfInBounds_toArray, List.set_cons_zero, List.set_cons_succ]
          refine wpAnyH_take (i := 20) (oi := { dst := some 85, op := Op.binOp BinOp.neq 9 (Operand.tmp 78) (Operand.tmp 84) 9, type := 4, pos := "l3_tree.go:285", after := #[{ on := 13, ground := Ground.data }, { on := 19, ground := Ground.data }, { on := 11, ground := Ground.guard }], guard := some (11, true) }) (v := undef) rfl (by kernel_rfl) (by kernel_rfl) (by kernel_rfl) (fun _ _ _ h => h) (Or.inr ⟨by rfl, rfl⟩) (by assumption) ?_
          try simp only [Act.put, List.setIfInBounds_toArray, List.set_cons_zero, List.set_cons_succ]
          refine wpAnyH_take (i := 21) (oi := { dst := some 86, op := Op.pick (Operand.tmp 76) (Operand.tmp 85) (Operand.const (Value.bool false)), type := 4, pos := "l3_tree.go:285", after := #[{ on := 11, ground := Ground.data }, { on := 20, ground := Ground.data }, { on := 8, ground := Ground.guard }], guard := some (8, false) }) (v := undef) rfl (by kernel_rfl) (by kernel_rfl) (by kernel_rfl) (fun _ _ _ h => h) (Or.inr ⟨by rfl, rfl⟩) (by assumption) ?_
          try simp only [Act.put, List.setIfInBounds_toArray, List.set_cons_zero, List.set_cons_succ]
          refine wpAnyH_take (i := 22) (oi := { dst := some 87, op := Op.pick (Operand.tmp 73) (Operand.const (Value.bool true)) (Operand.tmp 86), type := 4, pos := "l3_tree.go:285", after := #[{ on := 8, ground := Ground.data }, { on := 21, ground := Ground.data }], guard := none }) (v := .bool true) rfl (by kernel_rfl) (by kernel_rfl) (by kernel_rfl) (fun _ _ _ h => h) (Or.inl ⟨by rfl, ?_⟩) (by assumption) ?_
          · intro wq hSw; (try dsimp only at hSw); go_simp
          try simp only [Act.put, List.setIfInBounds_toArray, List.set_cons_zero, List.set_cons_succ]
          refine wpAnyH_done (by kernel_rfl) ?_ _
          refine NoPanic.normal ?_
          go_wp2_with fail
          refine bodyPost_ret (v := .tuple #[.nilIface, .bool false]) (by simp [results, Try.results78, go_sem]) rfl ?_
          exact ⟨fun _ => rfl, (fun t' nx' met' h => by rw [HNO.out] at h; cases h), FRV.out⟩
        | some val =>
          obtain ⟨t, nx', m'⟩ := val
          obtain ⟨u, rfl, hGI, hGr⟩ := hsome t nx' m' hgr
          obtain ⟨gs1, gs2, gs3, gs4, gs5, gs6, gs7, gs8⟩ := gr_some ts f nj mj t nx' m' (by have := HPR.out; omega) hgr
          have hnt : t.nodes ≤ 1000 := by have := gs4.1; omega
          have hnx' : nx' ≤ ts.length := by have := gs4.1; omega
          have hnx2 : nj ≤ nx' := by omega
          obtain ⟨ty, v, rfl⟩ := hGI.shape
          have hOBJ : GObj w1.drew t ty v := GIs.obj (P := fun b => wr.heap.size ≤ b ∧ b < w1.heap.size) t ty v (by omega) ⟨true, gs5⟩ gs6 (GM.see _ _ _ hGI).drew
          have S3 := S2.go hf1 hGr
          have FRV : Hid (Fr (fun k => k = G) w w1.drew) := ⟨S3.fr.os, S3.fr.tape, S3.fr.output, S3.fr.size, S3.fr.block⟩
          have hnode : GM w1 (fun b => wr.heap.size ≤ b ∧ N + 2 ≤ b ∧ b < w1.heap.size ∧ ∀ g, (Value.slice ra acc.length rc).ownBlock = some g → b ≠ g) t (.iface ty v) :=
            GM.keep t _ _ _ (fun _ _ => rfl) (fun b hb => ⟨hb.1, by omega, hb.2, fun g hg => by have := (S2.row.lt g hg).2; omega⟩) hGI
          have hfirst : ∀ q r, acc = q :: r → ∃ b ty0 v0, ra = some ⟨b, 0, none⟩ ∧ w1.drew.cell? ⟨b, 0, none⟩ = some (.iface ty0 v0) ∧ Obs w1.drew ty0 v0 "loop.example/s02098/impl.height" (.int .i64 q.ht) := by
            intro q r hq
            obtain ⟨_, _, _, hkd⟩ := S3.kid
            obtain ⟨uq, huq, hgq⟩ := hkd 0 q (by rw [hq]; rfl)
            obtain ⟨ty0, v0, rfl⟩ := hgq.shape
            have hq2 := HPR.out.2.2.1 q (by rw [hq]; exact List.mem_cons_self ..)
            have hrow := S3.row
            rcases hrow.2 with ⟨_, e2⟩ | ⟨g, cap, cur, e, _⟩
            · rw [hq] at e2; simp at e2
            · have hsome : ra = some ⟨g, 0, none⟩ := by simp only [Value.slice.injEq] at e; exact e.1
              refine ⟨g, ty0, v0, hsome, ?_, (GIs.obj (w := w1.drew) q ty0 v0 (by omega) ⟨true, hq2.1.1⟩ hq2.1.2 (GM.see _ _ _ hgq).drew).height⟩
              rw [hsome] at hrow
              have hc := hrow.cellAt 0 (by rw [hq]; simp)
              rw [huq] at hc
              exact hc
          have hib := S3.ib
          rw [hacc] at hib
          have HHOLD0 : Hid _ := mayHold_any w1.drew (N + 1) p ra j rc ty v t acc hib hacc (by omega) (by
            have h9 := gs5
            rw [T.good_eq] at h9
            simp only [Bool.and_eq_true, decide_eq_true_eq] at h9
            have := h9.1.1.1.1.2
            omega) hOBJ hfirst
          have hnone2 : holdB p acc t = false → res = none := fun h => by
            rw [HR2.out, HPR.out.2.2.2, HDJ.out]
            unfold grK
            rw [if_pos rfl, hgr]
            simp [h]
          have HSTEP0 : Hid (holdB p acc t = true → (acc.length = 0 ∨ t.low = x.keys.getD (acc.length - 1) ByteArray.empty) → grK p x.keys (gr ts f) x.kids [] nx met = grK p x.keys (gr ts f) (x.kids.drop (j + 1)) (acc ++ [t]) nx' m') := by
            intro h1 h2
            rw [HPR.out.2.2.2, HDJ.out]
            conv => lhs; unfold grK
            rw [if_pos rfl, hgr]
            have hc : (holdB p acc t && (decide (acc.length = 0) || decide (t.low = x.keys.getD (acc.length - 1) ByteArray.empty))) = true := by
              rw [h1, Bool.true_and, Bool.or_eq_true]
              exact h2.imp (by simp) (by simp)
            simp only [hc, if_true]
          have HLOW0 : Hid (¬ (acc.length = 0 ∨ t.low = x.keys.getD (acc.length - 1) ByteArray.empty) → res = none) := by
            intro h2
            rw [HR2.out, HPR.out.2.2.2, HDJ.out]
            unfold grK
            rw [if_pos rfl, hgr]
            have hc : (holdB p acc t && (decide (acc.length = 0) || decide (t.low = x.keys.getD (acc.length - 1) ByteArray.empty))) = false := by
              rw [Bool.and_eq_false_iff]
              right
              simp only [Bool.or_eq_false_iff, decide_eq_false_iff_not]
              exact ⟨fun h => h2 (.inl h), fun h => h2 (.inr h)⟩
            simp only [hc, Bool.false_eq_true, if_false]
          have HALL : Hid (∀ z ∈ acc ++ [t], (z.good true = true ∧ 0 ≤ z.ht) ∧ z.nodes ≤ 1000) := fun z hz => by
            rcases List.mem_append.1 hz with hz | hz
            · exact HPR.out.2.2.1 z hz
            · simp at hz; subst hz; exact ⟨⟨gs5, gs6⟩, hnt⟩
          have HNJ : Hid (nx ≤ nj) := HPR.out.2.1.1
          have HACC : Hid (acc.length = j) := hacc
          have HNODE : Hid _ := hnode
          have HS3 : Hid _ := S3
          have hls : 0 < t.size → Obs w1.drew ty v "loop.example/s02098/impl.least" (.string t.low) := hOBJ.least
          obtain ⟨y0, y1, y2, y3, y4, y5⟩ := box6g (S3.fb)
          have hKd := (HKK.out w1 S3.fr).1
          clear hnone hsome hgk HDJ S2 hf1 hGI hGr gs1 gs2 gs3 gs4 gs7 gs8 hOBJ hnode hfirst hib HPR g1 hacc y0 y1 y3 y4 y5 S3 hgr
          obtain ⟨hb', hhb⟩ : ∃ hb', holdB p acc t = hb' := ⟨_, rfl⟩
          have HHOLD : Hid (Calls Try.prog 82 #[.pointer (some ⟨N + 1, 0, none⟩), .iface ty v] w1.drew fun e w' => e = .returned (.bool hb') ∧ w' = w1.drew) := by rw [← hhb]; exact HHOLD0.out
          rw [hhb] at hnone2 HSTEP0
          have hszt : hb' = true → 0 < t.size := fun h => by
            rw [h] at hhb
            rw [holdB_eq] at hhb
            simp only [Bool.and_eq_true, decide_eq_true_eq] at hhb
            omega
          clear hhb HHOLD0
          have ly : N < w1.heap.size := lt_of_cellG y2
          go_upto_region 11 with fail
          cases hb'
          · have HNO : Hid (res = none) := hnone2 rfl
            clear hnone2 HSTEP0 HLOW0 hls hszt HNODE HS3
            refine wp_region_noPanic ?_
            refine wp_region_held_drew (S := (fun _ : World => True)) (by kernel_rfl) (trivial) (fun hHeld => ?_)
            refine wpAnyH_take (i := 0) (oi := { dst := some 65, op := Op.move (Operand.tmp 11), type := 4, pos := "l3_tree.go:285", after := #[], guard := none }) (v := .bool true) rfl (by kernel_rfl) (by kernel_rfl) (by kernel_rfl) (fun _ _ _ h => h) (Or.inl ⟨by rfl, ?_⟩) (by assumption) ?_
            · intro wq hSw; (try dsimp only at hSw); go_simp
            try simp only [Act.put, List.setIfInBounds_toArray, List.set_cons_zero, List.set_cons_succ]
            refine wpAnyH_take (i := 1) (oi := { dst := some 66, op := Op.unOp UnOp.not 4 (Operand.tmp 65), type := 4, pos := "l3_tree.go:285", after := #[{ on := 0, ground := Ground.data }], guard := none }) (v := .bool false) rfl (by kernel_rfl) (by kernel_rfl) (by kernel_rfl) (fun _ _ _ h => h) (Or.inl ⟨by rfl, ?_⟩) (by assumption) ?_
            · intro wq hSw; (try dsimp only at hSw); go_simp
            try simp only [Act.put, List.setIfInBounds_toArray, List.set_cons_zero, List.set_cons_succ]
            refine wpAnyH_take (i := 2) (oi := { dst := some 67, op := Op.move (Operand.tmp 66), type := 4, pos := "l3_tree.go:285", after := #[{ on := 1, ground := Ground.data }], guard := none }) (v := .bool false) rfl (by kernel_rfl) (by kernel_rfl) (by kernel_rfl) (fun _ _ _ h => h) (Or.inl ⟨by rfl, ?_⟩) (by assumption) ?_
            · intro wq hSw; (try dsimp only at hSw); go_simp
            try simp only [Act.put, List.setIfInBounds_toArray, List.set_cons_zero, List.set_cons_succ]
            refine wpAnyH_take (i := 3) (oi := { dst := some 68, op := Op.move (Operand.tmp 7), type := 99, pos := "l3_tree.go:285", after := #[{ on := 2, ground := Ground.guard }], guard := some (2, false) }) (v := .pointer (some ⟨N + 1, 0, none⟩)) rfl (by kernel_rfl) (by kernel_rfl) (by kernel_rfl) (fun _ _ _ h => h) (Or.inl ⟨by rfl, ?_⟩) (by assumption) ?_
            · intro wq hSw; (try dsimp only at hSw); go_simp
            try simp only [Act.put, List.setIfInBounds_toArray, List.set_cons_zero, List.set_cons_succ]
            refine wpAnyH_take (i := 4) (oi := { dst := some 69, op := Op.move (Operand.tmp 10), type := 70, pos := "l3_tree.go:285", after := #[{ on := 2, ground := Ground.guard }], guard := some (2, false) }) (v := .iface ty v) rfl (by kernel_rfl) (by kernel_rfl) (by kernel_rfl) (fun _ _ _ h => h) (Or.inl ⟨by rfl, ?_⟩) (by assumption) ?_
            · intro wq hSw; (try dsimp only at hSw); go_simp
            try simp only [Act.put, List.setIfInBounds_toArray, List.set_cons_zero, List.set_cons_succ]
            refine wpAnyH_ready (rs := [5]) (by kernel_rfl) (by simp) ?_
            refine AllReadyH.cons (o := { dst := some 70, op := Op.call { callee := Callee.value (Operand.func 82), args := #[Operand.tmp 68, Operand.tmp 69], argTypes := #[99, 70] }, type := 4, pos := "l3_tree.go:285", after := #[{ on := 3, ground := Ground.data }, { on := 4, ground := Ground.data }, { on := 2, ground := Ground.chain }, { on := 2, ground := Ground.guard }], guard := some (2, false) }) rfl (fun K hK => ?_) AllReadyH.nil
            go_simp
            refine (HHOLD.out).mono ?_
            rintro e w9 ⟨rfl, rfl⟩
            go_wp2_with fail
            refine hK.out _ _ (trivial) (fun hHeld => ?_)
            clear hK K
            try simp only [Act.put, List.setIfInBounds_toArray, List.set_cons_zero, List.set_cons_succ]
            refine wpAnyH_take (i := 6) (oi := { dst := some 71, op := Op.unOp UnOp.not 4 (Operand.tmp 70), type := 4, pos := "l3_tree.go:285", after := #[{ on := 5, ground := Ground.data }, { on := 2, ground := Ground.guard }], guard := some (2, false) }) (v := .bool true) rfl (by kernel_rfl) (by kernel_rfl) (by kernel_rfl) (fun _ _ _ h => h) (Or.inl ⟨by rfl, ?_⟩) (by assumption) ?_
            · intro wq hSw; (try dsimp only at hSw); go_simp
            try simp only [Act.put, List.setIfInBounds_toArray, List.set_cons_zero, List.set_cons_succ]
            refine wpAnyH_take (i := 7) (oi := { dst := some 72, op := Op.pick (Operand.tmp 67) (Operand.const (Value.bool true)) (Operand.tmp 71), type := 4, pos := "l3_tree.go:285", after := #[{ on := 2, ground := Ground.data }, { on := 6, ground := Ground.data }], guard := none }) (v := .bool true) rfl (by kernel_rfl) (by kernel_rfl) (by kernel_rfl) (fun _ _ _ h => h) (Or.inl ⟨by rfl, ?_⟩) (by assumption) ?_
            · intro wq hSw; (try dsimp only at hSw); go_simp
            try simp only [Act.put, List.setIfInBounds_toArray, List.set_cons_zero, List.set_cons_succ]
            refine wpAnyH_take (i := 8) (oi := { dst := some 73, op := Op.move (Operand.tmp 72), type := 4, pos := "l3_tree.go:285", after := #[{ on := 7, ground := Ground.data }, { on := 5, ground := Ground.chain }], guard := none }) (v := .bool true) rfl (by kernel_rfl) (by kernel_rfl) (by kernel_rfl) (fun _ _ _ h => h) (Or.inl ⟨by rfl, ?_⟩) (by assumption) ?_
            · intro wq hSw; (try dsimp only at hSw); go_simp
            try simp only [Act.put, List.setIfInBounds_toArray, List.set_cons_zero, List.set_cons_succ]
            refine wpAnyH_take (i := 9) (oi := { dst := some 74, op := Op.move (Operand.tmp 8), type := 3, pos := "l3_tree.go:285", after := #[{ on := 8, ground := Ground.guard }], guard := some (8, false) }) (v := undef) rfl (by kernel_rfl) (by kernel_rfl) (by kernel_rfl) (fun _ _ _ h => h) (Or.inr ⟨by rfl, rfl⟩) (by assumption) ?_
            try simp only [Act.put, List.setIfInBounds_toArray, List.set_cons_zero, List.set_cons_succ]
            refine wpAnyH_take (i := 10) (oi := { dst := some 75, op := Op.binOp BinOp.gtr 3 (Operand.tmp 74) (Operand.const (Value.int IntKind.i64 0)) 3, type := 4, pos := "l3_tree.go:285", after := #[{ on := 9, ground := Ground.data }, { on := 8, ground := Ground.guard }], guard := some (8, false) }) (v := undef) rfl (by kernel_rfl) (by kernel_rfl) (by kernel_rfl) (fun _ _ _ h => h) (Or.inr ⟨by rfl, rfl⟩) (by assumption) ?_
            try simp only [Act.put, List.setIfInBounds_toArray, List.set_cons_zero, List.set_cons_succ]
            refine wpAnyH_take (i := 11) (oi := { dst := some 76, op := Op.move (Operand.tmp 75), type := 4, pos := "l3_tree.go:285", after := #[{ on := 10, ground := Ground.data }, { on := 8, ground := Ground.chain }, { on := 8, ground := Ground.guard }], guard := some (8, false) }) (v := undef) rfl (by kernel_rfl) (by kernel_rfl) (by kernel_rfl) (fun _ _ _ h => h) (Or.inr ⟨by rfl, rfl⟩) (by assumption) ?_
            try simp only [Act.put, List.setIfInBounds_toArray, List.set_cons_zero, List.set_cons_succ]
            refine wpAnyH_take (i := 12) (oi := { dst := some 77, op := Op.move (Operand.tmp 10), type := 70, pos := "l3_tree.go:285", after := #[{ on := 11, ground := Ground.guard }], guard := some (11, true) }) (v := undef) rfl (by kernel_rfl) (by kernel_rfl) (by kernel_rfl) (fun _ _ _ h => h) (Or.inr ⟨by rfl, rfl⟩) (by assumption) ?_
            try simp only [Act.put, List.setIfInBounds_toArray, List.set_cons_zero, List.set_cons_succ]
            refine wpAnyH_take (i := 13) (oi := { dst := some 78, op := Op.call { callee := Callee.invoke (Operand.tmp 77) "loop.example/s02098/impl.least", args := #[], argTypes := #[] }, type := 9, pos := "l3_tree.go:285", after := #[{ on := 12, ground := Ground.data }, { on := 11, ground := Ground.chain }, { on := 11, ground := Ground.guard }], guard := some (11, true) }) (v := undef) rfl (by kernel_rfl) (by kernel_rfl) (by kernel_rfl) (fun _ _ _ h => h) (Or.inr ⟨by rfl, rfl⟩) (by assumption) ?_
            try simp only [Act.put, List.setIfInBounds_toArray, List.set_cons_zero, List.set_cons_succ]
            refine wpAnyH_take (i := 14) (oi := { dst := some 79, op := Op.fieldAddr 92 (Operand.tmp 3) 2, type := 0, pos := "l3_tree.go:285", after := #[{ on := 11, ground := Ground.guard }], guard := some (11, true) }) (v := undef) rfl (by kernel_rfl) (by kernel_rfl) (by kernel_rfl) (fun _ _ _ h => h) (Or.inr ⟨by rfl, rfl⟩) (by assumption) ?_
            try simp only [Act.put, List.setIfInBounds_toArray, List.set_cons_zero, List.set_cons_succ]
            refine wpAnyH_take (i := 15) (oi := { dst := some 80, op := Op.load 58 (Operand.tmp 79), type := 58, pos := "l3_tree.go:285", after := #[{ on := 14, ground := Ground.data }, { on := 11, ground := Ground.guard }], guard := some (11, true) }) (v := undef) rfl (by kernel_rfl) (by kernel_rfl) (by kernel_rfl) (fun _ _ _ h => h) (Or.inr ⟨by rfl, rfl⟩) (by assumption) ?_
            try simp only [Act.put, List.setIfInBounds_toArray, List.set_cons_zero, List.set_cons_succ]
            refine wpAnyH_take (i := 16) (oi := { dst := some 81, op := Op.move (Operand.tmp 8), type := 3, pos := "l3_tree.go:285", after := #[{ on := 11, ground := Ground.guard }], guard := some (11, true) }) (v := undef) rfl (by kernel_rfl) (by kernel_rfl) (by kernel_rfl) (fun _ _ _ h => h) (Or.inr ⟨by rfl, rfl⟩) (by assumption) ?_
            try simp only [Act.put, List.setIfInBounds_toArray, List.set_cons_zero, List.set_cons_succ]
            refine wpAnyH_take (i := 17) (oi := { dst := some 82, op := Op.binOp BinOp.sub 3 (Operand.tmp 81) (Operand.const (Value.int IntKind.i64 1)) 3, type := 3, pos := "l3_tree.go:285", after := #[{ on := 16, ground := Ground.data }, { on := 11, ground := Ground.guard }], guard := some (11, true) }) (v := undef) rfl (by kernel_rfl) (by kernel_rfl) (by kernel_rfl) (fun _ _ _ h => h) (Or.inr ⟨by rfl, rfl⟩) (by assumption) ?_
            try simp only [Act.put, List.setIfInBounds_toArray, List.set_cons_zero, List.set_cons_succ]
            refine wpAnyH_take (i := 18) (oi := { dst := some 83, op := Op.indexAddr 58 (Operand.tmp 80) (Operand.tmp 82), type := 0, pos := "l3_tree.go:285", after := #[{ on := 15, ground := Ground.data }, { on := 17, ground := Ground.data }, { on := 11, ground := Ground.guard }], guard := some (11, true) }) (v := undef) rfl (by kernel_rfl) (by kernel_rfl) (by kernel_rfl) (fun _ _ _ h => h) (Or.inr ⟨by rfl, rfl⟩) (by assumption) ?_
            try simp only [Act.put, List.setIfInBounds_toArray, List.set_cons_zero, List.set_cons_succ]
            refine wpAnyH_take (i := 19) (oi := { dst := some 84, op := Op.load 9 (Operand.tmp 83), type := 9, pos := "l3_tree.go:285", after := #[{ on := 18, ground := Ground.data }, { on := 11, ground := Ground.guard }], guard := some (11, true) }) (v := undef) rfl (by kernel_rfl) (by kernel_rfl) (by kernel_rfl) (fun _ _ _ h => h) (Or.inr ⟨by rfl, rfl⟩) (by assumption) ?_
            try simp only [Act.put, List.setIfInBounds_toArray, List.set_cons_zero, List.set_cons_succ]
            refine wpAnyH_take (i := 20) (oi := { dst := some 85, op := Op.binOp BinOp.neq 9 (Operand.tmp 78) (Operand.tmp 84) 9, type := 4, pos := "l3_tree.go:285", after := #[{ on := 13, ground := Ground.data }, { on := 19, ground := Ground.data }, { on := 11, ground := Ground.guard }], guard := some (11, true) }) (v := undef) rfl (by kernel_rfl) (by kernel_rfl) (by kernel_rfl) (fun _ _ _ h => h) (Or.inr ⟨by rfl, rfl⟩) (by assumption) ?_
            try simp only [Act.put, List.setIfInBounds_toArray, List.set_cons_zero, List.set_cons_succ]
            refine wpAnyH_take (i := 21) (oi := { dst := some 86, op := Op.pick (Operand.tmp 76) (Operand.tmp 85) (Operand.const (Value.bool false)), type := 4, pos := "l3_tree.go:285", after := #[{ on := 11, ground := Ground.data }, { on := 20, ground := Ground.data }, { on := 8, ground := Ground.guard }], guard := some (8, false) }) (v := undef) rfl (by kernel_rfl) (by kernel_rfl) (by kernel_rfl) (fun _ _ _ h => h) (Or.inr ⟨by rfl, rfl⟩) (by assumption) ?_
            try simp only [Act.put, List.setIfInBounds_toArray, List.set_cons_zero, List.set_cons_succ]
            refine wpAnyH_take (i := 22) (oi := { dst := some 87, op := Op.pick (Operand.tmp 73) (Operand.const (Value.bool true)) (Operand.tmp 86), type := 4, pos := "l3_tree.go:285", after := #[{ on := 8, ground := Ground.data }, { on := 21, ground := Ground.data }], guard := none }) (v := .bool true) rfl (by kernel_rfl) (by kernel_rfl) (by kernel_rfl) (fun _ _ _ h => h) (Or.inl ⟨by rfl, ?_⟩) (by assumption) ?_
            · intro wq hSw; (try dsimp only at hSw); go_simp
            try simp only [Act.put, List.setIfInBounds_toArray, List.set_cons_zero, List.set_cons_succ]
            refine wpAnyH_done (by kernel_rfl) ?_ _
            refine NoPanic.normal ?_
            go_wp2_with fail
            refine bodyPost_ret (v := .tuple #[.nilIface, .bool false]) (by simp [results, Try.results78, go_sem]) rfl ?_
            exact ⟨fun _ => rfl, (fun t' nx' met' h => by rw [HNO.out] at h; cases h), FRV.out⟩
          · have hl2 := hls (hszt rfl)
            clear hnone2 hls hszt
            by_cases tj : j = 0
            · have HNX : Hid _ := HSTEP0.out rfl (.inl (by rw [HACC.out]; exact tj))
              clear HSTEP0 HLOW0 hl2
              subst tj
              refine wp_region_noPanic ?_
              refine wp_region_held_drew (S := (fun _ : World => True)) (by kernel_rfl) (trivial) (fun hHeld => ?_)
              refine wpAnyH_take (i := 0) (oi := { dst := some 65, op := Op.move (Operand.tmp 11), type := 4, pos := "l3_tree.go:285", after := #[], guard := none }) (v := .bool true) rfl (by kernel_rfl) (by kernel_rfl) (by kernel_rfl) (fun _ _ _ h => h) (Or.inl ⟨by rfl, ?_⟩) (by assumption) ?_
              · intro wq hSw; (try dsimp only at hSw); go_simp
              try simp only [Act.put, List.setIfInBounds_toArray, List.set_cons_zero, List.set_cons_succ]
              refine wpAnyH_take (i := 1) (oi := { dst := some 66, op := Op.unOp UnOp.not 4 (Operand.tmp 65), type := 4, pos := "l3_tree.go:285", after := #[{ on := 0, ground := Ground.data }], guard := none }) (v := .bool false) rfl (by kernel_rfl) (by kernel_rfl) (by kernel_rfl) (fun _ _ _ h => h) (Or.inl ⟨by rfl, ?_⟩) (by assumption) ?_
              · intro wq hSw; (try dsimp only at hSw); go_simp
              try simp only [Act.put, List.setIfInBounds_toArray, List.set_cons_zero, List.set_cons_succ]
              refine wpAnyH_take (i := 2) (oi := { dst := some 67, op := Op.move (Operand.tmp 66), type := 4, pos := "l3_tree.go:285", after := #[{ on := 1, ground := Ground.data }], guard := none }) (v := .bool false) rfl (by kernel_rfl) (by kernel_rfl) (by kernel_rfl) (fun _ _ _ h => h) (Or.inl ⟨by rfl, ?_⟩) (by assumption) ?_
              · intro wq hSw; (try dsimp only at hSw); go_simp
              try simp only [Act.put, List.setIfInBounds_toArray, List.set_cons_zero, List.set_cons_succ]
              refine wpAnyH_take (i := 3) (oi := { dst := some 68, op := Op.move (Operand.tmp 7), type := 99, pos := "l3_tree.go:285", after := #[{ on := 2, ground := Ground.guard }], guard := some (2, false) }) (v := .pointer (some ⟨N + 1, 0, none⟩)) rfl (by kernel_rfl) (by kernel_rfl) (by kernel_rfl) (fun _ _ _ h => h) (Or.inl ⟨by rfl, ?_⟩) (by assumption) ?_
              · intro wq hSw; (try dsimp only at hSw); go_simp
              try simp only [Act.put, List.setIfInBounds_toArray, List.set_cons_zero, List.set_cons_succ]
              refine wpAnyH_take (i := 4) (oi := { dst := some 69, op := Op.move (Operand.tmp 10), type := 70, pos := "l3_tree.go:285", after := #[{ on := 2, ground := Ground.guard }], guard := some (2, false) }) (v := .iface ty v) rfl (by kernel_rfl) (by kernel_rfl) (by kernel_rfl) (fun _ _ _ h => h) (Or.inl ⟨by rfl, ?_⟩) (by assumption) ?_
              · intro wq hSw; (try dsimp only at hSw); go_simp
              try simp only [Act.put, List.setIfInBounds_toArray, List.set_cons_zero, List.set_cons_succ]
              refine wpAnyH_ready (rs := [5]) (by kernel_rfl) (by simp) ?_
              refine AllReadyH.cons (o := { dst := some 70, op := Op.call { callee := Callee.value (Operand.func 82), args := #[Operand.tmp 68, Operand.tmp 69], argTypes := #[99, 70] }, type := 4, pos := "l3_tree.go:285", after := #[{ on := 3, ground := Ground.data }, { on := 4, ground := Ground.data }, { on := 2, ground := Ground.chain }, { on := 2, ground := Ground.guard }], guard := some (2, false) }) rfl (fun K hK => ?_) AllReadyH.nil
              go_simp
              refine (HHOLD.out).mono ?_
              rintro e w9 ⟨rfl, rfl⟩
              go_wp2_with fail
              refine hK.out _ _ (trivial) (fun hHeld => ?_)
              clear hK K
              try simp only [Act.put, List.setIfInBounds_toArray, List.set_cons_zero, List.set_cons_succ]
              refine wpAnyH_take (i := 6) (oi := { dst := some 71, op := Op.unOp UnOp.not 4 (Operand.tmp 70), type := 4, pos := "l3_tree.go:285", after := #[{ on := 5, ground := Ground.data }, { on := 2, ground := Ground.guard }], guard := some (2, false) }) (v := .bool false) rfl (by kernel_rfl) (by kernel_rfl) (by kernel_rfl) (fun _ _ _ h => h) (Or.inl ⟨by rfl, ?_⟩) (by assumption) ?_
              · intro wq hSw; (try dsimp only at hSw); go_simp
              try simp only [Act.put, List.setIfInBounds_toArray, List.set_cons_zero, List.set_cons_succ]
              refine wpAnyH_take (i := 7) (oi := { dst := some 72, op := Op.pick (Operand.tmp 67) (Operand.const (Value.bool true)) (Operand.tmp 71), type := 4, pos := "l3_tree.go:285", after := #[{ on := 2, ground := Ground.data }, { on := 6, ground := Ground.data }], guard := none }) (v := .bool false) rfl (by kernel_rfl) (by kernel_rfl) (by kernel_rfl) (fun _ _ _ h => h) (Or.inl ⟨by rfl, ?_⟩) (by assumption) ?_
              · intro wq hSw; (try dsimp only at hSw); go_simp
              try simp only [Act.put, List.setIfInBounds_toArray, List.set_cons_zero, List.set_cons_succ]
              refine wpAnyH_take (i := 8) (oi := { dst := some 73, op := Op.move (Operand.tmp 72), type := 4, pos := "l3_tree.go:285", after := #[{ on := 7, ground := Ground.data }, { on := 5, ground := Ground.chain }], guard := none }) (v := .bool false) rfl (by kernel_rfl) (by kernel_rfl) (by kernel_rfl) (fun _ _ _ h => h) (Or.inl ⟨by rfl, ?_⟩) (by assumption) ?_
              · intro wq hSw; (try dsimp only at hSw); go_simp
              try simp only [Act.put, List.setIfInBounds_toArray, List.set_cons_zero, List.set_cons_succ]
              refine wpAnyH_take (i := 9) (oi := { dst := some 74, op := Op.move (Operand.tmp 8), type := 3, pos := "l3_tree.go:285", after := #[{ on := 8, ground := Ground.guard }], guard := some (8, false) }) (v := .int .i64 0) rfl (by kernel_rfl) (by kernel_rfl) (by kernel_rfl) (fun _ _ _ h => h) (Or.inl ⟨by rfl, ?_⟩) (by assumption) ?_
              · intro wq hSw; (try dsimp only at hSw); go_simp
              try simp only [Act.put, List.setIfInBounds_toArray, List.set_cons_zero, List.set_cons_succ]
              refine wpAnyH_take (i := 10) (oi := { dst := some 75, op := Op.binOp BinOp.gtr 3 (Operand.tmp 74) (Operand.const (Value.int IntKind.i64 0)) 3, type := 4, pos := "l3_tree.go:285", after := #[{ on := 9, ground := Ground.data }, { on := 8, ground := Ground.guard }], guard := some (8, false) }) (v := .bool false) rfl (by kernel_rfl) (by kernel_rfl) (by kernel_rfl) (fun _ _ _ h => h) (Or.inl ⟨by rfl, ?_⟩) (by assumption) ?_
              · intro wq hSw; (try dsimp only at hSw); go_simp
              try simp only [Act.put, List.setIfInBounds_toArray, List.set_cons_zero, List.set_cons_succ]
              refine wpAnyH_take (i := 11) (oi := { dst := some 76, op := Op.move (Operand.tmp 75), type := 4, pos := "l3_tree.go:285", after := #[{ on := 10, ground := Ground.data }, { on := 8, ground := Ground.chain }, { on := 8, ground := Ground.guard }], guard := some (8, false) }) (v := .bool false) rfl (by kernel_rfl) (by kernel_rfl) (by kernel_rfl) (fun _ _ _ h => h) (Or.inl ⟨by rfl, ?_⟩) (by assumption) ?_
              · intro wq hSw; (try dsimp only at hSw); go_simp
              try simp only [Act.put, List.setIfInBounds_toArray, List.set_cons_zero, List.set_cons_succ]
              refine wpAnyH_take (i := 12) (oi := { dst := some 77, op := Op.move (Operand.tmp 10), type := 70, pos := "l3_tree.go:285", after := #[{ on := 11, ground := Ground.guard }], guard := some (11, true) }) (v := undef) rfl (by kernel_rfl) (by kernel_rfl) (by kernel_rfl) (fun _ _ _ h => h) (Or.inr ⟨by rfl, rfl⟩) (by assumption) ?_
              try simp only [Act.put, List.setIfInBounds_toArray, List.set_cons_zero, List.set_cons_succ]
              refine wpAnyH_take (i := 13) (oi := { dst := some 78, op := Op.call { callee := Callee.invoke (Operand.tmp 77) "loop.example/s02098/impl.least", args := #[], argTypes := #[] }, type := 9, pos := "l3_tree.go:285", after := #[{ on := 12, ground := Ground.data }, { on := 11, ground := Ground.chain }, { on := 11, ground := Ground.guard }], guard := some (11, true) }) (v := undef) rfl (by kernel_rfl) (by kernel_rfl) (by kernel_rfl) (fun _ _ _ h => h) (Or.inr ⟨by rfl, rfl⟩) (by assumption) ?_
              try simp only [Act.put, List.setIfInBounds_toArray, List.set_cons_zero, List.set_cons_succ]
              refine wpAnyH_take (i := 14) (oi := { dst := some 79, op := Op.fieldAddr 92 (Operand.tmp 3) 2, type := 0, pos := "l3_tree.go:285", after := #[{ on := 11, ground := Ground.guard }], guard := some (11, true) }) (v := undef) rfl (by kernel_rfl) (by kernel_rfl) (by kernel_rfl) (fun _ _ _ h => h) (Or.inr ⟨by rfl, rfl⟩) (by assumption) ?_
              try simp only [Act.put, List.setIfInBounds_toArray, List.set_cons_zero, List.set_cons_succ]
              refine wpAnyH_take (i := 15) (oi := { dst := some 80, op := Op.load 58 (Operand.tmp 79), type := 58, pos := "l3_tree.go:285", after := #[{ on := 14, ground := Ground.data }, { on := 11, ground := Ground.guard }], guard := some (11, true) }) (v := undef) rfl (by kernel_rfl) (by kernel_rfl) (by kernel_rfl) (fun _ _ _ h => h) (Or.inr ⟨by rfl, rfl⟩) (by assumption) ?_
              try simp only [Act.put, List.setIfInBounds_toArray, List.set_cons_zero, List.set_cons_succ]
              refine wpAnyH_take (i := 16) (oi := { dst := some 81, op := Op.move (Operand.tmp 8), type := 3, pos := "l3_tree.go:285", after := #[{ on := 11, ground := Ground.guard }], guard := some (11, true) }) (v := undef) rfl (by kernel_rfl) (by kernel_rfl) (by kernel_rfl) (fun _ _ _ h => h) (Or.inr ⟨by rfl, rfl⟩) (by assumption) ?_
              try simp only [Act.put, List.setIfInBounds_toArray, List.set_cons_zero, List.set_cons_succ]
              refine wpAnyH_take (i := 17) (oi := { dst := some 82, op := Op.binOp BinOp.sub 3 (Operand.tmp 81) (Operand.const (Value.int IntKind.i64 1)) 3, type := 3, pos := "l3_tree.go:285", after := #[{ on := 16, ground := Ground.data }, { on := 11, ground := Ground.guard }], guard := some (11, true) }) (v := undef) rfl (by kernel_rfl) (by kernel_rfl) (by kernel_rfl) (fun _ _ _ h => h) (Or.inr ⟨by rfl, rfl⟩) (by assumption) ?_
              try simp only [Act.put, List.setIfInBounds_toArray, List.set_cons_zero, List.set_cons_succ]
              refine wpAnyH_take (i := 18) (oi := { dst := some 83, op := Op.indexAddr 58 (Operand.tmp 80) (Operand.tmp 82), type := 0, pos := "l3_tree.go:285", after := #[{ on := 15, ground := Ground.data }, { on := 17, ground := Ground.data }, { on := 11, ground := Ground.guard }], guard := some (11, true) }) (v := undef) rfl (by kernel_rfl) (by kernel_rfl) (by kernel_rfl) (fun _ _ _ h => h) (Or.inr ⟨by rfl, rfl⟩) (by assumption) ?_
              try simp only [Act.put, List.setIfInBounds_toArray, List.set_cons_zero, List.set_cons_succ]
              refine wpAnyH_take (i := 19) (oi := { dst := some 84, op := Op.load 9 (Operand.tmp 83), type := 9, pos := "l3_tree.go:285", after := #[{ on := 18, ground := Ground.data }, { on := 11, ground := Ground.guard }], guard := some (11, true) }) (v := undef) rfl (by kernel_rfl) (by kernel_rfl) (by kernel_rfl) (fun _ _ _ h => h) (Or.inr ⟨by rfl, rfl⟩) (by assumption) ?_
              try simp only [Act.put, List.setIfInBounds_toArray, List.set_cons_zero, List.set_cons_succ]
              refine wpAnyH_take (i := 20) (oi := { dst := some 85, op := Op.binOp BinOp.neq 9 (Operand.tmp 78) (Operand.tmp 84) 9, type := 4, pos := "l3_tree.go:285", after := #[{ on := 13, ground := Ground.data }, { on := 19, ground := Ground.data }, { on := 11, ground := Ground.guard }], guard := some (11, true) }) (v := undef) rfl (by kernel_rfl) (by kernel_rfl) (by kernel_rfl) (fun _ _ _ h => h) (Or.inr ⟨by rfl, rfl⟩) (by assumption) ?_
              try simp only [Act.put, List.setIfInBounds_toArray, List.set_cons_zero, List.set_cons_succ]
              refine wpAnyH_take (i := 21) (oi := { dst := some 86, op := Op.pick (Operand.tmp 76) (Operand.tmp 85) (Operand.const (Value.bool false)), type := 4, pos := "l3_tree.go:285", after := #[{ on := 11, ground := Ground.data }, { on := 20, ground := Ground.data }, { on := 8, ground := Ground.guard }], guard := some (8, false) }) (v := .bool false) rfl (by kernel_rfl) (by kernel_rfl) (by kernel_rfl) (fun _ _ _ h => h) (Or.inl ⟨by rfl, ?_⟩) (by assumption) ?_
              · intro wq hSw; (try dsimp only at hSw); go_simp
              try simp only [Act.put, List.setIfInBounds_toArray, List.set_cons_zero, List.set_cons_succ]
              refine wpAnyH_take (i := 22) (oi := { dst := some 87, op := Op.pick (Operand.tmp 73) (Operand.const (Value.bool true)) (Operand.tmp 86), type := 4, pos := "l3_tree.go:285", after := #[{ on := 8, ground := Ground.data }, { on := 21, ground := Ground.data }], guard := none }) (v := .bool false) rfl (by kernel_rfl) (by kernel_rfl) (by kernel_rfl) (fun _ _ _ h => h) (Or.inl ⟨by rfl, ?_⟩) (by assumption) ?_
              · intro wq hSw; (try dsimp only at hSw); go_simp
              try simp only [Act.put, List.setIfInBounds_toArray, List.set_cons_zero, List.set_cons_succ]
              refine wpAnyH_done (by kernel_rfl) ?_ _
              refine NoPanic.normal ?_
              have SD := HS3.out.below ((Below.refl w1.heap.size w1).drew)
              have ND := HNODE.out.drew
              have hacl : acc.length ≤ 4 := by have := HACC.out; omega
              have ND2 : GM w1.drew (fun b => wr.heap.size ≤ b ∧ N + 2 ≤ b ∧ b < w1.drew.heap.size ∧ ∀ g, (Value.slice ra acc.length rc).ownBlock = some g → b ≠ g) t (.iface ty v) := ND
              clear ND HNODE HS3 HHOLD hHeld y2 ly
              generalize w1.drew = V at SD ND2 FRV ⊢
              have ab := (Below.refl V.heap.size V).alloc (Nat.le_refl _) (.cells #[.iface ty v] 70)
              have SA := SD.below ab
              have NA : GM (V.alloc (.cells #[.iface ty v] 70)) (fun b => wr.heap.size ≤ b ∧ N + 2 ≤ b ∧ b < (V.alloc (.cells #[.iface ty v] 70)).heap.size ∧ ∀ g, (Value.slice ra acc.length rc).ownBlock = some g → b ≠ g) t (.iface ty v) := GM.keep t _ _ _ (fun b hb => ab.block b hb.2.2.1) (fun b hb => ⟨hb.1, hb.2.1, Nat.lt_of_lt_of_le hb.2.2.1 ab.size, hb.2.2.2⟩) ND2
              have hrow := SA.row
              obtain ⟨x0, x1⟩ := box_twoG SD.ib
              have hl1 := SD.lt
              have hNs : N + 2 ≤ (V.alloc (.cells #[.iface ty v] 70)).heap.size := by have := ab.size; omega
              have HPU : Hid (∀ v' w4, w4.ownsRow (N + 2) 70 1 v' (acc.length + 1) (ul ++ [.iface ty v]) → (V.alloc (.cells #[.iface ty v] 70)).grownBy w4 (Value.slice ra acc.length rc).ownBlock → (v'.ownBlock = (Value.slice ra acc.length rc).ownBlock ∨ ∀ g, v'.ownBlock = some g → (V.alloc (.cells #[.iface ty v] 70)).heap.size ≤ g) → _) := fun v' w4 h1 h2 h3 => SA.push NA h1 h2 h3
              have hcell := cell_one_new V (.iface ty v) 70
              clear SD ND2 SA NA ab
              go_wp2_with (at_builtin; refine wpList_append_ownD _ rfl _ _ 65 rfl (N + 2) 70 i0 _ 1 16 Try.underlying65 hi hz0 hz1 hz2 rfl (by decide) (.slice ra acc.length rc) acc.length ul rfl hrow ⟨V.heap.size, 0, none⟩ 1 1 [.iface ty v] rfl rfl hcell (by simp [Value.oneCell']) (by unfold maxLen; omega) (by omega) hNs ?_; intro v' w4 h1 h2 h3; obtain ⟨ra', rc', rfl, SP, XB4⟩ := HPU.out v' w4 h1 h2 h3; have l4 := (Array.getElem?_eq_some_iff.1 XB4).1; obtain ⟨m0, m1⟩ := box_twoG XB4; have f4 := thawT XB4; clear h1 h2 h3 HPU hrow hcell XB4 x0 x1)
              go_roundw
              case rel => exact ⟨0 + 1, ra', rc', acc ++ [t], ul ++ [.iface ty v], nx', m', by omega, by go_num, by omega, ⟨by rw [List.length_append, HACC.out]; rfl, ⟨by have := HNJ.out; omega, hnx'⟩, HALL.out, HNX.out⟩, SP⟩
              case measure => simp [intOf]; omega
            · obtain ⟨q, rfl⟩ : ∃ q, j = q + 1 := ⟨j - 1, by omega⟩
              obtain ⟨kb, koff, rfl, hkb, hkf, ek⟩ := StrsAt.at hKd (i := q) (by omega)
              have HSTEP : Hid (t.low = x.keys.getD q ByteArray.empty → grK p x.keys (gr ts f) x.kids [] nx met = grK p x.keys (gr ts f) (x.kids.drop (q + 1 + 1)) (acc ++ [t]) nx' m') := fun h => HSTEP0.out rfl (.inr (by rw [HACC.out]; exact h))
              have HLOW : Hid (¬ t.low = x.keys.getD q ByteArray.empty → res = none) := fun h => HLOW0.out (fun h2 => by
                rw [HACC.out] at h2
                rcases h2 with h2 | h2
                · omega
                · exact h h2)
              obtain ⟨ky, hky⟩ : ∃ ky, x.keys.getD q ByteArray.empty = ky := ⟨_, rfl⟩
              obtain ⟨lw, hlw⟩ : ∃ lw, t.low = lw := ⟨_, rfl⟩
              rw [hky, hlw] at HSTEP HLOW
              rw [hky] at ek
              rw [hlw] at hl2
              obtain ⟨ha9, f9, r9, hm9, hc9, hcall9⟩ := hl2
              have HLEAST : Hid (Calls Try.prog f9 #[r9] w1.drew fun e w' => e = .returned (.string lw) ∧ w' = w1.drew) := hcall9
              have hkl : kb < w1.heap.size := lt_of_cellG ek
              have hqk : q < kn := by omega
              have hwq : IntKind.i64.wrap (q : Int) = q := by rw [IntKind.wrap_i64]; omega
              clear HSTEP0 HLOW0 hky hlw hkf hcall9 hKd
              refine wp_region_noPanic ?_
              refine wp_region_held_drew (S := (fun w' : World => w'.cell? ⟨N, 2, none⟩ = some (.slice (some ⟨kb, koff, none⟩) kn kc) ∧ w'.cell? ⟨kb, koff + q, none⟩ = some (.string ky))) (by kernel_rfl) (⟨y2, ek⟩) (fun hHeld => ?_)
              refine wpAnyH_take (i := 0) (oi := { dst := some 65, op := Op.move (Operand.tmp 11), type := 4, pos := "l3_tree.go:285", after := #[], guard := none }) (v := .bool true) rfl (by kernel_rfl) (by kernel_rfl) (by kernel_rfl) (fun _ _ _ h => h) (Or.inl ⟨by rfl, ?_⟩) (by assumption) ?_
              · intro wq hSw; (try dsimp only at hSw); go_simp
              try simp only [Act.put, List.setIfInBounds_toArray, List.set_cons_zero, List.set_cons_succ]
              refine wpAnyH_take (i := 1) (oi := { dst := some 66, op := Op.unOp UnOp.not 4 (Operand.tmp 65), type := 4, pos := "l3_tree.go:285", after := #[{ on := 0, ground := Ground.data }], guard := none }) (v := .bool false) rfl (by kernel_rfl) (by kernel_rfl) (by kernel_rfl) (fun _ _ _ h => h) (Or.inl ⟨by rfl, ?_⟩) (by assumption) ?_
              · intro wq hSw; (try dsimp only at hSw); go_simp
              try simp only [Act.put, List.setIfInBounds_toArray, List.set_cons_zero, List.set_cons_succ]
              refine wpAnyH_take (i := 2) (oi := { dst := some 67, op := Op.move (Operand.tmp 66), type := 4, pos := "l3_tree.go:285", after := #[{ on := 1, ground := Ground.data }], guard := none }) (v := .bool false) rfl (by kernel_rfl) (by kernel_rfl) (by kernel_rfl) (fun _ _ _ h => h) (Or.inl ⟨by rfl, ?_⟩) (by assumption) ?_
              · intro wq hSw; (try dsimp only at hSw); go_simp
              try simp only [Act.put, List.setIfInBounds_toArray, List.set_cons_zero, List.set_cons_succ]
              refine wpAnyH_take (i := 3) (oi := { dst := some 68, op := Op.move (Operand.tmp 7), type := 99, pos := "l3_tree.go:285", after := #[{ on := 2, ground := Ground.guard }], guard := some (2, false) }) (v := .pointer (some ⟨N + 1, 0, none⟩)) rfl (by kernel_rfl) (by kernel_rfl) (by kernel_rfl) (fun _ _ _ h => h) (Or.inl ⟨by rfl, ?_⟩) (by assumption) ?_
              · intro wq hSw; (try dsimp only at hSw); go_simp
              try simp only [Act.put, List.setIfInBounds_toArray, List.set_cons_zero, List.set_cons_succ]
              refine wpAnyH_take (i := 4) (oi := { dst := some 69, op := Op.move (Operand.tmp 10), type := 70, pos := "l3_tree.go:285", after := #[{ on := 2, ground := Ground.guard }], guard := some (2, false) }) (v := .iface ty v) rfl (by kernel_rfl) (by kernel_rfl) (by kernel_rfl) (fun _ _ _ h => h) (Or.inl ⟨by rfl, ?_⟩) (by assumption) ?_
              · intro wq hSw; (try dsimp only at hSw); go_simp
              try simp only [Act.put, List.setIfInBounds_toArray, List.set_cons_zero, List.set_cons_succ]
              refine wpAnyH_ready (rs := [5]) (by kernel_rfl) (by simp) ?_
              refine AllReadyH.cons (o := { dst := some 70, op := Op.call { callee := Callee.value (Operand.func 82), args := #[Operand.tmp 68, Operand.tmp 69], argTypes := #[99, 70] }, type := 4, pos := "l3_tree.go:285", after := #[{ on := 3, ground := Ground.data }, { on := 4, ground := Ground.data }, { on := 2, ground := Ground.chain }, { on := 2, ground := Ground.guard }], guard := some (2, false) }) rfl (fun K hK => ?_) AllReadyH.nil
              go_simp
              refine (HHOLD.out).mono ?_
              rintro e w9 ⟨rfl, rfl⟩
              go_wp2_with fail
              refine hK.out _ _ (⟨y2, ek⟩) (fun hHeld => ?_)
              clear hK K
              try simp only [Act.put, List.setIfInBounds_toArray, List.set_cons_zero, List.set_cons_succ]
              refine wpAnyH_take (i := 6) (oi := { dst := some 71, op := Op.unOp UnOp.not 4 (Operand.tmp 70), type := 4, pos := "l3_tree.go:285", after := #[{ on := 5, ground := Ground.data }, { on := 2, ground := Ground.guard }], guard := some (2, false) }) (v := .bool false) rfl (by kernel_rfl) (by kernel_rfl) (by kernel_rfl) (fun _ _ _ h => h) (Or.inl ⟨by rfl, ?_⟩) (by assumption) ?_
              · intro wq hSw; (try dsimp only at hSw); go_simp
              try simp only [Act.put, List.setIfInBounds_toArray, List.set_cons_zero, List.set_cons_succ]
              refine wpAnyH_take (i := 7) (oi := { dst := some 72, op := Op.pick (Operand.tmp 67) (Operand.const (Value.bool true)) (Operand.tmp 71), type := 4, pos := "l3_tree.go:285", after := #[{ on := 2, ground := Ground.data }, { on := 6, ground := Ground.data }], guard := none }) (v := .bool false) rfl (by kernel_rfl) (by kernel_rfl) (by kernel_rfl) (fun _ _ _ h => h) (Or.inl ⟨by rfl, ?_⟩) (by assumption) ?_
              · intro wq hSw; (try dsimp only at hSw); go_simp
              try simp only [Act.put, List.setIfInBounds_toArray, List.set_cons_zero, List.set_cons_succ]
              refine wpAnyH_take (i := 8) (oi := { dst := some 73, op := Op.move (Operand.tmp 72), type := 4, pos := "l3_tree.go:285", after := #[{ on := 7, ground := Ground.data }, { on := 5, ground := Ground.chain }], guard := none }) (v := .bool false) rfl (by kernel_rfl) (by kernel_rfl) (by kernel_rfl) (fun _ _ _ h => h) (Or.inl ⟨by rfl, ?_⟩) (by assumption) ?_
              · intro wq hSw; (try dsimp only at hSw); go_simp
              try simp only [Act.put, List.setIfInBounds_toArray, List.set_cons_zero, List.set_cons_succ]
              refine wpAnyH_take (i := 9) (oi := { dst := some 74, op := Op.move (Operand.tmp 8), type := 3, pos := "l3_tree.go:285", after := #[{ on := 8, ground := Ground.guard }], guard := some (8, false) }) (v := .int .i64 ((q : Int) + 1)) rfl (by kernel_rfl) (by kernel_rfl) (by kernel_rfl) (fun _ _ _ h => h) (Or.inl ⟨by rfl, ?_⟩) (by assumption) ?_
              · intro wq hSw; (try dsimp only at hSw); go_simp
              try simp only [Act.put, List.setIfInBounds_toArray, List.set_cons_zero, List.set_cons_succ]
              refine wpAnyH_take (i := 10) (oi := { dst := some 75, op := Op.binOp BinOp.gtr 3 (Operand.tmp 74) (Operand.const (Value.int IntKind.i64 0)) 3, type := 4, pos := "l3_tree.go:285", after := #[{ on := 9, ground := Ground.data }, { on := 8, ground := Ground.guard }], guard := some (8, false) }) (v := .bool true) rfl (by kernel_rfl) (by kernel_rfl) (by kernel_rfl) (fun _ _ _ h => h) (Or.inl ⟨by rfl, ?_⟩) (by assumption) ?_
              · intro wq hSw; (try dsimp only at hSw); go_simp; (try omega)
              try simp only [Act.put, List.setIfInBounds_toArray, List.set_cons_zero, List.set_cons_succ]
              refine wpAnyH_take (i := 11) (oi := { dst := some 76, op := Op.move (Operand.tmp 75), type := 4, pos := "l3_tree.go:285", after := #[{ on := 10, ground := Ground.data }, { on := 8, ground := Ground.chain }, { on := 8, ground := Ground.guard }], guard := some (8, false) }) (v := .bool true) rfl (by kernel_rfl) (by kernel_rfl) (by kernel_rfl) (fun _ _ _ h => h) (Or.inl ⟨by rfl, ?_⟩) (by assumption) ?_
              · intro wq hSw; (try dsimp only at hSw); go_simp
              try simp only [Act.put, List.setIfInBounds_toArray, List.set_cons_zero, List.set_cons_succ]
              refine wpAnyH_take (i := 12) (oi := { dst := some 77, op := Op.move (Operand.tmp 10), type := 70, pos := "l3_tree.go:285", after := #[{ on := 11, ground := Ground.guard }], guard := some (11, true) }) (v := .iface ty v) rfl (by kernel_rfl) (by kernel_rfl) (by kernel_rfl) (fun _ _ _ h => h) (Or.inl ⟨by rfl, ?_⟩) (by assumption) ?_
              · intro wq hSw; (try dsimp only at hSw); go_simp
              try simp only [Act.put, List.setIfInBounds_toArray, List.set_cons_zero, List.set_cons_succ]
              refine wpAnyH_take (i := 14) (oi := { dst := some 79, op := Op.fieldAddr 92 (Operand.tmp 3) 2, type := 0, pos := "l3_tree.go:285", after := #[{ on := 11, ground := Ground.guard }], guard := some (11, true) }) (v := .pointer (some ⟨N, 2, none⟩)) rfl (by kernel_rfl) (by kernel_rfl) (by kernel_rfl) (fun _ _ _ h => h) (Or.inl ⟨by rfl, ?_⟩) (by assumption) ?_
              · intro wq hSw; (try dsimp only at hSw); go_simp
              try simp only [Act.put, List.setIfInBounds_toArray, List.set_cons_zero, List.set_cons_succ]
              refine wpAnyH_take (i := 15) (oi := { dst := some 80, op := Op.load 58 (Operand.tmp 79), type := 58, pos := "l3_tree.go:285", after := #[{ on := 14, ground := Ground.data }, { on := 11, ground := Ground.guard }], guard := some (11, true) }) (v := .slice (some ⟨kb, koff, none⟩) kn kc) rfl (by kernel_rfl) (by kernel_rfl) (by kernel_rfl) (fun _ _ _ h => h) (Or.inl ⟨by rfl, ?_⟩) (by assumption) ?_
              · intro wq hSw; (try dsimp only at hSw); obtain ⟨d0, d1⟩ := hSw; go_simp
              try simp only [Act.put, List.setIfInBounds_toArray, List.set_cons_zero, List.set_cons_succ]
              refine wpAnyH_take (i := 16) (oi := { dst := some 81, op := Op.move (Operand.tmp 8), type := 3, pos := "l3_tree.go:285", after := #[{ on := 11, ground := Ground.guard }], guard := some (11, true) }) (v := .int .i64 ((q : Int) + 1)) rfl (by kernel_rfl) (by kernel_rfl) (by kernel_rfl) (fun _ _ _ h => h) (Or.inl ⟨by rfl, ?_⟩) (by assumption) ?_
              · intro wq hSw; (try dsimp only at hSw); go_simp
              try simp only [Act.put, List.setIfInBounds_toArray, List.set_cons_zero, List.set_cons_succ]
              refine wpAnyH_take (i := 17) (oi := { dst := some 82, op := Op.binOp BinOp.sub 3 (Operand.tmp 81) (Operand.const (Value.int IntKind.i64 1)) 3, type := 3, pos := "l3_tree.go:285", after := #[{ on := 16, ground := Ground.data }, { on := 11, ground := Ground.guard }], guard := some (11, true) }) (v := .int .i64 (q : Int)) rfl (by kernel_rfl) (by kernel_rfl) (by kernel_rfl) (fun _ _ _ h => h) (Or.inl ⟨by rfl, ?_⟩) (by assumption) ?_
              · intro wq hSw; (try dsimp only at hSw); go_simp
              try simp only [Act.put, List.setIfInBounds_toArray, List.set_cons_zero, List.set_cons_succ]
              refine wpAnyH_take (i := 18) (oi := { dst := some 83, op := Op.indexAddr 58 (Operand.tmp 80) (Operand.tmp 82), type := 0, pos := "l3_tree.go:285", after := #[{ on := 15, ground := Ground.data }, { on := 17, ground := Ground.data }, { on := 11, ground := Ground.guard }], guard := some (11, true) }) (v := .pointer (some ⟨kb, koff + q, none⟩)) rfl (by kernel_rfl) (by kernel_rfl) (by kernel_rfl) (fun _ _ _ h => h) (Or.inl ⟨by rfl, ?_⟩) (by assumption) ?_
              · intro wq hSw; (try dsimp only at hSw); go_simp; (try (intro hx; exfalso; omega))
              try simp only [Act.put, List.setIfInBounds_toArray, List.set_cons_zero, List.set_cons_succ]
              refine wpAnyH_take (i := 19) (oi := { dst := some 84, op := Op.load 9 (Operand.tmp 83), type := 9, pos := "l3_tree.go:285", after := #[{ on := 18, ground := Ground.data }, { on := 11, ground := Ground.guard }], guard := some (11, true) }) (v := .string ky) rfl (by kernel_rfl) (by kernel_rfl) (by kernel_rfl) (fun _ _ _ h => h) (Or.inl ⟨by rfl, ?_⟩) (by assumption) ?_
              · intro wq hSw; (try dsimp only at hSw); obtain ⟨d0, d1⟩ := hSw; go_simp
              try simp only [Act.put, List.setIfInBounds_toArray, List.set_cons_zero, List.set_cons_succ]
              refine wpAnyH_ready (rs := [13]) (by kernel_rfl) (by simp) ?_
              refine AllReadyH.cons (o := { dst := some 78, op := Op.call { callee := Callee.invoke (Operand.tmp 77) "loop.example/s02098/impl.least", args := #[], argTypes := #[] }, type := 9, pos := "l3_tree.go:285", after := #[{ on := 12, ground := Ground.data }, { on := 11, ground := Ground.chain }, { on := 11, ground := Ground.guard }], guard := some (11, true) }) rfl (fun K hK => ?_) AllReadyH.nil
              go_simp
              refine (HLEAST.out).mono ?_
              rintro e w9 ⟨rfl, rfl⟩
              go_wp2_with fail
              refine hK.out _ _ (⟨y2, ek⟩) (fun hHeld => ?_)
              clear hK K
              try simp only [Act.put, List.setIfInBounds_toArray, List.set_cons_zero, List.set_cons_succ]
              by_cases tl : lw = ky
              · have sl : (lw.toList == ky.toList) = true := by rw [tl]; simp
                have HNX : Hid _ := HSTEP.out tl
                clear tl
                refine wpAnyH_take (i := 20) (oi := { dst := some 85, op := Op.binOp BinOp.neq 9 (Operand.tmp 78) (Operand.tmp 84) 9, type := 4, pos := "l3_tree.go:285", after := #[{ on := 13, ground := Ground.data }, { on := 19, ground := Ground.data }, { on := 11, ground := Ground.guard }], guard := some (11, true) }) (v := .bool false) rfl (by kernel_rfl) (by kernel_rfl) (by kernel_rfl) (fun _ _ _ h => h) (Or.inl ⟨by rfl, ?_⟩) (by assumption) ?_
                · intro wq hSw; (try dsimp only at hSw); go_simp
                try simp only [Act.put, List.setIfInBounds_toArray, List.set_cons_zero, List.set_cons_succ]
                refine wpAnyH_take (i := 21) (oi := { dst := some 86, op := Op.pick (Operand.tmp 76) (Operand.tmp 85) (Operand.const (Value.bool false)), type := 4, pos := "l3_tree.go:285", after := #[{ on := 11, ground := Ground.data }, { on := 20, ground := Ground.data }, { on := 8, ground := Ground.guard }], guard := some (8, false) }) (v := .bool false) rfl (by kernel_rfl) (by kernel_rfl) (by kernel_rfl) (fun _ _ _ h => h) (Or.inl ⟨by rfl, ?_⟩) (by assumption) ?_
                · intro wq hSw; (try dsimp only at hSw); go_simp
                try simp only [Act.put, List.setIfInBounds_toArray, List.set_cons_zero, List.set_cons_succ]
                refine wpAnyH_take (i := 22) (oi := { dst := some 87, op := Op.pick (Operand.tmp 73) (Operand.const (Value.bool true)) (Operand.tmp 86), type := 4, pos := "l3_tree.go:285", after := #[{ on := 8, ground := Ground.data }, { on := 21, ground := Ground.data }], guard := none }) (v := .bool false) rfl (by kernel_rfl) (by kernel_rfl) (by kernel_rfl) (fun _ _ _ h => h) (Or.inl ⟨by rfl, ?_⟩) (by assumption) ?_
                · intro wq hSw; (try dsimp only at hSw); go_simp
                try simp only [Act.put, List.setIfInBounds_toArray, List.set_cons_zero, List.set_cons_succ]
                refine wpAnyH_done (by kernel_rfl) ?_ _
                refine NoPanic.normal ?_
                have SD := HS3.out.below ((Below.refl w1.heap.size w1).drew)
                have ND := HNODE.out.drew
                have hacl : acc.length ≤ 4 := by have := HACC.out; omega
                have ND2 : GM w1.drew (fun b => wr.heap.size ≤ b ∧ N + 2 ≤ b ∧ b < w1.drew.heap.size ∧ ∀ g, (Value.slice ra acc.length rc).ownBlock = some g → b ≠ g) t (.iface ty v) := ND
                clear ND HNODE HS3 HHOLD HLEAST hHeld ek y2 ly hkl HSTEP HLOW sl ha9 hm9 hc9
                generalize w1.drew = V at SD ND2 FRV ⊢
                have ab := (Below.refl V.heap.size V).alloc (Nat.le_refl _) (.cells #[.iface ty v] 70)
                have SA := SD.below ab
                have NA : GM (V.alloc (.cells #[.iface ty v] 70)) (fun b => wr.heap.size ≤ b ∧ N + 2 ≤ b ∧ b < (V.alloc (.cells #[.iface ty v] 70)).heap.size ∧ ∀ g, (Value.slice ra acc.length rc).ownBlock = some g → b ≠ g) t (.iface ty v) := GM.keep t _ _ _ (fun b hb => ab.block b hb.2.2.1) (fun b hb => ⟨hb.1, hb.2.1, Nat.lt_of_lt_of_le hb.2.2.1 ab.size, hb.2.2.2⟩) ND2
                have hrow := SA.row
                obtain ⟨x0, x1⟩ := box_twoG SD.ib
                have hl1 := SD.lt
                have hNs : N + 2 ≤ (V.alloc (.cells #[.iface ty v] 70)).heap.size := by have := ab.size; omega
                have HPU : Hid (∀ v' w4, w4.ownsRow (N + 2) 70 1 v' (acc.length + 1) (ul ++ [.iface ty v]) → (V.alloc (.cells #[.iface ty v] 70)).grownBy w4 (Value.slice ra acc.length rc).ownBlock → (v'.ownBlock = (Value.slice ra acc.length rc).ownBlock ∨ ∀ g, v'.ownBlock = some g → (V.alloc (.cells #[.iface ty v] 70)).heap.size ≤ g) → _) := fun v' w4 h1 h2 h3 => SA.push NA h1 h2 h3
                have hcell := cell_one_new V (.iface ty v) 70
                clear SD ND2 SA NA ab
                go_wp2_with (at_builtin; refine wpList_append_ownD _ rfl _ _ 65 rfl (N + 2) 70 i0 _ 1 16 Try.underlying65 hi hz0 hz1 hz2 rfl (by decide) (.slice ra acc.length rc) acc.length ul rfl hrow ⟨V.heap.size, 0, none⟩ 1 1 [.iface ty v] rfl rfl hcell (by simp [Value.oneCell']) (by unfold maxLen; omega) (by omega) hNs ?_; intro v' w4 h1 h2 h3; obtain ⟨ra', rc', rfl, SP, XB4⟩ := HPU.out v' w4 h1 h2 h3; have l4 := (Array.getElem?_eq_some_iff.1 XB4).1; obtain ⟨m0, m1⟩ := box_twoG XB4; have f4 := thawT XB4; clear h1 h2 h3 HPU hrow hcell XB4 x0 x1)
                go_roundw
                case rel => exact ⟨(q + 1) + 1, ra', rc', acc ++ [t], ul ++ [.iface ty v], nx', m', by omega, by go_num, by omega, ⟨by rw [List.length_append, HACC.out]; rfl, ⟨by have := HNJ.out; omega, hnx'⟩, HALL.out, HNX.out⟩, SP⟩
                case measure => simp [intOf]; omega
              · have sl : (lw.toList == ky.toList) = false := listG_ne tl
                have HNO : Hid (res = none) := HLOW.out tl
                clear tl
                refine wpAnyH_take (i := 20) (oi := { dst := some 85, op := Op.binOp BinOp.neq 9 (Operand.tmp 78) (Operand.tmp 84) 9, type := 4, pos := "l3_tree.go:285", after := #[{ on := 13, ground := Ground.data }, { on := 19, ground := Ground.data }, { on := 11, ground := Ground.guard }], guard := some (11, true) }) (v := .bool true) rfl (by kernel_rfl) (by kernel_rfl) (by kernel_rfl) (fun _ _ _ h => h) (Or.inl ⟨by rfl, ?_⟩) (by assumption) ?_
                · intro wq hSw; (try dsimp only at hSw); go_simp
                try simp only [Act.put, List.setIfInBounds_toArray, List.set_cons_zero, List.set_cons_succ]
                refine wpAnyH_take (i := 21) (oi := { dst := some 86, op := Op.pick (Operand.tmp 76) (Operand.tmp 85) (Operand.const (Value.bool false)), type := 4, pos := "l3_tree.go:285", after := #[{ on := 11, ground := Ground.data }, { on := 20, ground := Ground.data }, { on := 8, ground := Ground.guard }], guard := some (8, false) }) (v := .bool true) rfl (by kernel_rfl) (by kernel_rfl) (by kernel_rfl) (fun _ _ _ h => h) (Or.inl ⟨by rfl, ?_⟩) (by assumption) ?_
                · intro wq hSw; (try dsimp only at hSw); go_simp
                try simp only [Act.put, List.setIfInBounds_toArray, List.set_cons_zero, List.set_cons_succ]
                refine wpAnyH_take (i := 22) (oi := { dst := some 87, op := Op.pick (Operand.tmp 73) (Operand.const (Value.bool true)) (Operand.tmp 86), type := 4, pos := "l3_tree.go:285", after := #[{ on := 8, ground := Ground.data }, { on := 21, ground := Ground.data }], guard := none }) (v := .bool true) rfl (by kernel_rfl) (by kernel_rfl) (by kernel_rfl) (fun _ _ _ h => h) (Or.inl ⟨by rfl, ?_⟩) (by assumption) ?_
                · intro wq hSw; (try dsimp only at hSw); go_simp
                try simp only [Act.put, List.setIfInBounds_toArray, List.set_cons_zero, List.set_cons_succ]
                refine wpAnyH_done (by kernel_rfl) ?_ _
                refine NoPanic.normal ?_
                go_wp2_with fail
                refine bodyPost_ret (v := .tuple #[.nilIface, .bool false]) (by simp [results, Try.results78, go_sem]) rfl ?_
                exact ⟨fun _ => rfl, (fun t' nx' met' h => by rw [HNO.out] at h; cases h), FRV.out⟩
      · have snn : (num != (nj : Int)) = true := by simpa using tn
        have HNO : Hid (res = none) := by
          show _ = _
          rw [HR2.out, HPR.out.2.2.2, HDJ.out]
          unfold grK
          rw [if_neg tn]
        clear tn HPR HDJ S2 hT2
        go_wp2_with fail
        refine bodyPost_ret (v := .tuple #[.nilIface, .bool false]) (by simp [results, Try.results78, go_sem]) rfl ?_
        exact ⟨fun _ => rfl, (fun t' nx' met' h => by rw [HNO.out] at h; cases h), FRW.out⟩
    · have hje : j = yn := by omega
      subst hje
      have HRS : Hid (res = some (⟨false, p, [], [], [], acc⟩, nj, mj)) := by
        show _ = _
        rw [HR2.out, HPR.out.2.2.2, List.drop_of_length_le (by have := HKL.out; omega)]
        rfl
      have hfr := S2.fr
      have hgr := S2.gr
      have hsz := S2.sz
      have hGI : GM wr (fun b => w.heap.size ≤ b ∧ b < wr.heap.size) ⟨false, p, [], [], [], acc⟩ (.iface 99 (.pointer (some ⟨N + 1, 0, none⟩))) := by
        have hrow := S2.row
        obtain ⟨Q, hd, hsub, hkid⟩ := S2.kid
        refine GMI.is (a := ra) (n := acc.length) (c := rc) (ul := ul) (Q := Q) ⟨⟨by omega, by omega⟩, S2.ib, owns_base S2.row (Nat.zero_le _), fun g hg => ?_, rfl, hd, fun i b hb => ?_, fun i k hm hi => ?_⟩ rfl
        · have hlt2 := S2.row.lt g hg
          exact ⟨⟨by omega, hlt2.2⟩, by omega⟩
        · have h9 := hsub i b hb
          exact ⟨⟨by omega, h9.2.1⟩, by omega, fun e => h9.2.2 b e rfl⟩
        · obtain ⟨u, hu, hg⟩ := hkid i k hi
          have e : ul.getD i .nilIface = u := by simp [List.getD, hu]
          show GM wr _ k (ul.getD i .nilIface)
          rw [e]
          exact hg
      have HGI : Hid _ := hGI
      clear S2 hGI HPR HR2
      go_wp2_with fail
      refine bodyPost_ret (v := .tuple #[.iface 99 (.pointer (some ⟨N + 1, 0, none⟩)), .bool true]) (by simp [results, Try.results78, go_sem]) rfl ?_
      refine ⟨fun h => (by rw [HRS.out] at h; cases h), fun t' nx' met' h => ?_, hfr⟩
      rw [HRS.out] at h
      simp only [Option.some.injEq, Prod.mk.injEq] at h
      obtain ⟨rfl, rfl, rfl⟩ := h
      exact ⟨_, rfl, HGI.out, hgr⟩
end Go.Proofs.Ytpmagndofiaooaa
