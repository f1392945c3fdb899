import Derived.Test.YtpmagndofiaooaaTs
import Derived.OwnWalk
namespace Go.Proofs.Ytpmagndofiaooaa
open Go.RowKit
set_option linter.unusedVariables false
set_option maxRecDepth 100000

theorem info_string : (Try.prog.info? 9).map (fun i => (i.zero, i.size, i.bytes)) = some (some (.string ByteArray.empty), 1, 16) := by kernel_rfl
theorem info_int64 : (Try.prog.info? 2).map (fun i => (i.zero, i.size, i.bytes)) = some (some (.int .i64 0), 1, 8) := by kernel_rfl
theorem info_TNodeT : (Try.prog.info? 92).map (fun i => (i.zero, i.size, i.bytes)) = some (some (.agg #[.bool false, .int .i64 0, .slice none 0 0, .slice none 0 0, .slice none 0 0, .slice none 0 0]), 6, 112) := by kernel_rfl
theorem set_one {α : Type} {cs : α → List Value} (hc : ∀ x, (cs x).length = 1) {xs : List Value} {n k : Nat} {d p : α} {v : Value} {rs : List α} (hl : rs.length = n) (hk : k < n) (hp : p = rs.getD k d) (hv : cs p = [v]) (hx : xs.length = n * 1) (h : ∀ j, j < k → xs[j]? = (rowsOf cs rs)[j]?) :
    ∀ j, j < k + 1 → (xs.set k v)[j]? = (rowsOf cs rs)[j]? := by
  intro j hj
  have e0 := rowsOf_get hc d rs k 0 (by omega) (by omega)
  by_cases h0 : j = k
  · subst h0
    rw [List.getElem?_set_self (by omega)]
    rw [← hp, hv] at e0
    simpa using e0.symm
  · rw [List.getElem?_set_ne (by omega)]
    exact h j (by omega)
set_option maxHeartbeats 400000 in
theorem toStringS_any (a : Option Addr) (n c : Nat) (ks : List ByteArray) (w : World) (A B : Nat) (hB : B ≤ w.heap.size) (h : StrsAt w A B a n c ks) (hn : n ≤ 1048576) :
    Calls Try.prog 74 #[.slice a n c] w fun e w' => ∃ g, w.heap.size ≤ g ∧ e = .returned (.slice (some ⟨g, 0, none⟩) n n) ∧ w'.ownsRow w.heap.size 9 1 (.slice (some ⟨g, 0, none⟩) n n) n (rowsOf strCells ks) ∧ Below w.heap.size w w' := by
  have hl := h.1
  have HL : Hid (ks.length = n) := hl
  clear hl
  obtain ⟨i0, hi, hz0, hz1, hz2⟩ := info_parts info_string
  go_enter Try.func74, Try.ntmps74
  go_wp2_with (at_make; refine wpList_make_full _ rfl _ _ 58 rfl w.heap.size 9 i0 _ 1 Try.underlying58 hi hz0 hz1 .i64 .i64 n n n rfl rfl rfl rfl (by rw [hz2]; omega) (by unfold maxLen; omega) (Nat.le_refl _) ?_; intro w1 hown hgr)
  have hb1 : Below w.heap.size w w1 := (Below.refl _ _).grown hgr (Nat.le_refl _) (by simp)
  go_loopw [4] (fun i wr => ∃ k : Nat, k ≤ n ∧ i = .int .i64 k ∧ Below w.heap.size w wr ∧ ∃ xs, wr.ownsRow w.heap.size 9 1 (.slice (some ⟨w.heap.size, 0, none⟩) n n) n xs ∧ ∀ j, j < k → xs[j]? = (rowsOf strCells ks)[j]?) (fun i _ => n - (intOf i).toNat)
  case atStart => exact ⟨0, Nat.zero_le _, rfl, hb1, _, hown, fun j hj => by omega⟩
  case round =>
    clear hown hgr hb1
    obtain ⟨k, hk, rfl, hbel, xs, hown, hgot⟩ := hrel
    have HG : Hid (∀ j, j < k → xs[j]? = (rowsOf strCells ks)[j]?) := hgot
    clear hgot
    by_cases hlt : k < n
    · obtain ⟨b, off, rfl, hb, hfit, e0⟩ := StrsAt.at (h.below (hbel.mono hB)) hlt
      have HS : Hid (∀ j, j < k + 1 → (xs.set k (.string (ks.getD k ByteArray.empty)))[j]? = (rowsOf strCells ks)[j]?) := set_one sc1 HL.out hlt rfl rfl hown.1 HG.out
      generalize ks.getD k ByteArray.empty = s at e0 hfit HS
      clear h
      have hs := hbel.size
      have hlt0 := (hown.lt w.heap.size rfl).2
      have hxl := hown.1
      have R := hown.stored k (.string s)
      have hbel3 := hbel.setCell (p := ⟨w.heap.size, k, none⟩) (Nat.le_refl _) (.string s)
      have hf1 := hown.frozenAt k
      obtain ⟨u, hu⟩ : ∃ u, wr.cell? ⟨w.heap.size, k, none⟩ = some u := ⟨xs[k]'(by omega), by rw [hown.cellAt k (by omega)]; exact List.getElem?_eq_getElem _⟩
      clear hown
      go_wp2
      go_roundw
      case rel => exact ⟨k + 1, by omega, by go_num, hbel3, _, R.1, HS.out⟩
      case measure => simp [intOf]; omega
    · go_wp2
      go_ret
      have hkn : k = n := by omega
      refine ⟨w.heap.size, Nat.le_refl _, rfl, ?_, hbel⟩
      rw [show rowsOf strCells ks = xs from ?_]
      · exact hown
      · refine (List.ext_getElem? fun j => ?_).symm
        by_cases hj : j < n
        · exact HG.out j (by omega)
        · rw [List.getElem?_eq_none (by rw [hown.1]; omega), List.getElem?_eq_none (by rw [rowsOf_length sc1, HL.out]; omega)]
set_option maxHeartbeats 400000 in
theorem toInt64S_any (a : Option Addr) (n c : Nat) (ks : List Int) (w : World) (A B : Nat) (hB : B ≤ w.heap.size) (h : IntsAt w A B a n c ks) (hn : n ≤ 1048576) :
    Calls Try.prog 75 #[.slice a n c] w fun e w' => ∃ g, w.heap.size ≤ g ∧ e = .returned (.slice (some ⟨g, 0, none⟩) n n) ∧ w'.ownsRow w.heap.size 2 1 (.slice (some ⟨g, 0, none⟩) n n) n (rowsOf intCells ks) ∧ Below w.heap.size w w' := by
  have hl := h.1
  have HL : Hid (ks.length = n) := hl
  clear hl
  obtain ⟨i0, hi, hz0, hz1, hz2⟩ := info_parts info_int64
  go_enter Try.func75, Try.ntmps75
  go_wp2_with (at_make; refine wpList_make_full _ rfl _ _ 59 rfl w.heap.size 2 i0 _ 1 Try.underlying59 hi hz0 hz1 .i64 .i64 n n n rfl rfl rfl rfl (by rw [hz2]; omega) (by unfold maxLen; omega) (Nat.le_refl _) ?_; intro w1 hown hgr)
  have hb1 : Below w.heap.size w w1 := (Below.refl _ _).grown hgr (Nat.le_refl _) (by simp)
  go_loopw [4] (fun i wr => ∃ k : Nat, k ≤ n ∧ i = .int .i64 k ∧ Below w.heap.size w wr ∧ ∃ xs, wr.ownsRow w.heap.size 2 1 (.slice (some ⟨w.heap.size, 0, none⟩) n n) n xs ∧ ∀ j, j < k → xs[j]? = (rowsOf intCells ks)[j]?) (fun i _ => n - (intOf i).toNat)
  case atStart => exact ⟨0, Nat.zero_le _, rfl, hb1, _, hown, fun j hj => by omega⟩
  case round =>
    clear hown hgr hb1
    obtain ⟨k, hk, rfl, hbel, xs, hown, hgot⟩ := hrel
    have HG : Hid (∀ j, j < k → xs[j]? = (rowsOf intCells ks)[j]?) := hgot
    clear hgot
    by_cases hlt : k < n
    · obtain ⟨b, off, rfl, hb, hfit, e0⟩ := IntsAt.at (h.below (hbel.mono hB)) hlt
      have HS : Hid (∀ j, j < k + 1 → (xs.set k (.int .i64 (ks.getD k 0)))[j]? = (rowsOf intCells ks)[j]?) := set_one ic1 HL.out hlt rfl rfl hown.1 HG.out
      generalize ks.getD k 0 = s at e0 hfit HS
      clear h
      have hs := hbel.size
      have hlt0 := (hown.lt w.heap.size rfl).2
      have hxl := hown.1
      have R := hown.stored k (.int .i64 s)
      have hbel3 := hbel.setCell (p := ⟨w.heap.size, k, none⟩) (Nat.le_refl _) (.int .i64 s)
      have hf1 := hown.frozenAt k
      obtain ⟨u, hu⟩ : ∃ u, wr.cell? ⟨w.heap.size, k, none⟩ = some u := ⟨xs[k]'(by omega), by rw [hown.cellAt k (by omega)]; exact List.getElem?_eq_getElem _⟩
      clear hown
      go_wp2
      go_roundw
      case rel => exact ⟨k + 1, by omega, by go_num, hbel3, _, R.1, HS.out⟩
      case measure => simp [intOf]; omega
    · go_wp2
      go_ret
      have hkn : k = n := by omega
      refine ⟨w.heap.size, Nat.le_refl _, rfl, ?_, hbel⟩
      rw [show rowsOf intCells ks = xs from ?_]
      · exact hown
      · refine (List.ext_getElem? fun j => ?_).symm
        by_cases hj : j < n
        · exact HG.out j (by omega)
        · rw [List.getElem?_eq_none (by rw [hown.1]; omega), List.getElem?_eq_none (by rw [rowsOf_length ic1, HL.out]; omega)]
theorem heap_setT {w : World} {b t : Nat} {cs : Array Value} (h : w.heap[b]? = some (.cells cs t (0, 0))) (o : Nat) (v : Value) : (w.setCell ⟨b, o, none⟩ v).heap[b]? = some (.cells (cs.setIfInBounds o v) t (0, 0)) := by
  obtain ⟨hlt, hk⟩ := Array.getElem?_eq_some_iff.1 h
  show (w.heap.modify b _)[b]? = _
  rw [Array.getElem?_eq_getElem (by rw [Array.size_modify]; exact hlt), Array.getElem_modify_self, hk]
  rfl
theorem fr_setT (w : World) (b o : Nat) (v : Value) : Fr (fun k => k = b) w (w.setCell ⟨b, o, none⟩ v) :=
  ⟨rfl, rfl, rfl, by simp [World.setCell], fun k _ hk => by
    show (w.heap.modify b _)[k]? = _
    rw [Array.getElem?_modify, if_neg (fun e => hk e.symm)]⟩
theorem thawT {w : World} {g : Nat} {cs : Array Value} {t : TypeId} (h : w.heap[g]? = some (.cells cs t)) : ∀ o, w.frozen? ⟨g, o, none⟩ = false := by
  intro o; simp [World.frozen?, h]
def put6T (w : World) (N : Nat) (u0 u1 u2 u3 u4 u5 : Value) : World := (((((w.setCell ⟨N, 0, none⟩ u0).setCell ⟨N, 1, none⟩ u1).setCell ⟨N, 2, none⟩ u2).setCell ⟨N, 3, none⟩ u3).setCell ⟨N, 4, none⟩ u4).setCell ⟨N, 5, none⟩ u5
theorem put6T_box {w : World} {N t : Nat} {v0 v1 v2 v3 v4 v5 : Value} (h : w.heap[N]? = some (.cells #[v0, v1, v2, v3, v4, v5] t)) (u0 u1 u2 u3 u4 u5 : Value) : (put6T w N u0 u1 u2 u3 u4 u5).heap[N]? = some (.cells #[u0, u1, u2, u3, u4, u5] t) := by
  simp [put6T, World.setCell, Array.getElem?_modify, h]
theorem put6T_fr (w : World) (N : Nat) (u0 u1 u2 u3 u4 u5 : Value) : Fr (fun x => x = N) w (put6T w N u0 u1 u2 u3 u4 u5) :=
  (((((fr_setT _ _ _ _).trans (fr_setT _ _ _ _)).trans (fr_setT _ _ _ _)).trans (fr_setT _ _ _ _)).trans (fr_setT _ _ _ _)).trans (fr_setT _ _ _ _)
theorem alloc3 (w : World) (a b c : Obj) : (((w.alloc a).alloc b).alloc c).heap[w.heap.size]? = some a ∧ (((w.alloc a).alloc b).alloc c).heap[w.heap.size + 1]? = some b ∧ (((w.alloc a).alloc b).alloc c).heap[w.heap.size + 1 + 1]? = some c := by
  have s1 : (w.alloc a).heap.size = w.heap.size + 1 := by simp
  have s2 : ((w.alloc a).alloc b).heap.size = w.heap.size + 1 + 1 := by simp
  have e1 := heap_alloc_new w a
  have e2 := heap_alloc_new (w.alloc a) b
  have e3 := heap_alloc_new ((w.alloc a).alloc b) c
  have k2 := (Below.refl (w.alloc a).heap.size (w.alloc a)).alloc (Nat.le_refl _) b
  have k3 := (Below.refl ((w.alloc a).alloc b).heap.size ((w.alloc a).alloc b)).alloc (Nat.le_refl _) c
  rw [s1] at e2
  rw [s2] at e3
  exact ⟨(k3.block _ (by omega)).trans ((k2.block _ (by omega)).trans e1), (k3.block _ (by omega)).trans e2, e3⟩
/-- A list that may be written into, from block lo on. -/
def RoomL (w : World) (lo : Nat) (a : Option Addr) (n : Nat) : Prop := 0 < n → ∃ b off, a = some ⟨b, off, none⟩ ∧ (lo ≤ b ∧ b < w.heap.size) ∧ ∀ i, i < n → (∃ v, w.cell? ⟨b, off + i, none⟩ = some v) ∧ w.frozen? ⟨b, off + i, none⟩ = false
theorem RoomL.below {w w' : World} {lo : Nat} {a : Option Addr} {n : Nat} (h : RoomL w lo a n) (hb : Below w.heap.size w w') : RoomL w' lo a n := fun hn => by
  obtain ⟨b, off, e, hl, hc⟩ := h hn
  refine ⟨b, off, e, ⟨hl.1, Nat.lt_of_lt_of_le hl.2 hb.size⟩, fun i hi => ?_⟩
  obtain ⟨⟨v, hv⟩, hf⟩ := hc i hi
  have hk := hb.block b hl.2
  exact ⟨⟨v, (World.cell?_of_block (w := w) (a := ⟨b, off + i, none⟩) hk).trans hv⟩, by simpa [World.frozen?, hk] using hf⟩
theorem room_set (w : World) (p : Addr) (u : Value) (b o : Nat) (h : ∃ v, w.cell? ⟨b, o, none⟩ = some v) (hf : w.frozen? ⟨b, o, none⟩ = false) : (∃ v, (w.setCell p u).cell? ⟨b, o, none⟩ = some v) ∧ (w.setCell p u).frozen? ⟨b, o, none⟩ = false := by
  obtain ⟨v, hv⟩ := h
  by_cases hpb : p.block = b
  · cases hb : w.heap[b]? with
    | none => simp [World.cell?, hb] at hv
    | some ob =>
      cases ob with
      | cells cs t fz =>
        have hm : (w.setCell p u).heap[b]? = some (.cells (if p.spot.isSome then cs else cs.setIfInBounds p.off u) t fz) := by
          show (w.heap.modify p.block _)[b]? = _
          rw [hpb, Array.getElem?_modify, if_pos rfl, hb]
          rfl
        have ho : o < cs.size := by
          simp [World.cell?, hb] at hv
          exact (Array.getElem?_eq_some_iff.1 hv).1
        refine ⟨?_, by simpa [World.frozen?, hm, hb] using hf⟩
        simp only [World.cell?, hm]
        have hs : o < (if p.spot.isSome then cs else cs.setIfInBounds p.off u).size := by
          split
          · exact ho
          · rw [Array.size_setIfInBounds]; exact ho
        have hq := Array.getElem?_eq_getElem hs
        generalize (if p.spot.isSome then cs else cs.setIfInBounds p.off u) = ds at hs hq ⊢
        exact ⟨ds[o], by simp [hq]⟩
      | _ => simp [World.cell?, hb] at hv
  · have hk : (w.setCell p u).heap[b]? = w.heap[b]? := by
      show (w.heap.modify p.block _)[b]? = _
      rw [Array.getElem?_modify, if_neg hpb]
    exact ⟨⟨v, (World.cell?_of_block (w := w) (a := ⟨b, o, none⟩) hk).trans hv⟩, by simpa [World.frozen?, hk] using hf⟩
theorem RoomL.set {w : World} {lo : Nat} {a : Option Addr} {n : Nat} (h : RoomL w lo a n) (p : Addr) (u : Value) : RoomL (w.setCell p u) lo a n := fun hn => by
  obtain ⟨b, off, e, hl, hc⟩ := h hn
  exact ⟨b, off, e, ⟨hl.1, by simpa [World.setCell] using hl.2⟩, fun i hi => room_set w p u b (off + i) (hc i hi).1 (hc i hi).2⟩
theorem RoomL.lower {w : World} {lo lo' : Nat} {a : Option Addr} {n : Nat} (h : RoomL w lo a n) (hl : lo' ≤ lo) : RoomL w lo' a n := fun hn => by
  obtain ⟨b, off, e, h1, hc⟩ := h hn
  exact ⟨b, off, e, ⟨by omega, h1.2⟩, hc⟩
theorem room_of_own {w : World} {base e g n c : Nat} {xs : List Value} (h : w.ownsRow base e 1 (.slice (some ⟨g, 0, none⟩) n c) n xs) : RoomL w base (some ⟨g, 0, none⟩) n := fun hn =>
  ⟨g, 0, rfl, h.lt g rfl, fun i hi => ⟨⟨xs[i]'(by have := h.1; omega), by rw [Nat.zero_add, h.cellAt i (by omega)]; exact List.getElem?_eq_getElem _⟩, by rw [Nat.zero_add]; exact h.frozenAt i⟩⟩
theorem RoomL.put6 {w : World} {lo : Nat} {a : Option Addr} {n : Nat} (h : RoomL w lo a n) (N : Nat) (u0 u1 u2 u3 u4 u5 : Value) : RoomL (put6T w N u0 u1 u2 u3 u4 u5) lo a n := (((((h.set _ u0).set _ u1).set _ u2).set _ u3).set _ u4).set _ u5
/-- The state inside toTNode: the argument's box, the answer's and the node's that is filled in. -/
structure TSt (w W : World) (N : Nat) (c r o : Array Value) : Prop where
  arg : W.heap[N]? = some (.cells c 108)
  res : W.heap[N + 1]? = some (.cells r 92)
  out : W.heap[N + 1 + 1]? = some (.cells o 92)
  bel : Below w.heap.size w W
  lt : N + 1 + 1 < W.heap.size
theorem TSt.below {w W W' : World} {N : Nat} {c r o : Array Value} (h : TSt w W N c r o) (hb : Below W.heap.size W W') (hN : w.heap.size = N) : TSt w W' N c r o :=
  ⟨(hb.block _ (by have := h.lt; omega)).trans h.arg, (hb.block _ (by have := h.lt; omega)).trans h.res, (hb.block _ h.lt).trans h.out, h.bel.trans (hb.mono (by have := h.lt; omega)), Nat.lt_of_lt_of_le h.lt hb.size⟩
theorem TSt.set {w W : World} {N : Nat} {c r o : Array Value} (h : TSt w W N c r o) (hN : w.heap.size = N) (i : Nat) (v : Value) : TSt w (W.setCell ⟨N + 1 + 1, i, none⟩ v) N c r (o.setIfInBounds i v) :=
  ⟨((fr_setT W (N + 1 + 1) i v).block N (by have := h.lt; omega) (by omega)).trans h.arg, ((fr_setT W (N + 1 + 1) i v).block (N + 1) (by have := h.lt; omega) (by omega)).trans h.res, heap_setT h.out i v, h.bel.trans ((fr_setT W (N + 1 + 1) i v).below (by have := h.lt; omega) (fun g e => by omega)), by simpa [World.setCell] using h.lt⟩
set_option maxHeartbeats 1000000 in
theorem toTNode_any (lf : Bool) (pg : Int) (ks vs : List ByteArray) (os ys : List Int) (ka : Option Addr) (kn kc : Nat) (va : Option Addr) (vn vc : Nat) (oa : Option Addr) (on oc : Nat) (ya : Option Addr) (yn yc : Nat) (w : World) (A B : Nat) (hB : B ≤ w.heap.size)
    (hK : StrsAt w A B ka kn kc ks) (hV : StrsAt w A B va vn vc vs) (hO : IntsAt w A B oa on oc os) (hY : IntsAt w A B ya yn yc ys) (h1 : kn ≤ 1048576) (h2 : vn ≤ 1048576) (h3 : on ≤ 1048576) (h4 : yn ≤ 1048576) :
    Calls Try.prog 66 #[.agg #[.bool lf, .int .i64 pg, .slice ka kn kc, .slice va vn vc, .slice oa on oc, .slice ya yn yc]] w fun e w' => ∃ k v o y, e = .returned (.agg #[.bool lf, .int .i64 pg, .slice (some ⟨k, 0, none⟩) kn kn, .slice (some ⟨v, 0, none⟩) vn vn, .slice (some ⟨o, 0, none⟩) on on, .slice (some ⟨y, 0, none⟩) yn yn]) ∧
      StrsAt w' w.heap.size w'.heap.size (some ⟨k, 0, none⟩) kn kn ks ∧ StrsAt w' w.heap.size w'.heap.size (some ⟨v, 0, none⟩) vn vn vs ∧ IntsAt w' w.heap.size w'.heap.size (some ⟨o, 0, none⟩) on on os ∧ IntsAt w' w.heap.size w'.heap.size (some ⟨y, 0, none⟩) yn yn ys ∧ Below w.heap.size w w' ∧ (RoomL w' w.heap.size (some ⟨k, 0, none⟩) kn ∧ RoomL w' w.heap.size (some ⟨v, 0, none⟩) vn ∧ RoomL w' w.heap.size (some ⟨o, 0, none⟩) on ∧ RoomL w' w.heap.size (some ⟨y, 0, none⟩) yn) := by
  obtain ⟨N, hN⟩ : ∃ N, w.heap.size = N := ⟨_, rfl⟩
  have S0 : TSt w (((w.alloc (.cells #[.bool lf, .int .i64 pg, .slice ka kn kc, .slice va vn vc, .slice oa on oc, .slice ya yn yc] 108)).alloc (.cells #[.bool false, .int .i64 0, .slice none 0 0, .slice none 0 0, .slice none 0 0, .slice none 0 0] 92)).alloc (.cells #[.bool lf, .int .i64 pg, .slice none 0 0, .slice none 0 0, .slice none 0 0, .slice none 0 0] 92)) N #[.bool lf, .int .i64 pg, .slice ka kn kc, .slice va vn vc, .slice oa on oc, .slice ya yn yc] #[.bool false, .int .i64 0, .slice none 0 0, .slice none 0 0, .slice none 0 0, .slice none 0 0] #[.bool lf, .int .i64 pg, .slice none 0 0, .slice none 0 0, .slice none 0 0, .slice none 0 0] := by
    subst hN
    exact ⟨(alloc3 w _ _ _).1, (alloc3 w _ _ _).2.1, (alloc3 w _ _ _).2.2, (((Below.refl _ _).alloc (Nat.le_refl _) _).alloc (by simp) _).alloc (by simp; omega) _, by simp⟩
  go_enter Try.func66, Try.ntmps66
  go_wp2_with fail
  generalize (((w.alloc (.cells #[.bool lf, .int .i64 pg, .slice ka kn kc, .slice va vn vc, .slice oa on oc, .slice ya yn yc] 108)).alloc (.cells #[.bool false, .int .i64 0, .slice none 0 0, .slice none 0 0, .slice none 0 0, .slice none 0 0] 92)).alloc (.cells #[.bool lf, .int .i64 pg, .slice none 0 0, .slice none 0 0, .slice none 0 0, .slice none 0 0] 92)) = W0 at S0 ⊢
  refine (toStringS_any _ _ _ ks W0 A B (by have := S0.bel.size; omega) (hK.below (S0.bel.mono hB)) h1).mono ?_
  rintro e w1 ⟨g1, hg1, rfl, o1, b1⟩
  obtain ⟨_, _, e1, r1⟩ := RowsAt.of_owns (fit := strFit) (d := ByteArray.empty) sc1 o1 hK.1 hK.2.2.2.1
  cases e1
  have r1' := r1.up (A' := N + 3) (B' := w1.heap.size) (by have := S0.lt; omega) (Nat.le_refl _)
  have m1 := (room_of_own o1).lower (lo' := N) (by have := S0.lt; omega)
  have S1 := S0.below b1 hN
  clear S0 b1 o1 r1 hK
  have l1 := S1.lt
  obtain ⟨x0, x1, x2, x3, x4, x5⟩ := box6 S1.arg
  obtain ⟨y0, y1, y2, y3, y4, y5⟩ := box6 S1.out
  have f1 := thawT S1.out
  have S2 := S1.set hN 2 (.slice (some ⟨g1, 0, none⟩) kn kn)
  have q1 := r1'.keep ((Keeps.refl _ _ _).set (p := ⟨N + 1 + 1, 2, none⟩) (.inl (by simp)) (.slice (some ⟨g1, 0, none⟩) kn kn))
  have z1 : (w1.setCell ⟨N + 1 + 1, 2, none⟩ (.slice (some ⟨g1, 0, none⟩) kn kn)).heap.size = w1.heap.size := by simp [World.setCell]
  have t1 : N < w1.heap.size := by omega
  have m1 := m1.set ⟨N + 1 + 1, 2, none⟩ (.slice (some ⟨g1, 0, none⟩) kn kn)
  clear S1 r1'
  go_wp2_with fail
  generalize (w1.setCell ⟨N + 1 + 1, 2, none⟩ (.slice (some ⟨g1, 0, none⟩) kn kn)) = W1 at S2 q1 z1 m1 ⊢
  clear x0 x1 x2 x3 x4 x5 y0 y1 y2 y3 y4 y5 f1
  refine (toStringS_any _ _ _ vs W1 A B (by have := S2.bel.size; omega) (hV.below (S2.bel.mono hB)) h2).mono ?_
  rintro e w2 ⟨g2, hg2, rfl, o2, b2⟩
  obtain ⟨_, _, e1, r2⟩ := RowsAt.of_owns (fit := strFit) (d := ByteArray.empty) sc1 o2 hV.1 hV.2.2.2.1
  cases e1
  have r2' := r2.up (A' := N + 3) (B' := w2.heap.size) (by have := S2.lt; omega) (Nat.le_refl _)
  have q1' := (q1.below (by rw [← z1]; exact b2)).up (A' := N + 3) (B' := w2.heap.size) (Nat.le_refl _) (by rw [← z1]; exact b2.size)
  have m1 := m1.below b2
  have m2 := (room_of_own o2).lower (lo' := N) (by have := S2.lt; omega)
  have S3 := S2.below b2 hN
  clear S2 b2 o2 r2 hV q1 z1 l1 t1
  have l2 := S3.lt
  obtain ⟨x0, x1, x2, x3, x4, x5⟩ := box6 S3.arg
  obtain ⟨y0, y1, y2, y3, y4, y5⟩ := box6 S3.out
  have f1 := thawT S3.out
  have S4 := S3.set hN 3 (.slice (some ⟨g2, 0, none⟩) vn vn)
  have q1 := q1'.keep ((Keeps.refl _ _ _).set (p := ⟨N + 1 + 1, 3, none⟩) (.inl (by simp)) (.slice (some ⟨g2, 0, none⟩) vn vn))
  have q2 := r2'.keep ((Keeps.refl _ _ _).set (p := ⟨N + 1 + 1, 3, none⟩) (.inl (by simp)) (.slice (some ⟨g2, 0, none⟩) vn vn))
  have z2 : (w2.setCell ⟨N + 1 + 1, 3, none⟩ (.slice (some ⟨g2, 0, none⟩) vn vn)).heap.size = w2.heap.size := by simp [World.setCell]
  have t2 : N < w2.heap.size := by omega
  have m1 := m1.set ⟨N + 1 + 1, 3, none⟩ (.slice (some ⟨g2, 0, none⟩) vn vn)
  have m2 := m2.set ⟨N + 1 + 1, 3, none⟩ (.slice (some ⟨g2, 0, none⟩) vn vn)
  clear S3 r2' q1'
  go_wp2_with fail
  generalize (w2.setCell ⟨N + 1 + 1, 3, none⟩ (.slice (some ⟨g2, 0, none⟩) vn vn)) = W2 at S4 q1 q2 z2 m1 m2 ⊢
  clear x0 x1 x2 x3 x4 x5 y0 y1 y2 y3 y4 y5 f1
  refine (toInt64S_any _ _ _ os W2 A B (by have := S4.bel.size; omega) (hO.below (S4.bel.mono hB)) h3).mono ?_
  rintro e w3 ⟨g3, hg3, rfl, o3, b3⟩
  obtain ⟨_, _, e1, r3⟩ := RowsAt.of_owns (fit := I64) (d := 0) ic1 o3 hO.1 hO.2.2.2.1
  cases e1
  have r3' := r3.up (A' := N + 3) (B' := w3.heap.size) (by have := S4.lt; omega) (Nat.le_refl _)
  have q1' := (q1.below (by rw [← z2]; exact b3)).up (A' := N + 3) (B' := w3.heap.size) (Nat.le_refl _) (by rw [← z2]; exact b3.size)
  have q2' := (q2.below (by rw [← z2]; exact b3)).up (A' := N + 3) (B' := w3.heap.size) (Nat.le_refl _) (by rw [← z2]; exact b3.size)
  have m1 := m1.below b3
  have m2 := m2.below b3
  have m3 := (room_of_own o3).lower (lo' := N) (by have := S4.lt; omega)
  have S5 := S4.below b3 hN
  clear S4 b3 o3 r3 hO q1 q2 z2 l2 t2
  have l3 := S5.lt
  obtain ⟨x0, x1, x2, x3, x4, x5⟩ := box6 S5.arg
  obtain ⟨y0, y1, y2, y3, y4, y5⟩ := box6 S5.out
  have f1 := thawT S5.out
  have S6 := S5.set hN 4 (.slice (some ⟨g3, 0, none⟩) on on)
  have q1 := q1'.keep ((Keeps.refl _ _ _).set (p := ⟨N + 1 + 1, 4, none⟩) (.inl (by simp)) (.slice (some ⟨g3, 0, none⟩) on on))
  have q2 := q2'.keep ((Keeps.refl _ _ _).set (p := ⟨N + 1 + 1, 4, none⟩) (.inl (by simp)) (.slice (some ⟨g3, 0, none⟩) on on))
  have q3 := r3'.keep ((Keeps.refl _ _ _).set (p := ⟨N + 1 + 1, 4, none⟩) (.inl (by simp)) (.slice (some ⟨g3, 0, none⟩) on on))
  have z3 : (w3.setCell ⟨N + 1 + 1, 4, none⟩ (.slice (some ⟨g3, 0, none⟩) on on)).heap.size = w3.heap.size := by simp [World.setCell]
  have t3 : N < w3.heap.size := by omega
  have m1 := m1.set ⟨N + 1 + 1, 4, none⟩ (.slice (some ⟨g3, 0, none⟩) on on)
  have m2 := m2.set ⟨N + 1 + 1, 4, none⟩ (.slice (some ⟨g3, 0, none⟩) on on)
  have m3 := m3.set ⟨N + 1 + 1, 4, none⟩ (.slice (some ⟨g3, 0, none⟩) on on)
  clear S5 r3' q1' q2'
  go_wp2_with fail
  generalize (w3.setCell ⟨N + 1 + 1, 4, none⟩ (.slice (some ⟨g3, 0, none⟩) on on)) = W3 at S6 q1 q2 q3 z3 m1 m2 m3 ⊢
  clear x0 x1 x2 x3 x4 x5 y0 y1 y2 y3 y4 y5 f1
  refine (toInt64S_any _ _ _ ys W3 A B (by have := S6.bel.size; omega) (hY.below (S6.bel.mono hB)) h4).mono ?_
  rintro e w4 ⟨g4, hg4, rfl, o4, b4⟩
  obtain ⟨_, _, e1, r4⟩ := RowsAt.of_owns (fit := I64) (d := 0) ic1 o4 hY.1 hY.2.2.2.1
  cases e1
  have r4' := r4.up (A' := N + 3) (B' := w4.heap.size) (by have := S6.lt; omega) (Nat.le_refl _)
  have q1' := (q1.below (by rw [← z3]; exact b4)).up (A' := N + 3) (B' := w4.heap.size) (Nat.le_refl _) (by rw [← z3]; exact b4.size)
  have q2' := (q2.below (by rw [← z3]; exact b4)).up (A' := N + 3) (B' := w4.heap.size) (Nat.le_refl _) (by rw [← z3]; exact b4.size)
  have q3' := (q3.below (by rw [← z3]; exact b4)).up (A' := N + 3) (B' := w4.heap.size) (Nat.le_refl _) (by rw [← z3]; exact b4.size)
  have MM : Hid (RoomL w4 N (some ⟨g1, 0, none⟩) kn ∧ RoomL w4 N (some ⟨g2, 0, none⟩) vn ∧ RoomL w4 N (some ⟨g3, 0, none⟩) on ∧ RoomL w4 N (some ⟨g4, 0, none⟩) yn) := ⟨m1.below b4, m2.below b4, m3.below b4, (room_of_own o4).lower (lo' := N) (by have := S6.lt; omega)⟩
  clear m1 m2 m3
  have S7 := S6.below b4 hN
  clear S6 b4 o4 r4 hY q1 q2 q3 z3 l3 t3
  have l4 := S7.lt
  have S8 := S7.set hN 5 (.slice (some ⟨g4, 0, none⟩) yn yn)
  obtain ⟨y0, y1, y2, y3, y4, y5⟩ := box6 S7.out
  obtain ⟨v0, v1, v2, v3, v4, v5⟩ := box6 S8.out
  obtain ⟨u0, u1, u2, u3, u4, u5⟩ := box6 S8.res
  have f1 := thawT S7.out
  have f2 := thawT S8.res
  have l5 : N + 1 < w4.heap.size := by omega
  have K : Keeps (N + 3) w4.heap.size w4 (put6T (w4.setCell ⟨N + 1 + 1, 5, none⟩ (.slice (some ⟨g4, 0, none⟩) yn yn)) (N + 1) (.bool lf) (.int .i64 pg) (.slice (some ⟨g1, 0, none⟩) kn kn) (.slice (some ⟨g2, 0, none⟩) vn vn) (.slice (some ⟨g3, 0, none⟩) on on) (.slice (some ⟨g4, 0, none⟩) yn yn)) := by
    unfold put6T
    iterate 7 refine Keeps.set ?_ (.inl (by simp)) _
    exact Keeps.refl _ _ _
  have hX := put6T_box S8.res (.bool lf) (.int .i64 pg) (.slice (some ⟨g1, 0, none⟩) kn kn) (.slice (some ⟨g2, 0, none⟩) vn vn) (.slice (some ⟨g3, 0, none⟩) on on) (.slice (some ⟨g4, 0, none⟩) yn yn)
  have hFr := put6T_fr (w4.setCell ⟨N + 1 + 1, 5, none⟩ (.slice (some ⟨g4, 0, none⟩) yn yn)) (N + 1) (.bool lf) (.int .i64 pg) (.slice (some ⟨g1, 0, none⟩) kn kn) (.slice (some ⟨g2, 0, none⟩) vn vn) (.slice (some ⟨g3, 0, none⟩) on on) (.slice (some ⟨g4, 0, none⟩) yn yn)
  have hbl := S8.bel.trans (hFr.below (B := w.heap.size) (S8.bel.size) (fun g e => by omega))
  have hsz : (put6T (w4.setCell ⟨N + 1 + 1, 5, none⟩ (.slice (some ⟨g4, 0, none⟩) yn yn)) (N + 1) (.bool lf) (.int .i64 pg) (.slice (some ⟨g1, 0, none⟩) kn kn) (.slice (some ⟨g2, 0, none⟩) vn vn) (.slice (some ⟨g3, 0, none⟩) on on) (.slice (some ⟨g4, 0, none⟩) yn yn)).heap.size = w4.heap.size := by simp [put6T, World.setCell]
  clear S7 S8 hFr
  go_wp2
  show bodyPost _ _ _ _ _ (put6T (w4.setCell ⟨N + 1 + 1, 5, none⟩ (.slice (some ⟨g4, 0, none⟩) yn yn)) (N + 1) (.bool lf) (.int .i64 pg) (.slice (some ⟨g1, 0, none⟩) kn kn) (.slice (some ⟨g2, 0, none⟩) vn vn) (.slice (some ⟨g3, 0, none⟩) on on) (.slice (some ⟨g4, 0, none⟩) yn yn))
  obtain ⟨p0, p1, p2, p3, p4, p5⟩ := box6 hX
  refine bodyPost_ret (v := .agg #[.bool lf, .int .i64 pg, .slice (some ⟨g1, 0, none⟩) kn kn, .slice (some ⟨g2, 0, none⟩) vn vn, .slice (some ⟨g3, 0, none⟩) on on, .slice (some ⟨g4, 0, none⟩) yn yn]) (by simp [results, Try.results66, go_sem, p0, p1, p2, p3, p4, p5]) rfl ⟨g1, g2, g3, g4, rfl, ?_, ?_, ?_, ?_, hbl, by rw [hN]; exact ⟨(MM.out.1.set _ _).put6 _ _ _ _ _ _ _, (MM.out.2.1.set _ _).put6 _ _ _ _ _ _ _, (MM.out.2.2.1.set _ _).put6 _ _ _ _ _ _ _, (MM.out.2.2.2.set _ _).put6 _ _ _ _ _ _ _⟩⟩
  · rw [hsz]; exact (q1'.keep K).up (by omega) (Nat.le_refl _)
  · rw [hsz]; exact (q2'.keep K).up (by omega) (Nat.le_refl _)
  · rw [hsz]; exact (q3'.keep K).up (by omega) (Nat.le_refl _)
  · rw [hsz]; exact (r4'.keep K).up (by omega) (Nat.le_refl _)
end Go.Proofs.Ytpmagndofiaooaa
