import Derived.Test.YtpmagndofiaooaaTma
import Derived.Test.YtpmagndofiaooaaTli
import Derived.Deep.QuietTactic
import Derived.BigQuiet
namespace Go.Proofs.Ytpmagndofiaooaa
open Go.RowKit
set_option linter.unusedVariables false
set_option linter.unusedSimpArgs false
set_option maxRecDepth 100000

def dS : ByteArray × ByteArray × Int := (ByteArray.empty, ByteArray.empty, 0)
abbrev PairsAt (w : World) (A B : Nat) (a : Option Addr) (n c : Nat) (zs : List (ByteArray × ByteArray × Int)) : Prop := RowsAt w A B 2 prCells (fun _ => True) dS a n c zs
theorem PairsAt.at {w : World} {A B : Nat} {a : Option Addr} {n c : Nat} {zs : List (ByteArray × ByteArray × Int)} (h : PairsAt w A B a n c zs) {i : Nat} (hi : i < n) :
    ∃ b off, a = some ⟨b, off, none⟩ ∧ (A ≤ b ∧ b < B) ∧ w.cell? ⟨b, off + i * 2, none⟩ = some (.string (zs.getD i dS).1) ∧ w.cell? ⟨b, off + i * 2 + 1, none⟩ = some (.string (zs.getD i dS).2.1) := by
  obtain ⟨h1, h2, h3, h4, h5⟩ := h
  obtain ⟨b, off, rfl, hlt, hc⟩ := h5 (by omega)
  exact ⟨b, off, rfl, hlt, by simpa [prCells] using hc i hi 0 (by omega), by simpa [prCells] using hc i hi 1 (by omega)⟩
theorem pairs_of_own {w : World} {base n : Nat} {v : Value} {zs : List (ByteArray × ByteArray × Int)} (h : w.ownsRow base 53 2 v n (rowsOf prCells zs)) (hl : zs.length = n) : ∃ a c, v = .slice a n c ∧ PairsAt w base w.heap.size a n c zs := RowsAt.of_owns pr2 h hl (fun _ _ => trivial)
theorem eqPair_same (k v : ByteArray) (w : World) : Calls Try.prog 39 #[.agg #[.string k, .string v], .agg #[.string k, .string v]] w fun e w' => e = .returned (.bool true) ∧ Below w.heap.size w w' := by
  have hb0 : Below w.heap.size w ((w.alloc (.cells #[.string k, .string v] 53)).alloc (.cells #[.string k, .string v] 53)) := ((Below.refl _ _).alloc (Nat.le_refl _) _).alloc (by simp) _
  go_enter Try.func39, Try.ntmps39
  go_wp2
  go_ret
  exact ⟨rfl, hb0⟩
set_option maxHeartbeats 1000000 in
theorem eqPairS_same (a : Option Addr) (n c : Nat) (a2 : Option Addr) (c2 : Nat) (zs : List (ByteArray × ByteArray × Int)) (w : World) (A B A2 B2 : Nat) (hB : B ≤ w.heap.size) (hB2 : B2 ≤ w.heap.size) (h : PairsAt w A B a n c zs) (k : PairsAt w A2 B2 a2 n c2 zs) :
    Calls Try.prog 12 #[.slice a n c, .slice a2 n c2] w fun e w' => e = .returned (.bool true) ∧ Below w.heap.size w w' := by
  have hc := Nat.le_trans h.2.1 h.2.2.1
  unfold maxLen at hc
  have hne : ((n : Int) != (n : Int)) = false := by simp
  have H1 : Hid (PairsAt w A B a n c zs) := h
  have H2 : Hid (PairsAt w A2 B2 a2 n c2 zs) := k
  clear h k
  go_enter Try.func12, Try.ntmps12
  go_wp2
  go_loopw [5] (fun i wr => ∃ k : Nat, k ≤ n ∧ i = .int .i64 k ∧ Below w.heap.size w wr) (fun i _ => n - (intOf i).toNat)
  case atStart => exact ⟨0, Nat.zero_le _, rfl, Below.refl _ _⟩
  case round =>
    obtain ⟨j, hj, rfl, hbel⟩ := hrel
    have hs := hbel.size
    by_cases hlt : j < n
    · obtain ⟨b, off, rfl, hb, c0, c1⟩ := PairsAt.at (H1.out.below (hbel.mono hB)) hlt
      obtain ⟨b2, off2, rfl, hb2, d0, d1⟩ := PairsAt.at (H2.out.below (hbel.mono hB2)) hlt
      generalize (zs.getD j dS).1 = sk at *
      generalize (zs.getD j dS).2.1 = sv at *
      have hbl : b < wr.heap.size := by omega
      have hbl2 : b2 < wr.heap.size := by omega
      go_wp2
      go_region_with (go_at_call 39; refine (eqPair_same sk sv _).mono ?_; rintro e w1 ⟨rfl, hb1⟩)
      all_goals
        go_wp2
        go_roundw
        case rel => exact ⟨j + 1, by omega, by go_num, (hbel.drew).trans (hb1.mono hs)⟩
        case measure => simp [intOf]; omega
    · go_wp2
      go_ret
      exact ⟨rfl, hbel⟩
/-- The marks of pairs. -/
def mkZs (k n : Nat) : List (ByteArray × ByteArray × Int) := (List.range n).map fun j => (mkS (k + 2 * j), mkS (k + 2 * j + 1), 0)
theorem mkZs_get (k n j : Nat) (h : j < n) : (mkZs k n).getD j dS = (mkS (k + 2 * j), mkS (k + 2 * j + 1), 0) := by simp [mkZs, List.getD, h]
theorem mkZs_len (k n : Nat) : (mkZs k n).length = n := by simp [mkZs]
set_option maxHeartbeats 2000000 in
theorem markPairS_own (a : Option Addr) (n c k base : Nat) (xs : List Value) (w : World) (h : w.ownsRow base 53 2 (.slice a n c) n xs) (hk : k + 2 * n ≤ 1000000000) :
    Calls Try.prog 13 #[.slice a n c, .int .i64 k] w fun e w' => e = .returned (.int .i64 (k + 2 * n : Nat)) ∧ w'.ownsRow base 53 2 (.slice a n c) n (rowsOf prCells (mkZs k n)) ∧ Fr (fun b => some b = (Value.slice a n c).ownBlock) w w' := by
  have hn63 : n ≤ 1000000000 := by omega
  go_enter Try.func13, Try.ntmps13
  go_wp2_with fail
  go_loopw [1, 5] (fun kv i wr => ∃ (j : Nat) (ys : List Value), j ≤ n ∧ i = .int .i64 j ∧ kv = .int .i64 ((k + 2 * j : Nat) : Int) ∧ wr.ownsRow base 53 2 (.slice a n c) n ys ∧ Hid (∀ r, r < j * 2 → ys[r]? = (rowsOf prCells (mkZs k n))[r]?) ∧ Fr (fun b => some b = (Value.slice a n c).ownBlock) w wr) (fun _ i _ => n - (intOf i).toNat)
  case atStart => exact ⟨0, xs, Nat.zero_le _, rfl, rfl, h, fun r hr => by omega, Fr.refl _ _⟩
  case round =>
    clear h
    obtain ⟨j, ys, hj, rfl, rfl, hown, HG, hfr⟩ := hrel
    by_cases hlt : j < n
    · obtain ⟨g, cap, cur, hv, _⟩ : ∃ g cap cur, Value.slice a n c = .slice (some ⟨g, 0, none⟩) n cap ∧ wr.heap[g]? = some (.cells cur 53 (0, 0)) := by
        rcases hown.2 with ⟨e, e2⟩ | ⟨g, cap, cur, e, _, e3, _⟩
        · omega
        · exact ⟨g, cap, cur, e, e3⟩
      simp only [Value.slice.injEq] at hv
      obtain ⟨rfl, -, -⟩ := hv
      have hgl := (hown.lt g rfl).2
      have hyl := hown.1
      obtain ⟨kj, hkj⟩ : ∃ kj, k + 2 * j = kj := ⟨_, rfl⟩
      have hkb : kj + 2 ≤ 1000000000 := by omega
      have HKJ : Hid (k + 2 * j = kj) := hkj
      rw [hkj]
      have HROW : Hid (∀ zs' : List Value, zs'.length = n * 2 → (∀ r, r < j * 2 → zs'[r]? = ys[r]?) → zs'[j * 2]? = some (.string (mkS kj)) → zs'[j * 2 + 1]? = some (.string (mkS (kj + 1))) → ∀ r, r < (j + 1) * 2 → zs'[r]? = (rowsOf prCells (mkZs k n))[r]?) := fun zs' _ h1 h2 h3 r hr => by
        have e0 := rowsOf_get pr2 dS (mkZs k n) j 0 (by rw [mkZs_len]; exact hlt) (by omega)
        have e1 := rowsOf_get pr2 dS (mkZs k n) j 1 (by rw [mkZs_len]; exact hlt) (by omega)
        rw [mkZs_get _ _ _ hlt, hkj] at e0 e1
        simp [prCells] at e0 e1
        by_cases hr1 : r < j * 2
        · rw [h1 r hr1]; exact HG.out r hr1
        · by_cases hr2 : r = j * 2
          · subst hr2; rw [h2, e0]
          · obtain rfl : r = j * 2 + 1 := by omega
            rw [h3, e1]
      clear hkj
      have hmt := markText_any kj wr (by omega)
      generalize hms : mkS kj = ms at *
      go_wp2_with fail
      refine hmt.mono ?_
      rintro e w2 ⟨rfl, hb2⟩
      have hown2 := owns_below hown hb2
      have hgl2 := Nat.lt_of_lt_of_le hgl hb2.size
      have hf0 := hown2.frozenAt (j * 2)
      obtain ⟨u0, hu0⟩ : ∃ u, w2.cell? ⟨g, j * 2, none⟩ = some u := ⟨ys[j * 2]'(by omega), by rw [hown2.cellAt (j * 2) (by omega)]; exact List.getElem?_eq_getElem _⟩
      have R1 := (hown2.stored (j * 2) (.string ms)).1
      have fr1 := (hfr.trans (Fr.of_below hb2)).trans ((fr_setT w2 g (j * 2) (.string ms)).weak (T := fun b => some b = (Value.slice (some ⟨g, 0, none⟩) n c).ownBlock) (fun b e => by subst e; rfl))
      clear hmt hown hown2 hfr hb2 hgl
      go_upto_region 5 with fail
      generalize w2.setCell ⟨g, j * 2, none⟩ (.string ms) = W2 at *
      clear hf0 hu0
      have hgl := (R1.lt g rfl).2
      have hmt := markText_any (kj + 1) W2 (by omega)
      have hcast : ((kj + 1 : Nat) : Int) = (kj : Int) + 1 := by omega
      rw [hcast] at hmt
      generalize hmt2 : mkS (kj + 1) = mt at *
      go_wp2_with fail
      refine hmt.mono ?_
      rintro e w3 ⟨rfl, hb3⟩
      have hown3 := owns_below R1 hb3
      have hgl3 := Nat.lt_of_lt_of_le hgl hb3.size
      have hf1 := hown3.frozenAt (j * 2 + 1)
      obtain ⟨u1, hu1⟩ : ∃ u, w3.cell? ⟨g, j * 2 + 1, none⟩ = some u := ⟨(ys.set (j * 2) (.string ms))[j * 2 + 1]'(by simp; omega), by rw [hown3.cellAt (j * 2 + 1) (by omega)]; exact List.getElem?_eq_getElem _⟩
      have R2 := (hown3.stored (j * 2 + 1) (.string mt)).1
      have fr2 := (fr1.trans (Fr.of_below hb3)).trans ((fr_setT w3 g (j * 2 + 1) (.string mt)).weak (T := fun b => some b = (Value.slice (some ⟨g, 0, none⟩) n c).ownBlock) (fun b e => by subst e; rfl))
      have HG2 : Hid (∀ r, r < (j + 1) * 2 → ((ys.set (j * 2) (.string ms)).set (j * 2 + 1) (.string mt))[r]? = (rowsOf prCells (mkZs k n))[r]?) := HROW.out _ (by simp; omega) (fun r hr => by rw [List.getElem?_set_ne (by omega), List.getElem?_set_ne (by omega)]) (by rw [List.getElem?_set_ne (by omega), List.getElem?_set_self (by omega)]) (by rw [List.getElem?_set_self (by simp; omega)])
      clear hmt hown3 R1 fr1 hb3 HROW HG hms hmt2
      go_wp2_with fail
      go_roundw
      case rel => exact ⟨j + 1, _, by omega, by go_num, by have := HKJ.out; rw [show k + 2 * (j + 1) = kj + 2 by omega]; go_num, R2, HG2, fr2⟩
      case measure => simp [intOf]; omega
    · have hje : j = n := by omega
      have hys : ys = rowsOf prCells (mkZs k n) := by
        refine List.ext_getElem? fun r => ?_
        by_cases hr : r < n * 2
        · exact HG.out r (by omega)
        · rw [List.getElem?_eq_none (by rw [hown.1]; omega), List.getElem?_eq_none (by rw [rowsOf_length pr2, mkZs_len]; omega)]
      rw [hys] at hown
      have HOW : Hid _ := hown
      clear hown HG hys
      subst hje
      go_wp2_with fail
      go_ret
      exact ⟨rfl, HOW.out, hfr⟩
theorem listS_ne (a : ByteArray) : (a.toList == a.toList) = true := by simp
set_option maxHeartbeats 2000000 in
theorem heldPairS_same (a : Option Addr) (n c k : Nat) (w : World) (A B : Nat) (hB : B ≤ w.heap.size) (h : PairsAt w A B a n c (mkZs k n)) (hk : k + 2 * n ≤ 1000000000) :
    Calls Try.prog 25 #[.slice a n c, .int .i64 k] w fun e w' => e = .returned (.int .i64 (k + 2 * n : Nat)) ∧ Below w.heap.size w w' := by
  have hn63 : n ≤ 1000000000 := by omega
  have H1 : Hid (PairsAt w A B a n c (mkZs k n)) := h
  clear h
  go_enter Try.func25, Try.ntmps25
  go_wp2_with fail
  go_loopw [1, 5] (fun kv i wr => ∃ (j : Nat), j ≤ n ∧ i = .int .i64 j ∧ kv = .int .i64 ((k + 2 * j : Nat) : Int) ∧ Below w.heap.size w wr) (fun _ i _ => n - (intOf i).toNat)
  case atStart => exact ⟨0, Nat.zero_le _, rfl, rfl, Below.refl _ _⟩
  case round =>
    obtain ⟨j, hj, rfl, rfl, hbel⟩ := hrel
    have hs := hbel.size
    by_cases hlt : j < n
    · obtain ⟨b, off, rfl, hb, c0, c1⟩ := PairsAt.at (H1.out.below (hbel.mono hB)) hlt
      rw [mkZs_get _ _ _ hlt] at c0 c1
      simp only at c0 c1
      obtain ⟨kj, hkj⟩ : ∃ kj, k + 2 * j = kj := ⟨_, rfl⟩
      have hkb : kj + 2 ≤ 1000000000 := by omega
      have HKJ : Hid (k + 2 * j = kj) := hkj
      rw [hkj] at c0 c1 ⊢
      have hbl : b < wr.heap.size := by omega
      have hmt := fun W => markText_any kj W (by omega)
      have hmt2 := fun W => markText_any (kj + 1) W (by omega)
      have hcast : ((kj + 1 : Nat) : Int) = (kj : Int) + 1 := by omega
      rw [hcast] at hmt2
      have HB1 : Hid (∀ w1, Below wr.heap.size wr w1 → w1.cell? ⟨b, off + j * 2 + 1, none⟩ = some (.string (mkS (kj + 1)))) := fun w1 hb1 => (World.cell?_of_block (w := wr) (a := ⟨b, off + j * 2 + 1, none⟩) (hb1.block b hbl)).trans c1
      have HB0 : Hid (∀ w1, Below wr.heap.size wr w1 → w1.cell? ⟨b, off + j * 2, none⟩ = some (.string (mkS kj)) ∧ b < w1.heap.size) := fun w1 hb1 => ⟨(World.cell?_of_block (w := wr) (a := ⟨b, off + j * 2, none⟩) (hb1.block b hbl)).trans c0, Nat.lt_of_lt_of_le hbl hb1.size⟩
      generalize mkS kj = ms at *
      generalize mkS (kj + 1) = mt at *
      have HMT : Hid (∀ W : World, Calls Try.prog 40 #[.int .i64 (kj : Int)] W fun e w' => e = .returned (.string ms) ∧ Below W.heap.size W w') := hmt
      have HMT2 : Hid (∀ W : World, Calls Try.prog 40 #[.int .i64 ((kj : Int) + 1)] W fun e w' => e = .returned (.string mt) ∧ Below W.heap.size W w') := hmt2
      clear hkj c1 hmt hmt2 hcast
      go_upto_region 4 with fail
      go_cut [19] (fun v wx => v = .bool false ∧ Below wr.heap.size wr wx)
      case first =>
        go_region_with (go_at_call 40; refine (HMT.out _).mono ?_; rintro e w1 ⟨rfl, hb1⟩; obtain ⟨c9, b9⟩ := HB0.out w1 (((Below.refl _ wr).drew).trans hb1))
        all_goals
          have hb1' : Below wr.heap.size wr w1 := ((Below.refl _ wr).drew).trans hb1
          clear hb1
          go_wp2_with fail
          go_meet
          exact ⟨by simp, hb1'⟩
      case rest =>
        obtain ⟨rfl, hbx⟩ := hcut
        have d1 := HB1.out wc hbx
        have hblx : b < wc.heap.size := Nat.lt_of_lt_of_le hbl hbx.size
        clear c0
        go_upto_region 7 with fail
        go_cut [29] (fun v wx => v = .bool false ∧ Below wc.heap.size wc wx)
        case first =>
          go_region_with (go_at_call 40; refine (HMT2.out _).mono ?_; rintro e w1 ⟨rfl, hb1⟩; have c9 := HB1.out w1 (hbx.trans ((((Below.refl _ wc).drew).trans hb1).mono hbx.size)); have b9 := Nat.lt_of_lt_of_le hblx hb1.size)
          all_goals
            have hb1' : Below wc.heap.size wc w1 := ((Below.refl _ wc).drew).trans hb1
            clear hb1
            go_wp2_with fail
            go_meet
            exact ⟨by simp, hb1'⟩
        case rest =>
          obtain ⟨rfl, hby⟩ := hcut
          have hfin := (hbel.trans (hbx.mono hs)).trans (hby.mono (Nat.le_trans hs hbx.size))
          clear d1 hbx hby HB1
          go_wp2_with fail
          go_roundw
          case rel => exact ⟨j + 1, by omega, by go_num, by have := HKJ.out; rw [show k + 2 * (j + 1) = kj + 2 by omega]; go_num, hfin⟩
          case measure => simp [intOf]; omega
    · have hje : j = n := by omega
      subst hje
      go_wp2_with fail
      go_ret
      exact ⟨rfl, hbel⟩
end Go.Proofs.Ytpmagndofiaooaa
