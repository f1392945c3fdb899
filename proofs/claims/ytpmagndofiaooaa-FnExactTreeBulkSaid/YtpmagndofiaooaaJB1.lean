import Derived.Test.YtpmagndofiaooaaTma
import Derived.Test.YtpmagndofiaooaaTli
import Derived.Test.YtpmagndofiaooaaTuk
import Derived.Deep.QuietTactic
import Derived.BigQuiet
namespace Go.Proofs.Ytpmagndofiaooaa
open Go.RowKit
set_option linter.unusedVariables false
set_option linter.unusedSimpArgs false
set_option maxRecDepth 100000

set_option maxHeartbeats 1000000 in
theorem szPairU_any (s v : ByteArray) (left : Int) (w : World) (h0 : 0 ≤ left) (h1 : left ≤ 1048576) (hs : s.size ≤ maxLen) (hv : v.size ≤ maxLen) :
    Calls Try.prog 26 #[.agg #[.string s, .string v], .int .i64 left] w fun e w' => ∃ r : Int, e = .returned (.int .i64 r) ∧ (-1 ≤ r ∧ r ≤ left) ∧ Below w.heap.size w w' := by
  unfold maxLen at hs hv
  by_cases h : left - s.size < 0
  · go_enter Try.func26, Try.ntmps26
    go_wp2
    go_ret
    exact ⟨-1, rfl, ⟨by omega, by omega⟩, (Below.refl _ _).alloc (Nat.le_refl _) _⟩
  · by_cases h2 : left - s.size - v.size < 0
    · go_enter Try.func26, Try.ntmps26
      go_wp2
      go_ret
      exact ⟨-1, rfl, ⟨by omega, by omega⟩, (Below.refl _ _).alloc (Nat.le_refl _) _⟩
    · go_enter Try.func26, Try.ntmps26
      go_wp2
      go_ret
      exact ⟨left - s.size - v.size, rfl, ⟨by omega, by omega⟩, (Below.refl _ _).alloc (Nat.le_refl _) _⟩
set_option maxHeartbeats 1000000 in
theorem szPairSU_any (a : Option Addr) (n c : Nat) (zs : List (ByteArray × ByteArray)) (left : Int) (w : World) (h0 : 0 ≤ left) (h1 : left ≤ 1048576) (B : Nat) (hB : B ≤ w.heap.size) (hp : PrAt w B a n c zs) (hz : ∀ i, i < n → (zs.getD i dP).1.size ≤ maxLen ∧ (zs.getD i dP).2.size ≤ maxLen) :
    Calls Try.prog 7 #[.slice a n c, .int .i64 left] w fun e w' => ∃ r : Int, e = .returned (.int .i64 r) ∧ (0 ≤ r → (n : Int) ≤ left) ∧ Below w.heap.size w w' := by
  have hcc := hp.2.1
  have hcm := hp.2.2.1
  unfold maxLen at hcm
  by_cases h : left - n < 0
  · go_enter Try.func7, Try.ntmps7
    go_wp2
    go_ret
    exact ⟨-1, rfl, by omega, Below.refl _ _⟩
  · have HP : Hid (∀ W, Below w.heap.size w W → PrAt W B a n c zs) := fun W hW => hp.below (hW.mono hB)
    have HZ : Hid (∀ i, i < n → (zs.getD i dP).1.size ≤ maxLen ∧ (zs.getD i dP).2.size ≤ maxLen) := hz
    clear hp hz
    go_enter Try.func7, Try.ntmps7
    go_wp2
    go_loopw [1, 5] (fun l i wr => ∃ (k : Nat) (r : Int), k ≤ n ∧ i = .int .i64 k ∧ l = .int .i64 r ∧ 0 ≤ r ∧ r ≤ left - n ∧ Below w.heap.size w wr) (fun _ i _ => n - (intOf i).toNat)
    case atStart => exact ⟨0, left - n, Nat.zero_le _, rfl, rfl, by omega, by omega, Below.refl _ _⟩
    case round =>
      obtain ⟨k, r, hk, rfl, rfl, hr0, hr1, hbel⟩ := hrel
      by_cases hlt : k < n
      · obtain ⟨b, off, rfl, hbB, hc⟩ := (HP.out wr hbel).2.2.2 (by omega)
        have hck := hc k hlt
        obtain ⟨hz1, hz2⟩ := HZ.out k hlt
        obtain ⟨ck, cv⟩ := hck
        have hbl : b < wr.heap.size := by have := hbel.size; omega
        generalize (zs.getD k dP).1 = ky at ck hz1
        generalize (zs.getD k dP).2 = vl at cv hz2
        clear hc
        go_wp2_with fail
        refine (szPairU_any ky vl r wr hr0 (by omega) hz1 hz2).mono ?_
        rintro e w1 ⟨r1, rfl, ⟨hq1, hq2⟩, hb1⟩
        have hb2 := hbel.trans (hb1.mono hbel.size)
        by_cases h3 : r1 < 0
        · go_wp2_with fail
          go_ret
          exact ⟨-1, rfl, by omega, hb2⟩
        · go_wp2_with fail
          go_roundw
          case rel => exact ⟨k + 1, r1, by omega, by go_num, rfl, by omega, by omega, hb2⟩
          case measure => simp [intOf]; omega
      · go_wp2_with fail
        go_ret
        exact ⟨r, rfl, by omega, hbel⟩
end Go.Proofs.Ytpmagndofiaooaa
namespace Go.Proofs.Ytpmagndofiaooaa
open Go.RowKit
set_option linter.unusedVariables false
set_option linter.unusedSimpArgs false
set_option maxRecDepth 100000

def dS : ByteArray × ByteArray × Int := (ByteArray.empty, ByteArray.empty, 0)
abbrev PairsAt (w : World) (A B : Nat) (a : Option Addr) (n c : Nat) (zs : List (ByteArray × ByteArray × Int)) : Prop := RowsAt w A B 2 prCells (fun _ => True) dS a n c zs
theorem PairsAt.at {w : World} {A B : Nat} {a : Option Addr} {n c : Nat} {zs : List (ByteArray × ByteArray × Int)} (h : PairsAt w A B a n c zs) {i : Nat} (hi : i < n) :
    ∃ b off, a = some ⟨b, off, none⟩ ∧ (A ≤ b ∧ b < B) ∧ w.cell? ⟨b, off + i * 2, none⟩ = some (.string (zs.getD i dS).1) ∧ w.cell? ⟨b, off + i * 2 + 1, none⟩ = some (.string (zs.getD i dS).2.1) := by
  obtain ⟨h1, h2, h3, h4, h5⟩ := h
  obtain ⟨b, off, rfl, hlt, hc⟩ := h5 (by omega)
  exact ⟨b, off, rfl, hlt, by simpa [prCells] using hc i hi 0 (by omega), by simpa [prCells] using hc i hi 1 (by omega)⟩
theorem pairs_of_own {w : World} {base n : Nat} {v : Value} {zs : List (ByteArray × ByteArray × Int)} (h : w.ownsRow base 53 2 v n (rowsOf prCells zs)) (hl : zs.length = n) : ∃ a c, v = .slice a n c ∧ PairsAt w base w.heap.size a n c zs := RowsAt.of_owns pr2 h hl (fun _ _ => trivial)
theorem eqPair_same (k v : ByteArray) (w : World) : Calls Try.prog 39 #[.agg #[.string k, .string v], .agg #[.string k, .string v]] w fun e w' => e = .returned (.bool true) ∧ Below w.heap.size w w' := by
  have hb0 : Below w.heap.size w ((w.alloc (.cells #[.string k, .string v] 53)).alloc (.cells #[.string k, .string v] 53)) := ((Below.refl _ _).alloc (Nat.le_refl _) _).alloc (by simp) _
  go_enter Try.func39, Try.ntmps39
  go_wp2
  go_ret
  exact ⟨rfl, hb0⟩
set_option maxHeartbeats 1000000 in
theorem eqPairS_same (a : Option Addr) (n c : Nat) (a2 : Option Addr) (c2 : Nat) (zs : List (ByteArray × ByteArray × Int)) (w : World) (A B A2 B2 : Nat) (hB : B ≤ w.heap.size) (hB2 : B2 ≤ w.heap.size) (h : PairsAt w A B a n c zs) (k : PairsAt w A2 B2 a2 n c2 zs) :
    Calls Try.prog 12 #[.slice a n c, .slice a2 n c2] w fun e w' => e = .returned (.bool true) ∧ Below w.heap.size w w' := by
  have hc := Nat.le_trans h.2.1 h.2.2.1
  unfold maxLen at hc
  have hne : ((n : Int) != (n : Int)) = false := by simp
  have H1 : Hid (PairsAt w A B a n c zs) := h
  have H2 : Hid (PairsAt w A2 B2 a2 n c2 zs) := k
  clear h k
  go_enter Try.func12, Try.ntmps12
  go_wp2
  go_loopw [5] (fun i wr => ∃ k : Nat, k ≤ n ∧ i = .int .i64 k ∧ Below w.heap.size w wr) (fun i _ => n - (intOf i).toNat)
  case atStart => exact ⟨0, Nat.zero_le _, rfl, Below.refl _ _⟩
  case round =>
    obtain ⟨j, hj, rfl, hbel⟩ := hrel
    have hs := hbel.size
    by_cases hlt : j < n
    · obtain ⟨b, off, rfl, hb, c0, c1⟩ := PairsAt.at (H1.out.below (hbel.mono hB)) hlt
      obtain ⟨b2, off2, rfl, hb2, d0, d1⟩ := PairsAt.at (H2.out.below (hbel.mono hB2)) hlt
      generalize (zs.getD j dS).1 = sk at *
      generalize (zs.getD j dS).2.1 = sv at *
      have hbl : b < wr.heap.size := by omega
      have hbl2 : b2 < wr.heap.size := by omega
      go_wp2
      go_region_with (go_at_call 39; refine (eqPair_same sk sv _).mono ?_; rintro e w1 ⟨rfl, hb1⟩)
      all_goals
        go_wp2
        go_roundw
        case rel => exact ⟨j + 1, by omega, by go_num, (hbel.drew).trans (hb1.mono hs)⟩
        case measure => simp [intOf]; omega
    · go_wp2
      go_ret
      exact ⟨rfl, hbel⟩
/-- The marks of pairs. -/
def mkZs (k n : Nat) : List (ByteArray × ByteArray × Int) := (List.range n).map fun j => (mkS (k + 2 * j), mkS (k + 2 * j + 1), 0)
theorem mkZs_get (k n j : Nat) (h : j < n) : (mkZs k n).getD j dS = (mkS (k + 2 * j), mkS (k + 2 * j + 1), 0) := by simp [mkZs, List.getD, h]
theorem mkZs_len (k n : Nat) : (mkZs k n).length = n := by simp [mkZs]
set_option maxHeartbeats 2000000 in
theorem markPairS_own (a : Option Addr) (n c k base : Nat) (xs : List Value) (w : World) (h : w.ownsRow base 53 2 (.slice a n c) n xs) (hk : k + 2 * n ≤ 1000000000) :
    Calls Try.prog 13 #[.slice a n c, .int .i64 k] w fun e w' => e = .returned (.int .i64 (k + 2 * n : Nat)) ∧ w'.ownsRow base 53 2 (.slice a n c) n (rowsOf prCells (mkZs k n)) ∧ Fr (fun b => some b = (Value.slice a n c).ownBlock) w w' := by
  have hn63 : n ≤ 1000000000 := by omega
  go_enter Try.func13, Try.ntmps13
  go_wp2_with fail
  go_loopw [1, 5] (fun kv i wr => ∃ (j : Nat) (ys : List Value), j ≤ n ∧ i = .int .i64 j ∧ kv = .int .i64 ((k + 2 * j : Nat) : Int) ∧ wr.ownsRow base 53 2 (.slice a n c) n ys ∧ Hid (∀ r, r < j * 2 → ys[r]? = (rowsOf prCells (mkZs k n))[r]?) ∧ Fr (fun b => some b = (Value.slice a n c).ownBlock) w wr) (fun _ i _ => n - (intOf i).toNat)
  case atStart => exact ⟨0, xs, Nat.zero_le _, rfl, rfl, h, fun r hr => by omega, Fr.refl _ _⟩
  case round =>
    clear h
    obtain ⟨j, ys, hj, rfl, rfl, hown, HG, hfr⟩ := hrel
    by_cases hlt : j < n
    · obtain ⟨g, cap, cur, hv, _⟩ : ∃ g cap cur, Value.slice a n c = .slice (some ⟨g, 0, none⟩) n cap ∧ wr.heap[g]? = some (.cells cur 53 (0, 0)) := by
        rcases hown.2 with ⟨e, e2⟩ | ⟨g, cap, cur, e, _, e3, _⟩
        · omega
        · exact ⟨g, cap, cur, e, e3⟩
      simp only [Value.slice.injEq] at hv
      obtain ⟨rfl, -, -⟩ := hv
      have hgl := (hown.lt g rfl).2
      have hyl := hown.1
      obtain ⟨kj, hkj⟩ : ∃ kj, k + 2 * j = kj := ⟨_, rfl⟩
      have hkb : kj + 2 ≤ 1000000000 := by omega
      have HKJ : Hid (k + 2 * j = kj) := hkj
      rw [hkj]
      have HROW : Hid (∀ zs' : List Value, zs'.length = n * 2 → (∀ r, r < j * 2 → zs'[r]? = ys[r]?) → zs'[j * 2]? = some (.string (mkS kj)) → zs'[j * 2 + 1]? = some (.string (mkS (kj + 1))) → ∀ r, r < (j + 1) * 2 → zs'[r]? = (rowsOf prCells (mkZs k n))[r]?) := fun zs' _ h1 h2 h3 r hr => by
        have e0 := rowsOf_get pr2 dS (mkZs k n) j 0 (by rw [mkZs_len]; exact hlt) (by omega)
        have e1 := rowsOf_get pr2 dS (mkZs k n) j 1 (by rw [mkZs_len]; exact hlt) (by omega)
        rw [mkZs_get _ _ _ hlt, hkj] at e0 e1
        simp [prCells] at e0 e1
        by_cases hr1 : r < j * 2
        · rw [h1 r hr1]; exact HG.out r hr1
        · by_cases hr2 : r = j * 2
          · subst hr2; rw [h2, e0]
          · obtain rfl : r = j * 2 + 1 := by omega
            rw [h3, e1]
      clear hkj
      have hmt := markText_any kj wr (by omega)
      generalize hms : mkS kj = ms at *
      go_wp2_with fail
      refine hmt.mono ?_
      rintro e w2 ⟨rfl, hb2⟩
      have hown2 := owns_below hown hb2
      have hgl2 := Nat.lt_of_lt_of_le hgl hb2.size
      have hf0 := hown2.frozenAt (j * 2)
      obtain ⟨u0, hu0⟩ : ∃ u, w2.cell? ⟨g, j * 2, none⟩ = some u := ⟨ys[j * 2]'(by omega), by rw [hown2.cellAt (j * 2) (by omega)]; exact List.getElem?_eq_getElem _⟩
      have R1 := (hown2.stored (j * 2) (.string ms)).1
      have fr1 := (hfr.trans (Fr.of_below hb2)).trans ((fr_setT w2 g (j * 2) (.string ms)).weak (T := fun b => some b = (Value.slice (some ⟨g, 0, none⟩) n c).ownBlock) (fun b e => by subst e; rfl))
      clear hmt hown hown2 hfr hb2 hgl
      go_upto_region 5 with fail
      generalize w2.setCell ⟨g, j * 2, none⟩ (.string ms) = W2 at *
      clear hf0 hu0
      have hgl := (R1.lt g rfl).2
      have hmt := markText_any (kj + 1) W2 (by omega)
      have hcast : ((kj + 1 : Nat) : Int) = (kj : Int) + 1 := by omega
      rw [hcast] at hmt
      generalize hmt2 : mkS (kj + 1) = mt at *
      go_wp2_with fail
      refine hmt.mono ?_
      rintro e w3 ⟨rfl, hb3⟩
      have hown3 := owns_below R1 hb3
      have hgl3 := Nat.lt_of_lt_of_le hgl hb3.size
      have hf1 := hown3.frozenAt (j * 2 + 1)
      obtain ⟨u1, hu1⟩ : ∃ u, w3.cell? ⟨g, j * 2 + 1, none⟩ = some u := ⟨(ys.set (j * 2) (.string ms))[j * 2 + 1]'(by simp; omega), by rw [hown3.cellAt (j * 2 + 1) (by omega)]; exact List.getElem?_eq_getElem _⟩
      have R2 := (hown3.stored (j * 2 + 1) (.string mt)).1
      have fr2 := (fr1.trans (Fr.of_below hb3)).trans ((fr_setT w3 g (j * 2 + 1) (.string mt)).weak (T := fun b => some b = (Value.slice (some ⟨g, 0, none⟩) n c).ownBlock) (fun b e => by subst e; rfl))
      have HG2 : Hid (∀ r, r < (j + 1) * 2 → ((ys.set (j * 2) (.string ms)).set (j * 2 + 1) (.string mt))[r]? = (rowsOf prCells (mkZs k n))[r]?) := HROW.out _ (by simp; omega) (fun r hr => by rw [List.getElem?_set_ne (by omega), List.getElem?_set_ne (by omega)]) (by rw [List.getElem?_set_ne (by omega), List.getElem?_set_self (by omega)]) (by rw [List.getElem?_set_self (by simp; omega)])
      clear hmt hown3 R1 fr1 hb3 HROW HG hms hmt2
      go_wp2_with fail
      go_roundw
      case rel => exact ⟨j + 1, _, by omega, by go_num, by have := HKJ.out; rw [show k + 2 * (j + 1) = kj + 2 by omega]; go_num, R2, HG2, fr2⟩
      case measure => simp [intOf]; omega
    · have hje : j = n := by omega
      have hys : ys = rowsOf prCells (mkZs k n) := by
        refine List.ext_getElem? fun r => ?_
        by_cases hr : r < n * 2
        · exact HG.out r (by omega)
        · rw [List.getElem?_eq_none (by rw [hown.1]; omega), List.getElem?_eq_none (by rw [rowsOf_length pr2, mkZs_len]; omega)]
      rw [hys] at hown
      have HOW : Hid _ := hown
      clear hown HG hys
      subst hje
      go_wp2_with fail
      go_ret
      exact ⟨rfl, HOW.out, hfr⟩
theorem listS_ne (a : ByteArray) : (a.toList == a.toList) = true := by simp
set_option maxHeartbeats 2000000 in
theorem heldPairS_same (a : Option Addr) (n c k : Nat) (w : World) (A B : Nat) (hB : B ≤ w.heap.size) (h : PairsAt w A B a n c (mkZs k n)) (hk : k + 2 * n ≤ 1000000000) :
    Calls Try.prog 25 #[.slice a n c, .int .i64 k] w fun e w' => e = .returned (.int .i64 (k + 2 * n : Nat)) ∧ Below w.heap.size w w' := by
  have hn63 : n ≤ 1000000000 := by omega
  have H1 : Hid (PairsAt w A B a n c (mkZs k n)) := h
  clear h
  go_enter Try.func25, Try.ntmps25
  go_wp2_with fail
  go_loopw [1, 5] (fun kv i wr => ∃ (j : Nat), j ≤ n ∧ i = .int .i64 j ∧ kv = .int .i64 ((k + 2 * j : Nat) : Int) ∧ Below w.heap.size w wr) (fun _ i _ => n - (intOf i).toNat)
  case atStart => exact ⟨0, Nat.zero_le _, rfl, rfl, Below.refl _ _⟩
  case round =>
    obtain ⟨j, hj, rfl, rfl, hbel⟩ := hrel
    have hs := hbel.size
    by_cases hlt : j < n
    · obtain ⟨b, off, rfl, hb, c0, c1⟩ := PairsAt.at (H1.out.below (hbel.mono hB)) hlt
      rw [mkZs_get _ _ _ hlt] at c0 c1
      simp only at c0 c1
      obtain ⟨kj, hkj⟩ : ∃ kj, k + 2 * j = kj := ⟨_, rfl⟩
      have hkb : kj + 2 ≤ 1000000000 := by omega
      have HKJ : Hid (k + 2 * j = kj) := hkj
      rw [hkj] at c0 c1 ⊢
      have hbl : b < wr.heap.size := by omega
      have hmt := fun W => markText_any kj W (by omega)
      have hmt2 := fun W => markText_any (kj + 1) W (by omega)
      have hcast : ((kj + 1 : Nat) : Int) = (kj : Int) + 1 := by omega
      rw [hcast] at hmt2
      have HB1 : Hid (∀ w1, Below wr.heap.size wr w1 → w1.cell? ⟨b, off + j * 2 + 1, none⟩ = some (.string (mkS (kj + 1)))) := fun w1 hb1 => (World.cell?_of_block (w := wr) (a := ⟨b, off + j * 2 + 1, none⟩) (hb1.block b hbl)).trans c1
      have HB0 : Hid (∀ w1, Below wr.heap.size wr w1 → w1.cell? ⟨b, off + j * 2, none⟩ = some (.string (mkS kj)) ∧ b < w1.heap.size) := fun w1 hb1 => ⟨(World.cell?_of_block (w := wr) (a := ⟨b, off + j * 2, none⟩) (hb1.block b hbl)).trans c0, Nat.lt_of_lt_of_le hbl hb1.size⟩
      generalize mkS kj = ms at *
      generalize mkS (kj + 1) = mt at *
      have HMT : Hid (∀ W : World, Calls Try.prog 40 #[.int .i64 (kj : Int)] W fun e w' => e = .returned (.string ms) ∧ Below W.heap.size W w') := hmt
      have HMT2 : Hid (∀ W : World, Calls Try.prog 40 #[.int .i64 ((kj : Int) + 1)] W fun e w' => e = .returned (.string mt) ∧ Below W.heap.size W w') := hmt2
      clear hkj c1 hmt hmt2 hcast
      go_upto_region 4 with fail
      go_cut [19] (fun v wx => v = .bool false ∧ Below wr.heap.size wr wx)
      case first =>
        go_region_with (go_at_call 40; refine (HMT.out _).mono ?_; rintro e w1 ⟨rfl, hb1⟩; obtain ⟨c9, b9⟩ := HB0.out w1 (((Below.refl _ wr).drew).trans hb1))
        all_goals
          have hb1' : Below wr.heap.size wr w1 := ((Below.refl _ wr).drew).trans hb1
          clear hb1
          go_wp2_with fail
          go_meet
          exact ⟨by simp, hb1'⟩
      case rest =>
        obtain ⟨rfl, hbx⟩ := hcut
        have d1 := HB1.out wc hbx
        have hblx : b < wc.heap.size := Nat.lt_of_lt_of_le hbl hbx.size
        clear c0
        go_upto_region 7 with fail
        go_cut [29] (fun v wx => v = .bool false ∧ Below wc.heap.size wc wx)
        case first =>
          go_region_with (go_at_call 40; refine (HMT2.out _).mono ?_; rintro e w1 ⟨rfl, hb1⟩; have c9 := HB1.out w1 (hbx.trans ((((Below.refl _ wc).drew).trans hb1).mono hbx.size)); have b9 := Nat.lt_of_lt_of_le hblx hb1.size)
          all_goals
            have hb1' : Below wc.heap.size wc w1 := ((Below.refl _ wc).drew).trans hb1
            clear hb1
            go_wp2_with fail
            go_meet
            exact ⟨by simp, hb1'⟩
        case rest =>
          obtain ⟨rfl, hby⟩ := hcut
          have hfin := (hbel.trans (hbx.mono hs)).trans (hby.mono (Nat.le_trans hs hbx.size))
          clear d1 hbx hby HB1
          go_wp2_with fail
          go_roundw
          case rel => exact ⟨j + 1, by omega, by go_num, by have := HKJ.out; rw [show k + 2 * (j + 1) = kj + 2 by omega]; go_num, hfin⟩
          case measure => simp [intOf]; omega
    · have hje : j = n := by omega
      subst hje
      go_wp2_with fail
      go_ret
      exact ⟨rfl, hbel⟩
end Go.Proofs.Ytpmagndofiaooaa
namespace Go.Proofs.Ytpmagndofiaooaa
open Go.RowKit
set_option linter.unusedVariables false
set_option linter.unusedSimpArgs false
set_option maxRecDepth 100000

set_option maxHeartbeats 1000000 in
theorem toPairU_any (s v : ByteArray) (w : World) : Calls Try.prog 32 #[.agg #[.string s, .string v]] w fun e w' => e = .returned (.agg #[.string s, .string v]) ∧ Below w.heap.size w w' := by
  have hb : Below w.heap.size w (((w.alloc (.cells #[.string s, .string v] 51)).alloc (.cells #[.string s, .string v] 53)).alloc (.cells #[.string s, .string v] 53)) := (((Below.refl _ _).alloc (Nat.le_refl _) _).alloc (by simp) _).alloc (by simp; omega) _
  go_enter Try.func32, Try.ntmps32
  go_wp2
  exact bodyPost_ret (v := .agg #[.string s, .string v]) (by simp [results, Try.results32, go_sem]) rfl ⟨rfl, hb⟩
theorem info_PairU : (Try.prog.info? 53).map (fun i => (i.zero, i.size, i.bytes)) = some (some (.agg #[.string ByteArray.empty, .string ByteArray.empty]), 2, 32) := by kernel_rfl
theorem prs_get (zs : List (ByteArray × ByteArray)) (j : Nat) (h : j < zs.length) : (rowsOf prCells (slB zs))[j * 2]? = some (.string (zs.getD j dP).1) ∧ (rowsOf prCells (slB zs))[j * 2 + 1]? = some (.string (zs.getD j dP).2) := by
  have hl : j < (slB zs).length := by simp [slB]; exact h
  have e : (slB zs).getD j (ByteArray.empty, ByteArray.empty, 0) = ((zs.getD j dP).1, (zs.getD j dP).2, 0) := by simp [slB, List.getD, h]
  have h0 := rowsOf_get pr2 (ByteArray.empty, ByteArray.empty, 0) (slB zs) j 0 hl (by omega)
  have h1 := rowsOf_get pr2 (ByteArray.empty, ByteArray.empty, 0) (slB zs) j 1 hl (by omega)
  rw [e] at h0 h1
  exact ⟨h0, h1⟩
set_option maxHeartbeats 1000000 in
theorem toPairSU_any (a : Option Addr) (n c : Nat) (zs : List (ByteArray × ByteArray)) (w : World) (B : Nat) (hB : B ≤ w.heap.size) (hp : PrAt w B a n c zs) (hn : n ≤ 1048576) :
    Calls Try.prog 9 #[.slice a n c] w fun e w' => ∃ g, w.heap.size ≤ g ∧ e = .returned (.slice (some ⟨g, 0, none⟩) n n) ∧ w'.ownsRow w.heap.size 53 2 (.slice (some ⟨g, 0, none⟩) n n) n (rowsOf prCells (slB zs)) ∧ Below w.heap.size w w' := by
  have HL : Hid (zs.length = n) := hp.1
  have hcm := hp.2.2.1
  have hcc := hp.2.1
  unfold maxLen at hcm
  have HP : Hid (∀ W, Below w.heap.size w W → PrAt W B a n c zs) := fun W hW => hp.below (hW.mono hB)
  clear hp
  obtain ⟨i0, hi, hz0, hz1, hz2⟩ := info_parts info_PairU
  go_enter Try.func9, Try.ntmps9
  go_wp2_with (at_make; refine wpList_make_full _ rfl _ _ 28 rfl w.heap.size 53 i0 _ 2 Try.underlying28 hi hz0 hz1 .i64 .i64 n n n rfl rfl rfl rfl (by rw [hz2]; omega) (by unfold maxLen; omega) (Nat.le_refl _) ?_; intro w1 hown hgr)
  have hb1 : Below w.heap.size w w1 := (Below.refl _ _).grown hgr (Nat.le_refl _) (by simp)
  go_loopw [4] (fun i wr => ∃ k : Nat, k ≤ n ∧ i = .int .i64 k ∧ Below w.heap.size w wr ∧ ∃ xs, wr.ownsRow w.heap.size 53 2 (.slice (some ⟨w.heap.size, 0, none⟩) n n) n xs ∧ ∀ j, j < k → xs[j * 2]? = some (.string (zs.getD j dP).1) ∧ xs[j * 2 + 1]? = some (.string (zs.getD j dP).2)) (fun i _ => n - (intOf i).toNat)
  case atStart => exact ⟨0, Nat.zero_le _, rfl, hb1, _, hown, fun j hj => by omega⟩
  case round =>
    clear hown hgr hb1
    obtain ⟨k, hk, rfl, hbel, xs, hown, hgot⟩ := hrel
    have HG : Hid (∀ j, j < k → xs[j * 2]? = some (.string (zs.getD j dP).1) ∧ xs[j * 2 + 1]? = some (.string (zs.getD j dP).2)) := hgot
    clear hgot
    by_cases hlt : k < n
    · obtain ⟨b, off, rfl, hbB, hc⟩ := (HP.out wr hbel).2.2.2 (by omega)
      obtain ⟨ck, cv⟩ := hc k hlt
      have hs := hbel.size
      have hbl : b < wr.heap.size := by omega
      have hlt0 := (hown.lt w.heap.size rfl).2
      obtain ⟨z, hz⟩ : ∃ z, zs.getD k dP = z := ⟨_, rfl⟩
      have HZK : Hid (zs.getD k dP = z) := hz
      rw [hz] at ck cv
      obtain ⟨ky, vl⟩ := z
      replace ck : wr.cell? ⟨b, off + k * 2, none⟩ = some (.string ky) := ck
      replace cv : wr.cell? ⟨b, off + k * 2 + 1, none⟩ = some (.string vl) := cv
      clear hz hc
      go_wp2_with fail
      refine (toPairU_any ky vl wr).mono ?_
      rintro e w2 ⟨rfl, hb2⟩
      have hown2 := owns_below hown hb2
      have hbel2 := hbel.trans (hb2.mono hs)
      have hxl := hown2.1
      have R := (hown2.stored (k * 2) (.string ky)).1.stored (k * 2 + 1) (.string vl)
      have hbel3 := (hbel2.setCell (p := ⟨w.heap.size, k * 2, none⟩) (Nat.le_refl _) (.string ky)).setCell (p := ⟨w.heap.size, k * 2 + 1, none⟩) (Nat.le_refl _) (.string vl)
      have hf0 := hown2.frozenAt (k * 2)
      have hf1 := hown2.frozenAt (k * 2 + 1)
      have hlt2 := (hown2.lt w.heap.size rfl).2
      obtain ⟨u0, hu0⟩ : ∃ u, w2.cell? ⟨w.heap.size, k * 2, none⟩ = some u := ⟨xs[k * 2]'(by omega), by rw [hown2.cellAt (k * 2) (by omega)]; exact List.getElem?_eq_getElem _⟩
      obtain ⟨u1, hu1⟩ : ∃ u, w2.cell? ⟨w.heap.size, k * 2 + 1, none⟩ = some u := ⟨xs[k * 2 + 1]'(by omega), by rw [hown2.cellAt (k * 2 + 1) (by omega)]; exact List.getElem?_eq_getElem _⟩
      have HS : Hid (∀ j, j < k + 1 → ((xs.set (k * 2) (.string ky)).set (k * 2 + 1) (.string vl))[j * 2]? = some (.string (zs.getD j dP).1) ∧ ((xs.set (k * 2) (.string ky)).set (k * 2 + 1) (.string vl))[j * 2 + 1]? = some (.string (zs.getD j dP).2)) := fun j hj => by
        by_cases hjk : j = k
        · subst hjk
          rw [HZK.out]
          constructor
          · rw [List.getElem?_set_ne (by omega), List.getElem?_set_self (by omega)]
          · rw [List.getElem?_set_self (by rw [List.length_set]; omega)]
        · have h9 := HG.out j (by omega)
          rw [List.getElem?_set_ne (by omega), List.getElem?_set_ne (by omega), List.getElem?_set_ne (by omega), List.getElem?_set_ne (by omega)]
          exact h9
      clear hown hown2 hbel hbel2 hb2
      go_wp2
      go_roundw
      case rel => exact ⟨k + 1, by omega, by go_num, hbel3, _, R.1, HS.out⟩
      case measure => simp [intOf]; omega
    · go_wp2
      go_ret
      have hkn : k = n := by omega
      refine ⟨w.heap.size, Nat.le_refl _, rfl, ?_, hbel⟩
      rw [show rowsOf prCells (slB zs) = xs from ?_]
      · exact hown
      · refine (List.ext_getElem? fun j => ?_).symm
        by_cases hj : j < n * 2
        · have h9 := HG.out (j / 2) (by omega)
          have h8 := prs_get zs (j / 2) (by rw [HL.out]; omega)
          rcases (show j = j / 2 * 2 ∨ j = j / 2 * 2 + 1 by omega) with e | e
          · rw [e, h9.1, h8.1]
          · rw [e, h9.2, h8.2]
        · rw [List.getElem?_eq_none (by rw [hown.1]; omega), List.getElem?_eq_none (by rw [rowsOf_length pr2]; simp [slB, HL.out]; omega)]
end Go.Proofs.Ytpmagndofiaooaa
