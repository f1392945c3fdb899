import Derived.Test.YtpmagndofiaooaaTu
import Derived.Test.YtpmagndofiaooaaMk
import Derived.Test.YtpmagndofiaooaaTlb
import Derived.Deep.RegionWith
import Derived.Deep.DeepCutAuto
namespace Go.Proofs.Ytpmagndofiaooaa
open Go.RowKit
set_option linter.unusedVariables false
set_option linter.unusedSimpArgs false
set_option maxRecDepth 100000

/-- What marking a list does: it writes from block lo on, and whatever may be written into still may. -/
structure MkW (lo hi : Nat) (w w' : World) : Prop where
  fr : Fr (fun k => lo ≤ k ∧ k < hi) w w'
  room : ∀ b o, b < w.heap.size → (∃ v, w.cell? ⟨b, o, none⟩ = some v) → w.frozen? ⟨b, o, none⟩ = false → (∃ v, w'.cell? ⟨b, o, none⟩ = some v) ∧ w'.frozen? ⟨b, o, none⟩ = false
theorem MkW.refl (lo hi : Nat) (w : World) : MkW lo hi w w := ⟨Fr.refl _ _, fun b o _ h1 h2 => ⟨h1, h2⟩⟩
theorem MkW.trans {lo hi : Nat} {a b c : World} (h : MkW lo hi a b) (k : MkW lo hi b c) : MkW lo hi a c :=
  ⟨h.fr.trans k.fr, fun b o hb h1 h2 => by
    obtain ⟨g1, g2⟩ := h.room b o hb h1 h2
    exact k.room b o (Nat.lt_of_lt_of_le hb h.fr.size) g1 g2⟩
theorem MkW.of_below {lo hi : Nat} {w w' : World} (hb : Below w.heap.size w w') : MkW lo hi w w' :=
  ⟨Fr.of_below hb, fun b o hl h1 h2 => by
    have hk := hb.block b hl
    obtain ⟨v, hv⟩ := h1
    exact ⟨⟨v, (World.cell?_of_block (w := w) (a := ⟨b, o, none⟩) hk).trans hv⟩, by simpa [World.frozen?, hk] using h2⟩⟩
theorem MkW.set {lo hi : Nat} (w : World) (b o : Nat) (v : Value) (hl : lo ≤ b) (hh : b < hi) : MkW lo hi w (w.setCell ⟨b, o, none⟩ v) :=
  ⟨(fr_setT w b o v).weak (fun g e => ⟨by omega, by omega⟩), fun b' o' _ h1 h2 => room_set w _ v b' o' h1 h2⟩
/-- A list that may be written into, from block lo on and below hi. -/
def RoomU (w : World) (lo hi : Nat) (a : Option Addr) (n : Nat) : Prop := 0 < n → ∃ b off, a = some ⟨b, off, none⟩ ∧ (lo ≤ b ∧ b < hi) ∧ ∀ i, i < n → (∃ v, w.cell? ⟨b, off + i, none⟩ = some v) ∧ w.frozen? ⟨b, off + i, none⟩ = false
theorem RoomU.mk {w w' : World} {lo hi lo' hi' : Nat} {a : Option Addr} {n : Nat} (h : RoomU w lo hi a n) (hm : MkW lo' hi' w w') (hh : hi ≤ w.heap.size) : RoomU w' lo hi a n := fun hn => by
  obtain ⟨b, off, e, hl, hc⟩ := h hn
  exact ⟨b, off, e, hl, fun i hi => hm.room b (off + i) (by omega) (hc i hi).1 (hc i hi).2⟩
/-- A tree that may be written into, below hi. -/
def MarkU (w : World) (lo hi g n : Nat) (ts : List TN) : Prop := g < hi ∧ ∃ xs, w.ownsRow lo 92 6 (.slice (some ⟨g, 0, none⟩) n n) n xs ∧ ts.length = n ∧ ∀ j, j < n → ∃ ka kn kc va vn vc oa on oc ya yn yc, xs[j * 6 + 2]? = some (.slice ka kn kc) ∧ xs[j * 6 + 3]? = some (.slice va vn vc) ∧ xs[j * 6 + 4]? = some (.slice oa on oc) ∧ xs[j * 6 + 5]? = some (.slice ya yn yc) ∧
  (kn = (ts.getD j dT).keys.length ∧ vn = (ts.getD j dT).vals.length ∧ on = (ts.getD j dT).over.length ∧ yn = (ts.getD j dT).kids.length) ∧ (RoomU w (g + 1) hi ka kn ∧ RoomU w (g + 1) hi va vn ∧ RoomU w (g + 1) hi oa on ∧ RoomU w (g + 1) hi ya yn)
theorem MarkT.u {w : World} {lo g n : Nat} {ts : List TN} (h : MarkT w lo g n ts) : MarkU w lo w.heap.size g n ts := by
  obtain ⟨xs, h1, h2, h3⟩ := h
  exact ⟨(h1.lt g rfl).2, xs, h1, h2, h3⟩
theorem MarkU.below {w w' : World} {lo hi g n : Nat} {ts : List TN} (h : MarkU w lo hi g n ts) (hb : Below w.heap.size w w') (hh : hi ≤ w.heap.size) : MarkU w' lo hi g n ts := by
  obtain ⟨h0, xs, h1, h2, h3⟩ := h
  have hm : MkW 0 0 w w' := MkW.of_below hb
  refine ⟨h0, xs, owns_below h1 hb, h2, fun j hj => ?_⟩
  obtain ⟨ka, kn, kc, va, vn, vc, oa, on, oc, ya, yn, yc, e2, e3, e4, e5, e6, m1, m2, m3, m4⟩ := h3 j hj
  exact ⟨ka, kn, kc, va, vn, vc, oa, on, oc, ya, yn, yc, e2, e3, e4, e5, e6, m1.mk hm hh, m2.mk hm hh, m3.mk hm hh, m4.mk hm hh⟩
set_option maxHeartbeats 1000000 in
theorem markStringS_room (a : Option Addr) (n c k lo hi : Nat) (w : World) (h : RoomU w lo hi a n) (hh : hi ≤ w.heap.size) (hk : k + n ≤ 1000000000) :
    Calls Try.prog 56 #[.slice a n c, .int .i64 k] w fun e w' => e = .returned (.int .i64 (k + n : Nat)) ∧ MkW lo hi w w' := by
  have H : Hid (RoomU w lo hi a n) := h
  clear h
  go_enter Try.func56, Try.ntmps56
  go_wp2_with fail
  go_loopw [1, 5] (fun kv i wr => ∃ j : Nat, j ≤ n ∧ i = .int .i64 j ∧ kv = .int .i64 ((k + j : Nat) : Int) ∧ MkW lo hi w wr) (fun _ i _ => n - (intOf i).toNat)
  case atStart => exact ⟨0, Nat.zero_le _, rfl, rfl, MkW.refl _ _ _⟩
  case round =>
    obtain ⟨j, hj, rfl, rfl, hm⟩ := hrel
    by_cases hlt : j < n
    · obtain ⟨b, off, rfl, hl, hc⟩ := H.out (by omega)
      have hbl := Nat.lt_of_lt_of_le (Nat.lt_of_lt_of_le hl.2 hh) hm.fr.size
      have hmt := markText_any (k + j) wr (by omega)
      generalize mkS (k + j) = ms at *
      go_wp2_with fail
      refine hmt.mono ?_
      rintro e w2 ⟨rfl, hb2⟩
      have hm2 := hm.trans (MkW.of_below hb2)
      obtain ⟨⟨u, hu⟩, hf⟩ := hm2.room b (off + j) (by omega) (hc j hlt).1 (hc j hlt).2
      have hm3 := hm2.trans (MkW.set w2 b (off + j) (.string ms) hl.1 hl.2)
      have hbl2 := Nat.lt_of_lt_of_le hbl hb2.size
      clear hmt hm hc
      go_wp2_with fail
      go_roundw
      case rel => exact ⟨j + 1, by omega, by go_num, by go_num, hm3⟩
      case measure => simp [intOf]; omega
    · have hje : j = n := by omega
      subst hje
      go_wp2_with fail
      go_ret
      exact ⟨rfl, hm⟩
set_option maxHeartbeats 1000000 in
theorem markInt64S_room (a : Option Addr) (n c k lo hi : Nat) (w : World) (h : RoomU w lo hi a n) (hh : hi ≤ w.heap.size) (hk : k + n ≤ 1000000000) :
    Calls Try.prog 57 #[.slice a n c, .int .i64 k] w fun e w' => e = .returned (.int .i64 (k + n : Nat)) ∧ MkW lo hi w w' := by
  have H : Hid (RoomU w lo hi a n) := h
  clear h
  go_enter Try.func57, Try.ntmps57
  go_wp2_with fail
  go_loopw [1, 5] (fun kv i wr => ∃ j : Nat, j ≤ n ∧ i = .int .i64 j ∧ kv = .int .i64 ((k + j : Nat) : Int) ∧ MkW lo hi w wr) (fun _ i _ => n - (intOf i).toNat)
  case atStart => exact ⟨0, Nat.zero_le _, rfl, rfl, MkW.refl _ _ _⟩
  case round =>
    obtain ⟨j, hj, rfl, rfl, hm⟩ := hrel
    by_cases hlt : j < n
    · obtain ⟨b, off, rfl, hl, hc⟩ := H.out (by omega)
      have hbl := Nat.lt_of_lt_of_le (Nat.lt_of_lt_of_le hl.2 hh) hm.fr.size
      obtain ⟨⟨u, hu⟩, hf⟩ := hm.room b (off + j) (by omega) (hc j hlt).1 (hc j hlt).2
      obtain ⟨kj, hkj⟩ : ∃ kj, k + j = kj := ⟨_, rfl⟩
      have HKJ : Hid (k + j = kj) := hkj
      rw [hkj]
      have hkb : kj + 1 ≤ 1000000000 := by omega
      clear hkj
      have hm3 := hm.trans (MkW.set wr b (off + j) (.int .i64 (kj : Int)) hl.1 hl.2)
      clear hm hc
      go_wp2_with fail
      go_roundw
      case rel => exact ⟨j + 1, by omega, by go_num, by have := HKJ.out; rw [show k + (j + 1) = kj + 1 by omega]; go_num, hm3⟩
      case measure => simp [intOf]; omega
    · have hje : j = n := by omega
      subst hje
      go_wp2_with fail
      go_ret
      exact ⟨rfl, hm⟩
theorem MkW.lower {lo lo' hi : Nat} {w w' : World} (h : MkW lo' hi w w') (hl : lo ≤ lo') : MkW lo hi w w' := ⟨h.fr.weak (fun k hk => ⟨by omega, hk.2⟩), h.room⟩
/-- How many marks a node takes. -/
def mLen (t : TN) : Nat := 2 + t.keys.length + t.vals.length + t.over.length + t.kids.length
def mLens (ts : List TN) : Nat := (ts.map mLen).sum
theorem mLens_le (ts : List TN) : (mLens ts : Int) ≤ 3 * wTNs ts := by
  unfold mLens
  induction ts with
  | nil => simp [wTNs]
  | cons t r ih =>
    have h1 := wStrs_len t.keys
    have h2 := wStrs_len t.vals
    simp only [List.map_cons, List.sum_cons, wTNs, wTN, mLen] at ih ⊢
    push_cast at ih ⊢
    omega
/-- The headers of the lists are where they were. -/
def HdOk (xs ys : List Value) (n : Nat) : Prop := ∀ i, i < n → ∀ r, 2 ≤ r → r < 6 → ys[i * 6 + r]? = xs[i * 6 + r]?
theorem HdOk.set2 {xs ys : List Value} {n j : Nat} {u v : Value} (h : HdOk xs ys n) : HdOk xs ((ys.set (j * 6) u).set (j * 6 + 1) v) n := fun i hi r h2 h6 => by
  rw [List.getElem?_set_ne (by omega), List.getElem?_set_ne (by omega)]
  exact h i hi r h2 h6
set_option maxHeartbeats 4000000 in
theorem markTNodeS_room (g n k lo hi : Nat) (ts : List TN) (w : World) (h : MarkU w lo hi g n ts) (hh : hi ≤ w.heap.size) (hk : k + mLens ts ≤ 100000000) :
    Calls Try.prog 41 #[.slice (some ⟨g, 0, none⟩) n n, .int .i64 k] w fun e w' => e = .returned (.int .i64 (k + mLens ts : Nat)) ∧ MkW lo hi w w' := by
  obtain ⟨hghi, xs, hown0, hlen, hx⟩ := h
  have HX : Hid (∀ j, j < n → ∃ ka kn kc va vn vc oa on oc ya yn yc, xs[j * 6 + 2]? = some (.slice ka kn kc) ∧ xs[j * 6 + 3]? = some (.slice va vn vc) ∧ xs[j * 6 + 4]? = some (.slice oa on oc) ∧ xs[j * 6 + 5]? = some (.slice ya yn yc) ∧ (kn = (ts.getD j dT).keys.length ∧ vn = (ts.getD j dT).vals.length ∧ on = (ts.getD j dT).over.length ∧ yn = (ts.getD j dT).kids.length) ∧ (RoomU w (g + 1) hi ka kn ∧ RoomU w (g + 1) hi va vn ∧ RoomU w (g + 1) hi oa on ∧ RoomU w (g + 1) hi ya yn)) := hx
  have HL : Hid (ts.length = n) := hlen
  have hgl := hown0.lt g rfl
  have hnm : n ≤ 100000000 := by
    have : ts.length ≤ mLens ts := by
      unfold mLens
      clear hx HX hk hlen HL hown0
      induction ts with
      | nil => simp
      | cons t r ih => simp only [List.map_cons, List.sum_cons, List.length_cons, mLen] at ih ⊢; omega
    omega
  have HMB : Hid (k + mLens ts ≤ 100000000) := hk
  clear hx hlen hk
  go_enter Try.func41, Try.ntmps41
  go_wp2_with fail
  go_loopw [1, 5] (fun kv i wr => ∃ (j kk : Nat) (ys : List Value), j ≤ n ∧ i = .int .i64 j ∧ kv = .int .i64 (kk : Int) ∧ kk ≤ 100000000 ∧ Hid (kk = k + ((ts.map mLen).take j).sum) ∧ wr.ownsRow lo 92 6 (.slice (some ⟨g, 0, none⟩) n n) n ys ∧ Hid (HdOk xs ys n) ∧ MkW lo hi w wr) (fun _ i _ => n - (intOf i).toNat)
  case atStart => exact ⟨0, k, xs, Nat.zero_le _, rfl, rfl, by have := HMB.out; omega, by show _ = _; simp, hown0, fun i hi r h2 h6 => rfl, MkW.refl _ _ _⟩
  case round =>
    clear hown0
    obtain ⟨j, kk, ys, hj, rfl, rfl, hkk, HK, hown, HH, hm⟩ := hrel
    by_cases hlt : j < n
    · obtain ⟨ka, kn, kc, va, vn, vc, oa, on, oc, ya, yn, yc, e2, e3, e4, e5, ⟨l1, l2, l3, l4⟩, m1, m2, m3, m4⟩ := HX.out j hlt
      have HS : Hid (((ts.map mLen).take (j + 1)).sum = ((ts.map mLen).take j).sum + (2 + kn + vn + on + yn) ∧ ((ts.map mLen).take (j + 1)).sum ≤ mLens ts) := by
        have hjl : j < ts.length := by have := HL.out; omega
        refine ⟨?_, sum_take_le _ _⟩
        rw [sum_take_succ (by simpa using hjl), l1, l2, l3, l4]
        simp [List.getD, hjl, mLen]
      have hkb : kk + (2 + kn + vn + on + yn) ≤ 100000000 := by
        have h1 := HK.out; have h2 := HS.out; have h3 := HMB.out
        omega
      clear l1 l2 l3 l4
      have M1 : Hid (RoomU w (g + 1) hi ka kn) := m1
      have M2 : Hid (RoomU w (g + 1) hi va vn) := m2
      have M3 : Hid (RoomU w (g + 1) hi oa on) := m3
      have M4 : Hid (RoomU w (g + 1) hi ya yn) := m4
      clear m1 m2 m3 m4
      have hglr := hown.lt g rfl
      have hyl := hown.1
      have hf0 := hown.frozenAt (j * 6)
      have hf1 := hown.frozenAt (j * 6 + 1)
      obtain ⟨u0, hu0⟩ : ∃ u, wr.cell? ⟨g, j * 6, none⟩ = some u := ⟨ys[j * 6]'(by omega), by rw [hown.cellAt (j * 6) (by omega)]; exact List.getElem?_eq_getElem _⟩
      obtain ⟨u1, hu1⟩ : ∃ u, wr.cell? ⟨g, j * 6 + 1, none⟩ = some u := ⟨ys[j * 6 + 1]'(by omega), by rw [hown.cellAt (j * 6 + 1) (by omega)]; exact List.getElem?_eq_getElem _⟩
      have R2 := (hown.stored (j * 6) (.bool (((kk : Int) % 3) == 0))).1.stored (j * 6 + 1) (.int .i64 ((kk : Int) + 1))
      have HD2 : Hid (HdOk xs ((ys.set (j * 6) (.bool (((kk : Int) % 3) == 0))).set (j * 6 + 1) (.int .i64 ((kk : Int) + 1))) n) := HH.out.set2
      have MW2 := (hm.trans (MkW.set wr g (j * 6) (.bool (((kk : Int) % 3) == 0)) hgl.1 hghi)).trans (MkW.set (wr.setCell ⟨g, j * 6, none⟩ (.bool (((kk : Int) % 3) == 0))) g (j * 6 + 1) (.int .i64 ((kk : Int) + 1)) hgl.1 hghi)
      have hW2 := R2.1
      go_upto_region 8 with fail
      replace R2 := hW2
      generalize ((wr.setCell ⟨g, j * 6, none⟩ (.bool (((kk : Int) % 3) == 0))).setCell ⟨g, j * 6 + 1, none⟩ (.int .i64 ((kk : Int) + 1))) = W2 at *
      generalize ((ys.set (j * 6) (.bool (((kk : Int) % 3) == 0))).set (j * 6 + 1) (.int .i64 ((kk : Int) + 1))) = zs at *
      clear hf0 hf1 hu0 hu1 hown hm HH hW2 hyl hglr
      have gW2 := (R2.lt g rfl).2
      have xc : ∀ (W : World), W.ownsRow lo 92 6 (.slice (some ⟨g, 0, none⟩) n n) n zs → ∀ r, 2 ≤ r → r < 6 → W.cell? ⟨g, j * 6 + r, none⟩ = xs[j * 6 + r]? := fun W hW r h2 h6 => by
        rw [hW.cellAt (j * 6 + r) (by omega)]
        exact HD2.out j hlt r h2 h6
      have XC : Hid _ := xc
      clear xc
      obtain ⟨k2, hk2⟩ : ∃ k2, kk + 2 = k2 := ⟨_, rfl⟩
      have hcast : (kk : Int) + 1 + 1 = (k2 : Int) := by omega
      rw [hcast]
      clear hcast
      have x2 := (XC.out W2 R2 2 (by omega) (by omega)).trans e2
      have hc2 := markStringS_room ka kn kc k2 (g + 1) hi W2 (M1.out.mk MW2 hh) (Nat.le_trans hh MW2.fr.size) (by omega)
      go_wp2_with fail
      refine hc2.mono ?_
      rintro e w3 ⟨rfl, hmk⟩
      have MW3 := MW2.trans (hmk.lower (lo := lo) (by omega))
      have R3 := owns_fr R2 hmk.fr (fun q hq e => by simp [Value.ownBlock] at hq; omega)
      have g3 := (R3.lt g rfl).2
      have x3 := (XC.out w3 R3 3 (by omega) (by omega)).trans e3
      obtain ⟨k3, hk3⟩ : ∃ k3, k2 + kn = k3 := ⟨_, rfl⟩
      rw [hk3]
      clear hc2 hmk R2 MW2 x2 gW2
      have hc3 := markStringS_room va vn vc k3 (g + 1) hi w3 (M2.out.mk MW3 hh) (Nat.le_trans hh MW3.fr.size) (by omega)
      go_wp2_with fail
      refine hc3.mono ?_
      rintro e w4 ⟨rfl, hmk⟩
      have MW4 := MW3.trans (hmk.lower (lo := lo) (by omega))
      have R4 := owns_fr R3 hmk.fr (fun q hq e => by simp [Value.ownBlock] at hq; omega)
      have g4 := (R4.lt g rfl).2
      have x4 := (XC.out w4 R4 4 (by omega) (by omega)).trans e4
      obtain ⟨k4, hk4⟩ : ∃ k4, k3 + vn = k4 := ⟨_, rfl⟩
      rw [hk4]
      clear hc3 hmk R3 MW3 x3 g3
      have hc4 := markInt64S_room oa on oc k4 (g + 1) hi w4 (M3.out.mk MW4 hh) (Nat.le_trans hh MW4.fr.size) (by omega)
      go_wp2_with fail
      refine hc4.mono ?_
      rintro e w5 ⟨rfl, hmk⟩
      have MW5 := MW4.trans (hmk.lower (lo := lo) (by omega))
      have R5 := owns_fr R4 hmk.fr (fun q hq e => by simp [Value.ownBlock] at hq; omega)
      have g5 := (R5.lt g rfl).2
      have x5 := (XC.out w5 R5 5 (by omega) (by omega)).trans e5
      obtain ⟨k5, hk5⟩ : ∃ k5, k4 + on = k5 := ⟨_, rfl⟩
      rw [hk5]
      clear hc4 hmk R4 MW4 x4 g4
      have hc5 := markInt64S_room ya yn yc k5 (g + 1) hi w5 (M4.out.mk MW5 hh) (Nat.le_trans hh MW5.fr.size) (by omega)
      go_wp2_with fail
      refine hc5.mono ?_
      rintro e w6 ⟨rfl, hmk⟩
      have MW6 := MW5.trans (hmk.lower (lo := lo) (by omega))
      have R6 := owns_fr R5 hmk.fr (fun q hq e => by simp [Value.ownBlock] at hq; omega)
      obtain ⟨k6, hk6⟩ : ∃ k6, k5 + yn = k6 := ⟨_, rfl⟩
      rw [hk6]
      clear hc5 hmk R5 MW5 x5 g5
      have HK6 : Hid (k6 = k + ((ts.map mLen).take (j + 1)).sum) := by
        show _ = _
        have h1 := HK.out; have h2 := HS.out.1
        omega
      have hk6b : k6 ≤ 100000000 := by omega
      clear hk2 hk3 hk4 hk5 hk6 HK HS hkb XC e2 e3 e4 e5
      go_wp2_with fail
      go_roundw
      case rel => exact ⟨j + 1, k6, zs, by omega, by go_num, rfl, hk6b, HK6, R6, HD2, MW6⟩
      case measure => simp [intOf]; omega
    · have HE : Hid (kk = k + mLens ts) := by
        have h1 := HK.out
        rw [List.take_of_length_le (by simp; have := HL.out; omega)] at h1
        exact h1
      clear HK hown HH
      go_wp2_with fail
      go_ret
      exact ⟨by rw [← HE.out]; rfl, hm⟩
set_option maxHeartbeats 1000000 in
theorem markTree_room (g n k lo hi : Nat) (ts : List TN) (w : World) (h : MarkU w lo hi g n ts) (hh : hi ≤ w.heap.size) (hk : k + mLens ts ≤ 100000000) :
    Calls Try.prog 14 #[.agg #[.slice (some ⟨g, 0, none⟩) n n], .int .i64 k] w fun e w' => e = .returned (.int .i64 (k + mLens ts : Nat)) ∧ MkW lo hi w w' := by
  have ab := (Below.refl w.heap.size w).alloc (Nat.le_refl _) (.cells #[.slice (some ⟨g, 0, none⟩) n n] 26)
  have hc := markTNodeS_room g n k lo hi ts _ (h.below ab hh) (Nat.le_trans hh ab.size) hk
  obtain ⟨kr, hkr⟩ : ∃ kr, k + mLens ts = kr := ⟨_, rfl⟩
  rw [hkr] at hc hk ⊢
  go_enter Try.func14, Try.ntmps14
  go_wp2_with fail
  refine hc.mono ?_
  rintro e w1 ⟨rfl, hm⟩
  have hm2 := (MkW.of_below (lo := lo) (hi := hi) ab).trans hm
  clear hc hm h hkr
  go_wp2_with fail
  go_ret
  exact ⟨rfl, hm2⟩
end Go.Proofs.Ytpmagndofiaooaa
