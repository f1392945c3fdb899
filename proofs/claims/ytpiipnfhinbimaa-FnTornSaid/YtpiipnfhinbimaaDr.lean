import Derived.Test.YtpiipnfhinbimaaJA
import Derived.Deep.RegionHeld3
import Derived.Deep.QuietTactic
namespace Go.Proofs.Ytpiipnfhinbimaa
open Go.RowKit
set_option linter.unusedVariables false
set_option maxRecDepth 100000

theorem owns_someD {w : World} {base e size n c : Nat} {a : Option Addr} {xs : List Value} (h : w.ownsRow base e size (.slice a n c) n xs) (hn : 0 < n) : ∃ g, a = some ⟨g, 0, none⟩ := by
  rcases h.2 with ⟨h0, h1⟩ | ⟨g, cap, cur, h0, _⟩
  · omega
  · injection h0 with h1; exact ⟨g, h1⟩
/-- The cursor of a draw. -/
def DCur (w : World) (C A B : Nat) : Prop :=
  B ≤ C ∧ ∃ (a : Option Addr) (n c : Nat) (bs : List Int) (i : Nat) (h : Int), w.heap[C]? = some (.cells #[.slice a n c, .int .i64 i, .int .i64 h] 156) ∧ i ≤ n ∧ BytesAt w A B a n c bs
theorem and_255 (y : Int) : 0 ≤ bits .and .i64 y 255 ∧ bits .and .i64 y 255 ≤ 255 := by
  have h : bits .and .i64 y 255 = IntKind.i64.wrap ((BitVec.ofInt 64 y &&& BitVec.ofInt 64 255).toNat : Int) := rfl
  have h2 : (BitVec.ofInt 64 y &&& BitVec.ofInt 64 255).toNat ≤ 255 := by
    rw [BitVec.toNat_and]
    exact Nat.le_trans Nat.and_le_right (by decide)
  rw [h, IntKind.wrap_i64]
  omega
theorem box_three {w : World} {N : Nat} {v0 v1 v2 : Value} {t : TypeId} (h : w.heap[N]? = some (.cells #[v0, v1, v2] t)) : w.cell? ⟨N, 0, none⟩ = some v0 ∧ w.cell? ⟨N, 1, none⟩ = some v1 ∧ w.cell? ⟨N, 2, none⟩ = some v2 := by
  simp [World.cell?, h]
theorem box_thaw {w : World} {M t : Nat} {cs : Array Value} (h : w.heap[M]? = some (.cells cs t)) (j : Nat) : w.frozen? ⟨M, j, none⟩ = false := by simp [World.frozen?, h]
theorem getD_byteD {bs : List Int} (hw : ∀ x ∈ bs, 0 ≤ x ∧ x ≤ 255) (k : Nat) : 0 ≤ bs.getD k 0 ∧ bs.getD k 0 ≤ 255 := by
  by_cases h : k < bs.length
  · rw [show bs.getD k 0 = bs[k] by simp [List.getD, h]]; exact hw _ (List.getElem_mem h)
  · rw [show bs.getD k 0 = 0 by simp [List.getD, Nat.le_of_not_lt h]]; omega
set_option maxHeartbeats 800000 in
theorem l1Byte_any (C A B : Nat) (w : World) (h : DCur w C A B) (hBw : B ≤ w.heap.size) :
    Calls Try.prog 119 #[.pointer (some ⟨C, 0, none⟩)] w fun e w' => ∃ x : Nat, e = .returned (.int .i64 x) ∧ x ≤ 255 ∧ DCur w' C A B ∧ Fr (fun g => g = C) w w' := by
  obtain ⟨hBC, a, n, c, bs, i, hh, hbox, hi, hb⟩ := h
  have hc := hb.2.2.1
  have hnc := hb.2.1
  unfold maxLen at hc
  have hCl := (Array.getElem?_eq_some_iff.1 hbox).1
  obtain ⟨c0, c1, c2⟩ := box_three hbox
  have ff := box_thaw hbox
  go_enter Try.func119, Try.ntmps119
  go_wp2_with fail
  have hbox1 : (w.setCell ⟨C, 2, none⟩ (.int .i64 (wrap64 (wrap64 (hh * 6364136223846793005) + 1442695040888963407)))).heap[C]? = some (.cells #[.slice a n c, .int .i64 i, .int .i64 (wrap64 (wrap64 (hh * 6364136223846793005) + 1442695040888963407))] 156) := by simp [World.setCell, Array.getElem?_modify, hbox]
  have hF1 : Fr (fun g => g = C) w (w.setCell ⟨C, 2, none⟩ (.int .i64 (wrap64 (wrap64 (hh * 6364136223846793005) + 1442695040888963407)))) := ⟨rfl, rfl, rfl, by simp [World.setCell], fun k _ hk => Below.heap_setCell w _ _ k hk⟩
  generalize w.setCell ⟨C, 2, none⟩ (.int .i64 (wrap64 (wrap64 (hh * 6364136223846793005) + 1442695040888963407))) = w1 at hbox1 hF1 ⊢
  generalize wrap64 (wrap64 (hh * 6364136223846793005) + 1442695040888963407) = h1 at hbox1
  have hb1 : BytesAt w1 A B a n c bs := hb.keep (fun k k1 k2 => hF1.block k (by omega) (by omega))
  clear c0 c1 c2 ff hb hbox
  obtain ⟨c0, c1, c2⟩ := box_three hbox1
  have ff := box_thaw hbox1
  go_quiet (fail)
  have hx := and_255 (bits .xor .i64 (h1 / 8589934592) (h1 / 35184372088832))
  generalize bits .and .i64 (bits .xor .i64 (h1 / 8589934592) (h1 / 35184372088832)) 255 = x0 at hx ⊢
  obtain ⟨x, rfl⟩ : ∃ x : Nat, x0 = (x : Int) := ⟨x0.toNat, by omega⟩
  have hbox2 : (w1.drewN nq).heap[C]? = some (.cells #[.slice a n c, .int .i64 i, .int .i64 h1] 156) := hbox1
  have hb2 : BytesAt (w1.drewN nq) A B a n c bs := hb1
  have hF2 : Fr (fun g => g = C) w (w1.drewN nq) := hF1.trans (Fr.of_below ⟨rfl, rfl, rfl, Nat.le_refl _, fun _ _ => rfl⟩)
  generalize w1.drewN nq = w2 at hbox2 hb2 hF2 ⊢
  clear c0 c1 c2 ff hbox1 hb1 hF1
  obtain ⟨c0, c1, c2⟩ := box_three hbox2
  have ff := box_thaw hbox2
  have hs2 := hF2.size
  by_cases hlt : i < n
  · obtain ⟨g, o, rfl, hg, hcell⟩ := hb2.2.2.2.2.1 (by omega)
    have hgC : g ≠ C := by omega
    have e1 := hcell i hlt
    clear hcell
    go_wp2_with fail
    go_quiet (fail)
    have hboxb : (w2.drewN nq).heap[C]? = some (.cells #[.slice (some ⟨g, o, none⟩) n c, .int .i64 i, .int .i64 h1] 156) := hbox2
    have hbb : BytesAt (w2.drewN nq) A B (some ⟨g, o, none⟩) n c bs := hb2
    have hFb : Fr (fun g => g = C) w (w2.drewN nq) := hF2.trans (Fr.of_below ⟨rfl, rfl, rfl, Nat.le_refl _, fun _ _ => rfl⟩)
    have e2 : (w2.drewN nq).cell? ⟨g, o + i, none⟩ = some (.int .u8 (bs.getD i 0)) := e1
    generalize w2.drewN nq = wb at hboxb hbb hFb e2 ⊢
    clear c0 c1 c2 ff hbox2 hb2 hF2 e1
    obtain ⟨c0, c1, c2⟩ := box_three hboxb
    generalize bs.getD i 0 = y at e2
    go_wp2_with fail
    go_quiet (fail)
    have hz := and_255 (wrap64 ((x : Int) + wrap64 y))
    generalize bits .and .i64 (wrap64 ((x : Int) + wrap64 y)) 255 = z0 at hz ⊢
    obtain ⟨z, rfl⟩ : ∃ z : Nat, z0 = (z : Int) := ⟨z0.toNat, by omega⟩
    have hbox3 : (wb.drewN nq).heap[C]? = some (.cells #[.slice (some ⟨g, o, none⟩) n c, .int .i64 i, .int .i64 h1] 156) := hboxb
    have hb3 : BytesAt (wb.drewN nq) A B (some ⟨g, o, none⟩) n c bs := hbb
    have hF3 : Fr (fun g => g = C) w (wb.drewN nq) := hFb.trans (Fr.of_below ⟨rfl, rfl, rfl, Nat.le_refl _, fun _ _ => rfl⟩)
    generalize wb.drewN nq = w3 at hbox3 hb3 hF3 ⊢
    have hs3 := hF3.size
    clear c0 c1 c2 hboxb hbb hFb e2
    obtain ⟨c0, c1, c2⟩ := box_three hbox3
    have ff := box_thaw hbox3
    have hbox4 : (w3.setCell ⟨C, 1, none⟩ (.int .i64 ((i : Int) + 1))).heap[C]? = some (.cells #[.slice (some ⟨g, o, none⟩) n c, .int .i64 ((i : Int) + 1), .int .i64 h1] 156) := by simp [World.setCell, Array.getElem?_modify, hbox3]
    have hF4 : Fr (fun g => g = C) w3 (w3.setCell ⟨C, 1, none⟩ (.int .i64 ((i : Int) + 1))) := ⟨rfl, rfl, rfl, by simp [World.setCell], fun k _ hk => Below.heap_setCell w3 _ _ k hk⟩
    have hb4 : BytesAt (w3.setCell ⟨C, 1, none⟩ (.int .i64 ((i : Int) + 1))) A B (some ⟨g, o, none⟩) n c bs := hb3.keep (fun k k1 k2 => hF4.block k (by omega) (by omega))
    go_wp2
    go_ret
    exact ⟨z, rfl, by omega, ⟨hBC, _, n, c, bs, i + 1, h1, hbox4, by omega, hb4⟩, hF3.trans hF4⟩
  · go_wp2_with fail
    go_quiet (fail)
    go_wp2
    go_ret
    exact ⟨x, rfl, by omega, ⟨hBC, a, n, c, bs, i, h1, hbox2, hi, hb2⟩, hF2.trans (Fr.of_below ⟨rfl, rfl, rfl, Nat.le_refl _, fun _ _ => rfl⟩)⟩
set_option maxHeartbeats 800000 in
theorem l1New_any (a : Option Addr) (n c : Nat) (bs : List Int) (w : World) (A B : Nat) (hB : B ≤ w.heap.size) (h : BytesAt w A B a n c bs) :
    Calls Try.prog 48 #[.slice a n c] w fun e w' => ∃ C, e = .returned (.pointer (some ⟨C, 0, none⟩)) ∧ w.heap.size ≤ C ∧ DCur w' C A B ∧ Below w.heap.size w w' := by
  have hc := h.2.2.1
  have hnc := h.2.1
  have hcell := h.2.2.2.2.1
  unfold maxLen at hc
  go_enter Try.func48, Try.ntmps48
  go_wp2
  go_loop [3, 4] (fun hv i => ∃ (k : Nat) (x : Int), k ≤ n ∧ i = .int .i64 k ∧ hv = .int .i64 x) (fun _ i => n - (intOf i).toNat)
  case atStart => exact ⟨0, _, Nat.zero_le _, rfl, rfl⟩
  case round =>
    obtain ⟨k, x, hk, rfl, rfl⟩ := hrel
    by_cases hlt : k < n
    · obtain ⟨b, off, rfl, hb, hcb⟩ := hcell (by omega)
      have e1 := hcb k hlt
      clear hcell hcb
      go_wp2
      go_round
      case rel => exact ⟨k + 1, _, by omega, by go_num, rfl⟩
      case measure => simp [intOf]; omega
    · clear hcell
      have hbox := heap_alloc_new w (.cells #[.slice a n c, .int .i64 0, .int .i64 x] 156)
      have hb1 : Below w.heap.size w (w.alloc (.cells #[.slice a n c, .int .i64 0, .int .i64 x] 156)) := (Below.refl _ _).alloc (Nat.le_refl _) _
      go_wp2
      go_ret
      exact ⟨w.heap.size, rfl, Nat.le_refl _, ⟨hB, a, n, c, bs, 0, x, hbox, Nat.zero_le _, h.below (hb1.mono hB)⟩, hb1⟩
theorem DCur.fr {w w' : World} {C A B : Nat} (h : DCur w C A B) (hf : Fr (fun g => g = C) w w') (hB : B ≤ w.heap.size) : B ≤ w'.heap.size := Nat.le_trans hB hf.size
theorem DCur.below {w w' : World} {C A B : Nat} (h : DCur w C A B) (hb : Below w.heap.size w w') : DCur w' C A B := by
  obtain ⟨hBC, a, n, c, bs, i, hh, hbox, hi, hby⟩ := h
  have hl := (Array.getElem?_eq_some_iff.1 hbox).1
  exact ⟨hBC, a, n, c, bs, i, hh, (hb.block C hl).trans hbox, hi, hby.below (hb.mono (by omega))⟩
theorem DCur.lt {w : World} {C A B : Nat} (h : DCur w C A B) : C < w.heap.size := by
  obtain ⟨hBC, a, n, c, bs, i, hh, hbox, hi, hby⟩ := h
  exact (Array.getElem?_eq_some_iff.1 hbox).1
theorem DCur.le {w : World} {C A B : Nat} (h : DCur w C A B) : B ≤ w.heap.size := Nat.le_of_lt (Nat.lt_of_le_of_lt h.1 h.lt)
/-- What a draw gives, and leaves. -/
def DPost (C A B : Nat) (w w' : World) : Prop := DCur w' C A B ∧ Fr (fun g => g = C) w w'
set_option maxHeartbeats 800000 in
theorem l1Below_any (C A B : Nat) (w : World) (h : DCur w C A B) (m : Int) (h1 : 1 ≤ m) (h2 : m ≤ 4294967296) :
    Calls Try.prog 93 #[.pointer (some ⟨C, 0, none⟩), .int .i64 m] w fun e w' => ∃ x : Nat, e = .returned (.int .i64 x) ∧ (x : Int) < m ∧ DCur w' C A B ∧ Fr (fun g => g = C) w w' := by
  go_enter Try.func93, Try.ntmps93
  have hm0 : m ≠ 0 := by omega
  by_cases hm : m ≤ 256
  · go_wp2_with fail
    refine (l1Byte_any C A B w h h.le).mono ?_
    rintro e w1 ⟨x, rfl, hx, hD, hF⟩
    go_wp2
    obtain ⟨r, hr⟩ : ∃ r : Nat, (x : Int) % m = (r : Int) := ⟨((x : Int) % m).toNat, (Int.toNat_of_nonneg (Int.emod_nonneg _ hm0)).symm⟩
    have hlt := Int.emod_lt_of_pos (x : Int) (show 0 < m by omega)
    rw [hr] at hlt ⊢
    go_ret
    exact ⟨r, rfl, hlt, hD, hF⟩
  · go_wp2_with fail
    refine (l1Byte_any C A B w h h.le).mono ?_
    rintro e w1 ⟨x, rfl, hx, hD1, hF1⟩
    go_wp2_with fail
    refine (l1Byte_any C A B w1 hD1 hD1.le).mono ?_
    rintro e w2 ⟨y, rfl, hy, hD2, hF2⟩
    go_wp2_with fail
    refine (l1Byte_any C A B w2 hD2 hD2.le).mono ?_
    rintro e w3 ⟨z, rfl, hz, hD3, hF3⟩
    go_wp2
    obtain ⟨r, hr⟩ : ∃ r : Nat, ((x : Int) * 65536 + (y : Int) * 256 + (z : Int)) % m = (r : Int) := ⟨(((x : Int) * 65536 + (y : Int) * 256 + (z : Int)) % m).toNat, (Int.toNat_of_nonneg (Int.emod_nonneg _ hm0)).symm⟩
    have hlt := Int.emod_lt_of_pos ((x : Int) * 65536 + (y : Int) * 256 + (z : Int)) (show 0 < m by omega)
    rw [hr] at hlt ⊢
    go_ret
    exact ⟨r, rfl, hlt, hD3, (hF1.trans hF2).trans hF3⟩
theorem l1Once_any (C A B : Nat) (w : World) (h : DCur w C A B) (m : Int) (h1 : 1 ≤ m) (h2 : m ≤ 4294967296) :
    Calls Try.prog 51 #[.pointer (some ⟨C, 0, none⟩), .int .i64 m] w fun e w' => ∃ b : Bool, e = .returned (.bool b) ∧ DCur w' C A B ∧ Fr (fun g => g = C) w w' := by
  go_enter Try.func51, Try.ntmps51
  go_wp2_with fail
  refine (l1Below_any C A B w h m h1 h2).mono ?_
  rintro e w1 ⟨x, rfl, hx, hD, hF⟩
  go_wp2
  go_ret
  exact ⟨_, rfl, hD, hF⟩
theorem l2DrawTx_any (C A B : Nat) (w : World) (h : DCur w C A B) :
    Calls Try.prog 49 #[.pointer (some ⟨C, 0, none⟩)] w fun e w' => ∃ x : Nat, e = .returned (.int .i64 x) ∧ x ≤ 2000000000 ∧ DCur w' C A B ∧ Fr (fun g => g = C) w w' := by
  go_enter Try.func49, Try.ntmps49
  go_wp2_with fail
  refine (l1Below_any C A B w h 8 (by omega) (by omega)).mono ?_
  rintro e w1 ⟨k, rfl, hk, hD, hF⟩
  by_cases h0 : k = 0
  · subst h0
    go_wp2
    go_ret
    exact ⟨2000000000, rfl, by omega, hD, hF⟩
  · by_cases hk1 : k = 1
    · subst hk1
      go_wp2
      go_ret
      exact ⟨1, rfl, by omega, hD, hF⟩
    · have n0 : ((k : Int) == 0) = false := by simp; omega
      have n1 : ((k : Int) == 1) = false := by simp; omega
      go_wp2_with fail
      refine (l1Below_any C A B w1 hD 70000 (by omega) (by omega)).mono ?_
      rintro e w2 ⟨x, rfl, hx, hD2, hF2⟩
      go_wp2
      rw [show (1 : Int) + (x : Int) = ((1 + x : Nat) : Int) by omega]
      go_ret
      exact ⟨1 + x, rfl, by omega, hD2, hF.trans hF2⟩
theorem l2DrawNum_any (C A B : Nat) (w : World) (h : DCur w C A B) (low last : Nat) (hl : low ≤ 1000) (hl2 : last ≤ 1000) :
    Calls Try.prog 94 #[.pointer (some ⟨C, 0, none⟩), .int .i64 low, .int .i64 last] w fun e w' => ∃ x : Nat, e = .returned (.int .i64 x) ∧ x ≤ 2000 ∧ DCur w' C A B ∧ Fr (fun g => g = C) w w' := by
  go_enter Try.func94, Try.ntmps94
  go_wp2_with fail
  refine (l1Below_any C A B w h 12 (by omega) (by omega)).mono ?_
  rintro e w1 ⟨k, rfl, hk, hD, hF⟩
  by_cases h0 : k = 0
  · subst h0
    go_wp2
    go_ret
    exact ⟨last, rfl, by omega, hD, hF⟩
  · by_cases hk1 : k = 1
    · subst hk1
      go_wp2
      go_ret
      exact ⟨low, rfl, by omega, hD, hF⟩
    · have n0 : ((k : Int) == 0) = false := by simp; omega
      have n1 : ((k : Int) == 1) = false := by simp; omega
      by_cases hk2 : k = 2
      · subst hk2
        go_wp2_with fail
        refine (l1Below_any C A B w1 hD 3 (by omega) (by omega)).mono ?_
        rintro e w2 ⟨x, rfl, hx, hD2, hF2⟩
        go_wp2
        rw [show (255 : Int) + (x : Int) = ((255 + x : Nat) : Int) by omega]
        go_ret
        exact ⟨255 + x, rfl, by omega, hD2, hF.trans hF2⟩
      · have n2 : ((k : Int) == 2) = false := by simp; omega
        go_wp2_with fail
        refine (l1Below_any C A B w1 hD 40 (by omega) (by omega)).mono ?_
        rintro e w2 ⟨x, rfl, hx, hD2, hF2⟩
        go_wp2
        rw [show (low : Int) + (x : Int) = ((low + x : Nat) : Int) by omega]
        go_ret
        exact ⟨low + x, rfl, by omega, hD2, hF.trans hF2⟩
end Go.Proofs.Ytpiipnfhinbimaa
