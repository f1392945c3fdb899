import Derived.Test.YtpiipnfhinbimacJA
import Derived.Test.YtpiipnfhinbimacKD
import Derived.Test.YtpiipnfhinbimacJC
import Derived.Deep.RegionHeld3
import Derived.Deep.QuietTactic
import Derived.ArgAppend
namespace Go.Proofs.Ytpiipnfhinbimac
open Go.RowKit
set_option linter.unusedVariables false
set_option maxRecDepth 100000

theorem owns_someD {w : World} {base e size n c : Nat} {a : Option Addr} {xs : List Value} (h : w.ownsRow base e size (.slice a n c) n xs) (hn : 0 < n) : ∃ g, a = some ⟨g, 0, none⟩ := by
  rcases h.2 with ⟨h0, h1⟩ | ⟨g, cap, cur, h0, _⟩
  · omega
  · injection h0 with h1; exact ⟨g, h1⟩
/-- The cursor of a draw. -/
def DCur (w : World) (C A B : Nat) : Prop :=
  B ≤ C ∧ ∃ (a : Option Addr) (n c : Nat) (bs : List Int) (i : Nat) (h : Int), w.heap[C]? = some (.cells #[.slice a n c, .int .i64 i, .int .i64 h] 243) ∧ i ≤ n ∧ BytesAt w A B a n c bs
theorem and_255 (y : Int) : 0 ≤ bits .and .i64 y 255 ∧ bits .and .i64 y 255 ≤ 255 := by
  have h : bits .and .i64 y 255 = IntKind.i64.wrap ((BitVec.ofInt 64 y &&& BitVec.ofInt 64 255).toNat : Int) := rfl
  have h2 : (BitVec.ofInt 64 y &&& BitVec.ofInt 64 255).toNat ≤ 255 := by
    rw [BitVec.toNat_and]
    exact Nat.le_trans Nat.and_le_right (by decide)
  rw [h, IntKind.wrap_i64]
  omega
theorem box_three {w : World} {N : Nat} {v0 v1 v2 : Value} {t : TypeId} (h : w.heap[N]? = some (.cells #[v0, v1, v2] t)) : w.cell? ⟨N, 0, none⟩ = some v0 ∧ w.cell? ⟨N, 1, none⟩ = some v1 ∧ w.cell? ⟨N, 2, none⟩ = some v2 := by
  simp [World.cell?, h]
theorem box_thaw {w : World} {M t : Nat} {cs : Array Value} (h : w.heap[M]? = some (.cells cs t)) (j : Nat) : w.frozen? ⟨M, j, none⟩ = false := by simp [World.frozen?, h]
theorem getD_byteD {bs : List Int} (hw : ∀ x ∈ bs, 0 ≤ x ∧ x ≤ 255) (k : Nat) : 0 ≤ bs.getD k 0 ∧ bs.getD k 0 ≤ 255 := by
  by_cases h : k < bs.length
  · rw [show bs.getD k 0 = bs[k] by simp [List.getD, h]]; exact hw _ (List.getElem_mem h)
  · rw [show bs.getD k 0 = 0 by simp [List.getD, Nat.le_of_not_lt h]]; omega
set_option maxHeartbeats 800000 in
theorem l1Byte_any (C A B : Nat) (w : World) (h : DCur w C A B) (hBw : B ≤ w.heap.size) :
    Calls Try.prog 157 #[.pointer (some ⟨C, 0, none⟩)] w fun e w' => ∃ x : Nat, e = .returned (.int .i64 x) ∧ x ≤ 255 ∧ DCur w' C A B ∧ Fr (fun g => g = C) w w' := by
  obtain ⟨hBC, a, n, c, bs, i, hh, hbox, hi, hb⟩ := h
  have hc := hb.2.2.1
  have hnc := hb.2.1
  unfold maxLen at hc
  have hCl := (Array.getElem?_eq_some_iff.1 hbox).1
  obtain ⟨c0, c1, c2⟩ := box_three hbox
  have ff := box_thaw hbox
  go_enter Try.func157, Try.ntmps157
  go_wp2_with fail
  have hbox1 : (w.setCell ⟨C, 2, none⟩ (.int .i64 (wrap64 (wrap64 (hh * 6364136223846793005) + 1442695040888963407)))).heap[C]? = some (.cells #[.slice a n c, .int .i64 i, .int .i64 (wrap64 (wrap64 (hh * 6364136223846793005) + 1442695040888963407))] 243) := by simp [World.setCell, Array.getElem?_modify, hbox]
  have hF1 : Fr (fun g => g = C) w (w.setCell ⟨C, 2, none⟩ (.int .i64 (wrap64 (wrap64 (hh * 6364136223846793005) + 1442695040888963407)))) := ⟨rfl, rfl, rfl, by simp [World.setCell], fun k _ hk => Below.heap_setCell w _ _ k hk⟩
  generalize w.setCell ⟨C, 2, none⟩ (.int .i64 (wrap64 (wrap64 (hh * 6364136223846793005) + 1442695040888963407))) = w1 at hbox1 hF1 ⊢
  generalize wrap64 (wrap64 (hh * 6364136223846793005) + 1442695040888963407) = h1 at hbox1
  have hb1 : BytesAt w1 A B a n c bs := hb.keep (fun k k1 k2 => hF1.block k (by omega) (by omega))
  clear c0 c1 c2 ff hb hbox
  obtain ⟨c0, c1, c2⟩ := box_three hbox1
  have ff := box_thaw hbox1
  go_quiet (fail)
  have hx := and_255 (bits .xor .i64 (h1 / 8589934592) (h1 / 35184372088832))
  generalize bits .and .i64 (bits .xor .i64 (h1 / 8589934592) (h1 / 35184372088832)) 255 = x0 at hx ⊢
  obtain ⟨x, rfl⟩ : ∃ x : Nat, x0 = (x : Int) := ⟨x0.toNat, by omega⟩
  have hbox2 : (w1.drewN nq).heap[C]? = some (.cells #[.slice a n c, .int .i64 i, .int .i64 h1] 243) := hbox1
  have hb2 : BytesAt (w1.drewN nq) A B a n c bs := hb1
  have hF2 : Fr (fun g => g = C) w (w1.drewN nq) := hF1.trans (Fr.of_below ⟨rfl, rfl, rfl, Nat.le_refl _, fun _ _ => rfl⟩)
  generalize w1.drewN nq = w2 at hbox2 hb2 hF2 ⊢
  clear c0 c1 c2 ff hbox1 hb1 hF1
  obtain ⟨c0, c1, c2⟩ := box_three hbox2
  have ff := box_thaw hbox2
  have hs2 := hF2.size
  by_cases hlt : i < n
  · obtain ⟨g, o, rfl, hg, hcell⟩ := hb2.2.2.2.2.1 (by omega)
    have hgC : g ≠ C := by omega
    have e1 := hcell i hlt
    clear hcell
    go_wp2_with fail
    go_quiet (fail)
    have hboxb : (w2.drewN nq).heap[C]? = some (.cells #[.slice (some ⟨g, o, none⟩) n c, .int .i64 i, .int .i64 h1] 243) := hbox2
    have hbb : BytesAt (w2.drewN nq) A B (some ⟨g, o, none⟩) n c bs := hb2
    have hFb : Fr (fun g => g = C) w (w2.drewN nq) := hF2.trans (Fr.of_below ⟨rfl, rfl, rfl, Nat.le_refl _, fun _ _ => rfl⟩)
    have e2 : (w2.drewN nq).cell? ⟨g, o + i, none⟩ = some (.int .u8 (bs.getD i 0)) := e1
    generalize w2.drewN nq = wb at hboxb hbb hFb e2 ⊢
    clear c0 c1 c2 ff hbox2 hb2 hF2 e1
    obtain ⟨c0, c1, c2⟩ := box_three hboxb
    generalize bs.getD i 0 = y at e2
    go_wp2_with fail
    go_quiet (fail)
    have hz := and_255 (wrap64 ((x : Int) + wrap64 y))
    generalize bits .and .i64 (wrap64 ((x : Int) + wrap64 y)) 255 = z0 at hz ⊢
    obtain ⟨z, rfl⟩ : ∃ z : Nat, z0 = (z : Int) := ⟨z0.toNat, by omega⟩
    have hbox3 : (wb.drewN nq).heap[C]? = some (.cells #[.slice (some ⟨g, o, none⟩) n c, .int .i64 i, .int .i64 h1] 243) := hboxb
    have hb3 : BytesAt (wb.drewN nq) A B (some ⟨g, o, none⟩) n c bs := hbb
    have hF3 : Fr (fun g => g = C) w (wb.drewN nq) := hFb.trans (Fr.of_below ⟨rfl, rfl, rfl, Nat.le_refl _, fun _ _ => rfl⟩)
    generalize wb.drewN nq = w3 at hbox3 hb3 hF3 ⊢
    have hs3 := hF3.size
    clear c0 c1 c2 hboxb hbb hFb e2
    obtain ⟨c0, c1, c2⟩ := box_three hbox3
    have ff := box_thaw hbox3
    have hbox4 : (w3.setCell ⟨C, 1, none⟩ (.int .i64 ((i : Int) + 1))).heap[C]? = some (.cells #[.slice (some ⟨g, o, none⟩) n c, .int .i64 ((i : Int) + 1), .int .i64 h1] 243) := by simp [World.setCell, Array.getElem?_modify, hbox3]
    have hF4 : Fr (fun g => g = C) w3 (w3.setCell ⟨C, 1, none⟩ (.int .i64 ((i : Int) + 1))) := ⟨rfl, rfl, rfl, by simp [World.setCell], fun k _ hk => Below.heap_setCell w3 _ _ k hk⟩
    have hb4 : BytesAt (w3.setCell ⟨C, 1, none⟩ (.int .i64 ((i : Int) + 1))) A B (some ⟨g, o, none⟩) n c bs := hb3.keep (fun k k1 k2 => hF4.block k (by omega) (by omega))
    go_wp2
    go_ret
    exact ⟨z, rfl, by omega, ⟨hBC, _, n, c, bs, i + 1, h1, hbox4, by omega, hb4⟩, hF3.trans hF4⟩
  · go_wp2_with fail
    go_quiet (fail)
    go_wp2
    go_ret
    exact ⟨x, rfl, by omega, ⟨hBC, a, n, c, bs, i, h1, hbox2, hi, hb2⟩, hF2.trans (Fr.of_below ⟨rfl, rfl, rfl, Nat.le_refl _, fun _ _ => rfl⟩)⟩
set_option maxHeartbeats 800000 in
theorem l1New_any (a : Option Addr) (n c : Nat) (bs : List Int) (w : World) (A B : Nat) (hB : B ≤ w.heap.size) (h : BytesAt w A B a n c bs) :
    Calls Try.prog 93 #[.slice a n c] w fun e w' => ∃ C, e = .returned (.pointer (some ⟨C, 0, none⟩)) ∧ w.heap.size ≤ C ∧ DCur w' C A B ∧ Below w.heap.size w w' := by
  have hc := h.2.2.1
  have hnc := h.2.1
  have hcell := h.2.2.2.2.1
  unfold maxLen at hc
  go_enter Try.func93, Try.ntmps93
  go_wp2
  go_loop [3, 4] (fun hv i => ∃ (k : Nat) (x : Int), k ≤ n ∧ i = .int .i64 k ∧ hv = .int .i64 x) (fun _ i => n - (intOf i).toNat)
  case atStart => exact ⟨0, _, Nat.zero_le _, rfl, rfl⟩
  case round =>
    obtain ⟨k, x, hk, rfl, rfl⟩ := hrel
    by_cases hlt : k < n
    · obtain ⟨b, off, rfl, hb, hcb⟩ := hcell (by omega)
      have e1 := hcb k hlt
      clear hcell hcb
      go_wp2
      go_round
      case rel => exact ⟨k + 1, _, by omega, by go_num, rfl⟩
      case measure => simp [intOf]; omega
    · clear hcell
      have hbox := heap_alloc_new w (.cells #[.slice a n c, .int .i64 0, .int .i64 x] 243)
      have hb1 : Below w.heap.size w (w.alloc (.cells #[.slice a n c, .int .i64 0, .int .i64 x] 243)) := (Below.refl _ _).alloc (Nat.le_refl _) _
      go_wp2
      go_ret
      exact ⟨w.heap.size, rfl, Nat.le_refl _, ⟨hB, a, n, c, bs, 0, x, hbox, Nat.zero_le _, h.below (hb1.mono hB)⟩, hb1⟩
theorem DCur.fr {w w' : World} {C A B : Nat} (h : DCur w C A B) (hf : Fr (fun g => g = C) w w') (hB : B ≤ w.heap.size) : B ≤ w'.heap.size := Nat.le_trans hB hf.size
theorem DCur.below {w w' : World} {C A B : Nat} (h : DCur w C A B) (hb : Below w.heap.size w w') : DCur w' C A B := by
  obtain ⟨hBC, a, n, c, bs, i, hh, hbox, hi, hby⟩ := h
  have hl := (Array.getElem?_eq_some_iff.1 hbox).1
  exact ⟨hBC, a, n, c, bs, i, hh, (hb.block C hl).trans hbox, hi, hby.below (hb.mono (by omega))⟩
theorem DCur.lt {w : World} {C A B : Nat} (h : DCur w C A B) : C < w.heap.size := by
  obtain ⟨hBC, a, n, c, bs, i, hh, hbox, hi, hby⟩ := h
  exact (Array.getElem?_eq_some_iff.1 hbox).1
theorem DCur.le {w : World} {C A B : Nat} (h : DCur w C A B) : B ≤ w.heap.size := Nat.le_of_lt (Nat.lt_of_le_of_lt h.1 h.lt)
/-- What a draw gives, and leaves. -/
def DPost (C A B : Nat) (w w' : World) : Prop := DCur w' C A B ∧ Fr (fun g => g = C) w w'
set_option maxHeartbeats 800000 in
theorem l1Below_any (C A B : Nat) (w : World) (h : DCur w C A B) (m : Int) (h1 : 1 ≤ m) (h2 : m ≤ 4294967296) :
    Calls Try.prog 104 #[.pointer (some ⟨C, 0, none⟩), .int .i64 m] w fun e w' => ∃ x : Nat, e = .returned (.int .i64 x) ∧ (x : Int) < m ∧ DCur w' C A B ∧ Fr (fun g => g = C) w w' := by
  go_enter Try.func104, Try.ntmps104
  have hm0 : m ≠ 0 := by omega
  by_cases hm : m ≤ 256
  · go_wp2_with fail
    refine (l1Byte_any C A B w h h.le).mono ?_
    rintro e w1 ⟨x, rfl, hx, hD, hF⟩
    go_wp2
    obtain ⟨r, hr⟩ : ∃ r : Nat, (x : Int) % m = (r : Int) := ⟨((x : Int) % m).toNat, (Int.toNat_of_nonneg (Int.emod_nonneg _ hm0)).symm⟩
    have hlt := Int.emod_lt_of_pos (x : Int) (show 0 < m by omega)
    rw [hr] at hlt ⊢
    go_ret
    exact ⟨r, rfl, hlt, hD, hF⟩
  · go_wp2_with fail
    refine (l1Byte_any C A B w h h.le).mono ?_
    rintro e w1 ⟨x, rfl, hx, hD1, hF1⟩
    go_wp2_with fail
    refine (l1Byte_any C A B w1 hD1 hD1.le).mono ?_
    rintro e w2 ⟨y, rfl, hy, hD2, hF2⟩
    go_wp2_with fail
    refine (l1Byte_any C A B w2 hD2 hD2.le).mono ?_
    rintro e w3 ⟨z, rfl, hz, hD3, hF3⟩
    go_wp2
    obtain ⟨r, hr⟩ : ∃ r : Nat, ((x : Int) * 65536 + (y : Int) * 256 + (z : Int)) % m = (r : Int) := ⟨(((x : Int) * 65536 + (y : Int) * 256 + (z : Int)) % m).toNat, (Int.toNat_of_nonneg (Int.emod_nonneg _ hm0)).symm⟩
    have hlt := Int.emod_lt_of_pos ((x : Int) * 65536 + (y : Int) * 256 + (z : Int)) (show 0 < m by omega)
    rw [hr] at hlt ⊢
    go_ret
    exact ⟨r, rfl, hlt, hD3, (hF1.trans hF2).trans hF3⟩
theorem l1Once_any (C A B : Nat) (w : World) (h : DCur w C A B) (m : Int) (h1 : 1 ≤ m) (h2 : m ≤ 4294967296) :
    Calls Try.prog 96 #[.pointer (some ⟨C, 0, none⟩), .int .i64 m] w fun e w' => ∃ b : Bool, e = .returned (.bool b) ∧ DCur w' C A B ∧ Fr (fun g => g = C) w w' := by
  go_enter Try.func96, Try.ntmps96
  go_wp2_with fail
  refine (l1Below_any C A B w h m h1 h2).mono ?_
  rintro e w1 ⟨x, rfl, hx, hD, hF⟩
  go_wp2
  go_ret
  exact ⟨_, rfl, hD, hF⟩
theorem l2DrawTx_any (C A B : Nat) (w : World) (h : DCur w C A B) :
    Calls Try.prog 94 #[.pointer (some ⟨C, 0, none⟩)] w fun e w' => ∃ x : Nat, e = .returned (.int .i64 x) ∧ x ≤ 2000000000 ∧ DCur w' C A B ∧ Fr (fun g => g = C) w w' := by
  go_enter Try.func94, Try.ntmps94
  go_wp2_with fail
  refine (l1Below_any C A B w h 8 (by omega) (by omega)).mono ?_
  rintro e w1 ⟨k, rfl, hk, hD, hF⟩
  by_cases h0 : k = 0
  · subst h0
    go_wp2
    go_ret
    exact ⟨2000000000, rfl, by omega, hD, hF⟩
  · by_cases hk1 : k = 1
    · subst hk1
      go_wp2
      go_ret
      exact ⟨1, rfl, by omega, hD, hF⟩
    · have n0 : ((k : Int) == 0) = false := by simp; omega
      have n1 : ((k : Int) == 1) = false := by simp; omega
      go_wp2_with fail
      refine (l1Below_any C A B w1 hD 70000 (by omega) (by omega)).mono ?_
      rintro e w2 ⟨x, rfl, hx, hD2, hF2⟩
      go_wp2
      rw [show (1 : Int) + (x : Int) = ((1 + x : Nat) : Int) by omega]
      go_ret
      exact ⟨1 + x, rfl, by omega, hD2, hF.trans hF2⟩
theorem l2DrawNum_any (C A B : Nat) (w : World) (h : DCur w C A B) (low last : Nat) (hl : low ≤ 2) (hl2 : 300 ≤ last ∧ last ≤ 1000) :
    Calls Try.prog 151 #[.pointer (some ⟨C, 0, none⟩), .int .i64 low, .int .i64 last] w fun e w' => ∃ x : Nat, e = .returned (.int .i64 x) ∧ low ≤ x ∧ x ≤ last ∧ DCur w' C A B ∧ Fr (fun g => g = C) w w' := by
  go_enter Try.func151, Try.ntmps151
  go_wp2_with fail
  refine (l1Below_any C A B w h 12 (by omega) (by omega)).mono ?_
  rintro e w1 ⟨k, rfl, hk, hD, hF⟩
  by_cases h0 : k = 0
  · subst h0
    go_wp2
    go_ret
    exact ⟨last, rfl, by omega, by omega, hD, hF⟩
  · by_cases hk1 : k = 1
    · subst hk1
      go_wp2
      go_ret
      exact ⟨low, rfl, by omega, by omega, hD, hF⟩
    · have n0 : ((k : Int) == 0) = false := by simp; omega
      have n1 : ((k : Int) == 1) = false := by simp; omega
      by_cases hk2 : k = 2
      · subst hk2
        go_wp2_with fail
        refine (l1Below_any C A B w1 hD 3 (by omega) (by omega)).mono ?_
        rintro e w2 ⟨x, rfl, hx, hD2, hF2⟩
        go_wp2
        rw [show (255 : Int) + (x : Int) = ((255 + x : Nat) : Int) by omega]
        go_ret
        exact ⟨255 + x, rfl, by omega, by omega, hD2, hF.trans hF2⟩
      · have n2 : ((k : Int) == 2) = false := by simp; omega
        go_wp2_with fail
        refine (l1Below_any C A B w1 hD 40 (by omega) (by omega)).mono ?_
        rintro e w2 ⟨x, rfl, hx, hD2, hF2⟩
        go_wp2
        rw [show (low : Int) + (x : Int) = ((low + x : Nat) : Int) by omega]
        go_ret
        exact ⟨low + x, rfl, by omega, by omega, hD2, hF.trans hF2⟩
end Go.Proofs.Ytpiipnfhinbimac
namespace Go.Proofs.Ytpiipnfhinbimac
open Go.RowKit
set_option linter.unusedVariables false
set_option maxRecDepth 100000

theorem own_lowerD {w : World} {b b' e size : Nat} {v : Value} {n : Nat} {xs : List Value} (h : w.ownsRow b e size v n xs) (hb : b' ≤ b) : w.ownsRow b' e size v n xs := by
  refine ⟨h.1, ?_⟩
  rcases h.2 with hn | ⟨g, cap, cur, e1, e2, e3⟩
  · exact .inl hn
  · exact .inr ⟨g, cap, cur, e1, Nat.le_trans hb e2, e3⟩

theorem grown_weakD {w w' : World} {row : Option Nat} (h : w.grownBy w' none) : w.grownBy w' row :=
  ⟨h.os, h.tape, h.output, h.size, fun k hk _ => h.block k hk (by simp)⟩

/-- 'append' to a slice of one's own, and where the answer lies: where it lay, or in a new block. -/
theorem run_append_ownD {P : Program} (w : World) (base : Nat) (t ty e : TypeId) (i : TypeInfo) (z : Value) (size bytes : Nat) (ht : P.underlying t = some (.slice e)) (hi : P.info? e = some i) (hz : i.zero = some z)
    (hsize : i.size = size) (hby : i.bytes = bytes) (hzs : z.cells.size = size) (hsz : 0 < size)
    (v : Value) (n : Nat) (xs : List Value) (hown : w.ownsRow base e size v n xs)
    (a : Addr) (m c : Nat) (news : List Value) (hl : news.length = m * size) (hnews : ∀ j u, news[j]? = some u → w.cell? (a.add j) = some u) (h1 : ∀ u ∈ news, u.oneCell' = true)
    (h63 : n + m ≤ maxLen) (hbytes : (n + m) * bytes ≤ 140737488355328) (hbase : base ≤ w.heap.size) :
    ∃ v' w', (Builtin.append_ #[t, t] ty #[v, .slice (some a) m c]).run P w = .ok v' w' ∧ w'.ownsRow base e size v' (n + m) (xs ++ news) ∧ w.grownBy w' v.ownBlock ∧
      (v'.ownBlock = v.ownBlock ∨ ∀ g, v'.ownBlock = some g → w.heap.size ≤ g) := by
  rcases hown.2 with ⟨rfl, rfl⟩ | ⟨g, cap, cur, rfl, hbg, hg, hnc, hcm, hcs, htake⟩
  · have hx : xs = [] := List.eq_nil_of_length_eq_zero (by simpa using hown.1)
    subst hx
    obtain ⟨v', w', hr, ho, hgr, _⟩ := run_append_own (P := P) w w.heap.size t ty e i z size bytes ht hi hz hsize hby hzs hsz _ 0 [] (World.ownsRow_nil w _ e size) a m c news hl hnews h1 h63 hbytes (Nat.le_refl _)
    exact ⟨v', w', hr, own_lowerD ho hbase, hgr, .inr fun k hk => (ho.lt k hk).1⟩
  · by_cases hroom : n + m ≤ cap
    · obtain ⟨v', w', hr, ho, hgr, _⟩ := run_append_own (P := P) w base t ty e i z size bytes ht hi hz hsize hby hzs hsz _ n xs hown a m c news hl hnews h1 h63 hbytes hbase
      subst hsize
      have hfit : n * i.size + news.length ≤ cur.size := by rw [hl, hcs, ← Nat.add_mul]; exact Nat.mul_le_mul_right _ hroom
      have hr2 := run_append_room (P := P) w t ty e i ht hi g n cap cur hg a m c news hl hnews h1 hroom hfit
      rw [hr] at hr2
      injection hr2 with e1 e2
      exact ⟨v', w', hr, ho, hgr, .inl (by rw [e1]; rfl)⟩
    · have holds : ∀ j u, xs[j]? = some u → w.cell? ((⟨g, 0, none⟩ : Addr).add j) = some u := hown.cells (g := g) rfl
      obtain ⟨v', w', hr, ho, hgr⟩ := run_append_arg_grows (P := P) w t ty e i z size bytes ht hi hz hsize hby hzs hsz ⟨g, 0, none⟩ n cap xs hown.1 holds a m c news hl hnews (by omega) h63 hbytes
      exact ⟨v', w', hr, own_lowerD ho hbase, grown_weakD hgr, .inr fun k hk => (ho.lt k hk).1⟩

theorem wpList_append_ownD {P : Program} (w : World) {ops : Array Oper} {rest : List Oper} {o : Oper} {a : Act} {Q : Exit → Act → World → Prop} (hgd : o.guard = none) (s x : Operand) (t : TypeId)
    (ho : o.op = .call { callee := .builtin .append, args := #[s, x], argTypes := #[t, t] })
    (base : Nat) (e : TypeId) (i : TypeInfo) (z : Value) (size bytes : Nat) (ht : P.underlying t = some (.slice e)) (hi : P.info? e = some i) (hz : i.zero = some z)
    (hsize : i.size = size) (hby : i.bytes = bytes) (hzs : z.cells.size = size) (hsz : 0 < size)
    (v : Value) (n : Nat) (xs : List Value) (hs : a.eval s = v) (hown : w.ownsRow base e size v n xs)
    (ad : Addr) (m c : Nat) (news : List Value) (hx : a.eval x = .slice (some ad) m c) (hl : news.length = m * size) (hnews : ∀ j u, news[j]? = some u → w.cell? (ad.add j) = some u) (h1 : ∀ u ∈ news, u.oneCell' = true)
    (h63 : n + m ≤ maxLen) (hbytes : (n + m) * bytes ≤ 140737488355328) (hbase : base ≤ w.heap.size)
    (h : ∀ v' w', w'.ownsRow base e size v' (n + m) (xs ++ news) → w.grownBy w' v.ownBlock → (v'.ownBlock = v.ownBlock ∨ ∀ g, v'.ownBlock = some g → w.heap.size ≤ g) → wpList P ops Q rest (a.put o.dst v') w') : wpList P ops Q (o :: rest) a w := by
  refine wpList_plain hgd fun _ hK => ?_
  obtain ⟨v', w', hr, h2, h3, h4⟩ := run_append_ownD (P := P) w base t o.type e i z size bytes ht hi hz hsize hby hzs hsz v n xs hown ad m c news hl hnews h1 h63 hbytes hbase
  unfold Oper.wp execOp
  simp only [ho, resolve, invoke, builtin, Sem.run_bind, Sem.run_pure, Result.andThen_ok, List.map_toArray, List.map_cons, List.map_nil, hs, hx, hr]
  exact hK _ _ (h v' w' h2 h3 h4)

end Go.Proofs.Ytpiipnfhinbimac
namespace Go.Proofs.Ytpiipnfhinbimac
open Go.RowKit
set_option linter.unusedVariables false
set_option maxRecDepth 100000

set_option maxHeartbeats 800000 in
theorem l1Many_any (s : ByteArray) (hs : s.size ≤ 16) (n : Nat) (hn : n ≤ 1000) (w : World) :
    Calls Try.prog 154 #[.string s, .int .i64 n] w fun e w' => ∃ t : ByteArray, e = .returned (.string t) ∧ t.size = s.size * n ∧ Below w.heap.size w w' := by
  go_enter Try.func154, Try.ntmps154
  go_wp2_with fail
  have hb0 : Below w.heap.size w (w.alloc (.cells #[] 5)) := (Below.refl _ _).alloc (Nat.le_refl _) _
  have hw0 : (w.alloc (.cells #[] 5)).ownsRow w.heap.size 5 1 (.slice (some ⟨w.heap.size, 0, none⟩) 0 0) 0 (u8s []) := by
    have := World.ownsRow_made w #[] (base := w.heap.size) (e := 5) (size := 1) 0 (by simp) (by unfold maxLen; omega) (by simp)
    simpa [u8s] using this
  go_loopw [5, 6] (fun v i wr => ∃ (k : Nat) (a : Option Addr) (c : Nat) (l : List Int), k ≤ n ∧ i = .int .i64 k ∧ l.length = s.size * k ∧ (∀ x ∈ l, 0 ≤ x ∧ x ≤ 255) ∧ v = .slice a (s.size * k) c ∧ wr.ownsRow w.heap.size 5 1 (.slice a (s.size * k) c) (s.size * k) (u8s l) ∧ Below w.heap.size w wr) (fun _ i _ => n - (intOf i).toNat)
  case atStart => exact ⟨0, some ⟨w.heap.size, 0, none⟩, 0, [], Nat.zero_le _, rfl, by simp, (by intro x hx; cases hx), rfl, hw0, hb0⟩
  case round =>
    clear hw0 hb0
    obtain ⟨k, a, c, l, hk, rfl, hl, hlb, rfl, hown, hbel⟩ := hrel
    have hm : s.size * k ≤ 16 * 1000 := Nat.mul_le_mul hs (by omega)
    have HL : Hid (l.length = s.size * k) := hl
    clear hl
    generalize hmk : s.size * k = m at hm HL hown ⊢
    have HM : Hid (s.size * k = m) := hmk
    clear hmk
    by_cases hlt : k < n
    · have hsz := hbel.size
      go_wp2_with (at_builtin; refine wpList_as rfl _ _ rfl w.heap.size _ m l rfl hown s rfl (by omega) (by omega) ?_; intro v' w1 hown1 hgr)
      obtain ⟨a', c', rfl⟩ := own_shape hown1
      have hb2 := hbel.grown hgr (by omega) (fun g hg => (hown.lt g hg).1)
      have hE : s.size * (k + 1) = m + s.size := by rw [Nat.mul_succ, HM.out]
      have HE : Hid (s.size * (k + 1) = m + s.size) := hE
      have HL2 : Hid ((l ++ strB s).length = s.size * (k + 1)) := by show _ = _; rw [List.length_append, strB_len, HL.out, hE]
      have HB2 : Hid (∀ x ∈ l ++ strB s, 0 ≤ x ∧ x ≤ 255) := by intro x hx; rcases List.mem_append.1 hx with h | h; exact hlb x h; exact strB_byte s x h
      clear hgr hown hE
      go_roundw
      case rel => exact ⟨k + 1, a', c', l ++ strB s, by omega, by go_num, HL2.out, HB2.out, by rw [HE.out], by rw [HE.out]; exact hown1, hb2⟩
      case measure => simp [intOf]; omega
    · have hkn : k = n := by omega
      subst hkn
      have hlen := HL.out
      have hB : BytesAt wr w.heap.size wr.heap.size a m c l := by
        have := bytesAt_of_own (v := .slice a m c) (bs := l) (by rw [hlen]; exact hown) hlb
        obtain ⟨a2, n2, c2, e, hB⟩ := this
        cases e
        exact hB
      have sc := str_conv hB
      clear hown HL
      go_wp2
      go_ret
      exact ⟨_, rfl, by rw [toB_size, hlen, HM.out], hbel⟩
theorem DCur.frg {w w' : World} {C A B : Nat} {S : Nat → Prop} (h : DCur w C A B) (hf : Fr S w w') (hS : ∀ g, S g → C < g) : DCur w' C A B := by
  obtain ⟨hBC, a, n, c, bs, i, hh, hbox, hi, hby⟩ := h
  have hl := (Array.getElem?_eq_some_iff.1 hbox).1
  exact ⟨hBC, a, n, c, bs, i, hh, (hf.block C hl (fun e => by have := hS _ e; omega)).trans hbox, hi, hby.keep (fun k k1 k2 => hf.block k (by omega) (fun e => by have := hS _ e; omega))⟩
theorem Fr.up2 {S T : Nat → Prop} {a b c : World} (h : Fr S a b) (k : Fr T b c) (hT : ∀ g, T g → a.heap.size ≤ g) : Fr S a c :=
  ⟨k.1.trans h.1, k.2.trans h.2, k.3.trans h.3, Nat.le_trans h.size k.size, fun g hg hS => (k.block g (Nat.lt_of_lt_of_le hg h.size) (fun e => by have := hT g e; omega)).trans (h.block g hg hS)⟩
theorem info_Str : (Try.prog.info? 9).map (fun i => (i.zero, i.size, i.bytes)) = some (some (.string ⟨#[]⟩), 1, 16) := by kernel_rfl
/-- append(v, s), s one string. -/
theorem wpList_str {w : World} {ops : Array Oper} {rest : List Oper} {o : Oper} {a : Act} {Q : Exit → Act → World → Prop} (hgd : o.guard = none) (s x : Operand)
    (ho : o.op = .call { callee := .builtin .append, args := #[s, x], argTypes := #[122, 122] })
    (base : Nat) (v : Value) (n : Nat) (xs : List Value) (hs : a.eval s = v) (hown : w.ownsRow base 9 1 v n xs)
    (g : Nat) (u1 : ByteArray) (hx : a.eval x = .slice (some ⟨g, 0, none⟩) 1 1) (hg : w.heap[g]? = some (.cells #[.string u1] 9)) (hn : n ≤ 1000000) (hbase : base ≤ w.heap.size)
    (h : ∀ v' w', w'.ownsRow base 9 1 v' (n + 1) (xs ++ [.string u1]) → w.grownBy w' v.ownBlock → (v'.ownBlock = v.ownBlock ∨ ∀ g, v'.ownBlock = some g → w.heap.size ≤ g) → wpList Try.prog ops Q rest (a.put o.dst v') w') : wpList Try.prog ops Q (o :: rest) a w := by
  obtain ⟨i0, hi, hz0, hz1, hz2⟩ := info_parts info_Str
  refine wpList_append_ownD w hgd s x 122 ho base 9 i0 _ 1 16 Try.underlying122 hi hz0 hz1 hz2 rfl (by decide) v n xs hs hown ⟨g, 0, none⟩ 1 1 [.string u1] hx rfl ?_ ?_ (by unfold maxLen; omega) (by omega) hbase h
  · intro j u hj
    have e : (⟨g, 0, none⟩ : Addr).add j = ⟨g, j, none⟩ := by simp [Addr.add]; omega
    rw [e]
    rcases j with _ | j
    all_goals first
      | (simp at hj; done)
      | (simp at hj; subst hj; simp [World.cell?, hg])
  · intro u hu; simp at hu; rcases hu with rfl; rfl
/-- The keys that are drawn from, ascending. -/
def allK : Nat → ByteArray
  | 0 => ⟨#[97]⟩
  | 1 => ⟨#[97, 97]⟩
  | 2 => ⟨#[97, 98]⟩
  | 3 => ⟨#[98]⟩
  | 4 => ⟨#[98, 0]⟩
  | 5 => ⟨#[99]⟩
  | 6 => ⟨#[100]⟩
  | 7 => ⟨#[101, 101, 101, 101, 101, 101, 101, 101]⟩
  | 8 => ⟨#[107, 49]⟩
  | 9 => ⟨#[107, 49, 48]⟩
  | 10 => ⟨#[107, 50]⟩
  | _ => ⟨#[122]⟩
theorem allK_key (k : Nat) (hk : k < 12) : keyB (allK k) = true := by
  have h12 : k = 0 ∨ k = 1 ∨ k = 2 ∨ k = 3 ∨ k = 4 ∨ k = 5 ∨ k = 6 ∨ k = 7 ∨ k = 8 ∨ k = 9 ∨ k = 10 ∨ k = 11 := by omega
  rcases h12 with rfl | rfl | rfl | rfl | rfl | rfl | rfl | rfl | rfl | rfl | rfl | rfl <;> decide
theorem allK_lt (j k : Nat) (hj : j < k) (hk : k < 12) : geB (allK j) (allK k) = false := by
  have h12 : k = 0 ∨ k = 1 ∨ k = 2 ∨ k = 3 ∨ k = 4 ∨ k = 5 ∨ k = 6 ∨ k = 7 ∨ k = 8 ∨ k = 9 ∨ k = 10 ∨ k = 11 := by omega
  have j12 : j = 0 ∨ j = 1 ∨ j = 2 ∨ j = 3 ∨ j = 4 ∨ j = 5 ∨ j = 6 ∨ j = 7 ∨ j = 8 ∨ j = 9 ∨ j = 10 ∨ j = 11 := by omega
  rcases h12 with rfl | rfl | rfl | rfl | rfl | rfl | rfl | rfl | rfl | rfl | rfl | rfl <;> rcases j12 with rfl | rfl | rfl | rfl | rfl | rfl | rfl | rfl | rfl | rfl | rfl | rfl <;> first | (exfalso; omega) | (simp only [geB, ByteArray.toList_eq, allK]; decide)
theorem allK_nil (k : Nat) (hk : k < 12) : geB ⟨#[]⟩ (allK k) = false := by
  have h12 : k = 0 ∨ k = 1 ∨ k = 2 ∨ k = 3 ∨ k = 4 ∨ k = 5 ∨ k = 6 ∨ k = 7 ∨ k = 8 ∨ k = 9 ∨ k = 10 ∨ k = 11 := by omega
  rcases h12 with rfl | rfl | rfl | rfl | rfl | rfl | rfl | rfl | rfl | rfl | rfl | rfl <;> simp only [geB, ByteArray.toList_eq, allK] <;> decide
/-- Keys drawn: ascending numbers' ones. -/
def Asc (k : Nat) (ss : List ByteArray) : Prop := ∃ js : List Nat, ss = js.map allK ∧ (∀ i, i < js.length → js.getD i 0 < k) ∧ (∀ i, i + 1 < js.length → js.getD i 0 < js.getD (i + 1) 0)
theorem Asc.nil (k : Nat) : Asc k [] := ⟨[], rfl, (by intro i hi; cases hi), (by intro i hi; cases hi)⟩
theorem Asc.mono {k k' : Nat} {ss : List ByteArray} (h : Asc k ss) (hk : k ≤ k') : Asc k' ss := by
  obtain ⟨js, e, h1, h2⟩ := h
  exact ⟨js, e, fun i hi => Nat.lt_of_lt_of_le (h1 i hi) hk, h2⟩
theorem Asc.up {k : Nat} {ss : List ByteArray} (h : Asc k ss) : Asc (k + 1) ss := by
  obtain ⟨js, e, h1, h2⟩ := h
  exact ⟨js, e, fun i hi => Nat.lt_succ_of_lt (h1 i hi), h2⟩
theorem getD_snocD {α : Type} (l : List α) (x d : α) (i : Nat) : (l ++ [x]).getD i d = if i < l.length then l.getD i d else if i = l.length then x else d := by
  by_cases h : i < l.length
  · rw [if_pos h]; simp [List.getD, List.getElem?_append_left h]
  · rw [if_neg h]
    by_cases h2 : i = l.length
    · rw [if_pos h2]; subst h2; simp [List.getD]
    · rw [if_neg h2]; simp [List.getD, List.getElem?_append_right (Nat.le_of_not_lt h)]; rw [List.getElem?_eq_none (by simp; omega)]; rfl
theorem Asc.snoc {k : Nat} {ss : List ByteArray} (h : Asc k ss) : Asc (k + 1) (ss ++ [allK k]) := by
  obtain ⟨js, e, h1, h2⟩ := h
  refine ⟨js ++ [k], by rw [e, List.map_append]; rfl, fun i hi => ?_, fun i hi => ?_⟩
  · rw [getD_snocD]
    split
    · rename_i hl; exact Nat.lt_succ_of_lt (h1 i hl)
    · split <;> omega
  · rw [List.length_append, List.length_singleton] at hi
    rw [getD_snocD, getD_snocD, if_pos (by omega)]
    split
    · rename_i hl; exact h2 i hl
    · rw [if_pos (by omega)]; exact h1 i (by omega)
theorem Asc.key {k : Nat} {ss : List ByteArray} (h : Asc k ss) (hk : k ≤ 12) (d : ByteArray) (i : Nat) (hi : i < ss.length) : keyB (ss.getD i d) = true ∧ geB ⟨#[]⟩ (ss.getD i d) = false ∧ (i + 1 < ss.length → geB (ss.getD i d) (ss.getD (i + 1) d) = false) := by
  obtain ⟨js, rfl, h1, h2⟩ := h
  rw [List.length_map] at hi
  have e : ∀ j, j < js.length → (js.map allK).getD j d = allK (js.getD j 0) := fun j hj => by simp [List.getD, hj]
  have hj := h1 i hi
  rw [e i hi]
  refine ⟨allK_key _ (by omega), allK_nil _ (by omega), fun hi2 => ?_⟩
  rw [List.length_map] at hi2
  rw [e (i + 1) hi2]
  exact allK_lt _ _ (h2 i hi2) (by have := h1 (i + 1) hi2; omega)
theorem keys_cell {w : World} {N t : Nat} (h : w.heap[N]? = some (.cells #[.string ⟨#[97]⟩, .string ⟨#[97, 97]⟩, .string ⟨#[97, 98]⟩, .string ⟨#[98]⟩, .string ⟨#[98, 0]⟩, .string ⟨#[99]⟩, .string ⟨#[100]⟩, .string ⟨#[101, 101, 101, 101, 101, 101, 101, 101]⟩, .string ⟨#[107, 49]⟩, .string ⟨#[107, 49, 48]⟩, .string ⟨#[107, 50]⟩, .string ⟨#[122]⟩] t)) {k : Nat} (hk : k < 12) : w.cell? ⟨N, k, none⟩ = some (.string (allK k)) := by
  have h12 : k = 0 ∨ k = 1 ∨ k = 2 ∨ k = 3 ∨ k = 4 ∨ k = 5 ∨ k = 6 ∨ k = 7 ∨ k = 8 ∨ k = 9 ∨ k = 10 ∨ k = 11 := by omega
  rcases h12 with rfl | rfl | rfl | rfl | rfl | rfl | rfl | rfl | rfl | rfl | rfl | rfl <;> simp only [World.cell?, h] <;> rfl
set_option maxHeartbeats 1600000 in
theorem l2Keys_any (C A B : Nat) (w : World) (h : DCur w C A B) (n : Nat) (hn : n ≤ 12) :
    Calls Try.prog 152 #[.pointer (some ⟨C, 0, none⟩), .int .i64 n] w fun e w' => ∃ (a : Option Addr) (c : Nat) (ss : List ByteArray), e = .returned (.slice a ss.length c) ∧ ss.length = n ∧ Asc 12 ss ∧ w'.ownsRow w.heap.size 9 1 (.slice a ss.length c) ss.length (ss.map Value.string) ∧ DCur w' C A B ∧ Fr (fun g => g = C) w w' := by
  have hCw := h.lt
  go_enter Try.func152, Try.ntmps152
  go_wp2_with fail
  have hb0 : Below w.heap.size w ((w.alloc (.cells #[] 9)).alloc (.cells #[.string ⟨#[97]⟩, .string ⟨#[97, 97]⟩, .string ⟨#[97, 98]⟩, .string ⟨#[98]⟩, .string ⟨#[98, 0]⟩, .string ⟨#[99]⟩, .string ⟨#[100]⟩, .string ⟨#[101, 101, 101, 101, 101, 101, 101, 101]⟩, .string ⟨#[107, 49]⟩, .string ⟨#[107, 49, 48]⟩, .string ⟨#[107, 50]⟩, .string ⟨#[122]⟩] 9)) := ((Below.refl _ _).alloc (Nat.le_refl _) _).alloc (by simp) _
  have hw0 : ((w.alloc (.cells #[] 9)).alloc (.cells #[.string ⟨#[97]⟩, .string ⟨#[97, 97]⟩, .string ⟨#[97, 98]⟩, .string ⟨#[98]⟩, .string ⟨#[98, 0]⟩, .string ⟨#[99]⟩, .string ⟨#[100]⟩, .string ⟨#[101, 101, 101, 101, 101, 101, 101, 101]⟩, .string ⟨#[107, 49]⟩, .string ⟨#[107, 49, 48]⟩, .string ⟨#[107, 50]⟩, .string ⟨#[122]⟩] 9)).ownsRow w.heap.size 9 1 (.slice (some ⟨w.heap.size, 0, none⟩) 0 0) 0 [] := by
    have := (World.ownsRow_made w #[] (base := w.heap.size) (e := 9) (size := 1) 0 (by simp) (by unfold maxLen; omega) (by simp)).alloc (.cells #[.string ⟨#[97]⟩, .string ⟨#[97, 97]⟩, .string ⟨#[97, 98]⟩, .string ⟨#[98]⟩, .string ⟨#[98, 0]⟩, .string ⟨#[99]⟩, .string ⟨#[100]⟩, .string ⟨#[101, 101, 101, 101, 101, 101, 101, 101]⟩, .string ⟨#[107, 49]⟩, .string ⟨#[107, 49, 48]⟩, .string ⟨#[107, 50]⟩, .string ⟨#[122]⟩] 9)
    simpa using this
  have hK0 : ((w.alloc (.cells #[] 9)).alloc (.cells #[.string ⟨#[97]⟩, .string ⟨#[97, 97]⟩, .string ⟨#[97, 98]⟩, .string ⟨#[98]⟩, .string ⟨#[98, 0]⟩, .string ⟨#[99]⟩, .string ⟨#[100]⟩, .string ⟨#[101, 101, 101, 101, 101, 101, 101, 101]⟩, .string ⟨#[107, 49]⟩, .string ⟨#[107, 49, 48]⟩, .string ⟨#[107, 50]⟩, .string ⟨#[122]⟩] 9)).heap[w.heap.size + 1]? = some (.cells #[.string ⟨#[97]⟩, .string ⟨#[97, 97]⟩, .string ⟨#[97, 98]⟩, .string ⟨#[98]⟩, .string ⟨#[98, 0]⟩, .string ⟨#[99]⟩, .string ⟨#[100]⟩, .string ⟨#[101, 101, 101, 101, 101, 101, 101, 101]⟩, .string ⟨#[107, 49]⟩, .string ⟨#[107, 49, 48]⟩, .string ⟨#[107, 50]⟩, .string ⟨#[122]⟩] 9) := by
    show ((w.heap.push _).push _)[w.heap.size + 1]? = _
    rw [Array.getElem?_push, if_pos (by simp)]
  go_loopw [5, 7] (fun v i wr => ∃ (k : Nat) (a : Option Addr) (c : Nat) (ss : List ByteArray), k ≤ 12 ∧ i = .int .i64 k ∧ v = .slice a ss.length c ∧ (ss.length ≤ n ∧ n + k ≤ 12 + ss.length) ∧ Asc k ss ∧ wr.ownsRow w.heap.size 9 1 (.slice a ss.length c) ss.length (ss.map Value.string) ∧ (∀ g, (Value.slice a ss.length c).ownBlock = some g → g ≠ w.heap.size + 1) ∧ DCur wr C A B ∧ Fr (fun g => g = C) w wr ∧ wr.heap[w.heap.size + 1]? = some (.cells #[.string ⟨#[97]⟩, .string ⟨#[97, 97]⟩, .string ⟨#[97, 98]⟩, .string ⟨#[98]⟩, .string ⟨#[98, 0]⟩, .string ⟨#[99]⟩, .string ⟨#[100]⟩, .string ⟨#[101, 101, 101, 101, 101, 101, 101, 101]⟩, .string ⟨#[107, 49]⟩, .string ⟨#[107, 49, 48]⟩, .string ⟨#[107, 50]⟩, .string ⟨#[122]⟩] 9)) (fun _ i _ => 12 - (intOf i).toNat)
  case atStart => exact ⟨0, some ⟨w.heap.size, 0, none⟩, 0, [], by omega, rfl, rfl, ⟨Nat.zero_le _, by simp; omega⟩, Asc.nil 0, hw0, (by intro g e; simp [Value.ownBlock] at e; omega), h.below hb0, Fr.of_below hb0, hK0⟩
  case round =>
    clear hb0 hw0 hK0 h
    obtain ⟨k, a, c, ss, hk, rfl, rfl, hlen, hss, hown, hne, hD, hF, hK⟩ := hrel
    have HSS : Hid (Asc k ss) := hss
    have HK : Hid _ := hK
    clear hss
    obtain ⟨m, hm⟩ : ∃ m, ss.length = m := ⟨_, rfl⟩
    have HM : Hid (ss.length = m) := hm
    rw [hm] at hlen hown hne ⊢
    obtain ⟨hlen, hlen2⟩ := hlen
    clear hm
    by_cases hlt : k < 12
    · by_cases hlt2 : m < n
      · go_wp2_with fail
        refine (l1Below_any C A B wr hD (12 - (k : Int)) (by omega) (by omega)).mono ?_
        rintro e w1 ⟨x, rfl, hx, hD1, hF1⟩
        have hsz := hF.size
        have hF2 := hF.trans hF1
        have hown1 := owns_fr hown hF1 (fun g e e' => by have := (hown.lt g e).1; omega)
        have hK1 : w1.heap[w.heap.size + 1]? = some (.cells #[.string ⟨#[97]⟩, .string ⟨#[97, 97]⟩, .string ⟨#[97, 98]⟩, .string ⟨#[98]⟩, .string ⟨#[98, 0]⟩, .string ⟨#[99]⟩, .string ⟨#[100]⟩, .string ⟨#[101, 101, 101, 101, 101, 101, 101, 101]⟩, .string ⟨#[107, 49]⟩, .string ⟨#[107, 49, 48]⟩, .string ⟨#[107, 50]⟩, .string ⟨#[122]⟩] 9) := (hF1.block _ (Array.getElem?_eq_some_iff.1 HK.out).1 (by omega)).trans HK.out
        have e1 := keys_cell hK1 hlt
        obtain ⟨s, hs⟩ : ∃ s, allK k = s := ⟨_, rfl⟩
        rw [hs] at e1
        have HSK : Hid (allK k = s) := hs
        clear hs
        have HK1 : Hid _ := hK1
        have hKl := (Array.getElem?_eq_some_iff.1 hK1).1
        clear hK HK hK1 hown hD hF1 hF
        by_cases hlt3 : (x : Int) < (n : Int) - (m : Int)
        · have hal := heap_alloc_new w1 (.cells #[.string s] 9)
          go_wp2_with (at_builtin; refine wpList_str rfl _ _ rfl w.heap.size (.slice a m c) m (ss.map Value.string) rfl (hown1.alloc _) w1.heap.size s rfl hal (by omega) (by have := hF2.size; simp; omega) ?_; intro v' w2 hown2 hgr hlies)
          obtain ⟨a', c', rfl⟩ := own_shape hown2
          have hS2 := hF2.size
          have hB2 : Fr (fun g => (Value.slice a m c).ownBlock = some g) w1 w2 := (Fr.of_below ((Below.refl _ _).alloc (Nat.le_refl _) _)).trans (Fr.of_grown hgr (fun g e => e))
          have hD2 : DCur w2 C A B := hD1.frg hB2 (fun g e => by have := (hown1.lt g e).1; omega)
          have hF3 : Fr (fun g => g = C) w w2 := hF2.up2 hB2 (fun g e => (hown1.lt g e).1)
          have HK2 : Hid (w2.heap[w.heap.size + 1]? = some (.cells #[.string ⟨#[97]⟩, .string ⟨#[97, 97]⟩, .string ⟨#[97, 98]⟩, .string ⟨#[98]⟩, .string ⟨#[98, 0]⟩, .string ⟨#[99]⟩, .string ⟨#[100]⟩, .string ⟨#[101, 101, 101, 101, 101, 101, 101, 101]⟩, .string ⟨#[107, 49]⟩, .string ⟨#[107, 49, 48]⟩, .string ⟨#[107, 50]⟩, .string ⟨#[122]⟩] 9)) := (hB2.block _ hKl (fun e => hne _ e rfl)).trans HK1.out
          have hne2 : ∀ g, (Value.slice a' (m + 1) c').ownBlock = some g → g ≠ w.heap.size + 1 := by
            intro g e
            rcases hlies with hl | hl
            · rw [hl] at e; exact hne g e
            · have := hl g e; simp at this; omega
          have HM2 : Hid ((ss ++ [s]).length = m + 1) := by show _ = _; rw [List.length_append, HM.out]; rfl
          have HO2 : Hid (w2.ownsRow w.heap.size 9 1 (.slice a' (m + 1) c') (m + 1) ((ss ++ [s]).map Value.string)) := by show World.ownsRow _ _ _ _ _ _ _; rw [List.map_append]; exact hown2
          have HS2 : Hid (Asc (k + 1) (ss ++ [s])) := by show Asc _ _; rw [← HSK.out]; exact HSS.out.snoc
          clear hown1 hown2 hgr hlies hal e1
          go_roundw
          case rel => exact ⟨k + 1, a', c', ss ++ [s], by omega, by go_num, by rw [HM2.out], by rw [HM2.out]; omega, HS2.out, by rw [HM2.out]; exact HO2.out, by rw [HM2.out]; exact hne2, hD2, hF3, HK2.out⟩
          case measure => simp [intOf]; omega
        · clear e1
          go_wp2
          go_roundw
          case rel => exact ⟨k + 1, a, c, ss, by omega, by go_num, by rw [HM.out], by rw [HM.out]; omega, HSS.out.up, by rw [HM.out]; exact hown1, by rw [HM.out]; exact hne, hD1, hF2, HK1.out⟩
          case measure => simp [intOf]; omega
      · go_wp2
        go_ret
        exact ⟨a, c, ss, by rw [HM.out]; rfl, by rw [HM.out]; omega, HSS.out.mono (by omega), by rw [HM.out]; exact hown, hD, hF⟩
    · go_wp2
      go_ret
      exact ⟨a, c, ss, by rw [HM.out]; rfl, by rw [HM.out]; omega, HSS.out.mono (by omega), by rw [HM.out]; exact hown, hD, hF⟩
end Go.Proofs.Ytpiipnfhinbimac
namespace Go.Proofs.Ytpiipnfhinbimac
open Go.RowKit
set_option linter.unusedVariables false
set_option maxRecDepth 100000

theorem fit_nat (x : Nat) (h : x ≤ 4294967296) : I64 (x : Int) := by unfold I64; omega
theorem box_four' {w : World} {N : Nat} {v0 v1 v2 v3 : Value} {t : TypeId} (h : w.heap[N]? = some (.cells #[v0, v1, v2, v3] t)) : w.cell? ⟨N, 0, none⟩ = some v0 ∧ w.cell? ⟨N, 1, none⟩ = some v1 ∧ w.cell? ⟨N, 2, none⟩ = some v2 ∧ w.cell? ⟨N, 3, none⟩ = some v3 := by
  simp [World.cell?, h]
def put4D (w : World) (K : Nat) (u0 u1 u2 u3 : Value) : World := (((w.setCell ⟨K, 0, none⟩ u0).setCell ⟨K, 1, none⟩ u1).setCell ⟨K, 2, none⟩ u2).setCell ⟨K, 3, none⟩ u3
theorem setD_fr (w : World) (N i : Nat) (u : Value) : Fr (fun x => x = N) w (w.setCell ⟨N, i, none⟩ u) := ⟨rfl, rfl, rfl, by simp [World.setCell], fun k _ hk => Below.heap_setCell w ⟨N, i, none⟩ u k hk⟩
theorem put4D_fr (w : World) (K : Nat) (u0 u1 u2 u3 : Value) : Fr (fun x => x = K) w (put4D w K u0 u1 u2 u3) := (((setD_fr _ _ _ _).trans (setD_fr _ _ _ _)).trans (setD_fr _ _ _ _)).trans (setD_fr _ _ _ _)
theorem put4D_box {w : World} {N t : Nat} {v0 v1 v2 v3 : Value} (h : w.heap[N]? = some (.cells #[v0, v1, v2, v3] t)) (u0 u1 u2 u3 : Value) : (put4D w N u0 u1 u2 u3).heap[N]? = some (.cells #[u0, u1, u2, u3] t) := by
  simp [put4D, World.setCell, Array.getElem?_modify, h]
set_option maxHeartbeats 1600000 in
theorem l2DrawEnt_any (C A B : Nat) (w : World) (h : DCur w C A B) (key : ByteArray) (hk : key.size ≤ 8) (low last : Nat) (hl : low ≤ 2) (hl2 : 300 ≤ last ∧ last ≤ 1000) :
    Calls Try.prog 153 #[.pointer (some ⟨C, 0, none⟩), .string key, .int .i64 low, .int .i64 last] w fun e w' => ∃ p : PE, e = .returned (.agg #[.string p.1, .string p.2.1, .int .i64 p.2.2.1, .int .i64 p.2.2.2]) ∧ entFit p ∧ (p.1 = key ∧ (shortB p || longB (low : Int) (last : Int) p) = true) ∧ DCur w' C A B ∧ Fr (fun g => g = C) w w' := by
  have hCw := h.lt
  go_enter Try.func153, Try.ntmps153
  go_wp2_with fail
  have hb0 : Below w.heap.size w (w.alloc (.cells #[.string ⟨#[]⟩, .string ⟨#[]⟩, .int .i64 0, .int .i64 0] 171)) := (Below.refl _ _).alloc (Nat.le_refl _) _
  have HR0 := heap_alloc_new w (.cells #[.string ⟨#[]⟩, .string ⟨#[]⟩, .int .i64 0, .int .i64 0] 171)
  have hD0 := h.below hb0
  have hF0 : Fr (fun g => g = C) w (w.alloc (.cells #[.string ⟨#[]⟩, .string ⟨#[]⟩, .int .i64 0, .int .i64 0] 171)) := Fr.of_below hb0
  generalize w.alloc (.cells #[.string ⟨#[]⟩, .string ⟨#[]⟩, .int .i64 0, .int .i64 0] 171) = W0 at hb0 HR0 hD0 hF0 ⊢
  refine (l1Once_any C A B W0 hD0 3 (by omega) (by omega)).mono ?_
  rintro e w1 ⟨b, rfl, hD1, hF1⟩
  have HR1 := (hF1.block w.heap.size (Array.getElem?_eq_some_iff.1 HR0).1 (by omega)).trans HR0
  have hFw1 := hF0.trans hF1
  clear hb0 HR0 hD0 hF0 hF1 h
  cases b
  · go_wp2_with fail
    refine (l1Below_any C A B w1 hD1 9 (by omega) (by omega)).mono ?_
    rintro e w2 ⟨n, rfl, hn, hD2, hF2⟩
    have HR2 := (hF2.block w.heap.size (Array.getElem?_eq_some_iff.1 HR1).1 (by omega)).trans HR1
    have hFw2 := hFw1.trans hF2
    go_wp2_with fail
    refine (l1Many_any _ (by decide) n (by omega) w2).mono ?_
    rintro e w3 ⟨v, rfl, hv, hb3⟩
    have hD3 := hD2.below hb3
    have HR3 := (hb3.block w.heap.size (Array.getElem?_eq_some_iff.1 HR2).1).trans HR2
    have hFw3 := hFw2.trans (Fr.of_below hb3)
    have hv8 : v.size ≤ 8 := by rw [hv]; simp [ByteArray.size]; omega
    have hvn : v.size = n := by rw [hv]; simp [ByteArray.size]
    have HSh : Hid (shortB (key, v, 0, (n : Int)) = true) := by show _ = _; simp [shortB, hvn]; omega
    clear hvn
    clear HR1 HR2 hFw1 hFw2 hD1 hD2 hF2 hb3
    obtain ⟨r0, r1, r2, r3⟩ := box_four' HR3
    have ff := box_thaw HR3
    have hDD := hD3
    have hFF := hFw3
    have HB := put4D_box HR3 (.string key) (.string v) (.int .i64 0) (.int .i64 (n : Int))
    have hDZ : DCur (put4D w3 w.heap.size (.string key) (.string v) (.int .i64 0) (.int .i64 (n : Int))) C A B := hDD.frg (put4D_fr w3 w.heap.size (.string key) (.string v) (.int .i64 0) (.int .i64 (n : Int))) (fun g e => by omega)
    have hFZ : Fr (fun g => g = C) w (put4D w3 w.heap.size (.string key) (.string v) (.int .i64 0) (.int .i64 (n : Int))) := hFF.up2 (put4D_fr w3 w.heap.size (.string key) (.string v) (.int .i64 0) (.int .i64 (n : Int))) (fun g e => by omega)
    go_wp2
    show bodyPost _ _ _ _ _ (put4D w3 w.heap.size (.string key) (.string v) (.int .i64 0) (.int .i64 (n : Int)))
    clear r0 r1 r2 r3
    obtain ⟨r0, r1, r2, r3⟩ := box_four' HB
    refine bodyPost_ret (v := .agg #[.string key, .string v, .int .i64 0, .int .i64 (n : Int)]) (by simp [results, Try.results153, go_sem, r0, r1, r2, r3]) rfl ?_
    exact ⟨(key, v, 0, (n : Int)), rfl, ⟨by unfold maxLen; show key.size ≤ _; omega, by unfold maxLen; show v.size ≤ _; omega, fit_nat 0 (by omega), fit_nat n (by omega)⟩, ⟨rfl, by rw [HSh.out]; rfl⟩, hDZ, hFZ⟩
  · go_wp2_with fail
    refine (l2DrawNum_any C A B w1 hD1 low last hl hl2).mono ?_
    rintro e w2 ⟨x, rfl, hxl, hx, hD2, hF2⟩
    have HR2 := (hF2.block w.heap.size (Array.getElem?_eq_some_iff.1 HR1).1 (by omega)).trans HR1
    have hFw2 := hFw1.trans hF2
    go_wp2_with fail
    refine (l1Below_any C A B w2 hD2 30 (by omega) (by omega)).mono ?_
    rintro e w3 ⟨y, rfl, hy, hD3, hF3⟩
    have HR3 := (hF3.block w.heap.size (Array.getElem?_eq_some_iff.1 HR2).1 (by omega)).trans HR2
    have hFw3 := hFw2.trans hF3
    go_wp2_with fail
    have hal : Below w3.heap.size w3 (w3.alloc (.cells #[.string key, .string ⟨#[]⟩, .int .i64 (x : Int), .int .i64 (9 + (y : Int))] 171)) := (Below.refl _ _).alloc (Nat.le_refl _) _
    have HE4 := heap_alloc_new w3 (.cells #[.string key, .string ⟨#[]⟩, .int .i64 (x : Int), .int .i64 (9 + (y : Int))] 171)
    generalize w3.alloc (.cells #[.string key, .string ⟨#[]⟩, .int .i64 (x : Int), .int .i64 (9 + (y : Int))] 171) = w4 at hal HE4 ⊢
    have hD4 := hD3.below hal
    have HR4 := (hal.block w.heap.size (Array.getElem?_eq_some_iff.1 HR3).1).trans HR3
    have hFw4 := hFw3.trans (Fr.of_below hal)
    have hE3 : w.heap.size < w3.heap.size := (Array.getElem?_eq_some_iff.1 HR3).1
    clear HR1 HR2 HR3 hFw1 hFw2 hFw3 hD1 hD2 hD3 hF2 hF3 hal
    generalize w3.heap.size = E at HE4 hE3 ⊢
    refine (l1Once_any C A B w4 hD4 5 (by omega) (by omega)).mono ?_
    rintro e w5 ⟨b, rfl, hD5, hF5⟩
    have HR5 := (hF5.block w.heap.size (Array.getElem?_eq_some_iff.1 HR4).1 (by omega)).trans HR4
    have HE5 := (hF5.block E (Array.getElem?_eq_some_iff.1 HE4).1 (by omega)).trans HE4
    have hFw5 := hFw4.trans hF5
    clear HR4 HE4 hFw4 hD4 hF5
    cases b
    · obtain ⟨s0, s1, s2, s3⟩ := box_four' HE5
      obtain ⟨r0, r1, r2, r3⟩ := box_four' HR5
      have ff := box_thaw HR5
      have hDD := hD5
      have hFF := hFw5
      have HB := put4D_box HR5 (.string key) (.string ⟨#[]⟩) (.int .i64 (x : Int)) (.int .i64 (9 + (y : Int)))
      have hDZ : DCur (put4D w5 w.heap.size (.string key) (.string ⟨#[]⟩) (.int .i64 (x : Int)) (.int .i64 (9 + (y : Int)))) C A B := hDD.frg (put4D_fr w5 w.heap.size (.string key) (.string ⟨#[]⟩) (.int .i64 (x : Int)) (.int .i64 (9 + (y : Int)))) (fun g e => by omega)
      have hFZ : Fr (fun g => g = C) w (put4D w5 w.heap.size (.string key) (.string ⟨#[]⟩) (.int .i64 (x : Int)) (.int .i64 (9 + (y : Int)))) := hFF.up2 (put4D_fr w5 w.heap.size (.string key) (.string ⟨#[]⟩) (.int .i64 (x : Int)) (.int .i64 (9 + (y : Int)))) (fun g e => by omega)
      go_wp2
      show bodyPost _ _ _ _ _ (put4D w5 w.heap.size (.string key) (.string ⟨#[]⟩) (.int .i64 (x : Int)) (.int .i64 (9 + (y : Int))))
      clear r0 r1 r2 r3
      obtain ⟨r0, r1, r2, r3⟩ := box_four' HB
      refine bodyPost_ret (v := .agg #[.string key, .string ⟨#[]⟩, .int .i64 (x : Int), .int .i64 (9 + (y : Int))]) (by simp [results, Try.results153, go_sem, r0, r1, r2, r3]) rfl ?_
      exact ⟨(key, ⟨#[]⟩, (x : Int), (9 + (y : Int))), rfl, ⟨by unfold maxLen; show key.size ≤ _; omega, Nat.zero_le _, fit_nat x (by omega), by show I64 (9 + (y : Int)); unfold I64; omega⟩, ⟨rfl, by rw [Bool.or_eq_true]; right; simp [longB, inB]; omega⟩, hDZ, hFZ⟩
    · have fe := box_thaw HE5
      obtain ⟨s0, s1, s2, s3⟩ := box_four' HE5
      have HE6 : (w5.setCell ⟨E, 3, none⟩ (.int .i64 400)).heap[E]? = some (.cells #[.string key, .string ⟨#[]⟩, .int .i64 (x : Int), .int .i64 400] 171) := by simp [World.setCell, Array.getElem?_modify, HE5]
      have hF6 := setD_fr w5 E 3 (.int .i64 400)
      have HR6 := (hF6.block w.heap.size (Array.getElem?_eq_some_iff.1 HR5).1 (by omega)).trans HR5
      have hD6 := hD5.frg hF6 (fun g e => by omega)
      have hFw6 := hFw5.up2 hF6 (fun g e => by omega)
      obtain ⟨t0, t1, t2, t3⟩ := box_four' HE6
      obtain ⟨r0, r1, r2, r3⟩ := box_four' HR6
      have ff := box_thaw HR6
      have hDD := hD6
      have hFF := hFw6
      have HB := put4D_box HR6 (.string key) (.string ⟨#[]⟩) (.int .i64 (x : Int)) (.int .i64 400)
      have hDZ : DCur (put4D (w5.setCell ⟨E, 3, none⟩ (.int .i64 400)) w.heap.size (.string key) (.string ⟨#[]⟩) (.int .i64 (x : Int)) (.int .i64 400)) C A B := hDD.frg (put4D_fr (w5.setCell ⟨E, 3, none⟩ (.int .i64 400)) w.heap.size (.string key) (.string ⟨#[]⟩) (.int .i64 (x : Int)) (.int .i64 400)) (fun g e => by omega)
      have hFZ : Fr (fun g => g = C) w (put4D (w5.setCell ⟨E, 3, none⟩ (.int .i64 400)) w.heap.size (.string key) (.string ⟨#[]⟩) (.int .i64 (x : Int)) (.int .i64 400)) := hFF.up2 (put4D_fr (w5.setCell ⟨E, 3, none⟩ (.int .i64 400)) w.heap.size (.string key) (.string ⟨#[]⟩) (.int .i64 (x : Int)) (.int .i64 400)) (fun g e => by omega)
      go_wp2
      show bodyPost _ _ _ _ _ (put4D (w5.setCell ⟨E, 3, none⟩ (.int .i64 400)) w.heap.size (.string key) (.string ⟨#[]⟩) (.int .i64 (x : Int)) (.int .i64 400))
      clear r0 r1 r2 r3
      obtain ⟨r0, r1, r2, r3⟩ := box_four' HB
      refine bodyPost_ret (v := .agg #[.string key, .string ⟨#[]⟩, .int .i64 (x : Int), .int .i64 400]) (by simp [results, Try.results153, go_sem, r0, r1, r2, r3]) rfl ?_
      exact ⟨(key, ⟨#[]⟩, (x : Int), 400), rfl, ⟨by unfold maxLen; show key.size ≤ _; omega, Nat.zero_le _, fit_nat x (by omega), fit_nat 400 (by omega)⟩, ⟨rfl, by rw [Bool.or_eq_true]; right; simp [longB, inB]; omega⟩, hDZ, hFZ⟩
end Go.Proofs.Ytpiipnfhinbimac
