import Derived.Test.YtcjjbajmjfgbcaaGAA
import Derived.Test.YtcjjbajmjfgbcaaGAC
import Derived.Deep.RegionHeld3
import Derived.Deep.QuietTactic
import Derived.Lib.AppendStr
import Derived.Laws.BitsAll
import Derived.Laws.IdiomStrings
namespace Go.Proofs.Ytcjjbajmjfgbcaa
open Go.RowKit
set_option linter.unusedVariables false
set_option linter.unusedSimpArgs false
set_option maxRecDepth 100000
theorem owns_someD {w : World} {base e size n c : Nat} {a : Option Addr} {xs : List Value} (h : w.ownsRow base e size (.slice a n c) n xs) (hn : 0 < n) : ∃ g, a = some ⟨g, 0, none⟩ := by
 rcases h.2 with ⟨h0, h1⟩ | ⟨g, cap, cur, h0, _⟩
 ·omega
 ·injection h0 with h1; exact ⟨g, h1⟩
def DCur (w : World) (C A B : Nat) : Prop :=
 B ≤ C ∧ ∃ (a : Option Addr) (n c : Nat) (bs : List Int) (i : Nat) (h : Int), w.heap[C]? = some (.cells #[.slice a n c, .int .i64 i, .int .i64 h] 87) ∧ i ≤ n ∧ BytesAt w A B a n c bs
theorem and_255 (y : Int) : 0 ≤ bits .and .i64 y 255 ∧ bits .and .i64 y 255 ≤ 255 := by
 have h : bits .and .i64 y 255 = IntKind.i64.wrap ((BitVec.ofInt 64 y &&& BitVec.ofInt 64 255).toNat : Int) := rfl
 have h2 : (BitVec.ofInt 64 y &&& BitVec.ofInt 64 255).toNat ≤ 255 := by
  rw [BitVec.toNat_and]
  exact Nat.le_trans Nat.and_le_right (by decide)
 rw [h, IntKind.wrap_i64]
 omega
theorem box_three {w : World} {N : Nat} {v0 v1 v2 : Value} {t : TypeId} (h : w.heap[N]? = some (.cells #[v0, v1, v2] t)) : w.cell? ⟨N, 0, none⟩ = some v0 ∧ w.cell? ⟨N, 1, none⟩ = some v1 ∧ w.cell? ⟨N, 2, none⟩ = some v2 := by
 simp [World.cell?, h]
theorem box_thaw {w : World} {M t : Nat} {cs : Array Value} (h : w.heap[M]? = some (.cells cs t)) (j : Nat) : w.frozen? ⟨M, j, none⟩ = false := by simp [World.frozen?, h]
set_option maxHeartbeats 800000 in
theorem l1Byte_any (C A B : Nat) (w : World) (h : DCur w C A B) (hBw : B ≤ w.heap.size) :
  Calls Try.prog 35 #[.pointer (some ⟨C, 0, none⟩)] w fun e w' => ∃ x : Nat, e = .returned (.int .i64 x) ∧ x ≤ 255 ∧ DCur w' C A B ∧ Fr (fun g => g = C) w w' := by
 obtain ⟨hBC, a, n, c, bs, i, hh, hbox, hi, hb⟩ := h
 have hc := hb.2.2.1
 have hnc := hb.2.1
 unfold maxLen at hc
 have hCl := (Array.getElem?_eq_some_iff.1 hbox).1
 obtain ⟨c0, c1, c2⟩ := box_three hbox
 have ff := box_thaw hbox
 go_enter Try.func35, Try.ntmps35
 go_wp2_with fail
 have hbox1 : (w.setCell ⟨C, 2, none⟩ (.int .i64 (wrap64 (wrap64 (hh * 6364136223846793005) + 1442695040888963407)))).heap[C]? = some (.cells #[.slice a n c, .int .i64 i, .int .i64 (wrap64 (wrap64 (hh * 6364136223846793005) + 1442695040888963407))] 87) := by simp [World.setCell, Array.getElem?_modify, hbox]
 have hF1 : Fr (fun g => g = C) w (w.setCell ⟨C, 2, none⟩ (.int .i64 (wrap64 (wrap64 (hh * 6364136223846793005) + 1442695040888963407)))) := ⟨rfl, rfl, rfl, by simp [World.setCell], fun k _ hk => Below.heap_setCell w _ _ k hk⟩
 generalize w.setCell ⟨C, 2, none⟩ (.int .i64 (wrap64 (wrap64 (hh * 6364136223846793005) + 1442695040888963407))) = w1 at hbox1 hF1 ⊢
 generalize wrap64 (wrap64 (hh * 6364136223846793005) + 1442695040888963407) = h1 at hbox1
 have hb1 : BytesAt w1 A B a n c bs := hb.keep (fun k k1 k2 => hF1.block k (by omega) (by omega))
 clear c0 c1 c2 ff hb hbox
 obtain ⟨c0, c1, c2⟩ := box_three hbox1
 have ff := box_thaw hbox1
 go_quiet (fail)
 have hx := and_255 (bits .xor .i64 (h1 / 8589934592) (h1 / 35184372088832))
 generalize bits .and .i64 (bits .xor .i64 (h1 / 8589934592) (h1 / 35184372088832)) 255 = x0 at hx ⊢
 obtain ⟨x, rfl⟩ : ∃ x : Nat, x0 = (x : Int) := ⟨x0.toNat, by omega⟩
 have hbox2 : (w1.drewN nq).heap[C]? = some (.cells #[.slice a n c, .int .i64 i, .int .i64 h1] 87) := hbox1
 have hb2 : BytesAt (w1.drewN nq) A B a n c bs := hb1
 have hF2 : Fr (fun g => g = C) w (w1.drewN nq) := hF1.trans (Fr.of_below ⟨rfl, rfl, rfl, Nat.le_refl _, fun _ _ => rfl⟩)
 generalize w1.drewN nq = w2 at hbox2 hb2 hF2 ⊢
 clear c0 c1 c2 ff hbox1 hb1 hF1
 obtain ⟨c0, c1, c2⟩ := box_three hbox2
 have ff := box_thaw hbox2
 have hs2 := hF2.size
 by_cases hlt : i < n
 ·obtain ⟨g, o, rfl, hg, hcell⟩ := hb2.2.2.2.2.1 (by omega)
  have hgC : g ≠ C := by omega
  have e1 := hcell i hlt
  clear hcell
  go_wp2_with fail
  go_quiet (fail)
  have hboxb : (w2.drewN nq).heap[C]? = some (.cells #[.slice (some ⟨g, o, none⟩) n c, .int .i64 i, .int .i64 h1] 87) := hbox2
  have hbb : BytesAt (w2.drewN nq) A B (some ⟨g, o, none⟩) n c bs := hb2
  have hFb : Fr (fun g => g = C) w (w2.drewN nq) := hF2.trans (Fr.of_below ⟨rfl, rfl, rfl, Nat.le_refl _, fun _ _ => rfl⟩)
  have e2 : (w2.drewN nq).cell? ⟨g, o + i, none⟩ = some (.int .u8 (bs.getD i 0)) := e1
  generalize w2.drewN nq = wb at hboxb hbb hFb e2 ⊢
  clear c0 c1 c2 ff hbox2 hb2 hF2 e1
  obtain ⟨c0, c1, c2⟩ := box_three hboxb
  generalize bs.getD i 0 = y at e2
  go_wp2_with fail
  go_quiet (fail)
  have hz := and_255 (wrap64 ((x : Int) + wrap64 y))
  generalize bits .and .i64 (wrap64 ((x : Int) + wrap64 y)) 255 = z0 at hz ⊢
  obtain ⟨z, rfl⟩ : ∃ z : Nat, z0 = (z : Int) := ⟨z0.toNat, by omega⟩
  have hbox3 : (wb.drewN nq).heap[C]? = some (.cells #[.slice (some ⟨g, o, none⟩) n c, .int .i64 i, .int .i64 h1] 87) := hboxb
  have hb3 : BytesAt (wb.drewN nq) A B (some ⟨g, o, none⟩) n c bs := hbb
  have hF3 : Fr (fun g => g = C) w (wb.drewN nq) := hFb.trans (Fr.of_below ⟨rfl, rfl, rfl, Nat.le_refl _, fun _ _ => rfl⟩)
  generalize wb.drewN nq = w3 at hbox3 hb3 hF3 ⊢
  have hs3 := hF3.size
  clear c0 c1 c2 hboxb hbb hFb e2
  obtain ⟨c0, c1, c2⟩ := box_three hbox3
  have ff := box_thaw hbox3
  have hbox4 : (w3.setCell ⟨C, 1, none⟩ (.int .i64 ((i : Int) + 1))).heap[C]? = some (.cells #[.slice (some ⟨g, o, none⟩) n c, .int .i64 ((i : Int) + 1), .int .i64 h1] 87) := by simp [World.setCell, Array.getElem?_modify, hbox3]
  have hF4 : Fr (fun g => g = C) w3 (w3.setCell ⟨C, 1, none⟩ (.int .i64 ((i : Int) + 1))) := ⟨rfl, rfl, rfl, by simp [World.setCell], fun k _ hk => Below.heap_setCell w3 _ _ k hk⟩
  have hb4 : BytesAt (w3.setCell ⟨C, 1, none⟩ (.int .i64 ((i : Int) + 1))) A B (some ⟨g, o, none⟩) n c bs := hb3.keep (fun k k1 k2 => hF4.block k (by omega) (by omega))
  go_wp2
  go_ret
  exact ⟨z, rfl, by omega, ⟨hBC, _, n, c, bs, i + 1, h1, hbox4, by omega, hb4⟩, hF3.trans hF4⟩
 ·go_wp2_with fail
  go_quiet (fail)
  go_wp2
  go_ret
  exact ⟨x, rfl, by omega, ⟨hBC, a, n, c, bs, i, h1, hbox2, hi, hb2⟩, hF2.trans (Fr.of_below ⟨rfl, rfl, rfl, Nat.le_refl _, fun _ _ => rfl⟩)⟩
set_option maxHeartbeats 800000 in
theorem l1New_any (a : Option Addr) (n c : Nat) (bs : List Int) (w : World) (A B : Nat) (hB : B ≤ w.heap.size) (h : BytesAt w A B a n c bs) :
  Calls Try.prog 12 #[.slice a n c] w fun e w' => ∃ C, e = .returned (.pointer (some ⟨C, 0, none⟩)) ∧ w.heap.size ≤ C ∧ DCur w' C A B ∧ Below w.heap.size w w' := by
 have hc := h.2.2.1
 have hnc := h.2.1
 have hcell := h.2.2.2.2.1
 unfold maxLen at hc
 go_enter Try.func12, Try.ntmps12
 go_wp2
 go_loop [3, 4] (fun hv i => ∃ (k : Nat) (x : Int), k ≤ n ∧ i = .int .i64 k ∧ hv = .int .i64 x) (fun _ i => n - (intOf i).toNat)
 case atStart => exact ⟨0, _, Nat.zero_le _, rfl, rfl⟩
 case round =>
  obtain ⟨k, x, hk, rfl, rfl⟩ := hrel
  by_cases hlt : k < n
  ·obtain ⟨b, off, rfl, hb, hcb⟩ := hcell (by omega)
   have e1 := hcb k hlt
   clear hcell hcb
   go_wp2
   go_round
   case rel => exact ⟨k + 1, _, by omega, by go_num, rfl⟩
   case measure => simp [intOf]; omega
  ·clear hcell
   have hbox := heap_alloc_new w (.cells #[.slice a n c, .int .i64 0, .int .i64 x] 87)
   have hb1 : Below w.heap.size w (w.alloc (.cells #[.slice a n c, .int .i64 0, .int .i64 x] 87)) := (Below.refl _ _).alloc (Nat.le_refl _) _
   go_wp2
   go_ret
   exact ⟨w.heap.size, rfl, Nat.le_refl _, ⟨hB, a, n, c, bs, 0, x, hbox, Nat.zero_le _, h.below (hb1.mono hB)⟩, hb1⟩
theorem DCur.below {w w' : World} {C A B : Nat} (h : DCur w C A B) (hb : Below w.heap.size w w') : DCur w' C A B := by
 obtain ⟨hBC, a, n, c, bs, i, hh, hbox, hi, hby⟩ := h
 have hl := (Array.getElem?_eq_some_iff.1 hbox).1
 exact ⟨hBC, a, n, c, bs, i, hh, (hb.block C hl).trans hbox, hi, hby.below (hb.mono (by omega))⟩
theorem DCur.lt {w : World} {C A B : Nat} (h : DCur w C A B) : C < w.heap.size := by
 obtain ⟨hBC, a, n, c, bs, i, hh, hbox, hi, hby⟩ := h
 exact (Array.getElem?_eq_some_iff.1 hbox).1
theorem DCur.le {w : World} {C A B : Nat} (h : DCur w C A B) : B ≤ w.heap.size := Nat.le_of_lt (Nat.lt_of_le_of_lt h.1 h.lt)
def DPost (C A B : Nat) (w w' : World) : Prop := DCur w' C A B ∧ Fr (fun g => g = C) w w'
set_option maxHeartbeats 800000 in
theorem l1Below_any (C A B : Nat) (w : World) (h : DCur w C A B) (m : Int) (h1 : 1 ≤ m) (h2 : m ≤ 4294967296) :
  Calls Try.prog 13 #[.pointer (some ⟨C, 0, none⟩), .int .i64 m] w fun e w' => ∃ x : Nat, e = .returned (.int .i64 x) ∧ (x : Int) < m ∧ DCur w' C A B ∧ Fr (fun g => g = C) w w' := by
 go_enter Try.func13, Try.ntmps13
 have hm0 : m ≠ 0 := by omega
 by_cases hm : m ≤ 256
 ·go_wp2_with fail
  refine (l1Byte_any C A B w h h.le).mono ?_
  rintro e w1 ⟨x, rfl, hx, hD, hF⟩
  go_wp2
  obtain ⟨r, hr⟩ : ∃ r : Nat, (x : Int) % m = (r : Int) := ⟨((x : Int) % m).toNat, (Int.toNat_of_nonneg (Int.emod_nonneg _ hm0)).symm⟩
  have hlt := Int.emod_lt_of_pos (x : Int) (show 0 < m by omega)
  rw [hr] at hlt ⊢
  go_ret
  exact ⟨r, rfl, hlt, hD, hF⟩
 ·go_wp2_with fail
  refine (l1Byte_any C A B w h h.le).mono ?_
  rintro e w1 ⟨x, rfl, hx, hD1, hF1⟩
  go_wp2_with fail
  refine (l1Byte_any C A B w1 hD1 hD1.le).mono ?_
  rintro e w2 ⟨y, rfl, hy, hD2, hF2⟩
  go_wp2_with fail
  refine (l1Byte_any C A B w2 hD2 hD2.le).mono ?_
  rintro e w3 ⟨z, rfl, hz, hD3, hF3⟩
  go_wp2
  obtain ⟨r, hr⟩ : ∃ r : Nat, ((x : Int) * 65536 + (y : Int) * 256 + (z : Int)) % m = (r : Int) := ⟨(((x : Int) * 65536 + (y : Int) * 256 + (z : Int)) % m).toNat, (Int.toNat_of_nonneg (Int.emod_nonneg _ hm0)).symm⟩
  have hlt := Int.emod_lt_of_pos ((x : Int) * 65536 + (y : Int) * 256 + (z : Int)) (show 0 < m by omega)
  rw [hr] at hlt ⊢
  go_ret
  exact ⟨r, rfl, hlt, hD3, (hF1.trans hF2).trans hF3⟩
theorem l1Once_any (C A B : Nat) (w : World) (h : DCur w C A B) (m : Int) (h1 : 1 ≤ m) (h2 : m ≤ 4294967296) :
  Calls Try.prog 14 #[.pointer (some ⟨C, 0, none⟩), .int .i64 m] w fun e w' => ∃ b : Bool, e = .returned (.bool b) ∧ DCur w' C A B ∧ Fr (fun g => g = C) w w' := by
 go_enter Try.func14, Try.ntmps14
 go_wp2_with fail
 refine (l1Below_any C A B w h m h1 h2).mono ?_
 rintro e w1 ⟨x, rfl, hx, hD, hF⟩
 go_wp2
 go_ret
 exact ⟨_, rfl, hD, hF⟩
def strB (s : ByteArray) : List Int := s.data.toList.map fun b => (b.toNat : Int)
theorem strB_len (s : ByteArray) : (strB s).length = s.size := by simp [strB]
theorem strB_byte (s : ByteArray) : ∀ x ∈ strB s, 0 ≤ x ∧ x ≤ 255 := by
 intro x hx
 simp only [strB, List.mem_map] at hx
 obtain ⟨b, _, rfl⟩ := hx
 have := b.toNat_lt
 omega
theorem u8s_strB (s : ByteArray) : u8s (strB s) = Lib.strCells s := by simp [u8s, strB, Lib.strCells]
theorem u8s_append (a b : List Int) : u8s (a ++ b) = u8s a ++ u8s b := by simp [u8s]
theorem wpList_as {w : World} {ops : Array Oper} {rest : List Oper} {o : Oper} {a : Act} {Q : Exit → Act → World → Prop} (hgd : o.guard = none) (s x : Operand)
  (ho : o.op = .call { callee := .builtin .append, args := #[s, x], argTypes := #[22, 9] })
  (base : Nat) (v : Value) (n : Nat) (bs : List Int) (hs : a.eval s = v) (hown : w.ownsRow base 5 1 v n (u8s bs))
  (t : ByteArray) (hx : a.eval x = .string t) (hnm : n + t.size ≤ 1073741824) (hbase : base ≤ w.heap.size)
  (h : ∀ v' w', w'.ownsRow base 5 1 v' (n + t.size) (u8s (bs ++ strB t)) → w.grownBy w' v.ownBlock → wpList Try.prog ops Q rest (a.put o.dst v') w') : wpList Try.prog ops Q (o :: rest) a w := by
 obtain ⟨i0, hi, hz0, hz1, hz2⟩ := info_parts info_u8
 refine Lib.wpList_append_own_string w hgd s x 22 9 ho base 5 i0 Try.underlying22 Try.underlying9 hi hz0 hz1 hz2 v n (u8s bs) hs hown t hx (by unfold maxLen; omega) (by omega) hbase ?_
 intro v' w' h1 h2 _
 rw [← u8s_strB, ← u8s_append] at h1
 exact h v' w' h1 h2
def toB (bs : List Int) : ByteArray := ⟨(bs.map fun x => UInt8.ofNat x.toNat).toArray⟩
theorem toB_size (bs : List Int) : (toB bs).size = bs.length := by simp [toB, ByteArray.size]
theorem str_conv {w : World} {A B : Nat} {a : Option Addr} {n c : Nat} {bs : List Int} (h : BytesAt w A B a n c bs) : (convert 22 9 (.slice a n c)).run Try.prog w = .ok (.string (toB bs)) w := by
 obtain ⟨hl, hnc, hc, hw, hcell, hnil⟩ := h
 rcases a with _ | a
 ·have hn : n = 0 := by
   by_cases h0 : n = 0
   ·exact h0
   ·obtain ⟨_, _, h1, _⟩ := hcell (by omega); cases h1
  subst hn
  have hc0 := hnil rfl
  subst hc0
  have hb : bs = [] := List.eq_nil_of_length_eq_zero hl
  subst hb
  rw [run_convert_bytes_string (P := Try.prog) w _ _ 5 none 0 0 Try.underlying22 Try.underlying5 Try.underlying9]
  rfl
 ·subst hl
  have h1 := run_convert_bytes_back (P := Try.prog) w 22 9 5 a c (bs.map fun x => UInt8.ofNat x.toNat) Try.underlying22 Try.underlying5 Try.underlying9 ?_
  ·simpa [toB] using h1
  ·intro j hj
   simp at hj
   obtain ⟨b, off, e1, e2, e3⟩ := hcell (by omega)
   cases e1
   have h5 : (⟨b, off, none⟩ : Addr).add j = ⟨b, off + j, none⟩ := by simp [Addr.add]
   rw [h5, e3 j hj]
   have hx := hw (bs[j]) (List.getElem_mem hj)
   simp [List.getD, hj, UInt8.toNat_ofNat']
   omega
set_option maxHeartbeats 800000 in
theorem l1Many_any (s : ByteArray) (hs : s.size ≤ 16) (n : Nat) (hn : n ≤ 1000) (w : World) :
  Calls Try.prog 16 #[.string s, .int .i64 n] w fun e w' => ∃ t : ByteArray, e = .returned (.string t) ∧ t.size = s.size * n ∧ Below w.heap.size w w' := by
 go_enter Try.func16, Try.ntmps16
 go_wp2_with fail
 have hb0 : Below w.heap.size w (w.alloc (.cells #[] 5)) := (Below.refl _ _).alloc (Nat.le_refl _) _
 have hw0 : (w.alloc (.cells #[] 5)).ownsRow w.heap.size 5 1 (.slice (some ⟨w.heap.size, 0, none⟩) 0 0) 0 (u8s []) := by
  have := World.ownsRow_made w #[] (base := w.heap.size) (e := 5) (size := 1) 0 (by simp) (by unfold maxLen; omega) (by simp)
  simpa [u8s] using this
 go_loopw [5, 6] (fun v i wr => ∃ (k : Nat) (a : Option Addr) (c : Nat) (l : List Int), k ≤ n ∧ i = .int .i64 k ∧ l.length = s.size * k ∧ (∀ x ∈ l, 0 ≤ x ∧ x ≤ 255) ∧ v = .slice a (s.size * k) c ∧ wr.ownsRow w.heap.size 5 1 (.slice a (s.size * k) c) (s.size * k) (u8s l) ∧ Below w.heap.size w wr) (fun _ i _ => n - (intOf i).toNat)
 case atStart => exact ⟨0, some ⟨w.heap.size, 0, none⟩, 0, [], Nat.zero_le _, rfl, by simp, (by intro x hx; cases hx), rfl, hw0, hb0⟩
 case round =>
  clear hw0 hb0
  obtain ⟨k, a, c, l, hk, rfl, hl, hlb, rfl, hown, hbel⟩ := hrel
  have hm : s.size * k ≤ 16 * 1000 := Nat.mul_le_mul hs (by omega)
  have HL : Hid (l.length = s.size * k) := hl
  clear hl
  generalize hmk : s.size * k = m at hm HL hown ⊢
  have HM : Hid (s.size * k = m) := hmk
  clear hmk
  by_cases hlt : k < n
  ·have hsz := hbel.size
   go_wp2_with (at_builtin; refine wpList_as rfl _ _ rfl w.heap.size _ m l rfl hown s rfl (by omega) (by omega) ?_; intro v' w1 hown1 hgr)
   obtain ⟨a', c', rfl⟩ := own_shape hown1
   have hb2 := hbel.grown hgr (by omega) (fun g hg => (hown.lt g hg).1)
   have hE : s.size * (k + 1) = m + s.size := by rw [Nat.mul_succ, HM.out]
   have HE : Hid (s.size * (k + 1) = m + s.size) := hE
   have HL2 : Hid ((l ++ strB s).length = s.size * (k + 1)) := by show _ = _; rw [List.length_append, strB_len, HL.out, hE]
   have HB2 : Hid (∀ x ∈ l ++ strB s, 0 ≤ x ∧ x ≤ 255) := by intro x hx; rcases List.mem_append.1 hx with h | h; exact hlb x h; exact strB_byte s x h
   clear hgr hown hE
   go_roundw
   case rel => exact ⟨k + 1, a', c', l ++ strB s, by omega, by go_num, HL2.out, HB2.out, by rw [HE.out], by rw [HE.out]; exact hown1, hb2⟩
   case measure => simp [intOf]; omega
  ·have hkn : k = n := by omega
   subst hkn
   have hlen := HL.out
   have hB : BytesAt wr w.heap.size wr.heap.size a m c l := by
    have := bytesAt_of_own (v := .slice a m c) (bs := l) (by rw [hlen]; exact hown) hlb
    obtain ⟨a2, n2, c2, e, hB⟩ := this
    cases e
    exact hB
   have sc := str_conv hB
   clear hown HL
   go_wp2
   go_ret
   exact ⟨_, rfl, by rw [toB_size, hlen, HM.out], hbel⟩
theorem DCur.frg {w w' : World} {C A B : Nat} {S : Nat → Prop} (h : DCur w C A B) (hf : Fr S w w') (hS : ∀ g, S g → C < g) : DCur w' C A B := by
 obtain ⟨hBC, a, n, c, bs, i, hh, hbox, hi, hby⟩ := h
 have hl := (Array.getElem?_eq_some_iff.1 hbox).1
 exact ⟨hBC, a, n, c, bs, i, hh, (hf.block C hl (fun e => by have := hS _ e; omega)).trans hbox, hi, hby.keep (fun k k1 k2 => hf.block k (by omega) (fun e => by have := hS _ e; omega))⟩
theorem Fr.up2 {S T : Nat → Prop} {a b c : World} (h : Fr S a b) (k : Fr T b c) (hT : ∀ g, T g → a.heap.size ≤ g) : Fr S a c :=
 ⟨k.1.trans h.1, k.2.trans h.2, k.3.trans h.3, Nat.le_trans h.size k.size, fun g hg hS => (k.block g (Nat.lt_of_lt_of_le hg h.size) (fun e => by have := hT g e; omega)).trans (h.block g hg hS)⟩
theorem bytes_new1 (w : World) (y : Int) (h : 0 ≤ y ∧ y ≤ 255) : BytesAt (w.alloc (.cells #[.int .u8 y] 5)) w.heap.size (w.heap.size + 1) (some ⟨w.heap.size, 0, none⟩) 1 1 [y] := by
 refine ⟨rfl, Nat.le_refl _, by unfold maxLen; omega, fun z hz => by simp at hz; omega, fun _ => ⟨w.heap.size, 0, rfl, ⟨Nat.le_refl _, by omega⟩, fun i hi => ?_⟩, fun e => by cases e⟩
 obtain rfl : i = 0 := by omega
 have h9 := heap_alloc_new w (.cells #[.int .u8 y] 5)
 unfold World.cell?
 rw [h9]
 rfl
theorem bytes_new2 (w : World) (y z : Int) (h : 0 ≤ y ∧ y ≤ 255) (h2 : 0 ≤ z ∧ z ≤ 255) : BytesAt (w.alloc (.cells #[.int .u8 y, .int .u8 z] 5)) w.heap.size (w.heap.size + 1) (some ⟨w.heap.size, 0, none⟩) 2 2 [y, z] := by
 refine ⟨rfl, Nat.le_refl _, by unfold maxLen; omega, fun x hx => by simp at hx; omega, fun _ => ⟨w.heap.size, 0, rfl, ⟨Nat.le_refl _, by omega⟩, fun i hi => ?_⟩, fun e => by cases e⟩
 have h3 : i = 0 ∨ i = 1 := by omega
 rcases h3 with rfl | rfl
 all_goals
  have h9 := heap_alloc_new w (.cells #[.int .u8 y, .int .u8 z] 5)
  unfold World.cell?
  rw [h9]
  rfl
set_option maxHeartbeats 3200000 in
theorem l2Val_any (C A B : Nat) (w : World) (h : DCur w C A B) :
  Calls Try.prog 36 #[.pointer (some ⟨C, 0, none⟩)] w fun e w' => ∃ t : ByteArray, e = .returned (.string t) ∧ t.size ≤ 400 ∧ DCur w' C A B ∧ Fr (fun g => g = C) w w' := by
 go_enter Try.func36, Try.ntmps36
 go_wp2_with fail
 refine (l1Below_any C A B w h 8 (by omega) (by omega)).mono ?_
 rintro e w1 ⟨k, rfl, hk, hD1, hF1⟩
 go_wp2_with fail
 refine (l1Below_any C A B w1 hD1 26 (by omega) (by omega)).mono ?_
 rintro e w2 ⟨x, rfl, hx, hD2, hF2⟩
 go_wp2_with fail
 refine (l1Below_any C A B w2 hD2 8 (by omega) (by omega)).mono ?_
 rintro e w3 ⟨m, rfl, hm, hD3, hF3⟩
 have hF := (hF1.trans hF2).trans hF3
 clear hF1 hF2 hF3 hD1 hD2 h
 by_cases hk0 : k = 0
 ·subst hk0
  go_wp2_with fail
  refine (l1Below_any C A B w3 hD3 3 (by omega) (by omega)).mono ?_
  rintro e w4 ⟨y, rfl, hy, hD4, hF4⟩
  have hFF := hF.trans hF4
  clear hF4 hD3 hF
  have hal := heap_alloc_new w4 (.cells #[.int .u8 (97 + (x : Int))] 5)
  have b5 : Below w4.heap.size w4 (w4.alloc (.cells #[.int .u8 (97 + (x : Int))] 5)) := (Below.refl _ _).alloc (Nat.le_refl _) _
  have sc := str_conv (bytes_new1 w4 (97 + (x : Int)) (by omega))
  have hD5 := DCur.below hD4 b5
  have hF5 := Fr.trans hFF (Fr.of_below b5)
  clear hal b5
  go_wp2_with fail
  rw [show (8 : Int) + (y : Int) = ((8 + y : Nat) : Int) by omega]
  refine (l1Many_any (toB [97 + (x : Int)]) (by rw [toB_size]; simp) (8 + y) (by omega) _).mono ?_
  rintro e w6 ⟨t, rfl, ht, hb6⟩
  have ht4 : t.size ≤ 400 := by rw [ht, toB_size]; show 1 * _ ≤ 400; omega
  have hD6 := hD5.below hb6
  have hF6 := hF5.trans (Fr.of_below hb6)
  clear ht sc hD5 hF5 hb6
  go_wp2_with fail
  go_ret
  exact ⟨t, rfl, ht4, hD6, hF6⟩
 ·have n0 : ((k : Int) == 0) = false := by simp; omega
  by_cases hk1 : k = 1
  ·subst hk1
   go_wp2_with fail
   refine (l1Below_any C A B w3 hD3 3 (by omega) (by omega)).mono ?_
   rintro e w4 ⟨y, rfl, hy, hD4, hF4⟩
   go_wp2_with fail
   refine (l1Below_any C A B w4 hD4 3 (by omega) (by omega)).mono ?_
   rintro e w5 ⟨z, rfl, hz, hD5, hF5⟩
   have hFF := (hF.trans hF4).trans hF5
   clear hF4 hD3 hF hF5 hD4
   have hcast : 96 * (1 + (y : Int)) + (z : Int) - 1 = ((96 * (1 + y) + z - 1 : Nat) : Int) := by omega
   have hal := heap_alloc_new w5 (.cells #[.int .u8 (97 + (x : Int))] 5)
   have b5 : Below w5.heap.size w5 (w5.alloc (.cells #[.int .u8 (97 + (x : Int))] 5)) := (Below.refl _ _).alloc (Nat.le_refl _) _
   have sc := str_conv (bytes_new1 w5 (97 + (x : Int)) (by omega))
   have hDx := DCur.below hD5 b5
   have hF5 := Fr.trans hFF (Fr.of_below b5)
   clear hal b5
   go_wp2_with fail
   refine (l1Many_any (toB [97 + (x : Int)]) (by rw [toB_size]; simp) (96 * (1 + y) + z - 1) (by omega) _).mono ?_
   rintro e w6 ⟨t, rfl, ht, hb6⟩
   have ht4 : t.size ≤ 400 := by rw [ht, toB_size]; show 1 * _ ≤ 400; omega
   have hD6 := hDx.below hb6
   have hF6 := hF5.trans (Fr.of_below hb6)
   clear ht sc hDx hF5 hb6
   go_wp2_with fail
   go_ret
   exact ⟨t, rfl, ht4, hD6, hF6⟩
  ·have n1 : ((k : Int) == 1) = false := by simp; omega
   by_cases hk2 : k = 2
   ·subst hk2
    go_wp2_with fail
    refine (l1Once_any C A B w3 hD3 6 (by omega) (by omega)).mono ?_
    rintro e w4 ⟨b, rfl, hD4, hF4⟩
    have hFF := hF.trans hF4
    clear hF4 hD3 hF
    cases b
    ·have hal := heap_alloc_new w4 (.cells #[.int .u8 (97 + (x : Int))] 5)
     have b5 : Below w4.heap.size w4 (w4.alloc (.cells #[.int .u8 (97 + (x : Int))] 5)) := (Below.refl _ _).alloc (Nat.le_refl _) _
     have sc := str_conv (bytes_new1 w4 (97 + (x : Int)) (by omega))
     have hD5 := DCur.below hD4 b5
     have hF5 := Fr.trans hFF (Fr.of_below b5)
     clear hal b5
     go_wp2_with fail
     refine (l1Many_any (toB [97 + (x : Int)]) (by rw [toB_size]; simp) m (by omega) _).mono ?_
     rintro e w6 ⟨t, rfl, ht, hb6⟩
     have ht4 : t.size ≤ 400 := by rw [ht, toB_size]; show 1 * _ ≤ 400; omega
     have hD6 := hD5.below hb6
     have hF6 := hF5.trans (Fr.of_below hb6)
     clear ht sc hD5 hF5 hb6
     go_wp2_with fail
     go_ret
     exact ⟨t, rfl, ht4, hD6, hF6⟩
    ·have hal := heap_alloc_new w4 (.cells #[.int .u8 (97 + (x : Int))] 5)
     have b5 : Below w4.heap.size w4 (w4.alloc (.cells #[.int .u8 (97 + (x : Int))] 5)) := (Below.refl _ _).alloc (Nat.le_refl _) _
     have sc := str_conv (bytes_new1 w4 (97 + (x : Int)) (by omega))
     have hD5 := DCur.below hD4 b5
     have hF5 := Fr.trans hFF (Fr.of_below b5)
     clear hal b5
     go_wp2_with fail
     refine (l1Many_any (toB [97 + (x : Int)]) (by rw [toB_size]; simp) 400 (by omega) _).mono ?_
     rintro e w6 ⟨t, rfl, ht, hb6⟩
     have ht4 : t.size ≤ 400 := by rw [ht, toB_size]; show 1 * _ ≤ 400; omega
     have hD6 := hD5.below hb6
     have hF6 := hF5.trans (Fr.of_below hb6)
     clear ht sc hD5 hF5 hb6
     go_wp2_with fail
     go_ret
     exact ⟨t, rfl, ht4, hD6, hF6⟩
   ·have n2 : ((k : Int) == 2) = false := by simp; omega
    have hal := heap_alloc_new w3 (.cells #[.int .u8 (97 + (x : Int))] 5)
    have b5 : Below w3.heap.size w3 (w3.alloc (.cells #[.int .u8 (97 + (x : Int))] 5)) := (Below.refl _ _).alloc (Nat.le_refl _) _
    have sc := str_conv (bytes_new1 w3 (97 + (x : Int)) (by omega))
    have hD5 := DCur.below hD3 b5
    have hF5 := Fr.trans hF (Fr.of_below b5)
    clear hal b5
    go_wp2_with fail
    refine (l1Many_any (toB [97 + (x : Int)]) (by rw [toB_size]; simp) m (by omega) _).mono ?_
    rintro e w6 ⟨t, rfl, ht, hb6⟩
    have ht4 : t.size ≤ 400 := by rw [ht, toB_size]; show 1 * _ ≤ 400; omega
    have hD6 := hD5.below hb6
    have hF6 := hF5.trans (Fr.of_below hb6)
    clear ht sc hD5 hF5 hb6
    go_wp2_with fail
    go_ret
    exact ⟨t, rfl, ht4, hD6, hF6⟩
end Go.Proofs.Ytcjjbajmjfgbcaa
