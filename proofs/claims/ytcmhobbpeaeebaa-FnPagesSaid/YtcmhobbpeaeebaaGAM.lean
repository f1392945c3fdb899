import Derived.Test.YtcmhobbpeaeebaaGAD
import Derived.Test.YtcmhobbpeaeebaaGAH
namespace Go.Proofs.Ytcmhobbpeaeebaa
open Go.RowKit
set_option linter.unusedVariables false
set_option maxRecDepth 100000

set_option maxHeartbeats 800000 in
theorem putHigh_any (C G k pf gf : Nat) (old : Bool) (L : List Int) (x : Int) (hx : I64 x) (n : Nat) (hn : n ≤ 8) (w : World) (h : Cur w C G old pf gf k L) (hk : k + n ≤ 128) :
    Calls Try.prog 85 #[.pointer (some ⟨C, 0, none⟩), .int .i64 x, .int .i64 n] w fun e w' => e = .returned (.tuple #[]) ∧ Wrote w w' C G old pf gf k L (beB n x) := by
  go_enter Try.func85, Try.ntmps85
  go_wp2_with fail
  go_loopw [8] (fun iv wr => ∃ i : Nat, i ≤ n ∧ iv = .int .i64 i ∧ Hid (Wrote w wr C G old pf gf k L ((beB n x).take i))) (fun iv _ => n - (intOf iv).toNat)
  case atStart => exact ⟨0, Nat.zero_le _, rfl, by show Wrote _ _ _ _ _ _ _ _ _ _; simpa using wrote_nil h⟩
  case round =>
    obtain ⟨i, hi, rfl, HW⟩ := hrel
    by_cases hlt : i < n
    · have HS : Hid ((beB n x).take (i + 1) = (beB n x).take i ++ [x / 2 ^ (8 * (n - 1 - i)) % 256]) := beB_take x hlt
      have hc := HW.out.1
      have hll : ((beB n x).take i).length = i := by simp [beB_len]; omega
      rw [hll] at hc
      go_wp2_with fail
      refine (putByte_any C G (k + i) pf gf old _ (x / 2 ^ (8 * (n - 1 - i)) % 256) wr hc (by omega)).mono ?_
      rintro e w1 ⟨rfl, hw1⟩
      have R : Hid (Wrote w w1 C G old pf gf k L ((beB n x).take (i + 1))) := by
        show Wrote _ _ _ _ _ _ _ _ _ _
        rw [HS.out]
        exact HW.out.trans (by rw [hll, h.len]; omega) (by rw [hll]; exact hw1)
      clear hw1 hc HW
      go_wp2
      go_roundw
      case rel => exact ⟨i + 1, by omega, by go_num, R⟩
      case measure => simp [intOf]; omega
    · go_wp2
      go_end0
      have := HW.out
      rw [List.take_of_length_le (by rw [beB_len]; omega)] at this
      exact ⟨rfl, this⟩
theorem putHigh_num (C G gf : Nat) : PutNum C G true 85 gf := fun k L x n w hx hn h hk => putHigh_any C G k _ gf true L x hx n hn w h hk
end Go.Proofs.Ytcmhobbpeaeebaa
namespace Go.Proofs.Ytcmhobbpeaeebaa
namespace Old
open Go.RowKit
/-- The cursor's way of writing numbers. -/
theorem Put (C G : Nat) : ∀ (k : Nat) (L : List Int) (x : Int) (n : Nat) (w : World), I64 x → n ≤ 8 → Cur w C G true 85 86 k L → k + n ≤ 128 →
    Calls Try.prog 85 #[.pointer (some ⟨C, 0, none⟩), .int .i64 x, .int .i64 n] w fun e w' => e = .returned (.tuple #[]) ∧ Wrote w w' C G true 85 86 k L (numB true n x) :=
  fun k L x n w hx hn h hk => putHigh_any C G k _ _ true L x hx n hn w h hk
end Old
end Go.Proofs.Ytcmhobbpeaeebaa
namespace Go.Proofs.Ytcmhobbpeaeebaa
namespace Old
open Go.RowKit
set_option linter.unusedVariables false
set_option maxRecDepth 100000

set_option maxHeartbeats 800000 in
theorem putSmall_any (C G k : Nat) (L : List Int) (x : Int) (hx : I64 x) (w : World) (h : Cur w C G true 85 86 k L) (hk : k + 4 ≤ 128) :
    Calls Try.prog 124 #[.pointer (some ⟨C, 0, none⟩), .int .i64 x] w fun e w' => e = .returned (.tuple #[]) ∧ Wrote w w' C G true 85 86 k L (numB true (smallN true) x) := by
  obtain ⟨e0, e1, e2, e3, e4⟩ := h.cells
  have hsm := smallN_le true
  go_enter Try.func124, Try.ntmps124
  go_wp2_with fail
  go_region_held3 (fun w' => w'.cell? ⟨C, 3, none⟩ = some (.func (.func 85) #[.pointer (some ⟨C, 0, none⟩)] #[])) (go_keep)
    (first
      | (go_at_call 125; refine (smallWidth_any C G k 85 86 true L w.drew h.drew).mono ?_; rintro e w1 ⟨rfl, rfl⟩)
      | (go_at_call 85; refine (Put C G k L x (smallN true) w.drew hx (by omega) h.drew (by omega)).mono ?_; rintro e w2 ⟨rfl, hW⟩; obtain ⟨_, _, _, q3, _⟩ := hW.1.cells))
  go_wp2
  go_end0
  exact ⟨rfl, hW.1, (Fr.of_below (Below.refl _ _).drew).trans hW.2⟩
end Old
end Go.Proofs.Ytcmhobbpeaeebaa
namespace Go.Proofs.Ytcmhobbpeaeebaa
namespace Old
open Go.RowKit
set_option linter.unusedVariables false
set_option maxRecDepth 100000

theorem numB_one (old : Bool) (x : Int) (h : 0 ≤ x ∧ x ≤ 255) : numB old 1 x = [x] := by
  have : x % 256 = x := by omega
  cases old <;> simp [numB, beB, leB, this]

set_option maxHeartbeats 800000 in
theorem putText_any (C G k : Nat) (L : List Int) (s : ByteArray) (w : World) (h : Cur w C G true 85 86 k L) (hk : k + s.size + 1 < 128) :
    Calls Try.prog 133 #[.pointer (some ⟨C, 0, none⟩), .string s] w fun e w' => e = .returned (.tuple #[]) ∧ Wrote w w' C G true 85 86 k L (textB s) := by
  obtain ⟨e0, e1, e2, e3, e4⟩ := h.cells
  go_enter Try.func133, Try.ntmps133
  go_wp2_with fail
  refine (Put C G k L (s.size : Int) 1 w (by unfold I64; omega) (by omega) h (by omega)).mono ?_
  rintro e w1 ⟨rfl, hW1⟩
  rw [numB_one _ _ (by omega)] at hW1
  clear e0 e1 e2 e3 e4
  go_wp2_with fail
  refine (putLetters_any C G (k + 1) _ _ _ (lay L k [(s.size : Int)]) s w1 hW1.1 (by omega) (by omega)).mono ?_
  rintro e w2 ⟨rfl, hW2⟩
  have hl := h.len
  have R : Hid (Wrote w w2 C G true 85 86 k L (textB s)) := hW1.trans (by simp [hl]; omega) hW2
  clear hW1 hW2 h
  go_wp2
  go_end0
  exact ⟨rfl, R.out⟩

theorem Wrote.skip {w w' : World} {C G k pf gf : Nat} {old : Bool} {L bs : List Int} (h : Wrote w w' C G old pf gf k L bs) (z : Nat) (hz : (L.drop (k + bs.length)).take z = List.replicate z 0) : Wrote w (w'.setCell ⟨C, 1, none⟩ (.int .i64 ((k + bs.length + z : Nat) : Int))) C G old pf gf k L (bs ++ List.replicate z 0) := by
  refine ⟨?_, fr_setB h.2 (.inl rfl) _⟩
  have key : L.drop (k + bs.length) = List.replicate z 0 ++ L.drop (k + bs.length + z) := by
    rw [← hz]
    have := (List.take_append_drop z (L.drop (k + bs.length))).symm
    rw [List.drop_drop] at this
    exact this
  have e : lay L k (bs ++ List.replicate z 0) = lay L k bs := by
    unfold lay
    rw [key, List.length_append, List.length_replicate, ← Nat.add_assoc]
    simp only [List.append_assoc]
  rw [e, List.length_append, List.length_replicate, ← Nat.add_assoc]
  exact h.1.move _

set_option maxHeartbeats 800000 in
theorem putKey_any (C G k : Nat) (L : List Int) (s : ByteArray) (w : World) (h : Cur w C G true 85 86 k L) (hs : s.size ≤ 8) (hk : k + 10 < 128) (hz : (L.drop (k + (s.size + 1))).take (8 - s.size) = List.replicate (8 - s.size) 0) :
    Calls Try.prog 140 #[.pointer (some ⟨C, 0, none⟩), .string s] w fun e w' => e = .returned (.tuple #[]) ∧ Wrote w w' C G true 85 86 k L (textB s ++ (if true then List.replicate (8 - s.size) 0 else [])) := by
  go_enter Try.func140, Try.ntmps140
  go_wp2_with fail
  refine (putText_any C G k L s w h (by omega)).mono ?_
  rintro e w1 ⟨rfl, hW1⟩
  obtain ⟨e0, e1, e2, e3, e4⟩ := hW1.1.cells
  have hfC : ∀ o, w1.frozen? ⟨C, o, none⟩ = false := by intro o; simp [World.frozen?, hW1.1.box]
  have HL : Hid ((textB s).length = s.size + 1) := textB_len s
  have HW : Hid (Wrote w w1 C G true 85 86 k L (textB s)) := hW1
  rw [HL.out] at e1
  clear hW1
  go_wp2
  go_end0
  refine ⟨rfl, ?_⟩
  first
    | (have R := Wrote.skip HW.out (8 - s.size) (by rw [HL.out]; exact hz)
       rw [HL.out, show ((k + (s.size + 1) + (8 - s.size) : Nat) : Int) = (k : Int) + ((s.size : Int) + 1) + (8 - (s.size : Int)) by omega] at R
       exact R)
    | (have R := HW.out
       simpa using R)
set_option maxHeartbeats 800000 in
theorem sumBytes_any (a : Option Addr) (n c : Nat) (bs : List Int) (w : World) (A B : Nat) (h : BytesAt w A B a n c bs) (hn : n ≤ 128) :
    Calls Try.prog 71 #[.slice a n c] w fun e w' => e = .returned (.int .i64 (sumI bs)) ∧ w' = w := by
  obtain ⟨hl, hnc, hcm, hw, hcell, _⟩ := h
  have HL : Hid (bs.length = n) := hl
  clear hl
  go_enter Try.func71, Try.ntmps71
  go_wp2_with fail
  go_loopw [3, 8] (fun sv iv wr => ∃ i : Nat, i ≤ n ∧ iv = .int .i64 i ∧ wr = w ∧ ∃ y : Int, sv = .int .i64 y ∧ (0 ≤ y ∧ y ≤ 255 * i) ∧ Hid (y = sumI (bs.take i))) (fun _ iv _ => n - (intOf iv).toNat)
  case atStart => exact ⟨0, Nat.zero_le _, rfl, rfl, 0, rfl, by simp, rfl⟩
  case round =>
    obtain ⟨i, hi, rfl, rfl, y, rfl, hy, HY⟩ := hrel
    by_cases hlt : i < n
    · obtain ⟨b, off, rfl, hb, hcb⟩ := hcell (by omega)
      have e1 := hcb i hlt
      have hx := getD_byteB hw i
      have HS : Hid (y + bs.getD i 0 = sumI (bs.take (i + 1))) := by show _ = _; rw [sumI_take (by have := HL.out; omega), ← HY.out]
      generalize bs.getD i 0 = x at e1 hx HS
      clear hcell hcb
      go_wp2
      go_roundw
      case rel => exact ⟨i + 1, by omega, by go_num, trivial, y + x, by go_num, by omega, HS⟩
      case measure => simp [intOf]; omega
    · have HE : Hid (y = sumI bs) := by show _ = _; rw [HY.out, List.take_of_length_le (by have := HL.out; omega)]
      go_wp2
      go_ret
      rw [← HE.out]
      exact ⟨rfl, rfl⟩
end Old
end Go.Proofs.Ytcmhobbpeaeebaa
namespace Go.Proofs.Ytcmhobbpeaeebaa
namespace Old
open Go.RowKit
set_option linter.unusedVariables false
set_option maxRecDepth 100000

/-- A block that is neither the cursor's nor its bytes' stays. -/
theorem wrote_box {w w' : World} {C G k pf gf M : Nat} {old : Bool} {L bs : List Int} {o : Obj} (h : Wrote w w' C G old pf gf k L bs) (hM : w.heap[M]? = some o) (h1 : M ≠ C) (h2 : M ≠ G) : w'.heap[M]? = some o :=
  (h.2.block M (Array.getElem?_eq_some_iff.1 hM).1 (fun e => by rcases e with e | e <;> contradiction)).trans hM

set_option maxHeartbeats 800000 in
theorem metaWrite_any (C G k M : Nat) (L : List Int) (p : Pg) (hi : I64 p.id) (hr : I64 p.root) (hc : I64 p.count) (w : World) (h : Cur w C G true 85 86 k L) (hk : k + 20 < 128) (hM : w.heap[M]? = some (.cells #[.int .i64 p.id, .int .i64 p.root, .int .i64 p.count] 136)) (h1 : M ≠ C) (h2 : M ≠ G) :
    Calls Try.prog 122 #[.pointer (some ⟨M, 0, none⟩), .pointer (some ⟨C, 0, none⟩)] w fun e w' => e = .returned (.tuple #[]) ∧ Wrote w w' C G true 85 86 k L (metaB true p) := by
  obtain ⟨e0, e1, e2, e3, e4⟩ := h.cells
  obtain ⟨m0, m1, m2⟩ := box_form hM
  go_enter Try.func122, Try.ntmps122
  go_wp2_with fail
  have hl := h.len
  refine (putSmall_any C G k L p.root hr w h (by omega)).mono ?_
  rintro e w1 ⟨rfl, hW1⟩
  have hM1 := wrote_box hW1 hM h1 h2
  have l1 : (numB true (smallN true) p.root).length = 2 := by rw [numB_len]; rfl
  obtain ⟨e0, e1, e2, e3, e4⟩ := hW1.1.cells
  obtain ⟨m0, m1, m2⟩ := box_form hM1
  have hc1 := hW1.1
  rw [l1] at hc1 e1
  go_wp2_with fail
  go_region_held3 (fun w' => w'.cell? ⟨C, 3, none⟩ = some (.func (.func 85) #[.pointer (some ⟨C, 0, none⟩)] #[]) ∧ w'.cell? ⟨M, 0, none⟩ = some (.int .i64 p.id) ∧ w'.cell? ⟨M, 1, none⟩ = some (.int .i64 p.root) ∧ w'.cell? ⟨M, 2, none⟩ = some (.int .i64 p.count)) (go_keep)
    (first | (go_at_call 85; refine (Put C G (k + 2) _ p.count 4 w1.drew hc (by omega) hc1.drew (by omega)).mono ?_; rintro e w2 ⟨rfl, hV2⟩; have hM2 := wrote_box hV2 (w := w1.drew) hM1 h1 h2; obtain ⟨_, _, _, e3, _⟩ := hV2.1.cells; obtain ⟨m0, m1, m2⟩ := box_form hM2))
  have hW2 : Wrote w w2 C G true 85 86 k L (numB true (smallN true) p.root ++ numB true 4 p.count) := hW1.trans (by rw [l1, hl]; omega) ⟨by rw [l1]; exact hV2.1, (Fr.of_below (Below.refl _ _).drew).trans hV2.2⟩
  have l2 : (numB true 4 p.count).length = 4 := numB_len _ _ _
  have hc2 := hV2.1
  rw [l2] at hc2
  have hM2' := hM2
  go_wp2_with fail
  go_region_held3 (fun w' => w'.cell? ⟨C, 3, none⟩ = some (.func (.func 85) #[.pointer (some ⟨C, 0, none⟩)] #[]) ∧ w'.cell? ⟨M, 0, none⟩ = some (.int .i64 p.id) ∧ w'.cell? ⟨M, 1, none⟩ = some (.int .i64 p.root) ∧ w'.cell? ⟨M, 2, none⟩ = some (.int .i64 p.count)) (go_keep)
    (first | (go_at_call 85; refine (Put C G (k + 2 + 4) _ p.id 4 w2.drew hi (by omega) hc2.drew (by omega)).mono ?_; rintro e w3 ⟨rfl, hV3⟩; have hM3 := wrote_box hV3 (w := w2.drew) hM2 h1 h2; obtain ⟨_, _, _, e3, _⟩ := hV3.1.cells; obtain ⟨m0, m1, m2⟩ := box_form hM3))
  have R : Hid (Wrote w w3 C G true 85 86 k L (metaB true p)) := by
    have e : metaB true p = (numB true (smallN true) p.root ++ numB true 4 p.count) ++ numB true 4 p.id := rfl
    show Wrote _ _ _ _ _ _ _ _ _ _
    rw [e]
    have l12 : (numB true (smallN true) p.root ++ numB true 4 p.count).length = 6 := by rw [List.length_append, l1, l2]
    refine hW2.trans (by rw [l12, hl]; omega) ⟨?_, (Fr.of_below (Below.refl _ _).drew).trans hV3.2⟩
    rw [l12]
    have := hV3.1
    rw [show lay (lay L k (numB true (smallN true) p.root)) (k + 2) (numB true 4 p.count) = lay L k (numB true (smallN true) p.root ++ numB true 4 p.count) by rw [← lay_lay (by rw [l1, hl]; omega), l1]] at this
    exact this
  clear hW1 hW2 hV2 hV3 hc1 hc2 h
  go_wp2
  exact bodyPost_ret (v := .tuple #[]) (by simp [results, Try.results122]) rfl ⟨rfl, R.out⟩
end Old
end Go.Proofs.Ytcmhobbpeaeebaa
namespace Go.Proofs.Ytcmhobbpeaeebaa
namespace Old
open Go.RowKit
set_option linter.unusedVariables false
set_option maxRecDepth 100000

theorem Wrote.next {w w1 w2 : World} {C G k pf gf : Nat} {old : Bool} {L ds bs : List Int} (hW : Wrote w w1 C G old pf gf k L ds) (hl : L.length = 128) (hm : k + ds.length ≤ 128) (hV : Wrote w1.drew w2 C G old pf gf (k + ds.length) (lay L k ds) bs) : Wrote w w2 C G old pf gf k L (ds ++ bs) :=
  Wrote.trans hW (by omega) ⟨hV.1, (Fr.of_below (Below.refl _ _).drew).trans hV.2⟩

set_option maxHeartbeats 800000 in
theorem overWrite_any (C G k M : Nat) (L : List Int) (next : Int) (data : ByteArray) (hn : I64 next) (hd : data.size ≤ 96) (w : World) (h : Cur w C G true 85 86 k L) (hk : k ≤ 8) (hM : w.heap[M]? = some (.cells #[.int .i64 next, .string data] 145)) (h1 : M ≠ C) (h2 : M ≠ G) :
    Calls Try.prog 145 #[.pointer (some ⟨M, 0, none⟩), .pointer (some ⟨C, 0, none⟩)] w fun e w' => e = .returned (.tuple #[]) ∧ Wrote w w' C G true 85 86 k L (numB true (smallN true) next ++ textB data) := by
  have m0 : w.cell? ⟨M, 0, none⟩ = some (.int .i64 next) := by simp [World.cell?, hM]
  have m1 : w.cell? ⟨M, 1, none⟩ = some (.string data) := by simp [World.cell?, hM]
  have hl := h.len
  have hsm := numB_small true next
  go_enter Try.func145, Try.ntmps145
  go_wp2_with fail
  refine (putSmall_any C G k L next hn w h (by omega)).mono ?_
  rintro e w1 ⟨rfl, hW1⟩
  have hM1 := wrote_box hW1 hM h1 h2
  have m0 : w1.cell? ⟨M, 0, none⟩ = some (.int .i64 next) := by simp [World.cell?, hM1]
  have m1 : w1.cell? ⟨M, 1, none⟩ = some (.string data) := by simp [World.cell?, hM1]
  go_wp2_with fail
  refine (putText_any C G (k + (numB true (smallN true) next).length) _ data w1 hW1.1 (by omega)).mono ?_
  rintro e w2 ⟨rfl, hW2⟩
  have R : Hid (Wrote w w2 C G true 85 86 k L (numB true (smallN true) next ++ textB data)) := hW1.trans (by omega) hW2
  clear hW1 hW2
  go_wp2
  go_end0
  exact ⟨rfl, R.out⟩

theorem Wrote.call {w w1 w2 : World} {C G k pf gf : Nat} {old : Bool} {L ds : List Int} (hW : Wrote w w1 C G old pf gf k L ds) (hb : Below w1.heap.size w1 w2) : Wrote w w2 C G old pf gf k L ds :=
  ⟨⟨(hb.block C (Array.getElem?_eq_some_iff.1 hW.1.box).1).trans hW.1.box, owns_below hW.1.row hb, hW.1.len⟩, hW.2.trans (Fr.of_below hb)⟩
theorem Wrote.lt {w w1 : World} {C G k pf gf : Nat} {old : Bool} {L ds : List Int} (hW : Wrote w w1 C G old pf gf k L ds) : C < w1.heap.size ∧ G < w1.heap.size := ⟨(Array.getElem?_eq_some_iff.1 hW.1.box).1, (hW.1.row.lt G rfl).2⟩
theorem kidsB_len' (hi : Bool) (ks : List PK) (n : Nat) (hs : ∀ i, i < n → 0 < i → (ks.getD i dK).1.size ≤ 8) : (kidsB hi (smallN hi) ks n).length ≤ n * 13 := by
  have := kidsB_len hi (smallN hi) ks n hs
  have := Nat.mul_le_mul_left n (show 9 + smallN hi ≤ 13 by have := smallN_le hi; omega)
  omega

set_option maxHeartbeats 1600000 in
theorem branchWrite_any (C G k M : Nat) (L : List Int) (ka : Option Addr) (n kc : Nat) (ks : List PK) (w : World) (A B : Nat) (h : Cur w C G true 85 86 k L) (hk : k ≤ 8) (hM : w.heap[M]? = some (.cells #[.slice ka n kc] 139)) (h1 : M ≠ C) (h2 : M ≠ G) (hK : KidsAt w A B ka n kc ks) (hB : B ≤ w.heap.size) (hC : B ≤ C) (hG : B ≤ G) (hn : n ≤ 4) (hs : ∀ i, i < n → 0 < i → (ks.getD i dK).1.size ≤ 8) :
    Calls Try.prog 130 #[.pointer (some ⟨M, 0, none⟩), .pointer (some ⟨C, 0, none⟩)] w fun e w' => e = .returned (.tuple #[]) ∧ Wrote w w' C G true 85 86 k L (kidsB true (smallN true) ks n) := by
  have m0 : w.cell? ⟨M, 0, none⟩ = some (.slice ka n kc) := by simp [World.cell?, hM]
  have hl := h.len
  go_enter Try.func130, Try.ntmps130
  go_wp2_with fail
  go_loopw [11] (fun iv wr => ∃ i : Nat, i ≤ n ∧ iv = .int .i64 i ∧ Hid (Wrote w wr C G true 85 86 k L (kidsB true (smallN true) ks i))) (fun iv _ => n - (intOf iv).toNat)
  case atStart => exact ⟨0, Nat.zero_le _, rfl, wrote_nil h⟩
  case round =>
    obtain ⟨i, hi, rfl, HW⟩ := hrel
    by_cases hlt : i < n
    · obtain ⟨b, off, rfl, hb, hfit, q0, q1⟩ := KidsAt.at (hK.fr HW.out.2 hB (fun g e => by rcases e with e | e <;> omega)) hlt
      have hs' := hs i hlt
      have hlen := kidsB_len' true ks i (fun j h1 h2 => hs j (by omega) h2)
      have HK : Hid (kidsB true (smallN true) ks (i + 1) = kidsB true (smallN true) ks i ++ kidB true (smallN true) i (ks.getD i dK)) := rfl
      generalize ks.getD i dK = kd at q0 q1 hfit hs' HK
      generalize kidsB true (smallN true) ks i = l at HW HK hlen
      have hpg : I64 kd.2 := hfit.2
      obtain ⟨hCl, hGl⟩ := Wrote.lt HW.out
      have HW0 := Wrote.call HW.out ((Below.refl _ wr).alloc (Nat.le_refl _) (.cells #[.string kd.1, .int .i64 kd.2] 100))
      have HE0 : (wr.alloc (.cells #[.string kd.1, .int .i64 kd.2] 100)).heap[wr.heap.size]? = some (.cells #[.string kd.1, .int .i64 kd.2] 100) := heap_alloc_new wr _
      have hnC : wr.heap.size ≠ C := by omega
      have hnG : wr.heap.size ≠ G := by omega
      clear hK hs
      by_cases h0 : 0 < i
      · have hsz := hs' h0
        have s4 : decide ((0 : Int) < (i : Int)) = true := by simp; omega
        clear hs'
        go_wp2_with fail
        generalize wr.alloc (.cells #[.string kd.1, .int .i64 kd.2] 100) = W0 at HW0 HE0 ⊢
        generalize wr.heap.size = E at HE0 hnC hnG ⊢
        refine (putText_any C G (k + l.length) _ kd.1 W0 HW0.1 (by omega)).mono ?_
        rintro e w1 ⟨rfl, hV1⟩
        have HE1 := wrote_box hV1 HE0 hnC hnG
        have r0 : w1.cell? ⟨E, 0, none⟩ = some (.string kd.1) := by simp [World.cell?, HE1]
        have r1 : w1.cell? ⟨E, 1, none⟩ = some (.int .i64 kd.2) := by simp [World.cell?, HE1]
        have HW1 := HW0.trans (by omega) hV1
        have hl1 : (l ++ textB kd.1).length ≤ i * 13 + 9 := by simp [textB_len]; omega
        go_wp2_with fail
        refine (putSmall_any C G (k + (l ++ textB kd.1).length) _ kd.2 hpg w1 HW1.1 (by omega)).mono ?_
        rintro e w2 ⟨rfl, hV2⟩
        have R : Hid (Wrote w w2 C G true 85 86 k L (kidsB true (smallN true) ks (i + 1))) := by
          show Wrote _ _ _ _ _ _ _ _ _ _
          rw [HK.out, kidB, if_pos h0, ← List.append_assoc]
          exact HW1.trans (by omega) hV2
        clear HW HW0 HW1 hV1 hV2 HE0 HE1
        go_wp2
        go_roundw
        case rel => exact ⟨i + 1, by omega, by go_num, R⟩
        case measure => simp [intOf]; omega
      · have s4 : decide ((0 : Int) < (i : Int)) = false := by simp; omega
        clear hs'
        go_wp2_with fail
        generalize wr.alloc (.cells #[.string kd.1, .int .i64 kd.2] 100) = W0 at HW0 HE0 ⊢
        refine (putSmall_any C G (k + l.length) _ kd.2 hpg W0 HW0.1 (by omega)).mono ?_
        rintro e w2 ⟨rfl, hV2⟩
        have R : Hid (Wrote w w2 C G true 85 86 k L (kidsB true (smallN true) ks (i + 1))) := by
          show Wrote _ _ _ _ _ _ _ _ _ _
          rw [HK.out, kidB, if_neg h0, List.nil_append]
          exact HW0.trans (by omega) hV2
        clear HW HW0 hV2 HE0
        go_wp2
        go_roundw
        case rel => exact ⟨i + 1, by omega, by go_num, R⟩
        case measure => simp [intOf]; omega
    · obtain rfl : i = n := by omega
      go_wp2
      go_end0
      exact ⟨rfl, HW.out⟩
end Old
end Go.Proofs.Ytcmhobbpeaeebaa
