import Derived.Test.YtakdaandbdbdnaaGAA
import Derived.Test.YtakdaandbdbdnaaGAB
import Derived.Test.YtakdaandbdbdnaaGAE
import Derived.Test.YtakdaandbdbdnaaGAK
import Derived.Test.YtakdaandbdbdnaaGAL
import Derived.Deep.MidRow
import Derived.Test.YtakdaandbdbdnaaChecked
import Derived.Laws.BitsAll
import Derived.Laws.IdiomStrings
import Derived.Deep.RegionHeld3
import Derived.Deep.QuietTactic
namespace Go.Proofs.Ytakdaandbdbdnaa
open Go.RowKit
set_option linter.unusedVariables false
set_option maxRecDepth 100000

/-- Page pg of a file of a list, or nothing. -/
def pageP (fs : List PF) (nm : ByteArray) (pg : Int) : List Int := if 0 ≤ pg ∧ pg < lenI fs nm then ((fs.getD (findN fs nm) (ByteArray.empty, [])).2.drop (pg.toNat * 128)).take 128 else []
theorem pageP_len (fs : List PF) (nm : ByteArray) (pg : Int) : (pageP fs nm pg).length ≤ 128 := by
  unfold pageP
  split
  · simp; omega
  · simp
theorem bytes_sub {w : World} {A B pb poff n c : Nat} {bs : List Int} (h : BytesAt w A B (some ⟨pb, poff, none⟩) n c bs) {k : Nat} (hk : k + 128 ≤ n) : BytesAt w A B (some ⟨pb, poff + k, none⟩) 128 (c - k) ((bs.drop k).take 128) := by
  obtain ⟨h1, h2, h3, h4, h5, h6⟩ := h
  refine ⟨by simp; omega, by omega, by omega, fun x hx => h4 x (List.mem_of_mem_drop (List.mem_of_mem_take hx)), fun _ => ?_, fun e => by cases e⟩
  obtain ⟨b, off, e, hb, hc⟩ := h5 (by omega)
  simp only [Option.some.injEq, Addr.mk.injEq] at e
  obtain ⟨rfl, rfl, _⟩ := e
  refine ⟨_, _, rfl, hb, fun i hi => ?_⟩
  rw [Nat.add_assoc, hc (k + i) (by omega)]
  have h7 : k + i < bs.length := by omega
  simp [List.getD, hi, List.getElem?_drop]
set_option maxHeartbeats 1600000 in
theorem l1Page_any (a : Option Addr) (n c : Nat) (fs : List PF) (nm : ByteArray) (pg : Int) (w : World) (A B : Nat) (hB : B ≤ w.heap.size) (hF : FilesAt w A B a n c fs) (hp : (Lit.int .i64 pg).wf = true) (hall : ∀ j, j < n → (fs.getD j (ByteArray.empty, [])).2.length ≤ 1073741824) :
    Calls Try.prog 57 #[.slice a n c, .string nm, .int .i64 pg] w fun e w' => ∃ va vn vc, e = .returned (.slice va vn vc) ∧ vn = (pageP fs nm pg).length ∧ w'.ownsRow w.heap.size 5 1 (.slice va vn vc) vn (u8s (pageP fs nm pg)) ∧ (∀ x ∈ pageP fs nm pg, 0 ≤ x ∧ x ≤ 255) ∧ Below w.heap.size w w' := by
  have HF : Hid (FilesAt w A B a n c fs) := hF
  have hal : Below w.heap.size w (w.alloc (.cells #[] 5)) := (Below.refl _ _).alloc (Nat.le_refl _) _
  have hown : (w.alloc (.cells #[] 5)).ownsRow w.heap.size 5 1 (.slice (some ⟨w.heap.size, 0, none⟩) 0 0) 0 [] := World.ownsRow_made w #[] 0 (Nat.le_refl _) (by unfold maxLen; omega) (by simp)
  by_cases h0 : pg < 0
  · have HP : Hid (pageP fs nm pg = []) := by show _ = _; unfold pageP; rw [if_neg (by omega)]
    go_enter Try.func57, Try.ntmps57
    go_wp2
    go_ret
    exact ⟨_, _, _, rfl, by rw [HP.out]; rfl, by rw [HP.out]; exact hown, by rw [HP.out]; simp, hal⟩
  by_cases h1 : lenI fs nm ≤ pg
  · have HP : Hid (pageP fs nm pg = []) := by show _ = _; unfold pageP; rw [if_neg (by omega)]
    go_enter Try.func57, Try.ntmps57
    go_wp2_with fail
    refine (l1Len_any _ _ _ fs nm _ A B HF.out).mono ?_
    rintro e w1 ⟨rfl, rfl⟩
    go_wp2
    go_ret
    exact ⟨_, _, _, rfl, by rw [HP.out]; rfl, by rw [HP.out]; exact hown, by rw [HP.out]; simp, hal⟩
  · obtain ⟨pN, rfl⟩ := Int.eq_ofNat_of_zero_le (show 0 ≤ pg by omega)
    have hfl := hF.1
    have hf : findN fs nm < fs.length := Decidable.byContradiction fun h => by unfold lenI at h1; rw [if_neg h] at h1; omega
    have hl : lenI fs nm = ((fs.getD (findN fs nm) (ByteArray.empty, [])).2.length : Int) / 128 := by unfold lenI; rw [if_pos hf]
    obtain ⟨hc1, hc2, hc3, hcell⟩ := hF
    obtain ⟨ab, aoff, rfl, hab, hcb⟩ := hcell (by omega)
    obtain ⟨p1, p2, pa, pn, pc, p3, p4⟩ := hcb (findN fs nm) (by omega)
    have hpl : pn ≤ 1073741824 := by have := hall (findN fs nm) (by omega); rw [p4.1] at this; exact this
    have HP : Hid (pageP fs nm (pN : Int) = ((fs.getD (findN fs nm) (ByteArray.empty, [])).2.drop (pN * 128)).take 128) := by show _ = _; unfold pageP; rw [if_pos (by omega)]; rfl
    have hq : pN * 128 + 128 ≤ pn := by have := p4.1; omega
    have hfi : findI fs nm = (findN fs nm : Int) := by unfold findI; rw [if_pos hf]
    unfold maxLen at hc3
    have HB : Hid (BytesAt w A B pa pn pc (fs.getD (findN fs nm) (ByteArray.empty, [])).2) := p4
    have hii : findN fs nm < n := by omega
    clear hcell hcb hall hl hc1 p4 p1 p2
    generalize (fs.getD (findN fs nm) (ByteArray.empty, [])).2 = dat at HP HB
    obtain ⟨pb, poff, rfl, hpb, _⟩ := HB.out.2.2.2.2.1 (by omega)
    have hpc := HB.out.2.1
    have hpm := HB.out.2.2.1
    unfold maxLen at hpm
    have HSub : Hid (BytesAt w A B (some ⟨pb, poff + pN * 128, none⟩) 128 (pc - pN * 128) ((dat.drop (pN * 128)).take 128)) := bytes_sub HB.out hq
    have hadd : (⟨pb, poff, none⟩ : Addr).add (pN * 128) = ⟨pb, poff + pN * 128, none⟩ := Addr.add_mid _ _ _
    clear hown hal HB
    go_enter Try.func57, Try.ntmps57
    go_wp2_with fail
    refine (l1Len_any _ _ _ fs nm _ A B HF.out).mono ?_
    rintro e w1 ⟨rfl, rfl⟩
    generalize lenI fs nm = L at h1 ⊢
    go_wp2_with fail
    refine (l1Find_any _ _ _ fs nm _ A B HF.out).mono ?_
    rintro e w2 ⟨rfl, rfl⟩
    rw [hfi]
    clear hfi hf hfl HF
    generalize findN fs nm = ii at *
    go_wp2_with fail
    rw [show (pN + 1) * 128 - pN * 128 = 128 by omega]
    refine (l1Bytes_any _ _ _ _ _ A B hB HSub.out (by omega)).mono ?_
    rintro e w3 ⟨va, vc, rfl, hown3, hb3⟩
    go_wp2_with fail
    go_ret
    exact ⟨va, _, vc, rfl, by rw [HP.out]; exact HSub.out.1.symm, by rw [HP.out]; exact hown3, by rw [HP.out]; exact HSub.out.2.2.2.1, hb3⟩
end Go.Proofs.Ytakdaandbdbdnaa
namespace Go.Proofs.Ytakdaandbdbdnaa
open Go.RowKit
set_option linter.unusedVariables false
set_option maxRecDepth 100000

set_option maxHeartbeats 400000 in
theorem szByteS_any (a : Option Addr) (n c : Nat) (left : Int) (w : World) (h0 : 0 ≤ left) (h1 : left ≤ 1048576) (hn : n ≤ maxLen) :
    Calls Try.prog 104 #[.slice a n c, .int .i64 left] w fun e w' => ∃ r : Int, e = .returned (.int .i64 r) ∧ (-1 ≤ r ∧ r ≤ left ∧ (0 ≤ r → r = left - n)) ∧ w' = w := by
  unfold maxLen at hn
  by_cases h : left - n < 0
  · go_enter Try.func104, Try.ntmps104
    go_wp2
    go_ret
    exact ⟨-1, rfl, ⟨by omega, by omega, by omega⟩, rfl⟩
  · go_enter Try.func104, Try.ntmps104
    go_wp2
    go_ret
    exact ⟨left - n, rfl, ⟨by omega, by omega, by omega⟩, rfl⟩

set_option maxHeartbeats 400000 in
theorem szFile_any (s : ByteArray) (a : Option Addr) (n c : Nat) (left : Int) (w : World) (h0 : 0 ≤ left) (h1 : left ≤ 1048576) (hn : n ≤ maxLen) (hs : s.size ≤ maxLen) :
    Calls Try.prog 86 #[.agg #[.string s, .slice a n c], .int .i64 left] w fun e w' => ∃ r : Int, e = .returned (.int .i64 r) ∧ (-1 ≤ r ∧ r ≤ left ∧ (0 ≤ r → r = left - s.size - n)) ∧ Below w.heap.size w w' := by
  unfold maxLen at hs
  by_cases h : left - s.size < 0
  · go_enter Try.func86, Try.ntmps86
    go_wp2
    go_ret
    exact ⟨-1, rfl, ⟨by omega, by omega, by omega⟩, (Below.refl _ _).alloc (Nat.le_refl _) _⟩
  · go_enter Try.func86, Try.ntmps86
    go_wp2_with fail
    refine (szByteS_any _ _ _ _ _ (by omega) (by omega) hn).mono ?_
    rintro e w1 ⟨r, rfl, hr, rfl⟩
    by_cases h2 : r < 0
    all_goals
      go_wp2
      go_ret
    · exact ⟨-1, rfl, ⟨by omega, by omega, by omega⟩, (Below.refl _ _).alloc (Nat.le_refl _) _⟩
    · exact ⟨r, rfl, ⟨by omega, by omega, by omega⟩, (Below.refl _ _).alloc (Nat.le_refl _) _⟩

set_option maxHeartbeats 400000 in
theorem szPend_any (s : ByteArray) (pg : Int) (a : Option Addr) (n c : Nat) (left : Int) (w : World) (h0 : 0 ≤ left) (h1 : left ≤ 1048576) (hn : n ≤ maxLen) (hs : s.size ≤ maxLen) :
    Calls Try.prog 87 #[.agg #[.string s, .int .i64 pg, .slice a n c], .int .i64 left] w fun e w' => ∃ r : Int, e = .returned (.int .i64 r) ∧ (-1 ≤ r ∧ r ≤ left ∧ (0 ≤ r → r = left - s.size - n)) ∧ Below w.heap.size w w' := by
  unfold maxLen at hs
  by_cases h : left - s.size < 0
  · go_enter Try.func87, Try.ntmps87
    go_wp2
    go_ret
    exact ⟨-1, rfl, ⟨by omega, by omega, by omega⟩, (Below.refl _ _).alloc (Nat.le_refl _) _⟩
  · go_enter Try.func87, Try.ntmps87
    go_wp2_with fail
    refine (szByteS_any _ _ _ _ _ (by omega) (by omega) hn).mono ?_
    rintro e w1 ⟨r, rfl, hr, rfl⟩
    by_cases h2 : r < 0
    all_goals
      go_wp2
      go_ret
    · exact ⟨-1, rfl, ⟨by omega, by omega, by omega⟩, (Below.refl _ _).alloc (Nat.le_refl _) _⟩
    · exact ⟨r, rfl, ⟨by omega, by omega, by omega⟩, (Below.refl _ _).alloc (Nat.le_refl _) _⟩

set_option maxHeartbeats 400000 in
theorem szFileS_any (a : Option Addr) (n c : Nat) (fs : List PF) (left : Int) (w : World) (h0 : 0 ≤ left) (h1 : left ≤ 1048576) (A B : Nat) (hB : B ≤ w.heap.size) (hF : FilesAt w A B a n c fs) :
    Calls Try.prog 58 #[.slice a n c, .int .i64 left] w fun e w' => ∃ r : Int, e = .returned (.int .i64 r) ∧ (-1 ≤ r ∧ r ≤ left ∧ (0 ≤ r → r = left - n - wFiles fs)) ∧ Below w.heap.size w w' := by
  obtain ⟨hl, hnc, hc, hcell⟩ := hF
  unfold maxLen at hc
  by_cases h : left - n < 0
  · go_enter Try.func58, Try.ntmps58
    go_wp2
    go_ret
    exact ⟨-1, rfl, ⟨by omega, by omega, by omega⟩, Below.refl _ _⟩
  · go_enter Try.func58, Try.ntmps58
    go_wp2
    go_loopw [1, 5] (fun l i wr => ∃ (k : Nat) (r : Int), k ≤ n ∧ i = .int .i64 k ∧ l = .int .i64 r ∧ 0 ≤ r ∧ r ≤ left - n ∧ r = left - n - wFiles (fs.take k) ∧ Below w.heap.size w wr) (fun _ i _ => n - (intOf i).toNat)
    case atStart => exact ⟨0, left - n, Nat.zero_le _, rfl, rfl, by omega, by omega, by simp [wFiles], Below.refl _ _⟩
    case round =>
      obtain ⟨k, r, hk, rfl, rfl, hr0, hr1, hr2, hbel⟩ := hrel
      have HR : Hid (r = left - n - wFiles (fs.take k)) := hr2
      clear hr2
      by_cases hlt : k < n
      · obtain ⟨b, off, rfl, hb, hfi⟩ := hcell (by omega)
        have hfk := (hfi k hlt).below hb (hbel.mono hB)
        have hsn := take_snocD fs k (ByteArray.empty, []) (by omega)
        generalize fs.getD k (ByteArray.empty, []) = f at hfk hsn
        have HS : Hid (wFiles (fs.take (k + 1)) = wFiles (fs.take k) + wFile f) := by show wFiles (fs.take (k + 1)) = _; rw [hsn, wFiles_append]; simp [wFiles]
        clear hsn hfi
        obtain ⟨g1, g2, a', n', c', g3, g4⟩ := hfk
        go_wp2_with fail
        refine (szFile_any _ _ _ _ _ _ hr0 (by omega) (Nat.le_trans g4.2.1 g4.2.2.1) g2).mono ?_
        rintro e w1 ⟨r2, rfl, hr2, hb2⟩
        have hb3 := hbel.trans (hb2.mono hbel.size)
        have hnn := wFiles_nonneg fs
        by_cases h2 : r2 < 0
        · go_wp2
          go_ret
          exact ⟨-1, rfl, ⟨by omega, by omega, by omega⟩, hb3⟩
        · have h3 : r2 = r - f.1.size - n' := hr2.2.2 (by omega)
          have H3 : Hid (r2 = left - n - wFiles (fs.take (k + 1))) := by
            have e1 := HR.out; have e2 := HS.out
            unfold wFile at e2
            have e3 := g4.1
            show r2 = _
            omega
          clear h3
          go_wp2
          go_roundw
          case rel => exact ⟨k + 1, r2, by omega, by go_num, rfl, by omega, by omega, H3.out, hb3⟩
          case measure => simp [intOf]; omega
      · go_wp2
        go_ret
        exact ⟨r, rfl, ⟨by omega, by omega, fun _ => by rw [HR.out, List.take_of_length_le (by omega)]⟩, hbel⟩

set_option maxHeartbeats 400000 in
theorem szPendS_any (a : Option Addr) (n c : Nat) (fs : List PP) (left : Int) (w : World) (h0 : 0 ≤ left) (h1 : left ≤ 1048576) (A B : Nat) (hB : B ≤ w.heap.size) (hF : PendsAt w A B a n c fs) :
    Calls Try.prog 59 #[.slice a n c, .int .i64 left] w fun e w' => ∃ r : Int, e = .returned (.int .i64 r) ∧ (-1 ≤ r ∧ r ≤ left ∧ (0 ≤ r → r = left - n - wPends fs)) ∧ Below w.heap.size w w' := by
  obtain ⟨hl, hnc, hc, hcell⟩ := hF
  unfold maxLen at hc
  by_cases h : left - n < 0
  · go_enter Try.func59, Try.ntmps59
    go_wp2
    go_ret
    exact ⟨-1, rfl, ⟨by omega, by omega, by omega⟩, Below.refl _ _⟩
  · go_enter Try.func59, Try.ntmps59
    go_wp2
    go_loopw [1, 5] (fun l i wr => ∃ (k : Nat) (r : Int), k ≤ n ∧ i = .int .i64 k ∧ l = .int .i64 r ∧ 0 ≤ r ∧ r ≤ left - n ∧ r = left - n - wPends (fs.take k) ∧ Below w.heap.size w wr) (fun _ i _ => n - (intOf i).toNat)
    case atStart => exact ⟨0, left - n, Nat.zero_le _, rfl, rfl, by omega, by omega, by simp [wPends], Below.refl _ _⟩
    case round =>
      obtain ⟨k, r, hk, rfl, rfl, hr0, hr1, hr2, hbel⟩ := hrel
      have HR : Hid (r = left - n - wPends (fs.take k)) := hr2
      clear hr2
      by_cases hlt : k < n
      · obtain ⟨b, off, rfl, hb, hfi⟩ := hcell (by omega)
        have hfk := (hfi k hlt).below hb (hbel.mono hB)
        have hsn := take_snocD fs k (ByteArray.empty, 0, []) (by omega)
        generalize fs.getD k (ByteArray.empty, 0, []) = f at hfk hsn
        have HS : Hid (wPends (fs.take (k + 1)) = wPends (fs.take k) + wPend f) := by show wPends (fs.take (k + 1)) = _; rw [hsn, wPends_append]; simp [wPends]
        clear hsn hfi
        obtain ⟨g1, g2, g5, g6, a', n', c', g3, g4⟩ := hfk
        go_wp2_with fail
        refine (szPend_any _ _ _ _ _ _ _ hr0 (by omega) (Nat.le_trans g4.2.1 g4.2.2.1) g2).mono ?_
        rintro e w1 ⟨r2, rfl, hr2, hb2⟩
        have hb3 := hbel.trans (hb2.mono hbel.size)
        have hnn := wPends_nonneg fs
        by_cases h2 : r2 < 0
        · go_wp2
          go_ret
          exact ⟨-1, rfl, ⟨by omega, by omega, by omega⟩, hb3⟩
        · have h3 : r2 = r - f.1.size - n' := hr2.2.2 (by omega)
          have H3 : Hid (r2 = left - n - wPends (fs.take (k + 1))) := by
            have e1 := HR.out; have e2 := HS.out
            unfold wPend at e2
            have e3 := g4.1
            show r2 = _
            omega
          clear h3
          go_wp2
          go_roundw
          case rel => exact ⟨k + 1, r2, by omega, by go_num, rfl, by omega, by omega, H3.out, hb3⟩
          case measure => simp [intOf]; omega
      · go_wp2
        go_ret
        exact ⟨r, rfl, ⟨by omega, by omega, fun _ => by rw [HR.out, List.take_of_length_le (by omega)]⟩, hbel⟩

set_option maxHeartbeats 400000 in
theorem szDisk_any (a : Option Addr) (n c : Nat) (fs : List PF) (a2 : Option Addr) (n2 c2 : Nat) (ps : List PP) (cp fu : Int) (de : Bool) (left : Int) (w : World) (h0 : 0 ≤ left) (h1 : left ≤ 1048576) (A B : Nat) (hB : B ≤ w.heap.size) (hF : FilesAt w A B a n c fs) (hP : PendsAt w A B a2 n2 c2 ps) :
    Calls Try.prog 15 #[.agg #[.slice a n c, .slice a2 n2 c2, .int .i64 cp, .int .i64 fu, .bool de], .int .i64 left] w fun e w' => ∃ r : Int, e = .returned (.int .i64 r) ∧ (-1 ≤ r ∧ r ≤ left ∧ (0 ≤ r → r = left - n - wFiles fs - n2 - wPends ps)) ∧ Below w.heap.size w w' := by
  go_enter Try.func15, Try.ntmps15
  go_wp2_with fail
  have hb0 : Below w.heap.size w (w.alloc (.cells #[.slice a n c, .slice a2 n2 c2, .int .i64 cp, .int .i64 fu, .bool de] 44)) := (Below.refl _ _).alloc (Nat.le_refl _) _
  refine (szFileS_any _ _ _ fs _ _ h0 h1 A B (by simp; omega) (hF.below (hb0.mono hB))).mono ?_
  rintro e w1 ⟨r, rfl, hr, hb1⟩
  have hb2 := hb0.trans (hb1.mono (by simp))
  have hz := hb1.size
  simp at hz
  obtain ⟨hc1, hf1⟩ := bcell hb1
  by_cases h2 : r < 0
  · go_wp2_with fail
    go_ret
    exact ⟨-1, rfl, ⟨by omega, by omega, by omega⟩, hb2⟩
  · have hrr := hr.2.2 (by omega)
    have hr1 := hr.2.1
    have HR : Hid (r = left - n - wFiles fs) := hrr
    clear hrr hr
    go_wp2_with fail
    refine (szPendS_any _ _ _ ps _ _ (by omega) (by omega) A B (by omega) (hP.below (hb2.mono hB))).mono ?_
    rintro e w2 ⟨q, rfl, hq, hb3⟩
    have hb4 := hb2.trans (hb3.mono hb2.size)
    by_cases h3 : q < 0
    · go_wp2_with fail
      go_ret
      exact ⟨-1, rfl, ⟨by omega, by omega, by omega⟩, hb4⟩
    · go_wp2_with fail
      go_ret
      exact ⟨q, rfl, ⟨by omega, by omega, fun _ => by have e1 := HR.out; have e2 := hq.2.2 (by omega); omega⟩, hb4⟩
end Go.Proofs.Ytakdaandbdbdnaa
namespace Go.Proofs.Ytakdaandbdbdnaa
open Go.RowKit Go.Maps
set_option linter.unusedVariables false
set_option maxRecDepth 100000

theorem box5' {wr : World} {N : Nat} {v0 v1 v2 v3 v4 : Value} {t : TypeId} (h : wr.heap[N]? = some (.cells #[v0, v1, v2, v3, v4] t)) : wr.cell? ⟨N, 0, none⟩ = some v0 ∧ wr.cell? ⟨N, 1, none⟩ = some v1 ∧ wr.cell? ⟨N, 2, none⟩ = some v2 ∧ wr.cell? ⟨N, 3, none⟩ = some v3 ∧ wr.cell? ⟨N, 4, none⟩ = some v4 := by
  refine ⟨?_, ?_, ?_, ?_, ?_⟩
  · rw [cell_of_row wr N 0 _ _ _ h]; rfl
  · rw [cell_of_row wr N 1 _ _ _ h]; rfl
  · rw [cell_of_row wr N 2 _ _ _ h]; rfl
  · rw [cell_of_row wr N 3 _ _ _ h]; rfl
  · rw [cell_of_row wr N 4 _ _ _ h]; rfl

/-- How many pages a file has as seen, or -1. -/
def pageC (fs : List PF) (ps : List PP) (cp fu : Int) (nm : ByteArray) : Int :=
  if implV fs ps cp fu = true then (if findN (lastF ps fs) nm < (lastF ps fs).length then lenI (lastF ps fs) nm else -1) else -1
theorem inv_last : ∀ (ps : List PP) (fs : List PF), Inv fs → Inv (lastF ps fs)
  | [], _, h => h
  | p :: r, fs, h => by
    simp only [lastF]
    exact inv_last r _ (doP_inv h)
theorem specV_parts {fs : List PF} {ps : List PP} {cp fu : Int} (h : specV fs ps cp fu = true) : fs.length ≤ 12 ∧ cp ≤ 1000 ∧ totalI fs ≤ cp ∧ cacheS cp ps fs = true ∧ filesOk fs = true := by
  simp only [specV, headB, Bool.and_eq_true, decide_eq_true_eq] at h
  obtain ⟨⟨⟨⟨⟨⟨a1, a2⟩, a3⟩, a4⟩, a5⟩, a6⟩, a7⟩ := h
  exact ⟨a1, a2.2, a6, a7, a5⟩

end Go.Proofs.Ytakdaandbdbdnaa
namespace Go.Proofs.Ytakdaandbdbdnaa
open Go.RowKit Go.Maps
set_option linter.unusedVariables false
set_option maxRecDepth 100000

/-- What ReadPage answers. -/
def readP (fs : List PF) (ps : List PP) (cp fu : Int) (nm : ByteArray) (pg : Int) : List Int := if implV fs ps cp fu = true then pageP (lastF ps fs) nm pg else []
theorem readP_len (fs : List PF) (ps : List PP) (cp fu : Int) (nm : ByteArray) (pg : Int) : (readP fs ps cp fu nm pg).length ≤ 128 := by
  unfold readP
  split
  · exact pageP_len _ _ _
  · simp
theorem last_small {cp : Int} (hcp : cp ≤ 1000) : ∀ (ps : List PP) (fs : List PF), totalI fs ≤ cp → cacheS cp ps fs = true → totalI (lastF ps fs) ≤ cp
  | [], fs, h, _ => h
  | p :: r, fs, h, hc => by
    simp only [cacheS, fitsB, Bool.and_eq_true, decide_eq_true_eq] at hc
    exact last_small hcp r _ hc.2.1.2 hc.2.2
set_option maxHeartbeats 1600000 in
theorem specRead_any (a : Option Addr) (n c : Nat) (fs : List PF) (b : Option Addr) (m d : Nat) (ps : List PP) (cp fu : Int) (de : Bool) (nm : ByteArray) (pg : Int) (w : World) (A B : Nat) (hB : B ≤ w.heap.size) (hF : FilesAt w A B a n c fs) (hP : PendsAt w A B b m d ps) (hp : (Lit.int .i64 pg).wf = true)
    (hall : ∀ j, j < n → (fs.getD j (ByteArray.empty, [])).2.length ≤ 1048576) :
    Calls Try.prog 13 #[.agg #[.slice a n c, .slice b m d, .int .i64 cp, .int .i64 fu, .bool de], .string nm, .int .i64 pg] w fun e w' => ∃ va vn vc, e = .returned (.slice va vn vc) ∧ vn = (readP fs ps cp fu nm pg).length ∧ w'.ownsRow w.heap.size 5 1 (.slice va vn vc) vn (u8s (readP fs ps cp fu nm pg)) ∧ (∀ x ∈ readP fs ps cp fu nm pg, 0 ≤ x ∧ x ≤ 255) ∧ Below w.heap.size w w' := by
  have hb0 : Below w.heap.size w (w.alloc (.cells #[.slice a n c, .slice b m d, .int .i64 cp, .int .i64 fu, .bool de] 26)) := (Below.refl _ _).alloc (Nat.le_refl _) _
  have hfl := hF.1
  go_enter Try.func13, Try.ntmps13
  go_wp2_with fail
  refine (specValid_any _ _ _ fs _ _ _ ps _ _ _ _ A B (by simp; omega) (hF.below (hb0.mono hB)) (hP.below (hb0.mono hB)) hall).mono ?_
  rintro e w1 ⟨rfl, hb1⟩
  have hg1 := hb0.trans (hb1.mono (by simp))
  have hz1 : w.heap.size + 1 ≤ w1.heap.size := by simpa using hb1.size
  have hbx1 : Hid (w1.heap[w.heap.size]? = some (.cells #[.slice a n c, .slice b m d, .int .i64 cp, .int .i64 fu, .bool de] 26)) := (hb1.block _ (by simp)).trans (heap_alloc_new w _)
  obtain ⟨x0, x1, x2, x3, x4⟩ := box5' hbx1.out
  cases hv : specV fs ps cp fu with
  | false =>
    have HR : Hid (readP fs ps cp fu nm pg = []) := by show _ = _; unfold readP; rw [← valid_eq, hv]; simp
    clear hv
    have hown : (w1.alloc (.cells #[] 5)).ownsRow w.heap.size 5 1 (.slice (some ⟨w1.heap.size, 0, none⟩) 0 0) 0 [] := World.ownsRow_made w1 #[] 0 (by omega) (by unfold maxLen; omega) (by simp)
    have hal : Below w.heap.size w (w1.alloc (.cells #[] 5)) := hg1.alloc (by omega) _
    go_wp2_with fail
    go_ret
    exact ⟨_, _, _, rfl, by rw [HR.out]; rfl, by rw [HR.out]; exact hown, by rw [HR.out]; simp, hal⟩
  | true =>
    obtain ⟨q1, q2, q3, q4, q5⟩ := specV_parts hv
    have HV : Hid (readP fs ps cp fu nm pg = pageP (lastF ps fs) nm pg) := by show _ = _; unfold readP; rw [if_pos (by rw [← valid_eq]; exact hv)]
    have HT : Hid (totalI (lastF ps fs) ≤ 1000) := Int.le_trans (last_small q2 ps fs q3 q4) q2
    clear hv
    go_wp2_with fail
    refine (l1Seen_any _ _ _ fs _ _ _ ps _ _ _ _ A B (by omega) (hF.below (hg1.mono hB)) (hP.below (hg1.mono hB)) (by omega) q2 q3 q4).mono ?_
    rintro e w2 ⟨v2, xs2, vs2, rfl, hO2, hb2⟩
    obtain ⟨a2, n2, c2, rfl, hn2, hF2⟩ := hO2.files
    clear hn2
    have hg2 := hg1.trans (hb2.mono (by omega))
    have hz2 := hb2.size
    clear q3 q4 q5
    go_wp2_with fail
    refine (l1Page_any _ _ _ (lastF ps fs) nm pg _ (w1.heap.size + 1) w2.heap.size (Nat.le_refl _) hF2 hp (fun j hj => Nat.le_trans (small_of_total HT.out j (by rw [hF2.1]; exact hj)) (by omega))).mono ?_
    rintro e w3 ⟨va, vn, vc, rfl, hvn, hown, hby, hb3⟩
    have HBY : Hid (∀ x ∈ pageP (lastF ps fs) nm pg, 0 ≤ x ∧ x ≤ 255) := hby
    have HN : Hid (vn = (pageP (lastF ps fs) nm pg).length) := hvn
    have HO : Hid (w3.ownsRow w.heap.size 5 1 (.slice va vn vc) vn (u8s (pageP (lastF ps fs) nm pg))) := own_lower hown (by omega)
    have hg3 := hg2.trans (hb3.mono (by omega))
    clear hvn hown hF2 hO2 hby
    go_wp2_with fail
    go_ret
    exact ⟨va, vn, vc, rfl, by rw [HV.out]; exact HN.out, by rw [HV.out]; exact HO.out, by rw [HV.out]; exact HBY.out, hg3⟩
end Go.Proofs.Ytakdaandbdbdnaa
namespace Go.Proofs.Ytakdaandbdbdnaa
open Go.RowKit Go.Maps
set_option linter.unusedVariables false
set_option maxRecDepth 100000

theorem pageP_of {fl : List PF} (h : Inv fl) (nm : ByteArray) (pg : Int) : pageP fl nm pg = (pageOf fl nm pg).getD [] := by
  obtain ⟨h1, h2⟩ := dataN_len h nm
  rw [pageOf_data]
  unfold pageP pageF
  by_cases hc : 0 ≤ pg ∧ pg * 128 + 128 ≤ ((dataN fl nm).length : Int)
  · rw [if_pos (by omega), if_pos hc]
    have hf : findN fl nm < fl.length := Decidable.byContradiction fun hn => by rw [dataN_none hn] at hc; simp at hc; omega
    show _ = ((dataN fl nm).drop (pg.toNat * 128)).take 128
    unfold dataN
    rw [if_pos hf]
  · rw [if_neg (by omega), if_neg hc]; rfl
theorem run_sliceAllS (g : Nat) (w : World) : (Instr.sliceAt 86 (.pointer (some ⟨g, 0, none⟩)) none none none).run Try.prog w = .ok (.slice (some ⟨g, 0, none⟩) 128 128) w := by
  rw [run_sliceAt_array_all w 86 _ arrSheet, elemSheet, show (sizeOf 5).run Try.prog w = .ok 1 w by kernel_rfl]
  simp [slicedAt, go_sem, Addr.add]
set_option maxHeartbeats 1600000 in
theorem implRead_any (a : Option Addr) (n c : Nat) (fs : List PF) (b : Option Addr) (m d : Nat) (ps : List PP) (cp fu : Int) (de : Bool) (nm : ByteArray) (hnm : nm.size ≤ maxLen) (pg : Int) (w : World) (A B : Nat) (hB : B ≤ w.heap.size) (hF : FilesAt w A B a n c fs) (hP : PendsAt w A B b m d ps) (hp : (Lit.int .i64 pg).wf = true)
    (hall : ∀ j, j < n → (fs.getD j (ByteArray.empty, [])).2.length ≤ 1048576) :
    Calls Try.prog 12 #[.agg #[.slice a n c, .slice b m d, .int .i64 cp, .int .i64 fu, .bool de], .string nm, .int .i64 pg] w fun e w' => ∃ va vn vc ty, e = .returned (.slice va vn vc) ∧ vn = (readP fs ps cp fu nm pg).length ∧ w'.ownsRow w.heap.size ty 1 (.slice va vn vc) vn (u8s (readP fs ps cp fu nm pg)) ∧ (∀ x ∈ readP fs ps cp fu nm pg, 0 ≤ x ∧ x ≤ 255) ∧ vn ≤ 128 ∧ Below w.heap.size w w' := by
  have hb0 : Below w.heap.size w (w.alloc (.cells #[.slice a n c, .slice b m d, .int .i64 cp, .int .i64 fu, .bool de] 26)) := (Below.refl _ _).alloc (Nat.le_refl _) _
  have hfl := hF.1
  have hpl := hP.1
  go_enter Try.func12, Try.ntmps12
  go_wp2_with fail
  refine (implValid_any _ _ _ fs _ _ _ ps _ _ _ _ A B (by simp; omega) (hF.below (hb0.mono hB)) (hP.below (hb0.mono hB)) hall).mono ?_
  rintro e w1 ⟨rfl, hb1⟩
  have hg1 := hb0.trans (hb1.mono (by simp))
  have hz1 : w.heap.size + 1 ≤ w1.heap.size := by simpa using hb1.size
  have hbx1 : Hid (w1.heap[w.heap.size]? = some (.cells #[.slice a n c, .slice b m d, .int .i64 cp, .int .i64 fu, .bool de] 26)) := (hb1.block _ (by simp)).trans (heap_alloc_new w _)
  obtain ⟨x0, x1, x2, x3, x4⟩ := box5' hbx1.out
  cases hv : implV fs ps cp fu with
  | false =>
    have HR : Hid (readP fs ps cp fu nm pg = []) := by show _ = _; unfold readP; rw [hv]; simp
    clear hv
    go_wp2_with fail
    go_ret
    exact ⟨none, 0, 0, 5, rfl, by rw [HR.out]; rfl, by rw [HR.out]; exact World.ownsRow_nil _ _ _ _, by rw [HR.out]; simp, by omega, hg1⟩
  | true =>
    obtain ⟨q1, q2, q3, q4, q5⟩ := specV_parts (by rw [valid_eq]; exact hv)
    have hpm : ps.length ≤ 1000 := by
      have h2 := hv
      simp only [implV, Bool.and_eq_true, decide_eq_true_eq] at h2
      exact h2.1.2
    have hI : Inv fs := inv_all q5
    have HV : Hid (readP fs ps cp fu nm pg = pageP (lastF ps fs) nm pg) := by show _ = _; unfold readP; rw [if_pos hv]
    clear hv
    go_wp2_with fail
    refine (see_any _ _ _ fs _ _ _ ps _ _ _ _ A B (by omega) (hF.below (hg1.mono hB)) (hP.below (hg1.mono hB)) (by omega) (by omega) q2 q3 q4 hI).mono ?_
    rintro e w2 ⟨mb, q, D, rfl, hmb, hM, hq, hR, hBF, hI2, hb2⟩
    have hg2 := hg1.trans (hb2.mono (by omega))
    have hz2 := hb2.size
    have HPG := page_byte hBF nm pg
    rw [pageP_of hI2] at HV
    rcases look_pl (nm := nm) (pg := pg) hM hR hnm hp HPG with ⟨bs, hS, hlk⟩ | ⟨hS, hlk⟩
    · obtain ⟨hbl, hbr⟩ := HPG bs hS
      rw [hS] at HV
      have HV2 : Hid (readP fs ps cp fu nm pg = bs) := HV.out
      have hul : (u8s bs).length = 128 := by simp [u8s, hbl]
      have hst := storeCells_new w2 bs hbl
      have hsl := run_sliceAllS w2.heap.size
      have hal : Below w.heap.size w (w2.alloc (.cells (u8s bs).toArray 86)) := hg2.alloc (by omega) _
      have HO : Hid ((w2.alloc (.cells (u8s bs).toArray 86)).ownsRow w.heap.size 86 1 (.slice (some ⟨w2.heap.size, 0, none⟩) 128 128) 128 (u8s bs)) := ⟨by simp [u8s, hbl], .inr ⟨w2.heap.size, 128, _, rfl, by omega, heap_alloc_new w2 _, Nat.le_refl _, by unfold maxLen; omega, by simp [u8s, hbl], by simp only [Nat.mul_one]; exact List.take_of_length_le (by omega)⟩⟩
      clear HV hS hM hR hBF hI2 HPG q3 q4 q5 hI
      go_wp2_with fail
      go_ret
      exact ⟨_, 128, 128, 86, rfl, by rw [HV2.out]; exact hbl.symm, by rw [HV2.out]; exact HO.out, by rw [HV2.out]; exact hbr, Nat.le_refl _, hal⟩
    · rw [hS] at HV
      have HV2 : Hid (readP fs ps cp fu nm pg = []) := HV.out
      have hul : (u8s zeros).length = 128 := by simp [u8s, zeros_len]
      have hst := storeCells_new w2 zeros zeros_len
      have hal : Below w.heap.size w (w2.alloc (.cells (u8s zeros).toArray 86)) := hg2.alloc (by omega) _
      clear HV hS hM hR hBF hI2 HPG q3 q4 q5 hI
      go_wp2_with fail
      go_ret
      exact ⟨none, 0, 0, 5, rfl, by rw [HV2.out]; rfl, by rw [HV2.out]; exact World.ownsRow_nil _ _ _ _, by rw [HV2.out]; simp, by omega, hal⟩
end Go.Proofs.Ytakdaandbdbdnaa
namespace Go.Proofs.Ytakdaandbdbdnaa
open Go.RowKit Go.Maps
set_option linter.unusedVariables false
set_option maxRecDepth 100000

/-- What is seen after a write that was taken: this page is the data, each other page of this file is what it was. -/
theorem page_write {fs : List PF} {ps : List PP} {cp fu : Int} {de : Bool} {nm : ByteArray} {pg : Int} {bs : List Int} (h : rwI fs ps cp fu de nm pg bs = 0) (t : Int) :
    pageP (lastF (ps ++ [(nm, pg, bs)]) fs) nm t = if t = pg then bs else pageP (lastF ps fs) nm t := by
  obtain ⟨v1, v2, v3, v4, v5, v6, v7⟩ := valid_write h
  obtain ⟨q1, q2, q3, q4, q5⟩ := implV_parts v3
  have hI := inv_lastW ps fs (inv_all q3)
  have hI2 := inv_lastW (ps ++ [(nm, pg, bs)]) fs (inv_all q3)
  have hpg : ((pg.toNat : Nat) : Int) = pg := by omega
  have hd := do_write (nm := nm) (pg := pg.toNat) (bs := bs) hI (by omega) v4 nm t
  rw [pageP_of hI2, pageP_of hI, lastF_snoc]
  show (pageOf (doP (lastF ps fs) nm pg.toNat bs) nm t).getD [] = _
  rw [hd]
  unfold writeS
  by_cases ht : t = pg
  · rw [if_pos ⟨rfl, by omega⟩, if_pos ht]
    have : (oldS (pageOf (lastF ps fs)) nm ((pg.toNat : Nat) : Int)).drop 128 = [] := by
      apply List.drop_eq_nil_of_le
      unfold oldS
      cases hS : pageOf (lastF ps fs) nm ((pg.toNat : Nat) : Int) with
      | some cs => rw [pageOf_data] at hS; exact Nat.le_of_eq (pageF_len hS).1
      | none => exact Nat.le_of_eq zeros_len
    rw [this, List.append_nil, List.take_of_length_le (by omega)]
    rfl
  · rw [if_neg (fun e => ht (by omega)), if_neg ht]
    unfold fillS
    rw [if_neg (by omega)]
/-- The four readings of the law. -/
theorem read_write {fs : List PF} {ps : List PP} {cp fu : Int} {de : Bool} {nm : ByteArray} {pg : Int} {bs : List Int} (h : rwI fs ps cp fu de nm pg bs = 0) :
    readP fs (ps ++ [(nm, pg, bs)]) cp (-1) nm pg = bs ∧ (∀ t, t ≠ pg → readP fs (ps ++ [(nm, pg, bs)]) cp (-1) nm t = readP fs ps cp fu nm t) ∧ readP (lastF (ps ++ [(nm, pg, bs)]) fs) [] cp (-1) nm pg = bs := by
  obtain ⟨v1, v2, v3, v4, v5, v6, v7⟩ := valid_write h
  have vs := valid_sync v1
  refine ⟨?_, fun t ht => ?_, ?_⟩
  · unfold readP
    rw [if_pos v1, page_write h, if_pos rfl]
  · unfold readP
    rw [if_pos v1, if_pos v3, page_write h, if_neg ht]
  · unfold readP
    rw [if_pos vs]
    show pageP (lastF (ps ++ [(nm, pg, bs)]) fs) nm pg = bs
    rw [page_write h, if_pos rfl]
end Go.Proofs.Ytakdaandbdbdnaa
namespace Go.Proofs.Ytakdaandbdbdnaa
open Go.RowKit
set_option linter.unusedVariables false
set_option maxRecDepth 100000

def toBx (bs : List Int) : ByteArray := ⟨(bs.map fun x => UInt8.ofNat x.toNat).toArray⟩
theorem str_convx {w : World} {A B : Nat} {a : Option Addr} {n c : Nat} {bs : List Int} (h : BytesAt w A B a n c bs) : (convert 22 9 (.slice a n c)).run Try.prog w = .ok (.string (toBx bs)) w := by
  obtain ⟨hl, hnc, hc, hw, hcell, hnil⟩ := h
  rcases a with _ | a
  · have hn : n = 0 := by
      by_cases h0 : n = 0
      · exact h0
      · obtain ⟨_, _, h1, _⟩ := hcell (by omega); cases h1
    subst hn
    have hc0 := hnil rfl
    subst hc0
    have hb : bs = [] := List.eq_nil_of_length_eq_zero hl
    subst hb
    rw [run_convert_bytes_string (P := Try.prog) w _ _ 5 none 0 0 Try.underlying22 Try.underlying5 Try.underlying9]
    rfl
  · subst hl
    have h1 := run_convert_bytes_back (P := Try.prog) w 22 9 5 a c (bs.map fun x => UInt8.ofNat x.toNat) Try.underlying22 Try.underlying5 Try.underlying9 ?_
    · simpa [toBx] using h1
    · intro j hj
      simp at hj
      obtain ⟨b, off, e1, e2, e3⟩ := hcell (by omega)
      cases e1
      have h5 : (⟨b, off, none⟩ : Addr).add j = ⟨b, off + j, none⟩ := by simp [Addr.add]
      rw [h5, e3 j hj]
      have hx := hw (bs[j]) (List.getElem_mem hj)
      simp [List.getD, hj, UInt8.toNat_ofNat']
      omega
theorem lwBytes_same (a : Option Addr) (n c : Nat) (bs : List Int) (a2 : Option Addr) (n2 c2 : Nat) (w : World) (A B A2 B2 : Nat) (h : BytesAt w A B a n c bs) (h2 : BytesAt w A2 B2 a2 n2 c2 bs) :
    Calls Try.prog 11 #[.slice a n c, .slice a2 n2 c2] w fun e w' => e = .returned (.bool true) ∧ w' = w := by
  have s1 := str_convx h
  have s2 := str_convx h2
  have hc : ((toBx bs).toList == (toBx bs).toList) = true := by simp
  go_enter Try.func11, Try.ntmps11
  go_wp2
  go_ret
  exact ⟨rfl, rfl⟩
set_option maxHeartbeats 800000 in
theorem lwFiles_same (a : Option Addr) (n c : Nat) (a2 : Option Addr) (c2 : Nat) (fs : List PF) (w : World) (A B A2 B2 : Nat) (hB : B ≤ w.heap.size) (hB2 : B2 ≤ w.heap.size) (h : FilesAt w A B a n c fs) (k : FilesAt w A2 B2 a2 n c2 fs) :
    Calls Try.prog 14 #[.slice a n c, .slice a2 n c2] w fun e w' => e = .returned (.bool true) ∧ Below w.heap.size w w' := by
  obtain ⟨hl, hnc, hc, hcell⟩ := h
  obtain ⟨_, _, _, kcell⟩ := k
  unfold maxLen at hc
  have hne : ((n : Int) != (n : Int)) = false := by simp
  go_enter Try.func14, Try.ntmps14
  go_wp2
  go_loopw [5] (fun i wr => ∃ k : Nat, k ≤ n ∧ i = .int .i64 k ∧ Below w.heap.size w wr) (fun i _ => n - (intOf i).toNat)
  case atStart => exact ⟨0, Nat.zero_le _, rfl, Below.refl _ _⟩
  case round =>
    obtain ⟨k, hk, rfl, hbel⟩ := hrel
    by_cases hlt : k < n
    · obtain ⟨b, off, rfl, hb, hcb⟩ := hcell (by omega)
      obtain ⟨b2, off2, rfl, hb2, hcb2⟩ := kcell (by omega)
      have e1 := (hcb k hlt).below hb (hbel.mono hB)
      have e2 := (hcb2 k hlt).below hb2 (hbel.mono hB2)
      clear hcell kcell hcb hcb2
      generalize fs.getD k (ByteArray.empty, []) = f at e1 e2
      obtain ⟨p1, p2, pa, pn, pc, p3, p4⟩ := e1
      obtain ⟨q1, q2, qa, qn, qc, q3, q4⟩ := e2
      have hnn : (f.1.toList == f.1.toList) = true := by simp
      have hs := hbel.size
      go_wp2
      go_quiet ((go_at_call 11; exact Calls.quiet_of_same (lwBytes_same _ _ _ f.2 _ _ _ _ A B A2 B2 (by exact p4) (by exact q4))))
      go_wp2
      go_roundw
      case rel => exact ⟨k + 1, by omega, by go_num, hbel.trans ⟨rfl, rfl, rfl, Nat.le_refl _, fun _ _ => rfl⟩⟩
      case measure => simp [intOf]; omega
    · go_wp2
      go_ret
      exact ⟨rfl, hbel⟩
end Go.Proofs.Ytakdaandbdbdnaa
namespace Go.Proofs.Ytakdaandbdbdnaa
open Go.RowKit
set_option linter.unusedVariables false
set_option maxRecDepth 100000

/-- A kid and an entry of a page as plain data. -/
abbrev PK := ByteArray × Int
abbrev PE := ByteArray × ByteArray × Int × Int
def dK : PK := (ByteArray.empty, 0)
def dE : PE := (ByteArray.empty, ByteArray.empty, 0, 0)
def I64 (x : Int) : Prop := -9223372036854775808 ≤ x ∧ x ≤ 9223372036854775807
def kidCells (k : PK) : List Value := [.string k.1, .int .i64 k.2]
def entCells (e : PE) : List Value := [.string e.1, .string e.2.1, .int .i64 e.2.2.1, .int .i64 e.2.2.2]
def kidFit (k : PK) : Prop := k.1.size ≤ maxLen ∧ I64 k.2
def entFit (e : PE) : Prop := e.1.size ≤ maxLen ∧ e.2.1.size ≤ maxLen ∧ I64 e.2.2.1 ∧ I64 e.2.2.2

/-- A list of plain structs behind a slice: m cells each, 'cs' the cells of one. -/
def RowsAt {α : Type} (w : World) (A B : Nat) (m : Nat) (cs : α → List Value) (fit : α → Prop) (d : α) (a : Option Addr) (n c : Nat) (xs : List α) : Prop :=
  xs.length = n ∧ n ≤ c ∧ c ≤ maxLen ∧ (∀ i, i < n → fit (xs.getD i d)) ∧ (0 < n → ∃ b off, a = some ⟨b, off, none⟩ ∧ (A ≤ b ∧ b < B) ∧ ∀ i, i < n → ∀ j, j < m → w.cell? ⟨b, off + i * m + j, none⟩ = (cs (xs.getD i d))[j]?)
abbrev KidsAt (w : World) (A B : Nat) (a : Option Addr) (n c : Nat) (ks : List PK) : Prop := RowsAt w A B 2 kidCells kidFit dK a n c ks
abbrev EntsAt (w : World) (A B : Nat) (a : Option Addr) (n c : Nat) (es : List PE) : Prop := RowsAt w A B 4 entCells entFit dE a n c es

theorem RowsAt.keep {α : Type} {w w' : World} {A B m : Nat} {cs : α → List Value} {fit : α → Prop} {d : α} {a : Option Addr} {n c : Nat} {xs : List α} (h : RowsAt w A B m cs fit d a n c xs) (hk : Keeps A B w w') : RowsAt w' A B m cs fit d a n c xs := by
  obtain ⟨h1, h2, h3, h4, h5⟩ := h
  refine ⟨h1, h2, h3, h4, fun hn => ?_⟩
  obtain ⟨b, off, rfl, hlt, hc⟩ := h5 hn
  exact ⟨b, off, rfl, hlt, fun i hi j hj => (hk.cell hlt.1 hlt.2).trans (hc i hi j hj)⟩
theorem RowsAt.below {α : Type} {w w' : World} {A B m : Nat} {cs : α → List Value} {fit : α → Prop} {d : α} {a : Option Addr} {n c : Nat} {xs : List α} (h : RowsAt w A B m cs fit d a n c xs) (hb : Below B w w') : RowsAt w' A B m cs fit d a n c xs := h.keep (.of_below hb)
theorem RowsAt.up {α : Type} {w : World} {A B A' B' m : Nat} {cs : α → List Value} {fit : α → Prop} {d : α} {a : Option Addr} {n c : Nat} {xs : List α} (h : RowsAt w A B m cs fit d a n c xs) (hA : A' ≤ A) (hB : B ≤ B') : RowsAt w A' B' m cs fit d a n c xs := by
  obtain ⟨h1, h2, h3, h4, h5⟩ := h
  refine ⟨h1, h2, h3, h4, fun hn => ?_⟩
  obtain ⟨b, off, rfl, hlt, hc⟩ := h5 hn
  exact ⟨b, off, rfl, ⟨by omega, by omega⟩, hc⟩
/-- The blocks that stay as they were outside S. -/
theorem RowsAt.fr {α : Type} {S : Nat → Prop} {w w' : World} {A B m : Nat} {cs : α → List Value} {fit : α → Prop} {d : α} {a : Option Addr} {n c : Nat} {xs : List α} (h : RowsAt w A B m cs fit d a n c xs) (hf : Fr S w w') (hB : B ≤ w.heap.size) (hS : ∀ g, S g → g < A ∨ B ≤ g) : RowsAt w' A B m cs fit d a n c xs :=
  h.keep fun k h1 h2 => hf.block k (by omega) (fun hs => by have := hS k hs; omega)

/-- The cells of one element. -/
theorem KidsAt.at {w : World} {A B : Nat} {a : Option Addr} {n c : Nat} {ks : List PK} (h : KidsAt w A B a n c ks) {i : Nat} (hi : i < n) :
    ∃ b off, a = some ⟨b, off, none⟩ ∧ (A ≤ b ∧ b < B) ∧ kidFit (ks.getD i dK) ∧ w.cell? ⟨b, off + i * 2, none⟩ = some (.string (ks.getD i dK).1) ∧ w.cell? ⟨b, off + i * 2 + 1, none⟩ = some (.int .i64 (ks.getD i dK).2) := by
  obtain ⟨h1, h2, h3, h4, h5⟩ := h
  obtain ⟨b, off, rfl, hlt, hc⟩ := h5 (by omega)
  exact ⟨b, off, rfl, hlt, h4 i hi, by simpa [kidCells] using hc i hi 0 (by omega), by simpa [kidCells] using hc i hi 1 (by omega)⟩
theorem EntsAt.at {w : World} {A B : Nat} {a : Option Addr} {n c : Nat} {es : List PE} (h : EntsAt w A B a n c es) {i : Nat} (hi : i < n) :
    ∃ b off, a = some ⟨b, off, none⟩ ∧ (A ≤ b ∧ b < B) ∧ entFit (es.getD i dE) ∧ w.cell? ⟨b, off + i * 4, none⟩ = some (.string (es.getD i dE).1) ∧ w.cell? ⟨b, off + i * 4 + 1, none⟩ = some (.string (es.getD i dE).2.1) ∧ w.cell? ⟨b, off + i * 4 + 2, none⟩ = some (.int .i64 (es.getD i dE).2.2.1) ∧ w.cell? ⟨b, off + i * 4 + 3, none⟩ = some (.int .i64 (es.getD i dE).2.2.2) := by
  obtain ⟨h1, h2, h3, h4, h5⟩ := h
  obtain ⟨b, off, rfl, hlt, hc⟩ := h5 (by omega)
  exact ⟨b, off, rfl, hlt, h4 i hi, by simpa [entCells] using hc i hi 0 (by omega), by simpa [entCells] using hc i hi 1 (by omega), by simpa [entCells] using hc i hi 2 (by omega), by simpa [entCells] using hc i hi 3 (by omega)⟩

/-- The cells of a list, one element behind the other. -/
def rowsOf {α : Type} (cs : α → List Value) (xs : List α) : List Value := xs.flatMap cs
theorem rowsOf_get {α : Type} {m : Nat} {cs : α → List Value} (hm : ∀ x, (cs x).length = m) (d : α) : ∀ (xs : List α) (i j : Nat), i < xs.length → j < m → (rowsOf cs xs)[i * m + j]? = (cs (xs.getD i d))[j]?
  | [], i, j, hi, _ => by simp at hi
  | x :: r, 0, j, _, hj => by simp [rowsOf, List.getElem?_append_left (show j < (cs x).length by rw [hm]; exact hj)]
  | x :: r, i + 1, j, hi, hj => by
    rw [show (i + 1) * m + j = m + (i * m + j) by rw [Nat.add_mul]; omega]
    have := rowsOf_get hm d r i j (by simpa using hi) hj
    simp only [rowsOf, List.flatMap_cons] at this ⊢
    rw [List.getElem?_append_right (by rw [hm]; omega), hm, show m + (i * m + j) - m = i * m + j by omega, this]
    simp
theorem rowsOf_length {α : Type} {m : Nat} {cs : α → List Value} (hm : ∀ x, (cs x).length = m) : ∀ (xs : List α), (rowsOf cs xs).length = xs.length * m
  | [] => by simp [rowsOf]
  | x :: r => by
    have := rowsOf_length hm r
    simp only [rowsOf, List.flatMap_cons, List.length_append, List.length_cons, hm] at this ⊢
    rw [this, Nat.add_mul]; omega
/-- What is owned is there. -/
theorem RowsAt.of_owns {α : Type} {w : World} {base e m n : Nat} {cs : α → List Value} {fit : α → Prop} {d : α} {v : Value} {xs : List α} (hm : ∀ x, (cs x).length = m) (h : w.ownsRow base e m v n (rowsOf cs xs)) (hl : xs.length = n) (hf : ∀ i, i < n → fit (xs.getD i d)) : ∃ a c, v = .slice a n c ∧ RowsAt w base w.heap.size m cs fit d a n c xs := by
  rcases h.2 with ⟨rfl, rfl⟩ | ⟨g, cap, cur, rfl, hg, hgg, h1, h2, _⟩
  · exact ⟨none, 0, rfl, hl, Nat.le_refl _, Nat.zero_le _, hf, fun h => absurd h (Nat.lt_irrefl _)⟩
  · refine ⟨_, _, rfl, hl, h1, h2, hf, fun hn => ⟨g, 0, rfl, h.lt g rfl, fun i hi j hj => ?_⟩⟩
    have hlen : i * m + j < n * m := by
      have : (i + 1) * m ≤ n * m := Nat.mul_le_mul_right m (by omega)
      rw [Nat.add_mul] at this; omega
    rw [Nat.zero_add, h.cellAt (i * m + j) hlen, rowsOf_get hm d xs i j (by omega) hj]
theorem owns_set {w : World} {base e size : Nat} {v : Value} {n : Nat} {xs : List Value} (h : w.ownsRow base e size v n xs) {p : Addr} (hp : ∀ g, v.ownBlock = some g → p.block ≠ g) (u : Value) : (w.setCell p u).ownsRow base e size v n xs := by
  refine ⟨h.1, ?_⟩
  rcases h.2 with hn | ⟨g, cap, cur, rfl, hbg, hgg, rest⟩
  · exact .inl hn
  · exact .inr ⟨g, cap, cur, rfl, hbg, (Below.heap_setCell w p u g (fun e => hp g rfl e.symm)).trans hgg, rest⟩
theorem owns_base {w : World} {base base' e size : Nat} {v : Value} {n : Nat} {xs : List Value} (h : w.ownsRow base e size v n xs) (hb : base' ≤ base) : w.ownsRow base' e size v n xs := by
  refine ⟨h.1, ?_⟩
  rcases h.2 with hn | ⟨g, cap, cur, rfl, hbg, rest⟩
  · exact .inl hn
  · exact .inr ⟨g, cap, cur, rfl, Nat.le_trans hb hbg, rest⟩
theorem kc2 : ∀ x, (kidCells x).length = 2 := fun _ => rfl
theorem ec4 : ∀ x, (entCells x).length = 4 := fun _ => rfl
end Go.Proofs.Ytakdaandbdbdnaa
namespace Go.Proofs.Ytakdaandbdbdnaa
open Go.RowKit
set_option linter.unusedVariables false
set_option maxRecDepth 100000

theorem owns_someD {w : World} {base e size n c : Nat} {a : Option Addr} {xs : List Value} (h : w.ownsRow base e size (.slice a n c) n xs) (hn : 0 < n) : ∃ g, a = some ⟨g, 0, none⟩ := by
  rcases h.2 with ⟨h0, h1⟩ | ⟨g, cap, cur, h0, _⟩
  · omega
  · injection h0 with h1; exact ⟨g, h1⟩
/-- The cursor of a draw. -/
def DCur (w : World) (C A B : Nat) : Prop :=
  B ≤ C ∧ ∃ (a : Option Addr) (n c : Nat) (bs : List Int) (i : Nat) (h : Int), w.heap[C]? = some (.cells #[.slice a n c, .int .i64 i, .int .i64 h] 106) ∧ i ≤ n ∧ BytesAt w A B a n c bs
theorem and_255 (y : Int) : 0 ≤ bits .and .i64 y 255 ∧ bits .and .i64 y 255 ≤ 255 := by
  have h : bits .and .i64 y 255 = IntKind.i64.wrap ((BitVec.ofInt 64 y &&& BitVec.ofInt 64 255).toNat : Int) := rfl
  have h2 : (BitVec.ofInt 64 y &&& BitVec.ofInt 64 255).toNat ≤ 255 := by
    rw [BitVec.toNat_and]
    exact Nat.le_trans Nat.and_le_right (by decide)
  rw [h, IntKind.wrap_i64]
  omega
theorem box_three {w : World} {N : Nat} {v0 v1 v2 : Value} {t : TypeId} (h : w.heap[N]? = some (.cells #[v0, v1, v2] t)) : w.cell? ⟨N, 0, none⟩ = some v0 ∧ w.cell? ⟨N, 1, none⟩ = some v1 ∧ w.cell? ⟨N, 2, none⟩ = some v2 := by
  simp [World.cell?, h]
theorem box_thaw {w : World} {M t : Nat} {cs : Array Value} (h : w.heap[M]? = some (.cells cs t)) (j : Nat) : w.frozen? ⟨M, j, none⟩ = false := by simp [World.frozen?, h]
theorem getD_byteD {bs : List Int} (hw : ∀ x ∈ bs, 0 ≤ x ∧ x ≤ 255) (k : Nat) : 0 ≤ bs.getD k 0 ∧ bs.getD k 0 ≤ 255 := by
  by_cases h : k < bs.length
  · rw [show bs.getD k 0 = bs[k] by simp [List.getD, h]]; exact hw _ (List.getElem_mem h)
  · rw [show bs.getD k 0 = 0 by simp [List.getD, Nat.le_of_not_lt h]]; omega
set_option maxHeartbeats 800000 in
theorem l1Byte_any (C A B : Nat) (w : World) (h : DCur w C A B) (hBw : B ≤ w.heap.size) :
    Calls Try.prog 77 #[.pointer (some ⟨C, 0, none⟩)] w fun e w' => ∃ x : Nat, e = .returned (.int .i64 x) ∧ x ≤ 255 ∧ DCur w' C A B ∧ Fr (fun g => g = C) w w' := by
  obtain ⟨hBC, a, n, c, bs, i, hh, hbox, hi, hb⟩ := h
  have hc := hb.2.2.1
  have hnc := hb.2.1
  unfold maxLen at hc
  have hCl := (Array.getElem?_eq_some_iff.1 hbox).1
  obtain ⟨c0, c1, c2⟩ := box_three hbox
  have ff := box_thaw hbox
  go_enter Try.func77, Try.ntmps77
  go_wp2_with fail
  have hbox1 : (w.setCell ⟨C, 2, none⟩ (.int .i64 (wrap64 (wrap64 (hh * 6364136223846793005) + 1442695040888963407)))).heap[C]? = some (.cells #[.slice a n c, .int .i64 i, .int .i64 (wrap64 (wrap64 (hh * 6364136223846793005) + 1442695040888963407))] 106) := by simp [World.setCell, Array.getElem?_modify, hbox]
  have hF1 : Fr (fun g => g = C) w (w.setCell ⟨C, 2, none⟩ (.int .i64 (wrap64 (wrap64 (hh * 6364136223846793005) + 1442695040888963407)))) := ⟨rfl, rfl, rfl, by simp [World.setCell], fun k _ hk => Below.heap_setCell w _ _ k hk⟩
  generalize w.setCell ⟨C, 2, none⟩ (.int .i64 (wrap64 (wrap64 (hh * 6364136223846793005) + 1442695040888963407))) = w1 at hbox1 hF1 ⊢
  generalize wrap64 (wrap64 (hh * 6364136223846793005) + 1442695040888963407) = h1 at hbox1
  have hb1 : BytesAt w1 A B a n c bs := hb.keep (fun k k1 k2 => hF1.block k (by omega) (by omega))
  clear c0 c1 c2 ff hb hbox
  obtain ⟨c0, c1, c2⟩ := box_three hbox1
  have ff := box_thaw hbox1
  go_quiet (fail)
  have hx := and_255 (bits .xor .i64 (h1 / 8589934592) (h1 / 35184372088832))
  generalize bits .and .i64 (bits .xor .i64 (h1 / 8589934592) (h1 / 35184372088832)) 255 = x0 at hx ⊢
  obtain ⟨x, rfl⟩ : ∃ x : Nat, x0 = (x : Int) := ⟨x0.toNat, by omega⟩
  have hbox2 : (w1.drewN nq).heap[C]? = some (.cells #[.slice a n c, .int .i64 i, .int .i64 h1] 106) := hbox1
  have hb2 : BytesAt (w1.drewN nq) A B a n c bs := hb1
  have hF2 : Fr (fun g => g = C) w (w1.drewN nq) := hF1.trans (Fr.of_below ⟨rfl, rfl, rfl, Nat.le_refl _, fun _ _ => rfl⟩)
  generalize w1.drewN nq = w2 at hbox2 hb2 hF2 ⊢
  clear c0 c1 c2 ff hbox1 hb1 hF1
  obtain ⟨c0, c1, c2⟩ := box_three hbox2
  have ff := box_thaw hbox2
  have hs2 := hF2.size
  by_cases hlt : i < n
  · obtain ⟨g, o, rfl, hg, hcell⟩ := hb2.2.2.2.2.1 (by omega)
    have hgC : g ≠ C := by omega
    have e1 := hcell i hlt
    clear hcell
    go_wp2_with fail
    go_quiet (fail)
    have hboxb : (w2.drewN nq).heap[C]? = some (.cells #[.slice (some ⟨g, o, none⟩) n c, .int .i64 i, .int .i64 h1] 106) := hbox2
    have hbb : BytesAt (w2.drewN nq) A B (some ⟨g, o, none⟩) n c bs := hb2
    have hFb : Fr (fun g => g = C) w (w2.drewN nq) := hF2.trans (Fr.of_below ⟨rfl, rfl, rfl, Nat.le_refl _, fun _ _ => rfl⟩)
    have e2 : (w2.drewN nq).cell? ⟨g, o + i, none⟩ = some (.int .u8 (bs.getD i 0)) := e1
    generalize w2.drewN nq = wb at hboxb hbb hFb e2 ⊢
    clear c0 c1 c2 ff hbox2 hb2 hF2 e1
    obtain ⟨c0, c1, c2⟩ := box_three hboxb
    generalize bs.getD i 0 = y at e2
    go_wp2_with fail
    go_quiet (fail)
    have hz := and_255 (wrap64 ((x : Int) + wrap64 y))
    generalize bits .and .i64 (wrap64 ((x : Int) + wrap64 y)) 255 = z0 at hz ⊢
    obtain ⟨z, rfl⟩ : ∃ z : Nat, z0 = (z : Int) := ⟨z0.toNat, by omega⟩
    have hbox3 : (wb.drewN nq).heap[C]? = some (.cells #[.slice (some ⟨g, o, none⟩) n c, .int .i64 i, .int .i64 h1] 106) := hboxb
    have hb3 : BytesAt (wb.drewN nq) A B (some ⟨g, o, none⟩) n c bs := hbb
    have hF3 : Fr (fun g => g = C) w (wb.drewN nq) := hFb.trans (Fr.of_below ⟨rfl, rfl, rfl, Nat.le_refl _, fun _ _ => rfl⟩)
    generalize wb.drewN nq = w3 at hbox3 hb3 hF3 ⊢
    have hs3 := hF3.size
    clear c0 c1 c2 hboxb hbb hFb e2
    obtain ⟨c0, c1, c2⟩ := box_three hbox3
    have ff := box_thaw hbox3
    have hbox4 : (w3.setCell ⟨C, 1, none⟩ (.int .i64 ((i : Int) + 1))).heap[C]? = some (.cells #[.slice (some ⟨g, o, none⟩) n c, .int .i64 ((i : Int) + 1), .int .i64 h1] 106) := by simp [World.setCell, Array.getElem?_modify, hbox3]
    have hF4 : Fr (fun g => g = C) w3 (w3.setCell ⟨C, 1, none⟩ (.int .i64 ((i : Int) + 1))) := ⟨rfl, rfl, rfl, by simp [World.setCell], fun k _ hk => Below.heap_setCell w3 _ _ k hk⟩
    have hb4 : BytesAt (w3.setCell ⟨C, 1, none⟩ (.int .i64 ((i : Int) + 1))) A B (some ⟨g, o, none⟩) n c bs := hb3.keep (fun k k1 k2 => hF4.block k (by omega) (by omega))
    go_wp2
    go_ret
    exact ⟨z, rfl, by omega, ⟨hBC, _, n, c, bs, i + 1, h1, hbox4, by omega, hb4⟩, hF3.trans hF4⟩
  · go_wp2_with fail
    go_quiet (fail)
    go_wp2
    go_ret
    exact ⟨x, rfl, by omega, ⟨hBC, a, n, c, bs, i, h1, hbox2, hi, hb2⟩, hF2.trans (Fr.of_below ⟨rfl, rfl, rfl, Nat.le_refl _, fun _ _ => rfl⟩)⟩
set_option maxHeartbeats 800000 in
theorem l1New_any (a : Option Addr) (n c : Nat) (bs : List Int) (w : World) (A B : Nat) (hB : B ≤ w.heap.size) (h : BytesAt w A B a n c bs) :
    Calls Try.prog 29 #[.slice a n c] w fun e w' => ∃ C, e = .returned (.pointer (some ⟨C, 0, none⟩)) ∧ w.heap.size ≤ C ∧ DCur w' C A B ∧ Below w.heap.size w w' := by
  have hc := h.2.2.1
  have hnc := h.2.1
  have hcell := h.2.2.2.2.1
  unfold maxLen at hc
  go_enter Try.func29, Try.ntmps29
  go_wp2
  go_loop [3, 4] (fun hv i => ∃ (k : Nat) (x : Int), k ≤ n ∧ i = .int .i64 k ∧ hv = .int .i64 x) (fun _ i => n - (intOf i).toNat)
  case atStart => exact ⟨0, _, Nat.zero_le _, rfl, rfl⟩
  case round =>
    obtain ⟨k, x, hk, rfl, rfl⟩ := hrel
    by_cases hlt : k < n
    · obtain ⟨b, off, rfl, hb, hcb⟩ := hcell (by omega)
      have e1 := hcb k hlt
      clear hcell hcb
      go_wp2
      go_round
      case rel => exact ⟨k + 1, _, by omega, by go_num, rfl⟩
      case measure => simp [intOf]; omega
    · clear hcell
      have hbox := heap_alloc_new w (.cells #[.slice a n c, .int .i64 0, .int .i64 x] 106)
      have hb1 : Below w.heap.size w (w.alloc (.cells #[.slice a n c, .int .i64 0, .int .i64 x] 106)) := (Below.refl _ _).alloc (Nat.le_refl _) _
      go_wp2
      go_ret
      exact ⟨w.heap.size, rfl, Nat.le_refl _, ⟨hB, a, n, c, bs, 0, x, hbox, Nat.zero_le _, h.below (hb1.mono hB)⟩, hb1⟩
theorem DCur.fr {w w' : World} {C A B : Nat} (h : DCur w C A B) (hf : Fr (fun g => g = C) w w') (hB : B ≤ w.heap.size) : B ≤ w'.heap.size := Nat.le_trans hB hf.size
theorem DCur.below {w w' : World} {C A B : Nat} (h : DCur w C A B) (hb : Below w.heap.size w w') : DCur w' C A B := by
  obtain ⟨hBC, a, n, c, bs, i, hh, hbox, hi, hby⟩ := h
  have hl := (Array.getElem?_eq_some_iff.1 hbox).1
  exact ⟨hBC, a, n, c, bs, i, hh, (hb.block C hl).trans hbox, hi, hby.below (hb.mono (by omega))⟩
theorem DCur.lt {w : World} {C A B : Nat} (h : DCur w C A B) : C < w.heap.size := by
  obtain ⟨hBC, a, n, c, bs, i, hh, hbox, hi, hby⟩ := h
  exact (Array.getElem?_eq_some_iff.1 hbox).1
theorem DCur.le {w : World} {C A B : Nat} (h : DCur w C A B) : B ≤ w.heap.size := Nat.le_of_lt (Nat.lt_of_le_of_lt h.1 h.lt)
/-- What a draw gives, and leaves. -/
def DPost (C A B : Nat) (w w' : World) : Prop := DCur w' C A B ∧ Fr (fun g => g = C) w w'
set_option maxHeartbeats 800000 in
theorem l1Below_any (C A B : Nat) (w : World) (h : DCur w C A B) (m : Int) (h1 : 1 ≤ m) (h2 : m ≤ 4294967296) :
    Calls Try.prog 32 #[.pointer (some ⟨C, 0, none⟩), .int .i64 m] w fun e w' => ∃ x : Nat, e = .returned (.int .i64 x) ∧ (x : Int) < m ∧ DCur w' C A B ∧ Fr (fun g => g = C) w w' := by
  go_enter Try.func32, Try.ntmps32
  have hm0 : m ≠ 0 := by omega
  by_cases hm : m ≤ 256
  · go_wp2_with fail
    refine (l1Byte_any C A B w h h.le).mono ?_
    rintro e w1 ⟨x, rfl, hx, hD, hF⟩
    go_wp2
    obtain ⟨r, hr⟩ : ∃ r : Nat, (x : Int) % m = (r : Int) := ⟨((x : Int) % m).toNat, (Int.toNat_of_nonneg (Int.emod_nonneg _ hm0)).symm⟩
    have hlt := Int.emod_lt_of_pos (x : Int) (show 0 < m by omega)
    rw [hr] at hlt ⊢
    go_ret
    exact ⟨r, rfl, hlt, hD, hF⟩
  · go_wp2_with fail
    refine (l1Byte_any C A B w h h.le).mono ?_
    rintro e w1 ⟨x, rfl, hx, hD1, hF1⟩
    go_wp2_with fail
    refine (l1Byte_any C A B w1 hD1 hD1.le).mono ?_
    rintro e w2 ⟨y, rfl, hy, hD2, hF2⟩
    go_wp2_with fail
    refine (l1Byte_any C A B w2 hD2 hD2.le).mono ?_
    rintro e w3 ⟨z, rfl, hz, hD3, hF3⟩
    go_wp2
    obtain ⟨r, hr⟩ : ∃ r : Nat, ((x : Int) * 65536 + (y : Int) * 256 + (z : Int)) % m = (r : Int) := ⟨(((x : Int) * 65536 + (y : Int) * 256 + (z : Int)) % m).toNat, (Int.toNat_of_nonneg (Int.emod_nonneg _ hm0)).symm⟩
    have hlt := Int.emod_lt_of_pos ((x : Int) * 65536 + (y : Int) * 256 + (z : Int)) (show 0 < m by omega)
    rw [hr] at hlt ⊢
    go_ret
    exact ⟨r, rfl, hlt, hD3, (hF1.trans hF2).trans hF3⟩
theorem l1Once_any (C A B : Nat) (w : World) (h : DCur w C A B) (m : Int) (h1 : 1 ≤ m) (h2 : m ≤ 4294967296) :
    Calls Try.prog 75 #[.pointer (some ⟨C, 0, none⟩), .int .i64 m] w fun e w' => ∃ b : Bool, e = .returned (.bool b) ∧ DCur w' C A B ∧ Fr (fun g => g = C) w w' := by
  go_enter Try.func75, Try.ntmps75
  go_wp2_with fail
  refine (l1Below_any C A B w h m h1 h2).mono ?_
  rintro e w1 ⟨x, rfl, hx, hD, hF⟩
  go_wp2
  go_ret
  exact ⟨_, rfl, hD, hF⟩
end Go.Proofs.Ytakdaandbdbdnaa
