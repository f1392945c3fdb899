import Derived.Test.YtnpndbicmamggaaGreatGAA
import Derived.Test.YtnpndbicmamggaaGreatGBG
import Derived.Test.YtnpndbicmamggaaGreatGBK
import Derived.Test.YtnpndbicmamggaaGreatGBL
import Derived.Deep.CutRange
import Derived.Test.YtnpndbicmamggaaGreatChecked
import Derived.Deep.Slices
import Derived.Test.YtnpndbicmamggaaGreatRows
import Derived.WalkKit
import Derived.ProofKit
import Derived.OpenShut
import Derived.ShutString
import Derived.ChangeOld
import Derived.Below
namespace Go.Proofs.YtnpndbicmamggaaGreat
open Go.RowKit
set_option linter.unusedVariables false
set_option maxRecDepth 100000

theorem meta_same (fs : List PF) (ps : List PP) (cp fu : Int) (nm : ByteArray) : metaI fs ps cp fu nm = metaS fs ps cp fu nm := by
  unfold metaI metaS fileB
  rw [valid_eq]
  split
  · exact pages_same _ _ _
  · exact (empty_file 2).symm
set_option maxHeartbeats 800000 in
theorem eqMeta_same (ri rr rc : Int) (w : World) :
    Calls Tryz.prog 19 #[.agg #[.int .i64 ri, .int .i64 rr, .int .i64 rc], .agg #[.int .i64 ri, .int .i64 rr, .int .i64 rc]] w fun e w' => e = .returned (.bool true) ∧ Below w.heap.size w w' := by
  have hb : Below w.heap.size w ((w.alloc (.cells #[.int .i64 ri, .int .i64 rr, .int .i64 rc] 28)).alloc (.cells #[.int .i64 ri, .int .i64 rr, .int .i64 rc] 28)) := ((Below.refl _ _).alloc (Nat.le_refl _) _).alloc (by simp) _
  have h1 : (ri != ri) = false := by simp
  have h2 : (rr != rr) = false := by simp
  have h3 : (rc != rc) = false := by simp
  go_enter Tryz.func19, Tryz.ntmps19
  go_wp2
  go_ret
  exact ⟨rfl, hb⟩
set_option maxHeartbeats 800000 in
theorem eqMetaRes_same (ro : Bool) (rx ri rr rc : Int) (w : World) :
    Calls Tryz.prog 8 #[.agg #[.bool ro, .int .i64 rx, .int .i64 ri, .int .i64 rr, .int .i64 rc], .agg #[.bool ro, .int .i64 rx, .int .i64 ri, .int .i64 rr, .int .i64 rc]] w fun e w' => e = .returned (.bool true) ∧ Below w.heap.size w w' := by
  have hb : Below w.heap.size w ((w.alloc (.cells #[.bool ro, .int .i64 rx, .int .i64 ri, .int .i64 rr, .int .i64 rc] 30)).alloc (.cells #[.bool ro, .int .i64 rx, .int .i64 ri, .int .i64 rr, .int .i64 rc] 30)) := ((Below.refl _ _).alloc (Nat.le_refl _) _).alloc (by simp) _
  have h0 : (ro != ro) = false := by simp
  have h1 : (rx != rx) = false := by simp
  go_enter Tryz.func8, Tryz.ntmps8
  go_wp2_with fail
  generalize (w.alloc (.cells #[.bool ro, .int .i64 rx, .int .i64 ri, .int .i64 rr, .int .i64 rc] 30)).alloc (.cells #[.bool ro, .int .i64 rx, .int .i64 ri, .int .i64 rr, .int .i64 rc] 30) = W0 at hb ⊢
  refine (eqMeta_same ri rr rc W0).mono ?_
  rintro e w1 ⟨rfl, hb1⟩
  have b1 := hb.trans (hb1.mono hb.size)
  clear hb hb1
  go_wp2_with fail
  go_ret
  exact ⟨rfl, b1⟩
set_option maxHeartbeats 3200000 in
theorem law_ReadMeta (nm : ByteArray) (h_nm : nm.size ≤ maxLen) (a : Option Addr) (n c : Nat) (fs : List PF) (b : Option Addr) (m d : Nat) (ps : List PP) (cp fu : Int) (de : Bool) (w : World) (hF : FilesAt w 0 w.heap.size a n c fs) (hP : PendsAt w 0 w.heap.size b m d ps) :
    Calls Tryz.prog 3 #[.agg #[.slice a n c, .slice b m d, .int .i64 cp, .int .i64 fu, .bool de], .string nm] w fun e w' => e = .returned (.bool true) ∧ Below w.heap.size w w' := by
  have hb0 : Below w.heap.size w (w.alloc (.cells #[.slice a n c, .slice b m d, .int .i64 cp, .int .i64 fu, .bool de] 25)) := (Below.refl _ _).alloc (Nat.le_refl _) _
  have l_nm := h_nm
  unfold maxLen at l_nm
  have HNM : Hid (nm.size ≤ maxLen) := h_nm
  have HF : Hid (∀ W, Below w.heap.size w W → FilesAt W 0 w.heap.size a n c fs) := fun W hW => hF.below hW
  have HP : Hid (∀ W, Below w.heap.size w W → PendsAt W 0 w.heap.size b m d ps) := fun W hW => hP.below hW
  have HFL : Hid (fs.length = n) := hF.1
  have HPL : Hid (ps.length = m) := hP.1
  clear hF hP h_nm
  by_cases t_nm : 1048576 < nm.size
  · have s_nm : decide ((1048576 : Int) < (nm.size : Int)) = true := by simp; omega
    go_enter Tryz.func3, Tryz.ntmps3
    go_wp2_with fail
    go_ret
    exact ⟨rfl, hb0⟩
  have s_nm : decide ((1048576 : Int) < (nm.size : Int)) = false := by simp; omega
  go_enter Tryz.func3, Tryz.ntmps3
  go_wp2_with fail
  refine (szDisk_any _ _ _ fs _ _ _ ps _ _ _ _ _ (by omega) (by omega) 0 w.heap.size (by simp) (HF.out _ hb0) (HP.out _ hb0)).mono ?_
  rintro e w1 ⟨r, rfl, hr, hb1⟩
  have g1 := hb0.trans (hb1.mono (by simp))
  have hz1 := hb1.size
  simp at hz1
  have k1 : w.heap.size < w1.heap.size := by omega
  have A1 : Hid (w1.heap[w.heap.size]? = some (.cells #[.slice a n c, .slice b m d, .int .i64 cp, .int .i64 fu, .bool de] 25)) := (hb1.block _ (by simp)).trans (heap_alloc_new w _)
  obtain ⟨x10, x11, x12, x13, x14⟩ := box_fiveC A1.out
  by_cases t1 : r < 0
  · go_wp2_with fail
    go_ret
    exact ⟨rfl, g1⟩
  have hw := hr.2.2 (by omega)
  have hwf := wFiles_nonneg fs
  have hwp := wPends_nonneg ps
  have hn : n ≤ 1048576 := by omega
  have hm : m ≤ 1048576 := by omega
  have HA : Hid (∀ j, j < n → (fs.getD j (ByteArray.empty, [])).2.length ≤ 1048576) := fun j hj => by have := wFiles_get fs j (by rw [HFL.out]; exact hj); omega
  have HA2 : Hid (∀ j, j < m → (ps.getD j (ByteArray.empty, 0, [])).2.2.length ≤ 1048576) := fun j hj => by have := wPends_get ps j (by rw [HPL.out]; exact hj); omega
  clear hw hr hwf hwp hb1
  go_wp2_with fail
  refine (toDisk_z _ _ _ fs _ _ _ ps _ _ _ w1 0 w.heap.size g1.size (HF.out _ g1) (HP.out _ g1) hn hm HA.out HA2.out).mono ?_
  rintro e w3 ⟨ga, gb, rfl, z3, hb3⟩
  have g3 := g1.trans (hb3.mono g1.size)
  have s3 := hb3.size
  have A3 : Hid _ := box_below A1.out hb3
  clear x10 x11 x12 x13 x14
  go_wp2_with fail
  refine (specMeta_any nm HNM.out _ _ _ fs _ _ _ ps _ _ _ w3 w1.heap.size w3.heap.size (Nat.le_refl _) z3.files z3.pends HA.out).mono ?_
  rintro e w4 ⟨rfl, hb4⟩
  obtain ⟨R, hR⟩ : ∃ R, R = metaS fs ps cp fu nm := ⟨_, rfl⟩
  rw [← hR]
  have HR : Hid (metaI fs ps cp fu nm = R) := by rw [hR]; exact meta_same fs ps cp fu nm
  clear hR
  obtain ⟨ro, rx, ri, rr, rc⟩ := R
  simp only [MR.cells]
  have g4 := g3.trans (hb4.mono g3.size)
  have s4 := hb4.size
  have k4 : w.heap.size < w4.heap.size := by omega
  have A4 : Hid _ := box_below A3.out hb4
  obtain ⟨x0, x1, x2, x3, x4⟩ := box_fiveC A4.out
  clear z3 hb3 hb4 A1 A3
  go_wp2_with fail
  clear x0 x1 x2 x3 x4
  have hal := (Below.refl w4.heap.size w4).alloc (Nat.le_refl _) (.cells #[.bool ro, .int .i64 rx, .int .i64 ri, .int .i64 rr, .int .i64 rc] 30)
  have X5 : Hid _ := heap_alloc_new w4 (.cells #[.bool ro, .int .i64 rx, .int .i64 ri, .int .i64 rr, .int .i64 rc] 30)
  have g5 := g4.trans (hal.mono g4.size)
  have A5 : Hid _ := box_below A4.out hal
  generalize w4.alloc (.cells #[.bool ro, .int .i64 rx, .int .i64 ri, .int .i64 rr, .int .i64 rc] 30) = w5 at hal X5 g5 A5 ⊢
  have s45 : w4.heap.size < w5.heap.size := (Array.getElem?_eq_some_iff.1 X5.out).1
  clear hal A4 g4
  generalize w4.heap.size = N4 at X5 s45 s4 k4 ⊢
  refine (toDisk_z _ _ _ fs _ _ _ ps _ _ _ w5 0 w.heap.size g5.size (HF.out _ g5) (HP.out _ g5) hn hm HA.out HA2.out).mono ?_
  rintro e w6 ⟨ga6, gb6, rfl, z6, hb6⟩
  have g6 := g5.trans (hb6.mono g5.size)
  have s6 := hb6.size
  have A6 : Hid _ := box_below A5.out hb6
  have X6 : Hid _ := box_below X5.out hb6
  clear A5 X5 hb6 g5
  go_wp2_with fail
  have hal := (Below.refl w6.heap.size w6).alloc (Nat.le_refl _) (.cells #[.slice (some ⟨ga6, 0, none⟩) n n, .slice (some ⟨gb6, 0, none⟩) m m, .int .i64 cp, .int .i64 fu, .bool de] 35)
  have Y8 : Hid _ := heap_alloc_new w6 (.cells #[.slice (some ⟨ga6, 0, none⟩) n n, .slice (some ⟨gb6, 0, none⟩) m m, .int .i64 cp, .int .i64 fu, .bool de] 35)
  have g8 := g6.trans (hal.mono g6.size)
  have A8 : Hid _ := box_below A6.out hal
  have X8 : Hid _ := box_below X6.out hal
  have z8 := z6.below hal
  generalize w6.alloc (.cells #[.slice (some ⟨ga6, 0, none⟩) n n, .slice (some ⟨gb6, 0, none⟩) m m, .int .i64 cp, .int .i64 fu, .bool de] 35) = w8 at hal Y8 g8 A8 X8 z8 ⊢
  have s68 : w6.heap.size < w8.heap.size := (Array.getElem?_eq_some_iff.1 Y8.out).1
  clear hal A6 X6 z6 g6
  generalize w6.heap.size = N6 at Y8 z8 s68 s6 ⊢
  refine (implMeta_any nm HNM.out _ _ _ fs _ _ _ ps _ _ _ w8 w5.heap.size w8.heap.size (Nat.le_refl _) z8.files z8.pends HA.out).mono ?_
  rintro e w9 ⟨rfl, hb9⟩
  rw [HR.out]
  simp only [MR.cells]
  have g9 := g8.trans (hb9.mono g8.size)
  have s9 := hb9.size
  have A9 : Hid _ := box_below A8.out hb9
  have X9 : Hid _ := box_below X8.out hb9
  have Y9 : Hid _ := box_below Y8.out hb9
  have z9 := z8.below hb9
  clear A8 X8 Y8 z8 hb9 g8
  obtain ⟨x0, x1, x2, x3, x4⟩ := box_fiveC X9.out
  have k9 : N4 < w9.heap.size := by omega
  go_wp2_with fail
  clear x0 x1 x2 x3 x4
  have hal := (Below.refl w9.heap.size w9).alloc (Nat.le_refl _) (.cells #[.bool ro, .int .i64 rx, .int .i64 ri, .int .i64 rr, .int .i64 rc] 30)
  have g10 := g9.trans (hal.mono g9.size)
  have A10 : Hid _ := box_below A9.out hal
  have Y10 : Hid _ := box_below Y9.out hal
  have z10 := z9.below hal
  have s10 := hal.size
  generalize w9.alloc (.cells #[.bool ro, .int .i64 rx, .int .i64 ri, .int .i64 rr, .int .i64 rc] 30) = w10 at hal g10 A10 Y10 z10 s10 ⊢
  clear hal A9 X9 Y9 z9 g9
  refine (eqMetaRes_same ro rx ri rr rc w10).mono ?_
  rintro e w11 ⟨rfl, hb11⟩
  have g11 := g10.trans (hb11.mono g10.size)
  have s11 := hb11.size
  have A11 : Hid _ := box_below A10.out hb11
  have Y11 : Hid _ := box_below Y10.out hb11
  have z11 := z10.below hb11
  clear A10 Y10 z10 hb11 g10
  obtain ⟨x0, x1, x2, x3, x4⟩ := box_fiveC A11.out
  obtain ⟨y0, y1, y2, y3, y4⟩ := box_fiveC Y11.out
  have k11 : w.heap.size < w11.heap.size := by omega
  have k11' : N6 < w11.heap.size := by omega
  have hFd : FilesAt w11.drew 0 w.heap.size a n c fs := HF.out _ g11.drew
  have hPd : PendsAt w11.drew 0 w.heap.size b m d ps := HP.out _ g11.drew
  go_wp2_with fail
  go_region_with (first | (go_at_call 6; refine (toDisk_z _ _ _ fs _ _ _ ps _ _ _ w11.drew 0 w.heap.size g11.size hFd hPd hn hm HA.out HA2.out).mono ?_; rintro e w12 ⟨ge, gf, rfl, v12, hb12⟩; have hb12' : Below w11.heap.size w11 w12 := ((Below.refl _ w11).drew).trans hb12; obtain ⟨u0, u1, u2, u3, u4⟩ := box_fiveC (box_below Y11.out hb12')) | (go_at_call 9; refine (eqDisk_same _ _ _ fs _ _ _ ps _ _ _ _ _ _ _ w12 w5.heap.size w12.heap.size w11.drew.heap.size w12.heap.size (Nat.le_refl _) (Nat.le_refl _) ?_ ?_ v12.files v12.pends).mono ?_; exact (z11.below hb12').files; exact (z11.below hb12').pends; rintro e w13 ⟨rfl, hb13⟩))
  all_goals
    have g13 : Below w.heap.size w w13 := (g11.trans (hb12'.mono g11.size)).trans (hb13.mono (Nat.le_trans g11.size hb12'.size))
    clear hb12 hb12' hb13 v12 hFd hPd g11 x0 x1 x2 x3 x4 y0 y1 y2 y3 y4 u0 u1 u2 u3 u4 z11
    go_wp2
    go_ret
    exact ⟨rfl, g13⟩
end Go.Proofs.YtnpndbicmamggaaGreat
namespace Go.Proofs.YtnpndbicmamggaaGreat
open Go.RowKit Go.Deep Go.ChangeShapes Go.WideShapes Go.ChangeAt
set_option linter.unusedVariables false
set_option maxRecDepth 100000
section
variable {H : Type} {enc : TypeId × Value → H} {w : World} {spare : Nat → Bool} {held : Bool}

theorem cellsU8 : Tryz.prog.cellsOf 5 = 1 := by kernel_rfl
theorem cellsStr : Tryz.prog.cellsOf 9 = 1 := by kernel_rfl
theorem cellsI64 : Tryz.prog.cellsOf 2 = 1 := by kernel_rfl
theorem cellsBool : Tryz.prog.cellsOf 4 = 1 := by kernel_rfl
theorem cellsBytes : Tryz.prog.cellsOf 43 = 1 := by kernel_rfl
theorem cellsLF : Tryz.prog.cellsOf 61 = 2 := by kernel_rfl
theorem cellsLP : Tryz.prog.cellsOf 64 = 3 := by kernel_rfl
theorem cellsLFs : Tryz.prog.cellsOf 22 = 1 := by kernel_rfl
theorem cellsLPs : Tryz.prog.cellsOf 23 = 1 := by kernel_rfl
theorem cellsLD : Tryz.prog.cellsOf 25 = 5 := by kernel_rfl

theorem bytes_open {fuel : Nat} {cs : List Value} {x : DataW H × List MemPlace} (h : DataW.trod enc Tryz.prog w 0 spare held fuel 43 cs = some x) : ∃ a n c bs, cs = [.slice a n c] ∧ BytesAt w 0 w.heap.size a n c bs := by
  rcases open_ints Tryz.underlying43 Tryz.underlying5 cellsU8 h with ⟨rfl, _⟩ | ⟨a, len, cap, zs, rfl, _, hl, hm, hz, _, hc, hw⟩
  · exact ⟨none, 0, 0, [], rfl, rfl, Nat.le_refl _, Nat.zero_le _, (fun x hx => by cases hx), fun h => absurd h (Nat.lt_irrefl _), fun _ => rfl⟩
  · have hzl : len ≤ zs.length := by rw [hz]; split <;> omega
    refine ⟨some a, len, cap, zs.take len, rfl, by simp; omega, hl, hm, fun x hx => ?_, fun hn => ?_, fun h => by cases h⟩
    · exact bounds_u8 (hw x (List.mem_of_mem_take hx))
    · obtain ⟨b, off, spot⟩ := a
      have h0 := hc 0 (by omega)
      have hspot : spot = none := by simpa [Addr.add] using World.cell?_spot h0
      subst hspot
      have hlt : b < w.heap.size := lt_of_cell (by simpa [Addr.add] using h0)
      refine ⟨b, off, rfl, ⟨Nat.zero_le _, hlt⟩, fun i hi => ?_⟩
      have h1 := hc i (by omega)
      rw [show (⟨b, off, none⟩ : Addr).add i = ⟨b, off + i, none⟩ by simp [Addr.add]] at h1
      rw [h1]
      congr 2
      simp [List.getD, hi]
theorem file_open {fuel : Nat} {cs : List Value} {x : DataW H × List MemPlace} {b o : Nat} (h : DataW.trod enc Tryz.prog w 0 spare held fuel 61 cs = some x) (hc : ∀ i, i < 2 → w.cell? ⟨b, o + i, none⟩ = cs[i]?) : ∃ f : PF, FileIs w 0 w.heap.size b o f := by
  obtain ⟨xs, n, _, _, hl, hlen, hf⟩ := DataW.trod_struct Tryz.underlying61 h
  rw [cellsLF] at hl
  match cs, hl with
  | [v0, v1], _ =>
    match xs, hlen with
    | [y0, y1], _ =>
      have h0 : DataW.trod enc Tryz.prog w 0 spare held n 9 [v0] = some y0 := by simpa [cellsStr] using hf 0 _ rfl
      have h1 : DataW.trod enc Tryz.prog w 0 spare held n 43 [v1] = some y1 := by simpa [cellsBytes] using hf 1 _ rfl
      obtain ⟨s, e0, _, hs⟩ := DataW.trod_string Tryz.underlying9 h0
      obtain ⟨a, n, c, bs, e1, hb⟩ := bytes_open h1
      simp only [List.cons.injEq, and_true] at e0 e1
      subst e0 e1
      exact ⟨(s, bs), by simpa using hc 0 (by omega), hs, a, n, c, by simpa using hc 1 (by omega), hb⟩
theorem pend_open {fuel : Nat} {cs : List Value} {x : DataW H × List MemPlace} {b o : Nat} (h : DataW.trod enc Tryz.prog w 0 spare held fuel 64 cs = some x) (hc : ∀ i, i < 3 → w.cell? ⟨b, o + i, none⟩ = cs[i]?) : ∃ f : PP, PendIs w 0 w.heap.size b o f := by
  obtain ⟨xs, n, _, _, hl, hlen, hf⟩ := DataW.trod_struct Tryz.underlying64 h
  rw [cellsLP] at hl
  match cs, hl with
  | [v0, v1, v2], _ =>
    match xs, hlen with
    | [y0, y1, y2], _ =>
      have h0 : DataW.trod enc Tryz.prog w 0 spare held n 9 [v0] = some y0 := by simpa [cellsStr] using hf 0 _ rfl
      have h1 : DataW.trod enc Tryz.prog w 0 spare held n 2 [v1] = some y1 := by simpa [cellsI64] using hf 1 _ rfl
      have h2 : DataW.trod enc Tryz.prog w 0 spare held n 43 [v2] = some y2 := by simpa [cellsBytes] using hf 2 _ rfl
      obtain ⟨s, e0, _, hs⟩ := DataW.trod_string Tryz.underlying9 h0
      obtain ⟨q, e1, _, hq⟩ := DataW.trod_int Tryz.underlying2 h1
      obtain ⟨a, n, c, bs, e2, hb⟩ := bytes_open h2
      simp only [List.cons.injEq, and_true] at e0 e1 e2
      subst e0 e1 e2
      exact ⟨(s, q, bs), by simpa using hc 0 (by omega), hs, by simpa using hc 1 (by omega), bounds_i64 hq, a, n, c, by simpa using hc 2 (by omega), hb⟩
theorem addr_of {a : Addr} {v : Value} (h : w.cell? a = some v) : ∃ b off, a = ⟨b, off, none⟩ ∧ b < w.heap.size := by
  obtain ⟨b, off, spot⟩ := a
  have hspot : spot = none := World.cell?_spot h
  subst hspot
  exact ⟨b, off, rfl, lt_of_cell h⟩
theorem getD_range {α : Type} (F : Nat → α) (n i : Nat) (d : α) (h : i < n) : ((List.range n).map F).getD i d = F i := by
  simp [List.getD, h]
theorem files_open {fuel : Nat} {cs : List Value} {x : DataW H × List MemPlace} (h : DataW.trod enc Tryz.prog w 0 spare held fuel 22 cs = some x) : ∃ a n c fs, cs = [.slice a n c] ∧ FilesAt w 0 w.heap.size a n c fs := by
  rcases open_slice Tryz.underlying22 h with ⟨rfl, _⟩ | ⟨a, len, cap, m, k, D, Pl, rfl, _, hl, hm, hmm, _, he⟩
  · exact ⟨none, 0, 0, [], rfl, rfl, Nat.le_refl _, Nat.zero_le _, fun h => absurd h (Nat.lt_irrefl _)⟩
  · have hml : len ≤ m := by rw [hmm]; split <;> omega
    by_cases h0 : len = 0
    · subst h0
      exact ⟨some a, 0, cap, [], rfl, rfl, hl, hm, fun h => absurd h (Nat.lt_irrefl _)⟩
    · rw [cellsLF] at he
      obtain ⟨cs0, hc0, _⟩ := he 0 (by omega)
      obtain ⟨_, hl0, hg0⟩ := World.cells?_some hc0
      have h00 := hg0 0 (by omega)
      rw [List.getElem?_eq_getElem (by omega)] at h00
      obtain ⟨b, off, rfl, hlt⟩ : ∃ b off, a = ⟨b, off, none⟩ ∧ b < w.heap.size := addr_of (by simpa [Addr.add] using h00)
      have hadd : ∀ k, (⟨b, off, none⟩ : Addr).add k = ⟨b, off + k, none⟩ := fun k => by simp [Addr.add]
      obtain ⟨F, hF⟩ := choose_lt (α := PF) (n := len) (p := fun i f => FileIs w 0 w.heap.size b (off + i * 2) f) (fun i hi => by
        obtain ⟨cs', hc', ht⟩ := he i (by omega)
        obtain ⟨_, hl', hg'⟩ := World.cells?_some hc'
        refine file_open ht (fun j hj => ?_)
        have := hg' j hj
        rwa [hadd, show (⟨b, off + i * 2, none⟩ : Addr).add j = ⟨b, off + i * 2 + j, none⟩ by simp [Addr.add]] at this)
      refine ⟨some ⟨b, off, none⟩, len, cap, (List.range len).map F, rfl, by simp, hl, hm, fun _ => ⟨b, off, rfl, ⟨Nat.zero_le _, hlt⟩, fun i hi => ?_⟩⟩
      rw [getD_range _ _ _ _ hi]
      exact hF i hi
theorem pends_open {fuel : Nat} {cs : List Value} {x : DataW H × List MemPlace} (h : DataW.trod enc Tryz.prog w 0 spare held fuel 23 cs = some x) : ∃ a n c fs, cs = [.slice a n c] ∧ PendsAt w 0 w.heap.size a n c fs := by
  rcases open_slice Tryz.underlying23 h with ⟨rfl, _⟩ | ⟨a, len, cap, m, k, D, Pl, rfl, _, hl, hm, hmm, _, he⟩
  · exact ⟨none, 0, 0, [], rfl, rfl, Nat.le_refl _, Nat.zero_le _, fun h => absurd h (Nat.lt_irrefl _)⟩
  · have hml : len ≤ m := by rw [hmm]; split <;> omega
    by_cases h0 : len = 0
    · subst h0
      exact ⟨some a, 0, cap, [], rfl, rfl, hl, hm, fun h => absurd h (Nat.lt_irrefl _)⟩
    · rw [cellsLP] at he
      obtain ⟨cs0, hc0, _⟩ := he 0 (by omega)
      obtain ⟨_, hl0, hg0⟩ := World.cells?_some hc0
      have h00 := hg0 0 (by omega)
      rw [List.getElem?_eq_getElem (by omega)] at h00
      obtain ⟨b, off, rfl, hlt⟩ : ∃ b off, a = ⟨b, off, none⟩ ∧ b < w.heap.size := addr_of (by simpa [Addr.add] using h00)
      have hadd : ∀ k, (⟨b, off, none⟩ : Addr).add k = ⟨b, off + k, none⟩ := fun k => by simp [Addr.add]
      obtain ⟨F, hF⟩ := choose_lt (α := PP) (n := len) (p := fun i f => PendIs w 0 w.heap.size b (off + i * 3) f) (fun i hi => by
        obtain ⟨cs', hc', ht⟩ := he i (by omega)
        obtain ⟨_, hl', hg'⟩ := World.cells?_some hc'
        refine pend_open ht (fun j hj => ?_)
        have := hg' j hj
        rwa [hadd, show (⟨b, off + i * 3, none⟩ : Addr).add j = ⟨b, off + i * 3 + j, none⟩ by simp [Addr.add]] at this)
      refine ⟨some ⟨b, off, none⟩, len, cap, (List.range len).map F, rfl, by simp, hl, hm, fun _ => ⟨b, off, rfl, ⟨Nat.zero_le _, hlt⟩, fun i hi => ?_⟩⟩
      rw [getD_range _ _ _ _ hi]
      exact hF i hi
theorem disk_open {r : Reach} {b0 : Nat} {v : Value} {d : DataW H} {p : List MemPlace} (hv : Value.okWide Tryz.prog w r b0 25 v) (h : DataW.Trod enc Tryz.prog w 0 spare held 25 v d p) :
    ∃ a n c fs b m k ps cp fu de, v = .agg #[.slice a n c, .slice b m k, .int .i64 cp, .int .i64 fu, .bool de] ∧ FilesAt w 0 w.heap.size a n c fs ∧ PendsAt w 0 w.heap.size b m k ps ∧ (-9223372036854775808 ≤ cp ∧ cp ≤ 9223372036854775807) ∧ (-9223372036854775808 ≤ fu ∧ fu ≤ 9223372036854775807) := by
  obtain ⟨cs, rfl, hsz⟩ := okWide_struct Tryz.underlying25 hv
  obtain ⟨l⟩ := cs
  rw [cellsLD] at hsz
  obtain ⟨fuel, hf⟩ := h
  match l, hsz with
  | [v0, v1, v2, v3, v4], _ =>
    obtain ⟨xs, n, _, _, hl, hlen, hff⟩ := DataW.trod_struct Tryz.underlying25 hf
    match xs, hlen with
    | [y0, y1, y2, y3, y4], _ =>
      have h0 : DataW.trod enc Tryz.prog w 0 spare held n 22 [v0] = some y0 := by simpa [Value.cells, cellsLFs] using hff 0 _ rfl
      have h1 : DataW.trod enc Tryz.prog w 0 spare held n 23 [v1] = some y1 := by simpa [Value.cells, cellsLPs] using hff 1 _ rfl
      have h2 : DataW.trod enc Tryz.prog w 0 spare held n 2 [v2] = some y2 := by simpa [Value.cells, cellsI64] using hff 2 _ rfl
      have h3 : DataW.trod enc Tryz.prog w 0 spare held n 2 [v3] = some y3 := by simpa [Value.cells, cellsI64] using hff 3 _ rfl
      have h4 : DataW.trod enc Tryz.prog w 0 spare held n 4 [v4] = some y4 := by simpa [Value.cells, cellsBool] using hff 4 _ rfl
      obtain ⟨a, n, c, fs, e0, hF⟩ := files_open h0
      obtain ⟨b, m, k, ps, e1, hP⟩ := pends_open h1
      obtain ⟨cp, e2, _, w2⟩ := DataW.trod_int Tryz.underlying2 h2
      obtain ⟨fu, e3, _, w3⟩ := DataW.trod_int Tryz.underlying2 h3
      obtain ⟨de, e4, _⟩ := DataW.trod_bool Tryz.underlying4 h4
      simp only [List.cons.injEq, and_true] at e0 e1 e2 e3 e4
      subst e0 e1 e2 e3 e4
      exact ⟨a, n, c, fs, b, m, k, ps, cp, fu, de, rfl, hF, hP, bounds_i64 w2, bounds_i64 w3⟩
end
end Go.Proofs.YtnpndbicmamggaaGreat
namespace Go.Proofs.YtnpndbicmamggaaGreat
namespace ReadMeta
open Go.ChangeShapes Go.WideShapes Go.ChangeAt Go.RowKit
open Go.ChangeMaps (open_string shut_string)
set_option linter.unusedVariables false
set_option maxRecDepth 100000

theorem own : ownKnob Tryz.prog.godebug = none := by kernel_rfl
theorem laidOut : laidOutB Tryz.prog = true := by kernel_rfl

set_option maxRecDepth 100000 in
theorem lifted (os : Os) (started : os.Started) (H : Type) (enc : TypeId × Value → H) :
    ReturnsInHanded {} Tryz.checked os 3 .any (Rows.fnExactReadMetaSpec.pre6 enc Tryz.prog Tryz.f3 Rows.fnExactReadMetaRow.domain false) (Rows.fnExactReadMetaSpec.post enc Tryz.prog Tryz.f3 false true false false) := by
  refine returnsInHanded_of_change (C := Tryz.checked) own started (by kernel_rfl) Tryz.func3
    (ChangeSpec.witness6 (enc := enc) (C := Tryz.checked) false ⟨#[], #[.agg #[.slice none 0 0, .slice none 0 0, .int .i64 0, .int .i64 0, .bool false], .string ByteArray.empty], []⟩ 8 (by kernel_rfl) (by kernel_rfl) (by kernel_rfl) (by kernel_rfl)) ?_
  intro W base args ds gs before hval0 hW hcnd _
  have hval : ∀ (j : Nat) t v, Tryz.f3.params[j]? = some t → args[j]? = some v → Value.okWide Tryz.prog W .any base t v := hval0
  have hW' := hW
  obtain ⟨p, q, hA0, hV, rfl, hfz, hnd⟩ := hW
  have hA : DataW.TrodAll enc Tryz.prog W 0 (fun _ => true) true Tryz.f3.params.toList args.toList ds p := hA0
  rw [Tryz.params3] at hA hval
  obtain ⟨v0, vs0, d0, ds0, p0, q0, hargs, rfl, rfl, h0, r0⟩ := trodAll_cons hA
  obtain ⟨v1, vs1, d1, ds1, p1, q1, rfl, rfl, rfl, hs1, r1⟩ := trodAll_cons r0
  obtain ⟨rfl, rfl, rfl⟩ := trodAll_nil r1
  obtain rfl : args = #[v0, v1] := by cases args; simp_all
  obtain ⟨rfl, rfl⟩ := trodVars_none hV
  have k0 := h0
  have lt0 : ∀ x ∈ p0, x.block < W.heap.size := by obtain ⟨m, hm⟩ := k0; exact DataW.trod_lt m _ _ _ hm
  obtain ⟨a, n, c, fs, b, m, k, ps, cp, fu, de, rfl, hF, hP, _, hfu⟩ := disk_open (hval 0 25 v0 rfl rfl) h0
  obtain ⟨nm, rfl, rfl, rfl, hnm⟩ := open_string Tryz.underlying9 (hval 1 9 v1 rfl rfl) hs1
  clear hA0 hval0
  refine (law_ReadMeta nm hnm a n c fs b m k ps cp fu de W hF hP).mono fun e W' ⟨he, bel⟩ => ?_
  subst he
  exact ⟨_, rfl, _, _, _, [], _, [], hW', trodAll_mk1 (shut_bool Tryz.underlying4 _), (trodAll_cons_mk (Below.trod laidOut (by kernel_rfl) (of_decide_eq_true (by kernel_rfl)) k0 bel lt0) (trodAll_cons_mk (shut_string Tryz.underlying9 hnm) trodAll_mk0)), rfl, bel.frame _, fun h => by cases h⟩

theorem over : Rows.fnExactReadMetaRow.holds Tryz.pinned (OpenSpec.ofChange Rows.fnExactReadMetaSpec) :=
  OpenClaim.holds_of_wide 3 Tryz.f3 rfl rfl rfl rfl rfl rfl rfl ⟨rfl, rfl, rfl, rfl, rfl⟩ rfl rfl rfl rfl rfl (by kernel_rfl) Tryz.func3 (by kernel_rfl)
    (of_decide_eq_true (by kernel_rfl)) (by unfold Func.isWrapper; first | (rw [if_pos (by decide +kernel)]; kernel_rfl) | (rw [if_neg (by decide +kernel)]; exact ⟨rfl, rfl⟩))
    (fun os started H enc _ => lifted os started H enc)
end ReadMeta
/-- The statement. -/
theorem readMeta_holds : Rows.FnExactReadMetaSaid := ReadMeta.over
#print axioms readMeta_holds
end Go.Proofs.YtnpndbicmamggaaGreat
