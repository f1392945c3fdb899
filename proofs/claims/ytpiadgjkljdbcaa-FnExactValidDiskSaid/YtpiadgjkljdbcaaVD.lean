import Derived.Test.YtpiadgjkljdbcaaCSee
import Derived.Test.YtpiadgjkljdbcaaSz
import Derived.Test.YtpiadgjkljdbcaaEq
import Derived.Test.YtpiadgjkljdbcaaTo
namespace Go.Proofs.Ytpiadgjkljdbcaa
open Go.RowKit
set_option linter.unusedVariables false
set_option maxRecDepth 100000

theorem box5 {wr : World} {N : Nat} {v0 v1 v2 v3 v4 : Value} {t : TypeId} (h : wr.heap[N]? = some (.cells #[v0, v1, v2, v3, v4] t)) : wr.cell? ⟨N, 0, none⟩ = some v0 ∧ wr.cell? ⟨N, 1, none⟩ = some v1 ∧ wr.cell? ⟨N, 2, none⟩ = some v2 ∧ wr.cell? ⟨N, 3, none⟩ = some v3 ∧ wr.cell? ⟨N, 4, none⟩ = some v4 := by
  refine ⟨?_, ?_, ?_, ?_, ?_⟩
  · rw [cell_of_row wr N 0 _ _ _ h]; rfl
  · rw [cell_of_row wr N 1 _ _ _ h]; rfl
  · rw [cell_of_row wr N 2 _ _ _ h]; rfl
  · rw [cell_of_row wr N 3 _ _ _ h]; rfl
  · rw [cell_of_row wr N 4 _ _ _ h]; rfl

set_option maxHeartbeats 1000000 in
theorem law_ValidDisk (a : Option Addr) (n c : Nat) (fs : List PF) (b : Option Addr) (m d : Nat) (ps : List PP) (cp fu : Int) (de : Bool) (w : World) (hF : FilesAt w 0 w.heap.size a n c fs) (hP : PendsAt w 0 w.heap.size b m d ps) :
    Calls Try.prog 6 #[.agg #[.slice a n c, .slice b m d, .int .i64 cp, .int .i64 fu, .bool de]] w fun e w' => e = .returned (.bool true) ∧ Below w.heap.size w w' := by
  have hb0 : Below w.heap.size w (w.alloc (.cells #[.slice a n c, .slice b m d, .int .i64 cp, .int .i64 fu, .bool de] 46)) := (Below.refl _ _).alloc (Nat.le_refl _) _
  go_enter Try.func6, Try.ntmps6
  go_wp2_with fail
  refine (szDisk_any _ _ _ fs _ _ _ ps _ _ _ _ _ (by omega) (by omega) 0 w.heap.size (by simp) (hF.below hb0) (hP.below hb0)).mono ?_
  rintro e w1 ⟨r, rfl, hr, hb1⟩
  have g1 := hb0.trans (hb1.mono (by simp))
  have hz1 := hb1.size
  simp at hz1
  have k1 : w.heap.size < w1.heap.size := by omega
  have A1 : Hid (w1.heap[w.heap.size]? = some (.cells #[.slice a n c, .slice b m d, .int .i64 cp, .int .i64 fu, .bool de] 46)) := (hb1.block _ (by simp)).trans (heap_alloc_new w _)
  obtain ⟨x10, x11, x12, x13, x14⟩ := box5 A1.out
  by_cases t1 : r < 0
  · go_wp2_with fail
    go_ret
    exact ⟨rfl, g1⟩
  · have hw := hr.2.2 (by omega)
    have hwf := wFiles_nonneg fs
    have hwp := wPends_nonneg ps
    have hfl := hF.1
    have hpl := hP.1
    have hn : n ≤ 1048576 := by omega
    have hm : m ≤ 1048576 := by omega
    have hall : ∀ j, j < n → (fs.getD j (ByteArray.empty, [])).2.length ≤ 1048576 := fun j hj => by have := wFiles_get fs j (by omega); omega
    have hall2 : ∀ j, j < m → (ps.getD j (ByteArray.empty, 0, [])).2.2.length ≤ 1048576 := fun j hj => by have := wPends_get ps j (by omega); omega
    clear hw hr hwf hwp hfl hpl
    go_wp2_with fail
    refine (toDisk_any _ _ _ fs _ _ _ ps _ _ _ _ 0 w.heap.size g1.size (hF.below g1) (hP.below g1) hn hm hall hall2).mono ?_
    rintro e w2 ⟨ga, gb, rfl, hF2, hP2, hb2⟩
    have g2 := g1.trans (hb2.mono g1.size)
    have hz2 := hb2.size
    have k2 : w.heap.size < w2.heap.size := by omega
    have A2 : Hid (w2.heap[w.heap.size]? = some (.cells #[.slice a n c, .slice b m d, .int .i64 cp, .int .i64 fu, .bool de] 46)) := (hb2.block _ k1).trans A1.out
    obtain ⟨x20, x21, x22, x23, x24⟩ := box5 A2.out
    go_wp2_with fail
    refine (specValid_any _ _ _ fs _ _ _ ps _ _ _ _ w1.heap.size w2.heap.size (Nat.le_refl _) hF2 hP2 hall).mono ?_
    rintro e w3 ⟨rfl, hb3⟩
    have g3 := g2.trans (hb3.mono g2.size)
    have hz3 := hb3.size
    have k3 : w.heap.size < w3.heap.size := by omega
    have A3 : Hid (w3.heap[w.heap.size]? = some (.cells #[.slice a n c, .slice b m d, .int .i64 cp, .int .i64 fu, .bool de] 46)) := (hb3.block _ k2).trans A2.out
    obtain ⟨x30, x31, x32, x33, x34⟩ := box5 A3.out
    rw [valid_eq]
    clear hF2 hP2 hb1 hb2 hb3 x10 x11 x12 x13 x14 x20 x21 x22 x23 x24
    go_wp2_with fail
    refine (toDisk_any _ _ _ fs _ _ _ ps _ _ _ _ 0 w.heap.size g3.size (hF.below g3) (hP.below g3) hn hm hall hall2).mono ?_
    rintro e w4 ⟨gc, gd, rfl, hF4, hP4, hb4⟩
    have g4 := g3.trans (hb4.mono g3.size)
    have hz4 := hb4.size
    have k4 : w.heap.size < w4.heap.size := by omega
    have A4 : Hid (w4.heap[w.heap.size]? = some (.cells #[.slice a n c, .slice b m d, .int .i64 cp, .int .i64 fu, .bool de] 46)) := (hb4.block _ k3).trans A3.out
    go_wp2_with fail
    have b5 : Below w4.heap.size w4 (w4.alloc (.cells #[.slice (some ⟨gc, 0, none⟩) n n, .slice (some ⟨gd, 0, none⟩) m m, .int .i64 cp, .int .i64 fu, .bool de] 38)) := (Below.refl _ _).alloc (Nat.le_refl _) _
    have hF5 := hF4.below b5
    have hP5 := hP4.below b5
    have g5 := g4.alloc (by omega) (.cells #[.slice (some ⟨gc, 0, none⟩) n n, .slice (some ⟨gd, 0, none⟩) m m, .int .i64 cp, .int .i64 fu, .bool de] 38)
    refine (implValid_any _ _ _ fs _ _ _ ps _ _ _ _ w3.heap.size w4.heap.size (by simp) hF5 hP5 hall).mono ?_
    rintro e w6 ⟨rfl, hb6⟩
    have g6 := g5.trans (hb6.mono (by simp; omega))
    have hz6 := hb6.size
    simp at hz6
    have k6 : w.heap.size < w6.heap.size := by omega
    have A6 : Hid (w6.heap[w.heap.size]? = some (.cells #[.slice a n c, .slice b m d, .int .i64 cp, .int .i64 fu, .bool de] 46)) := (hb6.block _ (by simp; omega)).trans ((b5.block _ k4).trans A4.out)
    have X6 : Hid (w6.heap[w4.heap.size]? = some (.cells #[.slice (some ⟨gc, 0, none⟩) n n, .slice (some ⟨gd, 0, none⟩) m m, .int .i64 cp, .int .i64 fu, .bool de] 38)) := (hb6.block _ (by simp)).trans (heap_alloc_new w4 _)
    obtain ⟨x60, x61, x62, x63, x64⟩ := box5 A6.out
    obtain ⟨y60, y61, y62, y63, y64⟩ := box5 X6.out
    have hF6 := hF5.below (hb6.mono (by simp))
    have hP6 := hP5.below (hb6.mono (by simp))
    have sV : (implV fs ps cp fu != implV fs ps cp fu) = false := by simp
    clear hF5 hP5 hF4 hP4 b5 hb4 x30 x31 x32 x33 x34
    generalize implV fs ps cp fu = V at *
    go_wp2_with fail
    have hFd : FilesAt w6.drew 0 w.heap.size a n c fs := hF.below g6.drew
    have hPd : PendsAt w6.drew 0 w.heap.size b m d ps := hP.below g6.drew
    have k46 : w4.heap.size < w6.heap.size := by omega
    go_region_with (first | (go_at_call 25; refine (toDisk_any _ _ _ fs _ _ _ ps _ _ _ w6.drew 0 w.heap.size g6.size hFd hPd hn hm hall hall2).mono ?_; rintro e w7 ⟨ge, gf, rfl, hF7, hP7, hb7⟩; have hb7' : Below w6.heap.size w6 w7 := ((Below.refl _ w6).drew).trans hb7; obtain ⟨y70, y71, y72, y73, y74⟩ := box5 ((hb7'.block _ k46).trans X6.out)) | (go_at_call 20; refine (eqDisk_same _ _ _ fs _ _ _ ps _ _ _ _ _ _ _ w7 w3.heap.size w4.heap.size w6.drew.heap.size w7.heap.size ?_ (Nat.le_refl _) ?_ ?_ hF7 hP7).mono ?_; exact Nat.le_trans (Nat.le_of_lt k46) hb7'.size; exact hF6.below (hb7'.mono (Nat.le_of_lt k46)); exact hP6.below (hb7'.mono (Nat.le_of_lt k46)); rintro e w8 ⟨rfl, hb8⟩))
    all_goals
      have g8 : Below w.heap.size w w8 := (g6.trans (hb7'.mono g6.size)).trans (hb8.mono (Nat.le_trans g6.size hb7'.size))
      go_wp2_with fail
      go_ret
      exact ⟨rfl, g8⟩
end Go.Proofs.Ytpiadgjkljdbcaa
