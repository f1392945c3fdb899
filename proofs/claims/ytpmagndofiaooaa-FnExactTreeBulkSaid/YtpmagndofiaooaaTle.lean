import Derived.Test.YtpmagndofiaooaaTto
import Derived.Test.YtpmagndofiaooaaTlb
import Derived.Test.YtpmagndofiaooaaAp2
import Derived.Deep.QuietTactic
import Derived.BigQuiet
import Derived.Deep.DeepCutAuto
import Derived.Deep.RegionHeld3
namespace Go.Proofs.Ytpmagndofiaooaa
open Go.RowKit
set_option linter.unusedVariables false
set_option linter.unusedSimpArgs false
set_option maxRecDepth 100000

def RRange (ts : List TN) (f : Nat) : Prop := ∀ nx, nx ≤ ts.length → nx ≤ (rd ts f nx).2.1 ∧ (rd ts f nx).2.1 ≤ ts.length ∧ ((rd ts f nx).2.2 = false → nx < (rd ts f nx).2.1)
theorem rdK_range {ts : List TN} {f : Nat} (hf : RRange ts f) : ∀ (ks : List Int) (nx : Nat), nx ≤ ts.length → nx ≤ (rdK (rd ts f) ks nx).2.1 ∧ (rdK (rd ts f) ks nx).2.1 ≤ ts.length
  | [], nx, h => by simp [rdK, h]
  | k :: ks, nx, h => by
    unfold rdK
    have h1 := hf nx h
    split
    · split
      · exact ⟨h1.1, h1.2.1⟩
      · have h2 := rdK_range hf ks (rd ts f nx).2.1 h1.2.1
        exact ⟨by simp only; omega, h2.2⟩
    · exact ⟨Nat.le_refl _, h⟩
theorem rd_range (ts : List TN) : ∀ f, RRange ts f
  | 0 => by intro nx h; simp [rd, h]
  | f + 1 => by
    have ih := rd_range ts f
    intro nx h
    unfold rd
    split
    · rename_i hlt
      split
      · exact ⟨by simp only; omega, by simp only; omega, fun _ => by simp only; omega⟩
      · split
        · exact ⟨by simp only; omega, by simp only; omega, fun _ => by simp only; omega⟩
        · have := rdK_range ih (ts.getD nx dT).kids (nx + 1) (by omega)
          exact ⟨by simp only; omega, this.2, fun _ => by simp only; omega⟩
    · exact ⟨Nat.le_refl _, h, fun e => by simp at e⟩
theorem info_l3N : (Try.prog.info? 61).map (fun i => (i.zero, i.size, i.bytes)) = some (some (.agg #[.bool false, .int .i64 0, .slice none 0 0, .slice none 0 0, .slice none 0 0, .slice none 0 0]), 6, 112) := by kernel_rfl
theorem box3w {w : World} {g : Nat} {v0 v1 v2 : Value} {t : TypeId} (h : w.heap[g]? = some (.cells #[v0, v1, v2] t)) : w.cell? ⟨g, 0, none⟩ = some v0 ∧ w.cell? ⟨g, 1, none⟩ = some v1 ∧ w.cell? ⟨g, 2, none⟩ = some v2 := by
  simp [World.cell?, h]
/-- What reading from one place leaves: the node, and where the walk stands. -/
structure ReadAt (ts : List TN) (f nx : Nat) (a : Option Addr) (n c A B Wk : Nat) (w : World) (e : Ending) (w' : World) : Prop where
  ex : ∃ ka kn kc va vn vc oa on oc ya yc css, e = .returned (.agg #[.bool (rd ts f nx).1.leaf, .int .i64 (rd ts f nx).1.page, .slice ka kn kc, .slice va vn vc, .slice oa on oc, .slice ya (rd ts f nx).1.kids.length yc]) ∧ NodeX w' A B (fun b => w.heap.size ≤ b ∧ b < w'.heap.size) (rd ts f nx).1 ka kn kc va vn vc oa on oc ya yc css
  wk : w'.heap[Wk]? = some (.cells #[.slice a n c, .int .i64 (rd ts f nx).2.1, .bool (rd ts f nx).2.2] 111)
  fr : Fr (fun g => g = Wk) w w'
set_option maxHeartbeats 2000000 in
/-- Past the end. -/
theorem l3Read_end (ts : List TN) (f nx : Nat) (a : Option Addr) (n c A B Wk : Nat) (w : World) (hB : B ≤ w.heap.size) (hnx : nx = ts.length) (hm : ts.length ≤ 1000) (hl : ts.length = n) (hWk : B ≤ Wk) (hW : w.heap[Wk]? = some (.cells #[.slice a n c, .int .i64 nx, .bool false] 111)) :
    Calls Try.prog 61 #[.pointer (some ⟨Wk, 0, none⟩)] w fun e w' => ReadAt ts (f + 1) nx a n c A B Wk w e w' := by
  have HRD : Hid (rd ts (f + 1) nx = (leafT, nx, true)) := by
    show _ = _
    unfold rd
    rw [if_neg (by omega)]
  have hlt : Wk < w.heap.size := (Array.getElem?_eq_some_iff.1 hW).1
  have hnn : nx = n := by omega
  subst hnn
  clear hnx hl
  have hb0 : Below w.heap.size w (w.alloc (.cells #[.bool false, .int .i64 0, .slice none 0 0, .slice none 0 0, .slice none 0 0, .slice none 0 0] 61)) := (Below.refl _ _).alloc (Nat.le_refl _) _
  have R0 := heap_alloc_new w (.cells #[.bool false, .int .i64 0, .slice none 0 0, .slice none 0 0, .slice none 0 0, .slice none 0 0] 61)
  have W0 := (hb0.block Wk hlt).trans hW
  have s0 : (w.alloc (.cells #[.bool false, .int .i64 0, .slice none 0 0, .slice none 0 0, .slice none 0 0, .slice none 0 0] 61)).heap.size = w.heap.size + 1 := by simp
  obtain ⟨N, hN⟩ : ∃ N, w.heap.size = N := ⟨_, rfl⟩
  rw [hN] at R0 s0
  obtain ⟨x0, x1, x2⟩ := box3w W0
  go_enter Try.func61, Try.ntmps61
  go_wp2_with fail
  go_quiet (fail)
  have hb1 : Below w.heap.size w ((w.alloc (.cells #[.bool false, .int .i64 0, .slice none 0 0, .slice none 0 0, .slice none 0 0, .slice none 0 0] 61)).drewN nq) := hb0.trans ⟨rfl, rfl, rfl, Nat.le_refl _, fun _ _ => rfl⟩
  have R1 : ((w.alloc (.cells #[.bool false, .int .i64 0, .slice none 0 0, .slice none 0 0, .slice none 0 0, .slice none 0 0] 61)).drewN nq).heap[N]? = some (.cells #[.bool false, .int .i64 0, .slice none 0 0, .slice none 0 0, .slice none 0 0, .slice none 0 0] 61) := R0
  have W1 : ((w.alloc (.cells #[.bool false, .int .i64 0, .slice none 0 0, .slice none 0 0, .slice none 0 0, .slice none 0 0] 61)).drewN nq).heap[Wk]? = some (.cells #[.slice a nx c, .int .i64 nx, .bool false] 111) := W0
  have s1 : ((w.alloc (.cells #[.bool false, .int .i64 0, .slice none 0 0, .slice none 0 0, .slice none 0 0, .slice none 0 0] 61)).drewN nq).heap.size = N + 1 := s0
  generalize (w.alloc (.cells #[.bool false, .int .i64 0, .slice none 0 0, .slice none 0 0, .slice none 0 0, .slice none 0 0] 61)).drewN nq = V at hb1 R1 W1 s1 ⊢
  clear x0 x1 x2 hb0 R0 W0 s0
  obtain ⟨x0, x1, x2⟩ := box3w W1
  have fw := thawT W1
  have W2 := heap_setT W1 2 (.bool true)
  have f2 := fr_setT V Wk 2 (.bool true)
  have R2 := (f2.block N (by omega) (by omega)).trans R1
  obtain ⟨r0, r1, r2, r3, r4, r5⟩ := box6 R2
  have fr2 := thawT R2
  have hbox := put6T_box R2 (.bool true) (.int .i64 0) (.slice none 0 0) (.slice none 0 0) (.slice none 0 0) (.slice none 0 0)
  have hfr := put6T_fr (V.setCell ⟨Wk, 2, none⟩ (.bool true)) N (.bool true) (.int .i64 0) (.slice none 0 0) (.slice none 0 0) (.slice none 0 0) (.slice none 0 0)
  have s2 : (V.setCell ⟨Wk, 2, none⟩ (.bool true)).heap.size = N + 1 := by simp [World.setCell, s1]
  have W3 := (hfr.block Wk (by omega) (by omega)).trans W2
  have hF : Fr (fun g => g = Wk) w (put6T (V.setCell ⟨Wk, 2, none⟩ (.bool true)) N (.bool true) (.int .i64 0) (.slice none 0 0) (.slice none 0 0) (.slice none 0 0) (.slice none 0 0)) :=
    ⟨hfr.os.trans (f2.os.trans hb1.os), hfr.tape.trans (f2.tape.trans hb1.tape), hfr.output.trans (f2.output.trans hb1.output), Nat.le_trans hb1.size (Nat.le_trans f2.size hfr.size), fun k hk hn => (hfr.block k (by omega) (by omega)).trans ((f2.block k (by omega) hn).trans (hb1.block k hk))⟩
  go_wp2_with fail
  show bodyPost _ _ _ _ _ (put6T (V.setCell ⟨Wk, 2, none⟩ (.bool true)) N (.bool true) (.int .i64 0) (.slice none 0 0) (.slice none 0 0) (.slice none 0 0) (.slice none 0 0))
  obtain ⟨p0, p1, p2, p3, p4, p5⟩ := box6 hbox
  refine bodyPost_ret (v := .agg #[.bool true, .int .i64 0, .slice none 0 0, .slice none 0 0, .slice none 0 0, .slice none 0 0]) (by simp [results, Try.results61, go_sem, p0, p1, p2, p3, p4, p5]) rfl ?_
  have hs0 : ∀ (w : World), StrsAt w A B none 0 0 [] := fun w => ⟨rfl, Nat.le_refl _, Nat.zero_le _, fun i hi => by omega, fun h => by omega⟩
  have hi0 : ∀ (w : World), IntsAt w A B none 0 0 [] := fun w => ⟨rfl, Nat.le_refl _, Nat.zero_le _, fun i hi => by omega, fun h => by omega⟩
  refine ⟨⟨none, 0, 0, none, 0, 0, none, 0, 0, none, 0, fun _ => [], ?_, ?_⟩, ?_, hF⟩
  · rw [HRD.out]; rfl
  · rw [HRD.out]
    exact ⟨by unfold I64 leafT; simp, hs0 _, hs0 _, hi0 _, ⟨Nat.le_refl _, Nat.zero_le _⟩, fun h => by simp [leafT] at h, fun i k hk => by simp [leafT] at hk⟩
  · rw [HRD.out]; exact W3
set_option maxHeartbeats 2000000 in
/-- A leaf. -/
theorem l3Read_leaf (ts : List TN) (f nx : Nat) (a : Option Addr) (n c A B Wk : Nat) (w : World) (hB : B ≤ w.heap.size) (hT : NodesAt w A B a n c ts) (hnx : nx < ts.length) (hm : ts.length ≤ 1000) (hlf : (ts.getD nx dT).leaf = true) (hWk : B ≤ Wk) (hW : w.heap[Wk]? = some (.cells #[.slice a n c, .int .i64 nx, .bool false] 111)) :
    Calls Try.prog 61 #[.pointer (some ⟨Wk, 0, none⟩)] w fun e w' => ReadAt ts (f + 1) nx a n c A B Wk w e w' := by
  have HRD : Hid (rd ts (f + 1) nx = (⟨true, (ts.getD nx dT).page, (ts.getD nx dT).keys, (ts.getD nx dT).vals, (ts.getD nx dT).over, []⟩, nx + 1, false)) := by
    show _ = _
    unfold rd
    rw [if_pos hnx, if_pos hlf]
  have hlt : Wk < w.heap.size := (Array.getElem?_eq_some_iff.1 hW).1
  have hl := hT.1
  obtain ⟨b, off, rfl, hb, ka, kn, kc, va, vn, vc, oa, on, oc, ya, yn, yc, hX⟩ := hT.at (i := nx) (by omega)
  have hn : nx < n := by omega
  have hn2 : n ≤ 1000 := by omega
  obtain ⟨x, hx⟩ : ∃ x, x = ts.getD nx dT := ⟨_, rfl⟩
  rw [← hx] at HRD hX hlf
  have HX : Hid (TNodeIs w A B b (off + nx * 6) x ka kn kc va vn vc oa on oc ya yn yc) := hX
  obtain ⟨c0, c1, c2, c3, c4, c5, hpg, hK, hV, hO, hY⟩ := hX
  rw [hlf] at c0
  clear hnx hl hT hx hK hV hO hY
  generalize x.page = pg at c1 hpg HRD
  have hb0 : Below w.heap.size w (w.alloc (.cells #[.bool false, .int .i64 0, .slice none 0 0, .slice none 0 0, .slice none 0 0, .slice none 0 0] 61)) := (Below.refl _ _).alloc (Nat.le_refl _) _
  have R0 := heap_alloc_new w (.cells #[.bool false, .int .i64 0, .slice none 0 0, .slice none 0 0, .slice none 0 0, .slice none 0 0] 61)
  have s0 : (w.alloc (.cells #[.bool false, .int .i64 0, .slice none 0 0, .slice none 0 0, .slice none 0 0, .slice none 0 0] 61)).heap.size = w.heap.size + 1 := by simp
  obtain ⟨N, hN⟩ : ∃ N, w.heap.size = N := ⟨_, rfl⟩
  rw [hN] at R0 s0
  have W0 := (hb0.block Wk hlt).trans hW
  have hbl : b < w.heap.size := by omega
  have d0 := (hb0.cell (p := ⟨b, off + nx * 6, none⟩) hbl).trans c0
  have d1 := (hb0.cell (p := ⟨b, off + nx * 6 + 1, none⟩) hbl).trans c1
  have d2 := (hb0.cell (p := ⟨b, off + nx * 6 + 2, none⟩) hbl).trans c2
  have d3 := (hb0.cell (p := ⟨b, off + nx * 6 + 3, none⟩) hbl).trans c3
  have d4 := (hb0.cell (p := ⟨b, off + nx * 6 + 4, none⟩) hbl).trans c4
  have d5 := (hb0.cell (p := ⟨b, off + nx * 6 + 5, none⟩) hbl).trans c5
  clear c0 c1 c2 c3 c4 c5
  obtain ⟨x0, x1, x2⟩ := box3w W0
  go_enter Try.func61, Try.ntmps61
  go_wp2_with fail
  go_quiet (fail)
  have e0 : Below w.heap.size w ((w.alloc (.cells #[.bool false, .int .i64 0, .slice none 0 0, .slice none 0 0, .slice none 0 0, .slice none 0 0] 61)).drewN nq) := hb0.trans ⟨rfl, rfl, rfl, Nat.le_refl _, fun _ _ => rfl⟩
  have R1 : ((w.alloc (.cells #[.bool false, .int .i64 0, .slice none 0 0, .slice none 0 0, .slice none 0 0, .slice none 0 0] 61)).drewN nq).heap[N]? = some (.cells #[.bool false, .int .i64 0, .slice none 0 0, .slice none 0 0, .slice none 0 0, .slice none 0 0] 61) := R0
  have W1 : ((w.alloc (.cells #[.bool false, .int .i64 0, .slice none 0 0, .slice none 0 0, .slice none 0 0, .slice none 0 0] 61)).drewN nq).heap[Wk]? = some (.cells #[.slice (some ⟨b, off, none⟩) n c, .int .i64 nx, .bool false] 111) := W0
  have s1 : ((w.alloc (.cells #[.bool false, .int .i64 0, .slice none 0 0, .slice none 0 0, .slice none 0 0, .slice none 0 0] 61)).drewN nq).heap.size = N + 1 := s0
  have g0 : ((w.alloc (.cells #[.bool false, .int .i64 0, .slice none 0 0, .slice none 0 0, .slice none 0 0, .slice none 0 0] 61)).drewN nq).cell? ⟨b, off + nx * 6, none⟩ = _ := d0
  have g1 : ((w.alloc (.cells #[.bool false, .int .i64 0, .slice none 0 0, .slice none 0 0, .slice none 0 0, .slice none 0 0] 61)).drewN nq).cell? ⟨b, off + nx * 6 + 1, none⟩ = _ := d1
  have g2 : ((w.alloc (.cells #[.bool false, .int .i64 0, .slice none 0 0, .slice none 0 0, .slice none 0 0, .slice none 0 0] 61)).drewN nq).cell? ⟨b, off + nx * 6 + 2, none⟩ = _ := d2
  have g3 : ((w.alloc (.cells #[.bool false, .int .i64 0, .slice none 0 0, .slice none 0 0, .slice none 0 0, .slice none 0 0] 61)).drewN nq).cell? ⟨b, off + nx * 6 + 3, none⟩ = _ := d3
  have g4 : ((w.alloc (.cells #[.bool false, .int .i64 0, .slice none 0 0, .slice none 0 0, .slice none 0 0, .slice none 0 0] 61)).drewN nq).cell? ⟨b, off + nx * 6 + 4, none⟩ = _ := d4
  have g5 : ((w.alloc (.cells #[.bool false, .int .i64 0, .slice none 0 0, .slice none 0 0, .slice none 0 0, .slice none 0 0] 61)).drewN nq).cell? ⟨b, off + nx * 6 + 5, none⟩ = _ := d5
  generalize (w.alloc (.cells #[.bool false, .int .i64 0, .slice none 0 0, .slice none 0 0, .slice none 0 0, .slice none 0 0] 61)).drewN nq = V at e0 R1 W1 s1 g0 g1 g2 g3 g4 g5 ⊢
  clear x0 x1 x2 hb0 R0 W0 s0 d0 d1 d2 d3 d4 d5
  obtain ⟨x0, x1, x2⟩ := box3w W1
  have bV : b < V.heap.size := by omega
  have kV : Wk < V.heap.size := by omega
  go_upto_region 4 with fail
  go_cut [3] (fun v wx => v = .pointer (some ⟨N + 1, 0, none⟩) ∧ wx.heap[N + 1]? = some (.cells #[.bool true, .int .i64 pg, .slice ka kn kc, .slice va vn vc, .slice oa on oc, .slice ya yn yc] 92) ∧ Below V.heap.size V wx ∧ wx.heap.size = N + 2)
  case first =>
    go_region_held3 (fun w' => w'.cell? ⟨Wk, 0, none⟩ = some (.slice (some ⟨b, off, none⟩) n c) ∧ w'.cell? ⟨Wk, 1, none⟩ = some (.int .i64 nx) ∧ w'.cell? ⟨b, off + nx * 6, none⟩ = some (.bool true) ∧ w'.cell? ⟨b, off + nx * 6 + 1, none⟩ = some (.int .i64 pg) ∧ w'.cell? ⟨b, off + nx * 6 + 2, none⟩ = some (.slice ka kn kc) ∧ w'.cell? ⟨b, off + nx * 6 + 3, none⟩ = some (.slice va vn vc) ∧ w'.cell? ⟨b, off + nx * 6 + 4, none⟩ = some (.slice oa on oc) ∧ w'.cell? ⟨b, off + nx * 6 + 5, none⟩ = some (.slice ya yn yc)) (go_keep) (fail)
    have hz := (Below.refl V.heap.size V).alloc (Nat.le_refl _) (.cells #[.bool true, .int .i64 pg, .slice ka kn kc, .slice va vn vc, .slice oa on oc, .slice ya yn yc] 92)
    have hz2 := heap_alloc_new V (.cells #[.bool true, .int .i64 pg, .slice ka kn kc, .slice va vn vc, .slice oa on oc, .slice ya yn yc] 92)
    rw [s1] at hz2
    go_wp2_with fail
    go_meet
    exact ⟨rfl, hz2, hz.drew, by simp [s1]⟩
  case rest =>
    obtain ⟨rfl, xb, bx, sx⟩ := hcut
    have W2 := (bx.block Wk kV).trans W1
    have R2 := (bx.block N (by omega)).trans R1
    clear x0 x1 x2
    obtain ⟨x0, x1, x2⟩ := box3w W2
    obtain ⟨y0, y1, y2, y3, y4, y5⟩ := box6 xb
    have fw := thawT W2
    have W3 := heap_setT W2 1 (.int .i64 (nx + 1 : Nat))
    have f3 := fr_setT wc Wk 1 (.int .i64 (nx + 1 : Nat))
    have s3 : (wc.setCell ⟨Wk, 1, none⟩ (.int .i64 (nx + 1 : Nat))).heap.size = N + 2 := by simp [World.setCell, sx]
    have R3 := (f3.block N (by omega) (by omega)).trans R2
    have X3 := (f3.block (N + 1) (by omega) (by omega)).trans xb
    have lw : Wk < wc.heap.size := by omega
    have ecast : (↑(nx + 1 : Nat) : Int) = ↑nx + 1 := by omega
    rw [ecast] at W3 f3 s3 R3 X3
    clear ecast
    go_upto_region 6 with fail
    generalize wc.setCell ⟨Wk, 1, none⟩ (.int .i64 (↑nx + 1)) = V3 at W3 f3 s3 R3 X3 ⊢
    clear y0 y1 y2 y3 y4 y5 x0 x1 x2 fw
    obtain ⟨y0, y1, y2, y3, y4, y5⟩ := box6 X3
    have hz := (Below.refl V3.heap.size V3).alloc (Nat.le_refl _) (.cells #[.bool true, .int .i64 pg, .slice ka kn kc, .slice va vn vc, .slice oa on oc, .slice none 0 0] 61)
    have N4 := heap_alloc_new V3 (.cells #[.bool true, .int .i64 pg, .slice ka kn kc, .slice va vn vc, .slice oa on oc, .slice none 0 0] 61)
    have s4 : (V3.alloc (.cells #[.bool true, .int .i64 pg, .slice ka kn kc, .slice va vn vc, .slice oa on oc, .slice none 0 0] 61)).heap.size = N + 3 := by simp [s3]
    have R4 := (hz.block N (by omega)).trans R3
    have X4 := (hz.block (N + 1) (by omega)).trans X3
    have W4 := (hz.block Wk (by omega)).trans W3
    rw [s3] at N4
    go_upto_region 7 with fail
    generalize V3.alloc (.cells #[.bool true, .int .i64 pg, .slice ka kn kc, .slice va vn vc, .slice oa on oc, .slice none 0 0] 61) = V4 at hz N4 s4 R4 X4 W4 ⊢
    clear y0 y1 y2 y3 y4 y5
    obtain ⟨y0, y1, y2, y3, y4, y5⟩ := box6 X4
    obtain ⟨n0, n1, n2, n3, n4, n5⟩ := box6 N4
    obtain ⟨r0, r1, r2, r3, r4, r5⟩ := box6 R4
    have fr := thawT R4
    have hbox := put6T_box R4 (.bool true) (.int .i64 pg) (.slice ka kn kc) (.slice va vn vc) (.slice oa on oc) (.slice none 0 0)
    have hfr := put6T_fr V4 N (.bool true) (.int .i64 pg) (.slice ka kn kc) (.slice va vn vc) (.slice oa on oc) (.slice none 0 0)
    have W5 := (hfr.block Wk (by omega) (by omega)).trans W4
    have l0 : N < V4.heap.size := by omega
    have l1 : N + 1 < V4.heap.size := by omega
    have l2 : N + 2 < V4.heap.size := by omega
    have hF : Fr (fun g => g = Wk) w (put6T V4 N (.bool true) (.int .i64 pg) (.slice ka kn kc) (.slice va vn vc) (.slice oa on oc) (.slice none 0 0)) :=
      ⟨hfr.os.trans (hz.os.trans (f3.os.trans (bx.os.trans e0.os))), hfr.tape.trans (hz.tape.trans (f3.tape.trans (bx.tape.trans e0.tape))), hfr.output.trans (hz.output.trans (f3.output.trans (bx.output.trans e0.output))), Nat.le_trans e0.size (Nat.le_trans bx.size (Nat.le_trans f3.size (Nat.le_trans hz.size hfr.size))), fun k hk hn => (hfr.block k (by omega) (by omega)).trans ((hz.block k (by omega)).trans ((f3.block k (by omega) hn).trans ((bx.block k (by omega)).trans (e0.block k hk))))⟩
    go_wp2_with fail
    show bodyPost _ _ _ _ _ (put6T V4 N (.bool true) (.int .i64 pg) (.slice ka kn kc) (.slice va vn vc) (.slice oa on oc) (.slice none 0 0))
    obtain ⟨p0, p1, p2, p3, p4, p5⟩ := box6 hbox
    refine bodyPost_ret (v := .agg #[.bool true, .int .i64 pg, .slice ka kn kc, .slice va vn vc, .slice oa on oc, .slice none 0 0]) (by simp [results, Try.results61, go_sem, p0, p1, p2, p3, p4, p5]) rfl ?_
    have hkeep : Keeps A B w (put6T V4 N (.bool true) (.int .i64 pg) (.slice ka kn kc) (.slice va vn vc) (.slice oa on oc) (.slice none 0 0)) := fun k h1 h2 => hF.block k (by omega) (by omega)
    obtain ⟨_, _, _, _, _, _, _, hK, hV, hO, hY⟩ := HX.out
    refine ⟨⟨ka, kn, kc, va, vn, vc, oa, on, oc, none, 0, fun _ => [], ?_, ?_⟩, ?_, hF⟩
    · rw [HRD.out]; rfl
    · rw [HRD.out]
      exact ⟨hpg, hK.keep hkeep, hV.keep hkeep, hO.keep hkeep, ⟨Nat.le_refl _, Nat.zero_le _⟩, fun h => by simp at h, fun i k hk => by simp at hk⟩
    · rw [HRD.out]
      have : (↑(nx + 1 : Nat) : Int) = ↑nx + 1 := by omega
      simp only [this]
      exact W5
end Go.Proofs.Ytpmagndofiaooaa
