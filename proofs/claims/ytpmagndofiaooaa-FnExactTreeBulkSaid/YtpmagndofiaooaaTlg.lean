import Derived.Test.YtpmagndofiaooaaTlf
namespace Go.Proofs.Ytpmagndofiaooaa
open Go.RowKit
set_option linter.unusedVariables false
set_option linter.unusedSimpArgs false
set_option maxRecDepth 100000

theorem cell_six_new (w : World) (a b c d e f : Value) (t : TypeId) : ∀ j u, [a, b, c, d, e, f][j]? = some u → (w.alloc (.cells #[a, b, c, d, e, f] t)).cell? ((⟨w.heap.size, 0, none⟩ : Addr).add j) = some u := by
  intro j u h
  match j, h with
  | 0, h => simpa [Addr.add] using h
  | 1, h => simpa [Addr.add] using h
  | 2, h => simpa [Addr.add] using h
  | 3, h => simpa [Addr.add] using h
  | 4, h => simpa [Addr.add] using h
  | 5, h => simpa [Addr.add] using h
/-- How far the children are read. -/
def Far (ts : List TN) (f : Nat) (ks : List Int) (nx j : Nat) (zs : List T) (nj : Nat) (bad : Bool) : Prop :=
  zs.length = j ∧ (nx ≤ nj ∧ nj ≤ ts.length) ∧ (j + nx ≤ nj + (if bad then 1 else 0)) ∧ (bad = false → rdK (rd ts f) ks nx = (zs ++ (rdK (rd ts f) (ks.drop j) nj).1, (rdK (rd ts f) (ks.drop j) nj).2.1, (rdK (rd ts f) (ks.drop j) nj).2.2)) ∧ (bad = true → rdK (rd ts f) ks nx = (zs, nj, true))
theorem Far.start (ts : List TN) (f : Nat) (ks : List Int) (nx : Nat) (h : nx ≤ ts.length) : Far ts f ks nx 0 [] nx false := ⟨rfl, ⟨Nat.le_refl _, h⟩, by simp, fun _ => by simp, fun h => by cases h⟩
theorem drop_getD {ks : List Int} {j : Nat} (h : j < ks.length) : ks.drop j = ks.getD j 0 :: ks.drop (j + 1) := by
  rw [List.drop_eq_getElem_cons h]
  simp [List.getD, h]
theorem rdK_cons (one : Nat → T × Nat × Bool) (k : Int) (ks : List Int) (nx : Nat) : rdK one (k :: ks) nx = if k = nx then
      if (one nx).2.2 then ([(one nx).1], (one nx).2.1, true)
      else ((one nx).1 :: (rdK one ks (one nx).2.1).1, (rdK one ks (one nx).2.1).2.1, (rdK one ks (one nx).2.1).2.2)
    else ([], nx, true) := rfl
theorem Far.step {ts : List TN} {f : Nat} {ks : List Int} {nx j : Nat} {zs : List T} {nj : Nat} (h : Far ts f ks nx j zs nj false) (hj : j < ks.length) (hk : ks.getD j 0 = nj) : Far ts f ks nx (j + 1) (zs ++ [(rd ts f nj).1]) (rd ts f nj).2.1 (rd ts f nj).2.2 := by
  obtain ⟨h1, h2, h3, h4, _⟩ := h
  have hr := rd_range ts f nj h2.2
  have h4 := h4 rfl
  rw [drop_getD hj, rdK_cons, if_pos hk] at h4
  refine ⟨by simp [h1], ⟨by omega, hr.2.1⟩, ?_, fun hb => ?_, fun hb => ?_⟩
  · simp only [Bool.false_eq_true, if_false] at h3
    cases e : (rd ts f nj).2.2 with
    | false => have := hr.2.2 e; simp; omega
    | true => simp; omega
  · rw [hb] at h4
    simpa using h4
  · rw [hb] at h4
    simpa using h4
theorem Far.stop {ts : List TN} {f : Nat} {ks : List Int} {nx j : Nat} {zs : List T} {nj : Nat} (h : Far ts f ks nx j zs nj false) (hj : j < ks.length) (hk : ¬ ks.getD j 0 = nj) : rdK (rd ts f) ks nx = (zs, nj, true) := by
  have h4 := h.2.2.2.1 rfl
  rw [drop_getD hj, rdK_cons, if_neg hk] at h4
  simpa using h4
theorem Far.done {ts : List TN} {f : Nat} {ks : List Int} {nx j : Nat} {zs : List T} {nj : Nat} {bad : Bool} (h : Far ts f ks nx j zs nj bad) (hj : j < ks.length → bad = true) (hjl : j ≤ ks.length) : rdK (rd ts f) ks nx = (zs, nj, bad) := by
  cases bad with
  | true => exact h.2.2.2.2 rfl
  | false =>
    have hj2 : ¬ j < ks.length := fun e => by cases hj e
    have h4 := h.2.2.2.1 rfl
    rw [List.drop_eq_nil_of_le (by omega)] at h4
    simpa [rdK] using h4
/-- Reading at every place, with that much fuel. -/
def ReadAll (ts : List TN) (f : Nat) (a : Option Addr) (n c A B Wk : Nat) : Prop := ∀ (nx : Nat) (w : World), nx ≤ ts.length → ts.length - nx < f → B ≤ w.heap.size → NodesAt w A B a n c ts → B ≤ Wk → w.heap[Wk]? = some (.cells #[.slice a n c, .int .i64 nx, .bool false] 111) →
    Calls Try.prog 61 #[.pointer (some ⟨Wk, 0, none⟩)] w fun e w' => ReadAt ts f nx a n c A B Wk w e w'
set_option maxHeartbeats 4000000 in
/-- An inner node. -/
theorem l3Read_inner (ts : List TN) (f nx : Nat) (a : Option Addr) (n c A B Wk : Nat) (ih : ReadAll ts f a n c A B Wk) (w : World) (hB : B ≤ w.heap.size) (hT : NodesAt w A B a n c ts) (hnx : nx < ts.length) (hf : ts.length - nx < f + 1) (hm : ts.length ≤ 1000) (hlf : (ts.getD nx dT).leaf = false) (hWk : B ≤ Wk) (hW : w.heap[Wk]? = some (.cells #[.slice a n c, .int .i64 nx, .bool false] 111)) :
    Calls Try.prog 61 #[.pointer (some ⟨Wk, 0, none⟩)] w fun e w' => ReadAt ts (f + 1) nx a n c A B Wk w e w' := by
  have hRD : rd ts (f + 1) nx = if (ts.getD nx dT).kids.length = 0 then (⟨false, (ts.getD nx dT).page, [], (ts.getD nx dT).vals, (ts.getD nx dT).over, []⟩, nx + 1, true) else (⟨false, (ts.getD nx dT).page, [], (ts.getD nx dT).vals, (ts.getD nx dT).over, (rdK (rd ts f) (ts.getD nx dT).kids (nx + 1)).1⟩, (rdK (rd ts f) (ts.getD nx dT).kids (nx + 1)).2.1, (rdK (rd ts f) (ts.getD nx dT).kids (nx + 1)).2.2) := by
    conv => lhs; unfold rd
    rw [if_pos hnx, if_neg (by rw [hlf]; simp)]
  have hlt : Wk < w.heap.size := (Array.getElem?_eq_some_iff.1 hW).1
  have hl := hT.1
  have HT : Hid (NodesAt w A B a n c ts) := hT
  have IH : Hid (ReadAll ts f a n c A B Wk) := ih
  obtain ⟨b, off, rfl, hb, ka, kn, kc, va, vn, vc, oa, on, oc, ya, yn, yc, hX⟩ := hT.at (i := nx) (by omega)
  have hn : nx < n := by omega
  have hn2 : n ≤ 1000 := by omega
  have HNX : Hid (nx < ts.length ∧ ts.length - nx < f + 1 ∧ ts.length ≤ 1000 ∧ ts.length = n) := ⟨hnx, hf, hm, hl⟩
  obtain ⟨x, hx⟩ : ∃ x, x = ts.getD nx dT := ⟨_, rfl⟩
  rw [← hx] at hRD hX hlf
  have HRD : Hid _ := hRD
  have HX : Hid (TNodeIs w A B b (off + nx * 6) x ka kn kc va vn vc oa on oc ya yn yc) := hX
  obtain ⟨c0, c1, c2, c3, c4, c5, hpg, hK, hV, hO, hY⟩ := hX
  rw [hlf] at c0
  have HYL : Hid (x.kids.length = yn) := hY.1
  have hym : yn ≤ maxLen := Nat.le_trans hY.2.1 hY.2.2.1
  unfold maxLen at hym
  clear hnx hl hT hx hK hV hO hY hRD ih hf hm
  obtain ⟨pg, hpgx⟩ : ∃ pg, pg = x.page := ⟨_, rfl⟩
  rw [← hpgx] at c1 hpg
  have HPG : Hid (pg = x.page) := hpgx
  clear hpgx
  have hb0 : Below w.heap.size w (w.alloc (.cells #[.bool false, .int .i64 0, .slice none 0 0, .slice none 0 0, .slice none 0 0, .slice none 0 0] 61)) := (Below.refl _ _).alloc (Nat.le_refl _) _
  have R0 := heap_alloc_new w (.cells #[.bool false, .int .i64 0, .slice none 0 0, .slice none 0 0, .slice none 0 0, .slice none 0 0] 61)
  have s0 : (w.alloc (.cells #[.bool false, .int .i64 0, .slice none 0 0, .slice none 0 0, .slice none 0 0, .slice none 0 0] 61)).heap.size = w.heap.size + 1 := by simp
  obtain ⟨N, hN⟩ : ∃ N, w.heap.size = N := ⟨_, rfl⟩
  rw [hN] at R0 s0
  have W0 := (hb0.block Wk hlt).trans hW
  have hbl : b < w.heap.size := by omega
  have d0 := (hb0.cell (p := ⟨b, off + nx * 6, none⟩) hbl).trans c0
  have d1 := (hb0.cell (p := ⟨b, off + nx * 6 + 1, none⟩) hbl).trans c1
  have d2 := (hb0.cell (p := ⟨b, off + nx * 6 + 2, none⟩) hbl).trans c2
  have d3 := (hb0.cell (p := ⟨b, off + nx * 6 + 3, none⟩) hbl).trans c3
  have d4 := (hb0.cell (p := ⟨b, off + nx * 6 + 4, none⟩) hbl).trans c4
  have d5 := (hb0.cell (p := ⟨b, off + nx * 6 + 5, none⟩) hbl).trans c5
  clear c0 c1 c2 c3 c4 c5
  obtain ⟨x0, x1, x2⟩ := box3w W0
  go_enter Try.func61, Try.ntmps61
  go_wp2_with fail
  go_quiet (fail)
  have e0 : Below w.heap.size w ((w.alloc (.cells #[.bool false, .int .i64 0, .slice none 0 0, .slice none 0 0, .slice none 0 0, .slice none 0 0] 61)).drewN nq) := hb0.trans ⟨rfl, rfl, rfl, Nat.le_refl _, fun _ _ => rfl⟩
  have R1 : ((w.alloc (.cells #[.bool false, .int .i64 0, .slice none 0 0, .slice none 0 0, .slice none 0 0, .slice none 0 0] 61)).drewN nq).heap[N]? = some (.cells #[.bool false, .int .i64 0, .slice none 0 0, .slice none 0 0, .slice none 0 0, .slice none 0 0] 61) := R0
  have W1 : ((w.alloc (.cells #[.bool false, .int .i64 0, .slice none 0 0, .slice none 0 0, .slice none 0 0, .slice none 0 0] 61)).drewN nq).heap[Wk]? = some (.cells #[.slice (some ⟨b, off, none⟩) n c, .int .i64 nx, .bool false] 111) := W0
  have s1 : ((w.alloc (.cells #[.bool false, .int .i64 0, .slice none 0 0, .slice none 0 0, .slice none 0 0, .slice none 0 0] 61)).drewN nq).heap.size = N + 1 := s0
  have g0 : ((w.alloc (.cells #[.bool false, .int .i64 0, .slice none 0 0, .slice none 0 0, .slice none 0 0, .slice none 0 0] 61)).drewN nq).cell? ⟨b, off + nx * 6, none⟩ = _ := d0
  have g1 : ((w.alloc (.cells #[.bool false, .int .i64 0, .slice none 0 0, .slice none 0 0, .slice none 0 0, .slice none 0 0] 61)).drewN nq).cell? ⟨b, off + nx * 6 + 1, none⟩ = _ := d1
  have g2 : ((w.alloc (.cells #[.bool false, .int .i64 0, .slice none 0 0, .slice none 0 0, .slice none 0 0, .slice none 0 0] 61)).drewN nq).cell? ⟨b, off + nx * 6 + 2, none⟩ = _ := d2
  have g3 : ((w.alloc (.cells #[.bool false, .int .i64 0, .slice none 0 0, .slice none 0 0, .slice none 0 0, .slice none 0 0] 61)).drewN nq).cell? ⟨b, off + nx * 6 + 3, none⟩ = _ := d3
  have g4 : ((w.alloc (.cells #[.bool false, .int .i64 0, .slice none 0 0, .slice none 0 0, .slice none 0 0, .slice none 0 0] 61)).drewN nq).cell? ⟨b, off + nx * 6 + 4, none⟩ = _ := d4
  have g5 : ((w.alloc (.cells #[.bool false, .int .i64 0, .slice none 0 0, .slice none 0 0, .slice none 0 0, .slice none 0 0] 61)).drewN nq).cell? ⟨b, off + nx * 6 + 5, none⟩ = _ := d5
  generalize (w.alloc (.cells #[.bool false, .int .i64 0, .slice none 0 0, .slice none 0 0, .slice none 0 0, .slice none 0 0] 61)).drewN nq = V at e0 R1 W1 s1 g0 g1 g2 g3 g4 g5 ⊢
  clear x0 x1 x2 hb0 R0 W0 s0 d0 d1 d2 d3 d4 d5
  obtain ⟨x0, x1, x2⟩ := box3w W1
  have bV : b < V.heap.size := by omega
  have kV : Wk < V.heap.size := by omega
  go_upto_region 4 with fail
  go_cut [3] (fun v wx => v = .pointer (some ⟨N + 1, 0, none⟩) ∧ wx.heap[N + 1]? = some (.cells #[.bool false, .int .i64 pg, .slice ka kn kc, .slice va vn vc, .slice oa on oc, .slice ya yn yc] 92) ∧ Below V.heap.size V wx ∧ wx.heap.size = N + 2)
  case first =>
    go_region_held3 (fun w' => w'.cell? ⟨Wk, 0, none⟩ = some (.slice (some ⟨b, off, none⟩) n c) ∧ w'.cell? ⟨Wk, 1, none⟩ = some (.int .i64 nx) ∧ w'.cell? ⟨b, off + nx * 6, none⟩ = some (.bool false) ∧ w'.cell? ⟨b, off + nx * 6 + 1, none⟩ = some (.int .i64 pg) ∧ w'.cell? ⟨b, off + nx * 6 + 2, none⟩ = some (.slice ka kn kc) ∧ w'.cell? ⟨b, off + nx * 6 + 3, none⟩ = some (.slice va vn vc) ∧ w'.cell? ⟨b, off + nx * 6 + 4, none⟩ = some (.slice oa on oc) ∧ w'.cell? ⟨b, off + nx * 6 + 5, none⟩ = some (.slice ya yn yc)) (go_keep) (fail)
    have hz := (Below.refl V.heap.size V).alloc (Nat.le_refl _) (.cells #[.bool false, .int .i64 pg, .slice ka kn kc, .slice va vn vc, .slice oa on oc, .slice ya yn yc] 92)
    have hz2 := heap_alloc_new V (.cells #[.bool false, .int .i64 pg, .slice ka kn kc, .slice va vn vc, .slice oa on oc, .slice ya yn yc] 92)
    rw [s1] at hz2
    go_wp2_with fail
    go_meet
    exact ⟨rfl, hz2, hz.drew, by simp [s1]⟩
  case rest =>
    obtain ⟨rfl, xb, bx, sx⟩ := hcut
    have W2 := (bx.block Wk kV).trans W1
    have R2 := (bx.block N (by omega)).trans R1
    clear x0 x1 x2 g0 g1 g2 g3 g4 g5
    obtain ⟨x0, x1, x2⟩ := box3w W2
    obtain ⟨y0, y1, y2, y3, y4, y5⟩ := box6 xb
    have fw := thawT W2
    have W3 := heap_setT W2 1 (.int .i64 (nx + 1 : Nat))
    have f3 := fr_setT wc Wk 1 (.int .i64 (nx + 1 : Nat))
    have s3 : (wc.setCell ⟨Wk, 1, none⟩ (.int .i64 (nx + 1 : Nat))).heap.size = N + 2 := by simp [World.setCell, sx]
    have R3 := (f3.block N (by omega) (by omega)).trans R2
    have X3 := (f3.block (N + 1) (by omega) (by omega)).trans xb
    have lw : Wk < wc.heap.size := by omega
    have ecast : (↑(nx + 1 : Nat) : Int) = ↑nx + 1 := by omega
    rw [ecast] at W3 f3 s3 R3 X3
    clear ecast
    go_upto_region 6 with fail
    generalize wc.setCell ⟨Wk, 1, none⟩ (.int .i64 (↑nx + 1)) = V3 at W3 f3 s3 R3 X3 ⊢
    clear y0 y1 y2 y3 y4 y5 x0 x1 x2 fw
    have F3 : Fr (fun g => g = Wk) w V3 := ((Fr.of_below e0).trans (Fr.of_below bx)).trans f3
    clear f3 bx e0 xb W2 R2 R1 W1
    obtain ⟨y0, y1, y2, y3, y4, y5⟩ := box6 X3
    have hz := (Below.refl V3.heap.size V3).alloc (Nat.le_refl _) (.cells #[.bool false, .int .i64 pg, .slice ka kn kc, .slice va vn vc, .slice oa on oc, .slice none 0 0] 61)
    have N4 := heap_alloc_new V3 (.cells #[.bool false, .int .i64 pg, .slice ka kn kc, .slice va vn vc, .slice oa on oc, .slice none 0 0] 61)
    have s4 : (V3.alloc (.cells #[.bool false, .int .i64 pg, .slice ka kn kc, .slice va vn vc, .slice oa on oc, .slice none 0 0] 61)).heap.size = N + 3 := by simp [s3]
    have R4 := (hz.block N (by omega)).trans R3
    have X4 := (hz.block (N + 1) (by omega)).trans X3
    have W4 := (hz.block Wk (by omega)).trans W3
    have F4 := F3.trans (Fr.of_below hz)
    rw [s3] at N4
    go_upto_region 9 with fail
    generalize V3.alloc (.cells #[.bool false, .int .i64 pg, .slice ka kn kc, .slice va vn vc, .slice oa on oc, .slice none 0 0] 61) = V4 at N4 s4 R4 X4 W4 F4 ⊢
    clear y0 y1 y2 y3 y4 y5 hz
    obtain ⟨n0, n1, n2, n3, n4, n5⟩ := box6 N4
    have fn := thawT N4
    -- the empty keys
    have hset := fr_setT V4 (N + 2) 2 (.slice (some ⟨N + 3, 0, none⟩) 0 0)
    have hz := (Below.refl (V4.setCell ⟨N + 2, 2, none⟩ (.slice (some ⟨N + 3, 0, none⟩) 0 0)).heap.size (V4.setCell ⟨N + 2, 2, none⟩ (.slice (some ⟨N + 3, 0, none⟩) 0 0))).alloc (Nat.le_refl _) (.cells #[] 9)
    have s5 : (V4.setCell ⟨N + 2, 2, none⟩ (.slice (some ⟨N + 3, 0, none⟩) 0 0)).heap.size = N + 3 := by simp [World.setCell, s4]
    have N5 := (hz.block (N + 2) (by omega)).trans (heap_setT N4 2 (.slice (some ⟨N + 3, 0, none⟩) 0 0))
    have R5 := (hz.block N (by omega)).trans ((hset.block N (by omega) (by omega)).trans R4)
    have X5 := (hz.block (N + 1) (by omega)).trans ((hset.block (N + 1) (by omega) (by omega)).trans X4)
    have W5 := (hz.block Wk (by omega)).trans ((hset.block Wk (by omega) (by omega)).trans W4)
    have s6 : ((V4.setCell ⟨N + 2, 2, none⟩ (.slice (some ⟨N + 3, 0, none⟩) 0 0)).alloc (.cells #[] 9)).heap.size = N + 4 := by simp [World.setCell, s4]
    have F5 : Fr (fun g => g = Wk) w ((V4.setCell ⟨N + 2, 2, none⟩ (.slice (some ⟨N + 3, 0, none⟩) 0 0)).alloc (.cells #[] 9)) := ⟨hz.os.trans (hset.os.trans F4.os), hz.tape.trans (hset.tape.trans F4.tape), hz.output.trans (hset.output.trans F4.output), Nat.le_trans F4.size (Nat.le_trans hset.size hz.size), fun k hk1 hk2 => (hz.block k (by omega)).trans ((hset.block k (by omega) (by omega)).trans (F4.block k hk1 hk2))⟩
    go_upto_region 10 with fail
    generalize ((V4.setCell ⟨N + 2, 2, none⟩ (.slice (some ⟨N + 3, 0, none⟩) 0 0)).alloc (.cells #[] 9)) = V5 at N5 R5 X5 W5 s6 F5 ⊢
    clear hset hz s5 N4 R4 X4 W4 F4 s4 n0 n1 n2 n3 n4 n5 fn R3 X3 W3 F3 s3
    obtain ⟨x0, x1, x2⟩ := box3w W5
    obtain ⟨y0, y1, y2, y3, y4, y5⟩ := box6 X5
    have fw := thawT W5
    have l1 : N + 1 < V5.heap.size := by omega
    have lw5 : Wk < V5.heap.size := by omega
    have hinit : ∀ bd, RSt w (V5.setCell ⟨Wk, 2, none⟩ (.bool bd)) A B Wk N #[.slice (some ⟨b, off, none⟩) n c, .int .i64 (↑nx + 1), .bool bd] #[.bool false, .int .i64 pg, .slice ka kn kc, .slice va vn vc, .slice oa on oc, .slice ya yn yc] pg va vn vc oa on oc [] none 0 (fun _ => []) := fun bd => by
      have hs := fr_setT V5 Wk 2 (.bool bd)
      have hs2 : (V5.setCell ⟨Wk, 2, none⟩ (.bool bd)).heap.size = N + 4 := by simp [World.setCell, s6]
      exact ⟨hN, heap_setT W5 2 (.bool bd), (hs.block N (by omega) (by omega)).trans R5, (hs.block (N + 1) (by omega) (by omega)).trans X5, (hs.block (N + 2) (by omega) (by omega)).trans N5, World.ownsRow_nil _ _ _ _, fun i z hz => by simp at hz, F5.trans hs, by omega, hWk, by omega⟩
    have HI : Hid _ := hinit
    have hkeep : ∀ W, Fr (fun g => g = Wk) w W → StrsAt W A B va vn vc x.vals ∧ IntsAt W A B oa on oc x.over ∧ IntsAt W A B ya yn yc x.kids := fun W hW => by
      have hk : Keeps A B w W := fun k h1 h2 => hW.block k (by omega) (by omega)
      exact ⟨HX.out.vals.keep hk, HX.out.over.keep hk, HX.out.kids.keep hk⟩
    have HK : Hid _ := hkeep
    clear hinit hkeep N5 R5 F5
    by_cases ty : yn = 0
    · subst ty
      have RS := HI.out true
      have HR2 : Hid (rd ts (f + 1) nx = (⟨false, pg, [], x.vals, x.over, []⟩, nx + 1, true)) := by
        show _ = _
        rw [HRD.out, if_pos HYL.out, HPG.out]
      go_upto_region 11 with fail
      generalize V5.setCell ⟨Wk, 2, none⟩ (.bool true) = V6 at RS ⊢
      clear x0 x1 x2 y0 y1 y2 y3 y4 y5 fw W5 X5 s6 l1 lw5 HI
      obtain ⟨x0, x1, x2⟩ := box3w RS.wk
      obtain ⟨y0, y1, y2, y3, y4, y5⟩ := box6 RS.xb
      obtain ⟨n0, n1, n2, n3, n4, n5⟩ := box6 RS.nb
      obtain ⟨r0, r1, r2, r3, r4, r5⟩ := box6 RS.rb
      have fr := thawT RS.rb
      have l := RS.lt
      have l0 : N < V6.heap.size := by omega
      have l1 : N + 1 < V6.heap.size := by omega
      have l2 : N + 2 < V6.heap.size := by omega
      have lw6 : Wk < V6.heap.size := by omega
      go_wp2_with fail
      go_loopw [5, 6] (fun i u wr => i = .int .i64 0 ∧ u = undef ∧ wr = V6) (fun _ _ _ => 0)
      case atStart => exact ⟨rfl, rfl, rfl⟩
      case round =>
        obtain ⟨rfl, rfl, rfl⟩ := hrel
        have hbox := put6T_box RS.rb (.bool false) (.int .i64 pg) (.slice (some ⟨N + 3, 0, none⟩) 0 0) (.slice va vn vc) (.slice oa on oc) (.slice none 0 0)
        go_wp2_with fail
        show bodyPost _ _ _ _ _ (put6T wr N (.bool false) (.int .i64 pg) (.slice (some ⟨N + 3, 0, none⟩) 0 0) (.slice va vn vc) (.slice oa on oc) (.slice none 0 0))
        obtain ⟨p0, p1, p2, p3, p4, p5⟩ := box6 hbox
        refine bodyPost_ret (v := .agg #[.bool false, .int .i64 pg, .slice (some ⟨N + 3, 0, none⟩) 0 0, .slice va vn vc, .slice oa on oc, .slice none 0 0]) (by simp [results, Try.results61, go_sem, p0, p1, p2, p3, p4, p5]) rfl ?_
        exact RSt.fin (zs := []) (nj := nx + 1) (by simpa using RS) hpg (HK.out _ RS.fr).1 (HK.out _ RS.fr).2.1 (Nat.zero_le _) HR2.out
    · have RS := HI.out false
      have HR2 : Hid (∀ zs nj bad, rdK (rd ts f) x.kids (nx + 1) = (zs, nj, bad) → rd ts (f + 1) nx = (⟨false, pg, [], x.vals, x.over, zs⟩, nj, bad)) := by
        intro zs nj bad e
        rw [HRD.out, if_neg (by have := HYL.out; omega), HPG.out, e]
      have sy : ((yn : Int) == 0) = false := by simp; omega
      go_upto_region 11 with fail
      generalize V5.setCell ⟨Wk, 2, none⟩ (.bool false) = V6 at RS ⊢
      clear x0 x1 x2 y0 y1 y2 y3 y4 y5 fw W5 X5 s6 l1 lw5 HI HRD
      obtain ⟨i0, hi, hz0, hz1, hz2⟩ := info_parts info_l3N
      go_wp2_with fail
      go_loopw [5, 6] (fun i u wr => ∃ (j : Nat) (zs : List T) (nj : Nat) (bad : Bool) (ra : Option Addr) (rc : Nat) (css : Nat → List Value), i = .int .i64 j ∧ j ≤ yn ∧ Hid (Far ts f x.kids (nx + 1) j zs nj bad) ∧ RSt w wr A B Wk N #[.slice (some ⟨b, off, none⟩) n c, .int .i64 nj, .bool bad] #[.bool false, .int .i64 pg, .slice ka kn kc, .slice va vn vc, .slice oa on oc, .slice ya yn yc] pg va vn vc oa on oc zs ra rc css) (fun i _ _ => yn - (intOf i).toNat)
      case atStart => exact ⟨0, [], nx + 1, false, none, 0, _, rfl, Nat.zero_le _, Far.start _ _ _ _ (by have := HNX.out; omega), by simpa using RS⟩
      case round =>
        clear RS
        obtain ⟨j, zs, nj, bad, ra, rc, css, rfl, hj, HF, RS⟩ := hrel
        have hzl := HF.out.1
        have hnj : nx + 1 ≤ nj ∧ nj ≤ n := by have := HF.out.2.1; have := HNX.out; omega
        have hj2 : j ≤ n + 1 := by
          have h1 := HF.out.2.2.1
          split at h1 <;> omega
        have HZL : Hid (zs.length = j) := hzl
        clear hzl
        obtain ⟨x0, x1, x2⟩ := box3w RS.wk
        obtain ⟨y0, y1, y2, y3, y4, y5⟩ := box6 RS.xb
        have l := RS.lt
        have l0 : N < wr.heap.size := by omega
        have l1 : N + 1 < wr.heap.size := by omega
        have l2 : N + 2 < wr.heap.size := by omega
        have lw6 : Wk < wr.heap.size := by omega
        by_cases tgo : j < yn ∧ bad = false
        · obtain ⟨hlt, rfl⟩ := tgo
          obtain ⟨yb, yoff, rfl, hyb, hyf, ey⟩ := IntsAt.at (HK.out _ RS.fr).2.2 hlt
          have hyb2 : yb < wr.heap.size := by omega
          by_cases tk : x.kids.getD j 0 = nj
          · have HST : Hid _ := HF.out.step (by have := HYL.out; omega) tk
            rw [tk] at ey
            have hss : ((nj : Int) != (nj : Int)) = false := by simp
            have hdec : decide ((j : Int) < (yn : Int)) = true := by simp; omega
            go_upto_region 14 with fail
            go_quiet (fail)
            have RD : RSt w (wr.drewN nq) A B Wk N #[.slice (some ⟨b, off, none⟩) n c, .int .i64 nj, .bool false] #[.bool false, .int .i64 pg, .slice ka kn kc, .slice va vn vc, .slice oa on oc, .slice (some ⟨yb, yoff, none⟩) yn yc] pg va vn vc oa on oc zs ra rc css := RS.below ⟨rfl, rfl, rfl, Nat.le_refl _, fun _ _ => rfl⟩
            generalize wr.drewN nq = Wd at RD ⊢
            clear x0 x1 x2 y0 y1 y2 y3 y4 y5 RS ey l l0 l1 l2 lw6 hyb2
            have hTd : NodesAt Wd A B (some ⟨b, off, none⟩) n c ts := HT.out.keep (fun k h1 h2 => RD.fr.block k (by omega) (by omega))
            go_wp2_with fail
            have hIH := IH.out nj Wd (by have := HNX.out; omega) (by have := HNX.out; omega) (by have := RD.fr.size; omega) hTd hWk RD.wk
            refine hIH.mono ?_
            rintro e w1 hRA
            obtain ⟨ka1, kn1, kc1, va1, vn1, vc1, oa1, on1, oc1, ya1, yc1, css1, rfl, hX1⟩ := hRA.ex
            have R1 := RD.call hRA.fr hRA.wk
            have hsd := hRA.fr.size
            have hd3 := RD.lt
            have hrow := RD.row
            obtain ⟨t1, ht1⟩ : ∃ t1, t1 = (rd ts f nj).1 := ⟨_, rfl⟩
            obtain ⟨nj1, hnj1⟩ : ∃ nj1, nj1 = (rd ts f nj).2.1 := ⟨_, rfl⟩
            obtain ⟨bd1, hbd1⟩ : ∃ bd1, bd1 = (rd ts f nj).2.2 := ⟨_, rfl⟩
            rw [← ht1, ← hnj1, ← hbd1] at HST
            rw [← ht1] at hX1
            rw [← hnj1, ← hbd1] at R1
            rw [← ht1]
            clear ht1 hnj1 hbd1 hRA hIH hTd
            -- the child's variable, and the list of one
            have hNode : NodeIs w1 A B (fun b => N + 3 ≤ b ∧ b < w1.heap.size ∧ ∀ g, (Value.slice ra zs.length rc).ownBlock = some g → b ≠ g) t1 [.bool t1.leaf, .int .i64 t1.page, .slice ka1 kn1 kc1, .slice va1 vn1 vc1, .slice oa1 on1 oc1, .slice ya1 t1.kids.length yc1] :=
              NodeIs.keep (Keeps.refl _ _ _) (fun _ _ => rfl) (fun q hq => ⟨by omega, hq.2, fun g hg => by have := (hrow.lt g hg).2; omega⟩) (Nat.le_refl _) (Nat.le_refl _) t1 _ hX1.mk'
            generalize t1.leaf = lf1 at hNode ⊢
            generalize t1.page = pg1 at hNode ⊢
            generalize t1.kids.length = yn1 at hNode ⊢
            have ha1 := (Below.refl w1.heap.size w1).alloc (Nat.le_refl _) (.cells #[.bool lf1, .int .i64 pg1, .slice ka1 kn1 kc1, .slice va1 vn1 vc1, .slice oa1 on1 oc1, .slice ya1 yn1 yc1] 61)
            have ha2 := (Below.refl (w1.alloc (.cells #[.bool lf1, .int .i64 pg1, .slice ka1 kn1 kc1, .slice va1 vn1 vc1, .slice oa1 on1 oc1, .slice ya1 yn1 yc1] 61)).heap.size (w1.alloc (.cells #[.bool lf1, .int .i64 pg1, .slice ka1 kn1 kc1, .slice va1 vn1 vc1, .slice oa1 on1 oc1, .slice ya1 yn1 yc1] 61))).alloc (Nat.le_refl _) (.cells #[.bool lf1, .int .i64 pg1, .slice ka1 kn1 kc1, .slice va1 vn1 vc1, .slice oa1 on1 oc1, .slice ya1 yn1 yc1] 61)
            have R2 := R1.below ha1
            have R3 := R2.below ha2
            have hk2 : Below w1.heap.size w1 ((w1.alloc (.cells #[.bool lf1, .int .i64 pg1, .slice ka1 kn1 kc1, .slice va1 vn1 vc1, .slice oa1 on1 oc1, .slice ya1 yn1 yc1] 61)).alloc (.cells #[.bool lf1, .int .i64 pg1, .slice ka1 kn1 kc1, .slice va1 vn1 vc1, .slice oa1 on1 oc1, .slice ya1 yn1 yc1] 61)) := ha1.trans (ha2.mono (by simp))
            have hNode3 : NodeIs ((w1.alloc (.cells #[.bool lf1, .int .i64 pg1, .slice ka1 kn1 kc1, .slice va1 vn1 vc1, .slice oa1 on1 oc1, .slice ya1 yn1 yc1] 61)).alloc (.cells #[.bool lf1, .int .i64 pg1, .slice ka1 kn1 kc1, .slice va1 vn1 vc1, .slice oa1 on1 oc1, .slice ya1 yn1 yc1] 61)) A B (fun b => N + 3 ≤ b ∧ b < ((w1.alloc (.cells #[.bool lf1, .int .i64 pg1, .slice ka1 kn1 kc1, .slice va1 vn1 vc1, .slice oa1 on1 oc1, .slice ya1 yn1 yc1] 61)).alloc (.cells #[.bool lf1, .int .i64 pg1, .slice ka1 kn1 kc1, .slice va1 vn1 vc1, .slice oa1 on1 oc1, .slice ya1 yn1 yc1] 61)).heap.size ∧ ∀ g, (Value.slice ra zs.length rc).ownBlock = some g → b ≠ g) t1 [.bool lf1, .int .i64 pg1, .slice ka1 kn1 kc1, .slice va1 vn1 vc1, .slice oa1 on1 oc1, .slice ya1 yn1 yc1] :=
              NodeIs.keep (fun k h1 h2 => hk2.block k (by have := R1.lt; have := R1.wlt; omega)) (fun q hq => hk2.block q hq.2.1) (fun q hq => ⟨hq.1, Nat.lt_of_lt_of_le hq.2.1 hk2.size, hq.2.2⟩) (Nat.le_refl _) (Nat.le_refl _) t1 _ hNode
            clear hNode hX1 hrow
            obtain ⟨n0, n1, n2, n3, n4, n5⟩ := box6 R1.nb
            have lt1 := R1.lt
            have l2 : N + 2 < w1.heap.size := by omega
            have fnb := thawT R3.nb
            have hrow3 := R3.row
            have hzn := HZL.out
            rw [hzn] at hrow3 n5
            clear RD hss hdec hsd hd3
            have hcells := cell_six_new (w1.alloc (.cells #[.bool lf1, .int .i64 pg1, .slice ka1 kn1 kc1, .slice va1 vn1 vc1, .slice oa1 on1 oc1, .slice ya1 yn1 yc1] 61)) (.bool lf1) (.int .i64 pg1) (.slice ka1 kn1 kc1) (.slice va1 vn1 vc1) (.slice oa1 on1 oc1) (.slice ya1 yn1 yc1) 61
            have hs1 : (w1.alloc (.cells #[.bool lf1, .int .i64 pg1, .slice ka1 kn1 kc1, .slice va1 vn1 vc1, .slice oa1 on1 oc1, .slice ya1 yn1 yc1] 61)).heap.size = w1.heap.size + 1 := by simp
            rw [hs1] at hcells
            have HPU : Hid (∀ v' w4, w4.ownsRow (N + 4) 61 6 v' (j + 1) (rowsC css j ++ [.bool lf1, .int .i64 pg1, .slice ka1 kn1 kc1, .slice va1 vn1 vc1, .slice oa1 on1 oc1, .slice ya1 yn1 yc1]) → ((w1.alloc (.cells #[.bool lf1, .int .i64 pg1, .slice ka1 kn1 kc1, .slice va1 vn1 vc1, .slice oa1 on1 oc1, .slice ya1 yn1 yc1] 61)).alloc (.cells #[.bool lf1, .int .i64 pg1, .slice ka1 kn1 kc1, .slice va1 vn1 vc1, .slice oa1 on1 oc1, .slice ya1 yn1 yc1] 61)).grownBy w4 (Value.slice ra j rc).ownBlock → (v'.ownBlock = (Value.slice ra j rc).ownBlock ∨ ∀ g, v'.ownBlock = some g → ((w1.alloc (.cells #[.bool lf1, .int .i64 pg1, .slice ka1 kn1 kc1, .slice va1 vn1 vc1, .slice oa1 on1 oc1, .slice ya1 yn1 yc1] 61)).alloc (.cells #[.bool lf1, .int .i64 pg1, .slice ka1 kn1 kc1, .slice va1 vn1 vc1, .slice oa1 on1 oc1, .slice ya1 yn1 yc1] 61)).heap.size ≤ g) → ∃ ra' rc', v' = .slice ra' (j + 1) rc' ∧ RSt w (w4.setCell ⟨N + 2, 5, none⟩ v') A B Wk N #[.slice (some ⟨b, off, none⟩) n c, .int .i64 nj1, .bool bd1] #[.bool false, .int .i64 pg, .slice ka kn kc, .slice va vn vc, .slice oa on oc, .slice (some ⟨yb, yoff, none⟩) yn yc] pg va vn vc oa on oc (zs ++ [t1]) ra' rc' (fun i => if i = zs.length then [.bool lf1, .int .i64 pg1, .slice ka1 kn1 kc1, .slice va1 vn1 vc1, .slice oa1 on1 oc1, .slice ya1 yn1 yc1] else css i) ∧ w4.heap[N + 2]? = some (.cells #[.bool false, .int .i64 pg, .slice (some ⟨N + 3, 0, none⟩) 0 0, .slice va vn vc, .slice oa on oc, .slice ra j rc] 61)) := by
              intro v' w4 h1 h2 h3
              rw [← hzn] at h1 h2 h3
              obtain ⟨ra', rc', e, hp⟩ := R3.push (t := t1) rfl hNode3 h1 h2 h3
              have hnb := R3.nb
              have hlt3 := R3.lt
              rw [hzn] at e hnb
              refine ⟨ra', rc', e, hp, (h2.block (N + 2) (by omega) (fun e2 => ?_)).trans hnb⟩
              have := (R3.row.lt (N + 2) e2.symm).1
              omega
            clear R3 hNode3 R2 R1 ha1 ha2 hk2 fnb
            go_wp2_with (at_builtin; refine wpList_append_ownD _ rfl _ _ 55 rfl (N + 4) 61 i0 _ 6 112 Try.underlying55 hi hz0 hz1 hz2 rfl (by decide) _ _ _ rfl hrow3 ⟨w1.heap.size + 1, 0, none⟩ 1 1 [.bool lf1, .int .i64 pg1, .slice ka1 kn1 kc1, .slice va1 vn1 vc1, .slice oa1 on1 oc1, .slice ya1 yn1 yc1] rfl rfl hcells (by simp [Value.oneCell']) (by unfold maxLen; omega) (by omega) (by simp; omega) ?_; intro v' w4 hown' hgr hat; obtain ⟨ra', rc', rfl, RP, nb4⟩ := HPU.out v' w4 hown' hgr hat; have l4 := (Array.getElem?_eq_some_iff.1 nb4).1; obtain ⟨m0, m1, m2, m3, m4, m5⟩ := box6 nb4; have f4 := thawT nb4; clear hown' hgr hat HPU hrow3 hcells nb4)
            go_roundw
            case rel => exact ⟨j + 1, zs ++ [t1], nj1, bd1, ra', rc', _, by go_num, by omega, HST, RP⟩
            case measure => simp [intOf]; omega
          · have HSP : Hid _ := HF.out.stop (by have := HYL.out; omega) tk
            have hss : (x.kids.getD j 0 != (nj : Int)) = true := by simpa using tk
            generalize x.kids.getD j 0 = kv at ey hss hyf
            clear tk
            go_upto_region 14 with fail
            go_quiet (fail)
            have RD : RSt w (wr.drewN nq) A B Wk N #[.slice (some ⟨b, off, none⟩) n c, .int .i64 nj, .bool false] #[.bool false, .int .i64 pg, .slice ka kn kc, .slice va vn vc, .slice oa on oc, .slice (some ⟨yb, yoff, none⟩) yn yc] pg va vn vc oa on oc zs ra rc css := RS.below ⟨rfl, rfl, rfl, Nat.le_refl _, fun _ _ => rfl⟩
            generalize wr.drewN nq = Wd at RD ⊢
            clear x0 x1 x2 y0 y1 y2 y3 y4 y5 RS ey l l0 l1 l2 lw6 hyb2
            have RE : RSt w (Wd.setCell ⟨Wk, 2, none⟩ (.bool true)) A B Wk N #[.slice (some ⟨b, off, none⟩) n c, .int .i64 nj, .bool true] #[.bool false, .int .i64 pg, .slice ka kn kc, .slice va vn vc, .slice oa on oc, .slice (some ⟨yb, yoff, none⟩) yn yc] pg va vn vc oa on oc zs ra rc css := RD.call (fr_setT Wd Wk 2 (.bool true)) (by simpa using heap_setT RD.wk 2 (.bool true))
            obtain ⟨x0, x1, x2⟩ := box3w RD.wk
            have fw := thawT RD.wk
            have lw : Wk < Wd.heap.size := by have := RD.lt; have := RD.wlt; omega
            go_upto_region 16 with fail
            generalize Wd.setCell ⟨Wk, 2, none⟩ (.bool true) = We at RE ⊢
            clear x0 x1 x2 fw lw RD
            have hrd := HR2.out _ _ _ HSP.out
            have hfin := fun h => RSt.fin (ts := ts) (f := f + 1) (nx := nx) RE hpg (HK.out _ RE.fr).1 (HK.out _ RE.fr).2.1 h hrd
            have HFN : Hid _ := hfin
            have hzn := HZL.out
            have hbox := put6T_box RE.rb (.bool false) (.int .i64 pg) (.slice (some ⟨N + 3, 0, none⟩) 0 0) (.slice va vn vc) (.slice oa on oc) (.slice ra zs.length rc)
            have HBX : Hid _ := hbox
            obtain ⟨n0, n1, n2, n3, n4, n5⟩ := box6 RE.nb
            obtain ⟨r0, r1, r2, r3, r4, r5⟩ := box6 RE.rb
            have fr := thawT RE.rb
            have l := RE.lt
            have l0 : N < We.heap.size := by omega
            have l2 : N + 2 < We.heap.size := by omega
            have hzm : zs.length ≤ maxLen := by unfold maxLen; omega
            generalize zs.length = zl at hzn n5 HFN HBX hzm
            clear hfin hbox hrd RE HSP HF HZL hzn
            go_wp2_with fail
            show bodyPost _ _ _ _ _ (put6T We N (.bool false) (.int .i64 pg) (.slice (some ⟨N + 3, 0, none⟩) 0 0) (.slice va vn vc) (.slice oa on oc) (.slice ra zl rc))
            obtain ⟨p0, p1, p2, p3, p4, p5⟩ := box6 HBX.out
            refine bodyPost_ret (v := .agg #[.bool false, .int .i64 pg, .slice (some ⟨N + 3, 0, none⟩) 0 0, .slice va vn vc, .slice oa on oc, .slice ra zl rc]) (by simp [results, Try.results61, go_sem, p0, p1, p2, p3, p4, p5]) rfl ?_
            exact HFN.out hzm
        · have hdone := HF.out.done (fun h => by
            cases bad with
            | true => rfl
            | false => exact absurd ⟨by have := HYL.out; omega, rfl⟩ tgo) (by have := HYL.out; omega)
          have hrd := HR2.out _ _ _ hdone
          have hfin := fun h => RSt.fin (ts := ts) (f := f + 1) (nx := nx) RS hpg (HK.out _ RS.fr).1 (HK.out _ RS.fr).2.1 h hrd
          have HFN : Hid _ := hfin
          have hzn := HZL.out
          have hbox := put6T_box RS.rb (.bool false) (.int .i64 pg) (.slice (some ⟨N + 3, 0, none⟩) 0 0) (.slice va vn vc) (.slice oa on oc) (.slice ra zs.length rc)
          have HBX : Hid _ := hbox
          obtain ⟨n0, n1, n2, n3, n4, n5⟩ := box6 RS.nb
          obtain ⟨r0, r1, r2, r3, r4, r5⟩ := box6 RS.rb
          have fr := thawT RS.rb
          have hzm : zs.length ≤ maxLen := by unfold maxLen; omega
          generalize zs.length = zl at hzn n5 HFN HBX hzm
          have tgo2 : ¬ j < yn ∨ bad = true := by
            by_cases h : j < yn
            · exact .inr (by cases bad with | true => rfl | false => exact absurd ⟨h, rfl⟩ tgo)
            · exact .inl h
          clear hfin hbox hrd RS HF HZL hzn hdone tgo
          rcases tgo2 with hge | rfl
          · have hdec : decide ((j : Int) < (yn : Int)) = false := by simp; omega
            go_wp2_with fail
            show bodyPost _ _ _ _ _ (put6T wr N (.bool false) (.int .i64 pg) (.slice (some ⟨N + 3, 0, none⟩) 0 0) (.slice va vn vc) (.slice oa on oc) (.slice ra zl rc))
            obtain ⟨p0, p1, p2, p3, p4, p5⟩ := box6 HBX.out
            refine bodyPost_ret (v := .agg #[.bool false, .int .i64 pg, .slice (some ⟨N + 3, 0, none⟩) 0 0, .slice va vn vc, .slice oa on oc, .slice ra zl rc]) (by simp [results, Try.results61, go_sem, p0, p1, p2, p3, p4, p5]) rfl ?_
            exact HFN.out hzm
          · by_cases hge : j < yn
            · have hdec : decide ((j : Int) < (yn : Int)) = true := by simp; omega
              go_wp2_with fail
              show bodyPost _ _ _ _ _ (put6T wr N (.bool false) (.int .i64 pg) (.slice (some ⟨N + 3, 0, none⟩) 0 0) (.slice va vn vc) (.slice oa on oc) (.slice ra zl rc))
              obtain ⟨p0, p1, p2, p3, p4, p5⟩ := box6 HBX.out
              refine bodyPost_ret (v := .agg #[.bool false, .int .i64 pg, .slice (some ⟨N + 3, 0, none⟩) 0 0, .slice va vn vc, .slice oa on oc, .slice ra zl rc]) (by simp [results, Try.results61, go_sem, p0, p1, p2, p3, p4, p5]) rfl ?_
              exact HFN.out hzm
            · have hdec : decide ((j : Int) < (yn : Int)) = false := by simp; omega
              go_wp2_with fail
              show bodyPost _ _ _ _ _ (put6T wr N (.bool false) (.int .i64 pg) (.slice (some ⟨N + 3, 0, none⟩) 0 0) (.slice va vn vc) (.slice oa on oc) (.slice ra zl rc))
              obtain ⟨p0, p1, p2, p3, p4, p5⟩ := box6 HBX.out
              refine bodyPost_ret (v := .agg #[.bool false, .int .i64 pg, .slice (some ⟨N + 3, 0, none⟩) 0 0, .slice va vn vc, .slice oa on oc, .slice ra zl rc]) (by simp [results, Try.results61, go_sem, p0, p1, p2, p3, p4, p5]) rfl ?_
              exact HFN.out hzm
theorem l3Read_any (ts : List TN) (hm : ts.length ≤ 1000) (a : Option Addr) (n c A B Wk : Nat) : ∀ f, ReadAll ts f a n c A B Wk
  | 0 => fun nx w h1 h2 => by omega
  | f + 1 => fun nx w h1 h2 hB hT hWk hW => by
    by_cases hlt : nx < ts.length
    · by_cases hl : (ts.getD nx dT).leaf = true
      · exact l3Read_leaf ts f nx a n c A B Wk w hB hT hlt hm hl hWk hW
      · exact l3Read_inner ts f nx a n c A B Wk (l3Read_any ts hm a n c A B Wk f) w hB hT hlt h2 hm (by simpa using hl) hWk hW
    · exact l3Read_end ts f nx a n c A B Wk w hB (by omega) hm hT.1 hWk hW
end Go.Proofs.Ytpmagndofiaooaa
