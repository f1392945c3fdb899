import Derived.Test.YtakdaandbdbdnaaGAV
import Derived.Deep.OwnRows
import Derived.WalkLawsBesides
import Derived.Laws.IdiomStrings
namespace Go.Proofs.Ytakdaandbdbdnaa
open Go.RowKit
set_option linter.unusedVariables false
set_option maxRecDepth 100000

/-- What follows from a state at the end. -/
theorem BndD.mk5 {w wr : World} {N lo C A B : Nat} {a : Option Addr} {n c : Nat} {b : Option Addr} {m d : Nat} {fs : List PF} {ps : List PP} {cp fu : Int} {de : Bool} (hr : wr.heap[N + 1]? = some (.cells #[.slice none 0 0, .slice none 0 0, .int .i64 0, .int .i64 0, .bool false] 26)) (hF : FilesAt wr lo N a n c fs ∨ FilesAt wr (N + 2) wr.heap.size a n c fs) (hP : PendsAt wr lo N b m d ps ∨ PendsAt wr (N + 2) wr.heap.size b m d ps) (hB : BD fs ps cp fu) (hD : DCur wr C A B) (hf : Fr (fun g => g = C ∨ lo ≤ g) w wr) (hl : C < lo ∧ lo ≤ N) :
    BndD w (.returned (.agg #[.slice a n c, .slice b m d, .int .i64 cp, .int .i64 fu, .bool de])) (put5C wr (N + 1) (.slice a n c) (.slice b m d) (.int .i64 cp) (.int .i64 fu) (.bool de)) lo C A B := by
  have hf2 := put5C_fr wr (N + 1) (.slice a n c) (.slice b m d) (.int .i64 cp) (.int .i64 fu) (.bool de)
  have hN : N + 1 < wr.heap.size := (Array.getElem?_eq_some_iff.1 hr).1
  have k1 : Keeps lo N wr (put5C wr (N + 1) (.slice a n c) (.slice b m d) (.int .i64 cp) (.int .i64 fu) (.bool de)) := fun g h1 h2 => hf2.block g (by omega) (by omega)
  have k2 : Keeps (N + 2) wr.heap.size wr (put5C wr (N + 1) (.slice a n c) (.slice b m d) (.int .i64 cp) (.int .i64 fu) (.bool de)) := fun g h1 h2 => hf2.block g (by omega) (by omega)
  refine ⟨⟨a, n, c, b, m, d, fs, ps, cp, fu, de, rfl, ?_, ?_, hB, hD.belowN (hf2.below (B := N) (by omega) (fun g e => by omega)) (by omega), hf.trans (hf2.weak (fun g e => .inr (by omega)))⟩⟩
  · rcases hF with h | h
    · exact (h.keep k1).up (Nat.le_refl _) (Nat.le_trans (by omega) hf2.size)
    · exact (h.keep k2).up (by omega) hf2.size
  · rcases hP with h | h
    · exact (h.keep k1).up (Nat.le_refl _) (Nat.le_trans (by omega) hf2.size)
    · exact (h.keep k2).up (by omega) hf2.size
theorem BD.pushF {fs : List PF} {ps : List PP} {cp fu : Int} {f : PF} (h : BD fs ps cp fu) (hf : f.2.length ≤ 1048576) (hn : fs.length ≤ 99) : BD (fs ++ [f]) ps cp fu := by
  refine ⟨by simp; omega, h.np, fun j hj => ?_, h.sp, h.rc, h.rf⟩
  by_cases hl : j < fs.length
  · simpa [List.getD, List.getElem?_append_left hl] using h.sf j hl
  · simp at hj
    have : j = fs.length := by omega
    subst this
    simpa [List.getD] using hf
theorem BD.pushP {fs : List PF} {ps : List PP} {cp fu : Int} {p : PP} (h : BD fs ps cp fu) (hp : 0 ≤ p.2.1 ∧ p.2.1 ≤ 1000 ∧ p.2.2.length ≤ 128) (hn : ps.length ≤ 99) : BD fs (ps ++ [p]) cp fu := by
  refine ⟨h.nf, by simp; omega, h.sf, fun q hq => ?_, h.rc, h.rf⟩
  rcases List.mem_append.1 hq with h1 | h1
  · exact h.sp q h1
  · rw [List.mem_singleton.1 h1]; exact hp
/-- The same, where the lists are known in the last world. -/
theorem BndD.mk6 {w wr wX : World} {N lo C A B : Nat} {a : Option Addr} {n c : Nat} {b : Option Addr} {m d : Nat} {fs : List PF} {ps : List PP} {cp fu : Int} {de : Bool} (hF : FilesAt wX lo wX.heap.size a n c fs) (hP : PendsAt wX lo wX.heap.size b m d ps) (hB : BD fs ps cp fu) (hD : DCur wr C A B) (hf : Fr (fun g => g = C ∨ lo ≤ g) w wr) (hX : Fr (fun g => g = N ∨ g = N + 1) wr wX) (hl : C < lo ∧ lo ≤ N) (hN : N ≤ wr.heap.size) : BndD w (.returned (.agg #[.slice a n c, .slice b m d, .int .i64 cp, .int .i64 fu, .bool de])) wX lo C A B :=
  ⟨⟨a, n, c, b, m, d, fs, ps, cp, fu, de, rfl, hF, hP, hB, hD.belowN (hX.below (B := N) hN (fun g e => by omega)) (by omega), hf.trans (hX.weak (fun g e => .inr (by omega)))⟩⟩
theorem run_make128 (W : World) : (Instr.makeSlice 22 (.int .i64 128) (.int .i64 128)).run Try.prog W = .ok (.slice (some ⟨W.heap.size, 0, none⟩) 128 128) (W.alloc (.cells (madeCells #[.int .u8 0] 128) 5)) := by
  simpa using run_make_row' (P := Try.prog) 22 5 (.int .u8 0) 1 Try.underlying22 info_u8 rfl .i64 .i64 128 (by omega) (by omega) W
theorem run_makeN (x : Nat) (hx : x ≤ 2) (W : World) : (Instr.makeSlice 22 (.int .i64 (127 + (x : Int))) (.int .i64 (127 + (x : Int)))).run Try.prog W = .ok (.slice (some ⟨W.heap.size, 0, none⟩) (127 + x) (127 + x)) (W.alloc (.cells (madeCells #[.int .u8 0] (127 + x)) 5)) := by
  have h := run_make_row' (P := Try.prog) 22 5 (.int .u8 0) 1 Try.underlying22 info_u8 rfl .i64 .i64 (127 + x) (by omega) (by omega) W
  simpa using h
theorem made_list (n : Nat) : (madeCells #[.int .u8 0] n).toList = u8s (List.replicate n 0) := by
  unfold madeCells u8s
  apply List.ext_getElem
  · simp
  · intro i h1 h2
    simp
    have : i % 1 = 0 := by omega
    simp [Nat.mod_one]
theorem made_own (W : World) (n : Nat) (hn : n ≤ maxLen) : (W.alloc (.cells (madeCells #[.int .u8 0] n) 5)).ownsRow W.heap.size 5 1 (.slice (some ⟨W.heap.size, 0, none⟩) n n) (List.replicate n (0 : Int)).length (u8s (List.replicate n 0)) := by
  rw [← made_list, List.length_replicate]
  refine ⟨by simp [size_madeCells], .inr ⟨W.heap.size, n, madeCells #[.int .u8 0] n, rfl, Nat.le_refl _, heap_alloc_new W _, Nat.le_refl _, hn, by simp [size_madeCells], ?_⟩⟩
  exact List.take_of_length_le (by simp [size_madeCells])
theorem cell_two_newS (w : World) (a b : Value) (t : TypeId) : ∀ j u, [a, b][j]? = some u → (w.alloc (.cells #[a, b] t)).cell? ((⟨w.heap.size, 0, none⟩ : Addr).add j) = some u := by
  intro j u hu
  have hj : j < 2 := by have := (List.getElem?_eq_some_iff.1 hu).1; simpa using this
  rcases (show j = 0 ∨ j = 1 by omega) with rfl | rfl
  all_goals
    simp at hu
    subst hu
    simp [Addr.add]
/-- The state of the loop in the ninth way. -/
structure LSt (w wr : World) (N lo C A B : Nat) (a : Option Addr) (c : Nat) (fk : List PF) (xk vk : List Value) (vp vc vu vd : Value) : Prop where
  hd : wr.heap[N]? = some (.cells #[.slice a fk.length c, vp, vc, vu, vd] 26)
  rs : wr.heap[N + 1]? = some (.cells #[.slice none 0 0, .slice none 0 0, .int .i64 0, .int .i64 0, .bool false] 26)
  own : OwnF wr (N + 2) (.slice a fk.length c) fk xk vk
  dat : ∀ f ∈ fk, f.2.length = 128
  cur : DCur wr C A B
  fr : Fr (fun g => g = C ∨ lo ≤ g) w wr
  lo : C < lo ∧ lo ≤ N
theorem LSt.drawn {w wr wr' : World} {N lo C A B : Nat} {a : Option Addr} {c : Nat} {fk : List PF} {xk vk : List Value} {vp vc vu vd : Value} (h : LSt w wr N lo C A B a c fk xk vk vp vc vu vd) (hf : Fr (fun g => g = C) wr wr') (hD : DCur wr' C A B) : LSt w wr' N lo C A B a c fk xk vk vp vc vu vd := by
  have hl := h.lo
  exact ⟨box_fr h.hd hf (by omega), box_fr h.rs hf (by omega), h.own.fr hf (fun g hB e => by have := (h.own.blk hB).1; omega), h.dat, hD, h.fr.trans (hf.weak (fun g e => .inl e)), hl⟩
/-- One file more. -/
theorem LSt.push {w wr w2 w3 w4 : World} {N lo C A B : Nat} {a : Option Addr} {c : Nat} {fk : List PF} {xk vk : List Value} {vp vc vu vd v' vb : Value} {nm : ByteArray} (h : LSt w wr N lo C A B a c fk xk vk vp vc vu vd) (b12 : Below wr.heap.size wr w2) (hvb : w2.ownsRow wr.heap.size 5 1 vb (List.replicate 128 (0 : Int)).length (u8s (List.replicate 128 0))) (hs : nm.size ≤ maxLen) (b23 : Below w2.heap.size w2 w3) (hrow : w4.ownsRow (N + 2) 92 2 v' (fk.length + 1) (xk ++ [.string nm, vb])) (hgr : w3.grownBy w4 (Value.slice a fk.length c).ownBlock) :
    ∃ a' c', v' = .slice a' (fk.length + 1) c' ∧ LSt w (w4.setCell ⟨N, 0, none⟩ v') N lo C A B a' c' (fk ++ [(nm, List.replicate 128 0)]) (xk ++ [.string nm, vb]) (vk ++ [vb]) vp vc vu vd ∧ w4.heap[N]? = some (.cells #[.slice a fk.length c, vp, vc, vu, vd] 26) := by
  have hN : N + 1 < wr.heap.size := (Array.getElem?_eq_some_iff.1 h.rs).1
  have hl := h.lo
  have s12 := b12.size
  have s23 := b23.size
  have hF4 := h.own.push (f := (nm, List.replicate 128 0)) (by omega) b12 hvb hs (fun x hx => by have := List.eq_of_mem_replicate hx; omega) b23 hrow hgr
  have hG : Fr (fun g => (Value.slice a fk.length c).ownBlock = some g) w3 w4 := Fr.of_grown hgr (fun g e => e)
  have hG2 : Fr (fun g => N + 2 ≤ g) w3 w4 := hG.weak (fun g e => (h.own.row.lt g e).1)
  have XN4 := box_fr (box_below (box_below h.hd b12) b23) hG2 (by omega)
  have XR4 := box_fr (box_below (box_below h.rs b12) b23) hG2 (by omega)
  obtain ⟨a', n', c', e1, e2, _⟩ := hF4.files
  simp at e2
  subst e1
  subst e2
  have hset := fr_setCell w4 N 0 (.slice a' (fk.length + 1) c')
  have s34 := hG2.size
  refine ⟨a', c', rfl, ⟨?_, box_fr XR4 hset (by omega), ?_, ?_, ?_, ?_, hl⟩, XN4⟩
  · have := heap_setCell_at XN4 0 (.slice a' (fk.length + 1) c')
    simpa using this
  · have := hF4.fr hset (fun g hB e => by have := (hF4.blk hB).1; omega)
    simpa using this
  · intro f hf
    rcases List.mem_append.1 hf with h1 | h1
    · exact h.dat f h1
    · rw [List.mem_singleton.1 h1]; simp
  · exact (((h.cur.below b12).below b23).belowN (hG2.below (B := N) (by omega) (fun g e => by omega)) (by omega)).belowN (hset.below (B := N) (by omega) (fun g e => by omega)) (by omega)
  · exact (((h.fr.trans (Fr.of_below b12)).trans (Fr.of_below b23)).trans (hG2.weak (fun g e => .inr (by omega)))).trans (hset.weak (fun g e => .inr (by omega)))
theorem conv_one {W : World} {g k : Nat} (hk : k ≤ 20) (hc : W.cell? ⟨g, 0, none⟩ = some (.int .u8 (97 + (k : Int)))) : (convert 22 9 (.slice (some ⟨g, 0, none⟩) 1 1)).run Try.prog W = .ok (.string ⟨#[UInt8.ofNat (97 + k)]⟩) W := by
  refine run_convert_bytes_back (P := Try.prog) _ 22 9 5 ⟨g, 0, none⟩ 1 [UInt8.ofNat (97 + k)] Try.underlying22 Try.underlying5 Try.underlying9 ?_
  intro j hj
  simp at hj
  subst hj
  have e : (((UInt8.ofNat (97 + k)).toNat : Nat) : Int) = 97 + (k : Int) := by
    rw [UInt8.toNat_ofNat']
    omega
  simp [Addr.add, hc]
  omega
set_option maxHeartbeats 6400000 in
theorem l1SpoilDisk_any (C A B lo : Nat) (a : Option Addr) (c : Nat) (b : Option Addr) (d : Nat) (fs : List PF) (ps : List PP) (cp fu : Int) (w : World) (h : DCur w C A B) (hlo : C < lo ∧ lo ≤ w.heap.size) (hO : OwnZ w lo w.heap.size (.slice a fs.length c) (.slice b ps.length d) fs ps) (hBD : BD fs ps cp fu) (hnf12 : fs.length ≤ 12) (hnp8 : ps.length ≤ 8) :
    Calls Try.prog 76 #[.pointer (some ⟨C, 0, none⟩), .agg #[.slice a fs.length c, .slice b ps.length d, .int .i64 cp, .int .i64 fu, .bool false]] w fun e w' => BndD w e w' lo C A B := by
  obtain ⟨W0, hW0⟩ : ∃ W0, W0 = (w.alloc (.cells #[.slice a fs.length c, .slice b ps.length d, .int .i64 cp, .int .i64 fu, .bool false] 26)).alloc (.cells #[.slice none 0 0, .slice none 0 0, .int .i64 0, .int .i64 0, .bool false] 26) := ⟨_, rfl⟩
  have z : ∀ (X : World) (x : Obj), (X.alloc x).heap.size = X.heap.size + 1 := fun X x => by simp
  have s0 : W0.heap.size = w.heap.size + 2 := by rw [hW0]; simp
  have b0 : Below w.heap.size w W0 := by rw [hW0]; exact ((Below.refl _ _).alloc (Nat.le_refl _) _).alloc (by simp) _
  have k0 : W0.heap[w.heap.size]? = some (.cells #[.slice a fs.length c, .slice b ps.length d, .int .i64 cp, .int .i64 fu, .bool false] 26) := by rw [hW0, heap_alloc_old _ _ (by simp)]; exact heap_alloc_new _ _
  have k1 : W0.heap[w.heap.size + 1]? = some (.cells #[.slice none 0 0, .slice none 0 0, .int .i64 0, .int .i64 0, .bool false] 26) := by rw [hW0]; have := heap_alloc_new (w.alloc (.cells #[.slice a fs.length c, .slice b ps.length d, .int .i64 cp, .int .i64 fu, .bool false] 26)) (.cells #[.slice none 0 0, .slice none 0 0, .int .i64 0, .int .i64 0, .bool false] 26); rwa [z] at this
  have hS0 : SSt w W0 w.heap.size lo C A B (.slice a fs.length c) (.slice b ps.length d) (.int .i64 cp) (.int .i64 fu) (.bool false) := ⟨k0, k1, h.below b0, (Fr.of_below b0), hlo⟩
  have O0 := hO.below b0
  have F0 := hO.files
  have P0 := hO.pends
  have HW : Hid _ := hW0
  have HBD : Hid (BD fs ps cp fu) := hBD
  have HCL := hlo
  have HBD12 : fs.length ≤ 99 := by omega
  have HBD8 : ps.length ≤ 99 := by omega
  clear hnf12 hnp8
  clear hO k0 k1 hW0 z hBD
  go_enter Try.func76, Try.ntmps76
  go_wp2_with fail
  rw [← HW.out]
  clear HW
  refine (l1Below_any C A B W0 hS0.cur 9 (by omega) (by omega)).mono ?_
  rintro e w1 ⟨k, rfl, hk, hD1, hF1⟩
  have H1 : Hid (SSt w w1 w.heap.size lo C A B (.slice a fs.length c) (.slice b ps.length d) (.int .i64 cp) (.int .i64 fu) (.bool false)) := hS0.drawn hF1 hD1
  have O1 : Hid (OwnZ w1 lo w.heap.size (.slice a fs.length c) (.slice b ps.length d) fs ps) := O0.fr hF1 (fun g e => .inl (by omega))
  have s1 := hF1.size
  have FP : Hid (FilesAt w1 lo w.heap.size a fs.length c fs ∧ PendsAt w1 lo w.heap.size b ps.length d ps) := by
    have kk : Keeps lo w.heap.size w w1 := fun g h1 h2 => (hF1.block g (by omega) (by omega)).trans (b0.block g h2)
    exact ⟨F0.keep kk, P0.keep kk⟩
  clear hS0 O0 hD1 hF1 h s0 F0 P0 b0
  have lN : w.heap.size < w1.heap.size := (Array.getElem?_eq_some_iff.1 H1.out.hd).1
  have lR : w.heap.size + 1 < w1.heap.size := (Array.getElem?_eq_some_iff.1 H1.out.rs).1
  obtain ⟨z0, z1, z2, z3, z4⟩ := box_fiveC H1.out.hd
  have zf := box_thawC H1.out.hd
  obtain ⟨y0, y1, y2, y3, y4⟩ := box_fiveC H1.out.rs
  have yf := box_thawC H1.out.rs
  rcases (show k = 0 ∨ k = 1 ∨ k = 2 ∨ k = 3 ∨ k = 4 ∨ k = 5 ∨ k = 6 ∨ k = 7 ∨ k = 8 by omega) with rfl | rfl | rfl | rfl | rfl | rfl | rfl | rfl | rfl
  · have HE : Hid (Fr (fun g => g = C ∨ lo ≤ g) w (w1.setCell ⟨w.heap.size, 4, none⟩ (.bool true)) ∧ DCur (w1.setCell ⟨w.heap.size, 4, none⟩ (.bool true)) C A B ∧ (w1.setCell ⟨w.heap.size, 4, none⟩ (.bool true)).heap[w.heap.size + 1]? = some (.cells #[.slice none 0 0, .slice none 0 0, .int .i64 0, .int .i64 0, .bool false] 26) ∧ FilesAt (w1.setCell ⟨w.heap.size, 4, none⟩ (.bool true)) lo w.heap.size a fs.length c fs ∧ PendsAt (w1.setCell ⟨w.heap.size, 4, none⟩ (.bool true)) lo w.heap.size b ps.length d ps ∧ BD fs ps cp fu) := by
      obtain ⟨e1, e2, e3⟩ := H1.out.set 4 (.bool true) HCL.2
      have kk : Keeps lo w.heap.size w1 (w1.setCell ⟨w.heap.size, 4, none⟩ (.bool true)) := (Keeps.refl _ _ _).set (p := ⟨w.heap.size, 4, none⟩) (.inr (Nat.le_refl _)) _
      exact ⟨e1, e2, e3, FP.out.1.keep kk, FP.out.2.keep kk, HBD.out⟩
    go_wp2_with fail
    show bodyPost _ _ _ _ _ (put5C (w1.setCell ⟨w.heap.size, 4, none⟩ (.bool true)) (w.heap.size + 1) (.slice a fs.length c) (.slice b ps.length d) (.int .i64 cp) (.int .i64 fu) (.bool true))
    clear z0 z1 z2 z3 z4 zf y0 y1 y2 y3 y4 yf
    obtain ⟨z0, z1, z2, z3, z4⟩ := box_fiveC (put5C_box HE.out.2.2.1 (.slice a fs.length c) (.slice b ps.length d) (.int .i64 cp) (.int .i64 fu) (.bool true))
    exact bodyPost_ret (v := .agg #[.slice a fs.length c, .slice b ps.length d, .int .i64 cp, .int .i64 fu, .bool true]) (by simp [results, Try.results76, go_sem, z0, z1, z2, z3, z4]) rfl (BndD.mk5 HE.out.2.2.1 (.inl HE.out.2.2.2.1) (.inl HE.out.2.2.2.2.1) HE.out.2.2.2.2.2 HE.out.2.1 HE.out.1 HCL)
  · have HE : Hid (Fr (fun g => g = C ∨ lo ≤ g) w (w1.setCell ⟨w.heap.size, 3, none⟩ (.int .i64 (-2))) ∧ DCur (w1.setCell ⟨w.heap.size, 3, none⟩ (.int .i64 (-2))) C A B ∧ (w1.setCell ⟨w.heap.size, 3, none⟩ (.int .i64 (-2))).heap[w.heap.size + 1]? = some (.cells #[.slice none 0 0, .slice none 0 0, .int .i64 0, .int .i64 0, .bool false] 26) ∧ FilesAt (w1.setCell ⟨w.heap.size, 3, none⟩ (.int .i64 (-2))) lo w.heap.size a fs.length c fs ∧ PendsAt (w1.setCell ⟨w.heap.size, 3, none⟩ (.int .i64 (-2))) lo w.heap.size b ps.length d ps ∧ BD fs ps cp (-2)) := by
      obtain ⟨e1, e2, e3⟩ := H1.out.set 3 (.int .i64 (-2)) HCL.2
      have kk : Keeps lo w.heap.size w1 (w1.setCell ⟨w.heap.size, 3, none⟩ (.int .i64 (-2))) := (Keeps.refl _ _ _).set (p := ⟨w.heap.size, 3, none⟩) (.inr (Nat.le_refl _)) _
      exact ⟨e1, e2, e3, FP.out.1.keep kk, FP.out.2.keep kk, ⟨HBD.out.nf, HBD.out.np, HBD.out.sf, HBD.out.sp, HBD.out.rc, by omega⟩⟩
    go_wp2_with fail
    show bodyPost _ _ _ _ _ (put5C (w1.setCell ⟨w.heap.size, 3, none⟩ (.int .i64 (-2))) (w.heap.size + 1) (.slice a fs.length c) (.slice b ps.length d) (.int .i64 cp) (.int .i64 (-2)) (.bool false))
    clear z0 z1 z2 z3 z4 zf y0 y1 y2 y3 y4 yf
    obtain ⟨z0, z1, z2, z3, z4⟩ := box_fiveC (put5C_box HE.out.2.2.1 (.slice a fs.length c) (.slice b ps.length d) (.int .i64 cp) (.int .i64 (-2)) (.bool false))
    exact bodyPost_ret (v := .agg #[.slice a fs.length c, .slice b ps.length d, .int .i64 cp, .int .i64 (-2), .bool false]) (by simp [results, Try.results76, go_sem, z0, z1, z2, z3, z4]) rfl (BndD.mk5 HE.out.2.2.1 (.inl HE.out.2.2.2.1) (.inl HE.out.2.2.2.2.1) HE.out.2.2.2.2.2 HE.out.2.1 HE.out.1 HCL)
  · go_wp2_with fail
    refine (l1Below_any C A B w1 H1.out.cur 2 (by omega) (by omega)).mono ?_
    rintro e w2 ⟨x, rfl, hx, hD2, hF2⟩
    have H2 : Hid (SSt w w2 w.heap.size lo C A B (.slice a fs.length c) (.slice b ps.length d) (.int .i64 cp) (.int .i64 fu) (.bool false)) := H1.out.drawn hF2 hD2
    have FP2 : Hid (FilesAt w2 lo w.heap.size a fs.length c fs ∧ PendsAt w2 lo w.heap.size b ps.length d ps) := by
      have kk : Keeps lo w.heap.size w1 w2 := fun g h1 h2 => hF2.block g (by omega) (by omega)
      exact ⟨FP.out.1.keep kk, FP.out.2.keep kk⟩
    have s2 := hF2.size
    clear z0 z1 z2 z3 z4 zf y0 y1 y2 y3 y4 yf H1 FP hD2 hF2
    have lN2 : w.heap.size < w2.heap.size := by omega
    have lR2 : w.heap.size + 1 < w2.heap.size := by omega
    obtain ⟨z0, z1, z2, z3, z4⟩ := box_fiveC H2.out.hd
    have zf := box_thawC H2.out.hd
    obtain ⟨y0, y1, y2, y3, y4⟩ := box_fiveC H2.out.rs
    have yf := box_thawC H2.out.rs
    have HE : Hid (Fr (fun g => g = C ∨ lo ≤ g) w (w2.setCell ⟨w.heap.size, 2, none⟩ (.int .i64 (1000 + (x : Int)))) ∧ DCur (w2.setCell ⟨w.heap.size, 2, none⟩ (.int .i64 (1000 + (x : Int)))) C A B ∧ (w2.setCell ⟨w.heap.size, 2, none⟩ (.int .i64 (1000 + (x : Int)))).heap[w.heap.size + 1]? = some (.cells #[.slice none 0 0, .slice none 0 0, .int .i64 0, .int .i64 0, .bool false] 26) ∧ FilesAt (w2.setCell ⟨w.heap.size, 2, none⟩ (.int .i64 (1000 + (x : Int)))) lo w.heap.size a fs.length c fs ∧ PendsAt (w2.setCell ⟨w.heap.size, 2, none⟩ (.int .i64 (1000 + (x : Int)))) lo w.heap.size b ps.length d ps ∧ BD fs ps (1000 + (x : Int)) fu) := by
      obtain ⟨e1, e2, e3⟩ := H2.out.set 2 (.int .i64 (1000 + (x : Int))) HCL.2
      have kk : Keeps lo w.heap.size w2 (w2.setCell ⟨w.heap.size, 2, none⟩ (.int .i64 (1000 + (x : Int)))) := (Keeps.refl _ _ _).set (p := ⟨w.heap.size, 2, none⟩) (.inr (Nat.le_refl _)) _
      exact ⟨e1, e2, e3, FP2.out.1.keep kk, FP2.out.2.keep kk, ⟨HBD.out.nf, HBD.out.np, HBD.out.sf, HBD.out.sp, by omega, HBD.out.rf⟩⟩
    go_wp2_with fail
    show bodyPost _ _ _ _ _ (put5C (w2.setCell ⟨w.heap.size, 2, none⟩ (.int .i64 (1000 + (x : Int)))) (w.heap.size + 1) (.slice a fs.length c) (.slice b ps.length d) (.int .i64 (1000 + (x : Int))) (.int .i64 fu) (.bool false))
    clear z0 z1 z2 z3 z4 zf y0 y1 y2 y3 y4 yf
    obtain ⟨z0, z1, z2, z3, z4⟩ := box_fiveC (put5C_box HE.out.2.2.1 (.slice a fs.length c) (.slice b ps.length d) (.int .i64 (1000 + (x : Int))) (.int .i64 fu) (.bool false))
    exact bodyPost_ret (v := .agg #[.slice a fs.length c, .slice b ps.length d, .int .i64 (1000 + (x : Int)), .int .i64 fu, .bool false]) (by simp [results, Try.results76, go_sem, z0, z1, z2, z3, z4]) rfl (BndD.mk5 HE.out.2.2.1 (.inl HE.out.2.2.2.1) (.inl HE.out.2.2.2.2.1) HE.out.2.2.2.2.2 HE.out.2.1 HE.out.1 HCL)
  · obtain ⟨i0, hi, hz0, hz1, hz2⟩ := info_parts info_File
    have hnf := HBD12
    have hDd : DCur w1.drew C A B := H1.out.cur.below ((Below.refl _ _).drew)
    go_wp2_with fail
    go_region_law (first | (have hb2 : Below w2.heap.size w2 (w2.alloc (.cells (madeCells #[.int .u8 0] (127 + x)) 5)) := (Below.refl _ _).alloc (Nat.le_refl _) _; have hb3 : Below (w2.alloc (.cells (madeCells #[.int .u8 0] (127 + x)) 5)).heap.size (w2.alloc (.cells (madeCells #[.int .u8 0] (127 + x)) 5)) ((w2.alloc (.cells (madeCells #[.int .u8 0] (127 + x)) 5)).alloc (.cells #[.string ⟨#[122, 122, 122]⟩, .slice (some ⟨w2.heap.size, 0, none⟩) (127 + x) (127 + x)] 92)) := (Below.refl _ _).alloc (Nat.le_refl _) _; have hrow3 : ((w2.alloc (.cells (madeCells #[.int .u8 0] (127 + x)) 5)).alloc (.cells #[.string ⟨#[122, 122, 122]⟩, .slice (some ⟨w2.heap.size, 0, none⟩) (127 + x) (127 + x)] 92)).ownsRow lo 92 2 (.slice a fs.length c) fs.length xs := owns_below (owns_below hOD.files.row hb2) hb3; have hmo := made_own w2 (127 + x) (by unfold maxLen; omega); have hnew : ∀ j u, ([.string ⟨#[122, 122, 122]⟩, .slice (some ⟨w2.heap.size, 0, none⟩) (127 + x) (127 + x)] : List Value)[j]? = some u → ((w2.alloc (.cells (madeCells #[.int .u8 0] (127 + x)) 5)).alloc (.cells #[.string ⟨#[122, 122, 122]⟩, .slice (some ⟨w2.heap.size, 0, none⟩) (127 + x) (127 + x)] 92)).cell? ((⟨w2.heap.size + 1, 0, none⟩ : Addr).add j) = some u := (fun j u hu => by have := cell_two_newS (w2.alloc (.cells (madeCells #[.int .u8 0] (127 + x)) 5)) (.string ⟨#[122, 122, 122]⟩) (.slice (some ⟨w2.heap.size, 0, none⟩) (127 + x) (127 + x)) 92 j u hu; simpa using this); have XN := box_below (box_below XN2 hb2) hb3; have XR := box_below (box_below XR2 hb2) hb3; have s3 := hb3.size; have s2' := hb2.size; refine step_append_ownD rfl (.tmp 25) (.tmp 31) 23 rfl lo 92 i0 _ 2 40 Try.underlying23 hi hz0 hz1 hz2 rfl (by decide) (.slice a fs.length c) fs.length xs (by simp [Act.eval]) hrow3 ⟨w2.heap.size + 1, 0, none⟩ 1 1 [.string ⟨#[122, 122, 122]⟩, .slice (some ⟨w2.heap.size, 0, none⟩) (127 + x) (127 + x)] (by simp [Act.eval]) rfl hnew (by simp [Value.oneCell']) (by unfold maxLen; omega) (by omega) (by omega) ?_; intro v4 w4 hrow4 hgr4 hli4; obtain ⟨hp1, hp2⟩ := push_file (nm := ⟨#[122, 122, 122]⟩) (bs := List.replicate (127 + x) 0) hOD hg (by omega) HCL.2 hb2 hmo (by decide) (fun x hx => by have := List.eq_of_mem_replicate hx; omega) hb3 hrow4 hgr4 hli4; obtain ⟨a4, c4, rfl, _, _⟩ := hp2 w4 (Fr.refl _ _); have XN4 := box_fr XN hp1 (by omega); obtain ⟨q0, q1, q2, q3, q4⟩ := box_fiveC XN4; have qf := box_thawC XN4; have lN4 := (Array.getElem?_eq_some_iff.1 XN4).1) | (go_simp; go_at_call 32; refine (l1Below_any C A B w1.drew hDd 2 (by omega) (by omega)).mono ?_; rintro e w2 ⟨x, rfl, hx, hD2, hF2x⟩; have hF2 : Fr (fun g => g = C) w1 w2 := (Fr.of_below ((Below.refl _ w1).drew)).trans hF2x; have O2 := O1.out.fr hF2 (fun g e => .inl (by omega)); obtain ⟨xs, vs, ys, us, hOD, hg⟩ := O2.ex; have XN2 := box_fr H1.out.hd hF2 (by omega); have XR2 := box_fr H1.out.rs hF2 (by omega); have lN2 := (Array.getElem?_eq_some_iff.1 XN2).1; have lR2 := (Array.getElem?_eq_some_iff.1 XR2).1; obtain ⟨r0, r1, r2, r3, r4⟩ := box_fiveC XN2; have s2 := hF2.size; have hwr : IntKind.i64.wrap (127 + (x : Int)) = 127 + (x : Int) := (by rw [IntKind.wrap_i64]; omega); have hmk := run_makeN x (by omega)))
    all_goals
      have hX : Fr (fun g => g = w.heap.size ∨ g = w.heap.size + 1) w4 (put5C (w4.setCell ⟨w.heap.size, 0, none⟩ (.slice a4 (fs.length + 1) c4)) (w.heap.size + 1) (.slice a4 (fs.length + 1) c4) (.slice b ps.length d) (.int .i64 cp) (.int .i64 fu) (.bool false)) := ((fr_setCell w4 w.heap.size 0 (.slice a4 (fs.length + 1) c4)).weak (fun g e => .inl e)).trans ((put5C_fr (w4.setCell ⟨w.heap.size, 0, none⟩ (.slice a4 (fs.length + 1) c4)) (w.heap.size + 1) (.slice a4 (fs.length + 1) c4) (.slice b ps.length d) (.int .i64 cp) (.int .i64 fu) (.bool false)).weak (fun g e => .inr e))
      obtain ⟨a5, c5, e5, hF5, hP5⟩ := hp2 _ hX
      cases e5
      have hBD5 : BD (fs ++ [(⟨#[122, 122, 122]⟩, List.replicate (127 + x) 0)]) ps cp fu := HBD.out.pushF (by simp; omega) (by omega)
      have hD4 : DCur w4 C A B := (((hD2.below hb2).below hb3)).belowN (hp1.below (B := lo) (by omega) (fun g e => by omega)) (by omega)
      have hf4 : Fr (fun g => g = C ∨ lo ≤ g) w w4 := (((H1.out.fr.trans (hF2.weak (fun g e => .inl e))).trans (Fr.of_below hb2)).trans (Fr.of_below hb3)).trans (hp1.weak (fun g e => .inr e.1))
      have HB : Hid (BndD w (.returned (.agg #[.slice a4 (fs.length + 1) c4, .slice b ps.length d, .int .i64 cp, .int .i64 fu, .bool false])) (put5C (w4.setCell ⟨w.heap.size, 0, none⟩ (.slice a4 (fs.length + 1) c4)) (w.heap.size + 1) (.slice a4 (fs.length + 1) c4) (.slice b ps.length d) (.int .i64 cp) (.int .i64 fu) (.bool false)) lo C A B) := BndD.mk6 hF5 hP5 hBD5 hD4 hf4 hX HCL (by omega)
      have XR4 := box_fr XR hp1 (by omega)
      have YR := box_fr XR4 (fr_setCell w4 w.heap.size 0 (.slice a4 (fs.length + 1) c4)) (by omega)
      have X5 := put5C_box YR (.slice a4 (fs.length + 1) c4) (.slice b ps.length d) (.int .i64 cp) (.int .i64 fu) (.bool false)
      have lR4 := (Array.getElem?_eq_some_iff.1 XR4).1
      clear z0 z1 z2 z3 z4 zf y0 y1 y2 y3 y4 yf r0 r1 r2 r3 r4
      obtain ⟨y0, y1, y2, y3, y4⟩ := box_fiveC XR4
      have yf := box_thawC XR4
      clear hp1 hp2 hX hF5 hP5 hBD5 hD4 hf4 XN XR XN4 XR4 YR hrow3 hnew hmo hgr4 hli4 hrow4 hb2 hb3 hmk XN2 XR2 hF2 hF2x hD2 O2 hOD hg hDd
      go_wp2_with fail
      show bodyPost _ _ _ _ _ (put5C (w4.setCell ⟨w.heap.size, 0, none⟩ (.slice a4 (fs.length + 1) c4)) (w.heap.size + 1) (.slice a4 (fs.length + 1) c4) (.slice b ps.length d) (.int .i64 cp) (.int .i64 fu) (.bool false))
      clear y0 y1 y2 y3 y4 yf q0 q1 q2 q3 q4 qf
      obtain ⟨y0, y1, y2, y3, y4⟩ := box_fiveC X5
      exact bodyPost_ret (v := .agg #[.slice a4 (fs.length + 1) c4, .slice b ps.length d, .int .i64 cp, .int .i64 fu, .bool false]) (by simp [results, Try.results76, go_sem, y0, y1, y2, y3, y4]) rfl HB.out
  · obtain ⟨xs, vs, ys, us, hOD, hg⟩ := O1.out.ex
    obtain ⟨i0, hi, hz0, hz1, hz2⟩ := info_parts info_File
    have hmk := run_make128
    have hb2 : Below w1.heap.size w1 (w1.alloc (.cells (madeCells #[.int .u8 0] 128) 5)) := (Below.refl _ _).alloc (Nat.le_refl _) _
    have hb3 : Below (w1.alloc (.cells (madeCells #[.int .u8 0] 128) 5)).heap.size (w1.alloc (.cells (madeCells #[.int .u8 0] 128) 5)) ((w1.alloc (.cells (madeCells #[.int .u8 0] 128) 5)).alloc (.cells #[.string ⟨#[97]⟩, .slice (some ⟨w1.heap.size, 0, none⟩) 128 128] 92)).drew := ((Below.refl _ _).alloc (Nat.le_refl _) _).drew
    have hrow3 : ((w1.alloc (.cells (madeCells #[.int .u8 0] 128) 5)).alloc (.cells #[.string ⟨#[97]⟩, .slice (some ⟨w1.heap.size, 0, none⟩) 128 128] 92)).drew.ownsRow lo 92 2 (.slice a fs.length c) fs.length xs := owns_below (owns_below hOD.files.row hb2) hb3
    have hmo := made_own w1 128 (by unfold maxLen; omega)
    have hnf := HBD12
    have hnew : ∀ j u, ([.string ⟨#[97]⟩, .slice (some ⟨w1.heap.size, 0, none⟩) 128 128] : List Value)[j]? = some u → ((w1.alloc (.cells (madeCells #[.int .u8 0] 128) 5)).alloc (.cells #[.string ⟨#[97]⟩, .slice (some ⟨w1.heap.size, 0, none⟩) 128 128] 92)).drew.cell? ((⟨w1.heap.size + 1, 0, none⟩ : Addr).add j) = some u := by
      intro j u hu
      have := cell_two_newS (w1.alloc (.cells (madeCells #[.int .u8 0] 128) 5)) (.string ⟨#[97]⟩) (.slice (some ⟨w1.heap.size, 0, none⟩) 128 128) 92 j u hu
      simpa using this
    have XN := box_below (box_below H1.out.hd hb2) hb3
    have XR := box_below (box_below H1.out.rs hb2) hb3
    have s3 := hb3.size
    have s2 := hb2.size
    go_wp2_with fail
    go_region_law (first | (refine step_append_ownD rfl (.tmp 37) (.tmp 40) 23 rfl lo 92 i0 _ 2 40 Try.underlying23 hi hz0 hz1 hz2 rfl (by decide) (.slice a fs.length c) fs.length xs (by simp [Act.eval]) hrow3 ⟨w1.heap.size + 1, 0, none⟩ 1 1 [.string ⟨#[97]⟩, .slice (some ⟨w1.heap.size, 0, none⟩) 128 128] (by simp [Act.eval]) rfl hnew (by simp [Value.oneCell']) (by unfold maxLen; omega) (by omega) (by omega) ?_; intro v4 w4 hrow4 hgr4 hli4; obtain ⟨hp1, hp2⟩ := push_file (nm := ⟨#[97]⟩) (bs := List.replicate 128 0) hOD hg (by omega) HCL.2 hb2 hmo (by decide) (fun x hx => by have := List.eq_of_mem_replicate hx; omega) hb3 hrow4 hgr4 hli4; obtain ⟨a4, c4, rfl, _, _⟩ := hp2 w4 (Fr.refl _ _); have XN4 := box_fr XN hp1 (by omega); obtain ⟨q0, q1, q2, q3, q4⟩ := box_fiveC XN4; have qf := box_thawC XN4; have lN4 := (Array.getElem?_eq_some_iff.1 XN4).1))
    all_goals
      have hX : Fr (fun g => g = w.heap.size ∨ g = w.heap.size + 1) w4 (put5C (w4.setCell ⟨w.heap.size, 0, none⟩ (.slice a4 (fs.length + 1) c4)) (w.heap.size + 1) (.slice a4 (fs.length + 1) c4) (.slice b ps.length d) (.int .i64 cp) (.int .i64 fu) (.bool false)) := ((fr_setCell w4 w.heap.size 0 (.slice a4 (fs.length + 1) c4)).weak (fun g e => .inl e)).trans ((put5C_fr (w4.setCell ⟨w.heap.size, 0, none⟩ (.slice a4 (fs.length + 1) c4)) (w.heap.size + 1) (.slice a4 (fs.length + 1) c4) (.slice b ps.length d) (.int .i64 cp) (.int .i64 fu) (.bool false)).weak (fun g e => .inr e))
      obtain ⟨a5, c5, e5, hF5, hP5⟩ := hp2 _ hX
      cases e5
      have hBD5 : BD (fs ++ [(⟨#[97]⟩, List.replicate 128 0)]) ps cp fu := HBD.out.pushF (by simp) (by omega)
      have hD4 : DCur w4 C A B := (((H1.out.cur.below hb2).below hb3)).belowN (hp1.below (B := lo) (by omega) (fun g e => by omega)) (by omega)
      have hf4 : Fr (fun g => g = C ∨ lo ≤ g) w w4 := ((H1.out.fr.trans (Fr.of_below hb2)).trans (Fr.of_below hb3)).trans (hp1.weak (fun g e => .inr e.1))
      have HB : Hid (BndD w (.returned (.agg #[.slice a4 (fs.length + 1) c4, .slice b ps.length d, .int .i64 cp, .int .i64 fu, .bool false])) (put5C (w4.setCell ⟨w.heap.size, 0, none⟩ (.slice a4 (fs.length + 1) c4)) (w.heap.size + 1) (.slice a4 (fs.length + 1) c4) (.slice b ps.length d) (.int .i64 cp) (.int .i64 fu) (.bool false)) lo C A B) := BndD.mk6 hF5 hP5 hBD5 hD4 hf4 hX HCL (by omega)
      have XR4 := box_fr XR hp1 (by omega)
      have YR := box_fr XR4 (fr_setCell w4 w.heap.size 0 (.slice a4 (fs.length + 1) c4)) (by omega)
      have X5 := put5C_box YR (.slice a4 (fs.length + 1) c4) (.slice b ps.length d) (.int .i64 cp) (.int .i64 fu) (.bool false)
      have lR4 := (Array.getElem?_eq_some_iff.1 XR4).1
      clear z0 z1 z2 z3 z4 zf y0 y1 y2 y3 y4 yf
      obtain ⟨y0, y1, y2, y3, y4⟩ := box_fiveC XR4
      have yf := box_thawC XR4
      clear hp1 hp2 hX hF5 hP5 hBD5 hD4 hf4 XN XR XN4 XR4 YR hrow3 hnew hmo hgr4 hli4 hrow4 hb2 hb3 hmk
      go_wp2_with fail
      show bodyPost _ _ _ _ _ (put5C (w4.setCell ⟨w.heap.size, 0, none⟩ (.slice a4 (fs.length + 1) c4)) (w.heap.size + 1) (.slice a4 (fs.length + 1) c4) (.slice b ps.length d) (.int .i64 cp) (.int .i64 fu) (.bool false))
      clear y0 y1 y2 y3 y4 yf q0 q1 q2 q3 q4 qf
      obtain ⟨y0, y1, y2, y3, y4⟩ := box_fiveC X5
      exact bodyPost_ret (v := .agg #[.slice a4 (fs.length + 1) c4, .slice b ps.length d, .int .i64 cp, .int .i64 fu, .bool false]) (by simp [results, Try.results76, go_sem, y0, y1, y2, y3, y4]) rfl HB.out
  · obtain ⟨i0, hi, hz0, hz1, hz2⟩ := info_parts info_Pend
    have hnf := HBD8
    have hmk := run_make128
    have hDd : DCur w1.drew C A B := H1.out.cur.below ((Below.refl _ _).drew)
    have hDm : DCur (w1.alloc (.cells (madeCells #[.int .u8 0] 128) 5)).drew C A B := H1.out.cur.below (((Below.refl _ _).alloc (Nat.le_refl _) _).drew)
    have hmM : (w1.alloc (.cells (madeCells #[.int .u8 0] 128) 5)).drew.ownsRow (w.heap.size + 2) 5 1 (.slice (some ⟨w1.heap.size, 0, none⟩) 128 128) (List.replicate 128 (0 : Int)).length (u8s (List.replicate 128 0)) := own_lowerC (owns_below (made_own w1 128 (by unfold maxLen; omega)) ((Below.refl _ _).drew)) (by omega)
    go_wp2_with fail
    go_region_law (first | (have hb3 : Below w2.heap.size w2 (w2.alloc (.cells #[.string ⟨#[100, 98]⟩, .int .i64 (x : Int), .slice (some ⟨w1.heap.size, 0, none⟩) 128 128] 71)) := (Below.refl _ _).alloc (Nat.le_refl _) _; have hrow3 : (w2.alloc (.cells #[.string ⟨#[100, 98]⟩, .int .i64 (x : Int), .slice (some ⟨w1.heap.size, 0, none⟩) 128 128] 71)).ownsRow lo 71 3 (.slice b ps.length d) ps.length ys := owns_below hOD.cache.row hb3; have hnew : ∀ j u, ([.string ⟨#[100, 98]⟩, .int .i64 (x : Int), .slice (some ⟨w1.heap.size, 0, none⟩) 128 128] : List Value)[j]? = some u → (w2.alloc (.cells #[.string ⟨#[100, 98]⟩, .int .i64 (x : Int), .slice (some ⟨w1.heap.size, 0, none⟩) 128 128] 71)).cell? ((⟨w2.heap.size, 0, none⟩ : Addr).add j) = some u := (fun j u hu => by have := cell_three_new w2 (.string ⟨#[100, 98]⟩) (.int .i64 (x : Int)) (.slice (some ⟨w1.heap.size, 0, none⟩) 128 128) 71 j u hu; simpa using this); have XN := box_below XN2 hb3; have XR := box_below XR2 hb3; have s3 := hb3.size; have hD3 : DCur (w2.alloc (.cells #[.string ⟨#[100, 98]⟩, .int .i64 (x : Int), .slice (some ⟨w1.heap.size, 0, none⟩) 128 128] 71)) C A B := hD2.below hb3; have hf3 : Fr (fun g => g = C ∨ lo ≤ g) w (w2.alloc (.cells #[.string ⟨#[100, 98]⟩, .int .i64 (x : Int), .slice (some ⟨w1.heap.size, 0, none⟩) 128 128] 71)) := (H1.out.fr.trans (hF2.weak (fun g e => .inl e))).trans (Fr.of_below hb3); refine step_append_ownD rfl (.tmp 46) (.tmp 51) 24 rfl lo 71 i0 _ 3 48 Try.underlying24 hi hz0 hz1 hz2 rfl (by decide) (.slice b ps.length d) ps.length ys (by simp [Act.eval]) hrow3 ⟨w2.heap.size, 0, none⟩ 1 1 [.string ⟨#[100, 98]⟩, .int .i64 (x : Int), .slice (some ⟨w1.heap.size, 0, none⟩) 128 128] (by simp [Act.eval]) rfl hnew (by simp [Value.oneCell']) (by unfold maxLen; omega) (by omega) (by omega) ?_; intro v4 w4 hrow4 hgr4 hli4; obtain ⟨hp1, hp2⟩ := push_pend2 (nm := ⟨#[100, 98]⟩) (pg := (x : Int)) (bs := List.replicate 128 0) hOD hg (by omega) HCL.2 hvM (by decide) (by omega) (fun x hx => by have := List.eq_of_mem_replicate hx; omega) hb3 hrow4 hgr4 hli4; obtain ⟨a4, c4, rfl, _, _⟩ := hp2 w4 (Fr.refl _ _); have XN4 := box_fr XN hp1 (by omega); have XR4 := box_fr XR hp1 (by omega); obtain ⟨q0, q1, q2, q3, q4⟩ := box_fiveC XN4; have qf := box_thawC XN4; have lN4 := (Array.getElem?_eq_some_iff.1 XN4).1; have hD4 : DCur w4 C A B := hD3.belowN (hp1.below (B := lo) (by omega) (fun g e => by omega)) (by omega); have hf4 : Fr (fun g => g = C ∨ lo ≤ g) w w4 := hf3.trans (hp1.weak (fun g e => .inr e.1))) | (have hb2 : Below w2.heap.size w2 (w2.alloc (.cells (madeCells #[.int .u8 0] 128) 5)) := (Below.refl _ _).alloc (Nat.le_refl _) _; have hb3 : Below (w2.alloc (.cells (madeCells #[.int .u8 0] 128) 5)).heap.size (w2.alloc (.cells (madeCells #[.int .u8 0] 128) 5)) ((w2.alloc (.cells (madeCells #[.int .u8 0] 128) 5)).alloc (.cells #[.string ⟨#[100, 98]⟩, .int .i64 (x : Int), .slice (some ⟨w2.heap.size, 0, none⟩) 128 128] 71)) := (Below.refl _ _).alloc (Nat.le_refl _) _; have hrow3 : ((w2.alloc (.cells (madeCells #[.int .u8 0] 128) 5)).alloc (.cells #[.string ⟨#[100, 98]⟩, .int .i64 (x : Int), .slice (some ⟨w2.heap.size, 0, none⟩) 128 128] 71)).ownsRow lo 71 3 (.slice b ps.length d) ps.length ys := owns_below (owns_below hOD.cache.row hb2) hb3; have hmo := made_own w2 128 (by unfold maxLen; omega); have hnew : ∀ j u, ([.string ⟨#[100, 98]⟩, .int .i64 (x : Int), .slice (some ⟨w2.heap.size, 0, none⟩) 128 128] : List Value)[j]? = some u → ((w2.alloc (.cells (madeCells #[.int .u8 0] 128) 5)).alloc (.cells #[.string ⟨#[100, 98]⟩, .int .i64 (x : Int), .slice (some ⟨w2.heap.size, 0, none⟩) 128 128] 71)).cell? ((⟨w2.heap.size + 1, 0, none⟩ : Addr).add j) = some u := (fun j u hu => by have := cell_three_new (w2.alloc (.cells (madeCells #[.int .u8 0] 128) 5)) (.string ⟨#[100, 98]⟩) (.int .i64 (x : Int)) (.slice (some ⟨w2.heap.size, 0, none⟩) 128 128) 71 j u hu; simpa using this); have XN := box_below (box_below XN2 hb2) hb3; have XR := box_below (box_below XR2 hb2) hb3; have s3 := hb3.size; have s2b := hb2.size; have hD3 : DCur ((w2.alloc (.cells (madeCells #[.int .u8 0] 128) 5)).alloc (.cells #[.string ⟨#[100, 98]⟩, .int .i64 (x : Int), .slice (some ⟨w2.heap.size, 0, none⟩) 128 128] 71)) C A B := (hD2.below hb2).below hb3; have hf3 : Fr (fun g => g = C ∨ lo ≤ g) w ((w2.alloc (.cells (madeCells #[.int .u8 0] 128) 5)).alloc (.cells #[.string ⟨#[100, 98]⟩, .int .i64 (x : Int), .slice (some ⟨w2.heap.size, 0, none⟩) 128 128] 71)) := ((H1.out.fr.trans (hF2.weak (fun g e => .inl e))).trans (Fr.of_below hb2)).trans (Fr.of_below hb3); refine step_append_ownD rfl (.tmp 46) (.tmp 51) 24 rfl lo 71 i0 _ 3 48 Try.underlying24 hi hz0 hz1 hz2 rfl (by decide) (.slice b ps.length d) ps.length ys (by simp [Act.eval]) hrow3 ⟨w2.heap.size + 1, 0, none⟩ 1 1 [.string ⟨#[100, 98]⟩, .int .i64 (x : Int), .slice (some ⟨w2.heap.size, 0, none⟩) 128 128] (by simp [Act.eval]) rfl hnew (by simp [Value.oneCell']) (by unfold maxLen; omega) (by omega) (by omega) ?_; intro v4 w4 hrow4 hgr4 hli4; obtain ⟨hp1, hp2⟩ := push_pend (nm := ⟨#[100, 98]⟩) (pg := (x : Int)) (bs := List.replicate 128 0) hOD hg (by omega) HCL.2 hb2 hmo (by decide) (by omega) (fun x hx => by have := List.eq_of_mem_replicate hx; omega) hb3 hrow4 hgr4 hli4; obtain ⟨a4, c4, rfl, _, _⟩ := hp2 w4 (Fr.refl _ _); have XN4 := box_fr XN hp1 (by omega); have XR4 := box_fr XR hp1 (by omega); obtain ⟨q0, q1, q2, q3, q4⟩ := box_fiveC XN4; have qf := box_thawC XN4; have lN4 := (Array.getElem?_eq_some_iff.1 XN4).1; have hD4 : DCur w4 C A B := hD3.belowN (hp1.below (B := lo) (by omega) (fun g e => by omega)) (by omega); have hf4 : Fr (fun g => g = C ∨ lo ≤ g) w w4 := hf3.trans (hp1.weak (fun g e => .inr e.1))) | (go_simp; go_at_call 32; refine (l1Below_any C A B w1.drew hDd 4 (by omega) (by omega)).mono ?_; rintro e w2 ⟨x, rfl, hx, hD2, hF2x⟩; have hF2 : Fr (fun g => g = C) w1 w2 := (Fr.of_below ((Below.refl _ w1).drew)).trans hF2x; have O2 := O1.out.fr hF2 (fun g e => .inl (by omega)); obtain ⟨xs, vs, ys, us, hOD, hg⟩ := O2.ex; have XN2 := box_fr H1.out.hd hF2 (by omega); have XR2 := box_fr H1.out.rs hF2 (by omega); have lN2 := (Array.getElem?_eq_some_iff.1 XN2).1; have lR2 := (Array.getElem?_eq_some_iff.1 XR2).1; obtain ⟨r0, r1, r2, r3, r4⟩ := box_fiveC XN2; have s2 := hF2.size) | (go_simp; go_at_call 32; refine (l1Below_any C A B (w1.alloc (.cells (madeCells #[.int .u8 0] 128) 5)).drew hDm 4 (by omega) (by omega)).mono ?_; rintro e w2 ⟨x, rfl, hx, hD2, hF2x⟩; have hF2 : Fr (fun g => g = C) w1 w2 := (Fr.of_below (((Below.refl _ w1).alloc (Nat.le_refl _) (.cells (madeCells #[.int .u8 0] 128) 5)).drew)).trans hF2x; have hvM : w2.ownsRow (w.heap.size + 2) 5 1 (.slice (some ⟨w1.heap.size, 0, none⟩) 128 128) (List.replicate 128 (0 : Int)).length (u8s (List.replicate 128 0)) := (owns_fr hmM hF2x (fun g e e2 => by simp [Value.ownBlock] at e; omega)); have O2 := O1.out.fr hF2 (fun g e => .inl (by omega)); obtain ⟨xs, vs, ys, us, hOD, hg⟩ := O2.ex; have XN2 := box_fr H1.out.hd hF2 (by omega); have XR2 := box_fr H1.out.rs hF2 (by omega); have lN2 := (Array.getElem?_eq_some_iff.1 XN2).1; have lR2 := (Array.getElem?_eq_some_iff.1 XR2).1; obtain ⟨r0, r1, r2, r3, r4⟩ := box_fiveC XN2; have s2 := hF2.size))
    all_goals
      have hX : Fr (fun g => g = w.heap.size ∨ g = w.heap.size + 1) w4 (put5C (w4.setCell ⟨w.heap.size, 1, none⟩ (.slice a4 (ps.length + 1) c4)) (w.heap.size + 1) (.slice a fs.length c) (.slice a4 (ps.length + 1) c4) (.int .i64 cp) (.int .i64 fu) (.bool false)) := ((fr_setCell w4 w.heap.size 1 (.slice a4 (ps.length + 1) c4)).weak (fun g e => .inl e)).trans ((put5C_fr (w4.setCell ⟨w.heap.size, 1, none⟩ (.slice a4 (ps.length + 1) c4)) (w.heap.size + 1) (.slice a fs.length c) (.slice a4 (ps.length + 1) c4) (.int .i64 cp) (.int .i64 fu) (.bool false)).weak (fun g e => .inr e))
      obtain ⟨a5, c5, e5, hF5, hP5⟩ := hp2 _ hX
      cases e5
      have hBD5 : BD fs (ps ++ [(⟨#[100, 98]⟩, (x : Int), List.replicate 128 0)]) cp fu := HBD.out.pushP (by simp; omega) (by omega)
      have HB : Hid (BndD w (.returned (.agg #[.slice a fs.length c, .slice a4 (ps.length + 1) c4, .int .i64 cp, .int .i64 fu, .bool false])) (put5C (w4.setCell ⟨w.heap.size, 1, none⟩ (.slice a4 (ps.length + 1) c4)) (w.heap.size + 1) (.slice a fs.length c) (.slice a4 (ps.length + 1) c4) (.int .i64 cp) (.int .i64 fu) (.bool false)) lo C A B) := BndD.mk6 hF5 hP5 hBD5 hD4 hf4 hX HCL (by omega)
      have YR := box_fr XR4 (fr_setCell w4 w.heap.size 1 (.slice a4 (ps.length + 1) c4)) (by omega)
      have X5 := put5C_box YR (.slice a fs.length c) (.slice a4 (ps.length + 1) c4) (.int .i64 cp) (.int .i64 fu) (.bool false)
      have lR4 := (Array.getElem?_eq_some_iff.1 XR4).1
      clear z0 z1 z2 z3 z4 zf y0 y1 y2 y3 y4 yf r0 r1 r2 r3 r4
      obtain ⟨y0, y1, y2, y3, y4⟩ := box_fiveC XR4
      have yf := box_thawC XR4
      clear hp1 hp2 hX hF5 hP5 hBD5 hD4 hf4 XN XR XN4 XR4 YR hrow3 hnew hgr4 hli4 hrow4 hb3 hmk XN2 XR2 hF2 hF2x hD2 O2 hOD hg hDd hDm hmM hD3 hf3
      go_wp2_with fail
      show bodyPost _ _ _ _ _ (put5C (w4.setCell ⟨w.heap.size, 1, none⟩ (.slice a4 (ps.length + 1) c4)) (w.heap.size + 1) (.slice a fs.length c) (.slice a4 (ps.length + 1) c4) (.int .i64 cp) (.int .i64 fu) (.bool false))
      clear y0 y1 y2 y3 y4 yf q0 q1 q2 q3 q4 qf
      obtain ⟨y0, y1, y2, y3, y4⟩ := box_fiveC X5
      exact bodyPost_ret (v := .agg #[.slice a fs.length c, .slice a4 (ps.length + 1) c4, .int .i64 cp, .int .i64 fu, .bool false]) (by simp [results, Try.results76, go_sem, y0, y1, y2, y3, y4]) rfl HB.out
  · obtain ⟨xs, vs, ys, us, hOD, hg⟩ := O1.out.ex
    obtain ⟨i0, hi, hz0, hz1, hz2⟩ := info_parts info_Pend
    have hmk := run_make128
    have hb2 : Below w1.heap.size w1 (w1.alloc (.cells (madeCells #[.int .u8 0] 128) 5)) := (Below.refl _ _).alloc (Nat.le_refl _) _
    have hb3 : Below (w1.alloc (.cells (madeCells #[.int .u8 0] 128) 5)).heap.size (w1.alloc (.cells (madeCells #[.int .u8 0] 128) 5)) ((w1.alloc (.cells (madeCells #[.int .u8 0] 128) 5)).alloc (.cells #[.string ⟨#[68, 98]⟩, .int .i64 0, .slice (some ⟨w1.heap.size, 0, none⟩) 128 128] 71)).drew := ((Below.refl _ _).alloc (Nat.le_refl _) _).drew
    have hrow3 : ((w1.alloc (.cells (madeCells #[.int .u8 0] 128) 5)).alloc (.cells #[.string ⟨#[68, 98]⟩, .int .i64 0, .slice (some ⟨w1.heap.size, 0, none⟩) 128 128] 71)).drew.ownsRow lo 71 3 (.slice b ps.length d) ps.length ys := owns_below (owns_below hOD.cache.row hb2) hb3
    have hmo := made_own w1 128 (by unfold maxLen; omega)
    have hnf := HBD8
    have hnew : ∀ j u, ([.string ⟨#[68, 98]⟩, .int .i64 0, .slice (some ⟨w1.heap.size, 0, none⟩) 128 128] : List Value)[j]? = some u → ((w1.alloc (.cells (madeCells #[.int .u8 0] 128) 5)).alloc (.cells #[.string ⟨#[68, 98]⟩, .int .i64 0, .slice (some ⟨w1.heap.size, 0, none⟩) 128 128] 71)).drew.cell? ((⟨w1.heap.size + 1, 0, none⟩ : Addr).add j) = some u := by
      intro j u hu
      have := cell_three_new (w1.alloc (.cells (madeCells #[.int .u8 0] 128) 5)) (.string ⟨#[68, 98]⟩) (.int .i64 0) (.slice (some ⟨w1.heap.size, 0, none⟩) 128 128) 71 j u hu
      simpa using this
    have XN := box_below (box_below H1.out.hd hb2) hb3
    have XR := box_below (box_below H1.out.rs hb2) hb3
    have s3 := hb3.size
    have s2 := hb2.size
    go_wp2_with fail
    go_region_law (first | (refine step_append_ownD rfl (.tmp 57) (.tmp 60) 24 rfl lo 71 i0 _ 3 48 Try.underlying24 hi hz0 hz1 hz2 rfl (by decide) (.slice b ps.length d) ps.length ys (by simp [Act.eval]) hrow3 ⟨w1.heap.size + 1, 0, none⟩ 1 1 [.string ⟨#[68, 98]⟩, .int .i64 0, .slice (some ⟨w1.heap.size, 0, none⟩) 128 128] (by simp [Act.eval]) rfl hnew (by simp [Value.oneCell']) (by unfold maxLen; omega) (by omega) (by omega) ?_; intro v4 w4 hrow4 hgr4 hli4; obtain ⟨hp1, hp2⟩ := push_pend (nm := ⟨#[68, 98]⟩) (pg := 0) (bs := List.replicate 128 0) hOD hg (by omega) HCL.2 hb2 hmo (by decide) (by omega) (fun x hx => by have := List.eq_of_mem_replicate hx; omega) hb3 hrow4 hgr4 hli4; obtain ⟨a4, c4, rfl, _, _⟩ := hp2 w4 (Fr.refl _ _); have XN4 := box_fr XN hp1 (by omega); obtain ⟨q0, q1, q2, q3, q4⟩ := box_fiveC XN4; have qf := box_thawC XN4; have lN4 := (Array.getElem?_eq_some_iff.1 XN4).1))
    all_goals
      have hX : Fr (fun g => g = w.heap.size ∨ g = w.heap.size + 1) w4 (put5C (w4.setCell ⟨w.heap.size, 1, none⟩ (.slice a4 (ps.length + 1) c4)) (w.heap.size + 1) (.slice a fs.length c) (.slice a4 (ps.length + 1) c4) (.int .i64 cp) (.int .i64 fu) (.bool false)) := ((fr_setCell w4 w.heap.size 1 (.slice a4 (ps.length + 1) c4)).weak (fun g e => .inl e)).trans ((put5C_fr (w4.setCell ⟨w.heap.size, 1, none⟩ (.slice a4 (ps.length + 1) c4)) (w.heap.size + 1) (.slice a fs.length c) (.slice a4 (ps.length + 1) c4) (.int .i64 cp) (.int .i64 fu) (.bool false)).weak (fun g e => .inr e))
      obtain ⟨a5, c5, e5, hF5, hP5⟩ := hp2 _ hX
      cases e5
      have hBD5 : BD fs (ps ++ [(⟨#[68, 98]⟩, 0, List.replicate 128 0)]) cp fu := HBD.out.pushP (by simp) (by omega)
      have hD4 : DCur w4 C A B := (((H1.out.cur.below hb2).below hb3)).belowN (hp1.below (B := lo) (by omega) (fun g e => by omega)) (by omega)
      have hf4 : Fr (fun g => g = C ∨ lo ≤ g) w w4 := ((H1.out.fr.trans (Fr.of_below hb2)).trans (Fr.of_below hb3)).trans (hp1.weak (fun g e => .inr e.1))
      have HB : Hid (BndD w (.returned (.agg #[.slice a fs.length c, .slice a4 (ps.length + 1) c4, .int .i64 cp, .int .i64 fu, .bool false])) (put5C (w4.setCell ⟨w.heap.size, 1, none⟩ (.slice a4 (ps.length + 1) c4)) (w.heap.size + 1) (.slice a fs.length c) (.slice a4 (ps.length + 1) c4) (.int .i64 cp) (.int .i64 fu) (.bool false)) lo C A B) := BndD.mk6 hF5 hP5 hBD5 hD4 hf4 hX HCL (by omega)
      have XR4 := box_fr XR hp1 (by omega)
      have YR := box_fr XR4 (fr_setCell w4 w.heap.size 1 (.slice a4 (ps.length + 1) c4)) (by omega)
      have X5 := put5C_box YR (.slice a fs.length c) (.slice a4 (ps.length + 1) c4) (.int .i64 cp) (.int .i64 fu) (.bool false)
      have lR4 := (Array.getElem?_eq_some_iff.1 XR4).1
      clear z0 z1 z2 z3 z4 zf y0 y1 y2 y3 y4 yf
      obtain ⟨y0, y1, y2, y3, y4⟩ := box_fiveC XR4
      have yf := box_thawC XR4
      clear hp1 hp2 hX hF5 hP5 hBD5 hD4 hf4 XN XR XN4 XR4 YR hrow3 hnew hmo hgr4 hli4 hrow4 hb2 hb3 hmk
      go_wp2_with fail
      show bodyPost _ _ _ _ _ (put5C (w4.setCell ⟨w.heap.size, 1, none⟩ (.slice a4 (ps.length + 1) c4)) (w.heap.size + 1) (.slice a fs.length c) (.slice a4 (ps.length + 1) c4) (.int .i64 cp) (.int .i64 fu) (.bool false))
      clear y0 y1 y2 y3 y4 yf q0 q1 q2 q3 q4 qf
      obtain ⟨y0, y1, y2, y3, y4⟩ := box_fiveC X5
      exact bodyPost_ret (v := .agg #[.slice a fs.length c, .slice a4 (ps.length + 1) c4, .int .i64 cp, .int .i64 fu, .bool false]) (by simp [results, Try.results76, go_sem, y0, y1, y2, y3, y4]) rfl HB.out
  · go_wp2_with fail
    refine (l1Below_any C A B w1 H1.out.cur 3 (by omega) (by omega)).mono ?_
    rintro e w2 ⟨x, rfl, hx, hD2, hF2⟩
    have H2 : Hid (SSt w w2 w.heap.size lo C A B (.slice a fs.length c) (.slice b ps.length d) (.int .i64 cp) (.int .i64 fu) (.bool false)) := H1.out.drawn hF2 hD2
    have FP2 : Hid (FilesAt w2 lo w.heap.size a fs.length c fs ∧ PendsAt w2 lo w.heap.size b ps.length d ps) := by
      have kk : Keeps lo w.heap.size w1 w2 := fun g h1 h2 => hF2.block g (by omega) (by omega)
      exact ⟨FP.out.1.keep kk, FP.out.2.keep kk⟩
    have s2 := hF2.size
    clear z0 z1 z2 z3 z4 zf y0 y1 y2 y3 y4 yf H1 FP hD2 hF2
    have lN2 : w.heap.size < w2.heap.size := by omega
    have lR2 : w.heap.size + 1 < w2.heap.size := by omega
    obtain ⟨z0, z1, z2, z3, z4⟩ := box_fiveC H2.out.hd
    have zf := box_thawC H2.out.hd
    obtain ⟨y0, y1, y2, y3, y4⟩ := box_fiveC H2.out.rs
    have yf := box_thawC H2.out.rs
    have HE : Hid (Fr (fun g => g = C ∨ lo ≤ g) w (w2.setCell ⟨w.heap.size, 2, none⟩ (.int .i64 (x : Int))) ∧ DCur (w2.setCell ⟨w.heap.size, 2, none⟩ (.int .i64 (x : Int))) C A B ∧ (w2.setCell ⟨w.heap.size, 2, none⟩ (.int .i64 (x : Int))).heap[w.heap.size + 1]? = some (.cells #[.slice none 0 0, .slice none 0 0, .int .i64 0, .int .i64 0, .bool false] 26) ∧ FilesAt (w2.setCell ⟨w.heap.size, 2, none⟩ (.int .i64 (x : Int))) lo w.heap.size a fs.length c fs ∧ PendsAt (w2.setCell ⟨w.heap.size, 2, none⟩ (.int .i64 (x : Int))) lo w.heap.size b ps.length d ps ∧ BD fs ps (x : Int) fu) := by
      obtain ⟨e1, e2, e3⟩ := H2.out.set 2 (.int .i64 (x : Int)) HCL.2
      have kk : Keeps lo w.heap.size w2 (w2.setCell ⟨w.heap.size, 2, none⟩ (.int .i64 (x : Int))) := (Keeps.refl _ _ _).set (p := ⟨w.heap.size, 2, none⟩) (.inr (Nat.le_refl _)) _
      exact ⟨e1, e2, e3, FP2.out.1.keep kk, FP2.out.2.keep kk, ⟨HBD.out.nf, HBD.out.np, HBD.out.sf, HBD.out.sp, by omega, HBD.out.rf⟩⟩
    go_wp2_with fail
    show bodyPost _ _ _ _ _ (put5C (w2.setCell ⟨w.heap.size, 2, none⟩ (.int .i64 (x : Int))) (w.heap.size + 1) (.slice a fs.length c) (.slice b ps.length d) (.int .i64 (x : Int)) (.int .i64 fu) (.bool false))
    clear z0 z1 z2 z3 z4 zf y0 y1 y2 y3 y4 yf
    obtain ⟨z0, z1, z2, z3, z4⟩ := box_fiveC (put5C_box HE.out.2.2.1 (.slice a fs.length c) (.slice b ps.length d) (.int .i64 (x : Int)) (.int .i64 fu) (.bool false))
    exact bodyPost_ret (v := .agg #[.slice a fs.length c, .slice b ps.length d, .int .i64 (x : Int), .int .i64 fu, .bool false]) (by simp [results, Try.results76, go_sem, z0, z1, z2, z3, z4]) rfl (BndD.mk5 HE.out.2.2.1 (.inl HE.out.2.2.2.1) (.inl HE.out.2.2.2.2.1) HE.out.2.2.2.2.2 HE.out.2.1 HE.out.1 HCL)
  · have hb1 : Below w1.heap.size w1 ((w1.setCell ⟨w.heap.size, 0, none⟩ (.slice (some ⟨w1.heap.size, 0, none⟩) 0 0)).alloc (.cells #[] 92)) → True := fun _ => trivial
    have hset := fr_setCell w1 w.heap.size 0 (.slice (some ⟨w1.heap.size, 0, none⟩) 0 0)
    have hal := (Below.refl _ (w1.setCell ⟨w.heap.size, 0, none⟩ (.slice (some ⟨w1.heap.size, 0, none⟩) 0 0))).alloc (Nat.le_refl _) (.cells #[] 92)
    have hsz : (w1.setCell ⟨w.heap.size, 0, none⟩ (.slice (some ⟨w1.heap.size, 0, none⟩) 0 0)).heap.size = w1.heap.size := by simp
    obtain ⟨e1, e2, e3⟩ := H1.out.set 0 (.slice (some ⟨w1.heap.size, 0, none⟩) 0 0) HCL.2
    have hN1 := heap_setCell_at H1.out.hd 0 (.slice (some ⟨w1.heap.size, 0, none⟩) 0 0)
    have H8 : Hid (LSt w ((w1.setCell ⟨w.heap.size, 0, none⟩ (.slice (some ⟨w1.heap.size, 0, none⟩) 0 0)).alloc (.cells #[] 92)) w.heap.size lo C A B (some ⟨w1.heap.size, 0, none⟩) 0 [] [] [] (.slice b ps.length d) (.int .i64 cp) (.int .i64 fu) (.bool false)) := by
      refine ⟨box_below (by simpa using hN1) hal, box_below e3 hal, ?_, fun f hf => (by cases hf), e2.below hal, e1.trans (Fr.of_below hal), HCL⟩
      have := World.ownsRow_made (base := w.heap.size + 2) (e := 92) (size := 2) (w1.setCell ⟨w.heap.size, 0, none⟩ (.slice (some ⟨w1.heap.size, 0, none⟩) 0 0)) #[] 0 (by rw [hsz]; omega) (by unfold maxLen; omega) (by simp)
      rw [hsz] at this
      exact OwnF.nil this
    clear hb1 hset hal hsz e1 e2 e3 hN1
    go_wp2_with fail
    clear z0 z1 z2 z3 z4 zf y0 y1 y2 y3 y4 yf
    generalize ((w1.setCell ⟨w.heap.size, 0, none⟩ (.slice (some ⟨w1.heap.size, 0, none⟩) 0 0)).alloc (.cells #[] 92)) = W8 at H8 ⊢
    go_loopw [6] (fun i wr => ∃ (k8 : Nat) (a8 : Option Addr) (c8 : Nat) (fk : List PF) (xk vk : List Value), k8 ≤ 13 ∧ i = .int .i64 k8 ∧ Hid (fk.length = k8) ∧ Hid (LSt w wr w.heap.size lo C A B a8 c8 fk xk vk (.slice b ps.length d) (.int .i64 cp) (.int .i64 fu) (.bool false))) (fun i _ => 14 - (intOf i).toNat)
    case atStart => exact ⟨0, _, _, [], [], [], by omega, rfl, (rfl : ([] : List PF).length = 0), H8⟩
    case round =>
      clear H8
      obtain ⟨k8, a8, c8, fk, xk, vk, hk8, rfl, HFK, HX⟩ := hrel
      go_wp2_with fail
      refine (l1Below_any C A B wr HX.out.cur 2 (by omega) (by omega)).mono ?_
      rintro e w2 ⟨x, rfl, hx, hD2, hF2⟩
      have H2 : Hid (LSt w w2 w.heap.size lo C A B a8 c8 fk xk vk (.slice b ps.length d) (.int .i64 cp) (.int .i64 fu) (.bool false)) := HX.out.drawn hF2 hD2
      clear HX hD2 hF2
      by_cases hlt : (k8 : Int) < 12 + (x : Int)
      · obtain ⟨i0, hi, hz0, hz1, hz2⟩ := info_parts info_File
        have hmk := run_make128
        obtain ⟨q0, q1, q2, q3, q4⟩ := box_fiveC H2.out.hd
        have qf := box_thawC H2.out.hd
        have lN2 := (Array.getElem?_eq_some_iff.1 H2.out.hd).1
        have hfk13 : fk.length ≤ 13 := by have := HFK.out; omega
        have hwk : IntKind.u8.wrap (k8 : Int) = (k8 : Int) := by rw [IntKind.wrap_u8]; omega
        have hwr : IntKind.u8.wrap (97 + (k8 : Int)) = 97 + (k8 : Int) := by rw [IntKind.wrap_u8]; omega
        have hv1 := conv_one (W := (w2.alloc (.cells #[.int .u8 (97 + (k8 : Int))] 5)).drew) (g := w2.heap.size) (k := k8) (by omega) (by simp)
        have hv2 := conv_one (W := ((w2.alloc (.cells #[.int .u8 (97 + (k8 : Int))] 5)).alloc (.cells (madeCells #[.int .u8 0] 128) 5)).drew) (g := w2.heap.size) (k := k8) (by omega) (by simp)
        have hv3 := conv_one (W := ((w2.alloc (.cells (madeCells #[.int .u8 0] 128) 5)).alloc (.cells #[.int .u8 (97 + (k8 : Int))] 5)).drew) (g := w2.heap.size + 1) (k := k8) (by omega) (by simp)
        obtain ⟨nm8, hnm8⟩ : ∃ nm : ByteArray, nm = ⟨#[UInt8.ofNat (97 + k8)]⟩ := ⟨_, rfl⟩
        have hs8 : nm8.size ≤ maxLen := by rw [hnm8]; show (1 : Nat) ≤ maxLen; unfold maxLen; omega
        rw [← hnm8] at hv1 hv2 hv3
        clear hnm8
        have bA : Below w2.heap.size w2 ((w2.alloc (.cells #[.int .u8 (97 + (k8 : Int))] 5)).alloc (.cells (madeCells #[.int .u8 0] 128) 5)) := ((Below.refl _ _).alloc (Nat.le_refl _) _).alloc (by simp) _
        have bA3 : Below ((w2.alloc (.cells #[.int .u8 (97 + (k8 : Int))] 5)).alloc (.cells (madeCells #[.int .u8 0] 128) 5)).heap.size ((w2.alloc (.cells #[.int .u8 (97 + (k8 : Int))] 5)).alloc (.cells (madeCells #[.int .u8 0] 128) 5)) (((w2.alloc (.cells #[.int .u8 (97 + (k8 : Int))] 5)).alloc (.cells (madeCells #[.int .u8 0] 128) 5)).alloc (.cells #[.string nm8, .slice (some ⟨w2.heap.size + 1, 0, none⟩) 128 128] 92)).drew := ((Below.refl _ _).alloc (Nat.le_refl _) _).drew
        have bB : Below w2.heap.size w2 ((w2.alloc (.cells (madeCells #[.int .u8 0] 128) 5)).alloc (.cells #[.int .u8 (97 + (k8 : Int))] 5)) := ((Below.refl _ _).alloc (Nat.le_refl _) _).alloc (by simp) _
        have bB3 : Below ((w2.alloc (.cells (madeCells #[.int .u8 0] 128) 5)).alloc (.cells #[.int .u8 (97 + (k8 : Int))] 5)).heap.size ((w2.alloc (.cells (madeCells #[.int .u8 0] 128) 5)).alloc (.cells #[.int .u8 (97 + (k8 : Int))] 5)) (((w2.alloc (.cells (madeCells #[.int .u8 0] 128) 5)).alloc (.cells #[.int .u8 (97 + (k8 : Int))] 5)).alloc (.cells #[.string nm8, .slice (some ⟨w2.heap.size, 0, none⟩) 128 128] 92)).drew := ((Below.refl _ _).alloc (Nat.le_refl _) _).drew
        have rA : (((w2.alloc (.cells #[.int .u8 (97 + (k8 : Int))] 5)).alloc (.cells (madeCells #[.int .u8 0] 128) 5)).alloc (.cells #[.string nm8, .slice (some ⟨w2.heap.size + 1, 0, none⟩) 128 128] 92)).drew.ownsRow (w.heap.size + 2) 92 2 (.slice a8 fk.length c8) fk.length xk := owns_below (owns_below H2.out.own.row bA) bA3
        have rB : (((w2.alloc (.cells (madeCells #[.int .u8 0] 128) 5)).alloc (.cells #[.int .u8 (97 + (k8 : Int))] 5)).alloc (.cells #[.string nm8, .slice (some ⟨w2.heap.size, 0, none⟩) 128 128] 92)).drew.ownsRow (w.heap.size + 2) 92 2 (.slice a8 fk.length c8) fk.length xk := owns_below (owns_below H2.out.own.row bB) bB3
        have mA : ((w2.alloc (.cells #[.int .u8 (97 + (k8 : Int))] 5)).alloc (.cells (madeCells #[.int .u8 0] 128) 5)).ownsRow w2.heap.size 5 1 (.slice (some ⟨w2.heap.size + 1, 0, none⟩) 128 128) (List.replicate 128 (0 : Int)).length (u8s (List.replicate 128 0)) := own_lowerC (by simpa using made_own (w2.alloc (.cells #[.int .u8 (97 + (k8 : Int))] 5)) 128 (by unfold maxLen; omega)) (by simp)
        have mB : ((w2.alloc (.cells (madeCells #[.int .u8 0] 128) 5)).alloc (.cells #[.int .u8 (97 + (k8 : Int))] 5)).ownsRow w2.heap.size 5 1 (.slice (some ⟨w2.heap.size, 0, none⟩) 128 128) (List.replicate 128 (0 : Int)).length (u8s (List.replicate 128 0)) := owns_below (made_own w2 128 (by unfold maxLen; omega)) ((Below.refl _ _).alloc (Nat.le_refl _) _)
        have nA : ∀ j u, ([.string nm8, .slice (some ⟨w2.heap.size + 1, 0, none⟩) 128 128] : List Value)[j]? = some u → (((w2.alloc (.cells #[.int .u8 (97 + (k8 : Int))] 5)).alloc (.cells (madeCells #[.int .u8 0] 128) 5)).alloc (.cells #[.string nm8, .slice (some ⟨w2.heap.size + 1, 0, none⟩) 128 128] 92)).drew.cell? ((⟨w2.heap.size + 1 + 1, 0, none⟩ : Addr).add j) = some u := fun j u hu => by
          have := cell_two_newS ((w2.alloc (.cells #[.int .u8 (97 + (k8 : Int))] 5)).alloc (.cells (madeCells #[.int .u8 0] 128) 5)) (.string nm8) (.slice (some ⟨w2.heap.size + 1, 0, none⟩) 128 128) 92 j u hu
          simpa using this
        have nB : ∀ j u, ([.string nm8, .slice (some ⟨w2.heap.size, 0, none⟩) 128 128] : List Value)[j]? = some u → (((w2.alloc (.cells (madeCells #[.int .u8 0] 128) 5)).alloc (.cells #[.int .u8 (97 + (k8 : Int))] 5)).alloc (.cells #[.string nm8, .slice (some ⟨w2.heap.size, 0, none⟩) 128 128] 92)).drew.cell? ((⟨w2.heap.size + 1 + 1, 0, none⟩ : Addr).add j) = some u := fun j u hu => by
          have := cell_two_newS ((w2.alloc (.cells (madeCells #[.int .u8 0] 128) 5)).alloc (.cells #[.int .u8 (97 + (k8 : Int))] 5)) (.string nm8) (.slice (some ⟨w2.heap.size, 0, none⟩) 128 128) 92 j u hu
          simpa using this
        have sA : w2.heap.size + 3 = (((w2.alloc (.cells #[.int .u8 (97 + (k8 : Int))] 5)).alloc (.cells (madeCells #[.int .u8 0] 128) 5)).alloc (.cells #[.string nm8, .slice (some ⟨w2.heap.size + 1, 0, none⟩) 128 128] 92)).drew.heap.size := by simp
        have sB : w2.heap.size + 3 = (((w2.alloc (.cells (madeCells #[.int .u8 0] 128) 5)).alloc (.cells #[.int .u8 (97 + (k8 : Int))] 5)).alloc (.cells #[.string nm8, .slice (some ⟨w2.heap.size, 0, none⟩) 128 128] 92)).drew.heap.size := by simp
        obtain ⟨qa0, qa1, qa2, qa3, qa4⟩ := box_fiveC (box_below (box_below H2.out.hd bA) bA3)
        obtain ⟨qb0, qb1, qb2, qb3, qb4⟩ := box_fiveC (box_below (box_below H2.out.hd bB) bB3)
        have hlw : w.heap.size + 2 ≤ w2.heap.size := by have := (Array.getElem?_eq_some_iff.1 H2.out.rs).1; omega
        go_wp2_with fail
        go_region_law (first | (refine step_append_ownD rfl (.tmp 80) (.tmp 88) 23 rfl (w.heap.size + 2) 92 i0 _ 2 40 Try.underlying23 hi hz0 hz1 hz2 rfl (by decide) (.slice a8 fk.length c8) fk.length xk (by simp [Act.eval]) rA ⟨w2.heap.size + 1 + 1, 0, none⟩ 1 1 [.string nm8, .slice (some ⟨w2.heap.size + 1, 0, none⟩) 128 128] (by simp [Act.eval]) rfl nA (by simp [Value.oneCell']) (by unfold maxLen; omega) (by omega) (by omega) ?_; intro v4 w4 hrow4 hgr4 hli4; obtain ⟨a4, c4, rfl, L4, XN4⟩ := H2.out.push bA mA hs8 bA3 hrow4 hgr4; obtain ⟨t0, t1, t2, t3, t4⟩ := box_fiveC XN4; have tf := box_thawC XN4; have lN4 := (Array.getElem?_eq_some_iff.1 XN4).1) | (refine step_append_ownD rfl (.tmp 80) (.tmp 88) 23 rfl (w.heap.size + 2) 92 i0 _ 2 40 Try.underlying23 hi hz0 hz1 hz2 rfl (by decide) (.slice a8 fk.length c8) fk.length xk (by simp [Act.eval]) rB ⟨w2.heap.size + 1 + 1, 0, none⟩ 1 1 [.string nm8, .slice (some ⟨w2.heap.size, 0, none⟩) 128 128] (by simp [Act.eval]) rfl nB (by simp [Value.oneCell']) (by unfold maxLen; omega) (by omega) (by omega) ?_; intro v4 w4 hrow4 hgr4 hli4; obtain ⟨a4, c4, rfl, L4, XN4⟩ := H2.out.push bB mB hs8 bB3 hrow4 hgr4; obtain ⟨t0, t1, t2, t3, t4⟩ := box_fiveC XN4; have tf := box_thawC XN4; have lN4 := (Array.getElem?_eq_some_iff.1 XN4).1))
        all_goals
          have HL4 : Hid _ := L4
          have HF4 : Hid ((fk ++ [(nm8, List.replicate 128 0)]).length = k8 + 1) := by show _ = _; rw [List.length_append, HFK.out]; rfl
          clear L4 XN4 t0 t1 t2 t3 t4 tf lN4 hrow4 hgr4 hli4 q0 q1 q2 q3 q4 qf qa0 qa1 qa2 qa3 qa4 qb0 qb1 qb2 qb3 qb4 bA bA3 bB bB3 rA rB mA mB nA nB hv1 hv2 hv3 hmk hwr hwk sA sB H2
          go_wp2_with fail
          go_roundw
          case rel => exact ⟨k8 + 1, a4, c4, _, _, _, by omega, by go_num, HF4, HL4⟩
          case measure => simp [intOf]; omega
      · obtain ⟨q0, q1, q2, q3, q4⟩ := box_fiveC H2.out.hd
        have qf := box_thawC H2.out.hd
        have lN2 := (Array.getElem?_eq_some_iff.1 H2.out.hd).1
        have lR2 := (Array.getElem?_eq_some_iff.1 H2.out.rs).1
        obtain ⟨y0, y1, y2, y3, y4⟩ := box_fiveC H2.out.rs
        have yf := box_thawC H2.out.rs
        have hfk13 : fk.length ≤ 13 := by have := HFK.out; omega
        have hf1 : Fr (fun g => g = w.heap.size ∨ g = w.heap.size + 1) w2 ((w2.setCell ⟨w.heap.size, 2, none⟩ (.int .i64 14)).setCell ⟨w.heap.size, 1, none⟩ (.slice (some ⟨w2.heap.size, 0, none⟩) 0 0)) := ((fr_setCell w2 w.heap.size 2 (.int .i64 14)).weak (fun g e => .inl e)).trans ((fr_setCell _ w.heap.size 1 (.slice (some ⟨w2.heap.size, 0, none⟩) 0 0)).weak (fun g e => .inl e))
        have hfp := put5C_fr ((w2.setCell ⟨w.heap.size, 2, none⟩ (.int .i64 14)).setCell ⟨w.heap.size, 1, none⟩ (.slice (some ⟨w2.heap.size, 0, none⟩) 0 0)) (w.heap.size + 1) (.slice a8 fk.length c8) (.slice (some ⟨w2.heap.size, 0, none⟩) 0 0) (.int .i64 14) (.int .i64 fu) (.bool false)
        have hf2 : Fr (fun g => g = w.heap.size ∨ g = w.heap.size + 1) w2 (put5C ((w2.setCell ⟨w.heap.size, 2, none⟩ (.int .i64 14)).setCell ⟨w.heap.size, 1, none⟩ (.slice (some ⟨w2.heap.size, 0, none⟩) 0 0)) (w.heap.size + 1) (.slice a8 fk.length c8) (.slice (some ⟨w2.heap.size, 0, none⟩) 0 0) (.int .i64 14) (.int .i64 fu) (.bool false)) := hf1.trans (hfp.weak (fun g e => .inr e))
        have XR := box_fr (box_fr H2.out.rs (fr_setCell w2 w.heap.size 2 (.int .i64 14)) (by omega)) (fr_setCell _ w.heap.size 1 (.slice (some ⟨w2.heap.size, 0, none⟩) 0 0)) (by omega)
        have X5 := put5C_box XR (.slice a8 fk.length c8) (.slice (some ⟨w2.heap.size, 0, none⟩) 0 0) (.int .i64 14) (.int .i64 fu) (.bool false)
        have hal := (Below.refl _ (put5C ((w2.setCell ⟨w.heap.size, 2, none⟩ (.int .i64 14)).setCell ⟨w.heap.size, 1, none⟩ (.slice (some ⟨w2.heap.size, 0, none⟩) 0 0)) (w.heap.size + 1) (.slice a8 fk.length c8) (.slice (some ⟨w2.heap.size, 0, none⟩) 0 0) (.int .i64 14) (.int .i64 fu) (.bool false))).alloc (Nat.le_refl _) (.cells #[] 71)
        have X6 := box_below X5 hal
        have hOF := (H2.out.own.fr hf2 (fun g hB e => by have := (H2.out.own.blk hB).1; omega)).below hal
        obtain ⟨a9, n9, c9, e9, e10, hF9⟩ := hOF.files
        cases e9
        have s2 := hf2.size
        have s3 := hal.size
        have HB : Hid (BndD w (.returned (.agg #[.slice a8 fk.length c8, (.slice (some ⟨w2.heap.size, 0, none⟩) 0 0), .int .i64 14, .int .i64 fu, .bool false])) ((put5C ((w2.setCell ⟨w.heap.size, 2, none⟩ (.int .i64 14)).setCell ⟨w.heap.size, 1, none⟩ (.slice (some ⟨w2.heap.size, 0, none⟩) 0 0)) (w.heap.size + 1) (.slice a8 fk.length c8) (.slice (some ⟨w2.heap.size, 0, none⟩) 0 0) (.int .i64 14) (.int .i64 fu) (.bool false)).alloc (.cells #[] 71)) lo C A B) := by
          refine ⟨⟨a8, fk.length, c8, some ⟨w2.heap.size, 0, none⟩, 0, 0, fk, [], 14, fu, false, rfl, hF9.up (by omega) (Nat.le_refl _), ⟨rfl, Nat.le_refl _, by unfold maxLen; omega, fun h => absurd h (Nat.lt_irrefl _)⟩, ⟨by omega, by simp, fun j hj => ?_, fun p hp => (by cases hp), by omega, HBD.out.rf⟩, ?_, ?_⟩⟩
          · have := H2.out.dat (fk[j]) (List.getElem_mem hj)
            simp only [List.getD, List.getElem?_eq_getElem hj, Option.getD_some]
            omega
          · exact (H2.out.cur.belowN (hf2.below (B := w.heap.size) (by omega) (fun g e => by omega)) (by omega)).below hal
          · exact (H2.out.fr.trans (hf2.weak (fun g e => .inr (by omega)))).trans (Fr.of_below hal)
        obtain ⟨wF, hwF⟩ : ∃ wF, wF = ((put5C ((w2.setCell ⟨w.heap.size, 2, none⟩ (.int .i64 14)).setCell ⟨w.heap.size, 1, none⟩ (.slice (some ⟨w2.heap.size, 0, none⟩) 0 0)) (w.heap.size + 1) (.slice a8 fk.length c8) (.slice (some ⟨w2.heap.size, 0, none⟩) 0 0) (.int .i64 14) (.int .i64 fu) (.bool false)).alloc (.cells #[] 71)) := ⟨_, rfl⟩
        rw [← hwF] at X6 HB
        have HWF : Hid _ := hwF
        clear hwF
        have HX6 : Hid _ := X6
        clear hf1 hfp hf2 XR X5 hal hOF hF9 H2 X6 s2 s3 e10 hfk13
        go_wp2_with fail
        show bodyPost _ _ _ _ _ ((put5C ((w2.setCell ⟨w.heap.size, 2, none⟩ (.int .i64 14)).setCell ⟨w.heap.size, 1, none⟩ (.slice (some ⟨w2.heap.size, 0, none⟩) 0 0)) (w.heap.size + 1) (.slice a8 fk.length c8) (.slice (some ⟨w2.heap.size, 0, none⟩) 0 0) (.int .i64 14) (.int .i64 fu) (.bool false)).alloc (.cells #[] 71))
        rw [← HWF.out]
        clear HWF
        clear q0 q1 q2 q3 q4 qf y0 y1 y2 y3 y4 yf
        obtain ⟨y0, y1, y2, y3, y4⟩ := box_fiveC HX6.out
        exact bodyPost_ret (v := .agg #[.slice a8 fk.length c8, (.slice (some ⟨w2.heap.size, 0, none⟩) 0 0), .int .i64 14, .int .i64 fu, .bool false]) (by simp [results, Try.results76, go_sem, y0, y1, y2, y3, y4]) rfl HB.out
end Go.Proofs.Ytakdaandbdbdnaa
