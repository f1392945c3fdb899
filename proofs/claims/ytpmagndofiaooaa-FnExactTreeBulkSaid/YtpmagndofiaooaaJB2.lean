import Derived.Test.YtpmagndofiaooaaTul
import Derived.Test.YtpmagndofiaooaaTq
import Derived.Test.YtpmagndofiaooaaJB1
namespace Go.Proofs.Ytpmagndofiaooaa
open Go.RowKit
set_option linter.unusedVariables false
set_option linter.unusedSimpArgs false
set_option maxRecDepth 100000

/-- A node whose lists are short. -/
def shortN (x : TN) : Prop := x.keys.length ≤ 4 ∧ x.vals.length ≤ 4 ∧ x.over.length ≤ 4 ∧ x.kids.length ≤ 4
theorem offs_mem {x : TN} : ∀ (gs : List (Nat → List TN)) (s : Nat), x ∈ offs s gs → ∃ g ∈ gs, ∃ s', x ∈ g s'
  | [], s, h => by simp [offs] at h
  | g :: r, s, h => by
    rw [offs, List.mem_append] at h
    rcases h with h | h
    · exact ⟨g, List.mem_cons_self .., s, h⟩
    · obtain ⟨g', hg, s', hx⟩ := offs_mem r _ h
      exact ⟨g', List.mem_cons_of_mem _ hg, s', hx⟩
theorem startsN_len : ∀ (l : List Nat) (s : Nat), (startsN s l).length = l.length
  | [], s => rfl
  | x :: r, s => by simp only [startsN, List.length_cons, startsN_len r]
theorem flat_short (t : T) : (∃ r, t.good r = true) → ∀ s, ∀ x ∈ t.flat s, shortN x := by
  induction t using T.ind with
  | h t ih =>
    rintro ⟨r, hg⟩ s x hx
    have hg0 := hg
    rw [T.good_eq] at hg
    simp only [Bool.and_eq_true, decide_eq_true_eq] at hg
    rw [T.flat_eq] at hx
    cases hl : t.leaf
    · rw [hl] at hx
      simp only [Bool.false_eq_true, if_false, List.mem_cons] at hx
      have hsz : t.kids.length ≤ 4 := by have := hg.1.1.1.1.2; simpa [T.size, hl] using this
      rcases hx with rfl | hx
      · exact ⟨by simp; omega, by simp, by simp, by rw [startsN_len, List.length_map]; exact hsz⟩
      · obtain ⟨g, hgm, s', hx⟩ := offs_mem _ _ hx
        obtain ⟨k, hk, rfl⟩ := List.mem_map.1 hgm
        exact ih k hk ⟨false, good_kid hg0 hk⟩ s' x hx
    · rw [hl] at hx hg
      simp only [if_true, List.mem_singleton] at hx
      subst hx
      have hsz : t.keys.length ≤ 4 := by have := hg.1.1.1.1.2; simpa [T.size, hl] using this
      have h3 := hg.1.1.2
      simp only [Bool.not_true, Bool.false_or, Bool.and_eq_true, decide_eq_true_eq] at h3
      exact ⟨hsz, by show t.vals.length ≤ 4; omega, by show t.over.length ≤ 4; omega, by simp⟩
theorem top_good {n : Nat} : ∀ (f : Nat) (ts : List T), LvOk n ts → LvGd ts → ts.length ≤ f → ∃ t, topF f ts = [t] ∧ t.good true = true
  | 0, ts, h, hg, hf => by have := h.pos; omega
  | f + 1, ts, h, hg, hf => by
    by_cases h1 : 1 < ts.length
    · have hu := upT_ok h h1
      have hst := topF_step (f := f) h1 hf hu.2
      obtain ⟨t, e, hs⟩ := top_good f (upT ts) hu.1 (upT_gd hg h1) hst.2
      exact ⟨t, by rw [hst.1, e], hs⟩
    · rw [topF_done _ (by omega)]
      have := h.pos
      match ts, h1, this with
      | [t], _, _ => exact ⟨t, rfl, (hg.all t (List.mem_singleton.2 rfl)).1⟩
      | [], _, h => simp at h
      | _ :: _ :: _, h, _ => simp at h
theorem bulk_short (zs : List (ByteArray × ByteArray)) : (bulkNs zs).length ≤ 1000 ∧ ∀ x ∈ bulkNs zs, shortN x := by
  unfold bulkNs
  split
  · simp
  · rename_i hok
    split
    · refine ⟨by simp, fun x hx => ?_⟩
      rw [List.mem_singleton] at hx
      subst hx
      exact ⟨by simp, by simp, by simp, by simp⟩
    · rename_i hne
      split
      · simp
      · rename_i hbig
        have hok2 : bulkOk zs = true := by cases h : bulkOk zs with | true => rfl | false => exact absurd h hok
        obtain ⟨t, e, hg⟩ := top_good (n := zs.length) zs.length (lvlB zs) (lvlB_ok (by omega)) (lvlB_gd hok2) (by rw [show (lvlB zs).length = (chunks zs).length by simp [lvlB]]; exact chunks_le _ zs (Nat.le_refl _))
        have hr : rootT zs = t := by unfold rootT; rw [e]; rfl
        rw [hr] at hbig ⊢
        exact ⟨Nat.le_trans (flat_le t 0) (by omega), flat_short t ⟨true, hg⟩ 0⟩
theorem ndLen_short {x : TN} (h : shortN x) : ndLen x.nd ≤ 18 := by
  obtain ⟨h3, h4, h5, h6⟩ := h
  show 2 + (rowsOf strCells x.keys).length + (rowsOf strCells x.vals).length + (rowsOf intCells x.over).length + (rowsOf intCells x.kids).length ≤ 18
  rw [rows_len1 sc1, rows_len1 sc1, rows_len1 ic1, rows_len1 ic1]
  omega
theorem kT_short : ∀ (ts : List TN) (k : Nat), (∀ x ∈ ts, shortN x) → kT k (ts.map TN.nd) ≤ k + 18 * ts.length
  | [], k, h => by simp [kT]
  | x :: r, k, h => by
    have h2 := kT_short r (k + ndLen x.nd) (fun y hy => h y (List.mem_cons_of_mem _ hy))
    have h3 := ndLen_short (h x (List.mem_cons_self ..))
    simp only [List.map_cons, kT, List.length_cons]
    omega
/-- Nodes of one's own read as nodes. -/
theorem OwnT.nodes {w : World} {base n c : Nat} {a : Option Addr} {ts : List TN} {us : Nat → Nat → Value} (h : OwnT w base (.slice a n c) (ts.map TN.nd) us) (hn : n = ts.length) {w2 : World} {A2 B2 c2 : Nat} {a2 : Option Addr} (hS : NodesAt w2 A2 B2 a2 n c2 ts) : NodesAt w base w.heap.size a n c ts := by
  have hl : (ts.map TN.nd).length = n := by rw [List.length_map, hn]
  rcases h.row.2 with ⟨e, e2⟩ | ⟨g, cap, cur, e, hg1, hg2, h1, h2, _⟩
  · simp only [Value.slice.injEq] at e
    obtain ⟨rfl, rfl, rfl⟩ := e
    exact ⟨hn.symm, Nat.le_refl _, by unfold maxLen; exact Nat.zero_le _, fun h0 => absurd h0 (by omega)⟩
  · simp only [Value.slice.injEq] at e
    obtain ⟨rfl, _, rfl⟩ := e
    refine ⟨hn.symm, by omega, h2, fun h0 => ⟨g, 0, rfl, h.row.lt g rfl, fun i hi => ?_⟩⟩
    have hil : i < (ts.map TN.nd).length := by omega
    have hg : (ts.map TN.nd).getD i dN = TN.nd (ts.getD i dT) := by simp [List.getD, show i < ts.length by omega]
    have hcell := fun j hj => h.cell (i := i) (j := j) hil hj
    have hd := h.data i hil
    rw [hg] at hcell hd
    obtain ⟨b2, off2, _, _, hN⟩ := hS.2.2.2 h0
    obtain ⟨ka, kn, kc, va, vn, vc, oa, on, oc, ya, yn, yc, hT⟩ := hN i hi
    have d0 := hd 0 (by omega)
    have d1 := hd 1 (by omega)
    have d2 := hd 2 (by omega)
    have d3 := hd 3 (by omega)
    replace d0 : w.ownsRow base 9 1 (us i 0) (rowsOf strCells (ts.getD i dT).keys).length (rowsOf strCells (ts.getD i dT).keys) := d0
    replace d1 : w.ownsRow base 9 1 (us i 1) (rowsOf strCells (ts.getD i dT).vals).length (rowsOf strCells (ts.getD i dT).vals) := d1
    replace d2 : w.ownsRow base 2 1 (us i 2) (rowsOf intCells (ts.getD i dT).over).length (rowsOf intCells (ts.getD i dT).over) := d2
    replace d3 : w.ownsRow base 2 1 (us i 3) (rowsOf intCells (ts.getD i dT).kids).length (rowsOf intCells (ts.getD i dT).kids) := d3
    rw [rows_len1 sc1] at d0 d1
    rw [rows_len1 ic1] at d2 d3
    obtain ⟨a0, c0, e0, r0⟩ := RowsAt.of_owns (fit := strFit) (d := ByteArray.empty) sc1 d0 rfl (fun j hj => hT.keys.2.2.2.1 j (by rw [← hT.keys.1]; exact hj))
    obtain ⟨a1, c1, e1, r1⟩ := RowsAt.of_owns (fit := strFit) (d := ByteArray.empty) sc1 d1 rfl (fun j hj => hT.vals.2.2.2.1 j (by rw [← hT.vals.1]; exact hj))
    obtain ⟨a3, c3, e3, r3⟩ := RowsAt.of_owns (fit := I64) (d := 0) ic1 d2 rfl (fun j hj => hT.over.2.2.2.1 j (by rw [← hT.over.1]; exact hj))
    obtain ⟨a4, c4, e4, r4⟩ := RowsAt.of_owns (fit := I64) (d := 0) ic1 d3 rfl (fun j hj => hT.kids.2.2.2.1 j (by rw [← hT.kids.1]; exact hj))
    refine ⟨a0, _, c0, a1, _, c1, a3, _, c3, a4, _, c4, ?_, ?_, ?_, ?_, ?_, ?_, hT.page, r0, r1, r3, r4⟩
    · rw [Nat.zero_add]; exact hcell 0 (by omega)
    · rw [Nat.zero_add]; exact hcell 1 (by omega)
    · rw [Nat.zero_add, ← e0]; exact hcell 2 (by omega)
    · rw [Nat.zero_add, ← e1]; exact hcell 3 (by omega)
    · rw [Nat.zero_add, ← e3]; exact hcell 4 (by omega)
    · rw [Nat.zero_add, ← e4]; exact hcell 5 (by omega)
end Go.Proofs.Ytpmagndofiaooaa
namespace Go.Proofs.Ytpmagndofiaooaa
open Go.RowKit
set_option linter.unusedVariables false
set_option linter.unusedSimpArgs false
set_option maxRecDepth 100000

theorem cell_oneB {w : World} {g : Nat} {v : Value} {t : TypeId} (h : w.heap[g]? = some (.cells #[v] t)) : w.cell? ⟨g, 0, none⟩ = some v := by simp [World.cell?, h]
theorem prAt_own {w : World} {base n g : Nat} {zs : List (ByteArray × ByteArray)} (h : w.ownsRow base 53 2 (.slice (some ⟨g, 0, none⟩) n n) n (rowsOf prCells (slB zs))) (hl : zs.length = n) (hn : n ≤ 1048576) : PrAt w w.heap.size (some ⟨g, 0, none⟩) n n zs := by
  refine ⟨hl, Nat.le_refl _, by unfold maxLen; omega, fun h0 => ⟨g, 0, rfl, (h.lt g rfl).2, fun i hi => ?_⟩⟩
  have h9 := prs_get zs i (by omega)
  rw [Nat.zero_add, h.cellAt (i * 2) (by omega), h.cellAt (i * 2 + 1) (by omega)]
  exact h9
set_option maxHeartbeats 8000000 in
theorem law_TreeBulk (a : Option Addr) (n c : Nat) (zs : List (ByteArray × ByteArray)) (w : World) (hp : PrAt w w.heap.size a n c zs) (hz : ∀ i, i < n → (zs.getD i dP).1.size ≤ maxLen ∧ (zs.getD i dP).2.size ≤ maxLen) :
    Calls Try.prog 3 #[.slice a n c] w fun e w' => e = .returned (.bool true) ∧ Below w.heap.size w w' := by
  obtain ⟨N, hN⟩ : ∃ N, w.heap.size = N := ⟨_, rfl⟩
  have HP : Hid (∀ W, Below N w W → PrAt W N a n c zs) := fun W hW => by rw [hN] at hp; exact hp.below hW
  have HL : Hid (zs.length = n) := hp.1
  have HZ : Hid (∀ i, i < n → (zs.getD i dP).1.size ≤ maxLen ∧ (zs.getD i dP).2.size ≤ maxLen) := hz
  have hcc := hp.2.1
  have hcm := hp.2.2.1
  unfold maxLen at hcm
  have hs := szPairSU_any a n c zs 1048576 w (by omega) (by omega) N (by omega) (HP.out w (Below.refl _ _)) hz
  rw [hN] at hs ⊢
  clear hp hz
  go_enter Try.func3, Try.ntmps3
  go_wp2_with fail
  refine hs.mono ?_
  rintro e w1 ⟨r, rfl, hr, g1⟩
  have s1 := g1.size
  clear hs
  by_cases t3 : r < 0
  · go_wp2_with fail
    go_ret
    exact ⟨rfl, g1⟩
  have hn : n ≤ 1048576 := by have := hr (by omega); omega
  clear hr
  have hc := toPairSU_any a n c zs w1 N (by omega) (HP.out w1 g1) hn
  go_wp2_with fail
  refine hc.mono ?_
  rintro e w2 ⟨ga, hga, rfl, own2, b2⟩
  have s2 := b2.size
  have g2 := g1.trans (b2.mono (by omega))
  clear hc
  have hc := specBulk_any (some ⟨ga, 0, none⟩) n n zs w2 w2.heap.size (Nat.le_refl _) (prAt_own own2 HL.out hn) hn
  go_wp2_with fail
  refine hc.mono ?_
  rintro e w3 ⟨oa, oc, rfl, nA, b3⟩
  have s3 := b3.size
  have g3 := g2.trans (b3.mono (by omega))
  clear hc own2
  have hsh := bulk_short zs
  have hkt := kT_short (bulkNs zs) 1 hsh.2
  obtain ⟨m, hm⟩ : ∃ m, (bulkNs zs).length = m := ⟨_, rfl⟩
  have HM : Hid ((bulkNs zs).length = m) := hm
  have hm1 : m ≤ 1000 := by rw [← hm]; exact hsh.1
  have HKT : Hid (kT 1 ((bulkNs zs).map TN.nd) ≤ 1000000000) := by show _ ≤ _; omega
  rw [hm] at nA ⊢
  clear hm hsh hkt
  obtain ⟨Z, hZ⟩ : ∃ Z, w3.heap.size = Z := ⟨_, rfl⟩
  have b4 : Below w3.heap.size w3 (w3.alloc (.cells #[.slice oa m oc] 26)) := (Below.refl _ _).alloc (Nat.le_refl _) _
  have X4 := heap_alloc_new w3 (.cells #[.slice oa m oc] 26)
  have z4 : (w3.alloc (.cells #[.slice oa m oc] 26)).heap.size = Z + 1 := by rw [← hZ]; simp
  go_upto_region 6 with fail
  generalize w3.alloc (.cells #[.slice oa m oc] 26) = W4 at b4 X4 z4 ⊢
  rw [hZ] at b4 X4 nA
  have NA4 : Hid (NodesAt W4 w2.heap.size Z oa m oc (bulkNs zs)) := nA.below b4
  have g4 := g3.trans (b4.mono (by omega))
  have lZ4 : Z < W4.heap.size := by omega
  have hZ1 : w3.heap.size ≤ Z := by omega
  have hZ2 : Z ≤ w3.heap.size := by omega
  clear nA b3 b2 b4 hZ
  have hc := toPairSU_any a n c zs W4 N (by omega) (HP.out W4 g4) hn
  go_wp2_with fail
  refine hc.mono ?_
  rintro e w5 ⟨gx, hgx, rfl, own5, b5⟩
  have hgx2 : gx < w5.heap.size := (own5.lt gx rfl).2
  have s5 := b5.size
  have g5 := g4.trans (b5.mono (by omega))
  have X5 := (b5.block Z lZ4).trans X4
  have NA5 : Hid (NodesAt w5 w2.heap.size Z oa m oc (bulkNs zs)) := NA4.out.below (b5.mono (by omega))
  clear hc X4 NA4
  have hc := implBulk_any (some ⟨gx, 0, none⟩) n n zs w5 w5.heap.size (Nat.le_refl _) (prAt_own own5 HL.out hn) hn
  go_wp2_with fail
  refine hc.mono ?_
  rintro e w6 ⟨ia, ic, us, rfl, oT, b6⟩
  have s6 := b6.size
  rw [HM.out] at oT ⊢
  have g6 := g5.trans (b6.mono (by omega))
  have X6 := (b6.block Z (by omega)).trans X5
  have NA6 : Hid (NodesAt w6 w2.heap.size Z oa m oc (bulkNs zs)) := NA5.out.below (b6.mono (by omega))
  have own6 := owns_below own5 b6
  clear hc X5 NA5 own5
  obtain ⟨Y, hY⟩ : ∃ Y, w6.heap.size = Y := ⟨_, rfl⟩
  have HBK : Hid (∀ q, BlkT (.slice ia m ic) ((bulkNs zs).map TN.nd).length us q → w5.heap.size ≤ q ∧ q < Y) := fun q hq => by have := oT.blk hq; omega
  have b7 : Below w6.heap.size w6 (w6.alloc (.cells #[.slice ia m ic] 26)) := (Below.refl _ _).alloc (Nat.le_refl _) _
  have Y7 := heap_alloc_new w6 (.cells #[.slice ia m ic] 26)
  have z7 : (w6.alloc (.cells #[.slice ia m ic] 26)).heap.size = Y + 1 := by rw [← hY]; simp
  have oT7 := oT.below b7
  have own7 := owns_below own6 b7
  go_upto_region 8 with fail
  generalize w6.alloc (.cells #[.slice ia m ic] 26) = W7 at b7 Y7 z7 oT7 own7 ⊢
  rw [hY] at b7 Y7
  have g7 := g6.trans (b7.mono (by omega))
  have X7 := (b7.block Z (by omega)).trans X6
  have NA7 : Hid (NodesAt W7 w2.heap.size Z oa m oc (bulkNs zs)) := NA6.out.below (b7.mono (by omega))
  have IN7 : Hid (NodesAt W7 w5.heap.size W7.heap.size ia m ic (bulkNs zs)) := oT7.nodes HM.out.symm NA7.out
  have OT7 : Hid (OwnT W7 w5.heap.size (.slice ia m ic) ((bulkNs zs).map TN.nd) us) := oT7
  have OW7 : Hid (W7.ownsRow W4.heap.size 53 2 (.slice (some ⟨gx, 0, none⟩) n n) n (rowsOf prCells (slB zs))) := own7
  have hY1 : w6.heap.size ≤ Y := by omega
  have hY2 : Y ≤ w6.heap.size := by omega
  clear oT oT7 own6 own7 X6 NA6 b5 b6 b7 hY
  have lZ7 : Z < W7.heap.size := by omega
  have lY7 : Y < W7.heap.size := by omega
  have x7 := cell_oneB X7
  have y7 := cell_oneB Y7
  have hc := eqTree_same ia m ic oa oc (bulkNs zs) W7 w5.heap.size W7.heap.size w2.heap.size Z (Nat.le_refl _) (by omega) IN7.out NA7.out
  go_wp2_with fail
  refine hc.mono ?_
  rintro e w8 ⟨rfl, b8⟩
  have s8 := b8.size
  have g8 := g7.trans (b8.mono (by omega))
  have X8 := (b8.block Z lZ7).trans X7
  have Y8 := (b8.block Y lY7).trans Y7
  have NA8 : Hid (NodesAt w8 w2.heap.size Z oa m oc (bulkNs zs)) := NA7.out.below (b8.mono (by omega))
  have IN8 : Hid (NodesAt w8 w5.heap.size W7.heap.size ia m ic (bulkNs zs)) := IN7.out.below b8
  have OT8 : Hid (OwnT w8 w5.heap.size (.slice ia m ic) ((bulkNs zs).map TN.nd) us) := OT7.out.below b8
  have OW8 : Hid (w8.ownsRow W4.heap.size 53 2 (.slice (some ⟨gx, 0, none⟩) n n) n (rowsOf prCells (slB zs))) := owns_below OW7.out b8
  clear hc NA7 IN7 OT7 OW7 X7 Y7 x7 y7 b8
  have hc := toPairSU_any a n c zs w8 N (by omega) (HP.out w8 g8) hn
  go_wp2_with fail
  refine hc.mono ?_
  rintro e w9 ⟨gy, hgy, rfl, own9, b9⟩
  have s9 := b9.size
  have g9 := g8.trans (b9.mono (by omega))
  have X9 := (b9.block Z (by omega)).trans X8
  have Y9 := (b9.block Y (by omega)).trans Y8
  have NA9 : Hid (NodesAt w9 w2.heap.size Z oa m oc (bulkNs zs)) := NA8.out.below (b9.mono (by omega))
  have IN9 : Hid (NodesAt w9 w5.heap.size W7.heap.size ia m ic (bulkNs zs)) := IN8.out.below (b9.mono (by omega))
  have OT9 : Hid (OwnT w9 w5.heap.size (.slice ia m ic) ((bulkNs zs).map TN.nd) us) := OT8.out.below b9
  have OW9 : Hid (w9.ownsRow W4.heap.size 53 2 (.slice (some ⟨gx, 0, none⟩) n n) n (rowsOf prCells (slB zs))) := owns_below OW8.out b9
  have hsl : (slB zs).length = n := by simp [slB, HL.out]
  obtain ⟨_, _, e9, P1⟩ := pairs_of_own OW9.out hsl
  cases e9
  obtain ⟨_, _, e9, P2⟩ := pairs_of_own own9 hsl
  cases e9
  clear hc NA8 IN8 OT8 OW8 X8 Y8 b9 own9
  have hc := eqPairS_same (some ⟨gx, 0, none⟩) n n (some ⟨gy, 0, none⟩) n (slB zs) w9 _ _ _ _ (Nat.le_refl _) (Nat.le_refl _) P1 P2
  clear P1 P2 hsl
  go_wp2_with fail
  refine hc.mono ?_
  rintro e wa ⟨rfl, ba⟩
  have sa := ba.size
  have ga' := g9.trans (ba.mono (by omega))
  have XA := (ba.block Z (by omega)).trans X9
  have YA := (ba.block Y (by omega)).trans Y9
  have NAA : Hid (NodesAt wa w2.heap.size Z oa m oc (bulkNs zs)) := NA9.out.below (ba.mono (by omega))
  have INA : Hid (NodesAt wa w5.heap.size W7.heap.size ia m ic (bulkNs zs)) := IN9.out.below (ba.mono (by omega))
  have OTA : Hid (OwnT wa w5.heap.size (.slice ia m ic) ((bulkNs zs).map TN.nd) us) := OT9.out.below ba
  have OWA : Hid (wa.ownsRow W4.heap.size 53 2 (.slice (some ⟨gx, 0, none⟩) n n) n (rowsOf prCells (slB zs))) := owns_below OW9.out ba
  clear hc NA9 IN9 OT9 OW9 X9 Y9 ba
  have hc := markPairS_own (some ⟨gx, 0, none⟩) n n 1 W4.heap.size _ wa OWA.out (by omega)
  go_wp2_with fail
  refine hc.mono ?_
  rintro e wb ⟨rfl, _, fb⟩
  have hne : ∀ x, x ≠ gx → ¬ (some x = (Value.slice (some ⟨gx, 0, none⟩) n n).ownBlock) := fun x h e => h (by cases e; rfl)
  have sb := fb.size
  have gb := ga'.trans (fb.below (by omega) (fun x e => by have hx : x = gx := (by cases e; rfl); omega))
  have XB := (fb.block Z (by omega) (hne Z (by omega))).trans XA
  have YB := (fb.block Y (by omega) (hne Y (by omega))).trans YA
  have NAB : Hid (NodesAt wb w2.heap.size Z oa m oc (bulkNs zs)) := NAA.out.keep (fun q h1 h2 => fb.block q (by omega) (hne q (by omega)))
  have INB : Hid (NodesAt wb w5.heap.size W7.heap.size ia m ic (bulkNs zs)) := INA.out.keep (fun q h1 h2 => fb.block q (by omega) (hne q (by omega)))
  have OTB : Hid (OwnT wb w5.heap.size (.slice ia m ic) ((bulkNs zs).map TN.nd) us) := OTA.out.fr fb (fun q hq => hne q (by have := HBK.out q hq; omega))
  clear hc NAA INA OTA OWA XA YA fb hne
  have xb := cell_oneB XB
  have yb := cell_oneB YB
  have hc := eqTree_same ia m ic oa oc (bulkNs zs) wb w5.heap.size W7.heap.size w2.heap.size Z (by omega) (by omega) INB.out NAB.out
  go_wp2_with fail
  refine hc.mono ?_
  rintro e wc ⟨rfl, bc⟩
  have sc := bc.size
  have gc := gb.trans (bc.mono (by omega))
  have XC := (bc.block Z (by omega)).trans XB
  have YC := (bc.block Y (by omega)).trans YB
  have NAC : Hid (NodesAt wc w2.heap.size Z oa m oc (bulkNs zs)) := NAB.out.below (bc.mono (by omega))
  have OTC : Hid (OwnT wc w5.heap.size (.slice ia m ic) ((bulkNs zs).map TN.nd) us) := OTB.out.below bc
  clear hc NAB INB OTB XB YB xb yb bc
  have yc := cell_oneB YC
  have hml : m = ((bulkNs zs).map TN.nd).length := by rw [List.length_map, HM.out]
  have hc := markTree_own ia m ic 1 w5.heap.size _ us wc OTC.out hml HKT.out
  have HKT2 : Hid (kT 1 ((bulkNs zs).map TN.nd) ≤ 1000000000) := HKT.out
  obtain ⟨K, hK⟩ : ∃ K, kT 1 ((bulkNs zs).map TN.nd) = K := ⟨_, rfl⟩
  have hK1 : K ≤ 1000000000 := by rw [← hK]; exact HKT.out
  have HK : Hid (kT 1 ((bulkNs zs).map TN.nd) = K) := hK
  have HML : Hid (m = ((bulkNs zs).map TN.nd).length) := hml
  rw [hK] at hc
  clear hK hml
  go_wp2_with fail
  refine hc.mono ?_
  rintro e wd ⟨rfl, oD, fd⟩
  have sd := fd.size
  have hnb : ∀ q, q < w5.heap.size ∨ q = Y → ¬ BlkT (.slice ia m ic) ((bulkNs zs).map TN.nd).length us q := fun q h hq => by have := HBK.out q hq; omega
  have gd := gc.trans (fd.below (by omega) (fun x e => by have := HBK.out x e; omega))
  have XD := (fd.block Z (by omega) (hnb Z (.inl (by omega)))).trans XC
  have YD := (fd.block Y (by omega) (hnb Y (.inr rfl))).trans YC
  have NAD : Hid (NodesAt wd w2.heap.size Z oa m oc (bulkNs zs)) := NAC.out.keep (fun q h1 h2 => fd.block q (by omega) (hnb q (.inl (by omega))))
  clear hc NAC OTC XC YC yc fd hnb
  have yd := cell_oneB YD
  have hc := heldTree_own ia m ic 1 w5.heap.size _ us wd oD HML.out HKT2.out
  rw [HK.out] at hc
  clear oD
  go_wp2_with fail
  refine hc.mono ?_
  rintro e we ⟨rfl, be⟩
  have se := be.size
  have ge := gd.trans (be.mono (by omega))
  have XE := (be.block Z (by omega)).trans XD
  have NAE : Hid (NodesAt we w2.heap.size Z oa m oc (bulkNs zs)) := NAD.out.below (be.mono (by omega))
  clear hc NAD XD YD yd be
  have hnn : ((K : Int) != (K : Int)) = false := by simp
  have hc := toPairSU_any a n c zs we N (by omega) (HP.out we ge) hn
  go_wp2_with fail
  refine hc.mono ?_
  rintro e wf ⟨gz, hgz, rfl, ownf, bf⟩
  have sf := bf.size
  have gf := ge.trans (bf.mono (by omega))
  have XF := (bf.block Z (by omega)).trans XE
  have NAF : Hid (NodesAt wf w2.heap.size Z oa m oc (bulkNs zs)) := NAE.out.below (bf.mono (by omega))
  clear hc NAE XE bf
  have hc := implBulk_any (some ⟨gz, 0, none⟩) n n zs wf wf.heap.size (Nat.le_refl _) (prAt_own ownf HL.out hn) hn
  clear ownf
  go_wp2_with fail
  refine hc.mono ?_
  rintro e wg ⟨ha, hcp, us2, rfl, oG, bg⟩
  have sg := bg.size
  rw [HM.out] at oG ⊢
  have gg := gf.trans (bg.mono (by omega))
  have XG := (bg.block Z (by omega)).trans XF
  have NAG : Hid (NodesAt wg w2.heap.size Z oa m oc (bulkNs zs)) := NAF.out.below (bg.mono (by omega))
  clear hc NAF XF bg
  have bh : Below wg.heap.size wg (wg.alloc (.cells #[.slice ha m hcp] 26)) := (Below.refl _ _).alloc (Nat.le_refl _) _
  have H7 := heap_alloc_new wg (.cells #[.slice ha m hcp] 26)
  have oH := oG.below bh
  have sh := bh.size
  go_upto_region 25 with fail
  generalize wg.alloc (.cells #[.slice ha m hcp] 26) = WH at bh H7 oH sh ⊢
  have gh := gg.trans (bh.mono (by omega))
  have XH := (bh.block Z (by omega)).trans XG
  have NAH : Hid (NodesAt WH w2.heap.size Z oa m oc (bulkNs zs)) := NAG.out.below (bh.mono (by omega))
  have INH : Hid (NodesAt WH wf.heap.size WH.heap.size ha m hcp (bulkNs zs)) := oH.nodes HM.out.symm NAH.out
  have lH := (Array.getElem?_eq_some_iff.1 H7).1
  have xh := cell_oneB XH
  have yh := cell_oneB H7
  have lZH : Z < WH.heap.size := by omega
  clear oG oH NAG XG bh
  have hc := eqTree_same ha m hcp oa oc (bulkNs zs) WH wf.heap.size WH.heap.size w2.heap.size Z (Nat.le_refl _) (by omega) INH.out NAH.out
  go_wp2_with fail
  refine hc.mono ?_
  rintro e wi ⟨rfl, bi⟩
  have gi := gh.trans (bi.mono (by omega))
  go_wp2_with fail
  go_ret
  exact ⟨rfl, gi⟩
end Go.Proofs.Ytpmagndofiaooaa
