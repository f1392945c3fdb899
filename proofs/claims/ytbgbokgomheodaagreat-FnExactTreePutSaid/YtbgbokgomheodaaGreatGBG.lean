import Derived.Test.YtbgbokgomheodaaGreatGAA
import Derived.Test.YtbgbokgomheodaaGreatGAJ
import Derived.Test.YtbgbokgomheodaaGreatGAT
import Derived.Test.YtbgbokgomheodaaGreatGAU
import Derived.Test.YtbgbokgomheodaaGreatGBF
import Derived.Deep.QuietTactic
import Derived.BigQuiet
import Derived.Deep.RegionWith
import Derived.Test.YtbgbokgomheodaaGreatChecked
import Derived.Deep.Slices
namespace Go.Proofs.YtbgbokgomheodaaGreat
open Go.RowKit
set_option linter.unusedVariables false
set_option linter.unusedSimpArgs false
set_option maxRecDepth 100000
def dS : ByteArray × ByteArray × Int := (ByteArray.empty, ByteArray.empty, 0)
abbrev PairsAt (w : World) (A B : Nat) (a : Option Addr) (n c : Nat) (zs : List (ByteArray × ByteArray × Int)) : Prop := RowsAt w A B 2 prCells (fun _ => True) dS a n c zs
def mkZs (k n : Nat) : List (ByteArray × ByteArray × Int) := (List.range n).map fun j => (mkS (k + 2 * j), mkS (k + 2 * j + 1), 0)

def shortN (x : TN) : Prop := x.keys.length ≤ 4 ∧ x.vals.length ≤ 4 ∧ x.over.length ≤ 4 ∧ x.kids.length ≤ 4
theorem offs_mem {x : TN} : ∀ (gs : List (Nat → List TN)) (s : Nat), x ∈ offs s gs → ∃ g ∈ gs, ∃ s', x ∈ g s'
 | [], s, h => by simp [offs] at h
 | g :: r, s, h => by
  rw [offs, List.mem_append] at h
  rcases h with h | h
  ·exact ⟨g, List.mem_cons_self .., s, h⟩
  ·obtain ⟨g', hg, s', hx⟩ := offs_mem r _ h
   exact ⟨g', List.mem_cons_of_mem _ hg, s', hx⟩
theorem startsN_len : ∀ (l : List Nat) (s : Nat), (startsN s l).length = l.length
 | [], s => rfl
 | x :: r, s => by simp only [startsN, List.length_cons, startsN_len r]
theorem flat_short (t : T) : (∃ r, t.good r = true) → ∀ s, ∀ x ∈ t.flat s, shortN x := by
 induction t using T.ind with
 | h t ih =>
  rintro ⟨r, hg⟩ s x hx
  have hg0 := hg
  rw [T.good_eq] at hg
  simp only [Bool.and_eq_true, decide_eq_true_eq] at hg
  rw [T.flat_eq] at hx
  cases hl : t.leaf
  ·rw [hl] at hx
   simp only [Bool.false_eq_true, if_false, List.mem_cons] at hx
   have hsz : t.kids.length ≤ 4 := by have := hg.1.1.1.1.2; simpa [T.size, hl] using this
   rcases hx with rfl | hx
   ·exact ⟨by simp; omega, by simp, by simp, by rw [startsN_len, List.length_map]; exact hsz⟩
   ·obtain ⟨g, hgm, s', hx⟩ := offs_mem _ _ hx
    obtain ⟨k, hk, rfl⟩ := List.mem_map.1 hgm
    exact ih k hk ⟨false, good_kid hg0 hk⟩ s' x hx
  ·rw [hl] at hx hg
   simp only [if_true, List.mem_singleton] at hx
   subst hx
   have hsz : t.keys.length ≤ 4 := by have := hg.1.1.1.1.2; simpa [T.size, hl] using this
   have h3 := hg.1.1.2
   simp only [Bool.not_true, Bool.false_or, Bool.and_eq_true, decide_eq_true_eq] at h3
   exact ⟨hsz, by show t.vals.length ≤ 4; omega, by show t.over.length ≤ 4; omega, by simp⟩
theorem ndLen_short {x : TN} (h : shortN x) : ndLen x.nd ≤ 18 := by
 obtain ⟨h3, h4, h5, h6⟩ := h
 show 2 + (rowsOf strCells x.keys).length + (rowsOf strCells x.vals).length + (rowsOf intCells x.over).length + (rowsOf intCells x.kids).length ≤ 18
 rw [rows_len1 sc1, rows_len1 sc1, rows_len1 ic1, rows_len1 ic1]
 omega
theorem kT_short : ∀ (ts : List TN) (k : Nat), (∀ x ∈ ts, shortN x) → kT k (ts.map TN.nd) ≤ k + 18 * ts.length
 | [], k, h => by simp [kT]
 | x :: r, k, h => by
  have h2 := kT_short r (k + ndLen x.nd) (fun y hy => h y (List.mem_cons_of_mem _ hy))
  have h3 := ndLen_short (h x (List.mem_cons_self ..))
  simp only [List.map_cons, kT, List.length_cons]
  omega
theorem OwnT.nodes {w : World} {base n c : Nat} {a : Option Addr} {ts : List TN} {us : Nat → Nat → Value} (h : OwnT w base (.slice a n c) (ts.map TN.nd) us) (hn : n = ts.length) {w2 : World} {A2 B2 c2 : Nat} {a2 : Option Addr} (hS : NodesAt w2 A2 B2 a2 n c2 ts) : NodesAt w base w.heap.size a n c ts := by
 have hl : (ts.map TN.nd).length = n := by rw [List.length_map, hn]
 rcases h.row.2 with ⟨e, e2⟩ | ⟨g, cap, cur, e, hg1, hg2, h1, h2, _⟩
 ·simp only [Value.slice.injEq] at e
  obtain ⟨rfl, rfl, rfl⟩ := e
  exact ⟨hn.symm, Nat.le_refl _, by unfold maxLen; exact Nat.zero_le _, fun h0 => absurd h0 (by omega)⟩
 ·simp only [Value.slice.injEq] at e
  obtain ⟨rfl, _, rfl⟩ := e
  refine ⟨hn.symm, by omega, h2, fun h0 => ⟨g, 0, rfl, h.row.lt g rfl, fun i hi => ?_⟩⟩
  have hil : i < (ts.map TN.nd).length := by omega
  have hg : (ts.map TN.nd).getD i dN = TN.nd (ts.getD i dT) := by simp [List.getD, show i < ts.length by omega]
  have hcell := fun j hj => h.cell (i := i) (j := j) hil hj
  have hd := h.data i hil
  rw [hg] at hcell hd
  obtain ⟨b2, off2, _, _, hN⟩ := hS.2.2.2 h0
  obtain ⟨ka, kn, kc, va, vn, vc, oa, on, oc, ya, yn, yc, hT⟩ := hN i hi
  have d0 := hd 0 (by omega)
  have d1 := hd 1 (by omega)
  have d2 := hd 2 (by omega)
  have d3 := hd 3 (by omega)
  replace d0 : w.ownsRow base 9 1 (us i 0) (rowsOf strCells (ts.getD i dT).keys).length (rowsOf strCells (ts.getD i dT).keys) := d0
  replace d1 : w.ownsRow base 9 1 (us i 1) (rowsOf strCells (ts.getD i dT).vals).length (rowsOf strCells (ts.getD i dT).vals) := d1
  replace d2 : w.ownsRow base 2 1 (us i 2) (rowsOf intCells (ts.getD i dT).over).length (rowsOf intCells (ts.getD i dT).over) := d2
  replace d3 : w.ownsRow base 2 1 (us i 3) (rowsOf intCells (ts.getD i dT).kids).length (rowsOf intCells (ts.getD i dT).kids) := d3
  rw [rows_len1 sc1] at d0 d1
  rw [rows_len1 ic1] at d2 d3
  obtain ⟨a0, c0, e0, r0⟩ := RowsAt.of_owns (fit := strFit) (d := ByteArray.empty) sc1 d0 rfl (fun j hj => hT.keys.2.2.2.1 j (by rw [← hT.keys.1]; exact hj))
  obtain ⟨a1, c1, e1, r1⟩ := RowsAt.of_owns (fit := strFit) (d := ByteArray.empty) sc1 d1 rfl (fun j hj => hT.vals.2.2.2.1 j (by rw [← hT.vals.1]; exact hj))
  obtain ⟨a3, c3, e3, r3⟩ := RowsAt.of_owns (fit := I64) (d := 0) ic1 d2 rfl (fun j hj => hT.over.2.2.2.1 j (by rw [← hT.over.1]; exact hj))
  obtain ⟨a4, c4, e4, r4⟩ := RowsAt.of_owns (fit := I64) (d := 0) ic1 d3 rfl (fun j hj => hT.kids.2.2.2.1 j (by rw [← hT.kids.1]; exact hj))
  refine ⟨a0, _, c0, a1, _, c1, a3, _, c3, a4, _, c4, ?_, ?_, ?_, ?_, ?_, ?_, hT.page, r0, r1, r3, r4⟩
  ·rw [Nat.zero_add]; exact hcell 0 (by omega)
  ·rw [Nat.zero_add]; exact hcell 1 (by omega)
  ·rw [Nat.zero_add, ← e0]; exact hcell 2 (by omega)
  ·rw [Nat.zero_add, ← e1]; exact hcell 3 (by omega)
  ·rw [Nat.zero_add, ← e3]; exact hcell 4 (by omega)
  ·rw [Nat.zero_add, ← e4]; exact hcell 5 (by omega)
set_option maxHeartbeats 1000000 in
theorem eqTreeRes_same (b : Bool) (a : Option Addr) (n c : Nat) (a2 : Option Addr) (c2 : Nat) (ts : List TN) (w : World) (A B A2 B2 : Nat) (hB : B ≤ w.heap.size) (hB2 : B2 ≤ w.heap.size) (h : NodesAt w A B a n c ts) (k : NodesAt w A2 B2 a2 n c2 ts) :
  Calls Tryz.prog 9 #[.agg #[.bool b, .slice a n c], .agg #[.bool b, .slice a2 n c2]] w fun e w' => e = .returned (.bool true) ∧ Below w.heap.size w w' := by
 obtain ⟨W, hW⟩ : ∃ W, W = (w.alloc (.cells #[.bool b, .slice a n c] 30)).alloc (.cells #[.bool b, .slice a2 n c2] 30) := ⟨_, rfl⟩
 have al := alloc2N w (.cells #[.bool b, .slice a n c] 30) (.cells #[.bool b, .slice a2 n c2] 30)
 rw [← hW] at al
 obtain ⟨k0, k1, sW, bW⟩ := al
 obtain ⟨N, hN⟩ : ∃ N, w.heap.size = N := ⟨_, rfl⟩
 have hbb : (b != b) = false := by cases b <;> rfl
 have hc := eqTree_same a n c a2 c2 ts W A B A2 B2 (by omega) (by omega) (h.below (bW.mono hB)) (k.below (bW.mono hB2))
 rw [hN] at k0 k1 sW bW ⊢
 obtain ⟨p0, p1⟩ := box_twoR k0
 obtain ⟨p2, p3⟩ := box_twoR k1
 have l0 : N < W.heap.size := by omega
 have l1 : N + 1 < W.heap.size := by omega
 clear h k
 go_enter Tryz.func9, Tryz.ntmps9
 go_upto_region 1 with fail
 rw [← hW]
 clear hW
 go_wp2_with fail
 refine hc.mono ?_
 rintro e w1 ⟨rfl, hb1⟩
 have HB : Hid (Below N w w1) := bW.trans (hb1.mono (by omega))
 clear hc hb1 k0 k1 p0 p1 p2 p3
 go_wp2_with fail
 go_ret
 exact ⟨rfl, HB.out⟩
set_option maxHeartbeats 1000000 in
theorem markTreeRes_own (b : Bool) (a : Option Addr) (n c k base : Nat) (ns : List ND) (us : Nat → Nat → Value) (w : World) (h : OwnT w base (.slice a n c) ns us) (hn : n = ns.length) (hk : kT k ns ≤ 1000000000) :
  Calls Tryz.prog 12 #[.agg #[.bool b, .slice a n c], .int .i64 k] w fun e w' => e = .returned (.int .i64 ((kT k ns : Nat) : Int)) ∧ OwnT w' base (.slice a n c) (mkNs k ns) us ∧ Fr (BlkT (.slice a n c) ns.length us) w w' := by
 have hb1 : Below w.heap.size w (w.alloc (.cells #[.bool b, .slice a n c] 30)) := (Below.refl _ _).alloc (Nat.le_refl _) _
 have k0 := heap_alloc_new w (.cells #[.bool b, .slice a n c] 30)
 obtain ⟨N, hN⟩ : ∃ N, w.heap.size = N := ⟨_, rfl⟩
 replace hn : Hid (n = ns.length) := hn
 have hc := markTree_own a n c k base ns us _ (h.below hb1) hn.out hk
 go_enter Tryz.func12, Tryz.ntmps12
 go_upto_region 1 with fail
 generalize w.alloc (.cells #[.bool b, .slice a n c] 30) = W1 at hb1 k0 hc ⊢
 rw [hN] at k0
 obtain ⟨p0, p1⟩ := box_twoR k0
 have l0 := (Array.getElem?_eq_some_iff.1 k0).1
 clear h
 go_wp2_with fail
 refine hc.mono ?_
 rintro e w3 ⟨rfl, hO, hF⟩
 have HR : Hid (OwnT w3 base (.slice a n c) (mkNs k ns) us ∧ Fr (BlkT (.slice a n c) ns.length us) w w3) := ⟨hO, (Fr.of_below hb1).trans hF⟩
 clear hO hF hb1 hc p0 p1 k0
 go_wp2_with fail
 go_ret
 exact ⟨rfl, HR.out.1, HR.out.2⟩
set_option maxHeartbeats 1000000 in
theorem heldTreeRes_own (b : Bool) (a : Option Addr) (n c k base : Nat) (ns : List ND) (us : Nat → Nat → Value) (w : World) (h : OwnT w base (.slice a n c) (mkNs k ns) us) (hn : n = ns.length) (hk : kT k ns ≤ 1000000000) :
  Calls Tryz.prog 13 #[.agg #[.bool b, .slice a n c], .int .i64 k] w fun e w' => e = .returned (.int .i64 ((kT k ns : Nat) : Int)) ∧ Below w.heap.size w w' := by
 have hb1 : Below w.heap.size w (w.alloc (.cells #[.bool b, .slice a n c] 30)) := (Below.refl _ _).alloc (Nat.le_refl _) _
 have k0 := heap_alloc_new w (.cells #[.bool b, .slice a n c] 30)
 obtain ⟨N, hN⟩ : ∃ N, w.heap.size = N := ⟨_, rfl⟩
 have hd : decide (((kT k ns : Nat) : Int) < 0) = false := by simp
 replace hn : Hid (n = ns.length) := hn
 have hc := heldTree_own a n c k base ns us _ (h.below hb1) hn.out hk
 go_enter Tryz.func13, Tryz.ntmps13
 go_upto_region 1 with fail
 generalize w.alloc (.cells #[.bool b, .slice a n c] 30) = W1 at hb1 k0 hc ⊢
 rw [hN] at k0
 obtain ⟨p0, p1⟩ := box_twoR k0
 have l0 := (Array.getElem?_eq_some_iff.1 k0).1
 clear h
 go_wp2_with fail
 refine hc.mono ?_
 rintro e w3 ⟨rfl, hb3⟩
 have HR : Hid (Below w.heap.size w w3) := hb1.trans (hb3.mono hb1.size)
 clear hb3 hb1 hc p0 p1 k0
 go_wp2_with fail
 go_ret
 exact ⟨rfl, HR.out⟩
theorem ndLen_nd (x : TN) : ndLen x.nd = mLen x := by
 show 2 + (rowsOf strCells x.keys).length + (rowsOf strCells x.vals).length + (rowsOf intCells x.over).length + (rowsOf intCells x.kids).length = _
 rw [rows_len1 sc1, rows_len1 sc1, rows_len1 ic1, rows_len1 ic1]
 rfl
theorem kT_mLens : ∀ (ts : List TN) (k : Nat), kT k (ts.map TN.nd) = k + mLens ts
 | [], k => by simp [kT, mLens]
 | x :: r, k => by
  have h1 : kT k ((x :: r).map TN.nd) = kT (k + ndLen x.nd) (r.map TN.nd) := rfl
  have h2 : mLens (x :: r) = mLen x + mLens r := by simp [mLens]
  rw [h1, kT_mLens r, ndLen_nd, h2]
  omega
theorem put_kT (ts : List TN) (key val : ByteArray) (h : 1 + mLens ts ≤ 100000000) : kT 1 ((putR ts key val).2.map TN.nd) ≤ 1000000000 := by
 unfold putR
 cases ht : topT ts with
 | none => simp only []; rw [kT_mLens]; omega
 | some t =>
  simp only []
  split
  ·rename_i hc
   obtain ⟨_, _, hg, hsh, _, _, _, hk⟩ := topT_good ht
   have hok := rootP_ok (key := key) (val := val) hc.2.1 hc.1 hg hsh hk
   have h1 := kT_short ((rootP key val t).flat 0) 1 (flat_short _ ⟨true, hok.1⟩ 0)
   have h2 := flat_le (rootP key val t) 0
   have h3 := hc.2.2
   show kT 1 (((rootP key val t).flat 0).map TN.nd) ≤ _
   omega
  ·show kT 1 (ts.map TN.nd) ≤ _
   rw [kT_mLens]
   omega
theorem nodeLen_small {ts : List TN} (h : SmallT ts) : ∀ x ∈ ts, NodeLen x := fun x hx => by
 obtain ⟨j, hj, rfl⟩ := List.mem_iff_getElem.1 hx
 have := h j hj
 unfold NodeLen
 simpa [List.getD, List.getElem?_eq_getElem hj] using this
theorem smallT_ofP {ts : List TN} {n : Nat} (hl : ts.length = n) (hw : wTNs ts ≤ 1048576) : n ≤ 1048576 ∧ SmallT ts := by
 have h1 := wTNs_len ts
 refine ⟨by omega, fun j hj => ?_⟩
 have h2 := wTNs_get ts j hj
 have h3 := wStrs_len (ts.getD j dT).keys
 have h4 := wStrs_len (ts.getD j dT).vals
 unfold wTN at h2
 omega
set_option maxHeartbeats 8000000 in
theorem law_TreePut (a : Option Addr) (n c : Nat) (ts : List TN) (key val : ByteArray) (hkey : key.size ≤ maxLen) (hval : val.size ≤ maxLen) (w : World) (hT : NodesAt w 0 w.heap.size a n c ts) :
  Calls Tryz.prog 3 #[.agg #[.slice a n c], .string key, .string val] w fun e w' => e = .returned (.bool true) ∧ Below w.heap.size w w' := by
 have hb0 : Below w.heap.size w (w.alloc (.cells #[.slice a n c] 24)) := (Below.refl _ _).alloc (Nat.le_refl _) _
 unfold maxLen at hkey hval
 obtain ⟨N, hN⟩ : ∃ N, w.heap.size = N := ⟨_, rfl⟩
 have A0 := heap_alloc_new w (.cells #[.slice a n c] 24)
 have z0 : (w.alloc (.cells #[.slice a n c] 24)).heap.size = N + 1 := by simp [hN]
 rw [hN] at hb0 A0 hT ⊢
 have HT : Hid (∀ V, Below N w V → NodesAt V 0 N a n c ts) := fun V h => hT.below h
 have HL : Hid (ts.length = n) := hT.1
 clear hT
 go_enter Tryz.func3, Tryz.ntmps3
 go_upto_region 1 with fail
 generalize w.alloc (.cells #[.slice a n c] 24) = W0 at hb0 A0 z0 ⊢
 have x00 := cell_one_at A0
 have l0 : N < W0.heap.size := by omega
 by_cases t1 : 1048576 < key.size
 ·go_wp2_with fail
  go_ret
  exact ⟨rfl, hb0⟩
 by_cases t2 : 1048576 < val.size
 ·go_wp2_with fail
  go_ret
  exact ⟨rfl, hb0⟩
 have hsz := szTree_any a n c ts 1048576 W0 (by omega) (by omega) 0 N (by omega) (HT.out W0 hb0)
 go_wp2_with fail
 refine hsz.mono ?_
 rintro e w1 ⟨r, rfl, hr, hb1⟩
 have g1 := hb0.trans (hb1.mono (by omega))
 have s1 := hb1.size
 have A1 := (hb1.block N l0).trans A0
 have x10 := cell_one_at A1
 have l1 : N < w1.heap.size := by omega
 clear hsz x00 hb1 A0
 by_cases t3 : r < 0
 ·go_wp2_with fail
  go_ret
  exact ⟨rfl, g1⟩
 have hw := hr.2.2 (by omega)
 obtain ⟨hn, hall⟩ := smallT_ofP HL.out (by omega)
 have hml := mLens_le ts
 have HM1 : Hid (1 + mLens ts ≤ 100000000) := by show _ ≤ _; omega
 have HA : Hid (SmallT ts) := hall
 have HNL : Hid (∀ x ∈ ts, NodeLen x) := nodeLen_small hall
 have HKS : Hid (key.size ≤ 1048576 ∧ val.size ≤ 1048576) := ⟨by omega, by omega⟩
 have HKT : Hid (kT 1 ((putR ts key val).2.map TN.nd) ≤ 1000000000) := put_kT ts key val HM1.out
 clear hw hr hall hml
 obtain ⟨rb, hrb⟩ : ∃ rb, (putR ts key val).1 = rb := ⟨_, rfl⟩
 obtain ⟨rl, hrl⟩ : ∃ rl, (putR ts key val).2 = rl := ⟨_, rfl⟩
 have HR : Hid ((putR ts key val).1 = rb ∧ (putR ts key val).2 = rl) := ⟨hrb, hrl⟩
 rw [hrl] at HKT
 clear hrb hrl
 obtain ⟨m, hm⟩ : ∃ m, rl.length = m := ⟨_, rfl⟩
 have HM : Hid (rl.length = m) := hm
 clear hm
 have HSP : Hid (∀ (ga : Option Addr) (V : World) (A B : Nat), B ≤ V.heap.size → NodesAt V A B ga n n ts → Calls Tryz.prog 6 #[.agg #[.slice ga n n], .string key, .string val] V fun e w' => ∃ oa oc, e = .returned (.agg #[.bool rb, .slice oa m oc]) ∧ NodesAt w' V.heap.size w'.heap.size oa m oc rl ∧ Below V.heap.size V w') := fun ga V A B hB h => by
  have h1 := specPut_any ts ga n n A B V hB h hn HNL.out key val HKS.out.1 HKS.out.2
  unfold SpecTree at h1
  rw [HR.out.1, HR.out.2, HM.out] at h1
  exact h1
 have HIP : Hid (∀ (ga : Option Addr) (V : World) (A B : Nat), B ≤ V.heap.size → NodesAt V A B ga n n ts → Calls Tryz.prog 8 #[.agg #[.slice ga n n], .string key, .string val] V fun e w' => ∃ oa oc us, e = .returned (.agg #[.bool rb, .slice oa m oc]) ∧ OwnT w' V.heap.size (.slice oa m oc) (rl.map TN.nd) us ∧ Below V.heap.size V w') := fun ga V A B hB h => by
  have h1 := implPut_any ts ga n n A B V hB h hn HNL.out key val HKS.out.2
  unfold TreeAns at h1
  rw [HR.out.1, HR.out.2, HM.out] at h1
  exact h1
 clear HR
 -- w0
 have hc := toTree_any a n c ts w1 0 N (by omega) (HT.out w1 g1) hn HA.out
 go_wp2_with fail
 refine hc.mono ?_
 rintro e w2 ⟨ga, rfl, hT2, hb2⟩
 have g2 := g1.trans (hb2.mono (by omega))
 have s2 := hb2.size
 have A2 := (hb2.block N l1).trans A1
 clear hc x10
 have hc := HSP.out _ w2 _ _ (Nat.le_refl _) hT2
 clear HSP
 go_wp2_with fail
 refine hc.mono ?_
 rintro e w3 ⟨oa, oc, rfl, nA, b3⟩
 have s3 := b3.size
 have g3 := g2.trans (b3.mono (by omega))
 have A3 := (b3.block N (by omega)).trans A2
 clear hc hT2 hb2 A1 A2
 obtain ⟨Z, hZ⟩ : ∃ Z, w3.heap.size = Z := ⟨_, rfl⟩
 have b4 : Below w3.heap.size w3 (w3.alloc (.cells #[.bool rb, .slice oa m oc] 30)) := (Below.refl _ _).alloc (Nat.le_refl _) _
 have Z4 := heap_alloc_new w3 (.cells #[.bool rb, .slice oa m oc] 30)
 have z4 : (w3.alloc (.cells #[.bool rb, .slice oa m oc] 30)).heap.size = Z + 1 := by rw [← hZ]; simp
 go_upto_region 10 with fail
 generalize w3.alloc (.cells #[.bool rb, .slice oa m oc] 30) = W4 at b4 Z4 z4 ⊢
 rw [hZ] at b4 Z4 nA
 have NA4 : Hid (NodesAt W4 w2.heap.size Z oa m oc rl) := nA.below b4
 have g4 := g3.trans (b4.mono (by omega))
 have A4 := (b4.block N (by omega)).trans A3
 have hZ1 : w2.heap.size ≤ Z := by omega
 clear nA b3 b4 A3
 -- x0
 have x40 := cell_one_at A4
 have l4 : N < W4.heap.size := by omega
 have hc := toTree_mark a n c ts W4 0 N (by omega) (HT.out W4 g4) hn HA.out
 go_wp2_with fail
 refine hc.mono ?_
 rintro e w5 ⟨gx, rfl, hT5, hb5, mk5⟩
 have s5 := hb5.size
 have A5 := (hb5.block N l4).trans A4
 have Z5 := (hb5.block Z (by omega)).trans Z4
 have NA5 : Hid (NodesAt w5 w2.heap.size Z oa m oc rl) := NA4.out.below (hb5.mono (by omega))
 have g5 := g4.trans (hb5.mono (by omega))
 have MU5 := mk5.u
 clear hc x40 A4 Z4 NA4 hb5 mk5
 obtain ⟨X, hX⟩ : ∃ X, w5.heap.size = X := ⟨_, rfl⟩
 have b6 : Below w5.heap.size w5 (w5.alloc (.cells #[.slice (some ⟨gx, 0, none⟩) n n] 28)) := (Below.refl _ _).alloc (Nat.le_refl _) _
 have X6 := heap_alloc_new w5 (.cells #[.slice (some ⟨gx, 0, none⟩) n n] 28)
 have z6 : (w5.alloc (.cells #[.slice (some ⟨gx, 0, none⟩) n n] 28)).heap.size = X + 1 := by rw [← hX]; simp
 have MU6 := MU5.below b6 (Nat.le_refl _)
 have XT6 := hT5.below b6
 go_upto_region 11 with fail
 generalize w5.alloc (.cells #[.slice (some ⟨gx, 0, none⟩) n n] 28) = W6 at b6 X6 z6 MU6 XT6 ⊢
 have A6 := (b6.block N (by omega)).trans A5
 have Z6 := (b6.block Z (by omega)).trans Z5
 have NA6 : Hid (NodesAt W6 w2.heap.size Z oa m oc rl) := NA5.out.below (b6.mono (by omega))
 have g6 := g5.trans (b6.mono (by omega))
 rw [hX] at X6 MU6 XT6
 have MU : Hid (MarkU W6 W4.heap.size X gx n ts) := MU6
 have XT : Hid (NodesAt W6 W4.heap.size X (some ⟨gx, 0, none⟩) n n ts) := XT6
 have hX1 : W4.heap.size ≤ X := by omega
 clear MU5 MU6 XT6 hT5 A5 Z5 NA5 b6
 -- g0
 have x60 := cell_one_at X6
 have l6 : X < W6.heap.size := by omega
 have hc := HIP.out _ W6 _ _ (by omega) XT.out
 go_wp2_with fail
 refine hc.mono ?_
 rintro e w7 ⟨ia, ic, us, rfl, oT, b7⟩
 have s7 := b7.size
 have A7 := (b7.block N (by omega)).trans A6
 have Z7 := (b7.block Z (by omega)).trans Z6
 have X7 := (b7.block X l6).trans X6
 have NA7 : Hid (NodesAt w7 w2.heap.size Z oa m oc rl) := NA6.out.below (b7.mono (by omega))
 have MU7 : Hid (MarkU w7 W4.heap.size X gx n ts) := MU.out.below b7 (by omega)
 have XT7 : Hid (NodesAt w7 W4.heap.size X (some ⟨gx, 0, none⟩) n n ts) := XT.out.below (b7.mono (by omega))
 have g7 := g6.trans (b7.mono (by omega))
 clear hc x60 A6 Z6 X6 NA6 MU XT b7
 obtain ⟨Y, hY⟩ : ∃ Y, w7.heap.size = Y := ⟨_, rfl⟩
 have HBK : Hid (∀ q, BlkT (.slice ia m ic) (rl.map TN.nd).length us q → W6.heap.size ≤ q ∧ q < Y) := fun q hq => by have := oT.blk hq; omega
 have b8 : Below w7.heap.size w7 (w7.alloc (.cells #[.bool rb, .slice ia m ic] 30)) := (Below.refl _ _).alloc (Nat.le_refl _) _
 have Y8 := heap_alloc_new w7 (.cells #[.bool rb, .slice ia m ic] 30)
 have z8 : (w7.alloc (.cells #[.bool rb, .slice ia m ic] 30)).heap.size = Y + 1 := by rw [← hY]; simp
 have oT8 := oT.below b8
 go_upto_region 12 with fail
 generalize w7.alloc (.cells #[.bool rb, .slice ia m ic] 30) = W8 at b8 Y8 z8 oT8 ⊢
 have A8 := (b8.block N (by omega)).trans A7
 have Z8 := (b8.block Z (by omega)).trans Z7
 have X8 := (b8.block X (by omega)).trans X7
 have NA8 : Hid (NodesAt W8 w2.heap.size Z oa m oc rl) := NA7.out.below (b8.mono (by omega))
 have MU8 : Hid (MarkU W8 W4.heap.size X gx n ts) := MU7.out.below b8 (by omega)
 have XT8 : Hid (NodesAt W8 W4.heap.size X (some ⟨gx, 0, none⟩) n n ts) := XT7.out.below (b8.mono (by omega))
 have g8 := g7.trans (b8.mono (by omega))
 rw [hY] at Y8
 have IN8 : Hid (NodesAt W8 W6.heap.size W8.heap.size ia m ic rl) := oT8.nodes HM.out.symm NA8.out
 have OT8 : Hid (OwnT W8 W6.heap.size (.slice ia m ic) (rl.map TN.nd) us) := oT8
 have hY1 : W6.heap.size ≤ Y := by omega
 clear oT oT8 A7 Z7 X7 NA7 MU7 XT7 b8
 -- eqTreeRes(g0, w0)
 obtain ⟨p0, p1⟩ := box_twoR Z8
 obtain ⟨p2, p3⟩ := box_twoR Y8
 have lZ8 : Z < W8.heap.size := by omega
 have lY8 : Y < W8.heap.size := by omega
 have hc := eqTreeRes_same rb ia m ic oa oc rl W8 W6.heap.size W8.heap.size w2.heap.size Z (Nat.le_refl _) (by omega) IN8.out NA8.out
 go_wp2_with fail
 refine hc.mono ?_
 rintro e w9 ⟨rfl, b9⟩
 have s9 := b9.size
 have A9 := (b9.block N (by omega)).trans A8
 have Z9 := (b9.block Z (by omega)).trans Z8
 have X9 := (b9.block X (by omega)).trans X8
 have Y9 := (b9.block Y (by omega)).trans Y8
 have NA9 : Hid (NodesAt w9 w2.heap.size Z oa m oc rl) := NA8.out.below (b9.mono (by omega))
 have MU9 : Hid (MarkU w9 W4.heap.size X gx n ts) := MU8.out.below b9 (by omega)
 have XT9 : Hid (NodesAt w9 W4.heap.size X (some ⟨gx, 0, none⟩) n n ts) := XT8.out.below (b9.mono (by omega))
 have IN9 : Hid (NodesAt w9 W6.heap.size W8.heap.size ia m ic rl) := IN8.out.below b9
 have OT9 : Hid (OwnT w9 W6.heap.size (.slice ia m ic) (rl.map TN.nd) us) := OT8.out.below b9
 have g9 := g8.trans (b9.mono (by omega))
 clear hc p0 p1 p2 p3 A8 Z8 X8 Y8 NA8 MU8 XT8 IN8 OT8 b9
 -- eqTree(x0, toTree(aT))
 have hTd : Hid (NodesAt w9.drew 0 N a n c ts) := HT.out w9.drew g9.drew
 have XTd : Hid (NodesAt w9.drew W4.heap.size X (some ⟨gx, 0, none⟩) n n ts) := XT9.out.below (Below.refl _ _).drew
 go_upto_region 14 with fail
 have lN9 : N < w9.heap.size := by omega
 have lX9 : X < w9.heap.size := by omega
 refine wp_region_noPanic ?_
 refine wp_region_held_drew (S := (fun w' : World => w'.heap[N]? = some (.cells #[.slice a n c] 24) ∧ w'.heap[X]? = some (.cells #[.slice (some ⟨gx, 0, none⟩) n n] 28))) (by kernel_rfl) (⟨A9, X9⟩) (fun hHeld => ?_)
 refine tkB (i := 0) (v := .agg #[.slice (some ⟨gx, 0, none⟩) n n]) .z (by kernel_rfl) (fun _ _ _ h => h) (Or.inl ⟨by rfl, ?_⟩) (by assumption) ?_
 ·intro wq hSw; (try dsimp only at hSw); have y0 := cell_one_at hSw.2; go_simp
 try simp only [Act.put, q1, q2, q3]
 refine tkB (i := 1) (v := .agg #[.slice a n c]) (.s .z) (by kernel_rfl) (fun _ _ _ h => h) (Or.inl ⟨by rfl, ?_⟩) (by assumption) ?_
 ·intro wq hSw; (try dsimp only at hSw); have y0 := cell_one_at hSw.1; go_simp
 try simp only [Act.put, q1, q2, q3]
 have hc := toTree_any a n c ts w9.drew 0 N (by show N ≤ w9.heap.size; omega) hTd.out hn HA.out
 refine wpAnyH_ready (rs := [2]) (by kernel_rfl) (by simp) ?_
 refine rdA (.s (.s .z)) (fun K hK => ?_) AllReadyH.nil
 go_simp
 refine (hc).mono ?_
 rintro e wa ⟨ge, rfl, hT10, hb10⟩
 have bb10 : Below w9.heap.size w9 wa := ((Below.refl _ w9).drew).trans hb10
 go_wp2_with fail
 refine hK.out _ _ (⟨(bb10.block N lN9).trans A9, (bb10.block X lX9).trans X9⟩) (fun hHeld => ?_)
 clear hK K
 try simp only [Act.put, q1, q2, q3]
 have sa := bb10.size
 have h9d : w9.drew.heap.size = w9.heap.size := rfl
 have hc2 := eqTree_same (some ⟨gx, 0, none⟩) n n (some ⟨ge, 0, none⟩) n ts wa W4.heap.size X w9.drew.heap.size wa.heap.size (by omega) (Nat.le_refl _) (XTd.out.below (hb10.mono (by omega))) hT10
 refine wpAnyH_ready (rs := [3]) (by kernel_rfl) (by simp) ?_
 refine rdA (.s (.s (.s .z))) (fun K hK => ?_) AllReadyH.nil
 go_simp
 refine (hc2).mono ?_
 rintro e wb ⟨rfl, hbb⟩
 have bbb : Below w9.heap.size w9 wb := bb10.trans (hbb.mono sa)
 go_wp2_with fail
 refine hK.out _ _ (⟨(bbb.block N lN9).trans A9, (bbb.block X lX9).trans X9⟩) (fun hHeld => ?_)
 clear hK K
 try simp only [Act.put, q1, q2, q3]
 refine tkB (i := 4) (v := .bool false) (.s (.s (.s (.s .z)))) (by kernel_rfl) (fun _ _ _ h => h) (Or.inl ⟨by rfl, ?_⟩) (by assumption) ?_
 ·intro wq hSw; (try dsimp only at hSw); go_simp
 try simp only [Act.put, q1, q2, q3]
 refine wpAnyH_done (by kernel_rfl) ?_ _
 refine NoPanic.normal ?_
 clear hHeld hc hc2 hT10 hb10 bbb h9d sa
 have b9b : Below w9.heap.size w9 wb := (bb10.trans (hbb.mono bb10.size))
 have sb := b9b.size
 have AB := (b9b.block N (by omega)).trans A9
 have ZB := (b9b.block Z (by omega)).trans Z9
 have XB := (b9b.block X (by omega)).trans X9
 have YB := (b9b.block Y (by omega)).trans Y9
 have NAB : Hid (NodesAt wb w2.heap.size Z oa m oc rl) := NA9.out.below (b9b.mono (by omega))
 have MUB : Hid (MarkU wb W4.heap.size X gx n ts) := MU9.out.below b9b (by omega)
 have INB : Hid (NodesAt wb W6.heap.size W8.heap.size ia m ic rl) := IN9.out.below (b9b.mono (by omega))
 have OTB : Hid (OwnT wb W6.heap.size (.slice ia m ic) (rl.map TN.nd) us) := OT9.out.below b9b
 have gb := g9.trans (b9b.mono (by omega))
 clear A9 Z9 X9 Y9 NA9 MU9 IN9 OT9 XT9 b9b bb10 hbb hTd XTd
 -- markTree(x0, 1)
 have xb0 := cell_one_at XB
 have lXB : X < wb.heap.size := by omega
 have hc := markTree_room gx n 1 W4.heap.size X ts wb MUB.out (by omega) HM1.out
 obtain ⟨km, hkm⟩ : ∃ km, 1 + mLens ts = km := ⟨_, rfl⟩
 rw [hkm] at hc
 have hd0 : decide (((km : Nat) : Int) < 0) = false := by simp
 clear hkm
 go_wp2_with fail
 refine hc.mono ?_
 rintro e wc ⟨rfl, hmk⟩
 have fc := hmk.fr
 have sc := fc.size
 have AC := (fc.block N (by omega) (by omega)).trans AB
 have ZC := (fc.block Z (by omega) (by omega)).trans ZB
 have YC := (fc.block Y (by omega) (by omega)).trans YB
 have NAC : Hid (NodesAt wc w2.heap.size Z oa m oc rl) := NAB.out.keep (fun q h1 h2 => fc.block q (by omega) (by omega))
 have INC : Hid (NodesAt wc W6.heap.size W8.heap.size ia m ic rl) := INB.out.keep (fun q h1 h2 => fc.block q (by omega) (by omega))
 have OTC : Hid (OwnT wc W6.heap.size (.slice ia m ic) (rl.map TN.nd) us) := OTB.out.fr fc (fun q hq h => by have := HBK.out q hq; omega)
 have gc := gb.trans (fc.below (by omega) (fun g e => by omega))
 clear hc xb0 AB ZB XB YB NAB MUB INB OTB hmk fc
 -- eqTreeRes(g0, w0)
 obtain ⟨p0, p1⟩ := box_twoR ZC
 obtain ⟨p2, p3⟩ := box_twoR YC
 have lZC : Z < wc.heap.size := by omega
 have lYC : Y < wc.heap.size := by omega
 have hc := eqTreeRes_same rb ia m ic oa oc rl wc W6.heap.size W8.heap.size w2.heap.size Z (by omega) (by omega) INC.out NAC.out
 go_wp2_with fail
 refine hc.mono ?_
 rintro e wd ⟨rfl, bd⟩
 have sd := bd.size
 have AD := (bd.block N (by omega)).trans AC
 have ZD := (bd.block Z (by omega)).trans ZC
 have YD := (bd.block Y (by omega)).trans YC
 have NAD : Hid (NodesAt wd w2.heap.size Z oa m oc rl) := NAC.out.below (bd.mono (by omega))
 have OTD : Hid (OwnT wd W6.heap.size (.slice ia m ic) (rl.map TN.nd) us) := OTC.out.below bd
 have gd := gc.trans (bd.mono (by omega))
 clear hc p0 p1 p2 p3 AC ZC YC NAC INC OTC bd
 -- markTreeRes
 obtain ⟨p2, p3⟩ := box_twoR YD
 have lYD : Y < wd.heap.size := by omega
 have hml : m = (rl.map TN.nd).length := by rw [List.length_map, HM.out]
 have HML : Hid (m = (rl.map TN.nd).length) := hml
 have hc := markTreeRes_own rb ia m ic 1 W6.heap.size _ us wd OTD.out hml HKT.out
 obtain ⟨K, hK⟩ : ∃ K, kT 1 (rl.map TN.nd) = K := ⟨_, rfl⟩
 have HK : Hid (kT 1 (rl.map TN.nd) = K) := hK
 have hK1 : K ≤ 1000000000 := by rw [← hK]; exact HKT.out
 rw [hK] at hc
 clear hK hml
 go_wp2_with fail
 refine hc.mono ?_
 rintro e we ⟨rfl, oE, fe⟩
 have se := fe.size
 have hnb : ∀ q, q < W6.heap.size ∨ q = Y → ¬ BlkT (.slice ia m ic) (rl.map TN.nd).length us q := fun q h hq => by have := HBK.out q hq; omega
 have ge := gd.trans (fe.below (by omega) (fun x e => by have := HBK.out x e; omega))
 have AE := (fe.block N (by omega) (hnb N (.inl (by omega)))).trans AD
 have ZE := (fe.block Z (by omega) (hnb Z (.inl (by omega)))).trans ZD
 have YE := (fe.block Y (by omega) (hnb Y (.inr rfl))).trans YD
 have NAE : Hid (NodesAt we w2.heap.size Z oa m oc rl) := NAD.out.keep (fun q h1 h2 => fe.block q (by omega) (hnb q (.inl (by omega))))
 clear hc p2 p3 AD ZD YD NAD OTD fe hnb
 -- heldTreeRes
 obtain ⟨p2, p3⟩ := box_twoR YE
 have lYE : Y < we.heap.size := by omega
 have hc := heldTreeRes_own rb ia m ic 1 W6.heap.size _ us we oE HML.out HKT.out
 rw [HK.out] at hc
 clear oE
 go_wp2_with fail
 refine hc.mono ?_
 rintro e wf ⟨rfl, bf⟩
 have sf := bf.size
 have gf := ge.trans (bf.mono (by omega))
 have AF := (bf.block N (by omega)).trans AE
 have ZF := (bf.block Z (by omega)).trans ZE
 have NAF : Hid (NodesAt wf w2.heap.size Z oa m oc rl) := NAE.out.below (bf.mono (by omega))
 clear hc p2 p3 AE ZE YE NAE bf
 have hnn : ((K : Int) != (K : Int)) = false := by simp
 -- h0
 have xf0 := cell_one_at AF
 have lF : N < wf.heap.size := by omega
 have hc := toTree_any a n c ts wf 0 N (by omega) (HT.out wf gf) hn HA.out
 go_wp2_with fail
 refine hc.mono ?_
 rintro e wg ⟨gh, rfl, hTg, bg⟩
 have sg := bg.size
 have gg := gf.trans (bg.mono (by omega))
 have ZG := (bg.block Z (by omega)).trans ZF
 have NAG : Hid (NodesAt wg w2.heap.size Z oa m oc rl) := NAF.out.below (bg.mono (by omega))
 clear hc xf0 AF ZF NAF bg
 have hc := HIP.out _ wg _ _ (Nat.le_refl _) hTg
 clear hTg
 go_wp2_with fail
 refine hc.mono ?_
 rintro e wh ⟨ha, hcp, us2, rfl, oH, bh⟩
 have sh := bh.size
 have gh' := gg.trans (bh.mono (by omega))
 have ZH := (bh.block Z (by omega)).trans ZG
 have NAH : Hid (NodesAt wh w2.heap.size Z oa m oc rl) := NAG.out.below (bh.mono (by omega))
 clear hc ZG NAG bh
 have bi : Below wh.heap.size wh (wh.alloc (.cells #[.bool rb, .slice ha m hcp] 30)) := (Below.refl _ _).alloc (Nat.le_refl _) _
 have H7 := heap_alloc_new wh (.cells #[.bool rb, .slice ha m hcp] 30)
 have oI := oH.below bi
 have si := bi.size
 go_upto_region 29 with fail
 generalize wh.alloc (.cells #[.bool rb, .slice ha m hcp] 30) = WI at bi H7 oI si ⊢
 have gi := gh'.trans (bi.mono (by omega))
 have ZI := (bi.block Z (by omega)).trans ZH
 have NAI : Hid (NodesAt WI w2.heap.size Z oa m oc rl) := NAH.out.below (bi.mono (by omega))
 have INI : Hid (NodesAt WI wg.heap.size WI.heap.size ha m hcp rl) := oI.nodes HM.out.symm NAI.out
 have lH := (Array.getElem?_eq_some_iff.1 H7).1
 obtain ⟨p0, p1⟩ := box_twoR ZI
 obtain ⟨p2, p3⟩ := box_twoR H7
 have lZI : Z < WI.heap.size := by omega
 clear oH oI NAH ZH bi
 have hc := eqTreeRes_same rb ha m hcp oa oc rl WI wg.heap.size WI.heap.size w2.heap.size Z (Nat.le_refl _) (by omega) INI.out NAI.out
 go_wp2_with fail
 refine hc.mono ?_
 rintro e wj ⟨rfl, bj⟩
 have gj : Hid (Below N w wj) := gi.trans (bj.mono (by omega))
 clear hc bj
 go_wp2_with fail
 go_ret
 exact ⟨rfl, gj.out⟩
open Go.RowKit Go.Deep Go.ChangeShapes Go.WideShapes Go.ChangeAt
section
variable {H : Type} {enc : TypeId × Value → H} {w : World} {spare : Nat → Bool} {held : Bool}
theorem tcStr : Tryz.prog.cellsOf 9 = 1 := by kernel_rfl
theorem tcI64 : Tryz.prog.cellsOf 2 = 1 := by kernel_rfl
theorem tcBool : Tryz.prog.cellsOf 4 = 1 := by kernel_rfl
theorem tcStrs : Tryz.prog.cellsOf 44 = 1 := by kernel_rfl
theorem tcInts : Tryz.prog.cellsOf 45 = 1 := by kernel_rfl
theorem tcNode : Tryz.prog.cellsOf 80 = 6 := by kernel_rfl
theorem tcNodes : Tryz.prog.cellsOf 22 = 1 := by kernel_rfl
theorem tcTree : Tryz.prog.cellsOf 24 = 1 := by kernel_rfl
theorem addr_ofT {a : Addr} {v : Value} (h : w.cell? a = some v) : ∃ b off, a = ⟨b, off, none⟩ ∧ b < w.heap.size := by
 obtain ⟨b, off, spot⟩ := a
 have hspot : spot = none := World.cell?_spot h
 subst hspot
 exact ⟨b, off, rfl, lt_of_cell h⟩
theorem getD_rangeT {α : Type} (F : Nat → α) (n i : Nat) (d : α) (h : i < n) : ((List.range n).map F).getD i d = F i := by
 simp [List.getD, h]
theorem str_openT {fuel : Nat} {cs : List Value} {x : DataW H × List MemPlace} (h : DataW.trod enc Tryz.prog w 0 spare held fuel 9 cs = some x) : ∃ s : ByteArray, strFit s ∧ cs = strCells s := by
 obtain ⟨s, e0, _, hs⟩ := DataW.trod_string Tryz.underlying9 h
 exact ⟨s, hs, e0⟩
theorem int_openT {fuel : Nat} {cs : List Value} {x : DataW H × List MemPlace} (h : DataW.trod enc Tryz.prog w 0 spare held fuel 2 cs = some x) : ∃ q : Int, I64 q ∧ cs = intCells q := by
 obtain ⟨q, e1, _, hq⟩ := DataW.trod_int Tryz.underlying2 h
 exact ⟨q, bounds_i64 hq, e1⟩
theorem strs_openT {fuel : Nat} {cs : List Value} {x : DataW H × List MemPlace} (h : DataW.trod enc Tryz.prog w 0 spare held fuel 44 cs = some x) : ∃ a n c fs, cs = [.slice a n c] ∧ StrsAt w 0 w.heap.size a n c fs := by
 rcases open_slice Tryz.underlying44 h with ⟨rfl, _⟩ | ⟨a, len, cap, m, k, D, Pl, rfl, _, hl, hm, hmm, _, he⟩
 ·exact ⟨none, 0, 0, [], rfl, rfl, Nat.le_refl _, Nat.zero_le _, fun i hi => absurd hi (Nat.not_lt_zero _), fun h => absurd h (Nat.lt_irrefl _)⟩
 ·have hml : len ≤ m := by rw [hmm]; split <;> omega
  by_cases h0 : len = 0
  ·subst h0
   exact ⟨some a, 0, cap, [], rfl, rfl, hl, hm, fun i hi => absurd hi (Nat.not_lt_zero _), fun h => absurd h (Nat.lt_irrefl _)⟩
  ·rw [tcStr] at he
   obtain ⟨cs0, hc0, _⟩ := he 0 (by omega)
   obtain ⟨_, hl0, hg0⟩ := World.cells?_some hc0
   have h00 := hg0 0 (by omega)
   rw [List.getElem?_eq_getElem (by omega)] at h00
   obtain ⟨b, off, rfl, hlt⟩ : ∃ b off, a = ⟨b, off, none⟩ ∧ b < w.heap.size := addr_ofT (by simpa [Addr.add] using h00)
   have hadd : ∀ k, (⟨b, off, none⟩ : Addr).add k = ⟨b, off + k, none⟩ := fun k => by simp [Addr.add]
   obtain ⟨F, hF⟩ := choose_lt (α := ByteArray) (n := len) (p := fun i f => strFit f ∧ ∀ j, j < 1 → w.cell? ⟨b, off + i * 1 + j, none⟩ = (strCells f)[j]?) (fun i hi => by
    obtain ⟨cs', hc', ht⟩ := he i (by omega)
    obtain ⟨_, hl', hg'⟩ := World.cells?_some hc'
    obtain ⟨f, hf, rfl⟩ := str_openT ht
    refine ⟨f, hf, fun j hj => ?_⟩
    have := hg' j hj
    rwa [hadd, show (⟨b, off + i * 1, none⟩ : Addr).add j = ⟨b, off + i * 1 + j, none⟩ by simp [Addr.add]] at this)
   refine ⟨some ⟨b, off, none⟩, len, cap, (List.range len).map F, rfl, by simp, hl, hm, fun i hi => ?_, fun _ => ⟨b, off, rfl, ⟨Nat.zero_le _, hlt⟩, fun i hi j hj => ?_⟩⟩
   ·rw [getD_rangeT _ _ _ _ hi]; exact (hF i hi).1
   ·rw [getD_rangeT _ _ _ _ hi]; exact (hF i hi).2 j hj
theorem ints_openT {fuel : Nat} {cs : List Value} {x : DataW H × List MemPlace} (h : DataW.trod enc Tryz.prog w 0 spare held fuel 45 cs = some x) : ∃ a n c fs, cs = [.slice a n c] ∧ IntsAt w 0 w.heap.size a n c fs := by
 rcases open_slice Tryz.underlying45 h with ⟨rfl, _⟩ | ⟨a, len, cap, m, k, D, Pl, rfl, _, hl, hm, hmm, _, he⟩
 ·exact ⟨none, 0, 0, [], rfl, rfl, Nat.le_refl _, Nat.zero_le _, fun i hi => absurd hi (Nat.not_lt_zero _), fun h => absurd h (Nat.lt_irrefl _)⟩
 ·have hml : len ≤ m := by rw [hmm]; split <;> omega
  by_cases h0 : len = 0
  ·subst h0
   exact ⟨some a, 0, cap, [], rfl, rfl, hl, hm, fun i hi => absurd hi (Nat.not_lt_zero _), fun h => absurd h (Nat.lt_irrefl _)⟩
  ·rw [tcI64] at he
   obtain ⟨cs0, hc0, _⟩ := he 0 (by omega)
   obtain ⟨_, hl0, hg0⟩ := World.cells?_some hc0
   have h00 := hg0 0 (by omega)
   rw [List.getElem?_eq_getElem (by omega)] at h00
   obtain ⟨b, off, rfl, hlt⟩ : ∃ b off, a = ⟨b, off, none⟩ ∧ b < w.heap.size := addr_ofT (by simpa [Addr.add] using h00)
   have hadd : ∀ k, (⟨b, off, none⟩ : Addr).add k = ⟨b, off + k, none⟩ := fun k => by simp [Addr.add]
   obtain ⟨F, hF⟩ := choose_lt (α := Int) (n := len) (p := fun i f => I64 f ∧ ∀ j, j < 1 → w.cell? ⟨b, off + i * 1 + j, none⟩ = (intCells f)[j]?) (fun i hi => by
    obtain ⟨cs', hc', ht⟩ := he i (by omega)
    obtain ⟨_, hl', hg'⟩ := World.cells?_some hc'
    obtain ⟨f, hf, rfl⟩ := int_openT ht
    refine ⟨f, hf, fun j hj => ?_⟩
    have := hg' j hj
    rwa [hadd, show (⟨b, off + i * 1, none⟩ : Addr).add j = ⟨b, off + i * 1 + j, none⟩ by simp [Addr.add]] at this)
   refine ⟨some ⟨b, off, none⟩, len, cap, (List.range len).map F, rfl, by simp, hl, hm, fun i hi => ?_, fun _ => ⟨b, off, rfl, ⟨Nat.zero_le _, hlt⟩, fun i hi j hj => ?_⟩⟩
   ·rw [getD_rangeT _ _ _ _ hi]; exact (hF i hi).1
   ·rw [getD_rangeT _ _ _ _ hi]; exact (hF i hi).2 j hj
structure TNodeOp (w : World) (t : TN) (cs : List Value) (ka : Option Addr) (kn kc : Nat) (va : Option Addr) (vn vc : Nat) (oa : Option Addr) (on oc : Nat) (ya : Option Addr) (yn yc : Nat) : Prop where
 cs : cs = [.bool t.leaf, .int .i64 t.page, .slice ka kn kc, .slice va vn vc, .slice oa on oc, .slice ya yn yc]
 page : I64 t.page
 keys : StrsAt w 0 w.heap.size ka kn kc t.keys
 vals : StrsAt w 0 w.heap.size va vn vc t.vals
 over : IntsAt w 0 w.heap.size oa on oc t.over
 kids : IntsAt w 0 w.heap.size ya yn yc t.kids
theorem node_openT {fuel : Nat} {cs : List Value} {x : DataW H × List MemPlace} (h : DataW.trod enc Tryz.prog w 0 spare held fuel 80 cs = some x) : ∃ t ka kn kc va vn vc oa on oc ya yn yc, TNodeOp w t cs ka kn kc va vn vc oa on oc ya yn yc := by
 obtain ⟨xs, n, _, _, hl, hlen, hf⟩ := DataW.trod_struct Tryz.underlying80 h
 rw [tcNode] at hl
 match cs, hl with
 | [v0, v1, v2, v3, v4, v5], _ =>
  match xs, hlen with
  | [y0, y1, y2, y3, y4, y5], _ =>
   have h0 : DataW.trod enc Tryz.prog w 0 spare held n 4 [v0] = some y0 := by simpa [tcBool] using hf 0 _ rfl
   have h1 : DataW.trod enc Tryz.prog w 0 spare held n 2 [v1] = some y1 := by simpa [tcBool, tcI64] using hf 1 _ rfl
   have h2 : DataW.trod enc Tryz.prog w 0 spare held n 44 [v2] = some y2 := by simpa [tcBool, tcI64, tcStrs] using hf 2 _ rfl
   have h3 : DataW.trod enc Tryz.prog w 0 spare held n 44 [v3] = some y3 := by simpa [tcBool, tcI64, tcStrs] using hf 3 _ rfl
   have h4 : DataW.trod enc Tryz.prog w 0 spare held n 45 [v4] = some y4 := by simpa [tcBool, tcI64, tcStrs, tcInts] using hf 4 _ rfl
   have h5 : DataW.trod enc Tryz.prog w 0 spare held n 45 [v5] = some y5 := by simpa [tcBool, tcI64, tcStrs, tcInts] using hf 5 _ rfl
   obtain ⟨lf, e0, _⟩ := DataW.trod_bool Tryz.underlying4 h0
   obtain ⟨pg, hp, e1⟩ := int_openT h1
   obtain ⟨ka, kn, kc, ks, e2, hK⟩ := strs_openT h2
   obtain ⟨va, vn, vc, vs, e3, hV⟩ := strs_openT h3
   obtain ⟨oa, on, oc, os, e4, hO⟩ := ints_openT h4
   obtain ⟨ya, yn, yc, ys, e5, hY⟩ := ints_openT h5
   unfold intCells at e1
   simp only [List.cons.injEq, and_true] at e0 e1 e2 e3 e4 e5
   subst e0 e1 e2 e3 e4 e5
   exact ⟨⟨lf, pg, ks, vs, os, ys⟩, ka, kn, kc, va, vn, vc, oa, on, oc, ya, yn, yc, rfl, hp, hK, hV, hO, hY⟩
theorem nodes_openT {fuel : Nat} {cs : List Value} {x : DataW H × List MemPlace} (h : DataW.trod enc Tryz.prog w 0 spare held fuel 22 cs = some x) : ∃ a n c ts, cs = [.slice a n c] ∧ NodesAt w 0 w.heap.size a n c ts := by
 rcases open_slice Tryz.underlying22 h with ⟨rfl, _⟩ | ⟨a, len, cap, m, k, D, Pl, rfl, _, hl, hm, hmm, _, he⟩
 ·exact ⟨none, 0, 0, [], rfl, rfl, Nat.le_refl _, Nat.zero_le _, fun h => absurd h (Nat.lt_irrefl _)⟩
 ·have hml : len ≤ m := by rw [hmm]; split <;> omega
  by_cases h0 : len = 0
  ·subst h0
   exact ⟨some a, 0, cap, [], rfl, rfl, hl, hm, fun h => absurd h (Nat.lt_irrefl _)⟩
  ·rw [tcNode] at he
   obtain ⟨cs0, hc0, _⟩ := he 0 (by omega)
   obtain ⟨_, hl0, hg0⟩ := World.cells?_some hc0
   have h00 := hg0 0 (by omega)
   rw [List.getElem?_eq_getElem (by omega)] at h00
   obtain ⟨b, off, rfl, hlt⟩ : ∃ b off, a = ⟨b, off, none⟩ ∧ b < w.heap.size := addr_ofT (by simpa [Addr.add] using h00)
   have hadd : ∀ k, (⟨b, off, none⟩ : Addr).add k = ⟨b, off + k, none⟩ := fun k => by simp [Addr.add]
   have hinh : Inhabited TN := ⟨dT⟩
   obtain ⟨F, hF⟩ := choose_lt (α := TN) (n := len) (p := fun i t => ∃ ka kn kc va vn vc oa on oc ya yn yc, TNodeIs w 0 w.heap.size b (off + i * 6) t ka kn kc va vn vc oa on oc ya yn yc) (fun i hi => by
    obtain ⟨cs', hc', ht⟩ := he i (by omega)
    obtain ⟨_, hl', hg'⟩ := World.cells?_some hc'
    obtain ⟨t, ka, kn, kc, va, vn, vc, oa, on, oc, ya, yn, yc, hop⟩ := node_openT ht
    refine ⟨t, ka, kn, kc, va, vn, vc, oa, on, oc, ya, yn, yc, ?_⟩
    have hcell : ∀ j, j < 6 → w.cell? ⟨b, off + i * 6 + j, none⟩ = cs'[j]? := fun j hj => by
     have := hg' j hj
     rwa [hadd, show (⟨b, off + i * 6, none⟩ : Addr).add j = ⟨b, off + i * 6 + j, none⟩ by simp [Addr.add]] at this
    rw [hop.cs] at hcell
    exact ⟨by simpa using hcell 0 (by omega), by simpa using hcell 1 (by omega), by simpa using hcell 2 (by omega), by simpa using hcell 3 (by omega), by simpa using hcell 4 (by omega), by simpa using hcell 5 (by omega), hop.page, hop.keys, hop.vals, hop.over, hop.kids⟩)
   refine ⟨some ⟨b, off, none⟩, len, cap, (List.range len).map F, rfl, by simp, hl, hm, fun _ => ⟨b, off, rfl, ⟨Nat.zero_le _, hlt⟩, fun i hi => ?_⟩⟩
   rw [getD_rangeT _ _ _ _ hi]
   exact hF i hi
theorem tree_open {r : Reach} {b0 : Nat} {v : Value} {d : DataW H} {p : List MemPlace} (hv : Value.okWide Tryz.prog w r b0 24 v) (h : DataW.Trod enc Tryz.prog w 0 spare held 24 v d p) :
  ∃ (a : Option Addr) (n c : Nat) (ts : List TN), v = .agg #[.slice a n c] ∧ NodesAt w 0 w.heap.size a n c ts := by
 obtain ⟨cs, rfl, hsz⟩ := okWide_struct Tryz.underlying24 hv
 obtain ⟨l⟩ := cs
 rw [tcTree] at hsz
 obtain ⟨fuel, hf⟩ := h
 match l, hsz with
 | [v0], _ =>
  obtain ⟨xs, n, _, _, hl, hlen, hff⟩ := DataW.trod_struct Tryz.underlying24 hf
  match xs, hlen with
  | [y0], _ =>
   have h0 : DataW.trod enc Tryz.prog w 0 spare held n 22 [v0] = some y0 := by simpa [Value.cells, tcNodes] using hff 0 _ rfl
   obtain ⟨a, n3, c, ts, e3, hN⟩ := nodes_openT h0
   simp only [List.cons.injEq, and_true] at e3
   subst e3
   exact ⟨a, n3, c, ts, rfl, hN⟩
end
end Go.Proofs.YtbgbokgomheodaaGreat
