import Derived.Test.YtpmagndofiaooaaTtc
import Derived.Deep.DeepCutAuto
import Derived.Deep.RegionHeld3
namespace Go.Proofs.Ytpmagndofiaooaa
open Go.RowKit
set_option linter.unusedVariables false
set_option linter.unusedSimpArgs false
set_option maxRecDepth 100000

/-- append to a list of one's own, as one step of a region that draws, and where the answer lies. -/
theorem step_append_Y {P : Program} {ops : Array Oper} {o : Oper} {a : Act} {w : World} {K : Act → World → Prop} {Q : Exit → Act → World → Prop} {E : Prop}
    (hgd : o.guard = none) (s x : Operand) (t : TypeId) (ho : o.op = .call { callee := .builtin .append, args := #[s, x], argTypes := #[t, t] })
    (base : Nat) (e : TypeId) (i : TypeInfo) (z : Value) (size bytes : Nat) (ht : P.underlying t = some (.slice e)) (hi : P.info? e = some i) (hz : i.zero = some z)
    (hsize : i.size = size) (hby : i.bytes = bytes) (hzs : z.cells.size = size) (hsz : 0 < size)
    (v : Value) (n : Nat) (xs : List Value) (hs : a.eval s = v) (hown : w.ownsRow base e size v n xs)
    (ad : Addr) (m c : Nat) (news : List Value) (hx : a.eval x = .slice (some ad) m c) (hl : news.length = m * size) (hnews : ∀ j u, news[j]? = some u → w.cell? (ad.add j) = some u) (h1 : ∀ u ∈ news, u.oneCell' = true)
    (h63 : n + m ≤ maxLen) (hbytes : (n + m) * bytes ≤ 140737488355328) (hbase : base ≤ w.heap.size)
    (h : ∀ v' w', w'.ownsRow base e size v' (n + m) (xs ++ news) → w.grownBy w' v.ownBlock → (v'.ownBlock = v.ownBlock ∨ ∀ g, v'.ownBlock = some g → w.heap.size ≤ g) → K (a.put o.dst v') w') :
    if Region.wanted o (yielded ops a.tmps) = true then Oper.wp P o a w K Q else E := by
  rw [if_pos (by simp [Region.wanted, hgd])]
  obtain ⟨v', w', hr, h2, h3, h4⟩ := run_append_ownD (P := P) w base t o.type e i z size bytes ht hi hz hsize hby hzs hsz v n xs hown ad m c news hl hnews h1 h63 hbytes hbase
  unfold Oper.wp execOp
  simp only [ho, resolve, invoke, builtin, Sem.run_bind, Sem.run_pure, Result.andThen_ok, List.map_toArray, List.map_cons, List.map_nil, hs, hx, hr]
  exact h v' w' h2 h3 h4
theorem getD_head (ns : List ND) (x : ND) (r : List ND) : (ns ++ x :: r).getD ns.length dN = x := by simp [List.getD]
theorem set_head (ns : List ND) (x y : ND) (r : List ND) : (ns ++ x :: r).set ns.length y = ns ++ y :: r := by simp
theorem nd_keys (l : Bool) (p : Int) (K V : List ByteArray) (O Y : List Int) (s : ByteArray) : (⟨(TN.nd ⟨l, p, K, V, O, Y⟩).leaf, (TN.nd ⟨l, p, K, V, O, Y⟩).page, fun r => if r = 0 then rowsOf strCells K ++ [.string s] else (TN.nd ⟨l, p, K, V, O, Y⟩).l r⟩ : ND) = TN.nd ⟨l, p, K ++ [s], V, O, Y⟩ := by
  unfold TN.nd
  congr 1
  funext r
  by_cases r0 : r = 0
  · subst r0; simp [rowsOf, strCells]
  · simp [r0]
theorem nd_kids (l : Bool) (p : Int) (K V : List ByteArray) (O Y : List Int) (s : Int) : (⟨(TN.nd ⟨l, p, K, V, O, Y⟩).leaf, (TN.nd ⟨l, p, K, V, O, Y⟩).page, fun r => if r = 3 then rowsOf intCells Y ++ [.int .i64 s] else (TN.nd ⟨l, p, K, V, O, Y⟩).l r⟩ : ND) = TN.nd ⟨l, p, K, V, O, Y ++ [s]⟩ := by
  unfold TN.nd
  congr 1
  funext r
  by_cases r3 : r = 3
  · subst r3; simp [rowsOf, intCells]
  · simp [r3]
/-- The list that is told, with its inner node at place on. -/
def InSt (base : Nat) (w' wr : World) (on g m oc : Nat) (ns : List ND) (h : TN) (R : List TN) (us : Nat → Nat → Value) : Prop :=
  OwnT wr base (.slice (some ⟨g, 0, none⟩) m oc) (ns ++ TN.nd h :: R.map TN.nd) us ∧ on = ns.length ∧ m = on + 1 + R.length ∧ Fr (fun k => base ≤ k) w' wr ∧ base ≤ wr.heap.size
theorem InSt.list {base on g m oc : Nat} {w' wr : World} {ns : List ND} {h : TN} {R : List TN} {us : Nat → Nat → Value} (hI : InSt base w' wr on g m oc ns h R us) (q : Nat) (hq : q < 4) : wr.ownsRow base (ety q) 1 (us on q) ((TN.nd h).l q).length ((TN.nd h).l q) ∧ wr.cell? ⟨g, on * 6 + (2 + q), none⟩ = some (us on q) ∧ g < wr.heap.size ∧ (∀ j, wr.frozen? ⟨g, j, none⟩ = false) := by
  obtain ⟨hO, rfl, hm, _, _⟩ := hI
  have hj : ns.length < (ns ++ TN.nd h :: R.map TN.nd).length := by simp
  have h1 := hO.data ns.length hj q hq
  rw [getD_head] at h1
  refine ⟨h1, ?_, (hO.row.lt g rfl).2, fun j => hO.thaw j⟩
  rw [hO.cell hj (by omega), getD_head]
  have : q = 0 ∨ q = 1 ∨ q = 2 ∨ q = 3 := by omega
  rcases this with rfl | rfl | rfl | rfl <;> rfl
theorem InSt.below {base on g m oc : Nat} {w' wr wr2 : World} {ns : List ND} {h : TN} {R : List TN} {us : Nat → Nat → Value} (hI : InSt base w' wr on g m oc ns h R us) (hb : Below wr.heap.size wr wr2) : InSt base w' wr2 on g m oc ns h R us :=
  ⟨hI.1.below hb, hI.2.1, hI.2.2.1, hI.2.2.2.1.trans (Fr.of_below hb), Nat.le_trans hI.2.2.2.2 hb.size⟩
/-- A key, or a number, more in the inner node. -/
theorem InSt.app {base on g m oc q : Nat} {w' wr w2 : World} {ns : List ND} {h h' : TN} {R : List TN} {us : Nat → Nat → Value} (hI : InSt base w' wr on g m oc ns h R us) (hq : q < 4) {v' : Value} {zs : List Value} (hr : w2.ownsRow base (ety q) 1 v' zs.length zs) (hgr : wr.grownBy w2 (us on q).ownBlock) (hat : v'.ownBlock = (us on q).ownBlock ∨ ∀ b, v'.ownBlock = some b → wr.heap.size ≤ b)
    (he : (⟨(TN.nd h).leaf, (TN.nd h).page, fun r => if r = q then zs else (TN.nd h).l r⟩ : ND) = TN.nd h') : ∃ us', InSt base w' (w2.setCell ⟨g, on * 6 + 2 + q, none⟩ v') on g m oc ns h' R us' := by
  obtain ⟨hO, rfl, hm, hF, hB⟩ := hI
  have hj : ns.length < (ns ++ TN.nd h :: R.map TN.nd).length := by simp
  have hd := hO.data ns.length hj q hq
  obtain ⟨h1, h2⟩ := hO.app hj hq hr hgr hat
  rw [getD_head, set_head, he] at h1
  have hgb := (hO.row.lt g rfl).1
  have hF2 : Fr (fun k => base ≤ k) wr (w2.setCell ⟨g, ns.length * 6 + 2 + q, none⟩ v') := h2.weak (fun b e => by
    rcases e with rfl | e
    · exact hgb
    · exact (hd.lt b e).1)
  exact ⟨_, h1, rfl, hm, hF.trans hF2, Nat.le_trans hB hF2.size⟩
theorem nd_len0 (h : TN) : ((TN.nd h).l 0).length = h.keys.length := by show (rowsOf strCells h.keys).length = _; rw [rows_len1 sc1]
theorem nd_len3 (h : TN) : ((TN.nd h).l 3).length = h.kids.length := by show (rowsOf intCells h.kids).length = _; rw [rows_len1 ic1]
theorem stI_zero (t : T) (on : Nat) : hdI t on 0 = ⟨false, t.page, [], [], [], []⟩ := by simp [hdI, startsN]
set_option maxHeartbeats 16000000 in
theorem innerTell_g {base : Nat} {w : World} {P : Nat → Prop} {t : T} {L : Nat} {a : Option Addr} {n c : Nat} {ls : Nat → Value} (h : GInner w P t L a n c ls) (hl : t.leaf = false) (hw : t.whole = true) (hP : ∀ b, P b → b < base) (hk : ∀ i k, t.kids[i]? = some k → ∃ ty v, ls i = .iface ty v ∧ TellObs base w k ty v) (w' : World) (hb : Below base w w') (oa : Option Addr) (on oc : Nat) (ns : List ND) (us : Nat → Nat → Value) (hO : OwnT w' base (.slice oa on oc) ns us) (hon : on = ns.length) (hm : on + t.nodes ≤ 10000000) (hbs : base ≤ w'.heap.size) :
    Calls Try.prog 120 #[.pointer (some ⟨L, 0, none⟩), .slice oa on oc] w' fun e w2 => TellAns base t w' on ns e w2 := by
  have hLb := hP L h.at'
  have hbox : w'.heap[L]? = some (.cells #[.int .i64 t.page, .slice a n c] 101) := (hb.block L hLb).trans h.box
  obtain ⟨c0, c1⟩ := box_twoG hbox
  have hlt : L < w'.heap.size := by omega
  have HN : Hid (n = t.kids.length) := h.len.1
  have hn63 := Nat.le_trans h.len.2.1 h.len.2.2
  unfold maxLen at hn63
  have HWB : Hid (∀ wr, Fr (fun k => base ≤ k) w' wr → Below base w wr) := fun wr hf => hb.trans (hf.below hbs (fun g e => e))
  have HROW : Hid (∀ wr, Fr (fun k => base ≤ k) w' wr → ∀ i, i < n → ∃ b, a = some ⟨b, 0, none⟩ ∧ b < wr.heap.size ∧ wr.cell? ⟨b, i, none⟩ = some (ls i)) := fun wr hf i hi => by
    obtain ⟨b, e, hpb, hc⟩ := h.row (by omega)
    have hbb := hP b hpb
    have hcell : wr.cell? ⟨b, i, none⟩ = some (ls i) := by
      rw [World.cell?_of_block (w := w) (a := ⟨b, i, none⟩) ((HWB.out wr hf).block b hbb)]
      exact hc i hi
    exact ⟨b, e, lt_of_cellG hcell, hcell⟩
  have HK : Hid (∀ i k, t.kids[i]? = some k → ∃ ty v, ls i = .iface ty v ∧ TellObs base w k ty v) := hk
  have HLE : Hid (∀ wr, Fr (fun k => base ≤ k) w' wr → ∀ i k ty v, t.kids[i]? = some k → ls i = .iface ty v → Obs wr ty v "loop.example/s02098/impl.least" (.string k.low)) := fun wr hf i k ty v hi hu => by
    have hkm := List.mem_of_getElem? hi
    have hG := GIs.keep (fun b hb2 => (HWB.out wr hf).block b (hP b hb2)) (fun b h => h) k _ (h.kid i k hkm hi)
    rw [hu] at hG
    obtain ⟨q1, q2⟩ := (T.whole_inner hw hl).2 k hkm
    exact GIs.least k ty v q2 q1 hG
  have HFL : Hid (∀ q ∈ t.kids, ∀ s, (q.flat s).length = q.nodes) := fun q hq s => T.flat_len q ((T.whole_inner hw hl).2 q hq).2 s
  have HALL : Hid (stI t on n = t.flat on ∧ 1 + mI t n = t.nodes) := by
    refine ⟨by rw [h.len.1]; exact stI_all on hl, ?_⟩
    rw [T.nodes_eq, mI, h.len.1, List.take_length]
  have HML : Hid (∀ k, 1 + mI t k ≤ t.nodes) := mI_le t
  obtain ⟨i0, hi0, hz0, hz1, hz2⟩ := info_parts info_string
  obtain ⟨i1, hi1, hy0, hy1, hy2⟩ := info_parts info_int64
  obtain ⟨i2, hi2, hx0, hx1, hx2⟩ := info_parts info_TNodeT
  have HON : Hid (on = ns.length) := hon
  have HO : Hid (OwnT w' base (.slice oa on oc) ns us) := hO
  have hmn : on + 1 ≤ 10000000 := by have := mI_le t 0; omega
  have HMB : Hid (on + t.nodes ≤ 10000000) := hm
  have hrow : w'.ownsRow base 92 6 (.slice oa on oc) on (rowsC (fun i => hdC (ns.getD i dN) (us i)) ns.length) := by
    obtain ⟨R, hR⟩ : ∃ R, R = rowsC (fun i => hdC (ns.getD i dN) (us i)) ns.length := ⟨_, rfl⟩
    have h9 := hO.row
    rw [← hR] at h9 ⊢
    rwa [← hon] at h9
  clear h hbox hb hk hw hO hon hm
  obtain ⟨pg, hpg⟩ : ∃ pg, pg = t.page := ⟨_, rfl⟩
  have HPG : Hid (pg = t.page) := hpg
  rw [← hpg] at c0
  clear hpg
  have hcells := cell_six_new w' (.bool false) (.int .i64 pg) (.slice none 0 0) (.slice none 0 0) (.slice none 0 0) (.slice none 0 0) 92
  have hba : Below w'.heap.size w' (w'.alloc (.cells #[.bool false, .int .i64 pg, .slice none 0 0, .slice none 0 0, .slice none 0 0, .slice none 0 0] 92)) := (Below.refl _ _).alloc (Nat.le_refl _) _
  have HLT : Hid (L < base) := hLb
  go_enter Try.func120, Try.ntmps120
  go_upto_region 3 with (at_builtin; refine wpList_append_ownD _ rfl _ _ 24 rfl base 92 i2 _ 6 112 Try.underlying24 hi2 hx0 hx1 hx2 rfl (by decide) _ _ _ rfl (hrow.alloc _) ⟨w'.heap.size, 0, none⟩ 1 1 [.bool false, .int .i64 pg, .slice none 0 0, .slice none 0 0, .slice none 0 0, .slice none 0 0] rfl rfl hcells (by simp [Value.oneCell']) (by unfold maxLen; omega) (by omega) (by simp; omega) ?_; intro v' w1 hown' hgr' hat'; obtain ⟨g1, e1, rfl⟩ := rowSuccT hown')
  have HI0 : Hid (∃ us', InSt base w' w1 on g1 (on + 1) e1 ns (hdI t on 0) [] us') := by
    have hOP := OwnT.push (nd := TN.nd (hdI t on 0)) (u := fun _ => .slice none 0 0) (M := w'.heap.size) (v' := .slice (some ⟨g1, 0, none⟩) (on + 1) e1) HO.out (fun g hg => (HO.out.blk hg).2) hbs (Fr.of_below hba) (fun r hr => by
      rw [stI_zero]
      have : r = 0 ∨ r = 1 ∨ r = 2 ∨ r = 3 := by omega
      rcases this with rfl | rfl | rfl | rfl <;> exact World.ownsRow_nil _ _ _ _) (fun r s _ _ _ g hg => by simp [Value.ownBlock] at hg) (by
      rw [stI_zero, show hdC (TN.nd ⟨false, t.page, [], [], [], []⟩) (fun _ => .slice none 0 0) = [.bool false, .int .i64 pg, .slice none 0 0, .slice none 0 0, .slice none 0 0, .slice none 0 0] by rw [HPG.out]; rfl, show ns.length + 1 = on + 1 by have := HON.out; omega]
      exact hown') hgr'
    refine ⟨_, hOP, HON.out, by simp, (Fr.of_below hba).trans (Fr.of_grown hgr' (fun q e => (HO.out.row.lt q e).1)), ?_⟩
    have := hba.size; have := hgr'.size; omega
  have d1 : w1.cell? ⟨L, 1, none⟩ = some (.slice a n c) := by
    have h1 := hba.cell (p := ⟨L, 1, none⟩) hlt
    rw [World.cell?_of_block (w := w'.alloc (.cells #[.bool false, .int .i64 pg, .slice none 0 0, .slice none 0 0, .slice none 0 0, .slice none 0 0] 92)) (a := ⟨L, 1, none⟩) (hgr'.block L (by simp; omega) (fun e => by have := (HO.out.row.lt L e.symm).1; omega)), h1]
    exact c1
  have hlt1 : L < w1.heap.size := by have := hba.size; have := hgr'.size; omega
  clear hown' hgr' hat' hcells hrow hba c0 c1 HO HPG
  go_wp2_with fail
  go_loopw [1, 6, 7, 24] (fun o _ _ i wr => ∃ (k g m e : Nat), k ≤ n ∧ i = .int .i64 k ∧ o = .slice (some ⟨g, 0, none⟩) m e ∧ Hid (∃ us', InSt base w' wr on g m e ns (hdI t on k) (offs (on + 1) ((t.kids.take k).map T.flat)) us')) (fun _ _ _ i _ => n - (intOf i).toNat)
  case atStart => exact ⟨0, g1, on + 1, e1, Nat.zero_le _, rfl, rfl, HI0⟩
  case round =>
    clear HI0 d1 hlt1
    obtain ⟨k, g, m, e, hk, rfl, rfl, HX⟩ := hrel
    obtain ⟨us1, HX1⟩ := HX.out
    clear HX
    have HI : Hid (InSt base w' wr on g m e ns (hdI t on k) (offs (on + 1) ((t.kids.take k).map T.flat)) us1) := HX1
    have HRL : Hid ((offs (on + 1) ((t.kids.take k).map T.flat)).length = mI t k) := offsT_len _ _ (fun q hq => HFL.out q (List.mem_of_mem_take hq))
    have hme : m = on + 1 + mI t k := by rw [HX1.2.2.1, HRL.out]
    have HME : Hid (m = on + 1 + mI t k) := hme
    have hmb : m ≤ 10000000 := by have := HML.out k; have := HMB.out; omega
    have hom : on < m := by omega
    clear HX1 hme
    by_cases hltn : k < n
    · obtain ⟨q, hq⟩ : ∃ q, t.kids[k]? = some q := ⟨_, List.getElem?_eq_getElem (by have := HN.out; omega)⟩
      have HQ : Hid (t.kids[k]? = some q) := hq
      obtain ⟨b, rfl, hbl, hcell⟩ := HROW.out wr HI.out.2.2.2.1 k hltn
      obtain ⟨ty, v, hu, HTO⟩ := HK.out k q hq
      rw [hu] at hcell
      have HUV : Hid (ls k = .iface ty v) := hu
      replace HTO : Hid (TellObs base w q ty v) := HTO
      clear hq hu
      go_upto_region 6 with fail
      clear hcell hbl
      go_upto_if 30 with fail
      go_cut [1, 6, 7] (fun o i kv wx => o = .slice (some ⟨g, 0, none⟩) m e ∧ i = .int .i64 k ∧ kv = .iface ty v ∧ ∃ us', Hid (InSt base w' wx on g m e ns ⟨false, t.page, (hdI t on k).keys ++ (if 0 < k then [q.low] else []), [], [], (hdI t on k).kids⟩ (offs (on + 1) ((t.kids.take k).map T.flat)) us'))
      case first =>
        by_cases h0 : 0 < k
        · have hd0 : decide ((0 : Int) < (k : Int)) = true := by simp; omega
          obtain ⟨hrw, hcl, hgl, hfz⟩ := HI.out.list 0 (by omega)
          rw [nd_len0] at hrw
          obtain ⟨ka, kc, hus⟩ := ownT_shape hrw
          rw [hus] at hrw hcl
          obtain ⟨kn, hkn⟩ : ∃ kn, kn = (hdI t on k).keys.length := ⟨_, rfl⟩
          rw [← hkn] at hrw hcl
          have hknb : kn ≤ 100000000 := by
            rw [hkn]
            have : (hdI t on k).keys.length ≤ k := by
              unfold hdI; simp only [List.length_map, List.length_tail, List.length_take]; omega
            have h2 : k ≤ mI t n := by
              have h3 : ∀ (l : List T), l.length ≤ (l.map T.nodes).sum := by
                intro l
                induction l with
                | nil => simp
                | cons x r ih => simp only [List.map_cons, List.sum_cons, List.length_cons]; rw [T.nodes_eq]; omega
              have h4 := h3 (t.kids.take n)
              unfold mI
              have h5 : (t.kids.take n).length = n := by rw [List.length_take]; have := HN.out; omega
              omega
            have := HALL.out.2; have := HMB.out
            omega
          have HKN : Hid (kn = (hdI t on k).keys.length) := hkn
          have HUS : Hid (us1 on 0 = .slice ka kn kc) := by rw [hkn]; exact hus
          replace hrw : wr.ownsRow base 9 1 (.slice ka kn kc) kn (rowsOf strCells (hdI t on k).keys) := hrw
          clear hkn hus
          obtain ⟨ha, f, r, hmt, hcf, hcall⟩ := HLE.out wr.drew (HI.out.2.2.2.1.trans (Fr.of_below (Below.refl _ _).drew)) k q ty v HQ.out HUV.out
          obtain ⟨low, hlow⟩ : ∃ low, low = q.low := ⟨_, rfl⟩
          rw [← hlow] at hcall
          have HLW : Hid (low = q.low) := hlow
          clear hlow
          go_wp2_with fail
          obtain ⟨V, hV⟩ : ∃ V, V = wr.drew := ⟨_, rfl⟩
          have HV : Hid (V = wr.drew) := hV
          have hVb : Below wr.heap.size wr V := by rw [hV]; exact (Below.refl _ _).drew
          have IV := HI.out.below hVb
          have hrwV := owns_below hrw hVb
          have hclV : V.cell? ⟨g, on * 6 + 2, none⟩ = some (.slice ka kn kc) := (hVb.cell (p := ⟨g, on * 6 + 2, none⟩) hgl).trans hcl
          have hglV : g < V.heap.size := Nat.lt_of_lt_of_le hgl hVb.size
          have hcallV : Calls Try.prog f #[r] V fun e w' => e = .returned (.string low) ∧ Below V.heap.size V w' := by
            rw [hV]
            refine hcall.mono ?_
            rintro e w9 ⟨rfl, rfl⟩
            exact ⟨rfl, Below.refl _ _⟩
          clear hcall hcl hgl hfz hrw hV
          refine wp_region_noPanic ?_
          refine wp_region_held_drew (S := (fun _ : World => True)) (by kernel_rfl) (trivial) (fun hHeld => ?_)
          rw [← HV.out]
          refine wpAnyH_take (i := 0) (oi := { dst := some 31, op := Op.move (Operand.tmp 1), type := 24, pos := "l3_tree.go:484", after := #[], guard := none }) (v := .slice (some ⟨g, 0, none⟩) m e) rfl (by kernel_rfl) (by kernel_rfl) (by kernel_rfl) (fun _ _ _ h => h) (Or.inl ⟨by rfl, ?_⟩) (by assumption) ?_
          · intro wq hSw; (try dsimp only at hSw); go_simp
          try simp only [Act.put, List.setIfInBounds_toArray, List.set_cons_zero, List.set_cons_succ]
          refine wpAnyH_take (i := 1) (oi := { dst := some 32, op := Op.move (Operand.tmp 5), type := 3, pos := "l3_tree.go:484", after := #[], guard := none }) (v := .int .i64 on) rfl (by kernel_rfl) (by kernel_rfl) (by kernel_rfl) (fun _ _ _ h => h) (Or.inl ⟨by rfl, ?_⟩) (by assumption) ?_
          · intro wq hSw; (try dsimp only at hSw); go_simp
          try simp only [Act.put, List.setIfInBounds_toArray, List.set_cons_zero, List.set_cons_succ]
          refine wpAnyH_take (i := 2) (oi := { dst := some 33, op := Op.move (Operand.tmp 1), type := 24, pos := "l3_tree.go:484", after := #[], guard := none }) (v := .slice (some ⟨g, 0, none⟩) m e) rfl (by kernel_rfl) (by kernel_rfl) (by kernel_rfl) (fun _ _ _ h => h) (Or.inl ⟨by rfl, ?_⟩) (by assumption) ?_
          · intro wq hSw; (try dsimp only at hSw); go_simp
          try simp only [Act.put, List.setIfInBounds_toArray, List.set_cons_zero, List.set_cons_succ]
          refine wpAnyH_take (i := 3) (oi := { dst := some 34, op := Op.move (Operand.tmp 5), type := 3, pos := "l3_tree.go:484", after := #[], guard := none }) (v := .int .i64 on) rfl (by kernel_rfl) (by kernel_rfl) (by kernel_rfl) (fun _ _ _ h => h) (Or.inl ⟨by rfl, ?_⟩) (by assumption) ?_
          · intro wq hSw; (try dsimp only at hSw); go_simp
          try simp only [Act.put, List.setIfInBounds_toArray, List.set_cons_zero, List.set_cons_succ]
          refine wpAnyH_take (i := 4) (oi := { dst := some 35, op := Op.indexAddr 24 (Operand.tmp 33) (Operand.tmp 34), type := 0, pos := "l3_tree.go:484", after := #[{ on := 2, ground := Ground.data }, { on := 3, ground := Ground.data }], guard := none }) (v := .pointer (some ⟨g, on * 6, none⟩)) rfl (by kernel_rfl) (by kernel_rfl) (by kernel_rfl) (fun _ _ _ h => h) (Or.inl ⟨by rfl, ?_⟩) (by assumption) ?_
          · intro wq hSw; (try dsimp only at hSw); go_simp; (try (intro hx; exfalso; omega))
          try simp only [Act.put, List.setIfInBounds_toArray, List.set_cons_zero, List.set_cons_succ]
          refine wpAnyH_take (i := 5) (oi := { dst := some 36, op := Op.fieldAddr 92 (Operand.tmp 35) 2, type := 0, pos := "l3_tree.go:484", after := #[{ on := 4, ground := Ground.data }], guard := none }) (v := .pointer (some ⟨g, on * 6 + 2, none⟩)) rfl (by kernel_rfl) (by kernel_rfl) (by kernel_rfl) (fun _ _ _ h => h) (Or.inl ⟨by rfl, ?_⟩) (by assumption) ?_
          · intro wq hSw; (try dsimp only at hSw); go_simp
          try simp only [Act.put, List.setIfInBounds_toArray, List.set_cons_zero, List.set_cons_succ]
          refine wpAnyH_take (i := 7) (oi := { dst := some 38, op := Op.move (Operand.tmp 7), type := 70, pos := "l3_tree.go:484", after := #[], guard := none }) (v := .iface ty v) rfl (by kernel_rfl) (by kernel_rfl) (by kernel_rfl) (fun _ _ _ h => h) (Or.inl ⟨by rfl, ?_⟩) (by assumption) ?_
          · intro wq hSw; (try dsimp only at hSw); go_simp
          try simp only [Act.put, List.setIfInBounds_toArray, List.set_cons_zero, List.set_cons_succ]
          refine wpAnyH_ready (rs := [6, 8]) (by kernel_rfl) (by simp) ?_
          refine AllReadyH.cons (o := { dst := some 37, op := Op.load 58 (Operand.tmp 36), type := 58, pos := "l3_tree.go:484", after := #[{ on := 5, ground := Ground.data }], guard := none }) rfl (fun K hK => ?_) ?_
          rotate_left 1
          refine AllReadyH.cons (o := { dst := some 39, op := Op.call { callee := Callee.invoke (Operand.tmp 38) "loop.example/s02098/impl.least", args := #[], argTypes := #[] }, type := 9, pos := "l3_tree.go:484", after := #[{ on := 7, ground := Ground.data }], guard := none }) rfl (fun K hK => ?_) ?_
          rotate_left 1
          exact AllReadyH.nil
          · go_simp
            refine hK.out _ _ (trivial) (fun hHeld => ?_)
            clear hK K
            try simp only [Act.put, List.setIfInBounds_toArray, List.set_cons_zero, List.set_cons_succ]
            refine wpAnyH_ready (rs := [8]) (by kernel_rfl) (by simp) ?_
            refine AllReadyH.cons (o := { dst := some 39, op := Op.call { callee := Callee.invoke (Operand.tmp 38) "loop.example/s02098/impl.least", args := #[], argTypes := #[] }, type := 9, pos := "l3_tree.go:484", after := #[{ on := 7, ground := Ground.data }], guard := none }) rfl (fun K hK => ?_) AllReadyH.nil
            go_simp
            refine hcallV.mono ?_
            rintro e w5 ⟨rfl, hb5⟩
            have I5 := IV.below hb5
            have rw5 := owns_below hrwV hb5
            have cl5 : w5.cell? ⟨g, on * 6 + 2, none⟩ = some (.slice ka kn kc) := (hb5.cell (p := ⟨g, on * 6 + 2, none⟩) hglV).trans hclV
            have gl5 : g < w5.heap.size := Nat.lt_of_lt_of_le hglV hb5.size
            go_wp2_with fail
            refine hK.out _ _ (trivial) (fun hHeld => ?_)
            clear hK K
            try simp only [Act.put, List.setIfInBounds_toArray, List.set_cons_zero, List.set_cons_succ]
            refine wpAnyH_ready (rs := [9]) (by kernel_rfl) (by simp) ?_
            refine AllReadyH.cons (o := { dst := some 40, op := Op.buildSlice 58 1 #[(0, Operand.tmp 39)], type := 58, pos := "l3_tree.go:484", after := #[{ on := 8, ground := Ground.data }], guard := none }) rfl (fun K hK => ?_) AllReadyH.nil
            go_simp
            have hb6 : Below w5.heap.size w5 (w5.alloc (.cells #[.string low] 9)) := (Below.refl _ _).alloc (Nat.le_refl _) _
            have I6 := I5.below hb6
            have rw6 := owns_below rw5 hb6
            have cl6 : (w5.alloc (.cells #[.string low] 9)).cell? ⟨g, on * 6 + 2, none⟩ = some (.slice ka kn kc) := (hb6.cell (p := ⟨g, on * 6 + 2, none⟩) gl5).trans cl5
            have gl6 : g < (w5.alloc (.cells #[.string low] 9)).heap.size := Nat.lt_of_lt_of_le gl5 hb6.size
            refine hK.out _ _ (trivial) (fun hHeld => ?_)
            clear hK K
            try simp only [Act.put, List.setIfInBounds_toArray, List.set_cons_zero, List.set_cons_succ]
            refine wpAnyH_ready (rs := [10]) (by kernel_rfl) (by simp) ?_
            refine AllReadyH.cons (o := { dst := some 41, op := Op.call { callee := Callee.builtin Builtin.append, args := #[Operand.tmp 37, Operand.tmp 40], argTypes := #[58, 58] }, type := 58, pos := "l3_tree.go:484", after := #[{ on := 6, ground := Ground.data }, { on := 9, ground := Ground.data }, { on := 8, ground := Ground.chain }], guard := none }) rfl (fun K hK => ?_) AllReadyH.nil
            refine step_append_Y rfl _ _ 58 rfl base 9 i0 _ 1 16 Try.underlying58 hi0 hz0 hz1 hz2 rfl (by decide) (.slice ka kn kc) kn (rowsOf strCells (hdI t on k).keys) (by simp [Act.eval]) rw6 ⟨w5.heap.size, 0, none⟩ 1 1 [.string low] (by simp [Act.eval]) rfl (cell_one_new _ _ _) (by simp [Value.oneCell']) (by unfold maxLen; omega) (by omega) I6.2.2.2.2 ?_
            intro u7 w7 hown7 hgr7 hat7
            obtain ⟨g7, e7, rfl⟩ := rowSuccT hown7
            have IA : ∃ us', InSt base w' (w7.setCell ⟨g, on * 6 + 2 + 0, none⟩ (.slice (some ⟨g7, 0, none⟩) (kn + 1) e7)) on g m e ns ⟨false, t.page, (hdI t on k).keys ++ [low], [], [], (hdI t on k).kids⟩ (offs (on + 1) ((t.kids.take k).map T.flat)) us' :=
              I6.app (q := 0) (zs := rowsOf strCells (hdI t on k).keys ++ [.string low]) (by omega) (by rw [List.length_append, rows_len1 sc1, ← HKN.out]; exact hown7) (by rw [HUS.out]; exact hgr7) (by rw [HUS.out]; exact hat7) (nd_keys _ _ _ _ _ _ _)
            have F7 : Fr (fun b => (Value.slice ka kn kc).ownBlock = some b) (w5.alloc (.cells #[.string low] 9)) w7 := Fr.of_grown hgr7 (fun b e => e)
            have hgne : ¬ (Value.slice ka kn kc).ownBlock = some g := fun e => own_neT I6.1.row (r := 0) rw6 g e rfl
            have cl7 : w7.cell? ⟨g, on * 6 + 2, none⟩ = some (.slice ka kn kc) := (World.cell?_of_block (w := w5.alloc (.cells #[.string low] 9)) (a := ⟨g, on * 6 + 2, none⟩) (F7.block g gl6 hgne)).trans cl6
            have fz7 : w7.frozen? ⟨g, on * 6 + 2, none⟩ = false := by
              have h9 := I6.1.thaw (on * 6 + 2)
              unfold World.frozen? at h9 ⊢
              rw [show w7.heap[g]? = _ from F7.block g gl6 hgne]
              exact h9
            have gl7 : g < w7.heap.size := Nat.lt_of_lt_of_le gl6 F7.size
            rw [HLW.out] at IA
            have HIA : Hid (∃ us', InSt base w' (w7.setCell ⟨g, on * 6 + 2, none⟩ (.slice (some ⟨g7, 0, none⟩) (kn + 1) e7)) on g m e ns ⟨false, t.page, (hdI t on k).keys ++ (if 0 < k then [q.low] else []), [], [], (hdI t on k).kids⟩ (offs (on + 1) ((t.kids.take k).map T.flat)) us') := by rw [if_pos h0]; exact IA
            clear IA
            refine hK.out _ _ (trivial) (fun hHeld => ?_)
            clear hK K
            try simp only [Act.put, List.setIfInBounds_toArray, List.set_cons_zero, List.set_cons_succ]
            refine wpAnyH_take (i := 11) (oi := { dst := some 42, op := Op.indexAddr 24 (Operand.tmp 31) (Operand.tmp 32), type := 0, pos := "l3_tree.go:484", after := #[{ on := 0, ground := Ground.data }, { on := 1, ground := Ground.data }, { on := 0, ground := Ground.phase }, { on := 1, ground := Ground.phase }, { on := 2, ground := Ground.phase }, { on := 3, ground := Ground.phase }, { on := 4, ground := Ground.phase }, { on := 5, ground := Ground.phase }, { on := 6, ground := Ground.phase }, { on := 7, ground := Ground.phase }, { on := 8, ground := Ground.phase }, { on := 9, ground := Ground.phase }, { on := 10, ground := Ground.phase }], guard := none }) (v := .pointer (some ⟨g, on * 6, none⟩)) rfl (by kernel_rfl) (by kernel_rfl) (by kernel_rfl) (fun _ _ _ h => h) (Or.inl ⟨by rfl, ?_⟩) (by assumption) ?_
            · intro wq hSw; (try dsimp only at hSw); go_simp; (try (intro hx; exfalso; omega))
            try simp only [Act.put, List.setIfInBounds_toArray, List.set_cons_zero, List.set_cons_succ]
            refine wpAnyH_take (i := 12) (oi := { dst := some 43, op := Op.fieldAddr 92 (Operand.tmp 42) 2, type := 0, pos := "l3_tree.go:484", after := #[{ on := 11, ground := Ground.data }, { on := 0, ground := Ground.phase }, { on := 1, ground := Ground.phase }, { on := 2, ground := Ground.phase }, { on := 3, ground := Ground.phase }, { on := 4, ground := Ground.phase }, { on := 5, ground := Ground.phase }, { on := 6, ground := Ground.phase }, { on := 7, ground := Ground.phase }, { on := 8, ground := Ground.phase }, { on := 9, ground := Ground.phase }, { on := 10, ground := Ground.phase }], guard := none }) (v := .pointer (some ⟨g, on * 6 + 2, none⟩)) rfl (by kernel_rfl) (by kernel_rfl) (by kernel_rfl) (fun _ _ _ h => h) (Or.inl ⟨by rfl, ?_⟩) (by assumption) ?_
            · intro wq hSw; (try dsimp only at hSw); go_simp
            try simp only [Act.put, List.setIfInBounds_toArray, List.set_cons_zero, List.set_cons_succ]
            refine wpAnyH_ready (rs := [13]) (by kernel_rfl) (by simp) ?_
            refine AllReadyH.cons (o := { dst := none, op := Op.store 58 (Operand.tmp 43) (Operand.tmp 41), type := 0, pos := "l3_tree.go:484", after := #[{ on := 12, ground := Ground.data }, { on := 10, ground := Ground.data }, { on := 10, ground := Ground.chain }, { on := 0, ground := Ground.phase }, { on := 1, ground := Ground.phase }, { on := 2, ground := Ground.phase }, { on := 3, ground := Ground.phase }, { on := 4, ground := Ground.phase }, { on := 5, ground := Ground.phase }, { on := 6, ground := Ground.phase }, { on := 7, ground := Ground.phase }, { on := 8, ground := Ground.phase }, { on := 9, ground := Ground.phase }, { on := 10, ground := Ground.phase }], guard := none }) rfl (fun K hK => ?_) AllReadyH.nil
            go_simp
            refine hK.out _ _ (trivial) (fun hHeld => ?_)
            clear hK K
            try simp only [Act.put, List.setIfInBounds_toArray, List.set_cons_zero, List.set_cons_succ]
            refine wpAnyH_done (by kernel_rfl) ?_ _
            refine NoPanic.normal ?_
            obtain ⟨us2, hI2⟩ := HIA.out
            clear HIA hown7 hgr7 hat7 F7 hgne cl7 fz7 gl7 hHeld
            go_wp2_with fail
            go_meet
            exact ⟨rfl, rfl, rfl, us2, hI2⟩
          · go_simp
            refine hcallV.mono ?_
            rintro e w5 ⟨rfl, hb5⟩
            have I5 := IV.below hb5
            have rw5 := owns_below hrwV hb5
            have cl5 : w5.cell? ⟨g, on * 6 + 2, none⟩ = some (.slice ka kn kc) := (hb5.cell (p := ⟨g, on * 6 + 2, none⟩) hglV).trans hclV
            have gl5 : g < w5.heap.size := Nat.lt_of_lt_of_le hglV hb5.size
            go_wp2_with fail
            refine hK.out _ _ (trivial) (fun hHeld => ?_)
            clear hK K
            try simp only [Act.put, List.setIfInBounds_toArray, List.set_cons_zero, List.set_cons_succ]
            refine wpAnyH_ready (rs := [6, 9]) (by kernel_rfl) (by simp) ?_
            refine AllReadyH.cons (o := { dst := some 37, op := Op.load 58 (Operand.tmp 36), type := 58, pos := "l3_tree.go:484", after := #[{ on := 5, ground := Ground.data }], guard := none }) rfl (fun K hK => ?_) ?_
            rotate_left 1
            refine AllReadyH.cons (o := { dst := some 40, op := Op.buildSlice 58 1 #[(0, Operand.tmp 39)], type := 58, pos := "l3_tree.go:484", after := #[{ on := 8, ground := Ground.data }], guard := none }) rfl (fun K hK => ?_) ?_
            rotate_left 1
            exact AllReadyH.nil
            · go_simp
              refine hK.out _ _ (trivial) (fun hHeld => ?_)
              clear hK K
              try simp only [Act.put, List.setIfInBounds_toArray, List.set_cons_zero, List.set_cons_succ]
              refine wpAnyH_ready (rs := [9]) (by kernel_rfl) (by simp) ?_
              refine AllReadyH.cons (o := { dst := some 40, op := Op.buildSlice 58 1 #[(0, Operand.tmp 39)], type := 58, pos := "l3_tree.go:484", after := #[{ on := 8, ground := Ground.data }], guard := none }) rfl (fun K hK => ?_) AllReadyH.nil
              go_simp
              have hb6 : Below w5.heap.size w5 (w5.alloc (.cells #[.string low] 9)) := (Below.refl _ _).alloc (Nat.le_refl _) _
              have I6 := I5.below hb6
              have rw6 := owns_below rw5 hb6
              have cl6 : (w5.alloc (.cells #[.string low] 9)).cell? ⟨g, on * 6 + 2, none⟩ = some (.slice ka kn kc) := (hb6.cell (p := ⟨g, on * 6 + 2, none⟩) gl5).trans cl5
              have gl6 : g < (w5.alloc (.cells #[.string low] 9)).heap.size := Nat.lt_of_lt_of_le gl5 hb6.size
              refine hK.out _ _ (trivial) (fun hHeld => ?_)
              clear hK K
              try simp only [Act.put, List.setIfInBounds_toArray, List.set_cons_zero, List.set_cons_succ]
              refine wpAnyH_ready (rs := [10]) (by kernel_rfl) (by simp) ?_
              refine AllReadyH.cons (o := { dst := some 41, op := Op.call { callee := Callee.builtin Builtin.append, args := #[Operand.tmp 37, Operand.tmp 40], argTypes := #[58, 58] }, type := 58, pos := "l3_tree.go:484", after := #[{ on := 6, ground := Ground.data }, { on := 9, ground := Ground.data }, { on := 8, ground := Ground.chain }], guard := none }) rfl (fun K hK => ?_) AllReadyH.nil
              refine step_append_Y rfl _ _ 58 rfl base 9 i0 _ 1 16 Try.underlying58 hi0 hz0 hz1 hz2 rfl (by decide) (.slice ka kn kc) kn (rowsOf strCells (hdI t on k).keys) (by simp [Act.eval]) rw6 ⟨w5.heap.size, 0, none⟩ 1 1 [.string low] (by simp [Act.eval]) rfl (cell_one_new _ _ _) (by simp [Value.oneCell']) (by unfold maxLen; omega) (by omega) I6.2.2.2.2 ?_
              intro u7 w7 hown7 hgr7 hat7
              obtain ⟨g7, e7, rfl⟩ := rowSuccT hown7
              have IA : ∃ us', InSt base w' (w7.setCell ⟨g, on * 6 + 2 + 0, none⟩ (.slice (some ⟨g7, 0, none⟩) (kn + 1) e7)) on g m e ns ⟨false, t.page, (hdI t on k).keys ++ [low], [], [], (hdI t on k).kids⟩ (offs (on + 1) ((t.kids.take k).map T.flat)) us' :=
                I6.app (q := 0) (zs := rowsOf strCells (hdI t on k).keys ++ [.string low]) (by omega) (by rw [List.length_append, rows_len1 sc1, ← HKN.out]; exact hown7) (by rw [HUS.out]; exact hgr7) (by rw [HUS.out]; exact hat7) (nd_keys _ _ _ _ _ _ _)
              have F7 : Fr (fun b => (Value.slice ka kn kc).ownBlock = some b) (w5.alloc (.cells #[.string low] 9)) w7 := Fr.of_grown hgr7 (fun b e => e)
              have hgne : ¬ (Value.slice ka kn kc).ownBlock = some g := fun e => own_neT I6.1.row (r := 0) rw6 g e rfl
              have cl7 : w7.cell? ⟨g, on * 6 + 2, none⟩ = some (.slice ka kn kc) := (World.cell?_of_block (w := w5.alloc (.cells #[.string low] 9)) (a := ⟨g, on * 6 + 2, none⟩) (F7.block g gl6 hgne)).trans cl6
              have fz7 : w7.frozen? ⟨g, on * 6 + 2, none⟩ = false := by
                have h9 := I6.1.thaw (on * 6 + 2)
                unfold World.frozen? at h9 ⊢
                rw [show w7.heap[g]? = _ from F7.block g gl6 hgne]
                exact h9
              have gl7 : g < w7.heap.size := Nat.lt_of_lt_of_le gl6 F7.size
              rw [HLW.out] at IA
              have HIA : Hid (∃ us', InSt base w' (w7.setCell ⟨g, on * 6 + 2, none⟩ (.slice (some ⟨g7, 0, none⟩) (kn + 1) e7)) on g m e ns ⟨false, t.page, (hdI t on k).keys ++ (if 0 < k then [q.low] else []), [], [], (hdI t on k).kids⟩ (offs (on + 1) ((t.kids.take k).map T.flat)) us') := by rw [if_pos h0]; exact IA
              clear IA
              refine hK.out _ _ (trivial) (fun hHeld => ?_)
              clear hK K
              try simp only [Act.put, List.setIfInBounds_toArray, List.set_cons_zero, List.set_cons_succ]
              refine wpAnyH_take (i := 11) (oi := { dst := some 42, op := Op.indexAddr 24 (Operand.tmp 31) (Operand.tmp 32), type := 0, pos := "l3_tree.go:484", after := #[{ on := 0, ground := Ground.data }, { on := 1, ground := Ground.data }, { on := 0, ground := Ground.phase }, { on := 1, ground := Ground.phase }, { on := 2, ground := Ground.phase }, { on := 3, ground := Ground.phase }, { on := 4, ground := Ground.phase }, { on := 5, ground := Ground.phase }, { on := 6, ground := Ground.phase }, { on := 7, ground := Ground.phase }, { on := 8, ground := Ground.phase }, { on := 9, ground := Ground.phase }, { on := 10, ground := Ground.phase }], guard := none }) (v := .pointer (some ⟨g, on * 6, none⟩)) rfl (by kernel_rfl) (by kernel_rfl) (by kernel_rfl) (fun _ _ _ h => h) (Or.inl ⟨by rfl, ?_⟩) (by assumption) ?_
              · intro wq hSw; (try dsimp only at hSw); go_simp; (try (intro hx; exfalso; omega))
              try simp only [Act.put, List.setIfInBounds_toArray, List.set_cons_zero, List.set_cons_succ]
              refine wpAnyH_take (i := 12) (oi := { dst := some 43, op := Op.fieldAddr 92 (Operand.tmp 42) 2, type := 0, pos := "l3_tree.go:484", after := #[{ on := 11, ground := Ground.data }, { on := 0, ground := Ground.phase }, { on := 1, ground := Ground.phase }, { on := 2, ground := Ground.phase }, { on := 3, ground := Ground.phase }, { on := 4, ground := Ground.phase }, { on := 5, ground := Ground.phase }, { on := 6, ground := Ground.phase }, { on := 7, ground := Ground.phase }, { on := 8, ground := Ground.phase }, { on := 9, ground := Ground.phase }, { on := 10, ground := Ground.phase }], guard := none }) (v := .pointer (some ⟨g, on * 6 + 2, none⟩)) rfl (by kernel_rfl) (by kernel_rfl) (by kernel_rfl) (fun _ _ _ h => h) (Or.inl ⟨by rfl, ?_⟩) (by assumption) ?_
              · intro wq hSw; (try dsimp only at hSw); go_simp
              try simp only [Act.put, List.setIfInBounds_toArray, List.set_cons_zero, List.set_cons_succ]
              refine wpAnyH_ready (rs := [13]) (by kernel_rfl) (by simp) ?_
              refine AllReadyH.cons (o := { dst := none, op := Op.store 58 (Operand.tmp 43) (Operand.tmp 41), type := 0, pos := "l3_tree.go:484", after := #[{ on := 12, ground := Ground.data }, { on := 10, ground := Ground.data }, { on := 10, ground := Ground.chain }, { on := 0, ground := Ground.phase }, { on := 1, ground := Ground.phase }, { on := 2, ground := Ground.phase }, { on := 3, ground := Ground.phase }, { on := 4, ground := Ground.phase }, { on := 5, ground := Ground.phase }, { on := 6, ground := Ground.phase }, { on := 7, ground := Ground.phase }, { on := 8, ground := Ground.phase }, { on := 9, ground := Ground.phase }, { on := 10, ground := Ground.phase }], guard := none }) rfl (fun K hK => ?_) AllReadyH.nil
              go_simp
              refine hK.out _ _ (trivial) (fun hHeld => ?_)
              clear hK K
              try simp only [Act.put, List.setIfInBounds_toArray, List.set_cons_zero, List.set_cons_succ]
              refine wpAnyH_done (by kernel_rfl) ?_ _
              refine NoPanic.normal ?_
              obtain ⟨us2, hI2⟩ := HIA.out
              clear HIA hown7 hgr7 hat7 F7 hgne cl7 fz7 gl7 hHeld
              go_wp2_with fail
              go_meet
              exact ⟨rfl, rfl, rfl, us2, hI2⟩
            · go_simp
              have hb6 : Below w5.heap.size w5 (w5.alloc (.cells #[.string low] 9)) := (Below.refl _ _).alloc (Nat.le_refl _) _
              have I6 := I5.below hb6
              have rw6 := owns_below rw5 hb6
              have cl6 : (w5.alloc (.cells #[.string low] 9)).cell? ⟨g, on * 6 + 2, none⟩ = some (.slice ka kn kc) := (hb6.cell (p := ⟨g, on * 6 + 2, none⟩) gl5).trans cl5
              have gl6 : g < (w5.alloc (.cells #[.string low] 9)).heap.size := Nat.lt_of_lt_of_le gl5 hb6.size
              refine hK.out _ _ (trivial) (fun hHeld => ?_)
              clear hK K
              try simp only [Act.put, List.setIfInBounds_toArray, List.set_cons_zero, List.set_cons_succ]
              refine wpAnyH_ready (rs := [6]) (by kernel_rfl) (by simp) ?_
              refine AllReadyH.cons (o := { dst := some 37, op := Op.load 58 (Operand.tmp 36), type := 58, pos := "l3_tree.go:484", after := #[{ on := 5, ground := Ground.data }], guard := none }) rfl (fun K hK => ?_) AllReadyH.nil
              go_simp
              refine hK.out _ _ (trivial) (fun hHeld => ?_)
              clear hK K
              try simp only [Act.put, List.setIfInBounds_toArray, List.set_cons_zero, List.set_cons_succ]
              refine wpAnyH_ready (rs := [10]) (by kernel_rfl) (by simp) ?_
              refine AllReadyH.cons (o := { dst := some 41, op := Op.call { callee := Callee.builtin Builtin.append, args := #[Operand.tmp 37, Operand.tmp 40], argTypes := #[58, 58] }, type := 58, pos := "l3_tree.go:484", after := #[{ on := 6, ground := Ground.data }, { on := 9, ground := Ground.data }, { on := 8, ground := Ground.chain }], guard := none }) rfl (fun K hK => ?_) AllReadyH.nil
              refine step_append_Y rfl _ _ 58 rfl base 9 i0 _ 1 16 Try.underlying58 hi0 hz0 hz1 hz2 rfl (by decide) (.slice ka kn kc) kn (rowsOf strCells (hdI t on k).keys) (by simp [Act.eval]) rw6 ⟨w5.heap.size, 0, none⟩ 1 1 [.string low] (by simp [Act.eval]) rfl (cell_one_new _ _ _) (by simp [Value.oneCell']) (by unfold maxLen; omega) (by omega) I6.2.2.2.2 ?_
              intro u7 w7 hown7 hgr7 hat7
              obtain ⟨g7, e7, rfl⟩ := rowSuccT hown7
              have IA : ∃ us', InSt base w' (w7.setCell ⟨g, on * 6 + 2 + 0, none⟩ (.slice (some ⟨g7, 0, none⟩) (kn + 1) e7)) on g m e ns ⟨false, t.page, (hdI t on k).keys ++ [low], [], [], (hdI t on k).kids⟩ (offs (on + 1) ((t.kids.take k).map T.flat)) us' :=
                I6.app (q := 0) (zs := rowsOf strCells (hdI t on k).keys ++ [.string low]) (by omega) (by rw [List.length_append, rows_len1 sc1, ← HKN.out]; exact hown7) (by rw [HUS.out]; exact hgr7) (by rw [HUS.out]; exact hat7) (nd_keys _ _ _ _ _ _ _)
              have F7 : Fr (fun b => (Value.slice ka kn kc).ownBlock = some b) (w5.alloc (.cells #[.string low] 9)) w7 := Fr.of_grown hgr7 (fun b e => e)
              have hgne : ¬ (Value.slice ka kn kc).ownBlock = some g := fun e => own_neT I6.1.row (r := 0) rw6 g e rfl
              have cl7 : w7.cell? ⟨g, on * 6 + 2, none⟩ = some (.slice ka kn kc) := (World.cell?_of_block (w := w5.alloc (.cells #[.string low] 9)) (a := ⟨g, on * 6 + 2, none⟩) (F7.block g gl6 hgne)).trans cl6
              have fz7 : w7.frozen? ⟨g, on * 6 + 2, none⟩ = false := by
                have h9 := I6.1.thaw (on * 6 + 2)
                unfold World.frozen? at h9 ⊢
                rw [show w7.heap[g]? = _ from F7.block g gl6 hgne]
                exact h9
              have gl7 : g < w7.heap.size := Nat.lt_of_lt_of_le gl6 F7.size
              rw [HLW.out] at IA
              have HIA : Hid (∃ us', InSt base w' (w7.setCell ⟨g, on * 6 + 2, none⟩ (.slice (some ⟨g7, 0, none⟩) (kn + 1) e7)) on g m e ns ⟨false, t.page, (hdI t on k).keys ++ (if 0 < k then [q.low] else []), [], [], (hdI t on k).kids⟩ (offs (on + 1) ((t.kids.take k).map T.flat)) us') := by rw [if_pos h0]; exact IA
              clear IA
              refine hK.out _ _ (trivial) (fun hHeld => ?_)
              clear hK K
              try simp only [Act.put, List.setIfInBounds_toArray, List.set_cons_zero, List.set_cons_succ]
              refine wpAnyH_take (i := 11) (oi := { dst := some 42, op := Op.indexAddr 24 (Operand.tmp 31) (Operand.tmp 32), type := 0, pos := "l3_tree.go:484", after := #[{ on := 0, ground := Ground.data }, { on := 1, ground := Ground.data }, { on := 0, ground := Ground.phase }, { on := 1, ground := Ground.phase }, { on := 2, ground := Ground.phase }, { on := 3, ground := Ground.phase }, { on := 4, ground := Ground.phase }, { on := 5, ground := Ground.phase }, { on := 6, ground := Ground.phase }, { on := 7, ground := Ground.phase }, { on := 8, ground := Ground.phase }, { on := 9, ground := Ground.phase }, { on := 10, ground := Ground.phase }], guard := none }) (v := .pointer (some ⟨g, on * 6, none⟩)) rfl (by kernel_rfl) (by kernel_rfl) (by kernel_rfl) (fun _ _ _ h => h) (Or.inl ⟨by rfl, ?_⟩) (by assumption) ?_
              · intro wq hSw; (try dsimp only at hSw); go_simp; (try (intro hx; exfalso; omega))
              try simp only [Act.put, List.setIfInBounds_toArray, List.set_cons_zero, List.set_cons_succ]
              refine wpAnyH_take (i := 12) (oi := { dst := some 43, op := Op.fieldAddr 92 (Operand.tmp 42) 2, type := 0, pos := "l3_tree.go:484", after := #[{ on := 11, ground := Ground.data }, { on := 0, ground := Ground.phase }, { on := 1, ground := Ground.phase }, { on := 2, ground := Ground.phase }, { on := 3, ground := Ground.phase }, { on := 4, ground := Ground.phase }, { on := 5, ground := Ground.phase }, { on := 6, ground := Ground.phase }, { on := 7, ground := Ground.phase }, { on := 8, ground := Ground.phase }, { on := 9, ground := Ground.phase }, { on := 10, ground := Ground.phase }], guard := none }) (v := .pointer (some ⟨g, on * 6 + 2, none⟩)) rfl (by kernel_rfl) (by kernel_rfl) (by kernel_rfl) (fun _ _ _ h => h) (Or.inl ⟨by rfl, ?_⟩) (by assumption) ?_
              · intro wq hSw; (try dsimp only at hSw); go_simp
              try simp only [Act.put, List.setIfInBounds_toArray, List.set_cons_zero, List.set_cons_succ]
              refine wpAnyH_ready (rs := [13]) (by kernel_rfl) (by simp) ?_
              refine AllReadyH.cons (o := { dst := none, op := Op.store 58 (Operand.tmp 43) (Operand.tmp 41), type := 0, pos := "l3_tree.go:484", after := #[{ on := 12, ground := Ground.data }, { on := 10, ground := Ground.data }, { on := 10, ground := Ground.chain }, { on := 0, ground := Ground.phase }, { on := 1, ground := Ground.phase }, { on := 2, ground := Ground.phase }, { on := 3, ground := Ground.phase }, { on := 4, ground := Ground.phase }, { on := 5, ground := Ground.phase }, { on := 6, ground := Ground.phase }, { on := 7, ground := Ground.phase }, { on := 8, ground := Ground.phase }, { on := 9, ground := Ground.phase }, { on := 10, ground := Ground.phase }], guard := none }) rfl (fun K hK => ?_) AllReadyH.nil
              go_simp
              refine hK.out _ _ (trivial) (fun hHeld => ?_)
              clear hK K
              try simp only [Act.put, List.setIfInBounds_toArray, List.set_cons_zero, List.set_cons_succ]
              refine wpAnyH_done (by kernel_rfl) ?_ _
              refine NoPanic.normal ?_
              obtain ⟨us2, hI2⟩ := HIA.out
              clear HIA hown7 hgr7 hat7 F7 hgne cl7 fz7 gl7 hHeld
              go_wp2_with fail
              go_meet
              exact ⟨rfl, rfl, rfl, us2, hI2⟩
        · have hd0 : decide ((0 : Int) < (k : Int)) = false := by simp; omega
          have HE : Hid (InSt base w' wr on g m e ns ⟨false, t.page, (hdI t on k).keys ++ (if 0 < k then [q.low] else []), [], [], (hdI t on k).kids⟩ (offs (on + 1) ((t.kids.take k).map T.flat)) us1) := by
            rw [if_neg h0, List.append_nil]; exact HI.out
          go_wp2_with fail
          go_meet
          exact ⟨rfl, rfl, rfl, us1, HE⟩
      case rest =>
        obtain ⟨rfl, rfl, rfl, us2, HC⟩ := hcut
        clear HI
        obtain ⟨h2, hh2⟩ : ∃ h2 : TN, h2 = ⟨false, t.page, (hdI t on k).keys ++ (if 0 < k then [q.low] else []), [], [], (hdI t on k).kids⟩ := ⟨_, rfl⟩
        rw [← hh2] at HC
        have HH3 : Hid ((⟨h2.leaf, h2.page, h2.keys, h2.vals, h2.over, h2.kids ++ [((m : Nat) : Int)]⟩ : TN) = hdI t on (k + 1)) := by
          show _ = _
          rw [hdI_succ on HQ.out, hh2, HME.out]
        clear hh2
        obtain ⟨hrw, hcl, hgl, hfz⟩ := HC.out.list 3 (by omega)
        rw [nd_len3] at hrw
        obtain ⟨ya, yc, hus⟩ := ownT_shape hrw
        rw [hus] at hrw hcl
        obtain ⟨yn, hyn⟩ : ∃ yn, yn = h2.kids.length := ⟨_, rfl⟩
        have HYN : Hid (yn = h2.kids.length) := hyn
        rw [← hyn] at hrw hcl
        have HUS : Hid (us2 on 3 = .slice ya yn yc) := by rw [hyn]; exact hus
        have hynb : yn ≤ 100000000 := by
          have h9 := congrArg (fun x : TN => x.kids.length) HH3.out
          simp only [List.length_append, List.length_singleton] at h9
          rw [← hyn] at h9
          have h10 : (hdI t on (k + 1)).kids.length = k + 1 := by
            unfold hdI
            have h11 : ∀ (l : List Nat) (s : Nat), (startsN s l).length = l.length := by
              intro l
              induction l with
              | nil => intro s; rfl
              | cons x r ih => intro s; simp only [startsN, List.length_cons, ih]
            simp only [h11, List.length_map, List.length_take]
            have := HN.out; omega
          have h12 : k + 1 ≤ mI t n := by
            have h3 : ∀ (l : List T), l.length ≤ (l.map T.nodes).sum := by
              intro l
              induction l with
              | nil => simp
              | cons x r ih => simp only [List.map_cons, List.sum_cons, List.length_cons]; rw [T.nodes_eq]; omega
            have h4 := h3 (t.kids.take n)
            unfold mI
            have h5 : (t.kids.take n).length = n := by rw [List.length_take]; have := HN.out; omega
            omega
          have := HALL.out.2; have := HMB.out
          omega
        replace hrw : wc.ownsRow base 2 1 (.slice ya yn yc) yn (rowsOf intCells h2.kids) := hrw
        replace hcl : wc.cell? ⟨g, on * 6 + 5, none⟩ = some (.slice ya yn yc) := hcl
        clear hyn hus
        have hba : Below wc.heap.size wc (wc.alloc (.cells #[.int .i64 (m : Int)] 2)) := (Below.refl _ _).alloc (Nat.le_refl _) _
        have I6 := HC.out.below hba
        have hcell1 := cell_one_new wc (.int .i64 (m : Int)) 2
        have hgne : ¬ (Value.slice ya yn yc).ownBlock = some g := fun e => own_neT HC.out.1.row (r := 3) hrw g e rfl
        have cl6 := (hba.cell (p := ⟨g, on * 6 + 5, none⟩) hgl).trans hcl
        have fz6 := I6.1.thaw (on * 6 + 5)
        have gl6 : g < (wc.alloc (.cells #[.int .i64 (m : Int)] 2)).heap.size := Nat.lt_of_lt_of_le hgl hba.size
        have hfz5 := hfz (on * 6 + 5)
        go_upto_region 9 with (at_builtin; refine wpList_append_ownD _ rfl _ _ 59 rfl base 2 i1 _ 1 8 Try.underlying59 hi1 hy0 hy1 hy2 rfl (by decide) _ _ _ rfl (hrw.alloc _) ⟨wc.heap.size, 0, none⟩ 1 1 [.int .i64 (m : Int)] rfl rfl hcell1 (by simp [Value.oneCell']) (by unfold maxLen; omega) (by omega) I6.2.2.2.2 ?_; intro v' w7 hown7 hgr7 hat7; obtain ⟨g7, e7, rfl⟩ := rowSuccT hown7; have F7 : Fr (fun b => (Value.slice ya yn yc).ownBlock = some b) (wc.alloc (.cells #[.int .i64 (m : Int)] 2)) w7 := Fr.of_grown hgr7 (fun b e => e); have cl7 : w7.cell? ⟨g, on * 6 + 5, none⟩ = some (.slice ya yn yc) := (World.cell?_of_block (w := wc.alloc (.cells #[.int .i64 (m : Int)] 2)) (a := ⟨g, on * 6 + 5, none⟩) (F7.block g gl6 hgne)).trans cl6; have fz7 : w7.frozen? ⟨g, on * 6 + 5, none⟩ = false := (by have h9 := fz6; unfold World.frozen? at h9 ⊢; rw [show w7.heap[g]? = _ from F7.block g gl6 hgne]; exact h9); have gl7 : g < w7.heap.size := Nat.lt_of_lt_of_le gl6 F7.size)
        have IA : ∃ us', InSt base w' (w7.setCell ⟨g, on * 6 + 2 + 3, none⟩ (.slice (some ⟨g7, 0, none⟩) (yn + 1) e7)) on g m e ns (hdI t on (k + 1)) (offs (on + 1) ((t.kids.take k).map T.flat)) us' := by
          rw [← HH3.out]
          exact I6.app (q := 3) (zs := rowsOf intCells h2.kids ++ [.int .i64 (m : Int)]) (by omega) (by rw [List.length_append, rows_len1 ic1, ← HYN.out]; exact hown7) (by rw [HUS.out]; exact hgr7) (by rw [HUS.out]; exact hat7) (nd_kids _ _ _ _ _ _ _)
        have HIA : Hid (∃ us', InSt base w' (w7.setCell ⟨g, on * 6 + 5, none⟩ (.slice (some ⟨g7, 0, none⟩) (yn + 1) e7)) on g m e ns (hdI t on (k + 1)) (offs (on + 1) ((t.kids.take k).map T.flat)) us') := IA
        clear IA hown7 hgr7 hat7 F7 cl7 fz7 gl7 hgne cl6 fz6 gl6 hcell1 I6 hba hcl hgl hfz hfz5 hrw HC HUS HYN HH3
        generalize w7.setCell ⟨g, on * 6 + 5, none⟩ (.slice (some ⟨g7, 0, none⟩) (yn + 1) e7) = W8 at HIA ⊢
        obtain ⟨us8, h8⟩ := HIA.out
        clear HIA
        obtain ⟨ha, f, r, hmt, hcf, hcall⟩ := HTO.out
        have hqn : mI t (k + 1) = mI t k + q.nodes := mI_succ HQ.out
        have hbd : m + q.nodes ≤ 10000000 := by have := HML.out (k + 1); have := HMB.out; have := HME.out; omega
        have hlen8 : m = (ns ++ TN.nd (hdI t on (k + 1)) :: (offs (on + 1) ((t.kids.take k).map T.flat)).map TN.nd).length := by
          rw [h8.2.2.1, h8.2.1]; simp; omega
        have hcall2 := hcall W8 (HWB.out W8 h8.2.2.2.1) (some ⟨g, 0, none⟩) m e _ us8 h8.1 hlen8 hbd h8.2.2.2.2
        have H8 : Hid (InSt base w' W8 on g m e ns (hdI t on (k + 1)) (offs (on + 1) ((t.kids.take k).map T.flat)) us8) := h8
        have hcf2 := hcf (.slice (some ⟨g, 0, none⟩) m e)
        have HQN : Hid (mI t (k + 1) = mI t k + q.nodes) := hqn
        clear hcall hlen8 h8 hcf hqn
        go_wp2_with fail
        refine hcall2.mono ?_
        rintro ex w9 ⟨oa9, oc9, us9, rfl, hO9, hF9⟩
        have hqn0 : 0 < q.nodes := by rw [T.nodes_eq]; omega
        obtain ⟨g9, rfl⟩ : ∃ g9, oa9 = some ⟨g9, 0, none⟩ := by
          rcases hO9.row.2 with ⟨_, h1⟩ | ⟨g9, cap, cur, h0, _⟩
          · simp at h1
          · injection h0 with h1; exact ⟨g9, h1⟩
        have HR : Hid (∃ us', InSt base w' w9 on g9 (m + q.nodes) oc9 ns (hdI t on (k + 1)) (offs (on + 1) ((t.kids.take (k + 1)).map T.flat)) us') := by
          have hst := stI_succ on HQ.out HFL.out
          unfold stI at hst
          have hof : offs (on + 1) ((t.kids.take (k + 1)).map T.flat) = offs (on + 1) ((t.kids.take k).map T.flat) ++ q.flat m := by
            rw [HME.out]
            have := (List.cons.inj hst).2
            exact this
          refine ⟨us9, ?_, H8.out.2.1, ?_, H8.out.2.2.2.1.trans hF9, Nat.le_trans H8.out.2.2.2.2 hF9.size⟩
          · rw [hof, List.map_append, ← List.cons_append, ← List.append_assoc]
            exact hO9
          · rw [offsT_len _ _ (fun q hq => HFL.out q (List.mem_of_mem_take hq))]
            have h1 := HQN.out; have h2 := HME.out
            unfold mI at h1 h2
            omega
        clear hcall2 hO9 hF9 H8 HME HRL
        go_wp2_with fail
        go_roundw
        case rel => exact ⟨k + 1, g9, m + q.nodes, oc9, by omega, by go_num, rfl, HR⟩
        case measure => simp [intOf]; omega
    · obtain rfl : k = n := by omega
      have HE : Hid (TellAns base t w' on ns (.returned (.slice (some ⟨g, 0, none⟩) m e)) wr) := by
        have hmt : m = on + t.nodes := by have := HME.out; have := HALL.out.2; omega
        have hfl := HALL.out.1
        unfold stI at hfl
        refine ⟨some ⟨g, 0, none⟩, e, us1, by rw [hmt], ?_, HI.out.2.2.2.1⟩
        rw [← hfl, ← hmt]
        exact HI.out.1
      clear HI HME HRL
      go_wp2_with fail
      go_ret
      exact HE.out
/-- Every node can be told. -/
theorem GIs.tell {base : Nat} {w : World} {P : Nat → Prop} (hP : ∀ b, P b → b < base) : ∀ (t : T) (ty : TypeId) (v : Value), t.whole = true → GIs w P t (.iface ty v) → TellObs base w t ty v := by
  intro t
  induction t using T.ind with
  | h t ih =>
    intro ty v hw h
    cases hl : t.leaf
    · obtain ⟨L, a, n, c, us, e, hG⟩ := h.inner hl
      cases e
      refine ⟨fun w => by kernel_rfl, 120, .pointer (some ⟨L, 0, none⟩), fun w => by kernel_rfl, fun x w => by kernel_rfl, ?_⟩
      intro w' hb oa on oc ns us2 hO hon hm hbs
      refine innerTell_g hG hl hw hP (fun i k hi => ?_) w' hb oa on oc ns us2 hO hon hm hbs
      have hkm := List.mem_of_getElem? hi
      have hK := hG.kid i k hkm hi
      obtain ⟨ty', v', hu⟩ := hK.shape
      rw [hu] at hK
      exact ⟨ty', v', hu, ih k hkm ty' v' ((T.whole_inner hw hl).2 k hkm).2 hK⟩
    · obtain ⟨L, a, n, c, e, hG⟩ := h.leaf hl
      cases e
      obtain ⟨h1, h2, h3, h4⟩ := T.whole_leaf hw hl
      have hnn : t.nodes = 1 := by rw [T.nodes_eq, h4]; rfl
      refine ⟨fun w => by kernel_rfl, 106, .pointer (some ⟨L, 0, none⟩), fun w => by kernel_rfl, fun x w => by kernel_rfl, ?_⟩
      intro w' hb oa on oc ns us2 hO hon hm hbs
      refine (leafTell_g hG (by rw [h1, hG.len]) (by rw [h2, hG.len]) (by rw [hG.len]; exact h3) hP w' hb oa on oc ns us2 hO hon (by omega) hbs).mono ?_
      rintro e w2 ⟨oa', oc', us', rfl, hO2, hF2⟩
      refine ⟨oa', oc', us', by rw [hnn], ?_, hF2⟩
      rw [hnn, T.flat_eq, if_pos hl]
      exact hO2
end Go.Proofs.Ytpmagndofiaooaa
