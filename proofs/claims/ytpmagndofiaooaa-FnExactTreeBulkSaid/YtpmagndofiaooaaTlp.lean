import Derived.Test.YtpmagndofiaooaaTlo
import Derived.Deep.DeepCutAuto
namespace Go.Proofs.Ytpmagndofiaooaa
open Go.RowKit
set_option linter.unusedVariables false
set_option linter.unusedSimpArgs false
set_option maxRecDepth 100000

theorem starts_bound (s : Nat) (ns : List Nat) : ∀ x ∈ startsN s ns, (s : Int) ≤ x ∧ x ≤ ((s + ns.sum : Nat) : Int) := by
  induction ns generalizing s with
  | nil => intro x h; simp [startsN] at h
  | cons a r ih =>
    intro x h
    simp only [startsN, List.mem_cons] at h
    simp only [List.sum_cons]
    rcases h with rfl | h
    · constructor
      · exact Int.le_refl _
      · push_cast; omega
    · have := ih (s + a) x h
      push_cast at this ⊢
      omega
/-- append to a slice of one's own, as one step of a region that draws, and where the answer lies. -/
theorem step_append_T {P : Program} {ops : Array Oper} {o : Oper} {a : Act} {w : World} {K : Act → World → Prop} {Q : Exit → Act → World → Prop} {E : Prop}
    (hgd : o.guard = none) (s x : Operand) (t : TypeId) (ho : o.op = .call { callee := .builtin .append, args := #[s, x], argTypes := #[t, t] })
    (base : Nat) (e : TypeId) (i : TypeInfo) (z : Value) (size bytes : Nat) (ht : P.underlying t = some (.slice e)) (hi : P.info? e = some i) (hz : i.zero = some z)
    (hsize : i.size = size) (hby : i.bytes = bytes) (hzs : z.cells.size = size) (hsz : 0 < size)
    (v : Value) (n : Nat) (xs : List Value) (hs : a.eval s = v) (hown : w.ownsRow base e size v n xs)
    (ad : Addr) (m c : Nat) (news : List Value) (hx : a.eval x = .slice (some ad) m c) (hl : news.length = m * size) (hnews : ∀ j u, news[j]? = some u → w.cell? (ad.add j) = some u) (h1 : ∀ u ∈ news, u.oneCell' = true)
    (h63 : n + m ≤ maxLen) (hbytes : (n + m) * bytes ≤ 140737488355328) (hbase : base ≤ w.heap.size)
    (h : ∀ v' w', w'.ownsRow base e size v' (n + m) (xs ++ news) → w.grownBy w' v.ownBlock → (v'.ownBlock = v.ownBlock ∨ ∀ g, v'.ownBlock = some g → w.heap.size ≤ g) → K (a.put o.dst v') w') :
    if Region.wanted o (yielded ops a.tmps) = true then Oper.wp P o a w K Q else E := by
  rw [if_pos (by simp [Region.wanted, hgd])]
  obtain ⟨v', w', hr, h2, h3, h4⟩ := run_append_ownD (P := P) w base t o.type e i z size bytes ht hi hz hsize hby hzs hsz v n xs hown ad m c news hl hnews h1 h63 hbytes hbase
  unfold Oper.wp execOp
  simp only [ho, resolve, invoke, builtin, Sem.run_bind, Sem.run_pure, Result.andThen_ok, List.map_toArray, List.map_cons, List.map_nil, hs, hx, hr]
  exact h v' w' h2 h3 h4
set_option maxHeartbeats 8000000 in
theorem l3Flat_inner (C : Nat) (t : T) (hl : t.leaf = false) (hg : ∃ r, t.good r = true) (hnn : t.nodes ≤ 100000) (hlow : ∀ k ∈ t.kids, k.low.size ≤ maxLen) (ih : ∀ k ∈ t.kids, FlatCall C k) : FlatCall C t := by
  intro w lo g c css0 ts0 ka kn kc va vn vc oa on oc ya yc css hC hF hX hbd
  have HFL : Hid (t.flat ts0.length = ⟨false, t.page, t.kids.tail.map T.low, [], [], startsN (ts0.length + 1) (t.kids.map T.nodes)⟩ :: offs (ts0.length + 1) (t.kids.map T.flat)) := by show _ = _; rw [T.flat_eq, if_neg (by simp [hl])]
  rw [HFL.out] at hbd ⊢
  have hp := hX.page
  have hkid : ∀ k ∈ t.kids, k.good false = true := fun k hk => by obtain ⟨r, h⟩ := hg; exact good_kid h hk
  have hn4 : t.kids.length ≤ 4 := by
    obtain ⟨r, h⟩ := hg
    rw [T.good_eq] at h
    simp only [Bool.and_eq_true, decide_eq_true_eq] at h
    have := h.1.1.1.1.2
    simpa [T.size, hl] using this
  obtain ⟨N, hN⟩ : ∃ N, w.heap.size = N := ⟨_, rfl⟩
  have hgl := hF.lt
  have hCN : C ≤ N := by omega
  have b1 := (Below.refl w.heap.size w).alloc (Nat.le_refl _) (.cells #[.bool false, .int .i64 t.page, .slice ka kn kc, .slice va vn vc, .slice oa on oc, .slice ya t.kids.length yc] 61)
  have b2 := (Below.refl (w.alloc (.cells #[.bool false, .int .i64 t.page, .slice ka kn kc, .slice va vn vc, .slice oa on oc, .slice ya t.kids.length yc] 61)).heap.size _).alloc (Nat.le_refl _) (.cells #[.bool false, .int .i64 t.page, .slice none 0 0, .slice none 0 0, .slice none 0 0, .slice none 0 0] 92)
  have s1 : (w.alloc (.cells #[.bool false, .int .i64 t.page, .slice ka kn kc, .slice va vn vc, .slice oa on oc, .slice ya t.kids.length yc] 61)).heap.size = N + 1 := by simp [hN]
  have X1 : XSt w ((w.alloc (.cells #[.bool false, .int .i64 t.page, .slice ka kn kc, .slice va vn vc, .slice oa on oc, .slice ya t.kids.length yc] 61)).alloc (.cells #[.bool false, .int .i64 t.page, .slice none 0 0, .slice none 0 0, .slice none 0 0, .slice none 0 0] 92)) N #[.bool false, .int .i64 t.page, .slice ka kn kc, .slice va vn vc, .slice oa on oc, .slice ya t.kids.length yc] #[.bool false, .int .i64 t.page, .slice none 0 0, .slice none 0 0, .slice none 0 0, .slice none 0 0] := by
    refine ⟨(b2.block N (by omega)).trans (hN ▸ heap_alloc_new w _), by rw [← s1]; exact heap_alloc_new _ _, ?_⟩
    exact (hN ▸ b1 : Below N w _).trans (b2.mono (by omega))
  rw [hl]
  obtain ⟨m0, hm0⟩ : ∃ m0, ts0.length = m0 := ⟨_, rfl⟩
  have HM0 : Hid (ts0.length = m0) := hm0
  have HF : Hid (FlatAt w lo g c css0 ts0) := hF
  have HX : Hid (NodeX w 0 C (fun b => b < C) t ka kn kc va vn vc oa on oc ya yc css) := hX
  rw [hm0] at hbd HFL ⊢
  have HBD : Hid (m0 + 1 + (offs (m0 + 1) (t.kids.map T.flat)).length ≤ 100000) := by show _ ≤ _; simp only [List.length_cons] at hbd; omega
  have hmb : m0 + 1 ≤ 100000 := by simp only [List.length_cons] at hbd; omega
  have HKG : Hid (∀ k ∈ t.kids, k.good false = true) := hkid
  have HLW : Hid (∀ k ∈ t.kids, k.low.size ≤ maxLen) := hlow
  have IH : Hid (∀ k ∈ t.kids, FlatCall C k) := ih
  clear hX hF b1 b2 hm0 hbd hkid ih hg hl hlow
  obtain ⟨n, hn⟩ : ∃ n, n = t.kids.length := ⟨_, rfl⟩
  have HNN : Hid (n = t.kids.length) := hn
  rw [← hn] at X1 s1 hn4 ⊢
  clear hn
  obtain ⟨p, hpp⟩ : ∃ p, p = t.page := ⟨_, rfl⟩
  rw [← hpp] at X1 s1 hp HFL ⊢
  clear hpp
  obtain ⟨xt, hxt⟩ : ∃ xt : TN, xt = ⟨false, p, t.kids.tail.map T.low, [], [], startsN (m0 + 1) (t.kids.map T.nodes)⟩ := ⟨_, rfl⟩
  rw [← hxt] at HFL ⊢
  have HXT : Hid (xt = ⟨false, p, t.kids.tail.map T.low, [], [], startsN (m0 + 1) (t.kids.map T.nodes)⟩) := hxt
  clear hxt
  obtain ⟨is, his, hs0, hs1, hs2⟩ := info_parts info_string
  obtain ⟨ii, hii, hi0, hi1, hi2⟩ := info_parts info_int64
  obtain ⟨ix, hix, hx0, hx1, hx2⟩ := info_parts info_TNodeT
  have HSUM : Hid (t.nodes = 1 + (t.kids.map T.nodes).sum) := T.nodes_eq t
  go_enter Try.func52, Try.ntmps52
  go_upto_region 2 with fail
  generalize ((w.alloc (.cells #[.bool false, .int .i64 p, .slice ka kn kc, .slice va vn vc, .slice oa on oc, .slice ya n yc] 61)).alloc (.cells #[.bool false, .int .i64 p, .slice none 0 0, .slice none 0 0, .slice none 0 0, .slice none 0 0] 92)) = W1 at X1 ⊢
  obtain ⟨n0, n1, n2, n3, n4, n5⟩ := box6 X1.bn
  have l0 : N < W1.heap.size := by have := X1.lt; omega
  have F1 : FIn w W1 N #[.bool false, .int .i64 p, .slice ka kn kc, .slice va vn vc, .slice oa on oc, .slice ya n yc] p none 0 none 0 [] [] := ⟨X1, World.ownsRow_nil _ _ _ _, World.ownsRow_nil _ _ _ _, fun g h => by simp [Value.ownBlock] at h⟩
  clear X1 s1
  go_wp2_with fail
  clear n0 n1 n2 n3 n4 n5 l0
  go_loopw [6, 7] (fun at' i wr => ∃ (j s : Nat) (kka : Option Addr) (kkc : Nat) (kya : Option Addr) (kyc : Nat) (kks : List ByteArray) (kys : List Int), j ≤ n ∧ i = .int .i64 j ∧ at' = .int .i64 s ∧ s ≤ 200001 ∧ Hid (s = m0 + 1 + ((t.kids.map T.nodes).take j).sum ∧ kks = ((t.kids.map T.low).take j).tail ∧ kys = (startsN (m0 + 1) (t.kids.map T.nodes)).take j) ∧ FIn w wr N #[.bool false, .int .i64 p, .slice ka kn kc, .slice va vn vc, .slice oa on oc, .slice ya n yc] p kka kkc kya kyc kks kys) (fun _ i _ => n - (intOf i).toNat)
  case atStart => exact ⟨0, m0 + 1, none, 0, none, 0, [], [], Nat.zero_le _, rfl, by simp, by omega, ⟨by simp, by simp, by simp⟩, F1⟩
  case round =>
    clear F1
    obtain ⟨j, s, kka, kkc, kya, kyc, kks, kys, hj, rfl, rfl, hs, HR, F2⟩ := hrel
    obtain ⟨n0, n1, n2, n3, n4, n5⟩ := box6 F2.x.bn
    have hxl := F2.x.lt
    have l0 : N < wr.heap.size := by omega
    by_cases hlt : j < n
    · obtain ⟨b, off, rfl, hbl, k, hki, hkm, ka', kn', kc', va', vn', vc', oa', on', oc', ya', yc', css', hXk, c0, c1, c2, c3, c4, c5⟩ := (HX.out.belowC (F2.x.bel.mono hCN)).at (i := j) (by have := HNN.out; omega)
      have hnk := nodes_kid hki
      have HSN : Hid (((t.kids.map T.nodes).take (j + 1)).sum = ((t.kids.map T.nodes).take j).sum + k.nodes ∧ ((t.kids.map T.nodes).take (j + 1)).sum ≤ (t.kids.map T.nodes).sum) := by
        refine ⟨?_, sum_take_le _ _⟩
        have := sum_take_succ (l := t.kids.map T.nodes) (k := j) (by simp; have := HNN.out; omega)
        obtain ⟨hi, e⟩ := List.getElem?_eq_some_iff.1 hki
        simp only [List.getElem_map, e] at this
        exact this
      have hs2b : s + k.nodes ≤ 200001 := by
        have e1 := HR.out.1; have e2 := HSN.out; have e3 := HSUM.out
        omega
      have HYL : Hid (kys.length = j) := by
        show _ = _
        rw [HR.out.2.2, List.length_take, starts_len, List.length_map]
        have := HNN.out; omega
      have HKL : Hid (kks.length = j - 1) := by
        show _ = _
        rw [HR.out.2.1, List.length_tail, List.length_take, List.length_map]
        have := HNN.out; omega
      have HYS : Hid (kys ++ [(s : Int)] = (startsN (m0 + 1) (t.kids.map T.nodes)).take (j + 1)) := by
        show _ = _
        rw [starts_take _ _ _ (by simp; have := HNN.out; omega), HR.out.2.2, HR.out.1]
      -- the number
      have ab := (Below.refl wr.heap.size wr).alloc (Nat.le_refl _) (.cells #[.int .i64 (s : Int)] 2)
      have F3 := F2.below ab
      obtain ⟨x0, x1, x2, x3, x4, x5⟩ := box6 F2.x.xn
      rw [HYL.out] at x5
      have hry := F3.ry
      rw [HYL.out] at hry
      have HPY : Hid (∀ v' w4, w4.ownsRow (N + 2) 2 1 v' (j + 1) (rowsOf intCells kys ++ [.int .i64 (s : Int)]) → (wr.alloc (.cells #[.int .i64 (s : Int)] 2)).grownBy w4 (Value.slice kya j kyc).ownBlock → (v'.ownBlock = (Value.slice kya j kyc).ownBlock ∨ ∀ g, v'.ownBlock = some g → (wr.alloc (.cells #[.int .i64 (s : Int)] 2)).heap.size ≤ g) → ∃ ya' yc', v' = .slice ya' (j + 1) yc' ∧ FIn w (w4.setCell ⟨N + 1, 5, none⟩ v') N #[.bool false, .int .i64 p, .slice ka kn kc, .slice va vn vc, .slice oa on oc, .slice (some ⟨b, off, none⟩) n yc] p kka kkc ya' yc' kks (kys ++ [(s : Int)]) ∧ w4.heap[N + 1]? = some (.cells #[.bool false, .int .i64 p, .slice kka kks.length kkc, .slice none 0 0, .slice none 0 0, .slice kya j kyc] 92)) := by
        intro v' w4 h1 h2 h3
        rw [← HYL.out] at h1 h2 h3
        have := F3.pushY h1 h2 h3
        rw [HYL.out] at this
        exact this
      have hNs : N + 2 ≤ (wr.alloc (.cells #[.int .i64 (s : Int)] 2)).heap.size := by have := ab.size; omega
      have hfit : s ≤ 300000 := by omega
      clear F3 ab c0 c1 c2 c3 c4 c5 hXk
      go_upto_region 12 with (at_builtin; refine wpList_append_ownD _ rfl _ _ 59 rfl (N + 2) 2 ii _ 1 8 Try.underlying59 hii hi0 hi1 hi2 rfl (by decide) (.slice kya j kyc) j (rowsOf intCells kys) rfl hry ⟨wr.heap.size, 0, none⟩ 1 1 [.int .i64 (s : Int)] rfl rfl (cell_one_new _ _ _) (by simp [Value.oneCell']) (by unfold maxLen; omega) (by omega) hNs ?_; intro v' w4 h1 h2 h3; obtain ⟨kya', kyc', rfl, FP, XB4⟩ := HPY.out v' w4 h1 h2 h3; have l4 := (Array.getElem?_eq_some_iff.1 XB4).1; obtain ⟨y0, y1, y2, y3, y4, y5⟩ := box6 XB4; have f4 := thawT XB4; clear h1 h2 h3 HPY hry)
      generalize w4.setCell ⟨N + 1, 5, none⟩ (.slice kya' (j + 1) kyc') = W4 at FP ⊢
      clear y0 y1 y2 y3 y4 y5 f4 XB4 l4 x0 x1 x2 x3 x4 x5 n0 n1 n2 n3 n4 n5 hNs l0 hxl F2
      obtain ⟨n0, n1, n2, n3, n4, n5⟩ := box6 FP.x.bn
      have hxl := FP.x.lt
      have l0 : N < W4.heap.size := by omega
      obtain ⟨b', off', e', hbl', k', hki', hkm', ka', kn', kc', va', vn', vc', oa', on', oc', ya', yc', css', hXk, c0, c1, c2, c3, c4, c5⟩ := (HX.out.belowC (FP.x.bel.mono hCN)).at (i := j) (by have := HNN.out; omega)
      cases e'
      obtain rfl : k' = k := by rw [hki] at hki'; exact (Option.some.inj hki').symm
      have hCw : C ≤ W4.heap.size := by omega
      go_upto_region 13 with fail
      refine (l3Nodes_any C k' (by omega) W4 ka' kn' kc' va' vn' vc' oa' on' oc' ya' yc' css' hCw hXk).mono ?_
      rintro e w5 ⟨rfl, hb5⟩
      have FQ := FP.below hb5
      have hXk2 := hXk.belowC (hb5.mono hCw)
      have hCw5 : C ≤ w5.heap.size := Nat.le_trans hCw hb5.size
      have HS0 : Hid (∀ w' : World, w'.heap[b]? = W4.heap[b]? → w'.heap[N]? = W4.heap[N]? → (fun w' : World => w'.cell? ⟨N, 5, none⟩ = some (.slice (some ⟨b, off, none⟩) n yc) ∧ w'.cell? ⟨b, off + j * 6, none⟩ = some (.bool k'.leaf) ∧ w'.cell? ⟨b, off + j * 6 + 1, none⟩ = some (.int .i64 k'.page) ∧ w'.cell? ⟨b, off + j * 6 + 2, none⟩ = some (.slice ka' kn' kc') ∧ w'.cell? ⟨b, off + j * 6 + 3, none⟩ = some (.slice va' vn' vc') ∧ w'.cell? ⟨b, off + j * 6 + 4, none⟩ = some (.slice oa' on' oc') ∧ w'.cell? ⟨b, off + j * 6 + 5, none⟩ = some (.slice ya' k'.kids.length yc')) w') := fun w' h1 h2 =>
        ⟨(World.cell?_of_block (w := W4) (a := ⟨N, 5, none⟩) h2).trans n5, (World.cell?_of_block (w := W4) (a := ⟨b, off + j * 6, none⟩) h1).trans c0, (World.cell?_of_block (w := W4) (a := ⟨b, off + j * 6 + 1, none⟩) h1).trans c1, (World.cell?_of_block (w := W4) (a := ⟨b, off + j * 6 + 2, none⟩) h1).trans c2, (World.cell?_of_block (w := W4) (a := ⟨b, off + j * 6 + 3, none⟩) h1).trans c3, (World.cell?_of_block (w := W4) (a := ⟨b, off + j * 6 + 4, none⟩) h1).trans c4, (World.cell?_of_block (w := W4) (a := ⟨b, off + j * 6 + 5, none⟩) h1).trans c5⟩
      have HS1 : Hid (∀ w' : World, w'.heap[b]? = w5.heap[b]? → w'.heap[N]? = w5.heap[N]? → (fun w' : World => w'.cell? ⟨N, 5, none⟩ = some (.slice (some ⟨b, off, none⟩) n yc) ∧ w'.cell? ⟨b, off + j * 6, none⟩ = some (.bool k'.leaf) ∧ w'.cell? ⟨b, off + j * 6 + 1, none⟩ = some (.int .i64 k'.page) ∧ w'.cell? ⟨b, off + j * 6 + 2, none⟩ = some (.slice ka' kn' kc') ∧ w'.cell? ⟨b, off + j * 6 + 3, none⟩ = some (.slice va' vn' vc') ∧ w'.cell? ⟨b, off + j * 6 + 4, none⟩ = some (.slice oa' on' oc') ∧ w'.cell? ⟨b, off + j * 6 + 5, none⟩ = some (.slice ya' k'.kids.length yc')) w') := fun w' h1 h2 => HS0.out w' (h1.trans (hb5.block b (by omega))) (h2.trans (hb5.block N (by omega)))
      have hbN : b < N := by omega
      clear n0 n1 n2 n3 n4 n5 l0 hxl c0 c1 c2 c3 c4 c5 FP hXk hb5 hCw hki' hkm' HS0
      obtain ⟨kl, hkl⟩ : ∃ kl, kks.length = kl := ⟨_, rfl⟩
      have HKK : Hid (kks.length = kl) := hkl
      have hkl4 : kl ≤ 4 := by have := HKL.out; omega
      clear hkl
      generalize w5 = Wd at FQ hXk2 hCw5 HS1 ⊢
      have HR2 : Hid (s + k'.nodes = m0 + 1 + ((t.kids.map T.nodes).take (j + 1)).sum) := by
        show _ = _
        have e1 := HR.out.1; have e2 := HSN.out.1
        omega
      have hLow := l3Low_any C k' ⟨false, HKG.out k' hkm⟩
      have hkl2 := List.getElem?_eq_some_iff.1 hki
      by_cases tj : 0 < j
      · have hrow := FQ.rk
        rw [HKK.out] at hrow
        have KPos : Hid (kks ++ [k'.low] = ((t.kids.map T.low).take (j + 1)).tail) := by
          show _ = _
          rw [tail_take _ _ (by simp; have := HNN.out; omega) tj, HR.out.2.1]
          obtain ⟨hi, e⟩ := hkl2
          simp [e]
        obtain ⟨lo1, hlo1⟩ : ∃ lo1, k'.low = lo1 := ⟨_, rfl⟩
        rw [hlo1] at KPos hLow
        clear hlo1
        have hXd := hXk2.belowC (((Below.refl Wd.heap.size Wd).drew).mono hCw5)
        have hxl := FQ.x.lt
        have SS : Hid (∀ w', Below Wd.heap.size Wd w' → (fun w' : World => w'.cell? ⟨N, 5, none⟩ = some (.slice (some ⟨b, off, none⟩) n yc) ∧ w'.cell? ⟨b, off + j * 6, none⟩ = some (.bool k'.leaf) ∧ w'.cell? ⟨b, off + j * 6 + 1, none⟩ = some (.int .i64 k'.page) ∧ w'.cell? ⟨b, off + j * 6 + 2, none⟩ = some (.slice ka' kn' kc') ∧ w'.cell? ⟨b, off + j * 6 + 3, none⟩ = some (.slice va' vn' vc') ∧ w'.cell? ⟨b, off + j * 6 + 4, none⟩ = some (.slice oa' on' oc') ∧ w'.cell? ⟨b, off + j * 6 + 5, none⟩ = some (.slice ya' k'.kids.length yc')) w') := fun w' hb => HS1.out w' (hb.block b (by omega)) (hb.block N (by omega))
        have XN : Hid (∀ w', Below Wd.heap.size Wd w' → w'.heap[N + 1]? = some (.cells #[.bool false, .int .i64 p, .slice kka kl kkc, .slice none 0 0, .slice none 0 0, .slice kya' (j + 1) kyc'] 92)) := fun w' hb => by
          have := (hb.block (N + 1) FQ.x.lt).trans FQ.x.xn
          simpa [HKK.out, HYL.out] using this
        have RK : Hid (∀ w', Below Wd.heap.size Wd w' → w'.ownsRow (N + 2) 9 1 (.slice kka kl kkc) kl (rowsOf strCells kks)) := fun w' hb => owns_below hrow hb
        have PU : Hid (∀ W3, Below Wd.heap.size Wd W3 → ∀ u4 w4, w4.ownsRow (N + 2) 9 1 u4 (kl + 1) (rowsOf strCells kks ++ [.string lo1]) → W3.grownBy w4 (Value.slice kka kl kkc).ownBlock → (u4.ownBlock = (Value.slice kka kl kkc).ownBlock ∨ ∀ g, u4.ownBlock = some g → W3.heap.size ≤ g) → ∃ kka' kkc', u4 = .slice kka' (kl + 1) kkc' ∧ FIn w (w4.setCell ⟨N + 1, 2, none⟩ u4) N #[.bool false, .int .i64 p, .slice ka kn kc, .slice va vn vc, .slice oa on oc, .slice (some ⟨b, off, none⟩) n yc] p kka' kkc' kya' kyc' (kks ++ [lo1]) (kys ++ [(s : Int)]) ∧ w4.heap[N + 1]? = some (.cells #[.bool false, .int .i64 p, .slice kka kl kkc, .slice none 0 0, .slice none 0 0, .slice kya' (j + 1) kyc'] 92) ∧ (fun w' : World => w'.cell? ⟨N, 5, none⟩ = some (.slice (some ⟨b, off, none⟩) n yc) ∧ w'.cell? ⟨b, off + j * 6, none⟩ = some (.bool k'.leaf) ∧ w'.cell? ⟨b, off + j * 6 + 1, none⟩ = some (.int .i64 k'.page) ∧ w'.cell? ⟨b, off + j * 6 + 2, none⟩ = some (.slice ka' kn' kc') ∧ w'.cell? ⟨b, off + j * 6 + 3, none⟩ = some (.slice va' vn' vc') ∧ w'.cell? ⟨b, off + j * 6 + 4, none⟩ = some (.slice oa' on' oc') ∧ w'.cell? ⟨b, off + j * 6 + 5, none⟩ = some (.slice ya' k'.kids.length yc')) w4 ∧ (fun w' : World => w'.cell? ⟨N, 5, none⟩ = some (.slice (some ⟨b, off, none⟩) n yc) ∧ w'.cell? ⟨b, off + j * 6, none⟩ = some (.bool k'.leaf) ∧ w'.cell? ⟨b, off + j * 6 + 1, none⟩ = some (.int .i64 k'.page) ∧ w'.cell? ⟨b, off + j * 6 + 2, none⟩ = some (.slice ka' kn' kc') ∧ w'.cell? ⟨b, off + j * 6 + 3, none⟩ = some (.slice va' vn' vc') ∧ w'.cell? ⟨b, off + j * 6 + 4, none⟩ = some (.slice oa' on' oc') ∧ w'.cell? ⟨b, off + j * 6 + 5, none⟩ = some (.slice ya' k'.kids.length yc')) (w4.setCell ⟨N + 1, 2, none⟩ u4)) := by
          intro W3 hb u4 w4 h1 h2 h3
          have F3 := FQ.below hb
          rw [← HKK.out] at h1 h2 h3
          obtain ⟨kka', kkc', e, hFI, hx⟩ := F3.pushK h1 h2 h3
          have hb3 := hb.size
          have hlow : ∀ q, q < N + 2 → w4.heap[q]? = Wd.heap[q]? := fun q hq => (h2.block q (by omega) (fun e2 => by have := (F3.rk.lt q e2.symm).1; omega)).trans (hb.block q (by omega))
          have hst := fr_setT w4 (N + 1) 2 u4
          have hs4 := h2.size
          refine ⟨kka', kkc', by rw [e, HKK.out], hFI, ?_, HS1.out _ (hlow b (by omega)) (hlow N (by omega)), HS1.out _ ((hst.block b (by omega) (by omega)).trans (hlow b (by omega))) ((hst.block N (by omega) (by omega)).trans (hlow N (by omega)))⟩
          simpa [HKK.out, HYL.out] using hx
        have hlt2 : j + 1 ≤ n := hlt
        have hNw : N + 2 ≤ Wd.heap.size := hxl
        clear hrow HS1 FQ HR HKL HKK HSN hkl2 hki hkm HYL hXk2
        go_upto_region 14 with fail
        refine wp_region_noPanic ?_
        refine wp_region_held_drew (S := (fun w' : World => w'.cell? ⟨N, 5, none⟩ = some (.slice (some ⟨b, off, none⟩) n yc) ∧ w'.cell? ⟨b, off + j * 6, none⟩ = some (.bool k'.leaf) ∧ w'.cell? ⟨b, off + j * 6 + 1, none⟩ = some (.int .i64 k'.page) ∧ w'.cell? ⟨b, off + j * 6 + 2, none⟩ = some (.slice ka' kn' kc') ∧ w'.cell? ⟨b, off + j * 6 + 3, none⟩ = some (.slice va' vn' vc') ∧ w'.cell? ⟨b, off + j * 6 + 4, none⟩ = some (.slice oa' on' oc') ∧ w'.cell? ⟨b, off + j * 6 + 5, none⟩ = some (.slice ya' k'.kids.length yc'))) (by kernel_rfl) (SS.out Wd (Below.refl _ _)) (fun hHeld => ?_)
        refine wpAnyH_take (i := 0) (oi := { dst := some 61, op := Op.fieldAddr 92 (Operand.tmp 5) 2, type := 0, pos := "l3_tree.go:55", after := #[], guard := none }) (v := ?_) rfl (by kernel_rfl) (by kernel_rfl) (by kernel_rfl) (fun _ _ _ h => h) (Or.inl ⟨by rfl, ?_⟩) (by assumption) ?_
        rotate_left 1
        · intro wq hSw; (try dsimp only at hSw); obtain ⟨q0, q1, q2, q3, q4, q5, q6⟩ := hSw; go_simp; try (with_reducible rfl)
        try simp only [Act.put, List.setIfInBounds_toArray, List.set_cons_zero, List.set_cons_succ]
        refine wpAnyH_take (i := 2) (oi := { dst := some 63, op := Op.fieldAddr 61 (Operand.tmp 3) 5, type := 0, pos := "l3_tree.go:55", after := #[], guard := none }) (v := ?_) rfl (by kernel_rfl) (by kernel_rfl) (by kernel_rfl) (fun _ _ _ h => h) (Or.inl ⟨by rfl, ?_⟩) (by assumption) ?_
        rotate_left 1
        · intro wq hSw; (try dsimp only at hSw); obtain ⟨q0, q1, q2, q3, q4, q5, q6⟩ := hSw; go_simp; try (with_reducible rfl)
        try simp only [Act.put, List.setIfInBounds_toArray, List.set_cons_zero, List.set_cons_succ]
        refine wpAnyH_take (i := 3) (oi := { dst := some 64, op := Op.load 55 (Operand.tmp 63), type := 55, pos := "l3_tree.go:55", after := #[{ on := 2, ground := Ground.data }], guard := none }) (v := .slice (some ⟨b, off, none⟩) n yc) rfl (by kernel_rfl) (by kernel_rfl) (by kernel_rfl) (fun _ _ _ h => h) (Or.inl ⟨by rfl, ?_⟩) (by assumption) ?_
        · intro wq hSw; (try dsimp only at hSw); obtain ⟨q0, q1, q2, q3, q4, q5, q6⟩ := hSw; go_simp
        try simp only [Act.put, List.setIfInBounds_toArray, List.set_cons_zero, List.set_cons_succ]
        refine wpAnyH_take (i := 4) (oi := { dst := some 65, op := Op.move (Operand.tmp 7), type := 3, pos := "l3_tree.go:55", after := #[], guard := none }) (v := ?_) rfl (by kernel_rfl) (by kernel_rfl) (by kernel_rfl) (fun _ _ _ h => h) (Or.inl ⟨by rfl, ?_⟩) (by assumption) ?_
        rotate_left 1
        · intro wq hSw; (try dsimp only at hSw); obtain ⟨q0, q1, q2, q3, q4, q5, q6⟩ := hSw; go_simp; try (with_reducible rfl)
        try simp only [Act.put, List.setIfInBounds_toArray, List.set_cons_zero, List.set_cons_succ]
        refine wpAnyH_take (i := 5) (oi := { dst := some 66, op := Op.indexAddr 55 (Operand.tmp 64) (Operand.tmp 65), type := 0, pos := "l3_tree.go:55", after := #[{ on := 3, ground := Ground.data }, { on := 4, ground := Ground.data }], guard := none }) (v := .pointer (some ⟨b, off + j * 6, none⟩)) rfl (by kernel_rfl) (by kernel_rfl) (by kernel_rfl) (fun _ _ _ h => h) (Or.inl ⟨by rfl, ?_⟩) (by assumption) ?_
        · intro wq hSw; (try dsimp only at hSw); obtain ⟨q0, q1, q2, q3, q4, q5, q6⟩ := hSw; go_simp
        try simp only [Act.put, List.setIfInBounds_toArray, List.set_cons_zero, List.set_cons_succ]
        refine wpAnyH_take (i := 6) (oi := { dst := some 67, op := Op.load 61 (Operand.tmp 66), type := 61, pos := "l3_tree.go:55", after := #[{ on := 5, ground := Ground.data }], guard := none }) (v := .agg #[.bool k'.leaf, .int .i64 k'.page, .slice ka' kn' kc', .slice va' vn' vc', .slice oa' on' oc', .slice ya' k'.kids.length yc']) rfl (by kernel_rfl) (by kernel_rfl) (by kernel_rfl) (fun _ _ _ h => h) (Or.inl ⟨by rfl, ?_⟩) (by assumption) ?_
        · intro wq hSw; (try dsimp only at hSw); obtain ⟨q0, q1, q2, q3, q4, q5, q6⟩ := hSw; go_simp
        try simp only [Act.put, List.setIfInBounds_toArray, List.set_cons_zero, List.set_cons_succ]
        refine wpAnyH_ready (rs := [1, 7]) (by kernel_rfl) (by simp) ?_
        refine AllReadyH.cons (o := { dst := some 62, op := Op.load 58 (Operand.tmp 61), type := 58, pos := "l3_tree.go:55", after := #[{ on := 0, ground := Ground.data }], guard := none }) rfl (fun K hK => ?_) ?_
        rotate_left 1
        refine AllReadyH.cons (o := { dst := some 68, op := Op.call { callee := Callee.value (Operand.func 69), args := #[Operand.tmp 67], argTypes := #[61] }, type := 9, pos := "l3_tree.go:55", after := #[{ on := 6, ground := Ground.data }], guard := none }) rfl (fun K hK => ?_) ?_
        rotate_left 1
        exact AllReadyH.nil
        · obtain ⟨x0, x1, x2, x3, x4, x5⟩ := box6 (XN.out Wd (Below.refl _ _))
          go_simp
          clear x0 x1 x2 x3 x4 x5
          refine hK.out _ _ (SS.out Wd (Below.refl _ _)) (fun hHeld => ?_)
          clear hK K
          try simp only [Act.put, List.setIfInBounds_toArray, List.set_cons_zero, List.set_cons_succ]
          refine wpAnyH_ready (rs := [7]) (by kernel_rfl) (by simp) ?_
          refine AllReadyH.cons (o := { dst := some 68, op := Op.call { callee := Callee.value (Operand.func 69), args := #[Operand.tmp 67], argTypes := #[61] }, type := 9, pos := "l3_tree.go:55", after := #[{ on := 6, ground := Ground.data }], guard := none }) rfl (fun K hK => ?_) ?_
          rotate_left 1
          exact AllReadyH.nil
          · go_simp
            refine (hLow Wd.drew ka' kn' kc' va' vn' vc' oa' on' oc' ya' yc' css' hCw5 hXd).mono ?_
            rintro e w2 ⟨rfl, hb2x⟩
            have hb2 : Below Wd.heap.size Wd w2 := ((Below.refl _ Wd).drew).trans hb2x
            clear hb2x
            go_wp2_with fail
            refine hK.out _ _ (SS.out w2 hb2) (fun hHeld => ?_)
            clear hK K
            try simp only [Act.put, List.setIfInBounds_toArray, List.set_cons_zero, List.set_cons_succ]
            refine wpAnyH_ready (rs := [8]) (by kernel_rfl) (by simp) ?_
            refine AllReadyH.cons (o := { dst := some 69, op := Op.buildSlice 58 1 #[(0, Operand.tmp 68)], type := 58, pos := "l3_tree.go:55", after := #[{ on := 7, ground := Ground.data }], guard := none }) rfl (fun K hK => ?_) ?_
            rotate_left 1
            exact AllReadyH.nil
            · have hb3 : Below Wd.heap.size Wd (w2.alloc (.cells #[.string lo1] 9)) := hb2.trans (((Below.refl _ _).alloc (Nat.le_refl _) _).mono hb2.size)
              go_simp
              refine hK.out _ _ (SS.out _ hb3) (fun hHeld => ?_)
              clear hK K
              try simp only [Act.put, List.setIfInBounds_toArray, List.set_cons_zero, List.set_cons_succ]
              refine wpAnyH_ready (rs := [9]) (by kernel_rfl) (by simp) ?_
              refine AllReadyH.cons (o := { dst := some 70, op := Op.call { callee := Callee.builtin Builtin.append, args := #[Operand.tmp 62, Operand.tmp 69], argTypes := #[58, 58] }, type := 58, pos := "l3_tree.go:55", after := #[{ on := 1, ground := Ground.data }, { on := 8, ground := Ground.data }, { on := 7, ground := Ground.chain }], guard := none }) rfl (fun K hK => ?_) ?_
              rotate_left 1
              exact AllReadyH.nil
              · have hrow3 := RK.out _ hb3
                refine step_append_T rfl _ _ 58 rfl (N + 2) 9 is _ 1 16 Try.underlying58 his hs0 hs1 hs2 rfl (by decide) (.slice kka kl kkc) kl (rowsOf strCells kks) (by simp [Act.eval]) hrow3 ⟨w2.heap.size, 0, none⟩ 1 1 [.string lo1] (by simp [Act.eval]) rfl (cell_one_new _ _ _) (by simp [Value.oneCell']) (by unfold maxLen; omega) (by omega) (by have := hb3.size; omega) ?_
                intro u4 w4 hown4 hgr hlies
                obtain ⟨kka', kkc', rfl, FP, XB4, SS4⟩ := PU.out _ hb3 u4 w4 hown4 hgr hlies
                refine hK.out _ _ SS4.1 (fun hHeld => ?_)
                clear hK K
                try simp only [Act.put, List.setIfInBounds_toArray, List.set_cons_zero, List.set_cons_succ]
                refine wpAnyH_take (i := 10) (oi := { dst := some 71, op := Op.fieldAddr 92 (Operand.tmp 5) 2, type := 0, pos := "l3_tree.go:55", after := #[{ on := 0, ground := Ground.phase }, { on := 1, ground := Ground.phase }, { on := 2, ground := Ground.phase }, { on := 3, ground := Ground.phase }, { on := 4, ground := Ground.phase }, { on := 5, ground := Ground.phase }, { on := 6, ground := Ground.phase }, { on := 7, ground := Ground.phase }, { on := 8, ground := Ground.phase }, { on := 9, ground := Ground.phase }], guard := none }) (v := ?_) rfl (by kernel_rfl) (by kernel_rfl) (by kernel_rfl) (fun _ _ _ h => h) (Or.inl ⟨by rfl, ?_⟩) (by assumption) ?_
                rotate_left 1
                · intro wq hSw; (try dsimp only at hSw); obtain ⟨q0, q1, q2, q3, q4, q5, q6⟩ := hSw; go_simp; try (with_reducible rfl)
                try simp only [Act.put, List.setIfInBounds_toArray, List.set_cons_zero, List.set_cons_succ]
                refine wpAnyH_ready (rs := [11]) (by kernel_rfl) (by simp) ?_
                refine AllReadyH.cons (o := { dst := none, op := Op.store 58 (Operand.tmp 71) (Operand.tmp 70), type := 0, pos := "l3_tree.go:55", after := #[{ on := 10, ground := Ground.data }, { on := 9, ground := Ground.data }, { on := 9, ground := Ground.chain }, { on := 0, ground := Ground.phase }, { on := 1, ground := Ground.phase }, { on := 2, ground := Ground.phase }, { on := 3, ground := Ground.phase }, { on := 4, ground := Ground.phase }, { on := 5, ground := Ground.phase }, { on := 6, ground := Ground.phase }, { on := 7, ground := Ground.phase }, { on := 8, ground := Ground.phase }, { on := 9, ground := Ground.phase }], guard := none }) rfl (fun K hK => ?_) ?_
                rotate_left 1
                exact AllReadyH.nil
                · obtain ⟨x0, x1, x2, x3, x4, x5⟩ := box6 XB4
                  have fo := thawT XB4
                  go_simp
                  clear x0 x1 x2 x3 x4 x5 fo
                  refine hK.out _ _ SS4.2 (fun hHeld => ?_)
                  clear hK K
                  try simp only [Act.put, List.setIfInBounds_toArray, List.set_cons_zero, List.set_cons_succ]
                  refine wpAnyH_done (by kernel_rfl) ?_ _
                  refine NoPanic.normal ?_
                  clear hown4 hgr hlies hrow3 XB4 SS4 hHeld
                  go_wp2_with fail
                  go_roundw
                  case rel => exact ⟨j + 1, s + k'.nodes, kka', kkc', kya', kyc', kks ++ [lo1], kys ++ [(s : Int)], by omega, by go_num, by go_num, hs2b, ⟨HR2.out, KPos.out, HYS.out⟩, FP⟩
                  case measure => simp [intOf]; omega
        · go_simp
          refine (hLow Wd.drew ka' kn' kc' va' vn' vc' oa' on' oc' ya' yc' css' hCw5 hXd).mono ?_
          rintro e w2 ⟨rfl, hb2x⟩
          have hb2 : Below Wd.heap.size Wd w2 := ((Below.refl _ Wd).drew).trans hb2x
          clear hb2x
          go_wp2_with fail
          refine hK.out _ _ (SS.out w2 hb2) (fun hHeld => ?_)
          clear hK K
          try simp only [Act.put, List.setIfInBounds_toArray, List.set_cons_zero, List.set_cons_succ]
          refine wpAnyH_ready (rs := [1, 8]) (by kernel_rfl) (by simp) ?_
          refine AllReadyH.cons (o := { dst := some 62, op := Op.load 58 (Operand.tmp 61), type := 58, pos := "l3_tree.go:55", after := #[{ on := 0, ground := Ground.data }], guard := none }) rfl (fun K hK => ?_) ?_
          rotate_left 1
          refine AllReadyH.cons (o := { dst := some 69, op := Op.buildSlice 58 1 #[(0, Operand.tmp 68)], type := 58, pos := "l3_tree.go:55", after := #[{ on := 7, ground := Ground.data }], guard := none }) rfl (fun K hK => ?_) ?_
          rotate_left 1
          exact AllReadyH.nil
          · obtain ⟨x0, x1, x2, x3, x4, x5⟩ := box6 (XN.out w2 hb2)
            go_simp
            clear x0 x1 x2 x3 x4 x5
            refine hK.out _ _ (SS.out w2 hb2) (fun hHeld => ?_)
            clear hK K
            try simp only [Act.put, List.setIfInBounds_toArray, List.set_cons_zero, List.set_cons_succ]
            refine wpAnyH_ready (rs := [8]) (by kernel_rfl) (by simp) ?_
            refine AllReadyH.cons (o := { dst := some 69, op := Op.buildSlice 58 1 #[(0, Operand.tmp 68)], type := 58, pos := "l3_tree.go:55", after := #[{ on := 7, ground := Ground.data }], guard := none }) rfl (fun K hK => ?_) ?_
            rotate_left 1
            exact AllReadyH.nil
            · have hb3 : Below Wd.heap.size Wd (w2.alloc (.cells #[.string lo1] 9)) := hb2.trans (((Below.refl _ _).alloc (Nat.le_refl _) _).mono hb2.size)
              go_simp
              refine hK.out _ _ (SS.out _ hb3) (fun hHeld => ?_)
              clear hK K
              try simp only [Act.put, List.setIfInBounds_toArray, List.set_cons_zero, List.set_cons_succ]
              refine wpAnyH_ready (rs := [9]) (by kernel_rfl) (by simp) ?_
              refine AllReadyH.cons (o := { dst := some 70, op := Op.call { callee := Callee.builtin Builtin.append, args := #[Operand.tmp 62, Operand.tmp 69], argTypes := #[58, 58] }, type := 58, pos := "l3_tree.go:55", after := #[{ on := 1, ground := Ground.data }, { on := 8, ground := Ground.data }, { on := 7, ground := Ground.chain }], guard := none }) rfl (fun K hK => ?_) ?_
              rotate_left 1
              exact AllReadyH.nil
              · have hrow3 := RK.out _ hb3
                refine step_append_T rfl _ _ 58 rfl (N + 2) 9 is _ 1 16 Try.underlying58 his hs0 hs1 hs2 rfl (by decide) (.slice kka kl kkc) kl (rowsOf strCells kks) (by simp [Act.eval]) hrow3 ⟨w2.heap.size, 0, none⟩ 1 1 [.string lo1] (by simp [Act.eval]) rfl (cell_one_new _ _ _) (by simp [Value.oneCell']) (by unfold maxLen; omega) (by omega) (by have := hb3.size; omega) ?_
                intro u4 w4 hown4 hgr hlies
                obtain ⟨kka', kkc', rfl, FP, XB4, SS4⟩ := PU.out _ hb3 u4 w4 hown4 hgr hlies
                refine hK.out _ _ SS4.1 (fun hHeld => ?_)
                clear hK K
                try simp only [Act.put, List.setIfInBounds_toArray, List.set_cons_zero, List.set_cons_succ]
                refine wpAnyH_take (i := 10) (oi := { dst := some 71, op := Op.fieldAddr 92 (Operand.tmp 5) 2, type := 0, pos := "l3_tree.go:55", after := #[{ on := 0, ground := Ground.phase }, { on := 1, ground := Ground.phase }, { on := 2, ground := Ground.phase }, { on := 3, ground := Ground.phase }, { on := 4, ground := Ground.phase }, { on := 5, ground := Ground.phase }, { on := 6, ground := Ground.phase }, { on := 7, ground := Ground.phase }, { on := 8, ground := Ground.phase }, { on := 9, ground := Ground.phase }], guard := none }) (v := ?_) rfl (by kernel_rfl) (by kernel_rfl) (by kernel_rfl) (fun _ _ _ h => h) (Or.inl ⟨by rfl, ?_⟩) (by assumption) ?_
                rotate_left 1
                · intro wq hSw; (try dsimp only at hSw); obtain ⟨q0, q1, q2, q3, q4, q5, q6⟩ := hSw; go_simp; try (with_reducible rfl)
                try simp only [Act.put, List.setIfInBounds_toArray, List.set_cons_zero, List.set_cons_succ]
                refine wpAnyH_ready (rs := [11]) (by kernel_rfl) (by simp) ?_
                refine AllReadyH.cons (o := { dst := none, op := Op.store 58 (Operand.tmp 71) (Operand.tmp 70), type := 0, pos := "l3_tree.go:55", after := #[{ on := 10, ground := Ground.data }, { on := 9, ground := Ground.data }, { on := 9, ground := Ground.chain }, { on := 0, ground := Ground.phase }, { on := 1, ground := Ground.phase }, { on := 2, ground := Ground.phase }, { on := 3, ground := Ground.phase }, { on := 4, ground := Ground.phase }, { on := 5, ground := Ground.phase }, { on := 6, ground := Ground.phase }, { on := 7, ground := Ground.phase }, { on := 8, ground := Ground.phase }, { on := 9, ground := Ground.phase }], guard := none }) rfl (fun K hK => ?_) ?_
                rotate_left 1
                exact AllReadyH.nil
                · obtain ⟨x0, x1, x2, x3, x4, x5⟩ := box6 XB4
                  have fo := thawT XB4
                  go_simp
                  clear x0 x1 x2 x3 x4 x5 fo
                  refine hK.out _ _ SS4.2 (fun hHeld => ?_)
                  clear hK K
                  try simp only [Act.put, List.setIfInBounds_toArray, List.set_cons_zero, List.set_cons_succ]
                  refine wpAnyH_done (by kernel_rfl) ?_ _
                  refine NoPanic.normal ?_
                  clear hown4 hgr hlies hrow3 XB4 SS4 hHeld
                  go_wp2_with fail
                  go_roundw
                  case rel => exact ⟨j + 1, s + k'.nodes, kka', kkc', kya', kyc', kks ++ [lo1], kys ++ [(s : Int)], by omega, by go_num, by go_num, hs2b, ⟨HR2.out, KPos.out, HYS.out⟩, FP⟩
                  case measure => simp [intOf]; omega
          · have hb3 : Below Wd.heap.size Wd (w2.alloc (.cells #[.string lo1] 9)) := hb2.trans (((Below.refl _ _).alloc (Nat.le_refl _) _).mono hb2.size)
            go_simp
            refine hK.out _ _ (SS.out _ hb3) (fun hHeld => ?_)
            clear hK K
            try simp only [Act.put, List.setIfInBounds_toArray, List.set_cons_zero, List.set_cons_succ]
            refine wpAnyH_ready (rs := [1]) (by kernel_rfl) (by simp) ?_
            refine AllReadyH.cons (o := { dst := some 62, op := Op.load 58 (Operand.tmp 61), type := 58, pos := "l3_tree.go:55", after := #[{ on := 0, ground := Ground.data }], guard := none }) rfl (fun K hK => ?_) ?_
            rotate_left 1
            exact AllReadyH.nil
            · obtain ⟨x0, x1, x2, x3, x4, x5⟩ := box6 (XN.out (w2.alloc (.cells #[.string lo1] 9)) hb3)
              go_simp
              clear x0 x1 x2 x3 x4 x5
              refine hK.out _ _ (SS.out (w2.alloc (.cells #[.string lo1] 9)) hb3) (fun hHeld => ?_)
              clear hK K
              try simp only [Act.put, List.setIfInBounds_toArray, List.set_cons_zero, List.set_cons_succ]
              refine wpAnyH_ready (rs := [9]) (by kernel_rfl) (by simp) ?_
              refine AllReadyH.cons (o := { dst := some 70, op := Op.call { callee := Callee.builtin Builtin.append, args := #[Operand.tmp 62, Operand.tmp 69], argTypes := #[58, 58] }, type := 58, pos := "l3_tree.go:55", after := #[{ on := 1, ground := Ground.data }, { on := 8, ground := Ground.data }, { on := 7, ground := Ground.chain }], guard := none }) rfl (fun K hK => ?_) ?_
              rotate_left 1
              exact AllReadyH.nil
              · have hrow3 := RK.out _ hb3
                refine step_append_T rfl _ _ 58 rfl (N + 2) 9 is _ 1 16 Try.underlying58 his hs0 hs1 hs2 rfl (by decide) (.slice kka kl kkc) kl (rowsOf strCells kks) (by simp [Act.eval]) hrow3 ⟨w2.heap.size, 0, none⟩ 1 1 [.string lo1] (by simp [Act.eval]) rfl (cell_one_new _ _ _) (by simp [Value.oneCell']) (by unfold maxLen; omega) (by omega) (by have := hb3.size; omega) ?_
                intro u4 w4 hown4 hgr hlies
                obtain ⟨kka', kkc', rfl, FP, XB4, SS4⟩ := PU.out _ hb3 u4 w4 hown4 hgr hlies
                refine hK.out _ _ SS4.1 (fun hHeld => ?_)
                clear hK K
                try simp only [Act.put, List.setIfInBounds_toArray, List.set_cons_zero, List.set_cons_succ]
                refine wpAnyH_take (i := 10) (oi := { dst := some 71, op := Op.fieldAddr 92 (Operand.tmp 5) 2, type := 0, pos := "l3_tree.go:55", after := #[{ on := 0, ground := Ground.phase }, { on := 1, ground := Ground.phase }, { on := 2, ground := Ground.phase }, { on := 3, ground := Ground.phase }, { on := 4, ground := Ground.phase }, { on := 5, ground := Ground.phase }, { on := 6, ground := Ground.phase }, { on := 7, ground := Ground.phase }, { on := 8, ground := Ground.phase }, { on := 9, ground := Ground.phase }], guard := none }) (v := ?_) rfl (by kernel_rfl) (by kernel_rfl) (by kernel_rfl) (fun _ _ _ h => h) (Or.inl ⟨by rfl, ?_⟩) (by assumption) ?_
                rotate_left 1
                · intro wq hSw; (try dsimp only at hSw); obtain ⟨q0, q1, q2, q3, q4, q5, q6⟩ := hSw; go_simp; try (with_reducible rfl)
                try simp only [Act.put, List.setIfInBounds_toArray, List.set_cons_zero, List.set_cons_succ]
                refine wpAnyH_ready (rs := [11]) (by kernel_rfl) (by simp) ?_
                refine AllReadyH.cons (o := { dst := none, op := Op.store 58 (Operand.tmp 71) (Operand.tmp 70), type := 0, pos := "l3_tree.go:55", after := #[{ on := 10, ground := Ground.data }, { on := 9, ground := Ground.data }, { on := 9, ground := Ground.chain }, { on := 0, ground := Ground.phase }, { on := 1, ground := Ground.phase }, { on := 2, ground := Ground.phase }, { on := 3, ground := Ground.phase }, { on := 4, ground := Ground.phase }, { on := 5, ground := Ground.phase }, { on := 6, ground := Ground.phase }, { on := 7, ground := Ground.phase }, { on := 8, ground := Ground.phase }, { on := 9, ground := Ground.phase }], guard := none }) rfl (fun K hK => ?_) ?_
                rotate_left 1
                exact AllReadyH.nil
                · obtain ⟨x0, x1, x2, x3, x4, x5⟩ := box6 XB4
                  have fo := thawT XB4
                  go_simp
                  clear x0 x1 x2 x3 x4 x5 fo
                  refine hK.out _ _ SS4.2 (fun hHeld => ?_)
                  clear hK K
                  try simp only [Act.put, List.setIfInBounds_toArray, List.set_cons_zero, List.set_cons_succ]
                  refine wpAnyH_done (by kernel_rfl) ?_ _
                  refine NoPanic.normal ?_
                  clear hown4 hgr hlies hrow3 XB4 SS4 hHeld
                  go_wp2_with fail
                  go_roundw
                  case rel => exact ⟨j + 1, s + k'.nodes, kka', kkc', kya', kyc', kks ++ [lo1], kys ++ [(s : Int)], by omega, by go_num, by go_num, hs2b, ⟨HR2.out, KPos.out, HYS.out⟩, FP⟩
                  case measure => simp [intOf]; omega
      · obtain rfl : j = 0 := by omega
        have HK' : Hid (kks = ((t.kids.map T.low).take (0 + 1)).tail) := by
          show _ = _
          rw [HR.out.2.1]
          cases t.kids.map T.low <;> simp
        clear hXk2 HR HKL HKK HSN HS1 hLow
        generalize k'.nodes = kn0 at *
        go_wp2_with fail
        go_roundw
        case rel => exact ⟨0 + 1, s + kn0, kka, kkc, kya', kyc', kks, kys ++ [(s : Int)], by omega, by go_num, by go_num, hs2b, ⟨HR2.out, HK'.out, HYS.out⟩, FQ⟩
        case measure => simp [intOf]; omega
    · have hnj : j = n := by omega
      subst hnj
      clear n0 n1 n2 n3 n4 n5
      have HKS : Hid (kks = t.kids.tail.map T.low) := by
        show _ = _
        rw [HR.out.2.1, List.take_of_length_le (by simp; have := HNN.out; omega), List.map_tail]
      have HYS : Hid (kys = startsN (m0 + 1) (t.kids.map T.nodes)) := by
        show _ = _
        rw [HR.out.2.2, List.take_of_length_le (by rw [starts_len]; simp; have := HNN.out; omega)]
      have F7 : FlatAt wr lo g c css0 ts0 := HF.out.fr (S := fun k => N ≤ k) ⟨F2.x.bel.os, F2.x.bel.tape, F2.x.bel.output, F2.x.bel.size, fun k _ hk => F2.x.bel.block k (by omega)⟩ (fun k _ hk => by omega)
      have hfk : ∀ i, i < kks.length → strFit (kks.getD i ByteArray.empty) := fun i hi => by
        have hm : kks.getD i ByteArray.empty ∈ kks := by simp [List.getD, hi]
        rw [HKS.out] at hm
        obtain ⟨k, hk, e⟩ := List.mem_map.1 hm
        rw [HKS.out, ← e]
        exact HLW.out k (List.mem_of_mem_tail hk)
      have hfy : ∀ i, i < kys.length → I64 (kys.getD i 0) := fun i hi => by
        have hm : kys.getD i 0 ∈ kys := by simp [List.getD, hi]
        rw [HYS.out] at hm
        have := starts_bound _ _ _ hm
        rw [HYS.out]
        have h3 := HSUM.out
        constructor <;> omega
      have N7 : FNode wr lo g ⟨false, p, kks, [], [], kys⟩ [.bool false, .int .i64 p, .slice kka kks.length kkc, .slice none 0 0, .slice none 0 0, .slice kya kys.length kyc] :=
        ⟨_, _, _, none, 0, 0, none, 0, 0, _, _, _, rfl, hp, off_any sc1 (owns_base F2.rk (Nat.le_succ _)) rfl hfk (by omega) (by omega) (by omega), ⟨N, by omega, by omega, by omega, rfl, Nat.le_refl _, Nat.zero_le _, fun i hi => absurd hi (Nat.not_lt_zero _), fun h => absurd h (Nat.lt_irrefl _)⟩, ⟨N, by omega, by omega, by omega, rfl, Nat.le_refl _, Nat.zero_le _, fun i hi => absurd hi (Nat.not_lt_zero _), fun h => absurd h (Nat.lt_irrefl _)⟩, off_any ic1 (owns_base F2.ry (Nat.le_succ _)) rfl hfy (by omega) (by omega) (by omega)⟩
      have HB7 : Hid (Below N w wr) := F2.x.bel
      have X7 := F2.x.xn
      have B7 := F2.x.bn
      obtain ⟨kl, hkl⟩ : ∃ kl, kks.length = kl := ⟨_, rfl⟩
      obtain ⟨yl, hyl⟩ : ∃ yl, kys.length = yl := ⟨_, rfl⟩
      rw [hkl, hyl] at N7 X7
      rw [HKS.out, HYS.out] at N7
      clear hkl hyl hfk hfy F2 HKS HYS HR HSUM HKG HLW
      have ab := (Below.refl wr.heap.size wr).alloc (Nat.le_refl _) (.cells #[.bool false, .int .i64 p, .slice kka kl kkc, .slice none 0 0, .slice none 0 0, .slice kya yl kyc] 92)
      have F8 := F7.below ab
      have N8 := N7.keep (w' := (wr.alloc (.cells #[.bool false, .int .i64 p, .slice kka kl kkc, .slice none 0 0, .slice none 0 0, .slice kya yl kyc] 92))) (fun k _ h2 _ => ab.block k h2) (.inl rfl) ab.size
      obtain ⟨x0, x1, x2, x3, x4, x5⟩ := box6 X7
      obtain ⟨n0, n1, n2, n3, n4, n5⟩ := box6 B7
      have hrow := F8.row
      rw [HM0.out] at hrow
      have hcells := cell_six_new wr (.bool false) (.int .i64 p) (.slice kka kl kkc) (.slice none 0 0) (.slice none 0 0) (.slice kya yl kyc) 92
      rw [← HXT.out] at N8
      clear HXT N7 F7 X7
      have HEND : Hid (∀ g' c' w4, w4.ownsRow lo 92 6 (.slice (some ⟨g', 0, none⟩) (m0 + 1) c') (m0 + 1) (rowsC css0 m0 ++ [.bool false, .int .i64 p, .slice kka kl kkc, .slice none 0 0, .slice none 0 0, .slice kya yl kyc]) → (wr.alloc (.cells #[.bool false, .int .i64 p, .slice kka kl kkc, .slice none 0 0, .slice none 0 0, .slice kya yl kyc] 92)).grownBy w4 (some g) → (g' = g ∨ (wr.alloc (.cells #[.bool false, .int .i64 p, .slice kka kl kkc, .slice none 0 0, .slice none 0 0, .slice kya yl kyc] 92)).heap.size ≤ g') → FlatAt w4 lo g' c' (fun i => if i = ts0.length then [.bool false, .int .i64 p, .slice kka kl kkc, .slice none 0 0, .slice none 0 0, .slice kya yl kyc] else css0 i) (ts0 ++ [xt]) ∧ Fr (fun k => k = g) w w4 ∧ (g' = g ∨ N + 2 ≤ g') ∧ N + 2 ≤ w4.heap.size ∧ w4.heap[N]? = some (.cells #[.bool false, .int .i64 p, .slice ka kn kc, .slice va vn vc, .slice oa on oc, .slice ya j yc] 61)) := by
        intro g' c' w4 h1 h2 h3
        rw [← HM0.out] at h1
        have hb := HB7.out
        refine ⟨F8.push rfl N8 h1 h2 h3, ?_, h3.imp id (fun e => by have := ab.size; omega), by have := ab.size; have := h2.size; omega, ?_⟩
        · exact ⟨h2.os.trans (ab.os.trans hb.os), h2.tape.trans (ab.tape.trans hb.tape), h2.output.trans (ab.output.trans hb.output), Nat.le_trans hb.size (Nat.le_trans ab.size h2.size), fun k hk1 hk2 => (h2.block k (by have := hb.size; have := ab.size; omega) (by simpa using hk2)).trans ((ab.block k (by have := hb.size; omega)).trans (hb.block k (by omega)))⟩
        · exact (h2.block N (by have := ab.size; omega) (by simp; omega)).trans ((ab.block N (by omega)).trans B7)
      have hlo : lo ≤ (wr.alloc (.cells #[.bool false, .int .i64 p, .slice kka kl kkc, .slice none 0 0, .slice none 0 0, .slice kya yl kyc] 92)).heap.size := by have := ab.size; omega
      clear N8 F8 ab B7
      go_upto_region 16 with (at_builtin; refine wpList_append_nodeT _ rfl _ _ 24 rfl lo 92 ix _ 6 112 Try.underlying24 hix hx0 hx1 hx2 rfl (by decide) g m0 c _ rfl hrow ⟨wr.heap.size, 0, none⟩ 1 [.bool false, .int .i64 p, .slice kka kl kkc, .slice none 0 0, .slice none 0 0, .slice kya yl kyc] rfl rfl hcells (by simp [Value.oneCell']) (by unfold maxLen; omega) (by omega) hlo ?_; intro g' c' w4 h1 h2 h3; obtain ⟨R1, R2, R3, R5, R4⟩ := HEND.out g' c' w4 h1 h2 h3; clear h1 h2 h3 HEND hrow hcells x0 x1 x2 x3 x4 x5)
      have HX4 : Hid (∀ wx, Fr (fun k => k = g) w wx → NodeX wx 0 C (fun b => b < C) t ka kn kc va vn vc oa on oc ya yc css) := fun wx hf => HX.out.belowC (hf.below (by omega) (fun q e => by omega))
      clear n0 n1 n2 n3 n4 n5 HX HB7 HF hlo l0 hxl
      generalize w4 = V4 at R1 R2 R3 R4 R5 ⊢
      go_wp2_with fail
      go_loopw [0, 8] (fun o i wx => ∃ (q m gq cq : Nat) (cssq : Nat → List Value), q ≤ j ∧ i = .int .i64 q ∧ o = .slice (some ⟨gq, 0, none⟩) m cq ∧ m ≤ 100000 ∧ Hid (m = m0 + 1 + (offs (m0 + 1) ((t.kids.map T.flat).take q)).length) ∧ FlatAt wx lo gq cq cssq (ts0 ++ [xt] ++ offs (m0 + 1) ((t.kids.map T.flat).take q)) ∧ Fr (fun k => k = g) w wx ∧ (gq = g ∨ N + 2 ≤ gq) ∧ N + 2 ≤ wx.heap.size ∧ wx.heap[N]? = some (.cells #[.bool false, .int .i64 p, .slice ka kn kc, .slice va vn vc, .slice oa on oc, .slice ya j yc] 61)) (fun _ i _ => j - (intOf i).toNat)
      case atStart => exact ⟨0, m0 + 1, g', c', _, Nat.zero_le _, rfl, rfl, hmb, by show _ = _; simp [offs], by simpa [offs] using R1, R2, R3, R5, R4⟩
      case round =>
        clear R1 R2 R3 R4 R5
        obtain ⟨q, m, gq, cq, cssq, hq, rfl, rfl, hm, HM, R1, R2, R3, R5, R4⟩ := hrel
        obtain ⟨n0, n1, n2, n3, n4, n5⟩ := box6 R4
        have hsz := R2.size
        have l0 : N < wr.heap.size := (Array.getElem?_eq_some_iff.1 R4).1
        by_cases hlt : q < j
        · obtain ⟨b, off, rfl, hbl, k, hki, hkm, ka', kn', kc', va', vn', vc', oa', on', oc', ya', yc', css', hXk, c0, c1, c2, c3, c4, c5⟩ := (HX4.out _ R2).at (i := q) (by have := HNN.out; omega)
          have HLEN : Hid ((ts0 ++ [xt] ++ offs (m0 + 1) ((t.kids.map T.flat).take q)).length = m) := by
            show _ = _
            rw [List.length_append, List.length_append, HM.out, HM0.out]
            simp
          have hoff : offs (m0 + 1) ((t.kids.map T.flat).take (q + 1)) = offs (m0 + 1) ((t.kids.map T.flat).take q) ++ k.flat m := by
            obtain ⟨hi, e⟩ := List.getElem?_eq_some_iff.1 hki
            rw [offs_take _ _ _ (by simpa using hi), ← HM.out]
            simp [e]
          have hle := offs_take_le (m0 + 1) (t.kids.map T.flat) (q + 1)
          have hbk : m + (k.flat m).length ≤ 100000 := by
            rw [hoff, List.length_append] at hle
            have h1 := HM.out; have h2 := HBD.out
            omega
          have HOF : Hid _ := hoff
          have hcall := IH.out k hkm wr lo gq cq cssq _ ka' kn' kc' va' vn' vc' oa' on' oc' ya' yc' css' hC R1 hXk (by rw [HLEN.out]; exact hbk)
          rw [HLEN.out] at hcall
          have hgq := R1.lt
          clear hki hkm hoff hle
          go_wp2_with fail
          refine hcall.mono ?_
          rintro e w1 ⟨g1, c1', css1, rfl, P1, P2, P3⟩
          have HM2 : Hid (m + (k.flat m).length = m0 + 1 + (offs (m0 + 1) ((t.kids.map T.flat).take (q + 1))).length) := by
            show _ = _
            rw [HOF.out, List.length_append]
            have h1 := HM.out
            omega
          have P1' : FlatAt w1 lo g1 c1' css1 (ts0 ++ [xt] ++ offs (m0 + 1) ((t.kids.map T.flat).take (q + 1))) := by
            rw [HOF.out, ← List.append_assoc]; exact P1
          have P4 : Fr (fun k => k = g) w w1 := ⟨P2.os.trans R2.os, P2.tape.trans R2.tape, P2.output.trans R2.output, Nat.le_trans R2.size P2.size, fun k hk1 hk2 => (P2.block k (by omega) (by rcases R3 with e | e <;> omega)).trans (R2.block k hk1 hk2)⟩
          have P5 : g1 = g ∨ N + 2 ≤ g1 := by
            rcases P3 with e | e
            · rw [e]; exact R3
            · right; omega
          have P7 : N + 2 ≤ w1.heap.size := Nat.le_trans R5 P2.size
          have P6 := (P2.block N l0 (by rcases R3 with e | e <;> omega)).trans R4
          clear hcall P1 P2 P3 R1 R2 R3 R4 HM HLEN HOF c0 c1 c2 c3 c4 c5 hXk n0 n1 n2 n3 n4 n5 hgq
          generalize (k.flat m).length = kf at *
          go_wp2_with fail
          go_roundw
          case rel => exact ⟨q + 1, m + kf, g1, c1', css1, by omega, by go_num, rfl, hbk, HM2, P1', P4, P5, P7, P6⟩
          case measure => simp [intOf]; omega
        · have hqj : q = j := by omega
          subst hqj
          have HALL : Hid ((t.kids.map T.flat).take q = t.kids.map T.flat) := by
            show _ = _
            rw [List.take_of_length_le (by simp; have := HNN.out; omega)]
          rw [HALL.out] at R1 HM
          have HR1 : Hid (FlatAt wr lo gq cq cssq (ts0 ++ xt :: offs (m0 + 1) (t.kids.map T.flat))) := by
            show FlatAt _ _ _ _ _ _
            simpa using R1
          have HM3 : Hid (m = m0 + (xt :: offs (m0 + 1) (t.kids.map T.flat)).length) := by
            show _ = _
            rw [List.length_cons]
            have h1 := HM.out
            omega
          clear R1 HALL HM
          go_wp2_with fail
          go_ret
          exact ⟨gq, cq, cssq, by have e := HM3.out; rw [List.length_cons] at e; rw [← e]; rfl, HR1.out, R2, R3.imp id (fun e => by omega)⟩
theorem leaf_small {t : T} (hl : t.leaf = true) (hg : ∃ r, t.good r = true) : t.keys.length ≤ 1000 ∧ t.vals.length ≤ 1000 ∧ t.over.length ≤ 1000 := by
  obtain ⟨r, h⟩ := hg
  rw [T.good_eq] at h
  simp only [Bool.and_eq_true, decide_eq_true_eq, hl, T.size] at h
  have h1 := h.1.1.1.1.2
  have h2 := h.1.1.2
  simp at h1 h2
  omega
theorem slots_kid {t k : T} (hkm : k ∈ t.kids) (hk : t.slots.all (fun s => kyB s.1) = true) : k.slots.all (fun s => kyB s.1) = true := by
  rw [T.slots_eq, List.all_append, Bool.and_eq_true, List.all_flatten] at hk
  have := List.all_eq_true.1 hk.2 k.slots (List.mem_map.2 ⟨k, hkm, rfl⟩)
  simpa using this
theorem low_small (t : T) : (∃ r, t.good r = true) → t.slots.all (fun s => kyB s.1) = true → t.low.size ≤ 8 := by
  induction t using T.ind with
  | h t ih =>
    intro hg hk
    cases hl : t.leaf
    · have hs : t.kids ≠ [] := by
        obtain ⟨r, h⟩ := hg
        rw [T.good_eq] at h
        simp only [Bool.and_eq_true, decide_eq_true_eq, hl, T.size] at h
        have h1 := h.1.1.1.1.1
        intro e
        rw [e] at h1
        simp at h1
      obtain ⟨k, r, e⟩ := List.exists_cons_of_ne_nil hs
      have hm : k ∈ t.kids := by rw [e]; exact List.mem_cons_self ..
      rw [T.low_inner hl e]
      exact ih k hm (by obtain ⟨r, h⟩ := hg; exact ⟨false, good_kid h hm⟩) (slots_kid hm hk)
    · rw [T.low_leaf hl]
      obtain ⟨r, h⟩ := hg
      rw [T.good_eq] at h
      simp only [Bool.and_eq_true, decide_eq_true_eq, hl, T.size] at h
      have h2 := h.1.1.2
      simp at h2
      rw [T.slots_eq, List.all_append, Bool.and_eq_true, if_pos hl] at hk
      have hk1 := hk.1
      cases hks : t.keys with
      | nil => simp
      | cons a r =>
        rw [hks] at h2 hk1
        cases hv : t.vals with
        | nil => rw [hv] at h2; simp at h2
        | cons v rv =>
          cases ho : t.over with
          | nil => rw [ho] at h2; simp at h2
          | cons o ro =>
            rw [hv, ho] at hk1
            simp only [List.zip_cons_cons, List.all_cons, Bool.and_eq_true, kyB, decide_eq_true_eq] at hk1
            exact hk1.1.2
theorem l3Flat_any (C : Nat) (t : T) : (∃ r, t.good r = true) → t.nodes ≤ 100000 → t.slots.all (fun s => kyB s.1) = true → FlatCall C t := by
  induction t using T.ind with
  | h t ih =>
    intro hg hn hk
    cases hl : t.leaf
    · refine l3Flat_inner C t hl hg hn (fun k hkm => ?_) (fun k hkm => ih k hkm ?_ ?_ ?_)
      · have := low_small k (by obtain ⟨r, h⟩ := hg; exact ⟨false, good_kid h hkm⟩) (slots_kid hkm hk)
        unfold maxLen; omega
      · obtain ⟨r, h⟩ := hg; exact ⟨false, good_kid h hkm⟩
      · obtain ⟨i, hi, e⟩ := List.mem_iff_getElem.1 hkm
        have := nodes_kid (t := t) (k := k) (i := i) (by rw [List.getElem?_eq_getElem hi, e])
        omega
      · exact slots_kid hkm hk
    · exact l3Flat_leaf C t hl (leaf_small hl hg)
end Go.Proofs.Ytpmagndofiaooaa
