import Derived.Test.YtpmagndofiaooaaTli
namespace Go.Proofs.Ytpmagndofiaooaa
open Go.RowKit
set_option linter.unusedVariables false
set_option linter.unusedSimpArgs false
set_option maxRecDepth 100000

/-- append to a list that is no nil stays none. -/
theorem run_append_someT {P : Program} (w : World) (base : Nat) (t ty e : TypeId) (i : TypeInfo) (z : Value) (size bytes : Nat) (ht : P.underlying t = some (.slice e)) (hi : P.info? e = some i) (hz : i.zero = some z)
    (hsize : i.size = size) (hby : i.bytes = bytes) (hzs : z.cells.size = size) (hsz : 0 < size)
    (g n cp : Nat) (xs : List Value) (hown : w.ownsRow base e size (.slice (some ⟨g, 0, none⟩) n cp) n xs)
    (a : Addr) (m c : Nat) (news : List Value) (hl : news.length = m * size) (hnews : ∀ j u, news[j]? = some u → w.cell? (a.add j) = some u) (h1 : ∀ u ∈ news, u.oneCell' = true)
    (h63 : n + m ≤ maxLen) (hbytes : (n + m) * bytes ≤ 140737488355328) (hbase : base ≤ w.heap.size) :
    ∃ g' c' w', (Builtin.append_ #[t, t] ty #[.slice (some ⟨g, 0, none⟩) n cp, .slice (some a) m c]).run P w = .ok (.slice (some ⟨g', 0, none⟩) (n + m) c') w' ∧ w'.ownsRow base e size (.slice (some ⟨g', 0, none⟩) (n + m) c') (n + m) (xs ++ news) ∧ w.grownBy w' (some g) := by
  obtain ⟨v', w', hr, ho, hgr, hat⟩ := run_append_ownD (P := P) w base t ty e i z size bytes ht hi hz hsize hby hzs hsz _ n xs hown a m c news hl hnews h1 h63 hbytes hbase
  by_cases hp : 0 < n + m
  · obtain ⟨g', c', rfl⟩ := some_of_pos ho hp
    exact ⟨g', c', w', hr, ho, hgr⟩
  · rcases hown.2 with ⟨h0, _⟩ | ⟨g0, cap, cur, hv, hbg, hg, hnc, hcm, hcs, htake⟩
    · simp at h0
    · simp only [Value.slice.injEq, Option.some.injEq, Addr.mk.injEq] at hv
      obtain ⟨⟨rfl, _⟩, _, rfl⟩ := hv
      subst hsize
      have hroom : n + m ≤ cp := by omega
      have hfit : n * i.size + news.length ≤ cur.size := by rw [hl, hcs, ← Nat.add_mul]; exact Nat.mul_le_mul_right _ hroom
      have hr2 := run_append_room (P := P) w t ty e i ht hi g n cp cur hg a m c news hl hnews h1 hroom hfit
      rw [hr] at hr2
      injection hr2 with e1 e2
      subst e1
      exact ⟨g, cp, w', hr, ho, hgr⟩
theorem wpList_append_someT {P : Program} (w : World) {ops : Array Oper} {rest : List Oper} {o : Oper} {a : Act} {Q : Exit → Act → World → Prop} (hgd : o.guard = none) (s x : Operand) (t : TypeId)
    (ho : o.op = .call { callee := .builtin .append, args := #[s, x], argTypes := #[t, t] })
    (base : Nat) (e : TypeId) (i : TypeInfo) (z : Value) (size bytes : Nat) (ht : P.underlying t = some (.slice e)) (hi : P.info? e = some i) (hz : i.zero = some z)
    (hsize : i.size = size) (hby : i.bytes = bytes) (hzs : z.cells.size = size) (hsz : 0 < size)
    (g n cp : Nat) (xs : List Value) (hs : a.eval s = .slice (some ⟨g, 0, none⟩) n cp) (hown : w.ownsRow base e size (.slice (some ⟨g, 0, none⟩) n cp) n xs)
    (ad : Addr) (m c : Nat) (news : List Value) (hx : a.eval x = .slice (some ad) m c) (hl : news.length = m * size) (hnews : ∀ j u, news[j]? = some u → w.cell? (ad.add j) = some u) (h1 : ∀ u ∈ news, u.oneCell' = true)
    (h63 : n + m ≤ maxLen) (hbytes : (n + m) * bytes ≤ 140737488355328) (hbase : base ≤ w.heap.size)
    (h : ∀ g' c' w', w'.ownsRow base e size (.slice (some ⟨g', 0, none⟩) (n + m) c') (n + m) (xs ++ news) → w.grownBy w' (some g) → wpList P ops Q rest (a.put o.dst (.slice (some ⟨g', 0, none⟩) (n + m) c')) w') : wpList P ops Q (o :: rest) a w := by
  refine wpList_plain hgd fun _ hK => ?_
  obtain ⟨g', c', w', hr, h2, h3⟩ := run_append_someT (P := P) w base t o.type e i z size bytes ht hi hz hsize hby hzs hsz g n cp xs hown ad m c news hl hnews h1 h63 hbytes hbase
  unfold Oper.wp execOp
  simp only [ho, resolve, invoke, builtin, Sem.run_bind, Sem.run_pure, Result.andThen_ok, List.map_toArray, List.map_cons, List.map_nil, hs, hx, hr]
  exact hK _ _ (h g' c' w' h2 h3)
def NumsAns (t : T) (w : World) (e : Ending) (w' : World) : Prop := ∃ g c, e = .returned (.slice (some ⟨g, 0, none⟩) t.nums.length c) ∧ w'.ownsRow w.heap.size 2 1 (.slice (some ⟨g, 0, none⟩) t.nums.length c) t.nums.length (rowsOf intCells t.nums) ∧ Below w.heap.size w w'
theorem one_int (xs : List Int) : ∀ u ∈ rowsOf intCells xs, u.oneCell' = true := fun u hu => by
  simp only [rowsOf, List.mem_flatMap, intCells] at hu
  obtain ⟨a, _, ha⟩ := hu
  simp at ha
  subst ha
  rfl
/-- The state of l3Numbers: the list so far. -/
structure NSt (w W wr : World) (N g cc : Nat) (bx : Array Value) (l : List Int) : Prop where
  own : wr.ownsRow (N + 1) 2 1 (.slice (some ⟨g, 0, none⟩) l.length cc) l.length (rowsOf intCells l)
  fr : Fr (fun k => N + 1 ≤ k) W wr
  bx : wr.heap[N]? = some (.cells bx 61)
theorem NSt.lt {w W wr : World} {N g cc : Nat} {bx : Array Value} {l : List Int} (h : NSt w W wr N g cc bx l) : N + 1 ≤ g ∧ g < wr.heap.size := h.own.lt g rfl
theorem NSt.below {w W wr w1 : World} {N g cc : Nat} {bx : Array Value} {l : List Int} (h : NSt w W wr N g cc bx l) (hb : Below wr.heap.size wr w1) : NSt w W w1 N g cc bx l :=
  ⟨owns_below h.own hb, h.fr.trans (Fr.of_below hb), (hb.block N (by have := h.lt; omega)).trans h.bx⟩
theorem NSt.push {w W wr w4 : World} {N g cc g' c' : Nat} {bx : Array Value} {l l2 : List Int} (h : NSt w W wr N g cc bx l) (hown : w4.ownsRow (N + 1) 2 1 (.slice (some ⟨g', 0, none⟩) (l.length + l2.length) c') (l.length + l2.length) (rowsOf intCells l ++ rowsOf intCells l2)) (hgr : wr.grownBy w4 (some g)) : NSt w W w4 N g' c' bx (l ++ l2) :=
  ⟨by rw [List.length_append, rowsOf_append]; exact hown, h.fr.trans (Fr.of_grown hgr (fun q hq => by cases hq; exact h.lt.1)), (hgr.block N (by have := h.lt; omega) (fun e => by simp at e; have := h.lt; omega)).trans h.bx⟩
set_option maxHeartbeats 4000000 in
theorem l3Numbers_step (C : Nat) (t : T) (hsl : t.nums.length ≤ 100000) (ih : ∀ k ∈ t.kids, CallAt 49 C k [] (fun w e w' => NumsAns k w e w')) : CallAt 49 C t [] (fun w e w' => NumsAns t w e w') := by
  intro w ka kn kc va vn vc oa on oc ya yc css hC hX
  have hb0 := BoxN.new w #[.bool t.leaf, .int .i64 t.page, .slice ka kn kc, .slice va vn vc, .slice oa on oc, .slice ya t.kids.length yc]
  have hle : t.kids.length ≤ maxLen := Nat.le_trans hX.cap.1 hX.cap.2
  have hon : on ≤ maxLen := Nat.le_trans hX.over.2.1 hX.over.2.2.1
  unfold maxLen at hle hon
  have HNU : Hid (t.nums = (if t.page = 0 then [] else [t.page]) ++ (t.over.filter (fun x => x != 0)) ++ (t.kids.map T.nums).flatten ∧ t.nums.length ≤ 100000) := ⟨T.nums_eq t, hsl⟩
  have IH : Hid (∀ k ∈ t.kids, CallAt 49 C k [] (fun w e w' => NumsAns k w e w')) := ih
  have hal := (Below.refl (w.alloc (.cells #[.bool t.leaf, .int .i64 t.page, .slice ka kn kc, .slice va vn vc, .slice oa on oc, .slice ya t.kids.length yc] 61)).heap.size (w.alloc (.cells #[.bool t.leaf, .int .i64 t.page, .slice ka kn kc, .slice va vn vc, .slice oa on oc, .slice ya t.kids.length yc] 61))).alloc (Nat.le_refl _) (.cells #[] 2)
  have hown0 := owns_empty (w.alloc (.cells #[.bool t.leaf, .int .i64 t.page, .slice ka kn kc, .slice va vn vc, .slice oa on oc, .slice ya t.kids.length yc] 61)) 2 1
  have hb1 := hb0.below hal
  have sz : (w.alloc (.cells #[.bool t.leaf, .int .i64 t.page, .slice ka kn kc, .slice va vn vc, .slice oa on oc, .slice ya t.kids.length yc] 61)).heap.size = w.heap.size + 1 := by simp
  have HX : Hid _ := hX.belowC (hb1.bel.mono hC)
  have HOV : Hid (t.over.length = on) := hX.over.1
  rw [sz] at hown0
  clear hX hb0 hal sz ih hsl
  obtain ⟨n, hn⟩ : ∃ n, n = t.kids.length := ⟨_, rfl⟩
  have HNN : Hid (n = t.kids.length) := hn
  rw [← hn] at hb1 hown0 hle ⊢
  rw [← hn] at HX
  clear hn
  generalize t.leaf = lf at hb1 hown0 HX ⊢
  obtain ⟨p, hp⟩ : ∃ p, p = t.page := ⟨_, rfl⟩
  rw [← hp] at hb1 hown0 HX HNU ⊢
  clear hp
  obtain ⟨i0, hi, hz0, hz1, hz2⟩ := info_parts info_int64
  obtain ⟨N, hN⟩ : ∃ N, w.heap.size = N := ⟨_, rfl⟩
  rw [hN] at hb1 hown0
  go_enter Try.func49, Try.ntmps49
  go_upto_region 2 with fail
  generalize ((w.alloc (.cells #[.bool lf, .int .i64 p, .slice ka kn kc, .slice va vn vc, .slice oa on oc, .slice ya n yc] 61)).alloc (.cells #[] 2)) = W1 at hb1 hown0 HX ⊢
  have S0 : NSt w W1 W1 N (N + 1) 0 #[.bool lf, .int .i64 p, .slice ka kn kc, .slice va vn vc, .slice oa on oc, .slice ya n yc] [] := ⟨by simpa [rowsOf] using hown0, Fr.refl _ _, hb1.box⟩
  have s1 := hb1.lt
  have hC1 : C ≤ W1.heap.size := by omega
  have hN1 : N + 1 < W1.heap.size := S0.lt.2
  have HBW : Hid (Below N w W1) := hb1.bel
  clear hown0 hb1
  obtain ⟨x0, x1, x2, x3, x4, x5⟩ := box6 S0.bx
  go_upto_if 9 with fail
  go_cut [3] (fun v wx => ∃ g cc, v = .slice (some ⟨g, 0, none⟩) (if p = 0 then ([] : List Int) else [p]).length cc ∧ NSt w W1 wx N g cc #[.bool lf, .int .i64 p, .slice ka kn kc, .slice va vn vc, .slice oa on oc, .slice ya n yc] (if p = 0 then [] else [p]))
  case first =>
    by_cases tp : p = 0
    · subst tp
      go_wp2_with fail
      go_meet
      exact ⟨N + 1, 0, rfl, S0⟩
    · have sp : (p != 0) = true := by simpa using tp
      have S1 := S0.below ((Below.refl _ _).alloc (Nat.le_refl _) (.cells #[.int .i64 p] 2))
      have hrow := S1.own
      simp only [List.length_nil] at hrow
      go_wp2_with (at_builtin; refine wpList_append_someT _ rfl _ _ 59 rfl (N + 1) 2 i0 _ 1 8 Try.underlying59 hi hz0 hz1 hz2 rfl (by decide) (N + 1) 0 0 _ rfl hrow ⟨W1.heap.size, 0, none⟩ 1 1 [.int .i64 p] rfl rfl (cell_one_new _ _ _) (by simp [Value.oneCell']) (by unfold maxLen; omega) (by omega) (by simp; omega) ?_; intro g' c' w4 hown' hgr)
      go_meet
      rw [if_neg tp]
      exact ⟨g', c', rfl, S1.push (l2 := [p]) hown' hgr⟩
  case rest =>
    obtain ⟨g, cc, rfl, S1⟩ := hcut
    obtain ⟨l0, hl0⟩ : ∃ l0 : List Int, l0 = (if p = 0 then [] else [p]) := ⟨_, rfl⟩
    rw [← hl0] at S1 HNU ⊢
    have hl1 : l0.length ≤ 1 := by rw [hl0]; split <;> simp
    clear hl0 S0 x0 x1 x2 x3 x4 x5
    obtain ⟨m0, hm0⟩ : ∃ m0, l0.length = m0 := ⟨_, rfl⟩
    have HM0 : Hid (l0.length = m0) := hm0
    rw [hm0] at hl1 ⊢
    clear hm0
    have HB1 : Hid (∀ j, (l0 ++ (t.over.take j).filter (fun x => x != 0)).length ≤ 100000) := fun j => by
      have h1 := HNU.out
      rw [h1.1] at h1
      have h2 := h1.2
      simp only [List.length_append] at h2 ⊢
      have h3 : ((t.over.take j).filter (fun x => x != 0)).length ≤ (t.over.filter (fun x => x != 0)).length := (List.Sublist.filter _ (List.take_sublist j t.over)).length_le
      omega
    go_wp2_with fail
    go_loopw [3, 4] (fun o i wr => ∃ (j m g cc : Nat), j ≤ on ∧ i = .int .i64 j ∧ o = .slice (some ⟨g, 0, none⟩) m cc ∧ m ≤ 100000 ∧ Hid (m = (l0 ++ (t.over.take j).filter (fun x => x != 0)).length) ∧ NSt w W1 wr N g cc #[.bool lf, .int .i64 p, .slice ka kn kc, .slice va vn vc, .slice oa on oc, .slice ya n yc] (l0 ++ (t.over.take j).filter (fun x => x != 0))) (fun _ i _ => on - (intOf i).toNat)
    case atStart => exact ⟨0, m0, g, cc, Nat.zero_le _, rfl, rfl, by omega, by show _ = _; simp [HM0.out], by simpa using S1⟩
    case round =>
      clear S1
      obtain ⟨j, m, g, cc, hj, rfl, rfl, hm, HM, S2⟩ := hrel
      have hbel : Below (N + 1) W1 wr := S2.fr.below (by omega) (fun g e => e)
      obtain ⟨x0, x1, x2, x3, x4, x5⟩ := box6 S2.bx
      have l2 : N < wr.heap.size := by have := S2.lt; omega
      by_cases hlt : j < on
      · obtain ⟨ob, ooff, rfl, hob, hfo, eo⟩ := IntsAt.at (HX.out.over.below (hbel.mono (by omega))) hlt
        have hobw : ob < wr.heap.size := by have := S2.fr.size; omega
        have HSN : Hid ((t.over.take (j + 1)).filter (fun x => x != 0) = (t.over.take j).filter (fun x => x != 0) ++ (if t.over.getD j 0 = 0 then [] else [t.over.getD j 0])) := by
          show _ = _
          rw [take_snocD t.over j 0 (by have := HOV.out; omega), List.filter_append]
          congr 1
          generalize t.over.getD j 0 = q
          by_cases h0 : q = 0
          · simp [h0]
          · have h1 : (q != 0) = true := by simpa using h0
            simp [h0, h1]
        generalize t.over.getD j 0 = ov at eo hfo HSN
        by_cases tz : ov = 0
        · have so : (ov != 0) = false := by simpa using tz
          have HM2 : Hid (m = (l0 ++ (t.over.take (j + 1)).filter (fun x => x != 0)).length) := by show _ = _; rw [HSN.out, if_pos tz, List.append_nil]; exact HM.out
          have S3 : NSt w W1 wr N g cc #[.bool lf, .int .i64 p, .slice ka kn kc, .slice va vn vc, .slice (some ⟨ob, ooff, none⟩) on oc, .slice ya n yc] (l0 ++ (t.over.take (j + 1)).filter (fun x => x != 0)) := by rw [HSN.out, if_pos tz, List.append_nil]; exact S2
          clear HM HSN S2 tz
          go_wp2_with fail
          go_roundw
          case rel => exact ⟨j + 1, m, g, cc, by omega, by go_num, rfl, hm, HM2, S3⟩
          case measure => simp [intOf]; omega
        · have so : (ov != 0) = true := by simpa using tz
          have HL2 : Hid (l0 ++ (t.over.take (j + 1)).filter (fun x => x != 0) = (l0 ++ (t.over.take j).filter (fun x => x != 0)) ++ [ov]) := by show _ = _; rw [HSN.out, if_neg tz, List.append_assoc]
          have hm2 : m + 1 ≤ 100000 := by
            have h1 := HB1.out (j + 1)
            rw [HL2.out, List.length_append] at h1
            have h2 := HM.out
            simp at h1 h2
            omega
          have S3 := S2.below ((Below.refl _ _).alloc (Nat.le_refl _) (.cells #[.int .i64 ov] 2))
          have hrow := S3.own
          rw [← HM.out] at hrow
          have HRW : Hid _ := hrow
          have HPU : Hid (∀ g' c' w4, w4.ownsRow (N + 1) 2 1 (.slice (some ⟨g', 0, none⟩) (m + 1) c') (m + 1) (rowsOf intCells (l0 ++ (t.over.take j).filter (fun x => x != 0)) ++ [.int .i64 ov]) → (wr.alloc (.cells #[.int .i64 ov] 2)).grownBy w4 (some g) → NSt w W1 w4 N g' c' #[.bool lf, .int .i64 p, .slice ka kn kc, .slice va vn vc, .slice (some ⟨ob, ooff, none⟩) on oc, .slice ya n yc] (l0 ++ (t.over.take (j + 1)).filter (fun x => x != 0)) ∧ m + 1 = (l0 ++ (t.over.take (j + 1)).filter (fun x => x != 0)).length) := by
            intro g' c' w4 h1 h2
            rw [HL2.out]
            refine ⟨S3.push (l2 := [ov]) ?_ h2, by rw [List.length_append, ← HM.out]; rfl⟩
            rw [← HM.out]
            exact h1
          have hNw : N + 1 ≤ wr.heap.size := by omega
          clear HM HSN S2 S3 hrow tz HL2
          go_wp2_with (at_builtin; refine wpList_append_someT _ rfl _ _ 59 rfl (N + 1) 2 i0 _ 1 8 Try.underlying59 hi hz0 hz1 hz2 rfl (by decide) g m cc _ rfl HRW.out ⟨wr.heap.size, 0, none⟩ 1 1 [.int .i64 ov] rfl rfl (cell_one_new _ _ _) (by simp [Value.oneCell']) (by unfold maxLen; omega) (by omega) (by simp; omega) ?_; intro g' c' w4 hown' hgr; obtain ⟨S4, hm4⟩ := HPU.out g' c' w4 hown' hgr; have HM4 : Hid _ := hm4; clear hown' hgr hm4 HPU HRW)
          go_roundw
          case rel => exact ⟨j + 1, m + 1, g', c', by omega, by go_num, rfl, hm2, HM4, S4⟩
          case measure => simp [intOf]; omega
      · have HPRE : Hid ((t.over.take j).filter (fun x => x != 0) = t.over.filter (fun x => x != 0)) := by
          show _ = _
          rw [List.take_of_length_le (by have := HOV.out; omega)]
        rw [HPRE.out] at HM S2
        have HNU2 : Hid (t.nums = (l0 ++ t.over.filter (fun x => x != 0)) ++ (t.kids.map T.nums).flatten ∧ t.nums.length ≤ 100000) := HNU.out
        generalize l0 ++ t.over.filter (fun x => x != 0) = l1 at HM S2 HNU2
        clear HPRE HB1 HM0 HNU
        generalize wr = V2 at HM S2 hbel x0 x1 x2 x3 x4 x5 l2 ⊢
        go_wp2_with fail
        clear x0 x1 x2 x3 x4 x5
        go_loopw [3, 5] (fun o i wx => ∃ (q m g cc : Nat), q ≤ n ∧ i = .int .i64 q ∧ o = .slice (some ⟨g, 0, none⟩) m cc ∧ m ≤ 100000 ∧ Hid (m = (l1 ++ ((t.kids.map T.nums).take q).flatten).length) ∧ NSt w W1 wx N g cc #[.bool lf, .int .i64 p, .slice ka kn kc, .slice va vn vc, .slice oa on oc, .slice ya n yc] (l1 ++ ((t.kids.map T.nums).take q).flatten)) (fun _ i _ => n - (intOf i).toNat)
        case atStart => exact ⟨0, m, g, cc, Nat.zero_le _, rfl, rfl, hm, by show _ = _; simpa using HM.out, by simpa using S2⟩
        case round =>
          clear S2 hbel l2 HM hm
          obtain ⟨q, m, g, cc, hq, rfl, rfl, hm, HM, S2⟩ := hrel
          have hbel : Below (N + 1) W1 wr := S2.fr.below (by omega) (fun g e => e)
          obtain ⟨x0, x1, x2, x3, x4, x5⟩ := box6 S2.bx
          have l2 : N < wr.heap.size := by have := S2.lt; omega
          by_cases hlt : q < n
          · obtain ⟨b, off, rfl, hbl, k, hki, hkm, ka', kn', kc', va', vn', vc', oa', on', oc', ya', yc', css', hXk, c0, c1, c2, c3, c4, c5⟩ := (HX.out.belowC (hbel.mono (by omega))).at (i := q) (by have := HNN.out; omega)
            have IHk := IH.out k hkm
            have hft : ((t.kids.map T.nums).take (q + 1)).flatten = ((t.kids.map T.nums).take q).flatten ++ k.nums := by
              obtain ⟨hj, e⟩ := List.getElem?_eq_some_iff.1 hki
              rw [List.take_succ_eq_append_getElem (by simpa using hj), List.flatten_append]
              simp [e]
            have hfl := flat_take_le (t.kids.map T.nums) (q + 1)
            have hbd : m + k.nums.length ≤ 100000 := by
              rw [hft, List.length_append] at hfl
              have h1 := HM.out
              have h2 := HNU2.out
              rw [h2.1] at h2
              simp only [List.length_append] at h1 h2
              omega
            have HST : Hid (l1 ++ ((t.kids.map T.nums).take (q + 1)).flatten = (l1 ++ ((t.kids.map T.nums).take q).flatten) ++ k.nums) := by show _ = _; rw [hft, List.append_assoc]
            clear hki hkm hft hfl
            have hCw : C ≤ wr.heap.size := by have := S2.fr.size; omega
            go_wp2_with fail
            refine (IHk wr ka' kn' kc' va' vn' vc' oa' on' oc' ya' yc' css' hCw hXk).mono ?_
            rintro e w1 ⟨g1, c1', rfl, hown1, hb1'⟩
            have S3 := S2.below hb1'
            have hrow := S3.own
            rw [← HM.out] at hrow
            have HRW : Hid (w1.ownsRow (N + 1) 2 1 (.slice (some ⟨g, 0, none⟩) m cc) m (rowsOf intCells (l1 ++ ((t.kids.map T.nums).take q).flatten))) := hrow
            have HC : Hid (∀ r u, (rowsOf intCells k.nums)[r]? = some u → w1.cell? ((⟨g1, 0, none⟩ : Addr).add r) = some u) := fun r u hr => by
              have hql : r < k.nums.length * 1 := by
                have := (List.getElem?_eq_some_iff.1 hr).1
                rwa [rowsOf_length ic1] at this
              have := hown1.cellAt r hql
              rw [hr] at this
              rw [addr0_add]
              exact this
            have HO : Hid (∀ u ∈ rowsOf intCells k.nums, u.oneCell' = true) := one_int k.nums
            obtain ⟨kl, hkl⟩ : ∃ kl, k.nums.length = kl := ⟨_, rfl⟩
            have HKL : Hid (k.nums.length = kl) := hkl
            have HL : Hid ((rowsOf intCells k.nums).length = kl * 1) := by show _ = _; rw [rowsOf_length ic1, hkl]
            rw [hkl] at hbd ⊢
            have HPU : Hid (∀ g' c' w4, w4.ownsRow (N + 1) 2 1 (.slice (some ⟨g', 0, none⟩) (m + kl) c') (m + kl) (rowsOf intCells (l1 ++ ((t.kids.map T.nums).take q).flatten) ++ rowsOf intCells k.nums) → w1.grownBy w4 (some g) → NSt w W1 w4 N g' c' #[.bool lf, .int .i64 p, .slice ka kn kc, .slice va vn vc, .slice oa on oc, .slice (some ⟨b, off, none⟩) n yc] (l1 ++ ((t.kids.map T.nums).take (q + 1)).flatten) ∧ m + kl = (l1 ++ ((t.kids.map T.nums).take (q + 1)).flatten).length) := by
              intro g' c' w4 h1 h2
              rw [HST.out]
              refine ⟨S3.push (l2 := k.nums) ?_ h2, by rw [List.length_append, ← HM.out, hkl]⟩
              rw [← HM.out, hkl]
              exact h1
            have hs1 := hb1'.size
            clear hown1 hrow S3 S2 c0 c1 c2 c3 c4 c5 hXk IHk x0 x1 x2 x3 x4 x5 hkl
            go_wp2_with (at_builtin; refine wpList_append_someT _ rfl _ _ 59 rfl (N + 1) 2 i0 _ 1 8 Try.underlying59 hi hz0 hz1 hz2 rfl (by decide) g m cc _ rfl HRW.out ⟨g1, 0, none⟩ kl c1' (rowsOf intCells k.nums) rfl HL.out HC.out HO.out (by unfold maxLen; omega) (by omega) (by omega) ?_; intro g' c' w4 hown' hgr; obtain ⟨S4, hm4⟩ := HPU.out g' c' w4 hown' hgr; have HM4 : Hid _ := hm4; clear hown' hgr hm4 HPU HRW)
            go_roundw
            case rel => exact ⟨q + 1, m + kl, g', c', by omega, by go_num, rfl, hbd, HM4, S4⟩
            case measure => simp [intOf]; omega
          · have HEND : Hid (t.nums = l1 ++ ((t.kids.map T.nums).take q).flatten) := by
              show _ = _
              rw [HNU2.out.1, List.take_of_length_le (by simp; have := HNN.out; omega)]
            have hown := owns_base S2.own (Nat.le_succ N)
            rw [← HEND.out] at hown
            have HO2 : Hid _ := hown
            have hmm : t.nums.length = m := by rw [HEND.out, HM.out]
            have HMM : Hid (t.nums.length = m) := hmm
            have hbw : Below N w wr := HBW.out.trans (hbel.mono (by omega))
            clear hown hmm S2
            go_wp2_with fail
            go_ret
            exact ⟨g, cc, by rw [HMM.out]; rfl, by rw [hN]; exact HO2.out, by rw [hN]; exact hbw⟩
theorem l3Numbers_any (C : Nat) (t : T) : t.nums.length ≤ 100000 → CallAt 49 C t [] (fun w e w' => NumsAns t w e w') := by
  induction t using T.ind with
  | h t ih =>
    intro hsl
    refine l3Numbers_step C t hsl (fun k hk => ih k hk ?_)
    rw [T.nums_eq] at hsl
    have : k.nums.length ≤ ((t.kids.map T.nums).flatten).length := by
      rw [List.length_flatten]
      exact sum_get_le (List.mem_map.2 ⟨k.nums, List.mem_map.2 ⟨k, hk, rfl⟩, rfl⟩)
    simp only [List.length_append] at hsl
    omega
end Go.Proofs.Ytpmagndofiaooaa
