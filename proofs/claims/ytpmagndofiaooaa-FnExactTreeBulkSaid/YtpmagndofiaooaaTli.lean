import Derived.Test.YtpmagndofiaooaaTto
import Derived.Test.YtpmagndofiaooaaAp2
import Derived.Test.YtpmagndofiaooaaTld
import Derived.Deep.QuietTactic
import Derived.BigQuiet
import Derived.Deep.RegionLaw
import Derived.WalkSpells
namespace Go.Proofs.Ytpmagndofiaooaa
open Go.RowKit
set_option linter.unusedVariables false
set_option linter.unusedSimpArgs false
set_option maxRecDepth 100000

/-- The pairs of a list of slots, as rows. -/
def prCells (s : ByteArray × ByteArray × Int) : List Value := [.string s.1, .string s.2.1]
theorem pr2 : ∀ x, (prCells x).length = 2 := fun _ => rfl
theorem info_Pair : (Try.prog.info? 53).map (fun i => (i.zero, i.size, i.bytes)) = some (some (.agg #[.string ByteArray.empty, .string ByteArray.empty]), 2, 32) := by kernel_rfl
theorem cell_two_newT (w : World) (a b : Value) (t : TypeId) : ∀ j u, [a, b][j]? = some u → (w.alloc (.cells #[a, b] t)).cell? ((⟨w.heap.size, 0, none⟩ : Addr).add j) = some u := by
  intro j u h
  match j, h with
  | 0, h => simpa [Addr.add] using h
  | 1, h => simpa [Addr.add] using h
theorem rowsOf_append {α : Type} (cs : α → List Value) (xs ys : List α) : rowsOf cs (xs ++ ys) = rowsOf cs xs ++ rowsOf cs ys := by simp [rowsOf]
theorem owns_empty (w : World) (e size : Nat) : (w.alloc (.cells #[] e)).ownsRow w.heap.size e size (.slice (some ⟨w.heap.size, 0, none⟩) 0 0) 0 [] := by
  have := World.ownsRow_made w #[] (base := w.heap.size) (e := e) (size := size) 0 (by simp) (by unfold maxLen; omega) (by simp)
  simpa using this
theorem slots_leaf {t : T} {n : Nat} (hs : Shape t) (hl : t.leaf = true) (h1 : t.keys.length = n) (h2 : t.vals.length = n) (h3 : t.over.length = n) : t.slots.length = n ∧ ∀ j, j < n → t.slots.take (j + 1) = t.slots.take j ++ [(t.keys.getD j ByteArray.empty, t.vals.getD j ByteArray.empty, t.over.getD j 0)] := by
  have e : t.slots = t.keys.zip (t.vals.zip t.over) := by
    rw [T.slots_eq, hl, ((shape_eq t).1 hs).1 hl]; simp
  rw [e]
  have hlen : (t.keys.zip (t.vals.zip t.over)).length = n := by simp; omega
  refine ⟨hlen, fun j hj => ?_⟩
  rw [List.take_succ_eq_append_getElem (by omega)]
  have := zip3_get h1 h2 h3 hj
  rw [List.getElem?_eq_getElem (by omega)] at this
  simp only [Option.some.injEq] at this
  rw [this]
theorem slots_inner {t : T} (hl : t.leaf = false) : t.slots = (t.kids.map T.slots).flatten := by rw [T.slots_eq, hl]; simp
theorem flat_take {t k : T} {j : Nat} (h : t.kids[j]? = some k) : ((t.kids.map T.slots).take (j + 1)).flatten = ((t.kids.map T.slots).take j).flatten ++ k.slots := by
  obtain ⟨hj, e⟩ := List.getElem?_eq_some_iff.1 h
  rw [List.take_succ_eq_append_getElem (by simpa using hj), List.flatten_append]
  simp [e]
theorem flat_take_le {α : Type} (l : List (List α)) (j : Nat) : (l.take j).flatten.length ≤ l.flatten.length := by
  have := congrArg List.flatten (List.take_append_drop j l)
  rw [List.flatten_append] at this
  have h2 := congrArg List.length this
  rw [List.length_append] at h2
  omega
theorem addr0_add (g q : Nat) : (⟨g, 0, none⟩ : Addr).add q = ⟨g, q, none⟩ := by
  simp [Addr.add]
  omega
theorem slots_pos (t : T) : Shape t → t.good false = true → 0 < t.slots.length := by
  induction t using T.ind with
  | h t ih =>
    intro hs hg
    by_cases hl : t.leaf = true
    · have h2 := (good_true hg).2
      have hg2 := hg
      rw [T.good_eq, hl] at hg2
      simp only [Bool.and_eq_true, decide_eq_true_eq, Bool.not_true, Bool.false_or] at hg2
      have := (slots_leaf hs hl rfl hg2.1.1.2.1.1 hg2.1.1.2.1.2).1
      unfold T.size at h2
      rw [if_pos hl] at h2
      omega
    · have hl2 : t.leaf = false := by simpa using hl
      have h2 := (good_two hg hl2).1
      rw [slots_inner hl2]
      match e : t.kids with
      | [] => rw [e] at h2; simp at h2
      | k :: r =>
        have hk : k ∈ t.kids := by rw [e]; exact List.mem_cons_self ..
        have := ih k hk (((shape_eq t).1 hs).2 k hk) (good_kid hg hk)
        simp
        omega
/-- What l3Pairs answers. -/
def PairsAns (t : T) (w : World) (e : Ending) (w' : World) : Prop := ∃ g c, e = .returned (.slice (some ⟨g, 0, none⟩) t.slots.length c) ∧ w'.ownsRow w.heap.size 53 2 (.slice (some ⟨g, 0, none⟩) t.slots.length c) t.slots.length (rowsOf prCells t.slots) ∧ Below w.heap.size w w'
theorem some_of_owns {w : World} {base e size n : Nat} {v : Value} {xs : List Value} (h : w.ownsRow base e size v n xs) (hs : v.ownBlock ≠ none) : ∃ g c, v = .slice (some ⟨g, 0, none⟩) n c := by
  rcases h.2 with ⟨rfl, rfl⟩ | ⟨g, cap, cur, rfl, _⟩
  · simp [Value.ownBlock] at hs
  · exact ⟨g, cap, rfl⟩
theorem some_of_pos {w : World} {base e size n : Nat} {v : Value} {xs : List Value} (h : w.ownsRow base e size v n xs) (hn : 0 < n) : ∃ g c, v = .slice (some ⟨g, 0, none⟩) n c := by
  rcases h.2 with ⟨_, e0⟩ | ⟨g, cap, cur, rfl, _⟩
  · omega
  · exact ⟨g, cap, rfl⟩
set_option maxHeartbeats 2000000 in
theorem l3Pairs_leaf (C : Nat) (t : T) (hs : Shape t) (hl : t.leaf = true) (hg : ∃ r, t.good r = true) : CallAt 47 C t [] (fun w e w' => PairsAns t w e w') := by
  intro w ka kn kc va vn vc oa on oc ya yc css hC hX
  have hb0 := BoxN.new w #[.bool t.leaf, .int .i64 t.page, .slice ka kn kc, .slice va vn vc, .slice oa on oc, .slice ya t.kids.length yc]
  have hn : t.kids.length = 0 := by rw [((shape_eq t).1 hs).1 hl]; rfl
  have hle : vn = kn ∧ on = kn ∧ kn ≤ 4 := by
    obtain ⟨r, hr⟩ := hg
    have e1 := hX.keys.1
    have e2 := hX.vals.1
    have e3 := hX.over.1
    rw [T.good_eq, hl] at hr
    simp only [Bool.and_eq_true, decide_eq_true_eq, Bool.not_true, Bool.false_or, T.size, hl, if_true] at hr
    omega
  obtain ⟨rfl, rfl, hk4⟩ := hle
  obtain ⟨HS1, HS2⟩ := slots_leaf hs hl hX.keys.1 hX.vals.1 hX.over.1
  have HS : Hid (t.slots.length = on ∧ ∀ j, j < on → t.slots.take (j + 1) = t.slots.take j ++ [(t.keys.getD j ByteArray.empty, t.vals.getD j ByteArray.empty, t.over.getD j 0)]) := ⟨HS1, HS2⟩
  clear HS1 HS2
  have hal := (Below.refl (w.alloc (.cells #[.bool t.leaf, .int .i64 t.page, .slice ka on kc, .slice va on vc, .slice oa on oc, .slice ya t.kids.length yc] 61)).heap.size (w.alloc (.cells #[.bool t.leaf, .int .i64 t.page, .slice ka on kc, .slice va on vc, .slice oa on oc, .slice ya t.kids.length yc] 61))).alloc (Nat.le_refl _) (.cells #[] 53)
  have hown0 := owns_empty (w.alloc (.cells #[.bool t.leaf, .int .i64 t.page, .slice ka on kc, .slice va on vc, .slice oa on oc, .slice ya t.kids.length yc] 61)) 53 2
  have hb1 := hb0.below hal
  have sz : (w.alloc (.cells #[.bool t.leaf, .int .i64 t.page, .slice ka on kc, .slice va on vc, .slice oa on oc, .slice ya t.kids.length yc] 61)).heap.size = w.heap.size + 1 := by simp
  have hX1 := hX.belowC (hb1.bel.mono hC)
  have hK := hX1.keys
  have hV := hX1.vals
  rw [sz] at hown0
  clear hX hX1 hb0 hal sz
  rw [hl, hn] at hb1 hown0 hK hV ⊢
  generalize t.page = p at hb1 hown0 hK hV ⊢
  obtain ⟨i0, hi, hz0, hz1, hz2⟩ := info_parts info_Pair
  obtain ⟨N, hN⟩ : ∃ N, w.heap.size = N := ⟨_, rfl⟩
  rw [hN] at hb1 hown0
  go_enter Try.func47, Try.ntmps47
  go_wp2_with fail
  generalize ((w.alloc (.cells #[.bool true, .int .i64 p, .slice ka on kc, .slice va on vc, .slice oa on oc, .slice ya 0 yc] 61)).alloc (.cells #[] 53)) = W1 at hb1 hown0 hK hV ⊢
  have s1 := hb1.lt
  have hC1 : C ≤ W1.heap.size := by omega
  go_loopw [3, 4] (fun o i wr => ∃ (j : Nat) (g cc : Nat), j ≤ on ∧ i = .int .i64 j ∧ o = .slice (some ⟨g, 0, none⟩) j cc ∧ wr.ownsRow (N + 1) 53 2 (.slice (some ⟨g, 0, none⟩) j cc) j (rowsOf prCells (t.slots.take j)) ∧ Fr (fun k => N + 1 ≤ k) W1 wr) (fun _ i _ => on - (intOf i).toNat)
  case atStart => exact ⟨0, N + 1, 0, Nat.zero_le _, rfl, rfl, by simpa [rowsOf] using hown0, Fr.refl _ _⟩
  case round =>
    clear hown0
    obtain ⟨j, g, cc, hj, rfl, rfl, hown, hfr⟩ := hrel
    have hbel : Below (N + 1) W1 wr := hfr.below (by omega) (fun g e => e)
    have X2 : BoxN w wr N #[.bool true, .int .i64 p, .slice ka on kc, .slice va on vc, .slice oa on oc, .slice ya 0 yc] := ⟨(hbel.block N (by omega)).trans hb1.box, hb1.bel.trans (hbel.mono (by omega))⟩
    have l2 := X2.lt
    obtain ⟨x0, x1, x2, x3, x4, x5⟩ := box6 X2.box
    by_cases hlt : j < on
    · obtain ⟨kb, koff, rfl, hkb, hfk, ek⟩ := StrsAt.at (hK.below (hbel.mono (by omega))) hlt
      obtain ⟨vb, voff, rfl, hvb, hfv, ev⟩ := StrsAt.at (hV.below (hbel.mono (by omega))) hlt
      have hstep := HS.out.2 j hlt
      have HST : Hid (rowsOf prCells (t.slots.take (j + 1)) = rowsOf prCells (t.slots.take j) ++ [.string (t.keys.getD j ByteArray.empty), .string (t.vals.getD j ByteArray.empty)]) := by
        show _ = _
        rw [hstep, rowsOf_append]
        rfl
      clear hstep
      generalize t.keys.getD j ByteArray.empty = s at ek HST hfk
      generalize t.vals.getD j ByteArray.empty = v at ev HST hfv
      have HOW : Hid (wr.ownsRow (N + 1) 53 2 (.slice (some ⟨g, 0, none⟩) j cc) j (rowsOf prCells (t.slots.take j))) := hown
      have hbk : kb < wr.heap.size := by have := hfr.size; omega
      have hbv : vb < wr.heap.size := by have := hfr.size; omega
      have hNw : N + 1 ≤ wr.heap.size := by omega
      have hAl : wr.heap.size ≤ (wr.alloc (.cells #[.string s, .string v] 53)).drew.heap.size := by show wr.heap.size ≤ (wr.alloc (.cells #[.string s, .string v] 53)).heap.size; simp
      clear hown
      go_wp2_with fail
      go_region_law (refine step_append_own rfl (.tmp 18) (.tmp 30) 28 rfl (N + 1) 53 i0 _ 2 32 Try.underlying28 hi hz0 hz1 hz2 rfl (by decide) (.slice (some ⟨g, 0, none⟩) j cc) j (rowsOf prCells (t.slots.take j)) (by simp [Act.eval]) (owns_below (HOW.out.alloc (.cells #[.string s, .string v] 53)) (Below.refl _ _).drew) ⟨wr.heap.size, 0, none⟩ 1 1 [.string s, .string v] (by simp [Act.eval]) rfl (fun j u h => cell_two_newT wr (.string s) (.string v) 53 j u h) (by simp [Value.oneCell']) (by unfold maxLen; omega) (by omega) (Nat.le_trans hNw hAl) ?_; intro v' w2 hown' hgr)
      all_goals
        obtain ⟨g', cc', rfl⟩ := some_of_pos hown' (by omega)
        have hfr2 : Fr (fun k => N + 1 ≤ k) W1 w2 := hfr.trans ((Fr.of_below (((Below.refl _ _).alloc (Nat.le_refl _) (.cells #[.string s, .string v] 53)).drew)).trans (Fr.of_grown hgr (fun q hq => (HOW.out.lt q hq).1)))
        have hown2 : w2.ownsRow (N + 1) 53 2 (.slice (some ⟨g', 0, none⟩) (j + 1) cc') (j + 1) (rowsOf prCells (t.slots.take (j + 1))) := by rw [HST.out]; exact hown'
        clear hown' hgr HOW HST x0 x1 x2 x3 x4 x5 ek ev
        go_wp2_with fail
        go_roundw
        case rel => exact ⟨j + 1, g', cc', by omega, by go_num, rfl, hown2, hfr2⟩
        case measure => simp [intOf]; omega
    · obtain rfl : j = on := by omega
      have hown2 : wr.ownsRow N 53 2 (.slice (some ⟨g, 0, none⟩) j cc) j (rowsOf prCells t.slots) := by
        have := owns_base hown (Nat.le_succ N)
        rwa [List.take_of_length_le (by have := HS.out.1; omega)] at this
      have HO2 : Hid _ := hown2
      have hbw : Below N w wr := X2.bel
      clear hown hown2 hlt
      go_wp2_with fail
      go_loopw [3, 5] (fun o i wx => o = .slice (some ⟨g, 0, none⟩) j cc ∧ i = .int .i64 0 ∧ wx = wr) (fun _ _ _ => 0)
      case atStart => exact ⟨rfl, rfl, rfl⟩
      case round =>
        obtain ⟨rfl, rfl, rfl⟩ := hrel
        go_wp2_with fail
        go_ret
        exact ⟨g, cc, by rw [HS.out.1]; rfl, by rw [HS.out.1, hN]; exact HO2.out, by rw [hN]; exact hbw⟩
set_option maxHeartbeats 2000000 in
theorem l3Pairs_inner (C : Nat) (t : T) (hs : Shape t) (hg : ∃ r, t.good r = true) (hl : t.leaf = false) (hsl : t.slots.length ≤ 100000) (ih : ∀ k ∈ t.kids, CallAt 47 C k [] (fun w e w' => PairsAns k w e w')) : CallAt 47 C t [] (fun w e w' => PairsAns t w e w') := by
  intro w ka kn kc va vn vc oa on oc ya yc css hC hX
  have hb0 := BoxN.new w #[.bool t.leaf, .int .i64 t.page, .slice ka kn kc, .slice va vn vc, .slice oa on oc, .slice ya t.kids.length yc]
  have hle : t.kids.length ≤ maxLen := Nat.le_trans hX.cap.1 hX.cap.2
  have hkn : kn ≤ maxLen := Nat.le_trans hX.keys.2.1 hX.keys.2.2.1
  unfold maxLen at hle hkn
  have HSI : Hid (t.slots = (t.kids.map T.slots).flatten ∧ t.slots.length ≤ 100000) := ⟨slots_inner hl, hsl⟩
  have IH : Hid (∀ k ∈ t.kids, CallAt 47 C k [] (fun w e w' => PairsAns k w e w')) := ih
  have HPOS : Hid (∀ k ∈ t.kids, 0 < k.slots.length) := fun k hk => by
    obtain ⟨r, hr⟩ := hg
    exact slots_pos k (((shape_eq t).1 hs).2 k hk) (good_kid hr hk)
  have hal := (Below.refl (w.alloc (.cells #[.bool t.leaf, .int .i64 t.page, .slice ka kn kc, .slice va vn vc, .slice oa on oc, .slice ya t.kids.length yc] 61)).heap.size (w.alloc (.cells #[.bool t.leaf, .int .i64 t.page, .slice ka kn kc, .slice va vn vc, .slice oa on oc, .slice ya t.kids.length yc] 61))).alloc (Nat.le_refl _) (.cells #[] 53)
  have hown0 := owns_empty (w.alloc (.cells #[.bool t.leaf, .int .i64 t.page, .slice ka kn kc, .slice va vn vc, .slice oa on oc, .slice ya t.kids.length yc] 61)) 53 2
  have hb1 := hb0.below hal
  have sz : (w.alloc (.cells #[.bool t.leaf, .int .i64 t.page, .slice ka kn kc, .slice va vn vc, .slice oa on oc, .slice ya t.kids.length yc] 61)).heap.size = w.heap.size + 1 := by simp
  have HX : Hid _ := hX.belowC (hb1.bel.mono hC)
  rw [sz] at hown0
  clear hX hb0 hal sz ih hsl
  obtain ⟨n, hn⟩ : ∃ n, n = t.kids.length := ⟨_, rfl⟩
  have HNN : Hid (n = t.kids.length) := hn
  rw [← hn] at hb1 hown0 hle ⊢
  rw [← hn] at HX
  clear hn
  rw [hl] at hb1 hown0 ⊢
  rw [hl] at HX
  generalize t.page = p at hb1 hown0 HX ⊢
  obtain ⟨i0, hi, hz0, hz1, hz2⟩ := info_parts info_Pair
  obtain ⟨N, hN⟩ : ∃ N, w.heap.size = N := ⟨_, rfl⟩
  rw [hN] at hb1 hown0
  go_enter Try.func47, Try.ntmps47
  go_wp2_with fail
  generalize ((w.alloc (.cells #[.bool false, .int .i64 p, .slice ka kn kc, .slice va vn vc, .slice oa on oc, .slice ya n yc] 61)).alloc (.cells #[] 53)) = W1 at hb1 hown0 HX ⊢
  have s1 := hb1.lt
  have hC1 : C ≤ W1.heap.size := by omega
  have hN1 : N + 1 < W1.heap.size := (hown0.lt (N + 1) rfl).2
  obtain ⟨x0, x1, x2, x3, x4, x5⟩ := box6 hb1.box
  go_loopw [3, 4] (fun o i wr => o = .slice (some ⟨N + 1, 0, none⟩) 0 0 ∧ i = .int .i64 0 ∧ wr = W1) (fun _ _ _ => 0)
  case atStart => exact ⟨rfl, rfl, rfl⟩
  case round =>
    obtain ⟨rfl, rfl, rfl⟩ := hrel
    generalize wr = W2 at hb1 hown0 HX s1 hC1 hN1 x0 x1 x2 x3 x4 x5 ⊢
    go_wp2_with fail
    all_goals
      clear x0 x1 x2 x3 x4 x5
      go_loopw [3, 5] (fun o i wx => ∃ (j m g cc : Nat), j ≤ n ∧ i = .int .i64 j ∧ o = .slice (some ⟨g, 0, none⟩) m cc ∧ m ≤ 100000 ∧ Hid (m = (((t.kids.map T.slots).take j).flatten).length) ∧ wx.ownsRow (N + 1) 53 2 (.slice (some ⟨g, 0, none⟩) m cc) m (rowsOf prCells ((t.kids.map T.slots).take j).flatten) ∧ Fr (fun k => N + 1 ≤ k) W2 wx) (fun _ i _ => n - (intOf i).toNat)
      case atStart => exact ⟨0, 0, N + 1, 0, Nat.zero_le _, rfl, rfl, by omega, by show _ = _; simp, by simpa [rowsOf] using hown0, Fr.refl _ _⟩
      case round =>
        clear hown0
        obtain ⟨j, m, g, cc, hj, rfl, rfl, hm, HM, hown, hfr⟩ := hrel
        have hbel : Below (N + 1) W2 wr := hfr.below (by omega) (fun g e => e)
        have X2 : BoxN w wr N #[.bool false, .int .i64 p, .slice ka kn kc, .slice va vn vc, .slice oa on oc, .slice ya n yc] := ⟨(hbel.block N (by omega)).trans hb1.box, hb1.bel.trans (hbel.mono (by omega))⟩
        have l2 := X2.lt
        obtain ⟨x0, x1, x2, x3, x4, x5⟩ := box6 X2.box
        by_cases hlt : j < n
        · obtain ⟨b, off, rfl, hbl, k, hki, hkm, ka', kn', kc', va', vn', vc', oa', on', oc', ya', yc', css', hXk, c0, c1, c2, c3, c4, c5⟩ := (HX.out.belowC (hbel.mono (by omega))).at (i := j) (by have := HNN.out; omega)
          have IHk := IH.out k hkm
          have hkp := HPOS.out k hkm
          have hft := flat_take hki
          have hfl := flat_take_le (t.kids.map T.slots) (j + 1)
          have HST : Hid (((t.kids.map T.slots).take (j + 1)).flatten = ((t.kids.map T.slots).take j).flatten ++ k.slots) := hft
          have hbd : m + k.slots.length ≤ 100000 := by
            rw [hft, List.length_append] at hfl
            have h1 := HM.out
            have h2 := HSI.out
            rw [h2.1] at h2
            omega
          clear hki hkm hft hfl
          have hCw : C ≤ wr.heap.size := by have := hfr.size; omega
          have hNw : N + 1 ≤ wr.heap.size := by omega
          go_wp2_with fail
          refine (IHk wr ka' kn' kc' va' vn' vc' oa' on' oc' ya' yc' css' hCw hXk).mono ?_
          rintro e w1 ⟨g1, c1', rfl, hown1, hb1'⟩
          have hownw := owns_below hown hb1'
          have hs1 := hb1'.size
          have hcell : ∀ q u, (rowsOf prCells k.slots)[q]? = some u → w1.cell? ((⟨g1, 0, none⟩ : Addr).add q) = some u := fun q u hq => by
            have hql : q < k.slots.length * 2 := by
              have := (List.getElem?_eq_some_iff.1 hq).1
              rwa [rowsOf_length pr2] at this
            have := hown1.cellAt q hql
            rw [hq] at this
            rw [addr0_add]
            exact this
          have hone : ∀ u ∈ rowsOf prCells k.slots, u.oneCell' = true := fun u hu => by
            simp only [rowsOf, List.mem_flatMap, prCells] at hu
            obtain ⟨a, _, ha⟩ := hu
            simp at ha
            rcases ha with rfl | rfl <;> rfl
          have hlen : (rowsOf prCells k.slots).length = k.slots.length * 2 := rowsOf_length pr2 _
          have HOW : Hid (w1.ownsRow (N + 1) 53 2 (.slice (some ⟨g, 0, none⟩) m cc) m (rowsOf prCells ((t.kids.map T.slots).take j).flatten)) := hownw
          have HC : Hid _ := hcell
          have HO : Hid _ := hone
          have HL : Hid _ := hlen
          have hfr1 : Fr (fun k => N + 1 ≤ k) W2 w1 := hfr.trans (Fr.of_below hb1')
          obtain ⟨kl, hql⟩ : ∃ kl, k.slots.length = kl := ⟨_, rfl⟩
          have HKL : Hid (k.slots.length = kl) := hql
          rw [hql] at hbd hkp HL ⊢
          clear hown hown1 hownw hcell hone hlen hql c0 c1 c2 c3 c4 c5 hXk IHk x0 x1 x2 x3 x4 x5
          go_wp2_with (at_builtin; refine wpList_append_ownD _ rfl _ _ 28 rfl (N + 1) 53 i0 _ 2 32 Try.underlying28 hi hz0 hz1 hz2 rfl (by decide) _ _ _ rfl HOW.out ⟨g1, 0, none⟩ kl c1' (rowsOf prCells k.slots) rfl HL.out HC.out HO.out (by unfold maxLen; omega) (by omega) (by omega) ?_; intro v' w4 hown' hgr hat; have hfr4 : Fr (fun k => N + 1 ≤ k) W2 w4 := hfr1.trans (Fr.of_grown hgr (fun q hq => (HOW.out.lt q hq).1)); obtain ⟨g4, c4', rfl⟩ := some_of_pos hown' (by omega); clear hgr hat)
          have hown2 : w4.ownsRow (N + 1) 53 2 (.slice (some ⟨g4, 0, none⟩) (m + kl) c4') (m + kl) (rowsOf prCells ((t.kids.map T.slots).take (j + 1)).flatten) := by rw [HST.out, rowsOf_append]; exact hown'
          have HM2 : Hid (m + kl = (((t.kids.map T.slots).take (j + 1)).flatten).length) := by
            show _ = _
            rw [HST.out, List.length_append, HKL.out, ← HM.out]
          clear hown' HOW
          go_roundw
          case rel => exact ⟨j + 1, m + kl, g4, c4', by omega, by go_num, rfl, hbd, HM2, hown2, hfr4⟩
          case measure => simp [intOf]; omega
        · have HEND : Hid (t.slots = ((t.kids.map T.slots).take j).flatten) := by
            show _ = _
            rw [HSI.out.1, List.take_of_length_le (by simp; have := HNN.out; omega)]
          have hmm : t.slots.length = m := by rw [HEND.out, HM.out]
          have HO2 : Hid (wr.ownsRow N 53 2 (.slice (some ⟨g, 0, none⟩) m cc) m (rowsOf prCells t.slots)) := by
            have := owns_base hown (Nat.le_succ N)
            rw [← HEND.out] at this
            exact this
          have HMM : Hid (t.slots.length = m) := hmm
          have hbw : Below N w wr := X2.bel
          clear hown hmm
          go_wp2_with fail
          go_ret
          exact ⟨g, cc, by rw [HMM.out]; rfl, by rw [HMM.out, hN]; exact HO2.out, by rw [hN]; exact hbw⟩
theorem l3Pairs_any (C : Nat) (t : T) : Shape t → (∃ r, t.good r = true) → t.slots.length ≤ 100000 → CallAt 47 C t [] (fun w e w' => PairsAns t w e w') := by
  induction t using T.ind with
  | h t ih =>
    intro hs hg hsl
    by_cases hl : t.leaf = true
    · exact l3Pairs_leaf C t hs hl hg
    · have hl2 : t.leaf = false := by simpa using hl
      refine l3Pairs_inner C t hs hg hl2 hsl (fun k hk => ?_)
      obtain ⟨r, hr⟩ := hg
      refine ih k hk (((shape_eq t).1 hs).2 k hk) ⟨false, good_kid hr hk⟩ ?_
      rw [slots_inner hl2] at hsl
      have : k.slots.length ≤ ((t.kids.map T.slots).flatten).length := by
        rw [List.length_flatten]
        exact sum_get_le (List.mem_map.2 ⟨k.slots, List.mem_map.2 ⟨k, hk, rfl⟩, rfl⟩)
      omega
end Go.Proofs.Ytpmagndofiaooaa
