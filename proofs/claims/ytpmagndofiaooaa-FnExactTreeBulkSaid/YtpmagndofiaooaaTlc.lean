import Derived.Test.YtpmagndofiaooaaTlb
import Derived.Test.YtpmagndofiaooaaIn
import Derived.Deep.DeepCutAuto
namespace Go.Proofs.Ytpmagndofiaooaa
open Go.RowKit
set_option linter.unusedVariables false
set_option linter.unusedSimpArgs false
set_option maxRecDepth 100000

set_option maxHeartbeats 400000 in
theorem l2Key_t (s : ByteArray) (hs : s.size ≤ maxLen) (w : World) :
    Calls Try.prog 27 #[.string s] w fun e w' => e = .returned (.bool (kyB s)) ∧ w' = w := by
  unfold maxLen at hs
  by_cases h1 : 1 ≤ s.size
  · go_enter Try.func27, Try.ntmps27
    go_wp2
    go_ret
    exact ⟨by simp [kyB, h1]; omega, rfl⟩
  · have hd : decide ((1 : Int) ≤ s.size) = false := by simp; omega
    go_enter Try.func27, Try.ntmps27
    go_wp2
    go_ret
    exact ⟨by simp [kyB, h1], rfl⟩
set_option maxHeartbeats 400000 in
theorem l3Long_t (s : ByteArray) (hs : s.size ≤ maxLen) (w : World) :
    Calls Try.prog 64 #[.string s] w fun e w' => e = .returned (.bool (decide (8 < s.size))) ∧ w' = w := by
  unfold maxLen at hs
  go_enter Try.func64, Try.ntmps64
  go_wp2
  go_ret
  exact ⟨by congr 2; simp; omega, rfl⟩
/-- An entry of a leaf. -/
def entTB (p : Int) (s v : ByteArray) (o : Int) : Bool := kyB s && standB p v o
theorem good_leafB {t : T} (hs : Shape t) (hl : t.leaf = true) (r : Bool) : (t.good r && t.slots.all (fun s => kyB s.1)) = (decide ((if r then 0 else 2) ≤ t.keys.length ∧ t.keys.length ≤ 4) && (t.page == 0 || pgB t.page) && decide (t.vals.length = t.keys.length) && decide (t.over.length = t.keys.length) && (t.keys.zip (t.vals.zip t.over)).all (fun x => entTB t.page x.1 x.2.1 x.2.2)) := by
  have hk := ((shape_eq t).1 hs).1 hl
  rw [T.good_eq, T.slots_eq, hl, hk]
  simp only [T.size, hl, if_true, List.map_nil, List.all_nil, List.flatten_nil, List.append_nil, Bool.and_true, Bool.not_true, Bool.false_or, entTB]
  by_cases h1 : t.vals.length = t.keys.length
  · by_cases h2 : t.over.length = t.keys.length
    · have e1 : (t.vals.zip t.over).all (fun x => standB t.page x.1 x.2) = (t.keys.zip (t.vals.zip t.over)).all (fun x => standB t.page x.2.1 x.2.2) := by
        rw [show (fun x : ByteArray × ByteArray × Int => standB t.page x.2.1 x.2.2) = (fun x => standB t.page x.1 x.2) ∘ Prod.snd from rfl, ← List.all_map, List.map_snd_zip (by simp; omega)]
      rw [e1]
      have e2 : (t.keys.zip (t.vals.zip t.over)).all (fun x => kyB x.1 && standB t.page x.2.1 x.2.2) = ((t.keys.zip (t.vals.zip t.over)).all (fun x => kyB x.1) && (t.keys.zip (t.vals.zip t.over)).all (fun x => standB t.page x.2.1 x.2.2)) := by
        generalize t.keys.zip (t.vals.zip t.over) = l
        induction l with
        | nil => rfl
        | cons a l ih => simp only [List.all_cons, ih]; cases kyB a.1 <;> cases standB t.page a.2.1 a.2.2 <;> simp
      rw [e2]
      generalize (t.keys.zip (t.vals.zip t.over)).all (fun x => kyB x.1) = a
      generalize (t.keys.zip (t.vals.zip t.over)).all (fun x => standB t.page x.2.1 x.2.2) = b
      cases a <;> cases b <;> simp [h1, h2]
    · simp [h2]
  · simp [h1]
theorem good_innerB {t : T} (hl : t.leaf = false) (r : Bool) : (t.good r && t.slots.all (fun s => kyB s.1)) = (decide (2 ≤ t.kids.length ∧ t.kids.length ≤ 4) && (t.page == 0 || pgB t.page) && t.kids.all (fun k => (k.good false && k.slots.all (fun s => kyB s.1)) && !(t.page != 0 && k.page == 0))) := by
  rw [T.good_eq, T.slots_eq, hl]
  simp only [T.size, hl, Bool.false_eq_true, if_false, Bool.not_false, Bool.true_or, Bool.and_true, List.nil_append, Bool.and_false]
  have e : ((t.kids.map (fun t => t.good false)).all id && t.kids.all (fun k => !(t.page != 0 && k.page == 0)) && ((t.kids.map T.slots).flatten).all (fun s => kyB s.1)) = t.kids.all (fun k => (k.good false && k.slots.all (fun s => kyB s.1)) && !(t.page != 0 && k.page == 0)) := by
    generalize t.kids = l
    generalize t.page = p
    induction l with
    | nil => rfl
    | cons a l ih =>
      simp only [List.map_cons, List.all_cons, List.flatten_cons, List.all_append, id] at ih ⊢
      rw [← ih]
      generalize (l.map (fun t => t.good false)).all id = x1
      generalize l.all (fun k => !(p != 0 && k.page == 0)) = x2
      generalize (l.map T.slots).flatten.all (fun s => kyB s.1) = x3
      generalize a.good false = x4
      generalize a.slots.all (fun s => kyB s.1) = x5
      generalize (!(p != 0 && a.page == 0)) = x6
      cases x1 <;> cases x2 <;> cases x3 <;> cases x4 <;> cases x5 <;> cases x6 <;> rfl
  rw [← e]
  generalize (t.kids.map (fun t => t.good false)).all id = x1
  generalize t.kids.all (fun k => !(t.page != 0 && k.page == 0)) = x2
  generalize (t.kids.map T.slots).flatten.all (fun s => kyB s.1) = x3
  generalize decide (2 ≤ t.kids.length ∧ t.kids.length ≤ 4) = x4
  generalize (t.page == 0 || pgB t.page) = x5
  cases x1 <;> cases x2 <;> cases x3 <;> cases x4 <;> cases x5 <;> rfl
theorem zip3_get {ks vs : List ByteArray} {os : List Int} {n j : Nat} (h1 : ks.length = n) (h2 : vs.length = n) (h3 : os.length = n) (hj : j < n) : (ks.zip (vs.zip os))[j]? = some (ks.getD j ByteArray.empty, vs.getD j ByteArray.empty, os.getD j 0) := by
  simp [List.getD, List.getElem?_eq_getElem (show j < ks.length by omega), List.getElem?_eq_getElem (show j < vs.length by omega), List.getElem?_eq_getElem (show j < os.length by omega), List.getElem?_zip_eq_some]
theorem ents_false {ks vs : List ByteArray} {os : List Int} {p : Int} {n j : Nat} (h : ks.length = n ∧ vs.length = n ∧ os.length = n) (hj : j < n) (hb : entTB p (ks.getD j ByteArray.empty) (vs.getD j ByteArray.empty) (os.getD j 0) = false) : (ks.zip (vs.zip os)).all (fun x => entTB p x.1 x.2.1 x.2.2) = false := by
  rw [← Bool.not_eq_true]
  intro hc
  have := List.all_eq_true.1 hc _ (List.mem_of_getElem? (zip3_get h.1 h.2.1 h.2.2 hj))
  rw [hb] at this
  cases this
theorem ents_true {ks vs : List ByteArray} {os : List Int} {p : Int} {n : Nat} (h : ks.length = n ∧ vs.length = n ∧ os.length = n) (hb : ∀ j, j < n → entTB p (ks.getD j ByteArray.empty) (vs.getD j ByteArray.empty) (os.getD j 0) = true) : (ks.zip (vs.zip os)).all (fun x => entTB p x.1 x.2.1 x.2.2) = true := by
  rw [List.all_eq_true]
  intro x hx
  obtain ⟨j, hj⟩ := List.mem_iff_getElem?.1 hx
  have hlt : j < n := by
    have := (List.getElem?_eq_some_iff.1 hj).1
    simp at this
    omega
  rw [zip3_get h.1 h.2.1 h.2.2 hlt] at hj
  simp at hj
  rw [← hj]
  exact hb j hlt
/-- The box of an argument, later. -/
structure BoxN (w W : World) (N : Nat) (cs : Array Value) : Prop where
  box : W.heap[N]? = some (.cells cs 61)
  bel : Below N w W
theorem BoxN.lt {w W : World} {N : Nat} {cs : Array Value} (h : BoxN w W N cs) : N < W.heap.size := (Array.getElem?_eq_some_iff.1 h.box).1
theorem BoxN.below {w W W' : World} {N : Nat} {cs : Array Value} (h : BoxN w W N cs) (hb : Below W.heap.size W W') : BoxN w W' N cs :=
  ⟨(hb.block _ h.lt).trans h.box, h.bel.trans (hb.mono (Nat.le_of_lt h.lt))⟩
theorem BoxN.new (w : World) (cs : Array Value) : BoxN w (w.alloc (.cells cs 61)) w.heap.size cs := ⟨heap_alloc_new w _, (Below.refl _ _).alloc (Nat.le_refl _) _⟩
theorem leaf_false (a b c d e : Bool) : (a && b && c && d && e) = false ↔ a = false ∨ b = false ∨ c = false ∨ d = false ∨ e = false := by
  cases a <;> cases b <;> cases c <;> cases d <;> cases e <;> simp
set_option maxHeartbeats 4000000 in
theorem l3Good_leaf0 (C : Nat) (t : T) (hs : Shape t) (hl : t.leaf = true) : CallAt 45 C t [.bool false] (fun w e w' => e = .returned (.bool (t.good false && t.slots.all (fun s => kyB s.1))) ∧ Below w.heap.size w w') := by
  intro w ka kn kc va vn vc oa on oc ya yc css hC hX
  have hb0 := BoxN.new w #[.bool t.leaf, .int .i64 t.page, .slice ka kn kc, .slice va vn vc, .slice oa on oc, .slice ya t.kids.length yc]
  have hX0 := hX.belowC (hb0.bel.mono hC)
  have HG := good_leafB hs hl false
  have hn : t.kids.length = 0 := by rw [((shape_eq t).1 hs).1 hl]; rfl
  have e1 := hX.keys.1
  have e2 := hX.vals.1
  have e3 := hX.over.1
  have HSZ : Hid (t.size = kn) := by show _ = _; unfold T.size; rw [if_pos hl]; exact e1
  have hkn : kn ≤ maxLen := Nat.le_trans hX.keys.2.1 hX.keys.2.2.1
  have hvn : vn ≤ maxLen := Nat.le_trans hX.vals.2.1 hX.vals.2.2.1
  have hon : on ≤ maxLen := Nat.le_trans hX.over.2.1 hX.over.2.2.1
  unfold maxLen at hkn hvn hon
  rw [e1, e2, e3] at HG
  have HE1 : Hid (t.keys.length = kn ∧ t.vals.length = vn ∧ t.over.length = on) := ⟨e1, e2, e3⟩
  clear e1 e2 e3
  have hK := hX0.keys
  have hV := hX0.vals
  have hO := hX0.over
  have HSize : Hid (∀ W, Calls Try.prog 62 #[.agg #[.bool true, .int .i64 t.page, .slice ka kn kc, .slice va vn vc, .slice oa on oc, .slice ya 0 yc]] W fun e w' => e = .returned (.int .i64 kn) ∧ Below W.heap.size W w') := fun W => by
    have := l3Size_any t ka kn kc va vn vc oa on oc ya yc W HE1.out.1
    rw [hl, hn, HSZ.out] at this
    exact this
  clear hX hX0
  obtain ⟨R, hR⟩ : ∃ R, R = (t.good false && t.slots.all (fun s => kyB s.1)) := ⟨_, rfl⟩
  rw [← hR] at HG ⊢
  clear hR
  rw [hl, hn] at hb0 ⊢
  rw [hl, hn] at hK hV hO
  obtain ⟨p, hp⟩ : ∃ p, p = t.page := ⟨_, rfl⟩
  rw [← hp] at hb0 hK hV hO HSize HG ⊢
  clear hp hn
  simp only [Bool.false_eq_true, if_false, if_true] at HG
  obtain ⟨G1, hG1⟩ : ∃ G1, G1 = (decide (2 ≤ kn ∧ kn ≤ 4) && (p == 0 || pgB p)) := ⟨_, rfl⟩
  rw [← hG1] at HG
  have HG1 : Hid (G1 = (decide (2 ≤ kn ∧ kn ≤ 4) && (p == 0 || pgB p))) := hG1
  have HR : Hid (R = (G1 && decide (vn = kn) && decide (on = kn) && (t.keys.zip (t.vals.zip t.over)).all (fun x => entTB p x.1 x.2.1 x.2.2))) := HG
  clear hG1 HG
  generalize hW0 : w.alloc (.cells #[.bool true, .int .i64 p, .slice ka kn kc, .slice va vn vc, .slice oa on oc, .slice ya 0 yc] 61) = W0 at hb0 hK hV hO
  have HW0 : Hid (w.alloc (.cells #[.bool true, .int .i64 p, .slice ka kn kc, .slice va vn vc, .slice oa on oc, .slice ya 0 yc] 61) = W0) := hW0
  clear hW0
  have hw0 : C ≤ W0.heap.size := Nat.le_trans hC (Nat.le_of_lt hb0.lt)
  go_enter Try.func45, Try.ntmps45
  go_upto_region 4 with fail
  rw [HW0.out]
  have l0 := hb0.lt
  obtain ⟨x0, x1, x2, x3, x4, x5⟩ := box6 hb0.box
  go_cut [33] (fun v wx => v = .bool (!G1) ∧ Below W0.heap.size W0 wx)
  case first =>
    go_wp2_with fail
    refine (HSize.out W0).mono ?_
    rintro e w1 ⟨rfl, hb1⟩
    have X1 := hb0.below hb1
    have l1 := X1.lt
    clear x0 x1 x2 x3 x4 x5
    obtain ⟨x0, x1, x2, x3, x4, x5⟩ := box6 X1.box
    by_cases t1 : kn < 2
    · have hz : G1 = false := by rw [HG1.out]; simp; omega
      go_wp2_with fail
      go_meet
      exact ⟨by rw [hz]; rfl, hb1⟩
    · have d1 : decide ((kn : Int) < 2) = false := by simp <;> omega
      go_wp2_with fail
      refine (HSize.out w1).mono ?_
      rintro e w2 ⟨rfl, hb2⟩
      have X2 := X1.below hb2
      have B2 := hb1.trans (hb2.mono hb1.size)
      have l2 := X2.lt
      clear x0 x1 x2 x3 x4 x5
      obtain ⟨x0, x1, x2, x3, x4, x5⟩ := box6 X2.box
      by_cases t2 : 4 < kn
      · have hz : G1 = false := by rw [HG1.out]; simp; omega
        go_wp2_with fail
        go_meet
        exact ⟨by rw [hz]; rfl, B2⟩
      · have d2 : decide ((4 : Int) < kn) = false := by simp; omega
        by_cases t3 : p = 0
        · have s3 : (p != 0) = false := by simpa using t3
          have hz : G1 = true := by rw [HG1.out]; simp [t3]; omega
          clear t3
          go_wp2_with fail
          go_meet
          exact ⟨by rw [hz]; rfl, B2⟩
        · have s3 : (p != 0) = true := by simpa using t3
          have hz : G1 = pgB p := by
            rw [HG1.out, show decide (2 ≤ kn ∧ kn ≤ 4) = true by simp; omega, show (p == 0) = false by simpa using t3]
            simp
          go_wp2_with (go_at_call 63; refine (l1In_any _ _ _ _).mono ?_; rintro e w3 ⟨rfl, rfl⟩)
          go_meet
          exact ⟨by rw [hz]; simp [pgB], B2⟩
  case rest =>
    obtain ⟨rfl, B2⟩ := hcut
    have X2 := hb0.below B2
    have l2 := X2.lt
    clear x0 x1 x2 x3 x4 x5
    obtain ⟨x0, x1, x2, x3, x4, x5⟩ := box6 X2.box
    by_cases tg : G1 = true
    rotate_left
    · have sg : G1 = false := by simpa using tg
      have hz : R = false := by rw [HR.out, sg]; simp
      subst sg
      go_wp2_with fail
      go_ret
      exact ⟨by rw [hz]; rfl, X2.bel⟩
    subst tg
    by_cases t5 : vn = kn
    rotate_left
    · have s5 : ((vn : Int) != (kn : Int)) = true := by simp; omega
      have hz : R = false := by rw [HR.out]; simp [t5]
      go_wp2_with fail
      go_ret
      exact ⟨by rw [hz]; rfl, X2.bel⟩
    by_cases t6 : on = kn
    rotate_left
    · have s5 : ((vn : Int) != (kn : Int)) = false := by simp; omega
      have s6 : ((on : Int) != (kn : Int)) = true := by simp; omega
      have hz : R = false := by rw [HR.out]; simp [t6]
      go_wp2_with fail
      go_ret
      exact ⟨by rw [hz]; rfl, X2.bel⟩
    subst t5 t6
    have s5 : ((on : Int) != (on : Int)) = false := by simp
    have HZ : Hid (R = (t.keys.zip (t.vals.zip t.over)).all (fun x => entTB p x.1 x.2.1 x.2.2)) := by show _ = _; rw [HR.out]; simp
    clear HR HG1
    go_wp2_with fail
    clear x0 x1 x2 x3 x4 x5
    go_loopw [6, 7] (fun i o wr => ∃ (j : Nat), j ≤ on ∧ i = .int .i64 j ∧ Hid (∀ i, i < j → entTB p (t.keys.getD i ByteArray.empty) (t.vals.getD i ByteArray.empty) (t.over.getD i 0) = true) ∧ Below W0.heap.size W0 wr) (fun i _ _ => on - (intOf i).toNat)
    case atStart => exact ⟨0, Nat.zero_le _, rfl, fun i hi => by omega, B2⟩
    case round =>
      obtain ⟨j, hj, rfl, HR, hbel⟩ := hrel
      have X3 := hb0.below hbel
      have l3 := X3.lt
      obtain ⟨x0, x1, x2, x3, x4, x5⟩ := box6 X3.box
      by_cases hlt : j < on
      · obtain ⟨kb, koff, rfl, _, hfk, ek⟩ := StrsAt.at (hK.below (hbel.mono hw0)) hlt
        obtain ⟨vb, voff, rfl, _, hfv, ev⟩ := StrsAt.at (hV.below (hbel.mono hw0)) hlt
        obtain ⟨ob, ooff, rfl, _, hfo, eo⟩ := IntsAt.at (hO.below (hbel.mono hw0)) hlt
        obtain ⟨E, hE⟩ : ∃ E, E = entTB p (t.keys.getD j ByteArray.empty) (t.vals.getD j ByteArray.empty) (t.over.getD j 0) := ⟨_, rfl⟩
        have HB : Hid ((E = false → R = false) ∧ (E = true → ∀ i, i < j + 1 → entTB p (t.keys.getD i ByteArray.empty) (t.vals.getD i ByteArray.empty) (t.over.getD i 0) = true)) := by
          refine ⟨fun h => ?_, fun h i hi => ?_⟩
          · rw [HZ.out]
            exact ents_false HE1.out hlt (hE ▸ h)
          · by_cases hij : i = j
            · subst hij; exact hE ▸ h
            · exact HR.out i (by omega)
        generalize t.keys.getD j ByteArray.empty = s at hfk ek hE
        generalize t.vals.getD j ByteArray.empty = v at hfv ev hE
        generalize t.over.getD j 0 = o at hfo eo hE
        have HE : Hid (E = entTB p s v o) := hE
        clear hE
        have hfv2 := hfv
        unfold maxLen at hfv2
        go_upto_region 12 with fail
        go_cut [124] (fun c wx => c = .bool (!E) ∧ wx = wr)
        case first =>
          by_cases ta : kyB s = true
          rotate_left
          · have sa : kyB s = false := by simpa using ta
            have hen : E = false := by rw [HE.out]; simp [entTB, sa]
            go_wp2_with (first | (go_at_call 27; refine (l2Key_t _ hfk _).mono ?_; rintro e w3 ⟨rfl, rfl⟩; first | rw [ta] | rw [sa]) | (go_at_call 63; refine (l1In_any _ _ _ _).mono ?_; rintro e w3 ⟨rfl, rfl⟩; rw [se]) | (go_at_call 64; refine (l3Long_t _ hfv _).mono ?_; rintro e w3 ⟨rfl, rfl⟩; rw [sd]))
            go_meet
            exact ⟨by rw [hen]; rfl, rfl⟩
          by_cases tb : v.size ≤ 400
          rotate_left
          · have hen : E = false := by rw [HE.out]; simp [entTB, standB, tb]
            go_wp2_with (first | (go_at_call 27; refine (l2Key_t _ hfk _).mono ?_; rintro e w3 ⟨rfl, rfl⟩; first | rw [ta] | rw [sa]) | (go_at_call 63; refine (l1In_any _ _ _ _).mono ?_; rintro e w3 ⟨rfl, rfl⟩; rw [se]) | (go_at_call 64; refine (l3Long_t _ hfv _).mono ?_; rintro e w3 ⟨rfl, rfl⟩; rw [sd]))
            go_meet
            exact ⟨by rw [hen]; rfl, rfl⟩
          have db : decide ((400 : Int) < v.size) = false := by simp; omega
          by_cases tc : o = 0
          · have sc : (o != 0) = false := by simpa using tc
            have sc2 : (o == 0) = true := by simpa using tc
            by_cases td : 8 < v.size
            · have sd : decide (8 < v.size) = true := by simpa using td
              have hen : E = !(p != 0) := by rw [HE.out]; simp [entTB, standB, ta, tb, sc, sc2, td]
              clear tc
              go_wp2_with (first | (go_at_call 27; refine (l2Key_t _ hfk _).mono ?_; rintro e w3 ⟨rfl, rfl⟩; first | rw [ta] | rw [sa]) | (go_at_call 63; refine (l1In_any _ _ _ _).mono ?_; rintro e w3 ⟨rfl, rfl⟩; rw [se]) | (go_at_call 64; refine (l3Long_t _ hfv _).mono ?_; rintro e w3 ⟨rfl, rfl⟩; rw [sd]))
              go_meet
              exact ⟨by rw [hen]; simp, rfl⟩
            · have sd : decide (8 < v.size) = false := by simpa using td
              have hen : E = true := by rw [HE.out]; simp [entTB, standB, ta, tb, sc, sc2, td]
              clear tc
              go_wp2_with (first | (go_at_call 27; refine (l2Key_t _ hfk _).mono ?_; rintro e w3 ⟨rfl, rfl⟩; first | rw [ta] | rw [sa]) | (go_at_call 63; refine (l1In_any _ _ _ _).mono ?_; rintro e w3 ⟨rfl, rfl⟩; rw [se]) | (go_at_call 64; refine (l3Long_t _ hfv _).mono ?_; rintro e w3 ⟨rfl, rfl⟩; rw [sd]))
              go_meet
              exact ⟨by rw [hen]; rfl, rfl⟩
          · have sc : (o != 0) = true := by simpa using tc
            have sc2 : (o == 0) = false := by simpa using tc
            by_cases te : 2 ≤ o ∧ o ≤ 999
            rotate_left
            · have se : decide (2 ≤ o ∧ o ≤ 999) = false := by simpa using te
              have hen : E = false := by rw [HE.out]; simp [entTB, standB, ta, tb, sc2, pgB, se]
              go_wp2_with (first | (go_at_call 27; refine (l2Key_t _ hfk _).mono ?_; rintro e w3 ⟨rfl, rfl⟩; first | rw [ta] | rw [sa]) | (go_at_call 63; refine (l1In_any _ _ _ _).mono ?_; rintro e w3 ⟨rfl, rfl⟩; rw [se]) | (go_at_call 64; refine (l3Long_t _ hfv _).mono ?_; rintro e w3 ⟨rfl, rfl⟩; rw [sd]))
              go_meet
              exact ⟨by rw [hen]; rfl, rfl⟩
            have se : decide (2 ≤ o ∧ o ≤ 999) = true := by simpa using te
            have hen : E = decide (8 < v.size) := by
              rw [HE.out]
              by_cases td : 8 < v.size
              · have : ¬ v.size ≤ 8 := by omega
                simp [entTB, standB, ta, tb, sc, sc2, se, pgB, td, this]
              · have : v.size ≤ 8 := by omega
                simp [entTB, standB, ta, tb, sc, sc2, se, pgB, td, this]
            by_cases td : 8 < v.size
            · have sd : decide (8 < v.size) = true := by simpa using td
              go_wp2_with (first | (go_at_call 27; refine (l2Key_t _ hfk _).mono ?_; rintro e w3 ⟨rfl, rfl⟩; first | rw [ta] | rw [sa]) | (go_at_call 63; refine (l1In_any _ _ _ _).mono ?_; rintro e w3 ⟨rfl, rfl⟩; rw [se]) | (go_at_call 64; refine (l3Long_t _ hfv _).mono ?_; rintro e w3 ⟨rfl, rfl⟩; rw [sd]))
              go_meet
              exact ⟨by rw [hen, sd]; rfl, rfl⟩
            · have sd : decide (8 < v.size) = false := by simpa using td
              go_wp2_with (first | (go_at_call 27; refine (l2Key_t _ hfk _).mono ?_; rintro e w3 ⟨rfl, rfl⟩; first | rw [ta] | rw [sa]) | (go_at_call 63; refine (l1In_any _ _ _ _).mono ?_; rintro e w3 ⟨rfl, rfl⟩; rw [se]) | (go_at_call 64; refine (l3Long_t _ hfv _).mono ?_; rintro e w3 ⟨rfl, rfl⟩; rw [sd]))
              go_meet
              exact ⟨by rw [hen, sd]; rfl, rfl⟩
        case rest =>
          obtain ⟨rfl, rfl⟩ := hcut
          by_cases te : E = true
          · have hre : Hid (∀ i, i < j + 1 → entTB p (t.keys.getD i ByteArray.empty) (t.vals.getD i ByteArray.empty) (t.over.getD i 0) = true) := HB.out.2 te
            subst te
            clear HB HR HE
            go_wp2_with fail
            go_roundw
            case rel => exact ⟨j + 1, by omega, by go_num, hre, hbel⟩
            case measure => simp [intOf]; omega
          · have se : E = false := by simpa using te
            have hz := HB.out.1 se
            subst se
            clear HB HR HE
            go_wp2_with fail
            go_ret
            exact ⟨by rw [hz]; rfl, X3.bel⟩
      · have hen : R = true := by
          rw [HZ.out]
          exact ents_true HE1.out (fun i hi => HR.out i (by omega))
        go_wp2_with fail
        go_loopw [8] (fun i wr => i = .int .i64 0 ∧ Below W0.heap.size W0 wr) (fun _ _ => 0)
        case atStart => exact ⟨rfl, hbel⟩
        case round =>
          clear hbel X3 x0 x1 x2 x3 x4 x5 l3
          obtain ⟨rfl, hbel⟩ := hrel
          have X3 := hb0.below hbel
          have l3 := X3.lt
          obtain ⟨x0, x1, x2, x3, x4, x5⟩ := box6 X3.box
          go_wp2_with fail
          go_ret
          exact ⟨by rw [hen]; rfl, X3.bel⟩
set_option maxHeartbeats 4000000 in
theorem l3Good_leaf1 (C : Nat) (t : T) (hs : Shape t) (hl : t.leaf = true) : CallAt 45 C t [.bool true] (fun w e w' => e = .returned (.bool (t.good true && t.slots.all (fun s => kyB s.1))) ∧ Below w.heap.size w w') := by
  intro w ka kn kc va vn vc oa on oc ya yc css hC hX
  have hb0 := BoxN.new w #[.bool t.leaf, .int .i64 t.page, .slice ka kn kc, .slice va vn vc, .slice oa on oc, .slice ya t.kids.length yc]
  have hX0 := hX.belowC (hb0.bel.mono hC)
  have HG := good_leafB hs hl true
  have hn : t.kids.length = 0 := by rw [((shape_eq t).1 hs).1 hl]; rfl
  have e1 := hX.keys.1
  have e2 := hX.vals.1
  have e3 := hX.over.1
  have HSZ : Hid (t.size = kn) := by show _ = _; unfold T.size; rw [if_pos hl]; exact e1
  have hkn : kn ≤ maxLen := Nat.le_trans hX.keys.2.1 hX.keys.2.2.1
  have hvn : vn ≤ maxLen := Nat.le_trans hX.vals.2.1 hX.vals.2.2.1
  have hon : on ≤ maxLen := Nat.le_trans hX.over.2.1 hX.over.2.2.1
  unfold maxLen at hkn hvn hon
  rw [e1, e2, e3] at HG
  have HE1 : Hid (t.keys.length = kn ∧ t.vals.length = vn ∧ t.over.length = on) := ⟨e1, e2, e3⟩
  clear e1 e2 e3
  have hK := hX0.keys
  have hV := hX0.vals
  have hO := hX0.over
  have HSize : Hid (∀ W, Calls Try.prog 62 #[.agg #[.bool true, .int .i64 t.page, .slice ka kn kc, .slice va vn vc, .slice oa on oc, .slice ya 0 yc]] W fun e w' => e = .returned (.int .i64 kn) ∧ Below W.heap.size W w') := fun W => by
    have := l3Size_any t ka kn kc va vn vc oa on oc ya yc W HE1.out.1
    rw [hl, hn, HSZ.out] at this
    exact this
  clear hX hX0
  obtain ⟨R, hR⟩ : ∃ R, R = (t.good true && t.slots.all (fun s => kyB s.1)) := ⟨_, rfl⟩
  rw [← hR] at HG ⊢
  clear hR
  rw [hl, hn] at hb0 ⊢
  rw [hl, hn] at hK hV hO
  obtain ⟨p, hp⟩ : ∃ p, p = t.page := ⟨_, rfl⟩
  rw [← hp] at hb0 hK hV hO HSize HG ⊢
  clear hp hn
  simp only [Bool.false_eq_true, if_false, if_true] at HG
  obtain ⟨G1, hG1⟩ : ∃ G1, G1 = (decide (0 ≤ kn ∧ kn ≤ 4) && (p == 0 || pgB p)) := ⟨_, rfl⟩
  rw [← hG1] at HG
  have HG1 : Hid (G1 = (decide (0 ≤ kn ∧ kn ≤ 4) && (p == 0 || pgB p))) := hG1
  have HR : Hid (R = (G1 && decide (vn = kn) && decide (on = kn) && (t.keys.zip (t.vals.zip t.over)).all (fun x => entTB p x.1 x.2.1 x.2.2))) := HG
  clear hG1 HG
  generalize hW0 : w.alloc (.cells #[.bool true, .int .i64 p, .slice ka kn kc, .slice va vn vc, .slice oa on oc, .slice ya 0 yc] 61) = W0 at hb0 hK hV hO
  have HW0 : Hid (w.alloc (.cells #[.bool true, .int .i64 p, .slice ka kn kc, .slice va vn vc, .slice oa on oc, .slice ya 0 yc] 61) = W0) := hW0
  clear hW0
  have hw0 : C ≤ W0.heap.size := Nat.le_trans hC (Nat.le_of_lt hb0.lt)
  go_enter Try.func45, Try.ntmps45
  go_upto_region 4 with fail
  rw [HW0.out]
  have l0 := hb0.lt
  obtain ⟨x0, x1, x2, x3, x4, x5⟩ := box6 hb0.box
  go_cut [33] (fun v wx => v = .bool (!G1) ∧ Below W0.heap.size W0 wx)
  case first =>
    go_wp2_with fail
    refine (HSize.out W0).mono ?_
    rintro e w1 ⟨rfl, hb1⟩
    have X1 := hb0.below hb1
    have l1 := X1.lt
    clear x0 x1 x2 x3 x4 x5
    obtain ⟨x0, x1, x2, x3, x4, x5⟩ := box6 X1.box
    by_cases t1 : kn < 0
    · exfalso; omega
    · have d1 : decide ((kn : Int) < 0) = false := by simp <;> omega
      go_wp2_with fail
      refine (HSize.out w1).mono ?_
      rintro e w2 ⟨rfl, hb2⟩
      have X2 := X1.below hb2
      have B2 := hb1.trans (hb2.mono hb1.size)
      have l2 := X2.lt
      clear x0 x1 x2 x3 x4 x5
      obtain ⟨x0, x1, x2, x3, x4, x5⟩ := box6 X2.box
      by_cases t2 : 4 < kn
      · have hz : G1 = false := by rw [HG1.out]; simp; omega
        go_wp2_with fail
        go_meet
        exact ⟨by rw [hz]; rfl, B2⟩
      · have d2 : decide ((4 : Int) < kn) = false := by simp; omega
        by_cases t3 : p = 0
        · have s3 : (p != 0) = false := by simpa using t3
          have hz : G1 = true := by rw [HG1.out]; simp [t3]; omega
          clear t3
          go_wp2_with fail
          go_meet
          exact ⟨by rw [hz]; rfl, B2⟩
        · have s3 : (p != 0) = true := by simpa using t3
          have hz : G1 = pgB p := by
            rw [HG1.out, show decide (0 ≤ kn ∧ kn ≤ 4) = true by simp; omega, show (p == 0) = false by simpa using t3]
            simp
          go_wp2_with (go_at_call 63; refine (l1In_any _ _ _ _).mono ?_; rintro e w3 ⟨rfl, rfl⟩)
          go_meet
          exact ⟨by rw [hz]; simp [pgB], B2⟩
  case rest =>
    obtain ⟨rfl, B2⟩ := hcut
    have X2 := hb0.below B2
    have l2 := X2.lt
    clear x0 x1 x2 x3 x4 x5
    obtain ⟨x0, x1, x2, x3, x4, x5⟩ := box6 X2.box
    by_cases tg : G1 = true
    rotate_left
    · have sg : G1 = false := by simpa using tg
      have hz : R = false := by rw [HR.out, sg]; simp
      subst sg
      go_wp2_with fail
      go_ret
      exact ⟨by rw [hz]; rfl, X2.bel⟩
    subst tg
    by_cases t5 : vn = kn
    rotate_left
    · have s5 : ((vn : Int) != (kn : Int)) = true := by simp; omega
      have hz : R = false := by rw [HR.out]; simp [t5]
      go_wp2_with fail
      go_ret
      exact ⟨by rw [hz]; rfl, X2.bel⟩
    by_cases t6 : on = kn
    rotate_left
    · have s5 : ((vn : Int) != (kn : Int)) = false := by simp; omega
      have s6 : ((on : Int) != (kn : Int)) = true := by simp; omega
      have hz : R = false := by rw [HR.out]; simp [t6]
      go_wp2_with fail
      go_ret
      exact ⟨by rw [hz]; rfl, X2.bel⟩
    subst t5 t6
    have s5 : ((on : Int) != (on : Int)) = false := by simp
    have HZ : Hid (R = (t.keys.zip (t.vals.zip t.over)).all (fun x => entTB p x.1 x.2.1 x.2.2)) := by show _ = _; rw [HR.out]; simp
    clear HR HG1
    go_wp2_with fail
    clear x0 x1 x2 x3 x4 x5
    go_loopw [6, 7] (fun i o wr => ∃ (j : Nat), j ≤ on ∧ i = .int .i64 j ∧ Hid (∀ i, i < j → entTB p (t.keys.getD i ByteArray.empty) (t.vals.getD i ByteArray.empty) (t.over.getD i 0) = true) ∧ Below W0.heap.size W0 wr) (fun i _ _ => on - (intOf i).toNat)
    case atStart => exact ⟨0, Nat.zero_le _, rfl, fun i hi => by omega, B2⟩
    case round =>
      obtain ⟨j, hj, rfl, HR, hbel⟩ := hrel
      have X3 := hb0.below hbel
      have l3 := X3.lt
      obtain ⟨x0, x1, x2, x3, x4, x5⟩ := box6 X3.box
      by_cases hlt : j < on
      · obtain ⟨kb, koff, rfl, _, hfk, ek⟩ := StrsAt.at (hK.below (hbel.mono hw0)) hlt
        obtain ⟨vb, voff, rfl, _, hfv, ev⟩ := StrsAt.at (hV.below (hbel.mono hw0)) hlt
        obtain ⟨ob, ooff, rfl, _, hfo, eo⟩ := IntsAt.at (hO.below (hbel.mono hw0)) hlt
        obtain ⟨E, hE⟩ : ∃ E, E = entTB p (t.keys.getD j ByteArray.empty) (t.vals.getD j ByteArray.empty) (t.over.getD j 0) := ⟨_, rfl⟩
        have HB : Hid ((E = false → R = false) ∧ (E = true → ∀ i, i < j + 1 → entTB p (t.keys.getD i ByteArray.empty) (t.vals.getD i ByteArray.empty) (t.over.getD i 0) = true)) := by
          refine ⟨fun h => ?_, fun h i hi => ?_⟩
          · rw [HZ.out]
            exact ents_false HE1.out hlt (hE ▸ h)
          · by_cases hij : i = j
            · subst hij; exact hE ▸ h
            · exact HR.out i (by omega)
        generalize t.keys.getD j ByteArray.empty = s at hfk ek hE
        generalize t.vals.getD j ByteArray.empty = v at hfv ev hE
        generalize t.over.getD j 0 = o at hfo eo hE
        have HE : Hid (E = entTB p s v o) := hE
        clear hE
        have hfv2 := hfv
        unfold maxLen at hfv2
        go_upto_region 12 with fail
        go_cut [124] (fun c wx => c = .bool (!E) ∧ wx = wr)
        case first =>
          by_cases ta : kyB s = true
          rotate_left
          · have sa : kyB s = false := by simpa using ta
            have hen : E = false := by rw [HE.out]; simp [entTB, sa]
            go_wp2_with (first | (go_at_call 27; refine (l2Key_t _ hfk _).mono ?_; rintro e w3 ⟨rfl, rfl⟩; first | rw [ta] | rw [sa]) | (go_at_call 63; refine (l1In_any _ _ _ _).mono ?_; rintro e w3 ⟨rfl, rfl⟩; rw [se]) | (go_at_call 64; refine (l3Long_t _ hfv _).mono ?_; rintro e w3 ⟨rfl, rfl⟩; rw [sd]))
            go_meet
            exact ⟨by rw [hen]; rfl, rfl⟩
          by_cases tb : v.size ≤ 400
          rotate_left
          · have hen : E = false := by rw [HE.out]; simp [entTB, standB, tb]
            go_wp2_with (first | (go_at_call 27; refine (l2Key_t _ hfk _).mono ?_; rintro e w3 ⟨rfl, rfl⟩; first | rw [ta] | rw [sa]) | (go_at_call 63; refine (l1In_any _ _ _ _).mono ?_; rintro e w3 ⟨rfl, rfl⟩; rw [se]) | (go_at_call 64; refine (l3Long_t _ hfv _).mono ?_; rintro e w3 ⟨rfl, rfl⟩; rw [sd]))
            go_meet
            exact ⟨by rw [hen]; rfl, rfl⟩
          have db : decide ((400 : Int) < v.size) = false := by simp; omega
          by_cases tc : o = 0
          · have sc : (o != 0) = false := by simpa using tc
            have sc2 : (o == 0) = true := by simpa using tc
            by_cases td : 8 < v.size
            · have sd : decide (8 < v.size) = true := by simpa using td
              have hen : E = !(p != 0) := by rw [HE.out]; simp [entTB, standB, ta, tb, sc, sc2, td]
              clear tc
              go_wp2_with (first | (go_at_call 27; refine (l2Key_t _ hfk _).mono ?_; rintro e w3 ⟨rfl, rfl⟩; first | rw [ta] | rw [sa]) | (go_at_call 63; refine (l1In_any _ _ _ _).mono ?_; rintro e w3 ⟨rfl, rfl⟩; rw [se]) | (go_at_call 64; refine (l3Long_t _ hfv _).mono ?_; rintro e w3 ⟨rfl, rfl⟩; rw [sd]))
              go_meet
              exact ⟨by rw [hen]; simp, rfl⟩
            · have sd : decide (8 < v.size) = false := by simpa using td
              have hen : E = true := by rw [HE.out]; simp [entTB, standB, ta, tb, sc, sc2, td]
              clear tc
              go_wp2_with (first | (go_at_call 27; refine (l2Key_t _ hfk _).mono ?_; rintro e w3 ⟨rfl, rfl⟩; first | rw [ta] | rw [sa]) | (go_at_call 63; refine (l1In_any _ _ _ _).mono ?_; rintro e w3 ⟨rfl, rfl⟩; rw [se]) | (go_at_call 64; refine (l3Long_t _ hfv _).mono ?_; rintro e w3 ⟨rfl, rfl⟩; rw [sd]))
              go_meet
              exact ⟨by rw [hen]; rfl, rfl⟩
          · have sc : (o != 0) = true := by simpa using tc
            have sc2 : (o == 0) = false := by simpa using tc
            by_cases te : 2 ≤ o ∧ o ≤ 999
            rotate_left
            · have se : decide (2 ≤ o ∧ o ≤ 999) = false := by simpa using te
              have hen : E = false := by rw [HE.out]; simp [entTB, standB, ta, tb, sc2, pgB, se]
              go_wp2_with (first | (go_at_call 27; refine (l2Key_t _ hfk _).mono ?_; rintro e w3 ⟨rfl, rfl⟩; first | rw [ta] | rw [sa]) | (go_at_call 63; refine (l1In_any _ _ _ _).mono ?_; rintro e w3 ⟨rfl, rfl⟩; rw [se]) | (go_at_call 64; refine (l3Long_t _ hfv _).mono ?_; rintro e w3 ⟨rfl, rfl⟩; rw [sd]))
              go_meet
              exact ⟨by rw [hen]; rfl, rfl⟩
            have se : decide (2 ≤ o ∧ o ≤ 999) = true := by simpa using te
            have hen : E = decide (8 < v.size) := by
              rw [HE.out]
              by_cases td : 8 < v.size
              · have : ¬ v.size ≤ 8 := by omega
                simp [entTB, standB, ta, tb, sc, sc2, se, pgB, td, this]
              · have : v.size ≤ 8 := by omega
                simp [entTB, standB, ta, tb, sc, sc2, se, pgB, td, this]
            by_cases td : 8 < v.size
            · have sd : decide (8 < v.size) = true := by simpa using td
              go_wp2_with (first | (go_at_call 27; refine (l2Key_t _ hfk _).mono ?_; rintro e w3 ⟨rfl, rfl⟩; first | rw [ta] | rw [sa]) | (go_at_call 63; refine (l1In_any _ _ _ _).mono ?_; rintro e w3 ⟨rfl, rfl⟩; rw [se]) | (go_at_call 64; refine (l3Long_t _ hfv _).mono ?_; rintro e w3 ⟨rfl, rfl⟩; rw [sd]))
              go_meet
              exact ⟨by rw [hen, sd]; rfl, rfl⟩
            · have sd : decide (8 < v.size) = false := by simpa using td
              go_wp2_with (first | (go_at_call 27; refine (l2Key_t _ hfk _).mono ?_; rintro e w3 ⟨rfl, rfl⟩; first | rw [ta] | rw [sa]) | (go_at_call 63; refine (l1In_any _ _ _ _).mono ?_; rintro e w3 ⟨rfl, rfl⟩; rw [se]) | (go_at_call 64; refine (l3Long_t _ hfv _).mono ?_; rintro e w3 ⟨rfl, rfl⟩; rw [sd]))
              go_meet
              exact ⟨by rw [hen, sd]; rfl, rfl⟩
        case rest =>
          obtain ⟨rfl, rfl⟩ := hcut
          by_cases te : E = true
          · have hre : Hid (∀ i, i < j + 1 → entTB p (t.keys.getD i ByteArray.empty) (t.vals.getD i ByteArray.empty) (t.over.getD i 0) = true) := HB.out.2 te
            subst te
            clear HB HR HE
            go_wp2_with fail
            go_roundw
            case rel => exact ⟨j + 1, by omega, by go_num, hre, hbel⟩
            case measure => simp [intOf]; omega
          · have se : E = false := by simpa using te
            have hz := HB.out.1 se
            subst se
            clear HB HR HE
            go_wp2_with fail
            go_ret
            exact ⟨by rw [hz]; rfl, X3.bel⟩
      · have hen : R = true := by
          rw [HZ.out]
          exact ents_true HE1.out (fun i hi => HR.out i (by omega))
        go_wp2_with fail
        go_loopw [8] (fun i wr => i = .int .i64 0 ∧ Below W0.heap.size W0 wr) (fun _ _ => 0)
        case atStart => exact ⟨rfl, hbel⟩
        case round =>
          clear hbel X3 x0 x1 x2 x3 x4 x5 l3
          obtain ⟨rfl, hbel⟩ := hrel
          have X3 := hb0.below hbel
          have l3 := X3.lt
          obtain ⟨x0, x1, x2, x3, x4, x5⟩ := box6 X3.box
          go_wp2_with fail
          go_ret
          exact ⟨by rw [hen]; rfl, X3.bel⟩
end Go.Proofs.Ytpmagndofiaooaa
