import Derived.Test.YtpmagndofiaooaaTp
namespace Go.Proofs.Ytpmagndofiaooaa
open Go.RowKit
set_option linter.unusedVariables false
set_option maxRecDepth 100000

/-- What was met besides. -/
def ExtM (met : Int → Bool) (l : List Int) (m : Int → Bool) : Prop := ∀ y, m y = (met y || decide (y ∈ l))
/-- Numbers not met before, none twice. -/
def NewM (met : Int → Bool) (l : List Int) : Prop := l.Nodup ∧ ∀ x ∈ l, met x = false
theorem ExtM.nil (met : Int → Bool) : ExtM met [] met := by intro y; simp
theorem NewM.nil (met : Int → Bool) : NewM met [] := ⟨List.nodup_nil, by simp⟩
theorem ExtM.trans {a b c : Int → Bool} {l r : List Int} (h : ExtM a l b) (k : ExtM b r c) : ExtM a (l ++ r) c := by
  intro y
  rw [k y, h y, Bool.or_assoc]
  simp
theorem NewM.append {a b : Int → Bool} {l r : List Int} (h : NewM a l) (e : ExtM a l b) (k : NewM b r) : NewM a (l ++ r) := by
  refine ⟨List.nodup_append.2 ⟨h.1, k.1, fun x hx y hy hxy => ?_⟩, fun x hx => ?_⟩
  · subst hxy
    have := k.2 x hy
    rw [e x] at this
    simp [hx] at this
  · rcases List.mem_append.1 hx with hx | hx
    · exact h.2 x hx
    · have := k.2 x hx
      rw [e x] at this
      simp at this
      exact this.1
theorem NewM.left {a : Int → Bool} {l r : List Int} (h : NewM a (l ++ r)) : NewM a l := ⟨(List.nodup_append.1 h.1).1, fun x hx => h.2 x (List.mem_append_left _ hx)⟩
theorem NewM.right {a b : Int → Bool} {l r : List Int} (h : NewM a (l ++ r)) (e : ExtM a l b) : NewM b r := by
  refine ⟨(List.nodup_append.1 h.1).2.1, fun x hx => ?_⟩
  rw [e x, h.2 x (List.mem_append_right _ hx)]
  simp
  intro hl
  exact (List.nodup_append.1 h.1).2.2 x hl x hx rfl
def numTB (x : Int) : List Int := if x = 0 then [] else [x]
theorem meet_some {met m : Int → Bool} {x : Int} (h : meetB met x = some m) : (x == 0 || pgB x) = true ∧ NewM met (numTB x) ∧ ExtM met (numTB x) m := by
  unfold meetB at h
  unfold numTB
  by_cases hx : x = 0
  · simp [hx] at h ⊢
    subst h
    exact ⟨NewM.nil _, ExtM.nil _⟩
  · rw [if_neg hx] at h ⊢
    by_cases hp : (pgB x && !met x) = true
    · rw [if_pos hp] at h
      simp at hp h
      subst h
      refine ⟨by simp [hp.1], ⟨by simp, by simpa using hp.2⟩, fun y => ?_⟩
      by_cases hy : y = x <;> simp [hy]
    · rw [if_neg hp] at h
      exact absurd h (by simp)
theorem meet_ok {met : Int → Bool} {x : Int} (h : (x == 0 || pgB x) = true) (hn : NewM met (numTB x)) : ∃ m, meetB met x = some m ∧ ExtM met (numTB x) m := by
  unfold meetB
  by_cases hx : x = 0
  · exact ⟨met, by simp [hx], by simp [numTB, hx]; exact ExtM.nil _⟩
  · have h1 : pgB x = true := by simpa [hx] using h
    have h2 : met x = false := hn.2 x (by simp [numTB, hx])
    refine ⟨fun y => met y || y == x, by simp [hx, h1, h2], fun y => ?_⟩
    by_cases hy : y = x <;> simp [numTB, hx, hy]
theorem stand_eq (p : Int) (v : ByteArray) (o : Int) : standB p v o = (mayB p v o && (o == 0 || pgB o)) := by
  unfold standB mayB
  by_cases h : v.size ≤ 8
  · have h2 : v.size ≤ 400 := by omega
    have h3 : ¬ 8 < v.size := by omega
    by_cases h0 : o = 0
    · simp [h, h2, h0, h3]
    · have e0 : (o == 0) = false := by simpa using h0
      have e1 : (o != 0) = true := by simpa using h0
      simp [h, h2, e0, e1]
  · have h3 : 8 < v.size := by omega
    by_cases h0 : o = 0
    · subst h0
      by_cases hp : p = 0
      · simp [h, hp]
      · have e0 : (p == 0) = false := by simpa using hp
        have e1 : (p != 0) = true := by simpa using hp
        simp [h, h3, e0, e1]
    · have e0 : (o == 0) = false := by simpa using h0
      have e1 : (o != 0) = true := by simpa using h0
      simp [h, e0, e1]
theorem meetL_some {p : Int} : ∀ (xs : List (ByteArray × Int)) (met m : Int → Bool), meetL p xs met = some m → xs.all (fun x => standB p x.1 x.2) = true ∧ NewM met ((xs.map (fun x => x.2)).filter (fun x => x != 0)) ∧ ExtM met ((xs.map (fun x => x.2)).filter (fun x => x != 0)) m
  | [], met, m, h => by
    simp [meetL] at h
    subst h
    exact ⟨rfl, NewM.nil _, ExtM.nil _⟩
  | x :: r, met, m, h => by
    unfold meetL at h
    split at h
    · cases h
    · rename_i m1 h1
      split at h
      · rename_i hm
        obtain ⟨a1, a2, a3⟩ := meet_some h1
        obtain ⟨b1, b2, b3⟩ := meetL_some r m1 m h
        have e : ((x :: r).map (fun x => x.2)).filter (fun x => x != 0) = numTB x.2 ++ (r.map (fun x => x.2)).filter (fun x => x != 0) := by
          unfold numTB
          by_cases h0 : x.2 = 0 <;> simp [h0]
        rw [e]
        refine ⟨?_, a2.append a3 b2, a3.trans b3⟩
        rw [List.all_cons, b1, stand_eq, hm, a1]
        rfl
      · cases h
theorem meetL_ok {p : Int} : ∀ (xs : List (ByteArray × Int)) (met : Int → Bool), xs.all (fun x => standB p x.1 x.2) = true → NewM met ((xs.map (fun x => x.2)).filter (fun x => x != 0)) → ∃ m, meetL p xs met = some m ∧ ExtM met ((xs.map (fun x => x.2)).filter (fun x => x != 0)) m
  | [], met, h, hn => ⟨met, rfl, ExtM.nil _⟩
  | x :: r, met, h, hn => by
    have e : ((x :: r).map (fun x => x.2)).filter (fun x => x != 0) = numTB x.2 ++ (r.map (fun x => x.2)).filter (fun x => x != 0) := by
      unfold numTB
      by_cases h0 : x.2 = 0 <;> simp [h0]
    rw [e] at hn ⊢
    rw [List.all_cons, stand_eq] at h
    simp only [Bool.and_eq_true] at h
    obtain ⟨m1, h1, h2⟩ := meet_ok h.1.2 hn.left
    obtain ⟨m, h3, h4⟩ := meetL_ok r m1 h.2 (hn.right h2)
    refine ⟨m, ?_, h2.trans h4⟩
    unfold meetL
    rw [h1]
    simp [h.1.1, h3]
/-- A node stands, with all that is below it, from nx on. -/
def Seg (ts : List TN) (nx : Nat) (t : T) : Prop := nx + t.nodes ≤ ts.length ∧ t.flat nx = (ts.drop nx).take t.nodes
theorem offs_len (s : Nat) (ys : List T) (h : ∀ y ∈ ys, ∀ s, (y.flat s).length = y.nodes) : (offs s (ys.map T.flat)).length = (ys.map T.nodes).sum := by
  induction ys generalizing s with
  | nil => rfl
  | cons y r ih =>
    simp only [List.map_cons, offs, List.length_append, List.sum_cons]
    rw [ih _ (fun y hy => h y (List.mem_cons_of_mem _ hy)), h y (List.mem_cons_self ..)]
theorem nodes_leaf {t : T} (h : t.kids = []) : t.nodes = 1 := by rw [T.nodes_eq, h]; rfl
/-- Leaves have no children. -/
def Shape : T → Prop
  | ⟨l, _, _, _, _, y⟩ => (l = true → y = []) ∧ ∀ k, k ∈ y → Shape k
theorem shape_eq (t : T) : Shape t ↔ (t.leaf = true → t.kids = []) ∧ ∀ k ∈ t.kids, Shape k := by cases t; rw [Shape]
theorem flat_len (t : T) : Shape t → ∀ s, (t.flat s).length = t.nodes := by
  induction t using T.ind with
  | h t ih =>
    intro hs s
    rw [shape_eq] at hs
    rw [T.flat_eq]
    split
    · rename_i hl
      rw [nodes_leaf (hs.1 hl)]
      rfl
    · rw [List.length_cons, offs_len _ _ (fun y hy => ih y hy (hs.2 y hy)), T.nodes_eq]
      omega
theorem take_split {α : Type} (l : List α) (n a b : Nat) : (l.drop n).take (a + b) = (l.drop n).take a ++ (l.drop (n + a)).take b := by
  rw [List.take_add, List.drop_drop]
theorem seg_head {ts : List TN} {nx : Nat} (h : nx < ts.length) : (ts.drop nx).take 1 = [ts.getD nx dT] := by
  rw [List.take_one, List.head?_drop, List.getElem?_eq_getElem h]
  simp [List.getD, h]
theorem good_false {t : T} (h : t.good true = true) (hs : 2 ≤ t.size) : t.good false = true := by
  rw [T.good_eq] at h ⊢
  simp only [Bool.and_eq_true, decide_eq_true_eq] at h ⊢
  refine ⟨⟨⟨⟨⟨by simpa using hs, h.1.1.1.1.2⟩, h.1.1.1.2⟩, h.1.1.2⟩, h.1.2⟩, h.2⟩
theorem good_true {t : T} (h : t.good false = true) : t.good true = true ∧ 2 ≤ t.size := by
  rw [T.good_eq] at h ⊢
  simp only [Bool.and_eq_true, decide_eq_true_eq] at h ⊢
  have h2 : 2 ≤ t.size := by simpa using h.1.1.1.1.1
  refine ⟨⟨⟨⟨⟨⟨?_, h.1.1.1.1.2⟩, h.1.1.1.2⟩, h.1.1.2⟩, h.1.2⟩, h.2⟩, h2⟩
  split <;> omega
theorem starts_len (s : Nat) (ns : List Nat) : (startsN s ns).length = ns.length := by
  induction ns generalizing s with
  | nil => rfl
  | cons n r ih => simp [startsN, ih]
theorem htOf_all {h : Int} {r : List Int} (h0 : 0 ≤ h) (hr : ∀ x ∈ r, x = h) : T.htOf (h :: r) = h + 1 := by
  show (if h < 0 then (-1 : Int) else if r.all (fun x => x == h) then h + 1 else -1) = h + 1
  rw [if_neg (by omega), if_pos]
  rw [List.all_eq_true]
  intro x hx
  simp [hr x hx]
theorem htOf_inv {h : Int} {r : List Int} (hh : 0 ≤ T.htOf (h :: r)) : 0 ≤ h ∧ ∀ x ∈ r, x = h := by
  have hh : 0 ≤ (if h < 0 then (-1 : Int) else if r.all (fun x => x == h) then h + 1 else -1) := hh
  by_cases h1 : h < 0
  · rw [if_pos h1] at hh; omega
  · rw [if_neg h1] at hh
    by_cases h2 : r.all (fun x => x == h) = true
    · refine ⟨by omega, fun x hx => ?_⟩
      have := List.all_eq_true.1 h2 x hx
      simpa using this
    · rw [if_neg h2] at hh; omega
def CGood (ts : List TN) (f : Nat) : Prop := ∀ nx met t nx' met', nx ≤ ts.length → gr ts f nx met = some (t, nx', met') → rd ts f nx = (t, nx', false) ∧ nx' = nx + t.nodes ∧ Shape t ∧ Seg ts nx t ∧ t.good true = true ∧ 0 ≤ t.ht ∧ NewM met t.nums ∧ ExtM met t.nums met'
theorem grK_some {ts : List TN} {f : Nat} (hf : CGood ts f) {p : Int} {keys : List ByteArray} : ∀ (ks : List Int) (acc : List T) (nx : Nat) (met : Int → Bool) (ys : List T) (nx' : Nat) (met' : Int → Bool), nx ≤ ts.length → grK p keys (gr ts f) ks acc nx met = some (ys, nx', met') →
    ∃ zs, ys = acc ++ zs ∧ zs.length = ks.length ∧ rdK (rd ts f) ks nx = (zs, nx', false) ∧ ks = startsN nx (zs.map T.nodes) ∧ nx' = nx + (zs.map T.nodes).sum ∧ nx' ≤ ts.length ∧ offs nx (zs.map T.flat) = (ts.drop nx).take (zs.map T.nodes).sum ∧
      (∀ z ∈ zs, Shape z ∧ z.good false = true ∧ (!(p != 0 && z.page == 0)) = true ∧ 0 ≤ z.ht) ∧ (∀ z ∈ zs, ∀ a, (acc ++ zs).head? = some a → a.ht = z.ht) ∧ (∀ j z, zs[j]? = some z → acc.length + j = 0 ∨ z.low = keys.getD (acc.length + j - 1) ByteArray.empty) ∧ NewM met (zs.map T.nums).flatten ∧ ExtM met (zs.map T.nums).flatten met'
  | [], acc, nx, met, ys, nx', met', hnx, h => by
    simp [grK] at h
    obtain ⟨rfl, rfl, rfl⟩ := h
    exact ⟨[], by simp, rfl, rfl, rfl, by simp, hnx, by simp [offs], by simp, by simp, by simp, NewM.nil _, ExtM.nil _⟩
  | k :: ks, acc, nx, met, ys, nx', met', hnx, h => by
    unfold grK at h
    split at h
    · rename_i hk
      subst hk
      split at h
      · cases h
      · rename_i t nx1 m1 hone
        split at h
        · rename_i hc
          simp only [Bool.and_eq_true] at hc
          obtain ⟨a1, a2, a3, a4, a5, a6, a7, a8⟩ := hf _ _ _ _ _ hnx hone
          have hnx1 : nx1 ≤ ts.length := by rw [a2]; exact a4.1
          obtain ⟨zs, rfl, b1, b2, b3, b4, b5, b6, b7, b8, b9, b10, b11⟩ := grK_some hf ks (acc ++ [t]) nx1 m1 ys nx' met' hnx1 h
          have hh := hc.1
          unfold holdB at hh
          simp only [Bool.and_eq_true, decide_eq_true_eq] at hh
          refine ⟨t :: zs, by simp, by simp [b1], ?_, ?_, ?_, b5, ?_, ?_, ?_, ?_, ?_, ?_⟩
          · unfold rdK
            rw [if_pos rfl, a1]
            simp [b2]
          · simp only [List.map_cons, startsN]
            rw [← a2, ← b3]
          · rw [b4, a2]; simp; omega
          · simp only [List.map_cons, offs, List.sum_cons]
            rw [flat_len t a3, take_split, ← a4.2, ← a2, ← b6]
          · intro z hz
            rcases List.mem_cons.1 hz with rfl | hz
            · exact ⟨a3, good_false a5 hh.1.1, hh.1.2, a6⟩
            · exact b7 z hz
          · intro z hz a ha
            rcases List.mem_cons.1 hz with rfl | hz
            · cases acc with
              | nil => simp at ha; rw [ha]
              | cons a' r => simp at ha; subst ha; simpa using hh.2
            · exact b8 z hz a (by simpa using ha)
          · intro j z hz
            cases j with
            | zero =>
              simp at hz
              subst hz
              have := hc.2
              simp only [Bool.or_eq_true, decide_eq_true_eq] at this
              simpa using this
            | succ j =>
              have := b9 j z (by simpa using hz)
              simp only [List.length_append, List.length_singleton] at this
              rw [show acc.length + (j + 1) = acc.length + 1 + j by omega]
              exact this
          · simp only [List.map_cons, List.flatten_cons]
            exact a7.append a8 b10
          · simp only [List.map_cons, List.flatten_cons]
            exact a8.trans b11
        · cases h
    · cases h
theorem gr_some (ts : List TN) : ∀ f, CGood ts f
  | 0 => by intro nx met t nx' met' hnx h; simp [gr] at h
  | f + 1 => by
    have ih := gr_some ts f
    intro nx met t nx' met' hnx h
    unfold gr at h
    split at h
    · cases h
    · rename_i hne
      have hlt : nx < ts.length := by omega
      have hsh := seg_head hlt
      generalize ts.getD nx dT = x at h hsh
      split at h
      · cases h
      · rename_i m hm
        obtain ⟨m1, m2, m3⟩ := meet_some hm
        split at h
        · rename_i hl
          split at h
          · cases h
          · rename_i hc
            split at h
            · cases h
            · rename_i m' hm'
              simp only [Option.some.injEq, Prod.mk.injEq] at h
              obtain ⟨rfl, rfl, rfl⟩ := h
              obtain ⟨l1, l2, l3⟩ := meetL_some _ _ _ hm'
              have hz : (x.vals.zip x.over).map (fun x => x.2) = x.over := by
                rw [show (fun x : ByteArray × Int => x.2) = Prod.snd from rfl, List.map_snd_zip (by omega)]
              rw [hz] at l2 l3
              have hk0 : x.kids = [] := List.eq_nil_of_length_eq_zero (by omega)
              have hx : x = ⟨true, x.page, x.keys, x.vals, x.over, []⟩ := by
                cases x
                simp at hl hk0 ⊢
                exact ⟨hl, hk0⟩
              have hn : T.nodes ⟨true, x.page, x.keys, x.vals, x.over, []⟩ = 1 := nodes_leaf rfl
              refine ⟨?_, by rw [hn], ?_, ?_, ?_, ?_, ?_, ?_⟩
              · unfold rd
                rw [if_pos hlt]
                have hg : ts.getD nx dT = x := by rw [seg_head hlt] at hsh; simpa using hsh
                rw [hg, if_pos hl]
              · rw [shape_eq]; simp
              · refine ⟨by rw [hn]; omega, ?_⟩
                rw [hn, hsh, T.flat_eq, if_pos rfl]
                exact congrArg (fun y => [y]) hx.symm
              · rw [T.good_eq]
                simp only [T.size, if_true, Bool.and_eq_true, decide_eq_true_eq, Bool.true_and, Bool.not_true, Bool.false_or, List.map_nil, List.all_nil, and_true]
                exact ⟨⟨⟨by omega, by omega⟩, m1⟩, ⟨by omega, by omega⟩, l1⟩
              · rw [T.ht_eq, if_pos rfl]; omega
              · rw [T.nums_eq]; simp only [List.map_nil, List.flatten_nil, List.append_nil]; exact m2.append m3 l2
              · rw [T.nums_eq]; simp only [List.map_nil, List.flatten_nil, List.append_nil]; exact m3.trans l3
        · rename_i hl
          split at h
          · cases h
          · rename_i hc
            split at h
            · cases h
            · rename_i ys nx1 m' hm'
              simp only [Option.some.injEq, Prod.mk.injEq] at h
              obtain ⟨rfl, rfl, rfl⟩ := h
              obtain ⟨zs, e, b1, b2, b3, b4, b5, b6, b7, b8, b9, b10, b11⟩ := grK_some ih _ _ _ _ _ _ _ (by omega) hm'
              rw [List.nil_append] at e
              subst e
              have hg : ts.getD nx dT = x := by rw [seg_head hlt] at hsh; simpa using hsh
              have hv : x.vals = [] := List.eq_nil_of_length_eq_zero (by omega)
              have ho : x.over = [] := List.eq_nil_of_length_eq_zero (by omega)
              have hlf : x.leaf = false := by simpa using hl
              have hn : T.nodes ⟨false, x.page, [], [], [], ys⟩ = 1 + (ys.map T.nodes).sum := T.nodes_eq _
              have hkeys : ys.tail.map T.low = x.keys := by
                apply List.ext_getElem?
                intro j
                rw [List.getElem?_map, List.getElem?_tail]
                by_cases hj : j + 1 < ys.length
                · have := b9 (j + 1) ys[j + 1] (List.getElem?_eq_getElem hj)
                  simp only [List.length_nil, Nat.zero_add, Nat.add_sub_cancel] at this
                  rcases this with h | h
                  · omega
                  · rw [List.getElem?_eq_getElem hj, Option.map_some, h, List.getD, List.getElem?_eq_getElem (by omega)]
                    rfl
                · rw [List.getElem?_eq_none (by omega), Option.map_none, List.getElem?_eq_none (by omega)]
              have hx : x = ⟨false, x.page, ys.tail.map T.low, [], [], startsN (nx + 1) (ys.map T.nodes)⟩ := by
                rw [hkeys, ← b3]
                cases x
                simp at hlf hv ho ⊢
                exact ⟨hlf, hv, ho⟩
              refine ⟨?_, by rw [hn, b4]; omega, ?_, ?_, ?_, ?_, ?_, ?_⟩
              · unfold rd
                rw [if_pos hlt, hg, if_neg hl, if_neg (by omega), b2, hv, ho]
              · rw [shape_eq]
                exact ⟨by simp, fun k hk => (b7 k hk).1⟩
              · refine ⟨by rw [hn]; omega, ?_⟩
                rw [hn, take_split, hsh, T.flat_eq, if_neg (by simp), ← b6]
                exact congrArg (fun y => y :: _) hx.symm
              · rw [T.good_eq]
                simp only [T.size, Bool.false_eq_true, if_false, Bool.and_eq_true, decide_eq_true_eq, Bool.and_false, Bool.not_false, Bool.true_or, and_true]
                refine ⟨⟨⟨⟨by omega, by omega⟩, m1⟩, ?_⟩, ?_⟩
                · rw [List.all_eq_true]
                  intro b hb
                  obtain ⟨z, hz, rfl⟩ := List.mem_map.1 hb
                  exact (b7 z hz).2.1
                · rw [List.all_eq_true]
                  intro z hz
                  exact (b7 z hz).2.2.1
              · rw [T.ht_eq, if_neg (by simp)]
                match ys, b7, b8, b1 with
                | [], _, _, b1 => simp [T.htOf]
                | z :: r, b7, b8, _ =>
                  simp only [List.map_cons]
                  have h0 := (b7 z (List.mem_cons_self ..)).2.2.2
                  rw [htOf_all h0]
                  · omega
                  · intro a ha
                    obtain ⟨q, hq, rfl⟩ := List.mem_map.1 ha
                    exact (b8 q (List.mem_cons_of_mem _ hq) z (by simp)).symm
              · rw [T.nums_eq]; simp only [List.filter_nil, List.append_nil]; exact m2.append m3 b10
              · rw [T.nums_eq]; simp only [List.filter_nil, List.append_nil]; exact m3.trans b11
def RGood (ts : List TN) (f : Nat) : Prop := ∀ nx t nx', rd ts f nx = (t, nx', false) → Shape t ∧ nx' = nx + t.nodes ∧ nx < ts.length
theorem rdK_some {ts : List TN} {f : Nat} (hf : RGood ts f) : ∀ (ks : List Int) (nx : Nat) (zs : List T) (nx' : Nat), rdK (rd ts f) ks nx = (zs, nx', false) → (∀ z ∈ zs, Shape z) ∧ nx' = nx + (zs.map T.nodes).sum ∧ zs.length = ks.length
  | [], nx, zs, nx', h => by
    simp [rdK] at h
    obtain ⟨rfl, rfl⟩ := h
    simp
  | k :: ks, nx, zs, nx', h => by
    unfold rdK at h
    split at h
    · split at h
      · simp at h
      · rename_i hb
        simp only [Prod.mk.injEq] at h
        obtain ⟨rfl, rfl, h3⟩ := h
        obtain ⟨a1, a2, _⟩ := hf nx (rd ts f nx).1 (rd ts f nx).2.1 (by
          have : (rd ts f nx).2.2 = false := by simpa using hb
          rw [← this])
        obtain ⟨b1, b2, b3⟩ := rdK_some hf ks (rd ts f nx).2.1 _ _ (by
          rw [← h3])
        refine ⟨?_, ?_, by simp [b3]⟩
        · intro z hz
          rcases List.mem_cons.1 hz with rfl | hz
          · exact a1
          · exact b1 z hz
        · rw [b2, a2]; simp; omega
    · simp at h
theorem rd_some (ts : List TN) : ∀ f, RGood ts f
  | 0 => by intro nx t nx' h; simp [rd] at h
  | f + 1 => by
    have ih := rd_some ts f
    intro nx t nx' h
    unfold rd at h
    split at h
    · rename_i hlt
      split at h
      · simp only [Prod.mk.injEq] at h
        obtain ⟨rfl, rfl, _⟩ := h
        exact ⟨by rw [shape_eq]; simp, by rw [nodes_leaf rfl], hlt⟩
      · split at h
        · simp at h
        · simp only [Prod.mk.injEq] at h
          obtain ⟨rfl, rfl, h3⟩ := h
          obtain ⟨a1, a2, a3⟩ := rdK_some ih _ (nx + 1) _ _ (by rw [← h3])
          refine ⟨by rw [shape_eq]; exact ⟨by simp, a1⟩, ?_, hlt⟩
          rw [a2, T.nodes_eq]; show _ = nx + (1 + (List.map T.nodes (rdK (rd ts f) (ts.getD nx dT).kids (nx + 1)).1).sum); omega
    · simp at h
def BGood (ts : List TN) (f : Nat) : Prop := ∀ nx met t nx', rd ts f nx = (t, nx', false) → Seg ts nx t → t.good true = true → 0 ≤ t.ht → NewM met t.nums → ∃ met', gr ts f nx met = some (t, nx', met') ∧ ExtM met t.nums met'
theorem grK_ok {ts : List TN} {f : Nat} (hf : BGood ts f) {p : Int} {keys : List ByteArray} : ∀ (ks : List Int) (acc : List T) (nx : Nat) (met : Int → Bool) (zs : List T) (nx' : Nat), rdK (rd ts f) ks nx = (zs, nx', false) → nx + (zs.map T.nodes).sum ≤ ts.length → offs nx (zs.map T.flat) = (ts.drop nx).take (zs.map T.nodes).sum →
    (∀ z ∈ zs, z.good false = true ∧ (!(p != 0 && z.page == 0)) = true ∧ 0 ≤ z.ht) → (∀ z ∈ zs, ∀ a, (acc ++ zs).head? = some a → a.ht = z.ht) → (∀ j z, zs[j]? = some z → acc.length + j = 0 ∨ z.low = keys.getD (acc.length + j - 1) ByteArray.empty) → NewM met (zs.map T.nums).flatten →
    ∃ met', grK p keys (gr ts f) ks acc nx met = some (acc ++ zs, nx', met') ∧ ExtM met (zs.map T.nums).flatten met'
  | [], acc, nx, met, zs, nx', h, _, _, _, _, _, _ => by
    simp [rdK] at h
    obtain ⟨rfl, rfl⟩ := h
    exact ⟨met, by simp [grK], by simpa using ExtM.nil met⟩
  | k :: ks, acc, nx, met, zs, nx', h, hlen, hoff, hall, hht, hlow, hnew => by
    unfold rdK at h
    split at h
    · rename_i hk
      subst hk
      split at h
      · simp at h
      · rename_i hb
        simp only [Prod.mk.injEq] at h
        obtain ⟨e1, rfl, h3⟩ := h
        have hone : rd ts f nx = ((rd ts f nx).1, (rd ts f nx).2.1, false) := by
          have : (rd ts f nx).2.2 = false := by simpa using hb
          rw [← this]
        obtain ⟨a1, a2, a3⟩ := rd_some ts f _ _ _ hone
        generalize (rd ts f nx).1 = t at *
        generalize (rd ts f nx).2.1 = nx1 at *
        have hrest : rdK (rd ts f) ks nx1 = ((rdK (rd ts f) ks nx1).1, (rdK (rd ts f) ks nx1).2.1, false) := by rw [← h3]
        generalize (rdK (rd ts f) ks nx1).1 = qs at *
        generalize (rdK (rd ts f) ks nx1).2.1 = nx2 at *
        subst e1
        simp only [List.map_cons, List.sum_cons, offs, List.flatten_cons] at hlen hoff hnew ⊢
        rw [flat_len t a1, take_split] at hoff
        obtain ⟨hs1, hs2⟩ := List.append_inj hoff (by rw [flat_len t a1, List.length_take, List.length_drop]; omega)
        obtain ⟨g1, g2, g3⟩ := hall t (List.mem_cons_self ..)
        obtain ⟨m1, k1, k2⟩ := hf nx met t nx1 hone ⟨by omega, hs1⟩ (good_true g1).1 g3 hnew.left
        obtain ⟨m2, k3, k4⟩ := grK_ok hf ks (acc ++ [t]) nx1 m1 qs nx2 hrest (by omega) (by rw [a2]; exact hs2) (fun z hz => hall z (List.mem_cons_of_mem _ hz)) (fun z hz a ha => hht z (List.mem_cons_of_mem _ hz) a (by simpa using ha)) (fun j z hz => by
          have := hlow (j + 1) z (by simpa using hz)
          simp only [List.length_append, List.length_singleton]
          rw [show acc.length + 1 + j = acc.length + (j + 1) by omega]
          exact this) (hnew.right k2)
        refine ⟨m2, ?_, k2.trans k4⟩
        unfold grK
        rw [if_pos rfl, k1]
        have hc : (holdB p acc t && (decide (acc.length = 0) || decide (t.low = keys.getD (acc.length - 1) ByteArray.empty))) = true := by
          rw [Bool.and_eq_true]
          constructor
          · unfold holdB
            simp only [Bool.and_eq_true, decide_eq_true_eq]
            refine ⟨⟨(good_true g1).2, g2⟩, ?_⟩
            cases acc with
            | nil => rfl
            | cons a r => simpa using hht t (List.mem_cons_self ..) a (by simp)
          · simpa using hlow 0 t (by simp)
        simp only [hc, if_true, k3]
        simp
    · simp at h
theorem gr_ok (ts : List TN) : ∀ f, BGood ts f
  | 0 => by intro nx met t nx' h; simp [rd] at h
  | f + 1 => by
    have ih := gr_ok ts f
    intro nx met t nx' h hseg hgood hht hnew
    unfold rd at h
    split at h
    · rename_i hlt
      have hsh := seg_head hlt
      have hne : ¬ nx = ts.length := by omega
      split at h
      · rename_i hl
        simp only [Prod.mk.injEq] at h
        obtain ⟨rfl, rfl, _⟩ := h
        unfold gr
        rw [if_neg hne]
        generalize ts.getD nx dT = x at *
        have hn : T.nodes ⟨true, x.page, x.keys, x.vals, x.over, []⟩ = 1 := nodes_leaf rfl
        obtain ⟨_, hs2⟩ := hseg
        rw [hn, hsh, T.flat_eq, if_pos rfl] at hs2
        have hk0 : x.kids = [] := by
          have := (List.cons.inj hs2).1
          rw [← this]
        rw [T.good_eq] at hgood
        simp only [T.size, if_true, Bool.and_eq_true, decide_eq_true_eq, Bool.true_and, Bool.not_true, Bool.false_or, List.map_nil, List.all_nil, and_true] at hgood
        rw [T.nums_eq] at hnew ⊢
        simp only [List.map_nil, List.flatten_nil, List.append_nil] at hnew ⊢
        obtain ⟨m1, k1, k2⟩ := meet_ok hgood.1.2 hnew.left
        have hz : (x.vals.zip x.over).map (fun x => x.2) = x.over := by
          rw [show (fun x : ByteArray × Int => x.2) = Prod.snd from rfl, List.map_snd_zip (by omega)]
        obtain ⟨m2, k3, k4⟩ := meetL_ok (p := x.page) (x.vals.zip x.over) m1 hgood.2.2 (by rw [hz]; exact hnew.right k2)
        rw [hz] at k4
        refine ⟨m2, ?_, k2.trans k4⟩
        rw [k1]
        simp only [hl, if_true]
        rw [if_neg (by rw [hk0]; simp; omega), k3]
      · rename_i hl
        split at h
        · simp at h
        · rename_i hk
          simp only [Prod.mk.injEq] at h
          obtain ⟨rfl, rfl, h3⟩ := h
          have hrest : rdK (rd ts f) (ts.getD nx dT).kids (nx + 1) = ((rdK (rd ts f) (ts.getD nx dT).kids (nx + 1)).1, (rdK (rd ts f) (ts.getD nx dT).kids (nx + 1)).2.1, false) := by rw [← h3]
          unfold gr
          rw [if_neg hne]
          generalize ts.getD nx dT = x at *
          obtain ⟨a1, a2, a3⟩ := rdK_some (rd_some ts f) _ _ _ _ hrest
          generalize (rdK (rd ts f) x.kids (nx + 1)).1 = zs at *
          generalize (rdK (rd ts f) x.kids (nx + 1)).2.1 = nx2 at *
          have hn : T.nodes ⟨false, x.page, [], x.vals, x.over, zs⟩ = 1 + (zs.map T.nodes).sum := T.nodes_eq _
          obtain ⟨hs1, hs2⟩ := hseg
          rw [hn] at hs1 hs2
          rw [take_split, hsh, T.flat_eq, if_neg (by simp)] at hs2
          have hx := (List.cons.inj hs2).1
          have ho := (List.cons.inj hs2).2
          simp only at hx ho
          have hxk : x.keys = zs.tail.map T.low := by rw [← hx]
          have hxv : x.vals = [] := by rw [← hx]
          have hxo : x.over = [] := by rw [← hx]
          rw [T.good_eq] at hgood
          simp only [T.size, Bool.false_eq_true, if_false, Bool.and_eq_true, decide_eq_true_eq, Bool.and_false, Bool.not_false, Bool.true_or, and_true] at hgood
          obtain ⟨⟨⟨⟨g1, g2⟩, g3⟩, g4⟩, g5⟩ := hgood
          rw [T.nums_eq] at hnew ⊢
          simp only [hxo, List.filter_nil, List.append_nil] at hnew ⊢
          obtain ⟨m1, k1, k2⟩ := meet_ok g3 hnew.left
          rw [T.ht_eq, if_neg (by simp)] at hht
          have hall : (∀ z ∈ zs, z.good false = true ∧ (!(x.page != 0 && z.page == 0)) = true ∧ 0 ≤ z.ht) ∧ (∀ z ∈ zs, ∀ a, zs.head? = some a → a.ht = z.ht) := by
            match zs, hht, g4, g5 with
            | [], _, _, _ => simp
            | z :: r, hht, g4, g5 =>
              simp only [List.map_cons] at hht
              obtain ⟨i1, i2⟩ := htOf_inv hht
              have i3 : ∀ q ∈ z :: r, q.ht = z.ht := by
                intro q hq
                rcases List.mem_cons.1 hq with rfl | hq
                · rfl
                · exact i2 q.ht (List.mem_map_of_mem hq)
              rw [List.all_eq_true] at g4 g5
              refine ⟨fun q hq => ⟨g4 (q.good false) (List.mem_map.2 ⟨q, hq, rfl⟩), g5 q hq, by rw [i3 q hq]; exact i1⟩, fun q hq a ha => ?_⟩
              simp at ha
              subst ha
              exact (i3 q hq).symm
          obtain ⟨m2, k3, k4⟩ := grK_ok ih (p := x.page) (keys := x.keys) x.kids [] (nx + 1) m1 zs nx2 hrest (by omega) ho hall.1 (by simpa using hall.2) (fun j z hz => by
            cases j with
            | zero => exact .inl rfl
            | succ j =>
              right
              have hj : j + 1 < zs.length := (List.getElem?_eq_some_iff.1 hz).1
              rw [hxk]
              simp only [List.length_nil, Nat.zero_add, Nat.add_sub_cancel, List.getD]
              rw [List.getElem?_map, List.getElem?_tail, hz]
              rfl) (hnew.right k2)
          refine ⟨m2, ?_, k2.trans k4⟩
          rw [k1]
          have hlf : x.leaf = false := by simpa using hl
          have hkl : x.keys.length + 1 = x.kids.length := by rw [hxk, List.length_map, List.length_tail]; omega
          simp only [hlf, Bool.false_eq_true, if_false]
          rw [if_neg (by rw [hxv]; simp; omega), k3, hxv]
          simp
    · simp at h
/-- A tree that the document calls valid, and one that the program does. -/
def SpecOk (ts : List TN) : Prop := (1 ≤ ts.length ∧ ts.length ≤ 1000) ∧ ∃ t, rd ts (ts.length + 1) 0 = (t, ts.length, false) ∧ t.good true = true ∧ t.slots.all (fun s => kyB s.1) = true ∧ 0 ≤ t.ht ∧ t.nodes = ts.length ∧ ascB (t.slots.map (fun s => s.1)) = true ∧ t.flat 0 = ts ∧ t.nums.Nodup
def ImplOk (ts : List TN) : Prop := ts.length ≤ 1000 ∧ ∃ t met, gr ts (ts.length + 1) 0 (fun _ => false) = some (t, ts.length, met) ∧ t.slots.all (fun s => kyB s.1) = true ∧ ascB (t.slots.map (fun s => s.1)) = true
theorem valid_iff (ts : List TN) : SpecOk ts ↔ ImplOk ts := by
  constructor
  · rintro ⟨⟨h1, h2⟩, t, hr, hg, hk, hh, hn, ha, hf, hd⟩
    obtain ⟨met, e, _⟩ := gr_ok ts _ 0 (fun _ => false) t ts.length hr ⟨by omega, by rw [hf, hn]; simp⟩ hg hh ⟨hd, fun _ _ => rfl⟩
    exact ⟨h2, t, met, e, hk, ha⟩
  · rintro ⟨h2, t, met, e, hk, ha⟩
    obtain ⟨a1, a2, a3, a4, a5, a6, a7, a8⟩ := gr_some ts _ 0 _ _ _ _ (Nat.zero_le _) e
    have hn : t.nodes = ts.length := by omega
    have h1 : 1 ≤ t.nodes := by rw [T.nodes_eq]; omega
    refine ⟨⟨by omega, h2⟩, t, a1, a5, hk, a6, hn, ha, ?_, a7.1⟩
    rw [a4.2, hn]; simp
end Go.Proofs.Ytpmagndofiaooaa
