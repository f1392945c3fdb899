import Derived.Test.YtmlpmglmnhjajaaTlb
import Derived.Test.YtmlpmglmnhjajaaIn
import Derived.Deep.DeepCutAuto
namespace Go.Proofs.Ytmlpmglmnhjajaa
open Go.RowKit
set_option linter.unusedVariables false
set_option linter.unusedSimpArgs false
set_option maxRecDepth 100000

set_option maxHeartbeats 400000 in
theorem l2Key_t (s : ByteArray) (hs : s.size ≤ maxLen) (w : World) :
    Calls Try.prog 14 #[.string s] w fun e w' => e = .returned (.bool (kyB s)) ∧ w' = w := by
  unfold maxLen at hs
  by_cases h1 : 1 ≤ s.size
  · go_enter Try.func14, Try.ntmps14
    go_wp2
    go_ret
    exact ⟨by simp [kyB, h1]; omega, rfl⟩
  · have hd : decide ((1 : Int) ≤ s.size) = false := by simp; omega
    go_enter Try.func14, Try.ntmps14
    go_wp2
    go_ret
    exact ⟨by simp [kyB, h1], rfl⟩
/-- An entry of a leaf. -/
def entB (p : Int) (s v : ByteArray) (o : Int) : Bool := kyB s && standB p v o
theorem good_leafB {t : T} (hs : Shape t) (hl : t.leaf = true) (r : Bool) : (t.good r && t.slots.all (fun s => kyB s.1)) = (decide ((if r then 0 else 2) ≤ t.keys.length ∧ t.keys.length ≤ 4) && (t.page == 0 || pgB t.page) && decide (t.vals.length = t.keys.length) && decide (t.over.length = t.keys.length) && (t.keys.zip (t.vals.zip t.over)).all (fun x => entB t.page x.1 x.2.1 x.2.2)) := by
  have hk := ((shape_eq t).1 hs).1 hl
  rw [T.good_eq, T.slots_eq, hl, hk]
  simp only [T.size, hl, if_true, List.map_nil, List.all_nil, List.flatten_nil, List.append_nil, Bool.and_true, Bool.not_true, Bool.false_or, entB]
  by_cases h1 : t.vals.length = t.keys.length
  · by_cases h2 : t.over.length = t.keys.length
    · have e1 : (t.vals.zip t.over).all (fun x => standB t.page x.1 x.2) = (t.keys.zip (t.vals.zip t.over)).all (fun x => standB t.page x.2.1 x.2.2) := by
        rw [show (fun x : ByteArray × ByteArray × Int => standB t.page x.2.1 x.2.2) = (fun x => standB t.page x.1 x.2) ∘ Prod.snd from rfl, ← List.all_map, List.map_snd_zip (by simp; omega)]
      rw [e1]
      have e2 : (t.keys.zip (t.vals.zip t.over)).all (fun x => kyB x.1 && standB t.page x.2.1 x.2.2) = ((t.keys.zip (t.vals.zip t.over)).all (fun x => kyB x.1) && (t.keys.zip (t.vals.zip t.over)).all (fun x => standB t.page x.2.1 x.2.2)) := by
        generalize t.keys.zip (t.vals.zip t.over) = l
        induction l with
        | nil => rfl
        | cons a l ih => simp only [List.all_cons, ih]; cases kyB a.1 <;> cases standB t.page a.2.1 a.2.2 <;> simp
      rw [e2]
      generalize (t.keys.zip (t.vals.zip t.over)).all (fun x => kyB x.1) = a
      generalize (t.keys.zip (t.vals.zip t.over)).all (fun x => standB t.page x.2.1 x.2.2) = b
      cases a <;> cases b <;> simp [h1, h2]
    · simp [h2]
  · simp [h1]
theorem good_innerB {t : T} (hl : t.leaf = false) (r : Bool) : (t.good r && t.slots.all (fun s => kyB s.1)) = (decide (2 ≤ t.kids.length ∧ t.kids.length ≤ 4) && (t.page == 0 || pgB t.page) && t.kids.all (fun k => (k.good false && k.slots.all (fun s => kyB s.1)) && !(t.page != 0 && k.page == 0))) := by
  rw [T.good_eq, T.slots_eq, hl]
  simp only [T.size, hl, Bool.false_eq_true, if_false, Bool.not_false, Bool.true_or, Bool.and_true, List.nil_append, Bool.and_false]
  have e : ((t.kids.map (fun t => t.good false)).all id && t.kids.all (fun k => !(t.page != 0 && k.page == 0)) && ((t.kids.map T.slots).flatten).all (fun s => kyB s.1)) = t.kids.all (fun k => (k.good false && k.slots.all (fun s => kyB s.1)) && !(t.page != 0 && k.page == 0)) := by
    generalize t.kids = l
    generalize t.page = p
    induction l with
    | nil => rfl
    | cons a l ih =>
      simp only [List.map_cons, List.all_cons, List.flatten_cons, List.all_append, id] at ih ⊢
      rw [← ih]
      generalize (l.map (fun t => t.good false)).all id = x1
      generalize l.all (fun k => !(p != 0 && k.page == 0)) = x2
      generalize (l.map T.slots).flatten.all (fun s => kyB s.1) = x3
      generalize a.good false = x4
      generalize a.slots.all (fun s => kyB s.1) = x5
      generalize (!(p != 0 && a.page == 0)) = x6
      cases x1 <;> cases x2 <;> cases x3 <;> cases x4 <;> cases x5 <;> cases x6 <;> rfl
  rw [← e]
  generalize (t.kids.map (fun t => t.good false)).all id = x1
  generalize t.kids.all (fun k => !(t.page != 0 && k.page == 0)) = x2
  generalize (t.kids.map T.slots).flatten.all (fun s => kyB s.1) = x3
  generalize decide (2 ≤ t.kids.length ∧ t.kids.length ≤ 4) = x4
  generalize (t.page == 0 || pgB t.page) = x5
  cases x1 <;> cases x2 <;> cases x3 <;> cases x4 <;> cases x5 <;> rfl
theorem zip3_get {ks vs : List ByteArray} {os : List Int} {n j : Nat} (h1 : ks.length = n) (h2 : vs.length = n) (h3 : os.length = n) (hj : j < n) : (ks.zip (vs.zip os))[j]? = some (ks.getD j ByteArray.empty, vs.getD j ByteArray.empty, os.getD j 0) := by
  simp [List.getD, List.getElem?_eq_getElem (show j < ks.length by omega), List.getElem?_eq_getElem (show j < vs.length by omega), List.getElem?_eq_getElem (show j < os.length by omega), List.getElem?_zip_eq_some]
theorem ents_false {ks vs : List ByteArray} {os : List Int} {p : Int} {n j : Nat} (h : ks.length = n ∧ vs.length = n ∧ os.length = n) (hj : j < n) (hb : entB p (ks.getD j ByteArray.empty) (vs.getD j ByteArray.empty) (os.getD j 0) = false) : (ks.zip (vs.zip os)).all (fun x => entB p x.1 x.2.1 x.2.2) = false := by
  rw [← Bool.not_eq_true]
  intro hc
  have := List.all_eq_true.1 hc _ (List.mem_of_getElem? (zip3_get h.1 h.2.1 h.2.2 hj))
  rw [hb] at this
  cases this
theorem ents_true {ks vs : List ByteArray} {os : List Int} {p : Int} {n : Nat} (h : ks.length = n ∧ vs.length = n ∧ os.length = n) (hb : ∀ j, j < n → entB p (ks.getD j ByteArray.empty) (vs.getD j ByteArray.empty) (os.getD j 0) = true) : (ks.zip (vs.zip os)).all (fun x => entB p x.1 x.2.1 x.2.2) = true := by
  rw [List.all_eq_true]
  intro x hx
  obtain ⟨j, hj⟩ := List.mem_iff_getElem?.1 hx
  have hlt : j < n := by
    have := (List.getElem?_eq_some_iff.1 hj).1
    simp at this
    omega
  rw [zip3_get h.1 h.2.1 h.2.2 hlt] at hj
  simp at hj
  rw [← hj]
  exact hb j hlt
/-- The box of an argument, later. -/
structure BoxN (w W : World) (N : Nat) (cs : Array Value) : Prop where
  box : W.heap[N]? = some (.cells cs 47)
  bel : Below N w W
theorem BoxN.lt {w W : World} {N : Nat} {cs : Array Value} (h : BoxN w W N cs) : N < W.heap.size := (Array.getElem?_eq_some_iff.1 h.box).1
theorem BoxN.below {w W W' : World} {N : Nat} {cs : Array Value} (h : BoxN w W N cs) (hb : Below W.heap.size W W') : BoxN w W' N cs :=
  ⟨(hb.block _ h.lt).trans h.box, h.bel.trans (hb.mono (Nat.le_of_lt h.lt))⟩
theorem BoxN.new (w : World) (cs : Array Value) : BoxN w (w.alloc (.cells cs 47)) w.heap.size cs := ⟨heap_alloc_new w _, (Below.refl _ _).alloc (Nat.le_refl _) _⟩
theorem leaf_false (a b c d e : Bool) : (a && b && c && d && e) = false ↔ a = false ∨ b = false ∨ c = false ∨ d = false ∨ e = false := by
  cases a <;> cases b <;> cases c <;> cases d <;> cases e <;> simp
end Go.Proofs.Ytmlpmglmnhjajaa
