import Derived.Test.YtpmagndofiaooaaTt
namespace Go.Proofs.Ytpmagndofiaooaa
open Go.RowKit
set_option linter.unusedVariables false
set_option maxRecDepth 100000

/-- A node with all that is below it. -/
structure T where
  leaf : Bool
  page : Int
  keys : List ByteArray
  vals : List ByteArray
  over : List Int
  kids : List T
namespace T
theorem kid_lt {t k : T} (h : k ∈ t.kids) : SizeOf.sizeOf k < SizeOf.sizeOf t := by
  cases t
  have := List.sizeOf_lt_of_mem h
  simp at this ⊢
  omega
theorem ind {P : T → Prop} (h : ∀ t, (∀ k ∈ t.kids, P k) → P t) : ∀ t, P t := by
  have : ∀ n t, SizeOf.sizeOf t < n → P t := by
    intro n
    induction n with
    | zero => intro t ht; omega
    | succ n ih => intro t ht; exact h t (fun k hk => ih k (by have := T.kid_lt hk; omega))
  exact fun t => this _ t (Nat.lt_succ_self _)
def size (t : T) : Nat := if t.leaf then t.keys.length else t.kids.length
def nodes : T → Nat
  | ⟨_, _, _, _, _, y⟩ => 1 + (y.map nodes).sum
theorem nodes_eq (t : T) : t.nodes = 1 + (t.kids.map nodes).sum := by cases t; rw [nodes]
def low : T → ByteArray
  | ⟨l, _, k, _, _, y⟩ => if l then k.headD ByteArray.empty else match y with
    | [] => ByteArray.empty
    | t :: _ => t.low
theorem low_leaf {t : T} (h : t.leaf = true) : t.low = t.keys.headD ByteArray.empty := by
  obtain ⟨l, p, k, v, o, y⟩ := t
  simp at h
  rw [low.eq_def]; simp [h]
theorem low_inner {t k : T} {r : List T} (h : t.leaf = false) (hk : t.kids = k :: r) : t.low = k.low := by
  obtain ⟨l, p, ks, v, o, y⟩ := t
  simp at h hk
  subst hk
  rw [low.eq_def]; simp [h]
def htOf : List Int → Int
  | [] => 0
  | h :: r => if h < 0 then -1 else if r.all (fun x => x == h) then h + 1 else -1
def ht : T → Int
  | ⟨l, _, _, _, _, y⟩ => if l then 0 else htOf (y.map ht)
theorem ht_eq (t : T) : t.ht = if t.leaf then 0 else htOf (t.kids.map ht) := by cases t; rw [ht]
def slots : T → List (ByteArray × ByteArray × Int)
  | ⟨l, _, k, v, o, y⟩ => (if l then k.zip (v.zip o) else []) ++ (y.map slots).flatten
theorem slots_eq (t : T) : t.slots = (if t.leaf then t.keys.zip (t.vals.zip t.over) else []) ++ (t.kids.map slots).flatten := by cases t; rw [slots]
def nums : T → List Int
  | ⟨_, p, _, _, o, y⟩ => (if p = 0 then [] else [p]) ++ (o.filter (fun x => x != 0)) ++ (y.map nums).flatten
theorem nums_eq (t : T) : t.nums = (if t.page = 0 then [] else [t.page]) ++ (t.over.filter (fun x => x != 0)) ++ (t.kids.map nums).flatten := by cases t; rw [nums]
end T
def startsN : Nat → List Nat → List Int
  | _, [] => []
  | s, n :: r => (s : Int) :: startsN (s + n) r
def offs : Nat → List (Nat → List TN) → List TN
  | _, [] => []
  | s, g :: r => g s ++ offs (s + (g s).length) r
namespace T
def flat : T → Nat → List TN
  | ⟨l, p, k, v, o, y⟩, s => if l then [⟨true, p, k, v, o, []⟩] else ⟨false, p, y.tail.map low, [], [], startsN (s + 1) (y.map nodes)⟩ :: offs (s + 1) (y.map flat)
theorem flat_eq (t : T) (s : Nat) : t.flat s = if t.leaf then [⟨true, t.page, t.keys, t.vals, t.over, []⟩] else ⟨false, t.page, t.kids.tail.map low, [], [], startsN (s + 1) (t.kids.map nodes)⟩ :: offs (s + 1) (t.kids.map flat) := by cases t; rw [flat]
end T
/-- A number that a page may have. -/
def pgB (x : Int) : Bool := decide (2 ≤ x ∧ x ≤ 999)
/-- Whether a leaf on that page may have the value. -/
def standB (page : Int) (v : ByteArray) (o : Int) : Bool := decide (v.size ≤ 400) && (o == 0 || pgB o) && !(o != 0 && decide (v.size ≤ 8)) && !(o == 0 && decide (8 < v.size) && page != 0)
namespace T
/-- Good, but for the keys themselves. -/
def good : T → Bool → Bool
  | ⟨l, p, k, v, o, y⟩, root =>
    (decide ((if root && l then 0 else 2) ≤ (if l then k.length else y.length) ∧ (if l then k.length else y.length) ≤ 4)) && (p == 0 || pgB p) &&
    (!l || (decide (v.length = k.length) && decide (o.length = k.length) && (v.zip o).all (fun x => standB p x.1 x.2))) &&
    (y.map (fun t => t.good false)).all id && y.all (fun t => !(p != 0 && t.page == 0))
theorem good_eq (t : T) (root : Bool) : t.good root = ((decide ((if root && t.leaf then 0 else 2) ≤ t.size ∧ t.size ≤ 4)) && (t.page == 0 || pgB t.page) &&
    (!t.leaf || (decide (t.vals.length = t.keys.length) && decide (t.over.length = t.keys.length) && (t.vals.zip t.over).all (fun x => standB t.page x.1 x.2))) &&
    (t.kids.map (fun t => t.good false)).all id && t.kids.all (fun k => !(t.page != 0 && k.page == 0))) := by
  cases t; rw [good]; simp [size]
end T
def leafT : T := ⟨true, 0, [], [], [], []⟩
/-- The document's reading of a tree: the children one by one, by what reads one. -/
def rdK (one : Nat → T × Nat × Bool) : List Int → Nat → List T × Nat × Bool
  | [], nx => ([], nx, false)
  | k :: ks, nx =>
    if k = nx then
      if (one nx).2.2 then ([(one nx).1], (one nx).2.1, true)
      else ((one nx).1 :: (rdK one ks (one nx).2.1).1, (rdK one ks (one nx).2.1).2.1, (rdK one ks (one nx).2.1).2.2)
    else ([], nx, true)
def rd (ts : List TN) : Nat → Nat → T × Nat × Bool
  | 0, nx => (leafT, nx, true)
  | f + 1, nx =>
    if nx < ts.length then
      if (ts.getD nx dT).leaf then (⟨true, (ts.getD nx dT).page, (ts.getD nx dT).keys, (ts.getD nx dT).vals, (ts.getD nx dT).over, []⟩, nx + 1, false)
      else if (ts.getD nx dT).kids.length = 0 then (⟨false, (ts.getD nx dT).page, [], (ts.getD nx dT).vals, (ts.getD nx dT).over, []⟩, nx + 1, true)
      else (⟨false, (ts.getD nx dT).page, [], (ts.getD nx dT).vals, (ts.getD nx dT).over, (rdK (rd ts f) (ts.getD nx dT).kids (nx + 1)).1⟩, (rdK (rd ts f) (ts.getD nx dT).kids (nx + 1)).2.1, (rdK (rd ts f) (ts.getD nx dT).kids (nx + 1)).2.2)
    else (leafT, nx, true)
/-- The program's: numbers that were met, and a number met now. -/
def meetB (met : Int → Bool) (x : Int) : Option (Int → Bool) := if x = 0 then some met else if pgB x && !met x then some (fun y => met y || y == x) else none
def mayB (p : Int) (v : ByteArray) (o : Int) : Bool := if v.size ≤ 8 then o == 0 else decide (v.size ≤ 400) && (p == 0 || o != 0)
def meetL (p : Int) : List (ByteArray × Int) → (Int → Bool) → Option (Int → Bool)
  | [], met => some met
  | x :: r, met => match meetB met x.2 with
    | none => none
    | some m => if mayB p x.1 x.2 then meetL p r m else none
def holdB (p : Int) (acc : List T) (t : T) : Bool := decide (2 ≤ t.size) && !(p != 0 && t.page == 0) && (match acc with | [] => true | a :: _ => a.ht == t.ht)
def grK (p : Int) (keys : List ByteArray) (one : Nat → (Int → Bool) → Option (T × Nat × (Int → Bool))) : List Int → List T → Nat → (Int → Bool) → Option (List T × Nat × (Int → Bool))
  | [], acc, nx, met => some (acc, nx, met)
  | k :: ks, acc, nx, met =>
    if k = nx then
      match one nx met with
      | none => none
      | some (t, nx', m') => if holdB p acc t && (decide (acc.length = 0) || decide (t.low = keys.getD (acc.length - 1) ByteArray.empty)) then grK p keys one ks (acc ++ [t]) nx' m' else none
    else none
def gr (ts : List TN) : Nat → Nat → (Int → Bool) → Option (T × Nat × (Int → Bool))
  | 0, _, _ => none
  | f + 1, nx, met =>
    if nx = ts.length then none else
      match meetB met (ts.getD nx dT).page with
      | none => none
      | some m =>
        if (ts.getD nx dT).leaf then
          if 4 < (ts.getD nx dT).keys.length ∨ (ts.getD nx dT).vals.length ≠ (ts.getD nx dT).keys.length ∨ (ts.getD nx dT).over.length ≠ (ts.getD nx dT).keys.length ∨ 0 < (ts.getD nx dT).kids.length then none
          else match meetL (ts.getD nx dT).page ((ts.getD nx dT).vals.zip (ts.getD nx dT).over) m with
            | none => none
            | some m' => some (⟨true, (ts.getD nx dT).page, (ts.getD nx dT).keys, (ts.getD nx dT).vals, (ts.getD nx dT).over, []⟩, nx + 1, m')
        else
          if (ts.getD nx dT).kids.length < 2 ∨ 4 < (ts.getD nx dT).kids.length ∨ (ts.getD nx dT).keys.length + 1 ≠ (ts.getD nx dT).kids.length ∨ 0 < (ts.getD nx dT).vals.length ∨ 0 < (ts.getD nx dT).over.length then none
          else match grK (ts.getD nx dT).page (ts.getD nx dT).keys (gr ts f) (ts.getD nx dT).kids [] (nx + 1) m with
            | none => none
            | some (ys, nx', m') => some (⟨false, (ts.getD nx dT).page, [], [], [], ys⟩, nx', m')
def lessB (a b : ByteArray) : Bool := Op.bytesLess a.toList b.toList
/-- Strictly ascending. -/
def ascB : List ByteArray → Bool
  | [] => true
  | [_] => true
  | a :: b :: r => lessB a b && ascB (b :: r)
def kyB (s : ByteArray) : Bool := decide (1 ≤ s.size) && decide (s.size ≤ 8)
end Go.Proofs.Ytpmagndofiaooaa
