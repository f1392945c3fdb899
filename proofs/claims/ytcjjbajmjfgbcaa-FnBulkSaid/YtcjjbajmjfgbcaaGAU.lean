import Derived.Test.YtcjjbajmjfgbcaaGAA
import Derived.Test.YtcjjbajmjfgbcaaGAT
namespace Go.Proofs.Ytcjjbajmjfgbcaa
open Go.RowKit
set_option linter.unusedVariables false
set_option linter.unusedSimpArgs false
set_option maxRecDepth 100000
def lookT (key : ByteArray) (zs : List (ByteArray × ByteArray × Int)) : Option (ByteArray × ByteArray × Int) := zs.find? (fun s => decide (s.1 = key))
theorem look_none {key : ByteArray} {zs : List (ByteArray × ByteArray × Int)} (h : ∀ s ∈ zs, s.1 ≠ key) : lookT key zs = none := by
 unfold lookT
 rw [List.find?_eq_none]
 intro s hs
 simpa using h s hs
def SortT (zs : List (ByteArray × ByteArray × Int)) : Prop := zs.Pairwise (fun a b => lessB a.1 b.1 = true)
theorem sort_of_asc {zs : List (ByteArray × ByteArray × Int)} (h : ascB (zs.map (fun s => s.1)) = true) : SortT zs := by
 unfold SortT
 rw [List.pairwise_iff_getElem]
 intro i j hi hj hij
 have := asc_lt (asc_to _ h) hij (by simpa using hj)
 simpa [List.getD, hi, hj] using this
theorem asc_of_sort {zs : List (ByteArray × ByteArray × Int)} (h : SortT zs) : ascTo (zs.map (fun s => s.1)) zs.length := fun i hi => by
 unfold SortT at h
 rw [List.pairwise_iff_getElem] at h
 have := h i (i + 1) (by omega) (by omega) (by omega)
 simpa [List.getD, show i < zs.length by omega, show i + 1 < zs.length by omega] using this
theorem look_flat {key : ByteArray} : ∀ (L : List (List (ByteArray × ByteArray × Int))) (m : Nat), m < L.length → (∀ i, i < L.length → i ≠ m → ∀ s ∈ L.getD i [], s.1 ≠ key) → lookT key L.flatten = lookT key (L.getD m [])
 | [], m, hm, _ => by simp at hm
 | l :: r, 0, _, h => by
  have hr : lookT key r.flatten = none := look_none (fun s hs => by
   obtain ⟨q, hq, hs2⟩ := List.mem_flatten.1 hs
   obtain ⟨i, hi, e⟩ := List.mem_iff_getElem.1 hq
   refine h (i + 1) (by simpa using hi) (by omega) s ?_
   simp [List.getD, hi, e, hs2])
  show lookT key (l ++ r.flatten) = lookT key l
  unfold lookT at hr ⊢
  rw [List.find?_append, hr]
  simp
 | l :: r, m + 1, hm, h => by
  have hl : lookT key l = none := look_none (fun s hs => h 0 (by simp) (by omega) s (by simpa using hs))
  have ih := look_flat r m (by simpa using hm) (fun i hi hne s hs => h (i + 1) (by simpa using hi) (by omega) s (by simpa using hs))
  have e1 : lookT key ((l :: r).flatten) = lookT key r.flatten := by
   show lookT key (l ++ r.flatten) = _
   unfold lookT at hl ⊢
   rw [List.find?_append, hl]
   rfl
  rw [e1, ih]
  simp
theorem slots_ne (t : T) : t.good false = true → t.slots ≠ [] := by
 induction t using T.ind with
 | h t ih =>
  intro hg
  have hg0 := hg
  rw [T.good_eq] at hg
  simp only [Bool.and_eq_true, decide_eq_true_eq] at hg
  have h2 := hg.1.1.1.1.1
  have h3 := hg.1.1.2
  rw [T.slots_eq]
  cases hl : t.leaf
  ·simp only [hl, T.size, Bool.and_false, Bool.false_eq_true, if_false] at h2
   obtain ⟨k, r, hk⟩ : ∃ k r, t.kids = k :: r := List.exists_cons_of_ne_nil (by intro e; rw [e] at h2; simp at h2)
   have := ih k (by rw [hk]; exact List.mem_cons_self ..) (goodG_kid hg0 (by rw [hk]; exact List.mem_cons_self ..))
   rw [hk]
   simp [this]
  ·have h2' : 2 ≤ t.keys.length := by simpa [hl, T.size] using h2
   simp only [hl, Bool.not_true, Bool.false_or, Bool.and_eq_true, decide_eq_true_eq] at h3
   intro e
   have := congrArg List.length e
   simp only [if_true, List.length_append, List.length_zip, List.length_nil] at this
   omega
theorem low_head (t : T) : t.good false = true → ∀ s r, t.slots = s :: r → s.1 = t.low := by
 induction t using T.ind with
 | h t ih =>
  intro hg s r hs
  have hg0 := hg
  rw [T.good_eq] at hg
  simp only [Bool.and_eq_true, decide_eq_true_eq] at hg
  have h2 := hg.1.1.1.1.1
  have h3 := hg.1.1.2
  rw [T.slots_eq] at hs
  cases hl : t.leaf
  ·simp only [hl, T.size, Bool.and_false, Bool.false_eq_true, if_false] at h2
   obtain ⟨k, q, hk⟩ : ∃ k q, t.kids = k :: q := List.exists_cons_of_ne_nil (by intro e; rw [e] at h2; simp at h2)
   have hkm : k ∈ t.kids := by rw [hk]; exact List.mem_cons_self ..
   rw [if_neg (by simp [hl]), List.nil_append, hk, List.map_cons, List.flatten_cons] at hs
   rw [T.low_inner hl hk]
   obtain ⟨s', r', e'⟩ := List.exists_cons_of_ne_nil (slots_ne k (goodG_kid hg0 hkm))
   rw [e', List.cons_append] at hs
   have := (List.cons.inj hs).1
   rw [← this]
   exact ih k hkm (goodG_kid hg0 hkm) s' r' e'
  ·have h2 : 2 ≤ t.keys.length := by simpa [hl, T.size] using h2
   simp only [hl, Bool.not_true, Bool.false_or, Bool.and_eq_true, decide_eq_true_eq] at h3
   rw [if_pos hl] at hs
   rw [T.low_leaf hl]
   cases hks : t.keys with
   | nil => rw [hks] at h2; simp at h2
   | cons a ra =>
    cases hv : t.vals with
    | nil => rw [hks, hv] at h3; simp at h3
    | cons v rv =>
     cases ho : t.over with
     | nil => rw [hks, ho] at h3; simp at h3
     | cons o ro =>
      rw [hks, hv, ho] at hs
      simp only [List.zip_cons_cons, List.cons_append] at hs
      rw [← (List.cons.inj hs).1]
      rfl
def leB (a b : ByteArray) : Bool := Op.bytesLess a.toList b.toList || a.toList == b.toList
theorem le_iff (a b : ByteArray) : leB a b = true ↔ lessB a b = true ∨ a = b := by
 unfold leB lessB
 rw [Bool.or_eq_true, beq_iff_eq]
 exact ⟨fun h => h.imp id listG_inj, fun h => h.imp id (fun e => by rw [e])⟩
def TowardIs (t : T) (key : ByteArray) (m : Nat) : Prop := m < t.kids.length ∧ (m = 0 ∨ ∃ k, t.kids[m]? = some k ∧ leB k.low key = true) ∧ ∀ i k, m < i → t.kids[i]? = some k → ¬ leB k.low key = true
theorem look_toward {t k : T} {key : ByteArray} {m : Nat} (hl : t.leaf = false) (hg : ∃ r, t.good r = true) (hs : SortT t.slots) (hm : TowardIs t key m) (hk : t.kids[m]? = some k) : lookT key t.slots = lookT key k.slots ∧ SortT k.slots := by
 obtain ⟨r, hg⟩ := hg
 have hsl : t.slots = (t.kids.map T.slots).flatten := by rw [T.slots_eq, if_neg (by simp [hl]), List.nil_append]
 rw [hsl] at hs ⊢
 unfold SortT at hs
 rw [List.pairwise_flatten] at hs
 obtain ⟨h1, h2⟩ := hs
 rw [List.pairwise_iff_getElem] at h2
 have hgk : ∀ q ∈ t.kids, q.good false = true := fun q hq => goodG_kid hg hq
 have hkm := List.mem_of_getElem? hk
 refine ⟨?_, h1 _ (List.mem_map.2 ⟨k, hkm, rfl⟩)⟩
 have hlen : (t.kids.map T.slots).length = t.kids.length := by simp
 have hget : ∀ i (hi : i < t.kids.length), (t.kids.map T.slots).getD i [] = t.kids[i].slots := fun i hi => by simp [List.getD, hi]
 have hme : (t.kids.map T.slots).getD m [] = k.slots := by
  obtain ⟨hi, e⟩ := List.getElem?_eq_some_iff.1 hk
  rw [hget m hi, e]
 rw [look_flat _ m (by rw [hlen]; exact hm.1) (fun i hi hne s hsm e => ?_), hme]
 rw [hlen] at hi
 rw [hget i hi] at hsm
 have hgi := hgk t.kids[i] (List.getElem_mem hi)
 by_cases him : i < m
 ·                                                            
  rcases hm.2.1 with h0 | ⟨k', hk', hle⟩
  ·omega
  ·have hkk : k' = k := by rw [hk] at hk'; exact (Option.some.inj hk').symm
   subst hkk
   obtain ⟨s', r', e'⟩ := List.exists_cons_of_ne_nil (slots_ne k' (hgk k' hkm))
   have hlow := low_head k' (hgk k' hkm) s' r' e'
   obtain ⟨hi2, e2⟩ := List.getElem?_eq_some_iff.1 hk
   have hlt := h2 i m (by rw [hlen]; exact hi) (by rw [hlen]; exact hm.1) him s (by simpa using hsm) s' (by simp [e2, e'])
   rw [e, hlow] at hlt
   rcases (le_iff _ _).1 hle with h5 | h5
   ·exact less_irrefl _ (less_trans hlt h5)
   ·rw [h5] at hlt; exact less_irrefl _ hlt
 ·have hgt : m < i := by omega
  have hnle := hm.2.2 i t.kids[i] hgt (List.getElem?_eq_getElem hi)
  obtain ⟨s', r', e'⟩ := List.exists_cons_of_ne_nil (slots_ne _ hgi)
  have hlow := low_head _ hgi s' r' e'
  apply hnle
  rw [le_iff]
  have hp := h1 _ (List.mem_map.2 ⟨t.kids[i], List.getElem_mem hi, rfl⟩)
  rw [e'] at hp hsm
  rcases List.mem_cons.1 hsm with rfl | hin
  ·right; rw [← hlow]; exact e
  ·left
   have := List.rel_of_pairwise_cons hp hin
   rw [hlow, e] at this
   exact this
def posT (key : ByteArray) : List (ByteArray × ByteArray × Int) → Nat
 | [] => 0
 | s :: r => if lessB s.1 key then posT key r + 1 else 0
theorem posT_le (key : ByteArray) : ∀ zs, posT key zs ≤ zs.length
 | [] => Nat.le_refl _
 | s :: r => by
  have := posT_le key r
  unfold posT
  split <;> simp <;> omega
theorem pos_is (key : ByteArray) : ∀ (zs : List (ByteArray × ByteArray × Int)) (i : Nat), PosIs zs key i → i = posT key zs
 | [], i, h => by have := h.1; simp at this; simp [posT, this]
 | s :: r, i, h => by
  obtain ⟨h1, h2, h3⟩ := h
  unfold posT
  cases i with
  | zero =>
   have := h3 0 (Nat.le_refl _) (by simp)
   simp [List.getD] at this
   simp [this]
  | succ i =>
   have h0 := h2 0 (by omega)
   simp [List.getD] at h0
   rw [if_pos h0, pos_is key r i ⟨by simp at h1; omega, fun k hk => by simpa [List.getD] using h2 (k + 1) (by omega), fun k hk1 hk2 => by simpa [List.getD] using h3 (k + 1) (by omega) (by simp; omega)⟩]
def thereT (key : ByteArray) (zs : List (ByteArray × ByteArray × Int)) : Bool := decide (posT key zs < zs.length ∧ (zs.getD (posT key zs) (ByteArray.empty, ByteArray.empty, 0)).1 = key)
def putZ (key val : ByteArray) (zs : List (ByteArray × ByteArray × Int)) : List (ByteArray × ByteArray × Int) := zs.take (posT key zs) ++ (key, val, 0) :: zs.drop (if thereT key zs then posT key zs + 1 else posT key zs)
def leafZ (zs : List (ByteArray × ByteArray × Int)) : T := ⟨true, 0, zs.map (fun s => s.1), zs.map (fun s => s.2.1), zs.map (fun s => s.2.2), []⟩
theorem zip_map3 : ∀ (zs : List (ByteArray × ByteArray × Int)), (zs.map (fun s => s.1)).zip ((zs.map (fun s => s.2.1)).zip (zs.map (fun s => s.2.2))) = zs
 | [] => rfl
 | s :: r => by simp [zip_map3 r]
theorem leafZ_zip (zs : List (ByteArray × ByteArray × Int)) : (leafZ zs).keys.zip ((leafZ zs).vals.zip (leafZ zs).over) = zs := zip_map3 zs
def towO (key : ByteArray) : List T → Option Nat
 | [] => none
 | t :: r => match towO key r with
  | some m => some (m + 1)
  | none => if leB t.low key then some 0 else none
def towN (key : ByteArray) (ys : List T) : Nat := (towO key ys).getD 0
theorem towO_some (key : ByteArray) : ∀ (ys : List T) (m : Nat) (k : T), ys[m]? = some k → leB k.low key = true → (∀ i k, m < i → ys[i]? = some k → ¬ leB k.low key = true) → towO key ys = some m
 | [], m, k, h, _, _ => by simp at h
 | t :: r, 0, k, h, hk, ha => by
  have hn : towO key r = none := towO_none key r (fun i k hi => ha (i + 1) k (by omega) (by simpa using hi))
  simp at h
  subst h
  simp [towO, hn, hk]
 | t :: r, m + 1, k, h, hk, ha => by
  have := towO_some key r m k (by simpa using h) hk (fun i k hi hk => ha (i + 1) k (by omega) (by simpa using hk))
  simp [towO, this]
 where
 towO_none (key : ByteArray) : ∀ (ys : List T), (∀ (i : Nat) k, ys[i]? = some k → ¬ leB k.low key = true) → towO key ys = none
 | [], _ => rfl
 | t :: r, h => by
  have h1 := towO_none key r (fun i k hi => h (i + 1) k (by simpa using hi))
  have h2 := h 0 t rfl
  simp [towO, h1, h2]
theorem tow_is {t : T} {key : ByteArray} {m : Nat} (h : TowardIs t key m) : towN key t.kids = m := by
 obtain ⟨h1, h2, h3⟩ := h
 rcases h2 with rfl | ⟨k, hk, hl⟩
 ·obtain ⟨k, hk⟩ : ∃ k, t.kids[0]? = some k := ⟨_, List.getElem?_eq_getElem h1⟩
  by_cases hl : leB k.low key = true
  ·unfold towN; rw [towO_some key _ 0 k hk hl h3]; rfl
  ·unfold towN
   rw [towO_some.towO_none key _ (fun i k' hi => by
    cases i with
    | zero => rw [hk] at hi; simp at hi; subst hi; exact hl
    | succ i => exact h3 (i + 1) k' (by omega) hi)]
   rfl
 ·unfold towN; rw [towO_some key _ m k hk hl h3]; rfl
def T.fore (t : T) (k : Nat) : T := ⟨t.leaf, 0, t.keys.take k, t.vals.take k, t.over.take k, t.kids.take k⟩
def T.rest (t : T) (k : Nat) : T := ⟨t.leaf, 0, t.keys.drop k, t.vals.drop k, t.over.drop k, t.kids.drop k⟩
def cutT (t : T) : List T := if t.size ≤ 4 then [t] else [t.fore 3, t.rest 3]
def putT (key val : ByteArray) : T → T
 | ⟨l, p, k, v, o, y⟩ => if l then leafZ (putZ key val (k.zip (v.zip o)))
  else ⟨false, 0, [], [], [], y.take (towN key y) ++ cutT ((y.map (putT key val)).getD (towN key y) leafT) ++ y.drop (towN key y + 1)⟩
theorem putT_leaf {key val : ByteArray} {t : T} (h : t.leaf = true) : putT key val t = leafZ (putZ key val (t.keys.zip (t.vals.zip t.over))) := by
 obtain ⟨l, p, k, v, o, y⟩ := t
 simp at h
 rw [putT]; simp [h]
theorem putT_inner {key val : ByteArray} {t k : T} (h : t.leaf = false) (hk : t.kids[towN key t.kids]? = some k) : putT key val t = ⟨false, 0, [], [], [], t.kids.take (towN key t.kids) ++ cutT (putT key val k) ++ t.kids.drop (towN key t.kids + 1)⟩ := by
 obtain ⟨l, p, ks, v, o, y⟩ := t
 simp at h hk
 rw [putT]
 have : (y.map (putT key val)).getD (towN key y) leafT = putT key val k := by simp [List.getD, hk]
 simp only [h, Bool.false_eq_true, if_false, this]
def rootP (key val : ByteArray) (t : T) : T := if (putT key val t).size ≤ 4 then putT key val t else ⟨false, 0, [], [], [], cutT (putT key val t)⟩
theorem putZ_len (key val : ByteArray) (zs : List (ByteArray × ByteArray × Int)) : (putZ key val zs).length = if thereT key zs then zs.length else zs.length + 1 := by
 have h := posT_le key zs
 unfold putZ
 by_cases ht : thereT key zs = true
 ·have h2 : posT key zs < zs.length := by simp [thereT] at ht; exact ht.1
  simp [ht]
  omega
 ·simp [ht]
  omega
theorem putZ_mem {key val : ByteArray} {zs : List (ByteArray × ByteArray × Int)} {s : ByteArray × ByteArray × Int} (h : s ∈ putZ key val zs) : s = (key, val, 0) ∨ s ∈ zs := by
 unfold putZ at h
 rcases List.mem_append.1 h with h | h
 ·exact .inr (List.mem_of_mem_take h)
 ·rcases List.mem_cons.1 h with h | h
  ·exact .inl h
  ·exact .inr (List.mem_of_mem_drop h)
theorem tow_lt {key : ByteArray} : ∀ (ys : List T), 0 < ys.length → towN key ys < ys.length := by
 have h : ∀ (ys : List T) m, towO key ys = some m → m < ys.length := by
  intro ys
  induction ys with
  | nil => intro m h; simp [towO] at h
  | cons t r ih =>
   intro m h
   unfold towO at h
   cases hr : towO key r with
   | none =>
    rw [hr] at h
    simp at h
    simp [← h.2]
   | some k =>
    rw [hr] at h
    simp at h
    have := ih k hr
    simp
    omega
 intro ys h0
 unfold towN
 cases hr : towO key ys with
 | none => simpa using h0
 | some m => exact h ys m hr
theorem tow_kid {key : ByteArray} {ys : List T} (h : 0 < ys.length) : ∃ k, ys[towN key ys]? = some k ∧ k ∈ ys := by
 have := tow_lt (key := key) ys h
 exact ⟨_, List.getElem?_eq_getElem this, List.getElem_mem _⟩
def slotV : Option (ByteArray × ByteArray × Int) → Value
 | some s => .agg #[.string s.1, .string s.2.1, .int .i64 s.2.2]
 | none => .agg #[.string ByteArray.empty, .string ByteArray.empty, .int .i64 0]
def FindAns (s : Option (ByteArray × ByteArray × Int)) (w : World) (e : Ending) (w' : World) : Prop := e = .returned (.tuple #[slotV s, .bool s.isSome]) ∧ Below w.heap.size w w'
theorem box_three {w : World} {N : Nat} {v0 v1 v2 : Value} {t : TypeId} (h : w.heap[N]? = some (.cells #[v0, v1, v2] t)) : w.cell? ⟨N, 0, none⟩ = some v0 ∧ w.cell? ⟨N, 1, none⟩ = some v1 ∧ w.cell? ⟨N, 2, none⟩ = some v2 := by
 simp [World.cell?, h]
def put3G (w : World) (N : Nat) (u0 u1 u2 : Value) : World := ((w.setCell ⟨N, 0, none⟩ u0).setCell ⟨N, 1, none⟩ u1).setCell ⟨N, 2, none⟩ u2
theorem leafSearch_any {w : World} {P : Nat → Prop} {t : T} {L : Nat} {a : Option Addr} {n c : Nat} (h : GLeaf w P t L a n c) (hs : SortT (t.keys.zip (t.vals.zip t.over))) (hn : n ≤ 1000) (key : ByteArray) : Calls Try.prog 83 #[.pointer (some ⟨L, 0, none⟩), .string key] w fun e w' => SearchAns (t.keys.zip (t.vals.zip t.over)) key w e w' := by
 obtain ⟨c0, c1⟩ := box_twoG h.box
 have hlt : L < w.heap.size := (Array.getElem?_eq_some_iff.1 h.box).1
 have hc := binSearch_any _ (asc_of_sort hs) key P a n c w h.row hn
 clear h hs
 generalize t.keys.zip (t.vals.zip t.over) = zs at *
 go_enter Try.func83, Try.ntmps83
 go_wp2_with fail
 refine hc.mono ?_
 rintro e w1 ⟨i, b, rfl, h1, h2, h3, hb⟩
 have H3 : Hid _ := h3
 have H1 : Hid _ := h1
 have H2 : Hid _ := h2
 clear hc h1 h2 h3
 go_wp2_with fail
 refine bodyPost_ret (v := .tuple #[.int .i64 i, .bool b]) (by simp [results, Try.results83, go_sem]) rfl ?_
 exact ⟨i, b, rfl, H1.out, H2.out, H3.out, hb⟩
set_option maxHeartbeats 1000000 in
theorem toward_any {w : World} {P : Nat → Prop} {t : T} {L : Nat} {a : Option Addr} {n c : Nat} {us : Nat → Value} (h : GInner w P t L a n c us) (hn : 0 < n) (hn4 : n ≤ 1000) (hk : ∀ i k, t.kids[i]? = some k → ∃ ty v, us i = .iface ty v ∧ Obs w ty v "loop.example/s02098/impl.least" (.string k.low)) (key : ByteArray) :
  Calls Try.prog 101 #[.pointer (some ⟨L, 0, none⟩), .string key] w fun e w' => ∃ m : Nat, e = .returned (.int .i64 m) ∧ TowardIs t key m ∧ w' = w := by
 obtain ⟨c0, c1⟩ := box_twoG h.box
 have hlt : L < w.heap.size := (Array.getElem?_eq_some_iff.1 h.box).1
 have HN : Hid (n = t.kids.length) := h.len.1
 obtain ⟨b, rfl, hpb, hcc⟩ := h.row hn
 have HC : Hid (∀ i, i < n → w.cell? ⟨b, i, none⟩ = some (us i)) := hcc
 have hbl := lt_of_cellG (hcc 0 hn)
 have HK : Hid (∀ i k, t.kids[i]? = some k → ∃ ty v, us i = .iface ty v ∧ Obs w ty v "loop.example/s02098/impl.least" (.string k.low)) := hk
 clear h hcc hk
 generalize t.page = pg at *
 go_enter Try.func101, Try.ntmps101
 go_wp2_with fail
 clear c0 c1
 go_loopw [5, 13] (fun mv iv wr => ∃ (j m : Nat), j ≤ n ∧ iv = .int .i64 j ∧ mv = .int .i64 m ∧ m ≤ j ∧ Hid ((m = 0 ∨ (m < j ∧ ∃ k, t.kids[m]? = some k ∧ leB k.low key = true)) ∧ ∀ i k, m < i → i < j → t.kids[i]? = some k → ¬ leB k.low key = true) ∧ wr = w) (fun _ iv _ => n - (intOf iv).toNat)
 case atStart => exact ⟨0, 0, Nat.zero_le _, rfl, rfl, Nat.le_refl _, ⟨.inl rfl, fun i k h1 h2 => by omega⟩, rfl⟩
 case round =>
  obtain ⟨j, m, hj, rfl, rfl, hmj, HI, rfl⟩ := hrel
  by_cases hlt2 : j < n
  ·obtain ⟨k, hki⟩ : ∃ k, t.kids[j]? = some k := ⟨_, List.getElem?_eq_getElem (by have := HN.out; omega)⟩
   obtain ⟨ty, v, hu, ha, f, r, hme, hcf, hcall⟩ := HK.out j k hki
   have d0 := HC.out j hlt2
   rw [hu] at d0
   have HKI : Hid (t.kids[j]? = some k) := hki
   obtain ⟨lw, hlw⟩ : ∃ lw, k.low = lw := ⟨_, rfl⟩
   have HLW : Hid (k.low = lw) := hlw
   rw [hlw] at hcall
   clear hu hki hlw
   obtain ⟨lb, hlb⟩ : ∃ lb, leB lw key = lb := ⟨_, rfl⟩
   have HLB : Hid (leB lw key = lb) := hlb
   unfold leB at hlb
   go_wp2_with fail
   refine hcall.mono ?_
   rintro e w' ⟨rfl, rfl⟩
   cases lb
   ·have HI2 : Hid ((m = 0 ∨ (m < j + 1 ∧ ∃ k, t.kids[m]? = some k ∧ leB k.low key = true)) ∧ ∀ i k, m < i → i < j + 1 → t.kids[i]? = some k → ¬ leB k.low key = true) := by
     refine ⟨HI.out.1.imp id (fun h => ⟨by omega, h.2⟩), fun i k2 h1 h2 h3 => ?_⟩
     by_cases hij : i = j
     ·subst hij
      rw [HKI.out] at h3
      cases h3
      rw [HLW.out, HLB.out]
      simp
     ·exact HI.out.2 i k2 h1 (by omega) h3
    clear HI hcall
    go_wp2_with fail
    go_roundw
    case rel => exact ⟨j + 1, m, by omega, by go_num, rfl, by omega, HI2, trivial⟩
    case measure => simp [intOf]; omega
   ·have HI2 : Hid ((j = 0 ∨ (j < j + 1 ∧ ∃ k, t.kids[j]? = some k ∧ leB k.low key = true)) ∧ ∀ i k, j < i → i < j + 1 → t.kids[i]? = some k → ¬ leB k.low key = true) :=
     ⟨.inr ⟨by omega, k, HKI.out, by rw [HLW.out, HLB.out]⟩, fun i k2 h1 h2 h3 => by omega⟩
    clear HI hcall
    go_wp2_with fail
    go_roundw
    case rel => exact ⟨j + 1, j, by omega, by go_num, rfl, by omega, HI2, trivial⟩
    case measure => simp [intOf]; omega
  ·have HF : Hid (TowardIs t key m) := by
    have hl := HN.out
    refine ⟨by rcases HI.out.1 with h | h <;> omega, HI.out.1.imp id (fun h => h.2), fun i k h1 h3 => ?_⟩
    have hi := (List.getElem?_eq_some_iff.1 h3).1
    exact HI.out.2 i k h1 (by omega) h3
   clear HI
   go_wp2_with fail
   go_ret
   exact ⟨m, rfl, HF.out, rfl⟩
def FObs (base : Nat) (w : World) (key : ByteArray) (s : Option (ByteArray × ByteArray × Int)) (ty : TypeId) (v : Value) : Prop :=
 (∀ w, (nilAhead 249 ty v "loop.example/s02098/impl.find").run Try.prog w = .ok (some false) w) ∧ ∃ f r, (∀ w, (method 249 ty v "loop.example/s02098/impl.find").run Try.prog w = .ok (f, r) w) ∧ (∀ w, (callFunc f #[r, .string key]).run Try.prog w = .ok (.enter f #[r, .string key]) w) ∧ ∀ w', Below base w w' → base ≤ w'.heap.size → Calls Try.prog f #[r, .string key] w' fun e w2 => FindAns s w' e w2
def PutAns (w : World) (P : Nat → Prop) (t : T) (u : Value) (e : Ending) (w' : World) : Prop := e = .returned (.tuple #[]) ∧ (∃ P' : Nat → Prop, GM w' P' t u ∧ ∀ b, P' b → (P b ∨ w.heap.size ≤ b) ∧ b < w'.heap.size) ∧ Fr P w w'
theorem fr_tight {P : Nat → Prop} {w w' : World} (h : Fr (fun b => P b ∨ w.heap.size ≤ b) w w') : Fr P w w' := ⟨h.os, h.tape, h.output, h.size, fun k hk hn => h.block k hk (fun e => by rcases e with e | e; exact hn e; omega)⟩
theorem soil_any {w : World} {L : Nat} {p : Int} {s : Value} {ty : TypeId} (h : w.heap[L]? = some (.cells #[.int .i64 p, s] ty)) : Calls Try.prog 80 #[.pointer (some ⟨L, 0, none⟩)] w fun e w' => e = .returned (.tuple #[]) ∧ w' = w.setCell ⟨L, 0, none⟩ (.int .i64 0) := by
 obtain ⟨c0, c1⟩ := box_twoG h
 have hlt : L < w.heap.size := (Array.getElem?_eq_some_iff.1 h).1
 have ff := thawT h
 clear h
 go_enter Try.func80, Try.ntmps80
 go_wp2
 go_end0
 exact ⟨rfl, rfl⟩
theorem leafPut_fin {w w5 : World} {P : Nat → Prop} {L c : Nat} {a : Option Addr} {zs : List (ByteArray × ByteArray × Int)} (hF : Fr (fun b => P b ∨ w.heap.size ≤ b) w w5) (hbox : w5.heap[L]? = some (.cells #[.int .i64 0, .slice a zs.length c] 78)) (hrow : w5.ownsRow 0 73 3 (.slice a zs.length c) zs.length (rowsOf slCells zs)) (hPL : P L) (hblk : ∀ g, (Value.slice a zs.length c).ownBlock = some g → (P g ∨ w.heap.size ≤ g) ∧ g ≠ L) :
  PutAns w P (leafZ zs) (.iface 74 (.pointer (some ⟨L, 0, none⟩))) (.returned (.tuple #[])) w5 := by
 have hlt : L < w5.heap.size := (Array.getElem?_eq_some_iff.1 hbox).1
 refine ⟨rfl, ⟨fun b => (P b ∨ w.heap.size ≤ b) ∧ b < w5.heap.size, ?_, fun b hb => hb⟩, fr_tight hF⟩
 refine GML.is (a := a) (n := zs.length) (c := c) ⟨⟨.inl hPL, hlt⟩, hbox, ?_, fun g hg => ⟨⟨(hblk g hg).1, (hrow.lt g hg).2⟩, (hblk g hg).2⟩, by simp [leafZ]⟩ rfl
 rw [leafZ_zip]
 exact hrow
theorem rowsOf_takeG {α : Type} {m : Nat} {cs : α → List Value} (hm : ∀ x, (cs x).length = m) : ∀ (xs : List α) (i : Nat), rowsOf cs (xs.take i) = (rowsOf cs xs).take (i * m)
 | [], i => by simp [rowsOf]
 | x :: r, 0 => by simp [rowsOf]
 | x :: r, i + 1 => by
  have ih := rowsOf_takeG hm r i
  have e : rowsOf cs (x :: r) = cs x ++ rowsOf cs r := rfl
  have e2 : rowsOf cs ((x :: r).take (i + 1)) = cs x ++ rowsOf cs (r.take i) := rfl
  have h1 : (cs x).take ((i + 1) * m) = cs x := List.take_of_length_le (by rw [hm]; exact Nat.le_mul_of_pos_left m (Nat.succ_pos i))
  rw [e, e2, ih, List.take_append, h1, hm, Nat.succ_mul, Nat.add_sub_cancel]
theorem rowsOf_dropG {α : Type} {m : Nat} {cs : α → List Value} (hm : ∀ x, (cs x).length = m) : ∀ (xs : List α) (i : Nat), rowsOf cs (xs.drop i) = (rowsOf cs xs).drop (i * m)
 | [], i => by simp [rowsOf]
 | x :: r, 0 => by simp
 | x :: r, i + 1 => by
  have ih := rowsOf_dropG hm r i
  have e : rowsOf cs (x :: r) = cs x ++ rowsOf cs r := rfl
  have e2 : rowsOf cs ((x :: r).drop (i + 1)) = rowsOf cs (r.drop i) := rfl
  have h1 : (cs x).drop ((i + 1) * m) = [] := List.drop_of_length_le (by rw [hm]; exact Nat.le_mul_of_pos_left m (Nat.succ_pos i))
  rw [e, e2, ih, List.drop_append, h1, hm, Nat.succ_mul, Nat.add_sub_cancel, List.nil_append]
theorem slots_one (zs : List (ByteArray × ByteArray × Int)) : ∀ u ∈ rowsOf slCells zs, u.oneCell' = true := by
 intro u hu
 unfold rowsOf at hu
 obtain ⟨s, _, hu⟩ := List.mem_flatMap.1 hu
 simp [slCells] at hu
 rcases hu with rfl | rfl | rfl <;> rfl
def put3at (w : World) (b o : Nat) (u0 u1 u2 : Value) : World := ((w.setCell ⟨b, o, none⟩ u0).setCell ⟨b, o + 1, none⟩ u1).setCell ⟨b, o + 2, none⟩ u2
theorem put3at_fr (w : World) (b o : Nat) (u0 u1 u2 : Value) : Fr (fun x => x = b) w (put3at w b o u0 u1 u2) := ((fr_setT w b o u0).trans (fr_setT _ b (o + 1) u1)).trans (fr_setT _ b (o + 2) u2)
theorem set3_take {α : Type} (l : List α) (o n : Nat) (u0 u1 u2 : α) (h : o + 3 ≤ n) (hn : n ≤ l.length) : (((l.set o u0).set (o + 1) u1).set (o + 2) u2).take n = (l.take n).take o ++ [u0, u1, u2] ++ (l.take n).drop (o + 3) := by
 apply List.ext_getElem?
 intro i
 simp only [List.getElem?_take, List.getElem?_set, List.length_set, List.getElem?_append, List.length_append, List.length_take, List.length_cons, List.length_nil, List.getElem?_drop]
 by_cases h1 : i < o
 ·simp [show i < n by omega, show ¬ (o + 2 = i) by omega, show ¬ (o + 1 = i) by omega, show ¬ (o = i) by omega, show i < min o (min n l.length) by omega, show i < min o (min n l.length) + 3 by omega, h1]
 ·by_cases h2 : i = o
  ·subst h2
   simp [show i < n by omega, show ¬ (i < min i (min n l.length)) by omega, show i < min i (min n l.length) + 3 by omega, show min i (min n l.length) = i by omega, show i < l.length by omega]
  ·by_cases h3 : i = o + 1
   ·subst h3
    simp [show ¬ (o + 1 < o) by omega, show o + 1 < n by omega, show min o (min n l.length) = o by omega, show o + 1 < l.length by omega]
   ·by_cases h4 : i = o + 2
    ·subst h4
     simp [show ¬ (o + 2 < o) by omega, show o + 2 < n by omega, show min o (min n l.length) = o by omega, show o + 2 < l.length by omega]
    ·have e : o + 3 + (i - (o + 3)) = i := by omega
     simp [show ¬ (o + 2 = i) by omega, show ¬ (o + 1 = i) by omega, show ¬ (o = i) by omega, show min o (min n l.length) = o by omega, show ¬ (i < o + 3) by omega, e]
theorem put3at_row {w : World} {b n c o : Nat} {xs : List Value} {u0 u1 u2 : Value} (h : w.ownsRow 0 73 3 (.slice (some ⟨b, 0, none⟩) n c) n xs) (ho : o + 3 ≤ n * 3) : (put3at w b o u0 u1 u2).ownsRow 0 73 3 (.slice (some ⟨b, 0, none⟩) n c) n (xs.take o ++ [u0, u1, u2] ++ xs.drop (o + 3)) := by
 have hxl := h.1
 rcases h.2 with ⟨e, _⟩ | ⟨g, cap, cur, e, _, hg, hnc, hcm, hcs, htk⟩
 ·cases e
 ·simp only [Value.slice.injEq, Option.some.injEq, Addr.mk.injEq] at e
  obtain ⟨⟨rfl, _⟩, _, rfl⟩ := e
  have e0 := heap_setT hg o u0
  have e1 := heap_setT e0 (o + 1) u1
  have e2 := heap_setT e1 (o + 2) u2
  refine ⟨by simp [hxl]; omega, .inr ⟨b, c, _, rfl, Nat.zero_le _, e2, hnc, hcm, by simpa using hcs, ?_⟩⟩
  simp only [Array.toList_setIfInBounds]
  rw [set3_take cur.toList o (n * 3) u0 u1 u2 ho (by simp [hcs]; omega), htk]
set_option maxHeartbeats 2000000 in
theorem leafPut_any {w : World} {P : Nat → Prop} {t : T} {L : Nat} {a : Option Addr} {n c : Nat} (h : GML w P t L a n c) (hs : SortT (t.keys.zip (t.vals.zip t.over))) (hn : n ≤ 4) (hP : ∀ b, P b → b < w.heap.size) (key val : ByteArray) :
  Calls Try.prog 77 #[.pointer (some ⟨L, 0, none⟩), .agg #[.string key, .string val, .int .i64 0]] w fun e w' => PutAns w P (leafZ (putZ key val (t.keys.zip (t.vals.zip t.over)))) (.iface 74 (.pointer (some ⟨L, 0, none⟩))) e w' := by
 obtain ⟨N, hN⟩ : ∃ N, w.heap.size = N := ⟨_, rfl⟩
 obtain ⟨zs, hzs⟩ : ∃ zs, t.keys.zip (t.vals.zip t.over) = zs := ⟨_, rfl⟩
 have hrow0 := h.row
 rw [hzs] at hrow0 hs ⊢
 have hzl : zs.length = n := by have := hrow0.1; rw [rowsOf_length sl3] at this; omega
 have hLN : L < N := by have := hP L h.at'; omega
 have hblk0 : ∀ g, (Value.slice a n c).ownBlock = some g → P g ∧ g ≠ L ∧ g < N := fun g hg => ⟨(h.blk g hg).1, (h.blk g hg).2, by have := hP g (h.blk g hg).1; omega⟩
 have ab := (Below.refl w.heap.size w).alloc (Nat.le_refl _) (.cells #[.string key, .string val, .int .i64 0] 73)
 have kb := heap_alloc_new w (.cells #[.string key, .string val, .int .i64 0] 73)
 have z0 : (w.alloc (.cells #[.string key, .string val, .int .i64 0] 73)).heap.size = N + 1 := by simp [hN]
 rw [hN] at kb
 have hbox0 := (ab.block L (by omega)).trans h.box
 have hrow1 := owns_below hrow0 ab
 have hPL := h.at'
 have hpg : ∃ pg, t.page = pg := ⟨_, rfl⟩
 obtain ⟨pg, hpg⟩ := hpg
 rw [hpg] at hbox0
 have HLEN : Hid (n = t.keys.length ∧ t.keys.zip (t.vals.zip t.over) = zs) := ⟨h.len, hzs⟩
 have hsoil := soil_any hbox0
 go_enter Try.func77, Try.ntmps77
 go_upto_region 1 with fail
 generalize w.alloc (.cells #[.string key, .string val, .int .i64 0] 73) = W0 at *
 clear hrow0 hzs h
 go_wp2_with fail
 refine hsoil.mono ?_
 rintro e W1 ⟨rfl, hW1⟩
 have f1 := fr_setT W0 L 0 (.int .i64 0)
 rw [← hW1] at f1
 have hbox1 : W1.heap[L]? = some (.cells #[.int .i64 0, .slice a n c] 78) := by rw [hW1]; simpa using heap_setT hbox0 0 (.int .i64 0)
 have kb1 := (f1.block N (by omega) (by omega)).trans kb
 have hrow2 := owns_fr hrow1 f1 (fun g hg e => (hblk0 g hg).2.1 e)
 have s1 := f1.size
 have F1 : Fr (fun b => P b ∨ N ≤ b) w W1 := (Fr.of_below ab).trans (f1.weak (fun g e => .inl (by rw [e]; exact hPL)))
 clear hW1 f1 hbox0 kb hrow1 hsoil ab
 have hsee : GLeaf W1 P { t with page := 0 } L a n c := by
  refine GML.see ⟨hPL, hbox1, by show W1.ownsRow 0 _ 3 _ n (rowsOf slCells (t.keys.zip (t.vals.zip t.over))); rw [HLEN.out.2]; exact hrow2, fun g hg => ⟨(hblk0 g hg).1, (hblk0 g hg).2.1⟩, HLEN.out.1⟩
 have hc := leafSearch_any hsee (by show SortT (t.keys.zip (t.vals.zip t.over)); rw [HLEN.out.2]; exact hs) (by omega) key
 have hc2 : Calls Try.prog 83 #[.pointer (some ⟨L, 0, none⟩), .string key] W1 fun e w' => SearchAns zs key W1 e w' := by
  have := hc
  simp only [HLEN.out.2] at this
  exact this
 obtain ⟨q0, q1, q2⟩ := box3w' kb1
 have lN1 : N < W1.heap.size := by omega
 clear hc hsee hs
 go_wp2_with fail
 refine hc2.mono ?_
 rintro e V ⟨i, bb, rfl, h1, h2, h3, hb⟩
 have hpos := pos_is key zs i h3
 have kbV := (hb.block N lN1).trans kb1
 have boxV := (hb.block L (by omega)).trans hbox1
 have rowV := owns_below hrow2 hb
 have sV := hb.size
 have FV : Fr (fun b => P b ∨ N ≤ b) w V := F1.trans (Fr.of_below hb)
 have hil := h3.1
 clear hc2 q0 q1 q2 kb1 hbox1 hrow2 F1 hb h3
 cases bb
 ·have HTH : Hid (putZ key val zs = zs.take i ++ (key, val, 0) :: zs.drop i) := by
   show _ = _
   have hno : thereT key zs = false := by
    unfold thereT
    rw [← hpos]
    simp only [decide_eq_false_iff_not, not_and]
    exact fun hi => h2 rfl i hi
   unfold putZ
   rw [hno, ← hpos]
   rfl
  clear h1 h2 hpos
  go_upto_region 5 with fail
  have hal : Below V.heap.size V (V.alloc (.cells #[.string key, .string val, .int .i64 0] 73)) := (Below.refl _ _).alloc (Nat.le_refl _) _
  have kA : (V.alloc (.cells #[.string key, .string val, .int .i64 0] 73)).drew.heap[V.heap.size]? = some (.cells #[.string key, .string val, .int .i64 0] 73) := heap_alloc_new V _
  have rowA : (V.alloc (.cells #[.string key, .string val, .int .i64 0] 73)).drew.ownsRow 0 73 3 (.slice a n c) n (rowsOf slCells zs) := owns_below rowV hal.drew
  have hins := insertSlot_any i n c V.heap.size a (rowsOf slCells zs) [.string key, .string val, .int .i64 0] _ rowA (by omega) (by omega) rfl kA (fun e => by have := (hblk0 _ e).2.2; omega) (by simp [Value.oneCell']) (slots_one zs)
  have hsA : (V.alloc (.cells #[.string key, .string val, .int .i64 0] 73)).drew.heap.size = V.heap.size + 1 := by show (V.alloc _).heap.size = _; simp
  have SBA : (V.alloc (.cells #[.string key, .string val, .int .i64 0] 73)).heap[N]? = some (.cells #[.string key, .string val, .int .i64 0] 73) := (hal.block N (by omega)).trans kbV
  have boxA : (V.alloc (.cells #[.string key, .string val, .int .i64 0] 73)).drew.heap[L]? = some (.cells #[.int .i64 0, .slice a n c] 78) := (hal.block L (by omega)).trans boxV
  have HFIN : Hid (∀ w4 a' c', w4.ownsRow 0 73 3 (.slice a' (n + 1) c') (n + 1) ((rowsOf slCells zs).take (i * 3) ++ [.string key, .string val, .int .i64 0] ++ (rowsOf slCells zs).drop (i * 3)) → (V.alloc (.cells #[.string key, .string val, .int .i64 0] 73)).drew.grownBy w4 (Value.slice a n c).ownBlock → ((Value.slice a' (n + 1) c').ownBlock = (Value.slice a n c).ownBlock ∨ ∀ g, (Value.slice a' (n + 1) c').ownBlock = some g → (V.alloc (.cells #[.string key, .string val, .int .i64 0] 73)).drew.heap.size ≤ g) → w4.heap[L]? = some (.cells #[.int .i64 0, .slice a n c] 78) ∧ w4.heap[N]? = some (.cells #[.string key, .string val, .int .i64 0] 73) ∧ PutAns w P (leafZ (putZ key val zs)) (.iface 74 (.pointer (some ⟨L, 0, none⟩))) (.returned (.tuple #[])) (w4.setCell ⟨L, 1, none⟩ (.slice a' (n + 1) c'))) := by
   intro w4 a' c' g1 g2 g3
   have b4 : w4.heap[L]? = some (.cells #[.int .i64 0, .slice a n c] 78) := (g2.block L (by omega) (fun e => (hblk0 L e.symm).2.1 rfl)).trans boxA
   have n4 : w4.heap[N]? = some (.cells #[.string key, .string val, .int .i64 0] 73) := (g2.block N (by omega) (fun e => by have := (hblk0 N e.symm).2.2; omega)).trans SBA
   refine ⟨b4, n4, ?_⟩
   have hlen : (putZ key val zs).length = n + 1 := by rw [HTH.out]; simp; omega
   have hst := fr_setT w4 L 1 (.slice a' (n + 1) c')
   have hg4 := g2.size
   have hnew : ∀ g, (Value.slice a' (n + 1) c').ownBlock = some g → (P g ∨ w.heap.size ≤ g) ∧ g ≠ L := fun g hg => by
    rcases g3 with e | e
    ·rw [e] at hg; exact ⟨.inl (hblk0 g hg).1, (hblk0 g hg).2.1⟩
    ·have := e g hg; exact ⟨.inr (by omega), by omega⟩
   refine leafPut_fin (a := a') (c := c') ?_ ?_ ?_ hPL ?_
   ·rw [hN]
    refine (FV.trans ((Fr.of_below hal.drew).trans (Fr.of_grown g2 (fun g hg => .inl (hblk0 g hg).1)))).trans (hst.weak (fun g e => .inl (by rw [e]; exact hPL)))
   ·rw [hlen]; simpa using heap_setT b4 1 (.slice a' (n + 1) c')
   ·rw [hlen]
    have hr : rowsOf slCells (putZ key val zs) = (rowsOf slCells zs).take (i * 3) ++ [.string key, .string val, .int .i64 0] ++ (rowsOf slCells zs).drop (i * 3) := by
     rw [HTH.out, rowsOf_append, rowsOf_takeG sl3, ← rowsOf_dropG sl3, List.append_assoc]
     rfl
    rw [hr]
    exact owns_fr g1 hst (fun g hg e => (hnew g hg).2 e)
   ·rw [hlen]; exact hnew
  have hSBl : N < V.heap.size := by omega
  have hLl : L < V.heap.size := by omega
  clear hblk0 rowA SBA rowV kA FV
  refine wp_region_noPanic ?_
  refine wp_region_held_drew (S := (fun w' : World => w'.heap[N]? = some (.cells #[.string key, .string val, .int .i64 0] 73))) (by kernel_rfl) (kbV) (fun hHeld => ?_)
  refine tkB (i := 0) (v := .pointer (some ⟨L, 0, none⟩)) .z (by kernel_rfl) (fun _ _ _ h => h) (Or.inl ⟨by rfl, ?_⟩) (by assumption) ?_
  ·intro wq hSw; (try dsimp only at hSw); go_simp
  try simp only [Act.put, q1, q2, q3]
  refine tkB (i := 1) (v := .pointer (some ⟨L, 0, none⟩)) (.s .z) (by kernel_rfl) (fun _ _ _ h => h) (Or.inl ⟨by rfl, ?_⟩) (by assumption) ?_
  ·intro wq hSw; (try dsimp only at hSw); go_simp
  try simp only [Act.put, q1, q2, q3]
  refine tkB (i := 2) (v := .pointer (some ⟨L, 0, none⟩)) (.s (.s .z)) (by kernel_rfl) (fun _ _ _ h => h) (Or.inl ⟨by rfl, ?_⟩) (by assumption) ?_
  ·intro wq hSw; (try dsimp only at hSw); go_simp
  try simp only [Act.put, q1, q2, q3]
  refine tkB (i := 3) (v := .pointer (some ⟨L, 1, none⟩)) (.s (.s (.s .z))) (by kernel_rfl) (fun _ _ _ h => h) (Or.inl ⟨by rfl, ?_⟩) (by assumption) ?_
  ·intro wq hSw; (try dsimp only at hSw); go_simp
  try simp only [Act.put, q1, q2, q3]
  refine tkB (i := 5) (v := .int .i64 (i : Int)) (.f .z) (by kernel_rfl) (fun _ _ _ h => h) (Or.inl ⟨by rfl, ?_⟩) (by assumption) ?_
  ·intro wq hSw; (try dsimp only at hSw); go_simp
  try simp only [Act.put, q1, q2, q3]
  refine tkB (i := 6) (v := .agg #[.string key, .string val, .int .i64 0]) (.f (.s .z)) (by kernel_rfl) (fun _ _ _ h => h) (Or.inl ⟨by rfl, ?_⟩) (by assumption) ?_
  ·intro wq hSw; (try dsimp only at hSw); obtain ⟨q0, q1, q2⟩ := box3w' hSw; go_simp
  try simp only [Act.put, q1, q2, q3]
  refine wpAnyH_ready (rs := [4, 7]) (by kernel_rfl) (by simp) ?_
  refine rdA (.s (.s (.s (.s .z)))) (fun K hK => ?_) ?_
  rotate_left 1
  refine rdA (.f (.s (.s .z))) (fun K hK => ?_) ?_
  rotate_left 1
  exact AllReadyH.nil
  ·obtain ⟨y0, y1⟩ := box_twoG boxV
   go_simp
   clear y0 y1
   refine hK.out _ _ (kbV) (fun hHeld => ?_)
   clear hK K
   try simp only [Act.put, q1, q2, q3]
   refine wpAnyH_ready (rs := [7]) (by kernel_rfl) (by simp) ?_
   refine rdA (.f (.s (.s .z))) (fun K hK => ?_) AllReadyH.nil
   go_simp
   refine hK.out _ _ ((hal.block N hSBl).trans kbV) (fun hHeld => ?_)
   clear hK K
   try simp only [Act.put, q1, q2, q3]
   refine wpAnyH_ready (rs := [8]) (by kernel_rfl) (by simp) ?_
   refine rdA (.f (.s (.s (.s .z)))) (fun K hK => ?_) AllReadyH.nil
   go_simp
   refine hins.mono ?_
   rintro e w4 ⟨a', c', rfl, g1, g2, g3⟩
   obtain ⟨b4, n4, hfin⟩ := HFIN.out w4 a' c' g1 g2 g3
   have HF2 : Hid _ := hfin
   clear g1 g2 g3 hfin HFIN hins
   go_wp2_with fail
   refine hK.out _ _ (n4) (fun hHeld => ?_)
   clear hK K
   try simp only [Act.put, q1, q2, q3]
   refine tkB (i := 9) (v := .pointer (some ⟨L, 0, none⟩)) (.f (.s (.s (.s (.s .z))))) (by kernel_rfl) (fun _ _ _ h => h) (Or.inl ⟨by rfl, ?_⟩) (by assumption) ?_
   ·intro wq hSw; (try dsimp only at hSw); go_simp
   try simp only [Act.put, q1, q2, q3]
   refine tkB (i := 10) (v := .pointer (some ⟨L, 1, none⟩)) (.t .z) (by kernel_rfl) (fun _ _ _ h => h) (Or.inl ⟨by rfl, ?_⟩) (by assumption) ?_
   ·intro wq hSw; (try dsimp only at hSw); go_simp
   try simp only [Act.put, q1, q2, q3]
   refine wpAnyH_ready (rs := [11]) (by kernel_rfl) (by simp) ?_
   refine rdA (.t (.s .z)) (fun K hK => ?_) AllReadyH.nil
   obtain ⟨y0, y1⟩ := box_twoG b4
   have ff := thawT b4
   have hl4 := (Array.getElem?_eq_some_iff.1 b4).1
   have SB5 := ((fr_setT w4 L 1 (.slice a' (n + 1) c')).block N (Array.getElem?_eq_some_iff.1 n4).1 (by omega)).trans n4
   go_simp
   clear y0 y1 ff
   refine hK.out _ _ (SB5) (fun hHeld => ?_)
   clear hK K
   try simp only [Act.put, q1, q2, q3]
   refine wpAnyH_done (by kernel_rfl) ?_ _
   refine NoPanic.normal ?_
   clear hHeld SB5 b4 n4
   go_wp2_with fail
   go_end0
   exact ⟨rfl, HF2.out.2⟩
  ·go_simp
   refine hK.out _ _ ((hal.block N hSBl).trans kbV) (fun hHeld => ?_)
   clear hK K
   try simp only [Act.put, q1, q2, q3]
   refine wpAnyH_ready (rs := [4]) (by kernel_rfl) (by simp) ?_
   refine rdA (.s (.s (.s (.s .z)))) (fun K hK => ?_) AllReadyH.nil
   obtain ⟨y0, y1⟩ := box_twoG boxA
   have hlA : L < V.heap.size + 1 := by omega
   go_simp
   clear y0 y1
   refine hK.out _ _ ((hal.block N hSBl).trans kbV) (fun hHeld => ?_)
   clear hK K
   try simp only [Act.put, q1, q2, q3]
   refine wpAnyH_ready (rs := [8]) (by kernel_rfl) (by simp) ?_
   refine rdA (.f (.s (.s (.s .z)))) (fun K hK => ?_) AllReadyH.nil
   go_simp
   refine hins.mono ?_
   rintro e w4 ⟨a', c', rfl, g1, g2, g3⟩
   obtain ⟨b4, n4, hfin⟩ := HFIN.out w4 a' c' g1 g2 g3
   have HF2 : Hid _ := hfin
   clear g1 g2 g3 hfin HFIN hins
   go_wp2_with fail
   refine hK.out _ _ (n4) (fun hHeld => ?_)
   clear hK K
   try simp only [Act.put, q1, q2, q3]
   refine tkB (i := 9) (v := .pointer (some ⟨L, 0, none⟩)) (.f (.s (.s (.s (.s .z))))) (by kernel_rfl) (fun _ _ _ h => h) (Or.inl ⟨by rfl, ?_⟩) (by assumption) ?_
   ·intro wq hSw; (try dsimp only at hSw); go_simp
   try simp only [Act.put, q1, q2, q3]
   refine tkB (i := 10) (v := .pointer (some ⟨L, 1, none⟩)) (.t .z) (by kernel_rfl) (fun _ _ _ h => h) (Or.inl ⟨by rfl, ?_⟩) (by assumption) ?_
   ·intro wq hSw; (try dsimp only at hSw); go_simp
   try simp only [Act.put, q1, q2, q3]
   refine wpAnyH_ready (rs := [11]) (by kernel_rfl) (by simp) ?_
   refine rdA (.t (.s .z)) (fun K hK => ?_) AllReadyH.nil
   obtain ⟨y0, y1⟩ := box_twoG b4
   have ff := thawT b4
   have hl4 := (Array.getElem?_eq_some_iff.1 b4).1
   have SB5 := ((fr_setT w4 L 1 (.slice a' (n + 1) c')).block N (Array.getElem?_eq_some_iff.1 n4).1 (by omega)).trans n4
   go_simp
   clear y0 y1 ff
   refine hK.out _ _ (SB5) (fun hHeld => ?_)
   clear hK K
   try simp only [Act.put, q1, q2, q3]
   refine wpAnyH_done (by kernel_rfl) ?_ _
   refine NoPanic.normal ?_
   clear hHeld SB5 b4 n4
   go_wp2_with fail
   go_end0
   exact ⟨rfl, HF2.out.2⟩
 ·have hi := (h1 rfl).1
  have HTH : Hid (putZ key val zs = zs.take i ++ (key, val, 0) :: zs.drop (i + 1)) := by
   show _ = _
   have hyes : thereT key zs = true := by
    unfold thereT
    rw [← hpos]
    simpa using h1 rfl
   unfold putZ
   rw [hyes, ← hpos]
   rfl
  rcases rowV.2 with ⟨_, e⟩ | ⟨b, cap, cur, e, _, hg, hnc, hcm, hcs, htk⟩
  ·omega
  simp only [Value.slice.injEq] at e
  obtain ⟨rfl, _, rfl⟩ := e
  have hbb := hblk0 b rfl
  have hin : i < n := by omega
  have hsome : ∀ r, r < 3 → ∃ u, V.cell? ⟨b, i * 3 + r, none⟩ = some u := fun r hr => ⟨_, by
   simp only [World.cell?, hg]
   exact Array.getElem?_eq_getElem (by rw [hcs]; omega)⟩
  obtain ⟨v0, d0⟩ := hsome 0 (by omega)
  rw [Nat.add_zero] at d0
  obtain ⟨v1, d1⟩ := hsome 1 (by omega)
  obtain ⟨v2, d2⟩ := hsome 2 (by omega)
  have ffb := thawT hg
  have HFIN : Hid (PutAns w P (leafZ (putZ key val zs)) (.iface 74 (.pointer (some ⟨L, 0, none⟩))) (.returned (.tuple #[])) (put3at V.drew b (i * 3) (.string key) (.string val) (.int .i64 0))) := by
   have rD : V.drew.ownsRow 0 73 3 (.slice (some ⟨b, 0, none⟩) n c) n (rowsOf slCells zs) := rowV
   have hst := put3at_fr V.drew b (i * 3) (.string key) (.string val) (.int .i64 0)
   have hlen : (putZ key val zs).length = n := by rw [HTH.out]; simp; omega
   refine leafPut_fin (a := some ⟨b, 0, none⟩) (c := c) ?_ ?_ ?_ hPL ?_
   ·rw [hN]
    exact (FV.trans (Fr.of_below ((Below.refl _ V).drew))).trans (hst.weak (fun g e => .inl (by rw [e]; exact hbb.1)))
   ·rw [hlen]; exact (hst.block L (by show L < V.heap.size; omega) (fun e => hbb.2.1 e.symm)).trans boxV
   ·rw [hlen]
    have hr : rowsOf slCells (putZ key val zs) = (rowsOf slCells zs).take (i * 3) ++ [.string key, .string val, .int .i64 0] ++ (rowsOf slCells zs).drop (i * 3 + 3) := by
     rw [HTH.out, rowsOf_append, rowsOf_takeG sl3, show i * 3 + 3 = (i + 1) * 3 by omega, ← rowsOf_dropG sl3, List.append_assoc]
     rfl
    rw [hr]
    exact put3at_row rD (by omega)
   ·rw [hlen]; exact fun g hg => ⟨.inl (hblk0 g hg).1, (hblk0 g hg).2.1⟩
  have hSBl : N < V.heap.size := by omega
  have hLl : L < V.heap.size := by omega
  have hbl : b < V.heap.size := by omega
  have hbN : b ≠ N := by omega
  have hbL := hbb.2.1
  clear hblk0 rowV FV h1 h2 hpos hsome hg hcs htk
  go_upto_region 4 with fail
  refine wp_region_noPanic ?_
  refine wp_region_held_drew (S := (fun w' : World => w'.heap[N]? = some (.cells #[.string key, .string val, .int .i64 0] 73) ∧ w'.heap[L]? = some (.cells #[.int .i64 0, .slice (some ⟨b, 0, none⟩) n c] 78))) (by kernel_rfl) (⟨kbV, boxV⟩) (fun hHeld => ?_)
  refine tkB (i := 0) (v := .pointer (some ⟨L, 0, none⟩)) .z (by kernel_rfl) (fun _ _ _ h => h) (Or.inl ⟨by rfl, ?_⟩) (by assumption) ?_
  ·intro wq hSw; (try dsimp only at hSw); go_simp
  try simp only [Act.put, q1, q2, q3]
  refine tkB (i := 1) (v := .pointer (some ⟨L, 0, none⟩)) (.s .z) (by kernel_rfl) (fun _ _ _ h => h) (Or.inl ⟨by rfl, ?_⟩) (by assumption) ?_
  ·intro wq hSw; (try dsimp only at hSw); go_simp
  try simp only [Act.put, q1, q2, q3]
  refine tkB (i := 2) (v := .pointer (some ⟨L, 1, none⟩)) (.s (.s .z)) (by kernel_rfl) (fun _ _ _ h => h) (Or.inl ⟨by rfl, ?_⟩) (by assumption) ?_
  ·intro wq hSw; (try dsimp only at hSw); go_simp
  try simp only [Act.put, q1, q2, q3]
  refine tkB (i := 3) (v := .slice (some ⟨b, 0, none⟩) n c) (.s (.s (.s .z))) (by kernel_rfl) (fun _ _ _ h => h) (Or.inl ⟨by rfl, ?_⟩) (by assumption) ?_
  ·intro wq hSw; (try dsimp only at hSw); obtain ⟨y0, y1⟩ := box_twoG hSw.2; go_simp
  try simp only [Act.put, q1, q2, q3]
  refine tkB (i := 4) (v := .int .i64 (i : Int)) (.s (.s (.s (.s .z)))) (by kernel_rfl) (fun _ _ _ h => h) (Or.inl ⟨by rfl, ?_⟩) (by assumption) ?_
  ·intro wq hSw; (try dsimp only at hSw); go_simp
  try simp only [Act.put, q1, q2, q3]
  refine tkB (i := 5) (v := .agg #[.string key, .string val, .int .i64 0]) (.f .z) (by kernel_rfl) (fun _ _ _ h => h) (Or.inl ⟨by rfl, ?_⟩) (by assumption) ?_
  ·intro wq hSw; (try dsimp only at hSw); obtain ⟨q0, q1, q2⟩ := box3w' hSw.1; go_simp
  try simp only [Act.put, q1, q2, q3]
  refine tkB (i := 6) (v := .pointer (some ⟨b, i * 3, none⟩)) (.f (.s .z)) (by kernel_rfl) (fun _ _ _ h => h) (Or.inl ⟨by rfl, ?_⟩) (by assumption) ?_
  ·intro wq hSw; (try dsimp only at hSw); go_simp
  try simp only [Act.put, q1, q2, q3]
  refine wpAnyH_ready (rs := [7]) (by kernel_rfl) (by simp) ?_
  refine rdA (.f (.s (.s .z))) (fun K hK => ?_) AllReadyH.nil
  go_simp
  have hst := put3at_fr V.drew b (i * 3) (.string key) (.string val) (.int .i64 0)
  refine hK.out _ _ (⟨(hst.block N hSBl (Ne.symm hbN)).trans kbV, (hst.block L hLl (Ne.symm hbL)).trans boxV⟩) (fun hHeld => ?_)
  clear hK K
  try simp only [Act.put, q1, q2, q3]
  refine wpAnyH_done (by kernel_rfl) ?_ _
  refine NoPanic.normal ?_
  go_wp2_with fail
  go_end0
  exact HFIN.out
end Go.Proofs.Ytcjjbajmjfgbcaa
